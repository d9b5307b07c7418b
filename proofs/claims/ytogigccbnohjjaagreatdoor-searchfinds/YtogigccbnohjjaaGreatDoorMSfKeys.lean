/-
  What all of the document's reader does, by what key does.
-/
import Derived.Test.YtogigccbnohjjaaGreatDoorBpSearchRow
namespace Go.Proofs.YtogigccbnohjjaaGreatDoor
open Go.RowKit Go.Proofs.Aid Go.Proofs.Sq Go.Proofs.Hd
set_option maxHeartbeats 8000000
set_option maxRecDepth 100000
def AlR (g : List Sr.Ar → Nat → Sr.Rs Sr.Ky) (T : Sr.Rs Sr.Ky) (acc : List Sr.Ky) (l : List Sr.Ar) (n E : Int) : Prop :=
 (E = 0 ∧ acc = [] ∧ ∃ c : Nat, n = (c : Int) ∧ c ≤ 60 ∧ T = Sr.keysF g l c) ∨ (E = 0 ∧ acc ≠ [] ∧ ∃ m c : Nat, n = (c : Int) ∧ T = (Sr.moreF g m acc l c).map Sr.joinK ∧ 62 ≤ c + m ∧ c ≤ 60 ∧ acc.length ≤ c) ∨ (E ≠ 0 ∧ acc ≠ [] ∧ acc.length ≤ 61 ∧ T = .bad E)
theorem AlR.bound {g : List Sr.Ar → Nat → Sr.Rs Sr.Ky} {T : Sr.Rs Sr.Ky} {acc : List Sr.Ky} {l : List Sr.Ar} {n : Int} (h : AlR g T acc l n 0) : 0 ≤ n ∧ n ≤ 60 ∧ acc.length ≤ 60 := by
 rcases h with ⟨_, rfl, c, rfl, h1, _⟩ | ⟨_, _, m, c, rfl, _, _, h1, h2⟩ | ⟨h, _⟩
 ·exact ⟨by omega, by omega, by simp⟩
 ·exact ⟨by omega, by omega, by omega⟩
 ·exact absurd rfl h
theorem al_step {g : List Sr.Ar → Nat → Sr.Rs Sr.Ky} (hG : Sr.Cnt g) {T : Sr.Rs Sr.Ky} {acc : List Sr.Ky} {l l' : List Sr.Ar} {n n' E' : Int} {k : Sr.Ky} (h : AlR g T acc l n 0) (hgo : acc = [] ∨ l ≠ []) (hr : RelK (atK g l n 0) k l' n' E') : AlR g T (acc ++ [k]) l' n' E' := by
 rcases h with ⟨_, rfl, c, rfl, h1, h2⟩ | ⟨_, hne, m, c, rfl, h2, h3, h1, h4⟩ | ⟨h, _⟩
 ·rw [atK_ok] at hr
  unfold Sr.keysF at h2
  cases hg : g l c with
  | bad x =>
   rw [hg] at hr h2
   obtain ⟨rfl, hx⟩ := hr
   exact Or.inr (Or.inr ⟨hx, by simp, by simp, h2⟩)
  | ok k1 l1 c1 =>
   rw [hg] at hr h2
   obtain ⟨rfl, rfl, rfl, rfl⟩ := hr
   have := hG _ _ _ _ _ hg
   exact Or.inr (Or.inl ⟨rfl, by simp, 61, c1, rfl, h2, by omega, this.2, by simp; omega⟩)
 ·rw [atK_ok] at hr
  obtain ⟨a, r, rfl⟩ : ∃ a r, l = a :: r := by
   rcases hgo with h | h
   ·exact absurd h hne
   ·exact List.exists_cons_of_ne_nil h
  obtain ⟨m, rfl⟩ : ∃ q, m = q + 1 := ⟨m - 1, by omega⟩
  rw [Sr.moreF] at h2
  cases hg : g (a :: r) c with
  | bad x =>
   rw [hg] at hr h2
   obtain ⟨rfl, hx⟩ := hr
   exact Or.inr (Or.inr ⟨hx, by simp, by simp; omega, h2⟩)
  | ok k1 l1 c1 =>
   rw [hg] at hr h2
   obtain ⟨rfl, rfl, rfl, rfl⟩ := hr
   have := hG _ _ _ _ _ hg
   exact Or.inr (Or.inl ⟨rfl, by simp, m, c1, rfl, h2, by omega, this.2, by simp; omega⟩)
 ·exact absurd rfl h
theorem al_end {g : List Sr.Ar → Nat → Sr.Rs Sr.Ky} {T : Sr.Rs Sr.Ky} {acc : List Sr.Ky} {l : List Sr.Ar} {n E : Int} (h : AlR g T acc l n E) (he : E ≠ 0 ∨ (acc ≠ [] ∧ l = [])) : RelK T (Sr.joinK acc) l n E := by
 rcases h with ⟨h0, rfl, _⟩ | ⟨rfl, hne, m, c, rfl, h2, h3, h1, h4⟩ | ⟨h, _, _, rfl⟩
 ·rcases he with he | he
  ·exact absurd h0 he
  ·exact absurd rfl he.1
 ·obtain rfl : l = [] := by
   rcases he with he | he
   ·exact absurd rfl he
   ·exact he.2
  have : T = .ok (Sr.joinK acc) [] c := by rw [h2]; cases m <;> rfl
  rw [this]
  exact ⟨rfl, rfl, rfl, rfl⟩
 ·exact ⟨rfl, h⟩
def OutAl (w : World) (kb : Nat) (R : Sr.Rs Sr.Ky) (e : Ending) (w' : World) : Prop :=
 ∃ (ys : List Value) (k : Sr.Ky) (l : List Sr.Ar) (n E : Int), e = .returned (.agg ys.toArray) ∧ Kx w' (fun q => w.heap.size ≤ q) k ys ∧ KyS w' kb n E ∧ But w.heap.size kb w w' ∧ RelK R k l n E
def AlAt (g : List Sr.Ar → Nat → Sr.Rs Sr.Ky) (T : Sr.Rs Sr.Ky) (kb B : Nat) (Ok : Nat → Prop) (w : World) (va : Option Addr) (N vc : Nat) (l : List Sr.Ar) (v : Value) (wr : World) : Prop :=
 ∃ (acc : List Sr.Ky) (n E : Int), acc.length = N ∧ AlR g T acc l n E ∧ KyS wr kb n E ∧ Ags wr Ok B l v ∧ But w.heap.size kb w wr ∧ KRow (w.heap.size + 1) acc (.slice va acc.length vc) wr ∧ wr.heap[w.heap.size]? = some (.cells #[.int .i64 0, .string ⟨#[]⟩, .string ⟨#[]⟩, .int .i64 0, .slice none 0 0, .slice none 0 0] 32 (0, 0)) ∧ w.heap.size + 1 ≤ wr.heap.size
theorem krow_nil (base : Nat) (w : World) : KRow base [] (.slice none 0 0) w := ⟨[], rfl, World.ownsRow_nil _ _ _ _, fun j k xs h => by simp at h, fun xs h => by simp at h⟩
theorem kall (kb B c : Nat) (D : Int) (l : List Sr.Ar) (v : Value) (Ok : Nat → Prop) (w : World) (g : List Sr.Ar → Nat → Sr.Rs Sr.Ky) (hr : KyS w kb (c : Int) 0) (hl : Ags w Ok B l v) (hO : ∀ k, Ok k → k ≠ kb ∧ k < w.heap.size) (hcc : c ≤ 60) (hG : Sr.Cnt g)
  (cK : ∀ W l' v' n E, KyS W kb n E → Ags W Ok B l' v' → But w.heap.size kb w W → (E = 0 → 0 ≤ n ∧ n ≤ 60) → Calls Tryz.prog 37 #[.pointer (some ⟨kb, 0, none⟩), v', .int .i64 D] W fun e w' => OutK W kb B Ok (atK g l' n E) e w') :
  Calls Tryz.prog 14 #[.pointer (some ⟨kb, 0, none⟩), v, .int .i64 D] w fun e w' => OutAl w kb (Sr.keysF g l c) e w' := by
 have hkb := hr.lt
 have b1 : Below w.heap.size w (w.alloc (.cells #[.int .i64 0, .string ⟨#[]⟩, .string ⟨#[]⟩, .int .i64 0, .slice none 0 0, .slice none 0 0] 32)) := (Below.refl _ _).alloc (Nat.le_refl _) _
 have e1 := heap_alloc_new w (.cells #[.int .i64 0, .string ⟨#[]⟩, .string ⟨#[]⟩, .int .i64 0, .slice none 0 0, .slice none 0 0] 32)
 obtain ⟨W1, hW1⟩ : ∃ W, w.alloc (.cells #[.int .i64 0, .string ⟨#[]⟩, .string ⟨#[]⟩, .int .i64 0, .slice none 0 0, .slice none 0 0] 32) = W := ⟨_, rfl⟩
 have z1 : W1.heap.size = w.heap.size + 1 := by rw [← hW1]; simp
 rw [hW1] at b1 e1
 obtain ⟨T, hT⟩ : ∃ T, Sr.keysF g l c = T := ⟨_, rfl⟩
 rw [hT]
 obtain ⟨la, lc, rfl⟩ := hl.form
 have HS : Hid (AlAt g T kb B Ok w none 0 0 l (.slice la l.length lc) W1) := ⟨[], (c : Int), 0, rfl, Or.inl ⟨rfl, rfl, c, rfl, hcc, hT.symm⟩, hr.kept (b1.block kb hkb), hl.kept fun k hk hlt => ⟨hk, b1.block k hlt⟩, to_but b1, krow_nil _ _, e1, by omega⟩
 have HKK : Hid (∀ W l' v' n E, KyS W kb n E → Ags W Ok B l' v' → But w.heap.size kb w W → (E = 0 → 0 ≤ n ∧ n ≤ 60) → Calls Tryz.prog 37 #[.pointer (some ⟨kb, 0, none⟩), v', .int .i64 D] W fun e w' => OutK W kb B Ok (atK g l' n E) e w') := cK
 have HGG : Hid (Sr.Cnt g) := hG
 have HO : Hid (∀ k, Ok k → k ≠ kb ∧ k < w.heap.size) := hO
 clear b1 e1 cK hG hO hr hl hT
 obtain ⟨j0, hj, hjz0, hjz1, hjz2⟩ := info_parts Tryz.infoKey
 obtain ⟨L0, hL0⟩ : ∃ L, l.length = L := ⟨_, rfl⟩
 rw [hL0] at HS ⊢
 clear hL0
 go_enter Tryz.func14, Tryz.ntmps14
 go_wp2_with fail
 go_loopw [1, 7] (fun lv s wr => ∃ la L lc va N vc l, lv = .slice la L lc ∧ s = .slice va N vc ∧ AlAt g T kb B Ok w va N vc l (.slice la L lc) wr) (fun _ s _ => 62 - sliceLen s)
 case atStart => exact ⟨_, _, _, _, _, _, _, rfl, rfl, HS.out⟩
 case round =>
  obtain ⟨la, L, lc, va, N, vc, l3, rfl, rfl, hks⟩ := hrel
  clear HS hW1 z1
  obtain ⟨acc, n, E, hN, hrel, hr, hl, hb, hrow, hE, hsz⟩ := hks
  have hLL : L = l3.length := by
   obtain ⟨a, c, h⟩ := hl.form
   injection h
  have p1 : wr.cell? ⟨kb, 1, none⟩ = some (.int .i64 E) := rd_cell hr rfl
  by_cases hE0 : E = 0
  ·subst hE0
   by_cases hN0 : N = 0
   ·have hacc : acc = [] := List.eq_nil_of_length_eq_zero (by rw [hN, hN0])
    have iN0 : ((N : Int) == 0) = true := by rw [hN0]; rfl
    have hstop : True := trivial
    clear hN0
    clear hLL
    have hbd := hrel.bound
    have b4 : Below wr.heap.size wr (wr.alloc (.cells #[.int .i64 0, .string ⟨#[]⟩, .string ⟨#[]⟩, .int .i64 0, .slice none 0 0, .slice none 0 0] 32)) := (Below.refl _ _).alloc (Nat.le_refl _) _
    have e4 := heap_alloc_new wr (.cells #[.int .i64 0, .string ⟨#[]⟩, .string ⟨#[]⟩, .int .i64 0, .slice none 0 0, .slice none 0 0] 32)
    obtain ⟨W4, hW4⟩ : ∃ W, wr.alloc (.cells #[.int .i64 0, .string ⟨#[]⟩, .string ⟨#[]⟩, .int .i64 0, .slice none 0 0, .slice none 0 0] 32) = W := ⟨_, rfl⟩
    have z4 : W4.heap.size = wr.heap.size + 1 := by rw [← hW4]; simp
    rw [hW4] at b4 e4
    have cQ := HKK.out W4 l3 _ n 0 (hr.kept (b4.block kb (by omega))) (hl.kept fun k hk hlt => ⟨hk, b4.block k hlt⟩) (hb.trans (to_but (b4.mono (by omega)))) (fun _ => ⟨hbd.1, hbd.2.1⟩)
    have hst := fun k l' n' E' => al_step (k := k) (l' := l') (n' := n') (E' := E') HGG.out hrel (Or.inl hacc)
    have HST : Hid (∀ k l' n' E', RelK (atK g l3 n 0) k l' n' E' → AlR g T (acc ++ [k]) l' n' E') := hst
    have HX4 : Hid (Below wr.heap.size wr W4 ∧ W4.heap[wr.heap.size]? = some (.cells #[.int .i64 0, .string ⟨#[]⟩, .string ⟨#[]⟩, .int .i64 0, .slice none 0 0, .slice none 0 0] 32 (0, 0)) ∧ W4.heap.size = wr.heap.size + 1) := ⟨b4, e4, z4⟩
    have HBW : Hid (But w.heap.size kb w wr) := hb
    have HRW : Hid (KRow (w.heap.size + 1) acc (.slice va acc.length vc) wr) := hrow
    have HEW : Hid (wr.heap[w.heap.size]? = some (.cells #[.int .i64 0, .string ⟨#[]⟩, .string ⟨#[]⟩, .int .i64 0, .slice none 0 0, .slice none 0 0] 32 (0, 0))) := hE
    have HNN : Hid (acc.length = N ∧ N ≤ 60) := ⟨hN, by rw [← hN]; exact hbd.2.2⟩
    have hN60 : N ≤ 60 := by rw [← hN]; exact hbd.2.2
    clear hr hl hb hrow hE hN hrel hst b4 e4 hstop hbd
    go_wp2_with fail
    refine cQ.mono ?_
    rintro e w5 ⟨ys, v5, k5, l5, n5, E5, rfl, hk5, hl5, hr5, hb5, hrel5⟩
    clear cQ
    obtain ⟨x0, x3, x1, x2, xa, xk, xc, ya, yk, yc, rfl⟩ := kx_cells hk5
    have hta : ([.int .i64 x0, .string x1, .string x2, .int .i64 x3, .slice xa xk xc, .slice ya yk yc] : List Value).toArray = #[.int .i64 x0, .string x1, .string x2, .int .i64 x3, .slice xa xk xc, .slice ya yk yc] := rfl
    rw [hta]
    obtain ⟨b4, e4, z4'⟩ := HX4.out
    have hs5 := hb5.size
    have e5 := (hb5.block wr.heap.size (by omega) (by omega)).trans e4
    obtain ⟨XB, hXB⟩ : ∃ X, wr.heap.size = X := ⟨_, rfl⟩
    rw [hXB] at e5
    obtain ⟨⟨a0, a1, a2, a3, a4, a5⟩, ⟨af0, af1, af2, af3, af4, af5⟩, _⟩ := six_facts e5 (.int .i64 x0) (.string x1) (.string x2) (.int .i64 x3) (.slice xa xk xc) (.slice ya yk yc)
    have e6 := six_set e5 (.int .i64 x0) (.string x1) (.string x2) (.int .i64 x3) (.slice xa xk xc) (.slice ya yk yc)
    obtain ⟨W6, hW6⟩ : ∃ W, ((((((w5.setCell ⟨XB, 0, none⟩ (.int .i64 x0)).setCell ⟨XB, 1, none⟩ (.string x1)).setCell ⟨XB, 2, none⟩ (.string x2)).setCell ⟨XB, 3, none⟩ (.int .i64 x3)).setCell ⟨XB, 4, none⟩ (.slice xa xk xc)).setCell ⟨XB, 5, none⟩ (.slice ya yk yc)) = W := ⟨_, rfl⟩
    have hfar6 : ∀ q, q ≠ XB → W6.heap[q]? = w5.heap[q]? := fun q hq => by rw [← hW6, six_other _ hq]
    have hbx6 : But XB kb w5 W6 := by rw [← hW6]; exact six_but (to_but (Below.refl _ _)) (Nat.le_refl _) _ _ _ _ _ _
    have z6 : W6.heap.size = w5.heap.size := by rw [← hW6]; simp
    rw [hW6] at e6
    have y0 := rd_cell (j := 0) e6 rfl
    have y1 := rd_cell (j := 1) e6 rfl
    have y2 := rd_cell (j := 2) e6 rfl
    have y3 := rd_cell (j := 3) e6 rfl
    have y4 := rd_cell (j := 4) e6 rfl
    have y5 := rd_cell (j := 5) e6 rfl
    have hold : ∀ q, q < XB → q ≠ kb → W6.heap[q]? = wr.heap[q]? := fun q hq hne => (hfar6 q (by omega)).trans ((hb5.block q (by omega) hne).trans (b4.block q (by omega)))
    obtain ⟨rows, hrl, hown, hsx, h6⟩ := HRW.out.kept (w' := W6) fun q hq hlt => hold q (by omega) (by omega)
    have hoz : ∀ q, (Value.slice va acc.length vc).ownBlock = some q → q < XB ∧ w.heap.size + 1 ≤ q := fun q hq => by
     obtain ⟨_, _, h, _⟩ := HRW.out
     exact ⟨by have := (h.lt q hq).2; omega, (h.lt q hq).1⟩
    rw [HNN.out.1] at hown
    have b7 : Below W6.heap.size W6 (W6.alloc (.cells #[.int .i64 x0, .string x1, .string x2, .int .i64 x3, .slice xa xk xc, .slice ya yk yc] 32)) := (Below.refl _ _).alloc (Nat.le_refl _) _
    have hnews := World.news_of_block (heap_alloc_new W6 (.cells #[.int .i64 x0, .string x1, .string x2, .int .i64 x3, .slice xa xk xc, .slice ya yk yc] 32))
    have HSX : Hid (rows.length = acc.length ∧ (∀ (j : Nat) k xs, acc[j]? = some k → rows[j]? = some xs → Kx W6 (fun q => w.heap.size + 1 ≤ q ∧ (Value.slice va acc.length vc).ownBlock ≠ some q) k xs) ∧ ∀ xs ∈ rows, xs.length = 6) := ⟨hrl, hsx, h6⟩
    have HOZ : Hid (∀ q, (Value.slice va acc.length vc).ownBlock = some q → q < XB ∧ w.heap.size + 1 ≤ q) := hoz
    have HK5 : Hid (Kx W6 (fun q => XB + 1 ≤ q) k5 [.int .i64 x0, .string x1, .string x2, .int .i64 x3, .slice xa xk xc, .slice ya yk yc]) := hk5.kept fun q hq hlt => ⟨by omega, hfar6 q (by omega)⟩
    have HX5 : Hid (KyS W6 kb n5 E5 ∧ Ags W6 Ok B l5 v5 ∧ But w.heap.size kb w W6 ∧ W6.heap[w.heap.size]? = some (.cells #[.int .i64 0, .string ⟨#[]⟩, .string ⟨#[]⟩, .int .i64 0, .slice none 0 0, .slice none 0 0] 32 (0, 0)) ∧ AlR g T (acc ++ [k5]) l5 n5 E5) :=
     ⟨hr5.kept (hfar6 kb (by omega)), hl5.kept fun q hq _ => ⟨hq, hfar6 q (by have := (HO.out q hq).2; omega)⟩, ((HBW.out.trans (to_but (b4.mono (by omega)))).trans (hb5.less (by omega))).trans (hbx6.less (by omega)), (hold _ (by omega) (by omega)).trans HEW.out, HST.out _ _ _ _ hrel5⟩
    have HB7 : Hid (Below W6.heap.size W6 (W6.alloc (.cells #[.int .i64 x0, .string x1, .string x2, .int .i64 x3, .slice xa xk xc, .slice ya yk yc] 32))) := b7
    have hws : w.heap.size + 1 ≤ W6.heap.size := by omega
    have hxs : w.heap.size + 1 ≤ XB := by omega
    have HXB : Hid (wr.heap.size = XB) := hXB
    clear z6 hta hrl hsx h6 hoz hk5 hr5 hl5 hb5 b4 e4 e5 e6 b7 hfar6 hbx6 hold hrel5 HX4 HST HBW HRW HEW
    go_wp2_with (at_builtin; go_must (refine wpList_append_lies _ rfl (.tmp 31) (.tmp 33) 30 rfl (w.heap.size + 1) 32 j0 (.agg #[.int .i64 0, .string ⟨#[]⟩, .string ⟨#[]⟩, .int .i64 0, .slice none 0 0, .slice none 0 0]) 6 96 Tryz.underlying30 hj hjz0 hjz1 hjz2 rfl (by decide) _ _ _ (by rfl) (hown.alloc _) ⟨W6.heap.size, 0, none⟩ 1 1 [.int .i64 x0, .string x1, .string x2, .int .i64 x3, .slice xa xk xc, .slice ya yk yc] (by rfl) rfl hnews (by simp [Value.oneCell']) (by decide) (by unfold maxLen; omega) (by omega) (by simp; omega) _ rfl ?_); intro g6 cap6 w6 hown6 hg6 hor6 hlt6)
    have hp := KRow.push (base := w.heap.size + 1) (z := XB + 1) (ks := acc) (va := va) (vc := vc) (w := W6) (k := k5) (rows := rows) HSX.out.1 HSX.out.2.1 HSX.out.2.2 (by omega) (fun q hq => by have := (HOZ.out q hq).1; omega) HK5.out HB7.out (by rw [HNN.out.1]; exact hown6) (by rw [HNN.out.1]; exact hg6) (by rw [HNN.out.1]; exact hor6)
    rw [HNN.out.1] at hp
    have hfar : ∀ q, q < W6.heap.size → q < w.heap.size + 1 → w6.heap[q]? = W6.heap[q]? := fun q h1 h2 => hp.2 q h1 (fun e => by have := (HOZ.out q (by rw [HNN.out.1]; exact e.symm)).2; omega)
    have HS6 : Hid (AlAt g T kb B Ok w (some ⟨g6, 0, none⟩) (N + 1) cap6 l5 v5 w6) := by
     refine ⟨acc ++ [k5], n5, E5, by rw [List.length_append, HNN.out.1]; rfl, HX5.out.2.2.2.2, HX5.out.1.kept (hfar kb (by omega) (by omega)), HX5.out.2.1.kept fun q hq _ => ⟨hq, hfar q (by have := (HO.out q hq).2; omega) (by have := (HO.out q hq).2; omega)⟩, ?_, ?_, ?_, ?_⟩
     ·refine HX5.out.2.2.1.trans ⟨hg6.os.trans HB7.out.os, hg6.tape.trans HB7.out.tape, hg6.output.trans HB7.out.output, Nat.le_trans HB7.out.size hg6.size, fun q hq _ => hfar q (by omega) (by omega)⟩
     ·rw [List.length_append, HNN.out.1]; exact hp.1
     ·exact (hfar _ (by omega) (by omega)).trans HX5.out.2.2.2.1
     ·have := HB7.out.size; have := hg6.size; omega
    clear hown6 hg6 hor6 hp hfar hown
    obtain ⟨la5, lc5, hv5⟩ := HX5.out.2.1.form
    subst hv5
    go_roundw
    case rel => exact ⟨_, _, _, _, _, _, _, rfl, rfl, HS6.out⟩
    case measure => simp [sliceLen]; omega
   ·have hne : acc ≠ [] := fun h => hN0 (by rw [← hN, h]; rfl)
    have iN0 : ((N : Int) == 0) = false := by simp; omega
    by_cases hL : L = 0
    ·subst hL
     obtain rfl : l3 = [] := List.eq_nil_of_length_eq_zero hLL.symm
     have hstop : True := trivial
     clear hLL
     have HR : Hid (RelK T (Sr.joinK acc) [] n 0) := al_end hrel (Or.inr ⟨hne, rfl⟩)
     have HX : Hid (KyS wr kb n 0 ∧ But w.heap.size kb w wr) := ⟨hr, hb⟩
     by_cases hN1 : N = 1
     ·subst hN1
      obtain ⟨k1, rfl⟩ : ∃ k1, acc = [k1] := List.length_eq_one_iff.1 hN
      obtain ⟨rows, hrk, hrc⟩ := hrow.cells
      have hk1 := hrk 0 k1 rfl
      obtain ⟨b, o, rfl, hbb, hcl⟩ : ∃ b o, va = some ⟨b, o, none⟩ ∧ w.heap.size + 1 ≤ b ∧ ∀ i x, (rows 0)[i]? = some x → wr.cell? ⟨b, o + i, none⟩ = some x := by
       rcases hrc with h | ⟨b, o, h1, h2, h3⟩
       ·cases h
       ·exact ⟨b, o, h1, h2, fun i x hx => by have := h3 0 k1 rfl i x hx; rw [Nat.zero_mul, Nat.add_zero] at this; exact this⟩
      generalize rows 0 = xs at hk1 hcl
      obtain ⟨x0, x3, x1, x2, xa, xk, xc, ya, yk, yc, rfl⟩ := kx_cells hk1
      have l0 := hcl 0 _ rfl
      have l1 := hcl 1 _ rfl
      have l2 := hcl 2 _ rfl
      have l3' := hcl 3 _ rfl
      have l4 := hcl 4 _ rfl
      have l5 := hcl 5 _ rfl
      rw [Nat.add_zero] at l0
      obtain ⟨⟨s0, s1, s2, s3, s4, s5⟩, ⟨sf0, sf1, sf2, sf3, sf4, sf5⟩, v0, v1, v2, v3', v4, v5⟩ := six_facts hE (.int .i64 x0) (.string x1) (.string x2) (.int .i64 x3) (.slice xa xk xc) (.slice ya yk yc)
      have HKX : Hid (Kx wr (fun q => w.heap.size + 1 ≤ q) k1 [.int .i64 x0, .string x1, .string x2, .int .i64 x3, .slice xa xk xc, .slice ya yk yc]) := hk1
      clear hne hk1 hrk hrc hcl hrow hE hr hl hb hrel hN hstop HKK HO
      go_wp2_with fail
      refine bodyPost_ret (v := .agg #[.int .i64 x0, .string x1, .string x2, .int .i64 x3, .slice xa xk xc, .slice ya yk yc]) (by simp [results, Tryz.results14, go_sem, v0, v1, v2, v3', v4, v5]) rfl ?_
      exact ⟨_, k1, [], n, 0, rfl, HKX.out.kept fun q hq hlt => ⟨by omega, six_other _ (by omega) _ _ _ _ _ _⟩, HX.out.1.kept (six_other _ (by omega) _ _ _ _ _ _), six_but HX.out.2 (Nat.le_refl _) _ _ _ _ _ _, HR.out⟩
     ·have iN : ((N : Int) == 1) = false := by simp; omega
      have hj2 : Sr.joinK acc = .mk 15 [] [] 0 [] acc := by
       rcases acc with _ | ⟨k1, _ | ⟨k2, acc⟩⟩
       ·simp at hN; omega
       ·simp at hN; omega
       ·rfl
      have hka := hrow.all
      rw [← hj2, hN] at hka
      obtain ⟨⟨s0, s1, s2, s3, s4, s5⟩, ⟨sf0, sf1, sf2, sf3, sf4, sf5⟩, v0, v1, v2, v3', v4, v5⟩ := six_facts hE (.int .i64 15) (.string ⟨#[]⟩) (.string ⟨#[]⟩) (.int .i64 0) (.slice none 0 0) (.slice va N vc)
      have HKX : Hid (Kx wr (fun q => w.heap.size + 1 ≤ q) (Sr.joinK acc) [.int .i64 15, .string ⟨#[]⟩, .string ⟨#[]⟩, .int .i64 0, .slice none 0 0, .slice va N vc]) := hka
      clear hne hka hj2 hrow hE hr hl hb hrel hN hstop HKK HO
      go_wp2_with fail
      refine bodyPost_ret (v := .agg #[.int .i64 15, .string ⟨#[]⟩, .string ⟨#[]⟩, .int .i64 0, .slice none 0 0, .slice va N vc]) (by simp [results, Tryz.results14, go_sem, v0, v1, v2, v3', v4, v5]) rfl ?_
      exact ⟨_, Sr.joinK acc, [], n, 0, rfl, HKX.out.kept fun q hq hlt => ⟨by omega, six_other _ (by omega) _ _ _ _ _ _⟩, HX.out.1.kept (six_other _ (by omega) _ _ _ _ _ _), six_but HX.out.2 (Nat.le_refl _) _ _ _ _ _ _, HR.out⟩
    ·have hL1 : (0 : Int) < (L : Int) := by omega
     have hl3 : l3 ≠ [] := fun h => hL (by rw [hLL, h]; rfl)
     have hstop : True := trivial
     clear hLL
     have hbd := hrel.bound
     have b4 : Below wr.heap.size wr (wr.alloc (.cells #[.int .i64 0, .string ⟨#[]⟩, .string ⟨#[]⟩, .int .i64 0, .slice none 0 0, .slice none 0 0] 32)) := (Below.refl _ _).alloc (Nat.le_refl _) _
     have e4 := heap_alloc_new wr (.cells #[.int .i64 0, .string ⟨#[]⟩, .string ⟨#[]⟩, .int .i64 0, .slice none 0 0, .slice none 0 0] 32)
     obtain ⟨W4, hW4⟩ : ∃ W, wr.alloc (.cells #[.int .i64 0, .string ⟨#[]⟩, .string ⟨#[]⟩, .int .i64 0, .slice none 0 0, .slice none 0 0] 32) = W := ⟨_, rfl⟩
     have z4 : W4.heap.size = wr.heap.size + 1 := by rw [← hW4]; simp
     rw [hW4] at b4 e4
     have cQ := HKK.out W4 l3 _ n 0 (hr.kept (b4.block kb (by omega))) (hl.kept fun k hk hlt => ⟨hk, b4.block k hlt⟩) (hb.trans (to_but (b4.mono (by omega)))) (fun _ => ⟨hbd.1, hbd.2.1⟩)
     have hst := fun k l' n' E' => al_step (k := k) (l' := l') (n' := n') (E' := E') HGG.out hrel (Or.inr hl3)
     have HST : Hid (∀ k l' n' E', RelK (atK g l3 n 0) k l' n' E' → AlR g T (acc ++ [k]) l' n' E') := hst
     have HX4 : Hid (Below wr.heap.size wr W4 ∧ W4.heap[wr.heap.size]? = some (.cells #[.int .i64 0, .string ⟨#[]⟩, .string ⟨#[]⟩, .int .i64 0, .slice none 0 0, .slice none 0 0] 32 (0, 0)) ∧ W4.heap.size = wr.heap.size + 1) := ⟨b4, e4, z4⟩
     have HBW : Hid (But w.heap.size kb w wr) := hb
     have HRW : Hid (KRow (w.heap.size + 1) acc (.slice va acc.length vc) wr) := hrow
     have HEW : Hid (wr.heap[w.heap.size]? = some (.cells #[.int .i64 0, .string ⟨#[]⟩, .string ⟨#[]⟩, .int .i64 0, .slice none 0 0, .slice none 0 0] 32 (0, 0))) := hE
     have HNN : Hid (acc.length = N ∧ N ≤ 60) := ⟨hN, by rw [← hN]; exact hbd.2.2⟩
     have hN60 : N ≤ 60 := by rw [← hN]; exact hbd.2.2
     clear hr hl hb hrow hE hN hrel hst b4 e4 hstop hbd
     go_wp2_with fail
     refine cQ.mono ?_
     rintro e w5 ⟨ys, v5, k5, l5, n5, E5, rfl, hk5, hl5, hr5, hb5, hrel5⟩
     clear cQ
     obtain ⟨x0, x3, x1, x2, xa, xk, xc, ya, yk, yc, rfl⟩ := kx_cells hk5
     have hta : ([.int .i64 x0, .string x1, .string x2, .int .i64 x3, .slice xa xk xc, .slice ya yk yc] : List Value).toArray = #[.int .i64 x0, .string x1, .string x2, .int .i64 x3, .slice xa xk xc, .slice ya yk yc] := rfl
     rw [hta]
     obtain ⟨b4, e4, z4'⟩ := HX4.out
     have hs5 := hb5.size
     have e5 := (hb5.block wr.heap.size (by omega) (by omega)).trans e4
     obtain ⟨XB, hXB⟩ : ∃ X, wr.heap.size = X := ⟨_, rfl⟩
     rw [hXB] at e5
     obtain ⟨⟨a0, a1, a2, a3, a4, a5⟩, ⟨af0, af1, af2, af3, af4, af5⟩, _⟩ := six_facts e5 (.int .i64 x0) (.string x1) (.string x2) (.int .i64 x3) (.slice xa xk xc) (.slice ya yk yc)
     have e6 := six_set e5 (.int .i64 x0) (.string x1) (.string x2) (.int .i64 x3) (.slice xa xk xc) (.slice ya yk yc)
     obtain ⟨W6, hW6⟩ : ∃ W, ((((((w5.setCell ⟨XB, 0, none⟩ (.int .i64 x0)).setCell ⟨XB, 1, none⟩ (.string x1)).setCell ⟨XB, 2, none⟩ (.string x2)).setCell ⟨XB, 3, none⟩ (.int .i64 x3)).setCell ⟨XB, 4, none⟩ (.slice xa xk xc)).setCell ⟨XB, 5, none⟩ (.slice ya yk yc)) = W := ⟨_, rfl⟩
     have hfar6 : ∀ q, q ≠ XB → W6.heap[q]? = w5.heap[q]? := fun q hq => by rw [← hW6, six_other _ hq]
     have hbx6 : But XB kb w5 W6 := by rw [← hW6]; exact six_but (to_but (Below.refl _ _)) (Nat.le_refl _) _ _ _ _ _ _
     have z6 : W6.heap.size = w5.heap.size := by rw [← hW6]; simp
     rw [hW6] at e6
     have y0 := rd_cell (j := 0) e6 rfl
     have y1 := rd_cell (j := 1) e6 rfl
     have y2 := rd_cell (j := 2) e6 rfl
     have y3 := rd_cell (j := 3) e6 rfl
     have y4 := rd_cell (j := 4) e6 rfl
     have y5 := rd_cell (j := 5) e6 rfl
     have hold : ∀ q, q < XB → q ≠ kb → W6.heap[q]? = wr.heap[q]? := fun q hq hne => (hfar6 q (by omega)).trans ((hb5.block q (by omega) hne).trans (b4.block q (by omega)))
     obtain ⟨rows, hrl, hown, hsx, h6⟩ := HRW.out.kept (w' := W6) fun q hq hlt => hold q (by omega) (by omega)
     have hoz : ∀ q, (Value.slice va acc.length vc).ownBlock = some q → q < XB ∧ w.heap.size + 1 ≤ q := fun q hq => by
      obtain ⟨_, _, h, _⟩ := HRW.out
      exact ⟨by have := (h.lt q hq).2; omega, (h.lt q hq).1⟩
     rw [HNN.out.1] at hown
     have b7 : Below W6.heap.size W6 (W6.alloc (.cells #[.int .i64 x0, .string x1, .string x2, .int .i64 x3, .slice xa xk xc, .slice ya yk yc] 32)) := (Below.refl _ _).alloc (Nat.le_refl _) _
     have hnews := World.news_of_block (heap_alloc_new W6 (.cells #[.int .i64 x0, .string x1, .string x2, .int .i64 x3, .slice xa xk xc, .slice ya yk yc] 32))
     have HSX : Hid (rows.length = acc.length ∧ (∀ (j : Nat) k xs, acc[j]? = some k → rows[j]? = some xs → Kx W6 (fun q => w.heap.size + 1 ≤ q ∧ (Value.slice va acc.length vc).ownBlock ≠ some q) k xs) ∧ ∀ xs ∈ rows, xs.length = 6) := ⟨hrl, hsx, h6⟩
     have HOZ : Hid (∀ q, (Value.slice va acc.length vc).ownBlock = some q → q < XB ∧ w.heap.size + 1 ≤ q) := hoz
     have HK5 : Hid (Kx W6 (fun q => XB + 1 ≤ q) k5 [.int .i64 x0, .string x1, .string x2, .int .i64 x3, .slice xa xk xc, .slice ya yk yc]) := hk5.kept fun q hq hlt => ⟨by omega, hfar6 q (by omega)⟩
     have HX5 : Hid (KyS W6 kb n5 E5 ∧ Ags W6 Ok B l5 v5 ∧ But w.heap.size kb w W6 ∧ W6.heap[w.heap.size]? = some (.cells #[.int .i64 0, .string ⟨#[]⟩, .string ⟨#[]⟩, .int .i64 0, .slice none 0 0, .slice none 0 0] 32 (0, 0)) ∧ AlR g T (acc ++ [k5]) l5 n5 E5) :=
      ⟨hr5.kept (hfar6 kb (by omega)), hl5.kept fun q hq _ => ⟨hq, hfar6 q (by have := (HO.out q hq).2; omega)⟩, ((HBW.out.trans (to_but (b4.mono (by omega)))).trans (hb5.less (by omega))).trans (hbx6.less (by omega)), (hold _ (by omega) (by omega)).trans HEW.out, HST.out _ _ _ _ hrel5⟩
     have HB7 : Hid (Below W6.heap.size W6 (W6.alloc (.cells #[.int .i64 x0, .string x1, .string x2, .int .i64 x3, .slice xa xk xc, .slice ya yk yc] 32))) := b7
     have hws : w.heap.size + 1 ≤ W6.heap.size := by omega
     have hxs : w.heap.size + 1 ≤ XB := by omega
     have HXB : Hid (wr.heap.size = XB) := hXB
     clear z6 hta hrl hsx h6 hoz hk5 hr5 hl5 hb5 b4 e4 e5 e6 b7 hfar6 hbx6 hold hrel5 HX4 HST HBW HRW HEW
     go_wp2_with (at_builtin; go_must (refine wpList_append_lies _ rfl (.tmp 31) (.tmp 33) 30 rfl (w.heap.size + 1) 32 j0 (.agg #[.int .i64 0, .string ⟨#[]⟩, .string ⟨#[]⟩, .int .i64 0, .slice none 0 0, .slice none 0 0]) 6 96 Tryz.underlying30 hj hjz0 hjz1 hjz2 rfl (by decide) _ _ _ (by rfl) (hown.alloc _) ⟨W6.heap.size, 0, none⟩ 1 1 [.int .i64 x0, .string x1, .string x2, .int .i64 x3, .slice xa xk xc, .slice ya yk yc] (by rfl) rfl hnews (by simp [Value.oneCell']) (by decide) (by unfold maxLen; omega) (by omega) (by simp; omega) _ rfl ?_); intro g6 cap6 w6 hown6 hg6 hor6 hlt6)
     have hp := KRow.push (base := w.heap.size + 1) (z := XB + 1) (ks := acc) (va := va) (vc := vc) (w := W6) (k := k5) (rows := rows) HSX.out.1 HSX.out.2.1 HSX.out.2.2 (by omega) (fun q hq => by have := (HOZ.out q hq).1; omega) HK5.out HB7.out (by rw [HNN.out.1]; exact hown6) (by rw [HNN.out.1]; exact hg6) (by rw [HNN.out.1]; exact hor6)
     rw [HNN.out.1] at hp
     have hfar : ∀ q, q < W6.heap.size → q < w.heap.size + 1 → w6.heap[q]? = W6.heap[q]? := fun q h1 h2 => hp.2 q h1 (fun e => by have := (HOZ.out q (by rw [HNN.out.1]; exact e.symm)).2; omega)
     have HS6 : Hid (AlAt g T kb B Ok w (some ⟨g6, 0, none⟩) (N + 1) cap6 l5 v5 w6) := by
      refine ⟨acc ++ [k5], n5, E5, by rw [List.length_append, HNN.out.1]; rfl, HX5.out.2.2.2.2, HX5.out.1.kept (hfar kb (by omega) (by omega)), HX5.out.2.1.kept fun q hq _ => ⟨hq, hfar q (by have := (HO.out q hq).2; omega) (by have := (HO.out q hq).2; omega)⟩, ?_, ?_, ?_, ?_⟩
      ·refine HX5.out.2.2.1.trans ⟨hg6.os.trans HB7.out.os, hg6.tape.trans HB7.out.tape, hg6.output.trans HB7.out.output, Nat.le_trans HB7.out.size hg6.size, fun q hq _ => hfar q (by omega) (by omega)⟩
      ·rw [List.length_append, HNN.out.1]; exact hp.1
      ·exact (hfar _ (by omega) (by omega)).trans HX5.out.2.2.2.1
      ·have := HB7.out.size; have := hg6.size; omega
     clear hown6 hg6 hor6 hp hfar hown
     obtain ⟨la5, lc5, hv5⟩ := HX5.out.2.1.form
     subst hv5
     go_roundw
     case rel => exact ⟨_, _, _, _, _, _, _, rfl, rfl, HS6.out⟩
     case measure => simp [sliceLen]; omega
  ·have i1 : (E == 0) = false := by simpa using hE0
   have hN0 : N ≠ 0 := fun h => by
    have h0 : acc = [] := List.eq_nil_of_length_eq_zero (by rw [hN, h])
    rcases hrel with ⟨q, _⟩ | ⟨q, _⟩ | ⟨_, q, _⟩
    ·exact hE0 q
    ·exact hE0 q
    ·exact q h0
   have hstop : True := trivial
   clear hLL
   have HR : Hid (RelK T (Sr.joinK acc) l3 n E) := al_end hrel (Or.inl hE0)
   have HX : Hid (KyS wr kb n E ∧ But w.heap.size kb w wr) := ⟨hr, hb⟩
   by_cases hN1 : N = 1
   ·subst hN1
    obtain ⟨k1, rfl⟩ : ∃ k1, acc = [k1] := List.length_eq_one_iff.1 hN
    obtain ⟨rows, hrk, hrc⟩ := hrow.cells
    have hk1 := hrk 0 k1 rfl
    obtain ⟨b, o, rfl, hbb, hcl⟩ : ∃ b o, va = some ⟨b, o, none⟩ ∧ w.heap.size + 1 ≤ b ∧ ∀ i x, (rows 0)[i]? = some x → wr.cell? ⟨b, o + i, none⟩ = some x := by
     rcases hrc with h | ⟨b, o, h1, h2, h3⟩
     ·cases h
     ·exact ⟨b, o, h1, h2, fun i x hx => by have := h3 0 k1 rfl i x hx; rw [Nat.zero_mul, Nat.add_zero] at this; exact this⟩
    generalize rows 0 = xs at hk1 hcl
    obtain ⟨x0, x3, x1, x2, xa, xk, xc, ya, yk, yc, rfl⟩ := kx_cells hk1
    have l0 := hcl 0 _ rfl
    have l1 := hcl 1 _ rfl
    have l2 := hcl 2 _ rfl
    have l3' := hcl 3 _ rfl
    have l4 := hcl 4 _ rfl
    have l5 := hcl 5 _ rfl
    rw [Nat.add_zero] at l0
    obtain ⟨⟨s0, s1, s2, s3, s4, s5⟩, ⟨sf0, sf1, sf2, sf3, sf4, sf5⟩, v0, v1, v2, v3', v4, v5⟩ := six_facts hE (.int .i64 x0) (.string x1) (.string x2) (.int .i64 x3) (.slice xa xk xc) (.slice ya yk yc)
    have HKX : Hid (Kx wr (fun q => w.heap.size + 1 ≤ q) k1 [.int .i64 x0, .string x1, .string x2, .int .i64 x3, .slice xa xk xc, .slice ya yk yc]) := hk1
    clear hE0 hk1 hrk hrc hcl hrow hE hr hl hb hrel hN hstop HKK HO
    go_wp2_with fail
    refine bodyPost_ret (v := .agg #[.int .i64 x0, .string x1, .string x2, .int .i64 x3, .slice xa xk xc, .slice ya yk yc]) (by simp [results, Tryz.results14, go_sem, v0, v1, v2, v3', v4, v5]) rfl ?_
    exact ⟨_, k1, l3, n, E, rfl, HKX.out.kept fun q hq hlt => ⟨by omega, six_other _ (by omega) _ _ _ _ _ _⟩, HX.out.1.kept (six_other _ (by omega) _ _ _ _ _ _), six_but HX.out.2 (Nat.le_refl _) _ _ _ _ _ _, HR.out⟩
   ·have iN : ((N : Int) == 1) = false := by simp; omega
    have hj2 : Sr.joinK acc = .mk 15 [] [] 0 [] acc := by
     rcases acc with _ | ⟨k1, _ | ⟨k2, acc⟩⟩
     ·simp at hN; omega
     ·simp at hN; omega
     ·rfl
    have hka := hrow.all
    rw [← hj2, hN] at hka
    obtain ⟨⟨s0, s1, s2, s3, s4, s5⟩, ⟨sf0, sf1, sf2, sf3, sf4, sf5⟩, v0, v1, v2, v3', v4, v5⟩ := six_facts hE (.int .i64 15) (.string ⟨#[]⟩) (.string ⟨#[]⟩) (.int .i64 0) (.slice none 0 0) (.slice va N vc)
    have HKX : Hid (Kx wr (fun q => w.heap.size + 1 ≤ q) (Sr.joinK acc) [.int .i64 15, .string ⟨#[]⟩, .string ⟨#[]⟩, .int .i64 0, .slice none 0 0, .slice va N vc]) := hka
    clear hE0 hka hj2 hrow hE hr hl hb hrel hN hstop HKK HO
    go_wp2_with fail
    refine bodyPost_ret (v := .agg #[.int .i64 15, .string ⟨#[]⟩, .string ⟨#[]⟩, .int .i64 0, .slice none 0 0, .slice va N vc]) (by simp [results, Tryz.results14, go_sem, v0, v1, v2, v3', v4, v5]) rfl ?_
    exact ⟨_, Sr.joinK acc, l3, n, E, rfl, HKX.out.kept fun q hq hlt => ⟨by omega, six_other _ (by omega) _ _ _ _ _ _⟩, HX.out.1.kept (six_other _ (by omega) _ _ _ _ _ _), six_but HX.out.2 (Nat.le_refl _) _ _ _ _ _ _, HR.out⟩
end Go.Proofs.YtogigccbnohjjaaGreatDoor
