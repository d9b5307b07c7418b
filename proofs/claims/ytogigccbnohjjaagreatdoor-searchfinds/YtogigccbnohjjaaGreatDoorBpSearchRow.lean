/-
  Keys in a row that grows, and more.
-/
import Derived.Test.YtogigccbnohjjaaGreatDoorBpSfOne
namespace Go.Proofs.YtogigccbnohjjaaGreatDoor
open Go.RowKit Go.Proofs.Aid Go.Proofs.Sq Go.Proofs.Hd
def KRow (base : Nat) (ks : List Sr.Ky) (v : Value) (w : World) : Prop :=
 ∃ rows : List (List Value), rows.length = ks.length ∧ w.ownsRow base 32 6 v ks.length rows.flatten ∧
  (∀ (j : Nat) k xs, ks[j]? = some k → rows[j]? = some xs → Kx w (fun q => base ≤ q ∧ v.ownBlock ≠ some q) k xs) ∧ (∀ xs ∈ rows, xs.length = 6)
theorem KRow.kept {base : Nat} {ks : List Sr.Ky} {v : Value} {w w' : World} (h : KRow base ks v w) (hk : ∀ q, base ≤ q → q < w.heap.size → w'.heap[q]? = w.heap[q]?) : KRow base ks v w' := by
 obtain ⟨rows, h2, h3, h4, h5⟩ := h
 exact ⟨rows, h2, own_same h3 fun g hg => hk g (h3.lt g hg).1 (h3.lt g hg).2, fun j p xs hj hx => (h4 j p xs hj hx).kept fun q hq hlt => ⟨hq, hk q hq.1 hlt⟩, h5⟩
theorem KRow.lit {base : Nat} {k : Sr.Ky} {xs : List Value} {w : World} (h : Kx w (fun q => base ≤ q) k xs) (hb : base ≤ w.heap.size) : KRow base [k] (.slice (some ⟨w.heap.size, 0, none⟩) 1 1) (w.alloc (.cells xs.toArray 32)) := by
 refine ⟨[xs], rfl, ?_, fun j q ys hj hy => ?_, fun ys hy => ?_⟩
 ·have := World.ownsRow_lit (base := base) (e := 32) (size := 6) w xs.toArray 1 hb (by decide) (by simpa using h.length)
  simpa using this
 ·have hj0 : j = 0 := by
   have := (List.getElem?_eq_some_iff.1 hj).1
   simp at this
   exact this
  subst hj0
  obtain rfl : k = q := by simpa using hj
  obtain rfl : xs = ys := by simpa using hy
  have hbl : Below w.heap.size w (w.alloc (.cells xs.toArray 32)) := (Below.refl _ _).alloc (Nat.le_refl _) _
  refine h.kept fun q hq hlt => ⟨⟨hq, fun e => ?_⟩, hbl.block q hlt⟩
  injection e with e
  have e' : w.heap.size = q := e
  omega
 ·rw [List.mem_singleton.1 hy]; exact h.length
theorem KRow.cells {base : Nat} {ks : List Sr.Ky} {va : Option Addr} {vc : Nat} {w : World} (h : KRow base ks (.slice va ks.length vc) w) :
  ∃ rows : Nat → List Value, (∀ (j : Nat) k, ks[j]? = some k → Kx w (fun q => base ≤ q) k (rows j)) ∧ (ks = [] ∨ ∃ b o, va = some ⟨b, o, none⟩ ∧ base ≤ b ∧ ∀ (j : Nat) k, ks[j]? = some k → ∀ i x, (rows j)[i]? = some x → w.cell? ⟨b, o + j * 6 + i, none⟩ = some x) := by
 obtain ⟨rows, hl, hrow, hsx, h6⟩ := h
 have hjr : ∀ j : Nat, j < ks.length → rows[j]? = some (rows.getD j []) := fun j hj => by
  rw [List.getD_eq_getElem?_getD, List.getElem?_eq_getElem (by rw [hl]; exact hj)]; rfl
 refine ⟨fun j => rows.getD j [], fun j k hjk => (hsx j k _ hjk (hjr j (List.getElem?_eq_some_iff.1 hjk).1)).kept fun q hq _ => ⟨hq.1, rfl⟩, ?_⟩
 by_cases hps : ks = []
 ·exact Or.inl hps
 ·right
  have hk0 : ks.length ≠ 0 := fun e => hps (List.eq_nil_of_length_eq_zero e)
  obtain ⟨g2, cap2, hv2⟩ := row_some hrow hk0
  injection hv2 with hva _ _
  subst hva
  refine ⟨g2, 0, rfl, (hrow.lt g2 rfl).1, fun j p hjp i x hx => ?_⟩
  change (rows.getD j [])[i]? = some x at hx
  have hjk := (List.getElem?_eq_some_iff.1 hjp).1
  have hx6 : i < 6 := by
   have h7 := h6 _ (List.mem_of_getElem? (hjr j hjk))
   have := (List.getElem?_eq_some_iff.1 hx).1
   omega
  rw [Nat.zero_add, hrow.cellAt (j * 6 + i) (by omega), flat_get h6 (hjr j hjk) hx6]
  exact hx
theorem KRow.all {base : Nat} {ks : List Sr.Ky} {va : Option Addr} {vc : Nat} {w : World} (h : KRow base ks (.slice va ks.length vc) w) :
  Kx w (fun q => base ≤ q) (.mk 15 [] [] 0 [] ks) [.int .i64 15, .string ⟨#[]⟩, .string ⟨#[]⟩, .int .i64 0, .slice none 0 0, .slice va ks.length vc] := by
 obtain ⟨rows, h1, h2⟩ := h.cells
 exact Kx.mk 15 0 ⟨#[]⟩ ⟨#[]⟩ [] (.slice none 0 0) ks va vc rows (StS.nil _ _) h1 h2
theorem KRow.push {base z : Nat} {ks : List Sr.Ky} {va : Option Addr} {vc : Nat} {w W w' : World} {g cap : Nat} {k : Sr.Ky} {xs : List Value} {rows : List (List Value)}
  (hl : rows.length = ks.length)
  (hsx : ∀ (j : Nat) k xs, ks[j]? = some k → rows[j]? = some xs → Kx w (fun q => base ≤ q ∧ (Value.slice va ks.length vc).ownBlock ≠ some q) k xs) (h6 : ∀ xs ∈ rows, xs.length = 6)
  (hz : base ≤ z) (hoz : ∀ q, (Value.slice va ks.length vc).ownBlock = some q → q < z) (hk : Kx w (fun q => z ≤ q) k xs) (hW : Below w.heap.size w W)
  (hown : w'.ownsRow base 32 6 (.slice (some ⟨g, 0, none⟩) (ks.length + 1) cap) (ks.length + 1) (rows.flatten ++ xs)) (hg : W.grownBy w' (Value.slice va ks.length vc).ownBlock) (hor : (Value.slice va ks.length vc).ownBlock = some g ∨ g = W.heap.size) :
  KRow base (ks ++ [k]) (.slice (some ⟨g, 0, none⟩) (ks.length + 1) cap) w' ∧ ∀ q, q < w.heap.size → some q ≠ (Value.slice va ks.length vc).ownBlock → w'.heap[q]? = w.heap[q]? := by
 have far : ∀ q, q < w.heap.size → some q ≠ (Value.slice va ks.length vc).ownBlock → w'.heap[q]? = w.heap[q]? := fun q hq h1 =>
  (hg.block q (Nat.lt_of_lt_of_le hq hW.size) h1).trans (hW.block q hq)
 have hog : ∀ q, q < w.heap.size → some q ≠ (Value.slice va ks.length vc).ownBlock → q ≠ g := fun q hq h1 e => by
  subst e
  rcases hor with h | h
  ·exact h1 h.symm
  ·have := hW.size; omega
 have hlen : (ks ++ [k]).length = ks.length + 1 := by simp
 refine ⟨⟨rows ++ [xs], by simp [hl], ?_, ?_, ?_⟩, far⟩
 ·rw [hlen, List.flatten_append, List.flatten_cons, List.flatten_nil, List.append_nil]
  exact hown
 ·intro j p' xs' hjp hjx
  by_cases hjk : j < ks.length
  ·rw [List.getElem?_append_left hjk] at hjp
   rw [List.getElem?_append_left (by rw [hl]; exact hjk)] at hjx
   refine (hsx j p' xs' hjp hjx).kept fun q hq hlt => ⟨⟨hq.1, fun e => ?_⟩, far q hlt (Ne.symm hq.2)⟩
   injection e with e
   exact hog q hlt (Ne.symm hq.2) e.symm
  ·have hjl : j < (ks ++ [k]).length := (List.getElem?_eq_some_iff.1 hjp).1
   obtain rfl : j = ks.length := by rw [hlen] at hjl; omega
   rw [List.getElem?_append_right (Nat.le_refl _), Nat.sub_self] at hjp
   rw [List.getElem?_append_right (by rw [hl]; exact Nat.le_refl _), hl, Nat.sub_self] at hjx
   obtain rfl : k = p' := by simpa using hjp
   obtain rfl := Option.some.inj hjx
   have hown9 : ∀ q, z ≤ q → some q ≠ (Value.slice va ks.length vc).ownBlock := fun q hq e => by have := hoz q e.symm; omega
   refine hk.kept fun q hq hlt => ⟨⟨by omega, fun e => ?_⟩, far q hlt (hown9 q hq)⟩
   injection e with e
   exact hog q hlt (hown9 q hq) e.symm
 ·intro xs' hxs
  rcases List.mem_append.1 hxs with h | h
  ·exact h6 xs' h
  ·rw [List.mem_singleton.1 h]; exact hk.length
end Go.Proofs.YtogigccbnohjjaaGreatDoor
namespace Go.Proofs.YtogigccbnohjjaaGreatDoor
open Go.RowKit Go.Proofs.Aid Go.Proofs.Sq Go.Proofs.Hd
set_option maxHeartbeats 4000000
set_option maxRecDepth 100000
theorem Tryz.infoKey : (Tryz.prog.info? 32).map (fun i => (i.zero, i.size, i.bytes)) = some (some (.agg #[.int .i64 0, .string ⟨#[]⟩, .string ⟨#[]⟩, .int .i64 0, .slice none 0 0, .slice none 0 0]), 6, 96) := by kernel_rfl
def sliceLen : Value → Nat
 | .slice _ n _ => n
 | _ => 0
def KsAt (g : List Sr.Ar → Nat → Sr.Rs Sr.Ky) (T : Sr.Rs Sr.Ky) (rb B : Nat) (Ok : Nat → Prop) (w : World) (va : Option Addr) (N vc : Nat) (l : List Sr.Ar) (v : Value) (wr : World) : Prop :=
 ∃ (n : Nat) (acc : List Sr.Ky) (c : Nat), acc.length = N ∧ T = (Sr.moreF g n acc l c).map Sr.joinK ∧ 62 ≤ c + n ∧ c ≤ 60 ∧ N ≤ c ∧ 1 ≤ N ∧ RdS wr rb v c ∧ Ags wr Ok B l v ∧ But w.heap.size rb w wr ∧
  KRow (w.heap.size + 1) acc (.slice va acc.length vc) wr ∧ wr.heap[w.heap.size]? = some (.cells #[.int .i64 0, .string ⟨#[]⟩, .string ⟨#[]⟩, .int .i64 0, .slice none 0 0, .slice none 0 0] 32 (0, 0)) ∧ w.heap.size + 1 ≤ wr.heap.size
theorem keys_is (rb c B d : Nat) (l : List Sr.Ar) (v : Value) (Ok : Nat → Prop) (w : World) (g : List Sr.Ar → Nat → Sr.Rs Sr.Ky) (hr : RdS w rb v c) (hl : Ags w Ok B l v) (hrb : rb < w.heap.size) (hO : ∀ k, Ok k → k ≠ rb ∧ k < w.heap.size)
  (hcc : c ≤ 60) (hG : ∀ l c k l' c', g l c = .ok k l' c' → c < c' ∧ c' ≤ 60)
  (cK : ∀ W l' c' v', RdS W rb v' c' → Ags W Ok B l' v' → But w.heap.size rb w W → c' ≤ 60 → Calls Tryz.prog 38 #[.pointer (some ⟨rb, 0, none⟩), .int .i64 (d : Int)] W fun e w' => Out W rb B Ok (g l' c') e w') :
  Calls Tryz.prog 17 #[.pointer (some ⟨rb, 0, none⟩), .int .i64 (d : Int)] w fun e w' => Out w rb B Ok (Sr.keysF g l c) e w' := by
 have b1 : Below w.heap.size w (w.alloc (.cells #[.int .i64 0, .string ⟨#[]⟩, .string ⟨#[]⟩, .int .i64 0, .slice none 0 0, .slice none 0 0] 32)) := (Below.refl _ _).alloc (Nat.le_refl _) _
 have e1 := heap_alloc_new w (.cells #[.int .i64 0, .string ⟨#[]⟩, .string ⟨#[]⟩, .int .i64 0, .slice none 0 0, .slice none 0 0] 32)
 obtain ⟨W1, hW1⟩ : ∃ W, w.alloc (.cells #[.int .i64 0, .string ⟨#[]⟩, .string ⟨#[]⟩, .int .i64 0, .slice none 0 0, .slice none 0 0] 32) = W := ⟨_, rfl⟩
 have z1 : W1.heap.size = w.heap.size + 1 := by rw [← hW1]; simp
 rw [hW1] at b1 e1
 have cQ := cK W1 l c v (hr.kept (b1.block rb hrb)) (hl.kept fun k hk hlt => ⟨hk, b1.block k hlt⟩) (to_but b1) hcc
 obtain ⟨T, hT⟩ : ∃ T, Sr.keysF g l c = T := ⟨_, rfl⟩
 rw [hT]
 rw [Sr.keysF] at hT
 have HB1 : Hid (Below w.heap.size w W1) := b1
 have HE1 : Hid (W1.heap[w.heap.size]? = some (.cells #[.int .i64 0, .string ⟨#[]⟩, .string ⟨#[]⟩, .int .i64 0, .slice none 0 0, .slice none 0 0] 32 (0, 0))) := e1
 have HZ : Hid (W1.heap.size = w.heap.size + 1) := z1
 have HK : Hid (∀ W l' c' v', RdS W rb v' c' → Ags W Ok B l' v' → But w.heap.size rb w W → c' ≤ 60 → Calls Tryz.prog 38 #[.pointer (some ⟨rb, 0, none⟩), .int .i64 (d : Int)] W fun e w' => Out W rb B Ok (g l' c') e w') := cK
 have HG : Hid (∀ l c k l' c', g l c = .ok k l' c' → c < c' ∧ c' ≤ 60) := hG
 have HO : Hid (∀ k, Ok k → k ≠ rb ∧ k < w.heap.size) := hO
 clear b1 e1 cK hG hO hr hl
 obtain ⟨j0, hj, hjz0, hjz1, hjz2⟩ := info_parts Tryz.infoKey
 obtain ⟨R, hR⟩ : ∃ R, g l c = R := ⟨_, rfl⟩
 rw [hR] at cQ hT
 go_enter Tryz.func17, Tryz.ntmps17
 go_wp2_with fail
 refine cQ.mono ?_
 intro e w2 h2
 clear cQ
 cases R with
 | bad n =>
  subst hT
  obtain ⟨rfl, hb2⟩ := h2
  have HB2 : Hid (But W1.heap.size rb W1 w2) := hb2
  clear hb2
  unfold thrown
  go_wp2_with fail
  exact ⟨rfl, rfl, (to_but HB1.out).trans (HB2.out.less (by have := HZ.out; omega))⟩
 | ok k l2 c2 =>
  have hc2 := HG.out _ _ _ _ _ hR
  obtain ⟨ys, v2, rfl, hk2, hr2, hl2, hb2⟩ := h2
  obtain ⟨x0, x3, x1, x2, xa, xk, xc, ya, yk, yc, rfl⟩ := kx_cells hk2
  have hta : ([.int .i64 x0, .string x1, .string x2, .int .i64 x3, .slice xa xk xc, .slice ya yk yc] : List Value).toArray = #[.int .i64 x0, .string x1, .string x2, .int .i64 x3, .slice xa xk xc, .slice ya yk yc] := rfl
  rw [hta]
  have hz := HZ.out
  have hs2 := hb2.size
  have b3 : Below w2.heap.size w2 (w2.alloc (.cells #[.int .i64 x0, .string x1, .string x2, .int .i64 x3, .slice xa xk xc, .slice ya yk yc] 32)) := (Below.refl _ _).alloc (Nat.le_refl _) _
  have hrow := KRow.lit (base := w.heap.size + 1) (by rw [hz] at hk2; exact hk2) (by omega)
  rw [hta] at hrow
  obtain ⟨W3, hW3⟩ : ∃ W, w2.alloc (.cells #[.int .i64 x0, .string x1, .string x2, .int .i64 x3, .slice xa xk xc, .slice ya yk yc] 32) = W := ⟨_, rfl⟩
  rw [hW3] at b3 hrow
  have z3 := b3.size
  have HS : Hid (KsAt g T rb B Ok w (some ⟨w2.heap.size, 0, none⟩) 1 1 l2 v2 W3) :=
   ⟨61, [k], c2, rfl, hT.symm, by omega, hc2.2, by omega, Nat.le_refl _, hr2.kept (b3.block rb (by omega)), hl2.kept fun q hq hlt => ⟨hq, b3.block q hlt⟩, ((to_but HB1.out).trans (hb2.less (by omega))).trans (to_but (b3.mono (by omega))), hrow, (b3.block w.heap.size (by omega)).trans ((hb2.block w.heap.size (by omega) (by omega)).trans HE1.out), by omega⟩
  clear hta hs2 b3 hrow z3 hk2 hr2 hl2 hb2 hT hc2
  go_wp2_with fail
  go_loopw [5] (fun s wr => ∃ va N vc l v, s = .slice va N vc ∧ KsAt g T rb B Ok w va N vc l v wr) (fun s _ => 61 - sliceLen s)
  case atStart => exact ⟨_, _, _, _, _, rfl, HS.out⟩
  case round =>
   obtain ⟨va, N, vc, l3, v3, rfl, hks⟩ := hrel
   clear HS hW1 hW3 z1 hz hR HB1 HE1 HZ
   obtain ⟨n, acc, c4, hN, hT, h62, h60, hNc, h1N, hr, hl, hb, hrow, hE, hsz⟩ := hks
   obtain ⟨a3, cc3, rfl⟩ := hl.form
   have p0 : wr.cell? ⟨rb, 0, none⟩ = some (.slice a3 l3.length cc3) := rd_cell hr rfl
   cases l3 with
   | nil =>
    rw [List.length_nil] at p0 hr hl
    have hT2 : T = .ok (Sr.joinK acc) [] c4 := by rw [hT]; cases n <;> rfl
    subst hT2
    have HX : Hid (RdS wr rb (.slice a3 0 cc3) c4 ∧ Ags wr Ok B [] (.slice a3 0 cc3) ∧ But w.heap.size rb w wr) := ⟨hr, hl, hb⟩
    by_cases hN1 : N = 1
    ·subst hN1
     obtain ⟨k1, rfl⟩ : ∃ k1, acc = [k1] := List.length_eq_one_iff.1 hN
     obtain ⟨rows, hrk, hrc⟩ := hrow.cells
     have hk1 := hrk 0 k1 rfl
     obtain ⟨b, o, rfl, hbb, hcl⟩ : ∃ b o, va = some ⟨b, o, none⟩ ∧ w.heap.size + 1 ≤ b ∧ ∀ i x, (rows 0)[i]? = some x → wr.cell? ⟨b, o + i, none⟩ = some x := by
      rcases hrc with h | ⟨b, o, h1, h2, h3⟩
      ·cases h
      ·exact ⟨b, o, h1, h2, fun i x hx => by have := h3 0 k1 rfl i x hx; rw [Nat.zero_mul, Nat.add_zero] at this; exact this⟩
     generalize rows 0 = xs at hk1 hcl
     obtain ⟨x0, x3, x1, x2, xa, xk, xc, ya, yk, yc, rfl⟩ := kx_cells hk1
     have l0 := hcl 0 _ rfl
     have l1 := hcl 1 _ rfl
     have l2 := hcl 2 _ rfl
     have l3 := hcl 3 _ rfl
     have l4 := hcl 4 _ rfl
     have l5 := hcl 5 _ rfl
     rw [Nat.add_zero] at l0
     obtain ⟨⟨s0, s1, s2, s3, s4, s5⟩, ⟨sf0, sf1, sf2, sf3, sf4, sf5⟩, v0, v1, v2, v3', v4, v5⟩ := six_facts hE (.int .i64 x0) (.string x1) (.string x2) (.int .i64 x3) (.slice xa xk xc) (.slice ya yk yc)
     have HKX : Hid (Kx wr (fun q => w.heap.size + 1 ≤ q) k1 [.int .i64 x0, .string x1, .string x2, .int .i64 x3, .slice xa xk xc, .slice ya yk yc]) := hk1
     clear hk1 hrk hrc hcl hrow hE hr hl hb hT h62 hN
     go_wp2_with fail
     refine bodyPost_ret (v := .agg #[.int .i64 x0, .string x1, .string x2, .int .i64 x3, .slice xa xk xc, .slice ya yk yc]) (by simp [results, Tryz.results17, go_sem, v0, v1, v2, v3', v4, v5]) rfl ?_
     exact ⟨_, .slice a3 0 cc3, rfl, HKX.out.kept fun q hq hlt => ⟨by omega, six_other _ (by omega) _ _ _ _ _ _⟩, HX.out.1.kept (six_other _ (by omega) _ _ _ _ _ _), HX.out.2.1.kept fun q hq _ => ⟨hq, six_other _ (by have := (HO.out q hq).2; omega) _ _ _ _ _ _⟩, six_but HX.out.2.2 (Nat.le_refl _) _ _ _ _ _ _⟩
    ·have iN : ((N : Int) == 1) = false := by simp; omega
     have hj2 : Sr.joinK acc = .mk 15 [] [] 0 [] acc := by
      rcases acc with _ | ⟨k1, _ | ⟨k2, acc⟩⟩
      ·simp at hN; omega
      ·simp at hN; omega
      ·rfl
     have hka := hrow.all
     rw [← hj2, hN] at hka
     obtain ⟨⟨s0, s1, s2, s3, s4, s5⟩, ⟨sf0, sf1, sf2, sf3, sf4, sf5⟩, v0, v1, v2, v3', v4, v5⟩ := six_facts hE (.int .i64 15) (.string ⟨#[]⟩) (.string ⟨#[]⟩) (.int .i64 0) (.slice none 0 0) (.slice va N vc)
     have HKX : Hid (Kx wr (fun q => w.heap.size + 1 ≤ q) (Sr.joinK acc) [.int .i64 15, .string ⟨#[]⟩, .string ⟨#[]⟩, .int .i64 0, .slice none 0 0, .slice va N vc]) := hka
     clear hka hj2 hrow hE hr hl hb hT h62 hN
     go_wp2_with fail
     refine bodyPost_ret (v := .agg #[.int .i64 15, .string ⟨#[]⟩, .string ⟨#[]⟩, .int .i64 0, .slice none 0 0, .slice va N vc]) (by simp [results, Tryz.results17, go_sem, v0, v1, v2, v3', v4, v5]) rfl ?_
     exact ⟨_, .slice a3 0 cc3, rfl, HKX.out.kept fun q hq hlt => ⟨by omega, six_other _ (by omega) _ _ _ _ _ _⟩, HX.out.1.kept (six_other _ (by omega) _ _ _ _ _ _), HX.out.2.1.kept fun q hq _ => ⟨hq, six_other _ (by have := (HO.out q hq).2; omega) _ _ _ _ _ _⟩, six_but HX.out.2.2 (Nat.le_refl _) _ _ _ _ _ _⟩
   | cons a r =>
    obtain ⟨m, rfl⟩ : ∃ m, n = m + 1 := ⟨n - 1, by omega⟩
    rw [Sr.moreF] at hT
    have cQ := HK.out wr (a :: r) c4 _ hr hl hb h60
    obtain ⟨L, hL⟩ : ∃ L, (a :: r).length = L + 1 := ⟨r.length, rfl⟩
    rw [hL] at p0
    obtain ⟨R, hR⟩ : ∃ R, g (a :: r) c4 = R := ⟨_, rfl⟩
    rw [hR] at cQ hT
    have HR : Hid (g (a :: r) c4 = R) := hR
    have HTT : Hid (T = (R.then fun k l c => Sr.moreF g m (acc ++ [k]) l c).map Sr.joinK) := hT
    have HBW : Hid (But w.heap.size rb w wr) := hb
    have HRW : Hid (KRow (w.heap.size + 1) acc (.slice va acc.length vc) wr) := hrow
    have HEW : Hid (wr.heap[w.heap.size]? = some (.cells #[.int .i64 0, .string ⟨#[]⟩, .string ⟨#[]⟩, .int .i64 0, .slice none 0 0, .slice none 0 0] 32 (0, 0))) := hE
    have HNN : Hid (acc.length = N) := hN
    clear hR hT hb hrow hE hN hr hl hL
    go_wp2_with fail
    refine cQ.mono ?_
    intro e w5 h5
    clear cQ
    cases R with
    | bad n =>
     have hTT : T = .bad n := HTT.out
     subst hTT
     obtain ⟨rfl, hb5⟩ := h5
     have HB5 : Hid (But wr.heap.size rb wr w5) := hb5
     clear hb5
     unfold thrown
     go_wp2_with fail
     exact ⟨rfl, rfl, HBW.out.trans (HB5.out.less (by omega))⟩
    | ok k5 l5 c5 =>
     have hc5 := HG.out _ _ _ _ _ HR.out
     obtain ⟨ys, v5, rfl, hk5, hr5, hl5, hb5⟩ := h5
     obtain ⟨x0, x3, x1, x2, xa, xk, xc, ya, yk, yc, rfl⟩ := kx_cells hk5
     have hta : ([.int .i64 x0, .string x1, .string x2, .int .i64 x3, .slice xa xk xc, .slice ya yk yc] : List Value).toArray = #[.int .i64 x0, .string x1, .string x2, .int .i64 x3, .slice xa xk xc, .slice ya yk yc] := rfl
     rw [hta]
     have hs5 := hb5.size
     obtain ⟨rows, hrl, hown, hsx, h6⟩ := HRW.out.kept (w' := w5) fun q hq hlt => hb5.block q hlt (by omega)
     have hoz : ∀ q, (Value.slice va acc.length vc).ownBlock = some q → q < wr.heap.size ∧ w.heap.size + 1 ≤ q := fun q hq => by
      obtain ⟨_, _, h, _⟩ := HRW.out
      exact ⟨(h.lt q hq).2, (h.lt q hq).1⟩
     rw [HNN.out] at hown
     have b6 : Below w5.heap.size w5 (w5.alloc (.cells #[.int .i64 x0, .string x1, .string x2, .int .i64 x3, .slice xa xk xc, .slice ya yk yc] 32)) := (Below.refl _ _).alloc (Nat.le_refl _) _
     have hnews := World.news_of_block (heap_alloc_new w5 (.cells #[.int .i64 x0, .string x1, .string x2, .int .i64 x3, .slice xa xk xc, .slice ya yk yc] 32))
     have HSX : Hid (rows.length = acc.length ∧ (∀ (j : Nat) k xs, acc[j]? = some k → rows[j]? = some xs → Kx w5 (fun q => w.heap.size + 1 ≤ q ∧ (Value.slice va acc.length vc).ownBlock ≠ some q) k xs) ∧ ∀ xs ∈ rows, xs.length = 6) := ⟨hrl, hsx, h6⟩
     have HOZ : Hid (∀ q, (Value.slice va acc.length vc).ownBlock = some q → q < wr.heap.size ∧ w.heap.size + 1 ≤ q) := hoz
     have HK5 : Hid (Kx w5 (fun q => wr.heap.size ≤ q) k5 [.int .i64 x0, .string x1, .string x2, .int .i64 x3, .slice xa xk xc, .slice ya yk yc]) := hk5
     have HX5 : Hid (RdS w5 rb v5 c5 ∧ Ags w5 Ok B l5 v5 ∧ But wr.heap.size rb wr w5) := ⟨hr5, hl5, hb5⟩
     have HB6 : Hid (Below w5.heap.size w5 (w5.alloc (.cells #[.int .i64 x0, .string x1, .string x2, .int .i64 x3, .slice xa xk xc, .slice ya yk yc] 32))) := b6
     clear hta hrl hsx h6 hoz hk5 hr5 hl5 hb5 b6
     go_wp2_with (at_builtin; go_must (refine wpList_append_lies _ rfl (.tmp 16) (.tmp 20) 30 rfl (w.heap.size + 1) 32 j0 (.agg #[.int .i64 0, .string ⟨#[]⟩, .string ⟨#[]⟩, .int .i64 0, .slice none 0 0, .slice none 0 0]) 6 96 Tryz.underlying30 hj hjz0 hjz1 hjz2 rfl (by decide) _ _ _ (by rfl) (hown.alloc _) ⟨w5.heap.size, 0, none⟩ 1 1 [.int .i64 x0, .string x1, .string x2, .int .i64 x3, .slice xa xk xc, .slice ya yk yc] (by rfl) rfl hnews (by simp [Value.oneCell']) (by decide) (by unfold maxLen; omega) (by omega) (by simp; omega) _ rfl ?_); intro g6 cap6 w6 hown6 hg6 hor6 hlt6)
     have hp := KRow.push (base := w.heap.size + 1) (z := wr.heap.size) (ks := acc) (va := va) (vc := vc) (w := w5) (k := k5) (rows := rows) HSX.out.1 HSX.out.2.1 HSX.out.2.2 hsz (fun q hq => (HOZ.out q hq).1) HK5.out HB6.out (by rw [HNN.out]; exact hown6) (by rw [HNN.out]; exact hg6) (by rw [HNN.out]; exact hor6)
     rw [HNN.out] at hp
     have hfar : ∀ q, q < w5.heap.size → q < w.heap.size + 1 → w6.heap[q]? = w5.heap[q]? := fun q h1 h2 => hp.2 q h1 (fun e => by have := (HOZ.out q (by rw [HNN.out]; exact e.symm)).2; omega)
     have HS6 : Hid (KsAt g T rb B Ok w (some ⟨g6, 0, none⟩) (N + 1) cap6 l5 v5 w6) := by
      refine ⟨m, acc ++ [k5], c5, by rw [List.length_append, HNN.out]; rfl, HTT.out, by omega, hc5.2, by omega, by omega, HX5.out.1.kept (hfar rb (by omega) (by omega)), HX5.out.2.1.kept fun q hq _ => ⟨hq, hfar q (by have := (HO.out q hq).2; omega) (by have := (HO.out q hq).2; omega)⟩, ?_, ?_, ?_, ?_⟩
      ·refine (HBW.out.trans (HX5.out.2.2.less (by omega))).trans ⟨?_, ?_, ?_, ?_, fun q hq _ => hfar q (by omega) (by omega)⟩
       ·exact hg6.os.trans HB6.out.os
       ·exact hg6.tape.trans HB6.out.tape
       ·exact hg6.output.trans HB6.out.output
       ·exact Nat.le_trans HB6.out.size hg6.size
      ·rw [List.length_append, HNN.out]; exact hp.1
      ·exact (hfar _ (by omega) (by omega)).trans ((HX5.out.2.2.block _ (by omega) (by omega)).trans HEW.out)
      ·have := HB6.out.size; have := hg6.size; omega
     clear hown6 hg6 hor6 hp hfar
     go_roundw
     case rel => exact ⟨_, _, _, _, _, rfl, HS6.out⟩
     case measure => simp [sliceLen]; omega
end Go.Proofs.YtogigccbnohjjaaGreatDoor
