/-
  What keys of package search does, by what key does.
  What key of package search does where it does not come to a word: too much, too deep, nothing there, a list.
  What head.Great does.
-/
import Derived.Test.YtligkpcoajnjmaaGreatDoorRAl13
import Derived.Test.YtligkpcoajnjmaaGreatDoorRAl09
namespace Go.Proofs.YtligkpcoajnjmaaGreatDoorR
open Go.RowKit Go.Proofs.Aid Go.Proofs.Sq Go.Proofs.Hd

theorem Tryz.infoKey : (Tryz.prog.info? 33).map (fun i => (i.zero, i.size, i.bytes)) = some (some (.agg #[.int .i64 0, .string ⟨#[]⟩, .string ⟨#[]⟩, .int .i64 0, .slice none 0 0, .slice none 0 0]), 6, 96) := by kernel_rfl
def sliceLen : Value → Nat
  | .slice _ n _ => n
  | _ => 0
/-- How far keys has come. -/
def KsAt (g : List Sr.Ar → Nat → Sr.Rs Sr.Ky) (T : Sr.Rs Sr.Ky) (rb B : Nat) (Ok : Nat → Prop) (w : World) (va : Option Addr) (N vc : Nat) (l : List Sr.Ar) (v : Value) (wr : World) : Prop :=
  ∃ (n : Nat) (acc : List Sr.Ky) (c : Nat), acc.length = N ∧ T = (Sr.moreF g n acc l c).map Sr.joinK ∧ 62 ≤ c + n ∧ c ≤ 60 ∧ N ≤ c ∧ 1 ≤ N ∧ RdS wr rb v c ∧ Ags wr Ok B l v ∧ But w.heap.size rb w wr ∧
    KRow (w.heap.size + 1) acc (.slice va acc.length vc) wr ∧ wr.heap[w.heap.size]? = some (.cells #[.int .i64 0, .string ⟨#[]⟩, .string ⟨#[]⟩, .int .i64 0, .slice none 0 0, .slice none 0 0] 33 (0, 0)) ∧ w.heap.size + 1 ≤ wr.heap.size
set_option maxHeartbeats 4000000 in
set_option maxRecDepth 100000 in
theorem keys_is (rb c B d : Nat) (l : List Sr.Ar) (v : Value) (Ok : Nat → Prop) (w : World) (g : List Sr.Ar → Nat → Sr.Rs Sr.Ky) (hr : RdS w rb v c) (hl : Ags w Ok B l v) (hrb : rb < w.heap.size) (hO : ∀ k, Ok k → k ≠ rb ∧ k < w.heap.size)
    (hcc : c ≤ 60) (hG : ∀ l c k l' c', g l c = .ok k l' c' → c < c' ∧ c' ≤ 60)
    (cK : ∀ W l' c' v', RdS W rb v' c' → Ags W Ok B l' v' → But w.heap.size rb w W → c' ≤ 60 → Calls Tryz.prog 101 #[.pointer (some ⟨rb, 0, none⟩), .int .i64 (d : Int)] W fun e w' => Out W rb B Ok (g l' c') e w') :
    Calls Tryz.prog 43 #[.pointer (some ⟨rb, 0, none⟩), .int .i64 (d : Int)] w fun e w' => Out w rb B Ok (Sr.keysF g l c) e w' := by
  have b1 : Below w.heap.size w (w.alloc (.cells #[.int .i64 0, .string ⟨#[]⟩, .string ⟨#[]⟩, .int .i64 0, .slice none 0 0, .slice none 0 0] 33)) := (Below.refl _ _).alloc (Nat.le_refl _) _
  have e1 := heap_alloc_new w (.cells #[.int .i64 0, .string ⟨#[]⟩, .string ⟨#[]⟩, .int .i64 0, .slice none 0 0, .slice none 0 0] 33)
  obtain ⟨W1, hW1⟩ : ∃ W, w.alloc (.cells #[.int .i64 0, .string ⟨#[]⟩, .string ⟨#[]⟩, .int .i64 0, .slice none 0 0, .slice none 0 0] 33) = W := ⟨_, rfl⟩
  have z1 : W1.heap.size = w.heap.size + 1 := by rw [← hW1]; simp
  rw [hW1] at b1 e1
  have cQ := cK W1 l c v (hr.kept (b1.block rb hrb)) (hl.kept fun k hk hlt => ⟨hk, b1.block k hlt⟩) (to_but b1) hcc
  obtain ⟨T, hT⟩ : ∃ T, Sr.keysF g l c = T := ⟨_, rfl⟩
  rw [hT]
  rw [Sr.keysF] at hT
  have HB1 : Hid (Below w.heap.size w W1) := b1
  have HE1 : Hid (W1.heap[w.heap.size]? = some (.cells #[.int .i64 0, .string ⟨#[]⟩, .string ⟨#[]⟩, .int .i64 0, .slice none 0 0, .slice none 0 0] 33 (0, 0))) := e1
  have HZ : Hid (W1.heap.size = w.heap.size + 1) := z1
  have HK : Hid (∀ W l' c' v', RdS W rb v' c' → Ags W Ok B l' v' → But w.heap.size rb w W → c' ≤ 60 → Calls Tryz.prog 101 #[.pointer (some ⟨rb, 0, none⟩), .int .i64 (d : Int)] W fun e w' => Out W rb B Ok (g l' c') e w') := cK
  have HG : Hid (∀ l c k l' c', g l c = .ok k l' c' → c < c' ∧ c' ≤ 60) := hG
  have HO : Hid (∀ k, Ok k → k ≠ rb ∧ k < w.heap.size) := hO
  clear b1 e1 cK hG hO hr hl
  obtain ⟨j0, hj, hjz0, hjz1, hjz2⟩ := info_parts Tryz.infoKey
  obtain ⟨R, hR⟩ : ∃ R, g l c = R := ⟨_, rfl⟩
  rw [hR] at cQ hT
  go_enter Tryz.func43, Tryz.ntmps43
  go_wp2_with fail
  refine cQ.mono ?_
  intro e w2 h2
  clear cQ
  cases R with
  | bad n =>
    subst hT
    obtain ⟨rfl, hb2⟩ := h2
    have HB2 : Hid (But W1.heap.size rb W1 w2) := hb2
    clear hb2
    unfold thrown
    go_wp2_with fail
    exact ⟨rfl, rfl, (to_but HB1.out).trans (HB2.out.less (by have := HZ.out; omega))⟩
  | ok k l2 c2 =>
    have hc2 := HG.out _ _ _ _ _ hR
    obtain ⟨ys, v2, rfl, hk2, hr2, hl2, hb2⟩ := h2
    obtain ⟨x0, x3, x1, x2, xa, xk, xc, ya, yk, yc, rfl⟩ := kx_cells hk2
    have hta : ([.int .i64 x0, .string x1, .string x2, .int .i64 x3, .slice xa xk xc, .slice ya yk yc] : List Value).toArray = #[.int .i64 x0, .string x1, .string x2, .int .i64 x3, .slice xa xk xc, .slice ya yk yc] := rfl
    rw [hta]
    have hz := HZ.out
    have hs2 := hb2.size
    have b3 : Below w2.heap.size w2 (w2.alloc (.cells #[.int .i64 x0, .string x1, .string x2, .int .i64 x3, .slice xa xk xc, .slice ya yk yc] 33)) := (Below.refl _ _).alloc (Nat.le_refl _) _
    have hrow := KRow.lit (base := w.heap.size + 1) (by rw [hz] at hk2; exact hk2) (by omega)
    rw [hta] at hrow
    obtain ⟨W3, hW3⟩ : ∃ W, w2.alloc (.cells #[.int .i64 x0, .string x1, .string x2, .int .i64 x3, .slice xa xk xc, .slice ya yk yc] 33) = W := ⟨_, rfl⟩
    rw [hW3] at b3 hrow
    have z3 := b3.size
    have HS : Hid (KsAt g T rb B Ok w (some ⟨w2.heap.size, 0, none⟩) 1 1 l2 v2 W3) :=
      ⟨61, [k], c2, rfl, hT.symm, by omega, hc2.2, by omega, Nat.le_refl _, hr2.kept (b3.block rb (by omega)), hl2.kept fun q hq hlt => ⟨hq, b3.block q hlt⟩, ((to_but HB1.out).trans (hb2.less (by omega))).trans (to_but (b3.mono (by omega))), hrow, (b3.block w.heap.size (by omega)).trans ((hb2.block w.heap.size (by omega) (by omega)).trans HE1.out), by omega⟩
    clear hta hs2 b3 hrow z3 hk2 hr2 hl2 hb2 hT hc2
    go_wp2_with fail
    go_loopw [5] (fun s wr => ∃ va N vc l v, s = .slice va N vc ∧ KsAt g T rb B Ok w va N vc l v wr) (fun s _ => 61 - sliceLen s)
    case atStart => exact ⟨_, _, _, _, _, rfl, HS.out⟩
    case round =>
      obtain ⟨va, N, vc, l3, v3, rfl, hks⟩ := hrel
      clear HS hW1 hW3 z1 hz hR HB1 HE1 HZ
      obtain ⟨n, acc, c4, hN, hT, h62, h60, hNc, h1N, hr, hl, hb, hrow, hE, hsz⟩ := hks
      obtain ⟨a3, cc3, rfl⟩ := hl.form
      have p0 : wr.cell? ⟨rb, 0, none⟩ = some (.slice a3 l3.length cc3) := rd_cell hr rfl
      cases l3 with
      | nil =>
        rw [List.length_nil] at p0 hr hl
        have hT2 : T = .ok (Sr.joinK acc) [] c4 := by rw [hT]; cases n <;> rfl
        subst hT2
        have HX : Hid (RdS wr rb (.slice a3 0 cc3) c4 ∧ Ags wr Ok B [] (.slice a3 0 cc3) ∧ But w.heap.size rb w wr) := ⟨hr, hl, hb⟩
        by_cases hN1 : N = 1
        · subst hN1
          obtain ⟨k1, rfl⟩ : ∃ k1, acc = [k1] := List.length_eq_one_iff.1 hN
          obtain ⟨rows, hrk, hrc⟩ := hrow.cells
          have hk1 := hrk 0 k1 rfl
          obtain ⟨b, o, rfl, hbb, hcl⟩ : ∃ b o, va = some ⟨b, o, none⟩ ∧ w.heap.size + 1 ≤ b ∧ ∀ i x, (rows 0)[i]? = some x → wr.cell? ⟨b, o + i, none⟩ = some x := by
            rcases hrc with h | ⟨b, o, h1, h2, h3⟩
            · cases h
            · exact ⟨b, o, h1, h2, fun i x hx => by have := h3 0 k1 rfl i x hx; rw [Nat.zero_mul, Nat.add_zero] at this; exact this⟩
          generalize rows 0 = xs at hk1 hcl
          obtain ⟨x0, x3, x1, x2, xa, xk, xc, ya, yk, yc, rfl⟩ := kx_cells hk1
          have l0 := hcl 0 _ rfl
          have l1 := hcl 1 _ rfl
          have l2 := hcl 2 _ rfl
          have l3 := hcl 3 _ rfl
          have l4 := hcl 4 _ rfl
          have l5 := hcl 5 _ rfl
          rw [Nat.add_zero] at l0
          obtain ⟨⟨s0, s1, s2, s3, s4, s5⟩, ⟨sf0, sf1, sf2, sf3, sf4, sf5⟩, v0, v1, v2, v3', v4, v5⟩ := six_facts hE (.int .i64 x0) (.string x1) (.string x2) (.int .i64 x3) (.slice xa xk xc) (.slice ya yk yc)
          have HKX : Hid (Kx wr (fun q => w.heap.size + 1 ≤ q) k1 [.int .i64 x0, .string x1, .string x2, .int .i64 x3, .slice xa xk xc, .slice ya yk yc]) := hk1
          clear hk1 hrk hrc hcl hrow hE hr hl hb hT h62 hN
          go_wp2_with fail
          refine bodyPost_ret (v := .agg #[.int .i64 x0, .string x1, .string x2, .int .i64 x3, .slice xa xk xc, .slice ya yk yc]) (by simp [results, Tryz.results43, go_sem, v0, v1, v2, v3', v4, v5]) rfl ?_
          exact ⟨_, .slice a3 0 cc3, rfl, HKX.out.kept fun q hq hlt => ⟨by omega, six_other _ (by omega) _ _ _ _ _ _⟩, HX.out.1.kept (six_other _ (by omega) _ _ _ _ _ _), HX.out.2.1.kept fun q hq _ => ⟨hq, six_other _ (by have := (HO.out q hq).2; omega) _ _ _ _ _ _⟩, six_but HX.out.2.2 (Nat.le_refl _) _ _ _ _ _ _⟩
        · have iN : ((N : Int) == 1) = false := by simp; omega
          have hj2 : Sr.joinK acc = .mk 15 [] [] 0 [] acc := by
            rcases acc with _ | ⟨k1, _ | ⟨k2, acc⟩⟩
            · simp at hN; omega
            · simp at hN; omega
            · rfl
          have hka := hrow.all
          rw [← hj2, hN] at hka
          obtain ⟨⟨s0, s1, s2, s3, s4, s5⟩, ⟨sf0, sf1, sf2, sf3, sf4, sf5⟩, v0, v1, v2, v3', v4, v5⟩ := six_facts hE (.int .i64 15) (.string ⟨#[]⟩) (.string ⟨#[]⟩) (.int .i64 0) (.slice none 0 0) (.slice va N vc)
          have HKX : Hid (Kx wr (fun q => w.heap.size + 1 ≤ q) (Sr.joinK acc) [.int .i64 15, .string ⟨#[]⟩, .string ⟨#[]⟩, .int .i64 0, .slice none 0 0, .slice va N vc]) := hka
          clear hka hj2 hrow hE hr hl hb hT h62 hN
          go_wp2_with fail
          refine bodyPost_ret (v := .agg #[.int .i64 15, .string ⟨#[]⟩, .string ⟨#[]⟩, .int .i64 0, .slice none 0 0, .slice va N vc]) (by simp [results, Tryz.results43, go_sem, v0, v1, v2, v3', v4, v5]) rfl ?_
          exact ⟨_, .slice a3 0 cc3, rfl, HKX.out.kept fun q hq hlt => ⟨by omega, six_other _ (by omega) _ _ _ _ _ _⟩, HX.out.1.kept (six_other _ (by omega) _ _ _ _ _ _), HX.out.2.1.kept fun q hq _ => ⟨hq, six_other _ (by have := (HO.out q hq).2; omega) _ _ _ _ _ _⟩, six_but HX.out.2.2 (Nat.le_refl _) _ _ _ _ _ _⟩
      | cons a r =>
        obtain ⟨m, rfl⟩ : ∃ m, n = m + 1 := ⟨n - 1, by omega⟩
        rw [Sr.moreF] at hT
        have cQ := HK.out wr (a :: r) c4 _ hr hl hb h60
        obtain ⟨L, hL⟩ : ∃ L, (a :: r).length = L + 1 := ⟨r.length, rfl⟩
        rw [hL] at p0
        obtain ⟨R, hR⟩ : ∃ R, g (a :: r) c4 = R := ⟨_, rfl⟩
        rw [hR] at cQ hT
        have HR : Hid (g (a :: r) c4 = R) := hR
        have HTT : Hid (T = (R.then fun k l c => Sr.moreF g m (acc ++ [k]) l c).map Sr.joinK) := hT
        have HBW : Hid (But w.heap.size rb w wr) := hb
        have HRW : Hid (KRow (w.heap.size + 1) acc (.slice va acc.length vc) wr) := hrow
        have HEW : Hid (wr.heap[w.heap.size]? = some (.cells #[.int .i64 0, .string ⟨#[]⟩, .string ⟨#[]⟩, .int .i64 0, .slice none 0 0, .slice none 0 0] 33 (0, 0))) := hE
        have HNN : Hid (acc.length = N) := hN
        clear hR hT hb hrow hE hN hr hl hL
        go_wp2_with fail
        refine cQ.mono ?_
        intro e w5 h5
        clear cQ
        cases R with
        | bad n =>
          have hTT : T = .bad n := HTT.out
          subst hTT
          obtain ⟨rfl, hb5⟩ := h5
          have HB5 : Hid (But wr.heap.size rb wr w5) := hb5
          clear hb5
          unfold thrown
          go_wp2_with fail
          exact ⟨rfl, rfl, HBW.out.trans (HB5.out.less (by omega))⟩
        | ok k5 l5 c5 =>
          have hc5 := HG.out _ _ _ _ _ HR.out
          obtain ⟨ys, v5, rfl, hk5, hr5, hl5, hb5⟩ := h5
          obtain ⟨x0, x3, x1, x2, xa, xk, xc, ya, yk, yc, rfl⟩ := kx_cells hk5
          have hta : ([.int .i64 x0, .string x1, .string x2, .int .i64 x3, .slice xa xk xc, .slice ya yk yc] : List Value).toArray = #[.int .i64 x0, .string x1, .string x2, .int .i64 x3, .slice xa xk xc, .slice ya yk yc] := rfl
          rw [hta]
          have hs5 := hb5.size
          obtain ⟨rows, hrl, hown, hsx, h6⟩ := HRW.out.kept (w' := w5) fun q hq hlt => hb5.block q hlt (by omega)
          have hoz : ∀ q, (Value.slice va acc.length vc).ownBlock = some q → q < wr.heap.size ∧ w.heap.size + 1 ≤ q := fun q hq => by
            obtain ⟨_, _, h, _⟩ := HRW.out
            exact ⟨(h.lt q hq).2, (h.lt q hq).1⟩
          rw [HNN.out] at hown
          have b6 : Below w5.heap.size w5 (w5.alloc (.cells #[.int .i64 x0, .string x1, .string x2, .int .i64 x3, .slice xa xk xc, .slice ya yk yc] 33)) := (Below.refl _ _).alloc (Nat.le_refl _) _
          have hnews := World.news_of_block (heap_alloc_new w5 (.cells #[.int .i64 x0, .string x1, .string x2, .int .i64 x3, .slice xa xk xc, .slice ya yk yc] 33))
          have HSX : Hid (rows.length = acc.length ∧ (∀ (j : Nat) k xs, acc[j]? = some k → rows[j]? = some xs → Kx w5 (fun q => w.heap.size + 1 ≤ q ∧ (Value.slice va acc.length vc).ownBlock ≠ some q) k xs) ∧ ∀ xs ∈ rows, xs.length = 6) := ⟨hrl, hsx, h6⟩
          have HOZ : Hid (∀ q, (Value.slice va acc.length vc).ownBlock = some q → q < wr.heap.size ∧ w.heap.size + 1 ≤ q) := hoz
          have HK5 : Hid (Kx w5 (fun q => wr.heap.size ≤ q) k5 [.int .i64 x0, .string x1, .string x2, .int .i64 x3, .slice xa xk xc, .slice ya yk yc]) := hk5
          have HX5 : Hid (RdS w5 rb v5 c5 ∧ Ags w5 Ok B l5 v5 ∧ But wr.heap.size rb wr w5) := ⟨hr5, hl5, hb5⟩
          have HB6 : Hid (Below w5.heap.size w5 (w5.alloc (.cells #[.int .i64 x0, .string x1, .string x2, .int .i64 x3, .slice xa xk xc, .slice ya yk yc] 33))) := b6
          clear hta hrl hsx h6 hoz hk5 hr5 hl5 hb5 b6
          go_wp2_with (at_builtin; go_must (refine wpList_append_lies _ rfl (.tmp 16) (.tmp 20) 31 rfl (w.heap.size + 1) 33 j0 (.agg #[.int .i64 0, .string ⟨#[]⟩, .string ⟨#[]⟩, .int .i64 0, .slice none 0 0, .slice none 0 0]) 6 96 Tryz.underlying31 hj hjz0 hjz1 hjz2 rfl (by decide) _ _ _ (by rfl) (hown.alloc _) ⟨w5.heap.size, 0, none⟩ 1 1 [.int .i64 x0, .string x1, .string x2, .int .i64 x3, .slice xa xk xc, .slice ya yk yc] (by rfl) rfl hnews (by simp [Value.oneCell']) (by decide) (by unfold maxLen; omega) (by omega) (by simp; omega) _ rfl ?_); intro g6 cap6 w6 hown6 hg6 hor6 hlt6)
          have hp := KRow.push (base := w.heap.size + 1) (z := wr.heap.size) (ks := acc) (va := va) (vc := vc) (w := w5) (k := k5) (rows := rows) HSX.out.1 HSX.out.2.1 HSX.out.2.2 hsz (fun q hq => (HOZ.out q hq).1) HK5.out HB6.out (by rw [HNN.out]; exact hown6) (by rw [HNN.out]; exact hg6) (by rw [HNN.out]; exact hor6)
          rw [HNN.out] at hp
          have hfar : ∀ q, q < w5.heap.size → q < w.heap.size + 1 → w6.heap[q]? = w5.heap[q]? := fun q h1 h2 => hp.2 q h1 (fun e => by have := (HOZ.out q (by rw [HNN.out]; exact e.symm)).2; omega)
          have HS6 : Hid (KsAt g T rb B Ok w (some ⟨g6, 0, none⟩) (N + 1) cap6 l5 v5 w6) := by
            refine ⟨m, acc ++ [k5], c5, by rw [List.length_append, HNN.out]; rfl, HTT.out, by omega, hc5.2, by omega, by omega, HX5.out.1.kept (hfar rb (by omega) (by omega)), HX5.out.2.1.kept fun q hq _ => ⟨hq, hfar q (by have := (HO.out q hq).2; omega) (by have := (HO.out q hq).2; omega)⟩, ?_, ?_, ?_, ?_⟩
            · refine (HBW.out.trans (HX5.out.2.2.less (by omega))).trans ⟨?_, ?_, ?_, ?_, fun q hq _ => hfar q (by omega) (by omega)⟩
              · exact hg6.os.trans HB6.out.os
              · exact hg6.tape.trans HB6.out.tape
              · exact hg6.output.trans HB6.out.output
              · exact Nat.le_trans HB6.out.size hg6.size
            · rw [List.length_append, HNN.out]; exact hp.1
            · exact (hfar _ (by omega) (by omega)).trans ((HX5.out.2.2.block _ (by omega) (by omega)).trans HEW.out)
            · have := HB6.out.size; have := hg6.size; omega
          clear hown6 hg6 hor6 hp hfar
          go_roundw
          case rel => exact ⟨_, _, _, _, _, rfl, HS6.out⟩
          case measure => simp [sliceLen]; omega
end Go.Proofs.YtligkpcoajnjmaaGreatDoorR
namespace Go.Proofs.YtligkpcoajnjmaaGreatDoorR
open Go.RowKit Go.Proofs.Aid Go.Proofs.Sq Go.Proofs.Hd

/-- The world behind the count of one key more. -/
theorem key_begun (rb c B : Nat) (l : List Sr.Ar) (v : Value) (Ok : Nat → Prop) (w : World) (hr : RdS w rb v c) (hl : Ags w Ok B l v) (hrb : rb < w.heap.size) (hO : ∀ k, Ok k → k ≠ rb ∧ k < w.heap.size) :
    ∃ W1 W2, w.alloc (.cells #[.int .i64 0, .string ⟨#[]⟩, .string ⟨#[]⟩, .int .i64 0, .slice none 0 0, .slice none 0 0] 33) = W1 ∧ W1.setCell ⟨rb, 1, none⟩ (.int .i64 ((c : Int) + 1)) = W2 ∧
      W1.cell? ⟨rb, 1, none⟩ = some (.int .i64 (c : Int)) ∧ W1.frozen? ⟨rb, 1, none⟩ = false ∧ W2.cell? ⟨rb, 1, none⟩ = some (.int .i64 ((c : Int) + 1)) ∧ W2.cell? ⟨rb, 0, none⟩ = some v ∧
      W2.heap.size = w.heap.size + 1 ∧ RdS W2 rb v (c + 1) ∧ Ags W2 Ok B l v ∧ But w.heap.size rb w W2 ∧
      W2.heap[w.heap.size]? = some (.cells #[.int .i64 0, .string ⟨#[]⟩, .string ⟨#[]⟩, .int .i64 0, .slice none 0 0, .slice none 0 0] 33 (0, 0)) := by
  have b1 : Below w.heap.size w (w.alloc (.cells #[.int .i64 0, .string ⟨#[]⟩, .string ⟨#[]⟩, .int .i64 0, .slice none 0 0, .slice none 0 0] 33)) := (Below.refl _ _).alloc (Nat.le_refl _) _
  have e1 := heap_alloc_new w (.cells #[.int .i64 0, .string ⟨#[]⟩, .string ⟨#[]⟩, .int .i64 0, .slice none 0 0, .slice none 0 0] 33)
  obtain ⟨W1, hW1⟩ : ∃ W, w.alloc (.cells #[.int .i64 0, .string ⟨#[]⟩, .string ⟨#[]⟩, .int .i64 0, .slice none 0 0, .slice none 0 0] 33) = W := ⟨_, rfl⟩
  have z1 : W1.heap.size = w.heap.size + 1 := by rw [← hW1]; simp
  rw [hW1] at b1 e1
  have hr1 : RdS W1 rb v c := hr.kept (b1.block rb hrb)
  have hl1 : Ags W1 Ok B l v := hl.kept fun k hk hlt => ⟨hk, b1.block k hlt⟩
  have hr2 : RdS (W1.setCell ⟨rb, 1, none⟩ (.int .i64 ((c : Int) + 1))) rb v (c + 1) := by
    show _ = _
    have := rd_set (i := 1) (.int .i64 ((c : Int) + 1)) hr1
    rw [Int.natCast_add]
    exact this
  refine ⟨W1, _, hW1, rfl, rd_cell hr1 rfl, rd_free hr1 1, ?_, rd_cell hr2 rfl, by simp [z1], hr2, hl1.kept fun k hk _ => ⟨hk, Below.heap_setCell _ _ _ _ (hO k hk).1⟩, (to_but b1).setB 1 _, (Below.heap_setCell _ _ _ _ (show w.heap.size ≠ rb by omega)).trans e1⟩
  have h := rd_cell (j := 1) hr2 rfl
  rw [Int.natCast_add] at h
  exact h
set_option maxHeartbeats 2000000 in
set_option maxRecDepth 100000 in
theorem key_limit (rb c B d : Nat) (l : List Sr.Ar) (v : Value) (Ok : Nat → Prop) (w : World) (hr : RdS w rb v c) (hl : Ags w Ok B l v) (hrb : rb < w.heap.size) (hO : ∀ k, Ok k → k ≠ rb ∧ k < w.heap.size) (hc : c ≤ 1000) (hd : d ≤ 1000) (h : 6 < d ∨ 60 < c + 1) :
    Calls Tryz.prog 101 #[.pointer (some ⟨rb, 0, none⟩), .int .i64 (d : Int)] w fun e w' => e = thrown 4 ∧ But w.heap.size rb w w' := by
  obtain ⟨W1, W2, hW1, hW2, p1, f1, q1, q0, z2, hr2, hl2, hb2, hE2⟩ := key_begun rb c B l v Ok w hr hl hrb hO
  have HB : Hid (But w.heap.size rb w W2) := hb2
  clear hr hl hO hr2 hl2 hb2 hE2
  by_cases hd6 : 6 < d
  · have d1 : decide ((6 : Int) < (d : Int)) = true := decide_eq_true (by omega)
    clear h
    go_enter Tryz.func101, Tryz.ntmps101
    go_wp2_with fail
    exact ⟨rfl, rfl, HB.out⟩
  · have d1 : decide ((6 : Int) < (d : Int)) = false := decide_eq_false (by omega)
    have d2 : decide ((60 : Int) < (c : Int) + 1) = true := decide_eq_true (by omega)
    clear h
    go_enter Tryz.func101, Tryz.ntmps101
    go_wp2_with fail
    exact ⟨rfl, rfl, HB.out⟩
set_option maxHeartbeats 2000000 in
set_option maxRecDepth 100000 in
theorem key_none (rb c B d : Nat) (v : Value) (Ok : Nat → Prop) (w : World) (hr : RdS w rb v c) (hl : Ags w Ok B [] v) (hrb : rb < w.heap.size) (hO : ∀ k, Ok k → k ≠ rb ∧ k < w.heap.size) (hd : d ≤ 6) (hc : c + 1 ≤ 60) :
    Calls Tryz.prog 101 #[.pointer (some ⟨rb, 0, none⟩), .int .i64 (d : Int)] w fun e w' => e = thrown 3 ∧ But w.heap.size rb w w' := by
  obtain ⟨a3, c3, rfl⟩ := hl.nil
  obtain ⟨W1, W2, hW1, hW2, p1, f1, q1, q0, z2, hr2, hl2, hb2, hE2⟩ := key_begun rb c B [] _ Ok w hr hl hrb hO
  have cW := word_bad rb (c + 1) B [] _ Ok W2 hr2 hl2 rfl
  unfold thrown at cW
  have HB : Hid (But w.heap.size rb w W2) := hb2
  clear hr hl hO hr2 hl2 hb2 hE2
  have d1 : decide ((6 : Int) < (d : Int)) = false := decide_eq_false (by omega)
  have d2 : decide ((60 : Int) < (c : Int) + 1) = false := decide_eq_false (by omega)
  go_enter Tryz.func101, Tryz.ntmps101
  go_wp2_with fail
  refine cW.mono ?_
  rintro e w3 ⟨rfl, hw3⟩
  obtain rfl : W2 = w3 := hw3.symm
  go_wp2_with fail
  exact ⟨rfl, rfl, HB.out⟩
/-- A key's six values laid into the answer's cells. -/
theorem key_done {w w3 : World} {rb B c : Nat} {Ok : Nat → Prop} {k : Sr.Ky} {l : List Sr.Ar} {v : Value} {x0 x1 x2 x3 x4 x5 : Value} (hrb : rb < w.heap.size) (hO : ∀ k, Ok k → k ≠ rb ∧ k < w.heap.size) (hk : Kx w3 (fun q => w.heap.size + 1 ≤ q) k [x0, x1, x2, x3, x4, x5]) (hr : RdS w3 rb v c) (hl : Ags w3 Ok B l v) (hb : But w.heap.size rb w w3) :
    Out w rb B Ok (.ok k l c) (.returned (.agg #[x0, x1, x2, x3, x4, x5])) ((((((w3.setCell ⟨w.heap.size, 0, none⟩ x0).setCell ⟨w.heap.size, 1, none⟩ x1).setCell ⟨w.heap.size, 2, none⟩ x2).setCell ⟨w.heap.size, 3, none⟩ x3).setCell ⟨w.heap.size, 4, none⟩ x4).setCell ⟨w.heap.size, 5, none⟩ x5) :=
  ⟨_, v, rfl, hk.kept fun q hq hlt => ⟨by omega, six_other _ (by omega) _ _ _ _ _ _⟩, hr.kept (six_other _ (by omega) _ _ _ _ _ _), hl.kept fun q hq _ => ⟨hq, six_other _ (by have := (hO q hq).2; omega) _ _ _ _ _ _⟩, six_but hb (Nat.le_refl _) _ _ _ _ _ _⟩
set_option maxHeartbeats 2000000 in
set_option maxRecDepth 100000 in
theorem key_list (rb c B d : Nat) (x : Sr.Ar) (l : List Sr.Ar) (v : Value) (Ok : Nat → Prop) (w : World) (R : Sr.Rs Sr.Ky) (hr : RdS w rb v c) (hl : Ags w Ok B (x :: l) v) (hrb : rb < w.heap.size) (hO : ∀ k, Ok k → k ≠ rb ∧ k < w.heap.size) (hd : d ≤ 6) (hc : c + 1 ≤ 60) (hx : x.kind = 3)
    (cK : ∀ W lv, RdS W rb lv (c + 1) → Ags W Ok B x.list lv → But w.heap.size rb w W → w.heap.size ≤ W.heap.size → Calls Tryz.prog 43 #[.pointer (some ⟨rb, 0, none⟩), .int .i64 ((d : Int) + 1)] W fun e w' => Out W rb B Ok R e w') :
    Calls Tryz.prog 101 #[.pointer (some ⟨rb, 0, none⟩), .int .i64 (d : Int)] w fun e w' => Out w rb B Ok (R.then fun k _ c => .ok k l c) e w' := by
  obtain ⟨W1, W2, hW1, hW2, p1, f1, q1, q0, z2, hr2, hl2, hb2, hE2⟩ := key_begun rb c B (x :: l) v Ok w hr hl hrb hO
  have cL := list_is rb (c + 1) B d x l v Ok W2 R (by omega) hr2 hl2 (by omega) (fun k hk => ⟨(hO k hk).1, by have := (hO k hk).2; omega⟩) (fun W lv h1 h2 h3 => cK W lv h1 h2 (hb2.trans (h3.less (by omega))) (by have := h3.size; omega))
  obtain ⟨b, o, C, tb, lv, rfl, hC, hC2, hOb, htb, hsz, hlist, c1, c2, c3, hrest⟩ := hl2.head
  rw [hx] at c1
  obtain ⟨L, hL⟩ : ∃ L, l.length = L := ⟨_, rfl⟩
  rw [hL] at q0 hC
  have HB : Hid (But w.heap.size rb w W2) := hb2
  have HE : Hid (W2.heap[w.heap.size]? = some (.cells #[.int .i64 0, .string ⟨#[]⟩, .string ⟨#[]⟩, .int .i64 0, .slice none 0 0, .slice none 0 0] 33 (0, 0))) := hE2
  have HO : Hid (∀ k, Ok k → k ≠ rb ∧ k < w.heap.size) := hO
  have HZ : Hid (W2.heap.size = w.heap.size + 1) := z2
  have d1 : decide ((6 : Int) < (d : Int)) = false := decide_eq_false (by omega)
  have d2 : decide ((60 : Int) < (c : Int) + 1) = false := decide_eq_false (by omega)
  clear hr hl hO hr2 hl2 hb2 hE2 cK hL hlist hrest htb hsz z2 hx
  go_enter Tryz.func101, Tryz.ntmps101
  go_wp2_with fail
  refine cL.mono ?_
  intro e w3 h3
  clear cL
  cases R with
  | bad n =>
    obtain ⟨rfl, hb3⟩ := h3
    have HB3 : Hid (But W2.heap.size rb W2 w3) := hb3
    clear hb3
    unfold thrown
    go_wp2_with fail
    exact ⟨rfl, rfl, HB.out.trans (HB3.out.less (by have := HZ.out; omega))⟩
  | ok k r cn =>
    obtain ⟨ys, v3, rfl, hk3, hr3, hl3, hb3⟩ := h3
    obtain ⟨x0, x3, x1, x2, xa, xk, xc, ya, yk, yc, rfl⟩ := kx_cells hk3
    have hta : ([.int .i64 x0, .string x1, .string x2, .int .i64 x3, .slice xa xk xc, .slice ya yk yc] : List Value).toArray = #[.int .i64 x0, .string x1, .string x2, .int .i64 x3, .slice xa xk xc, .slice ya yk yc] := rfl
    rw [hta]
    have hz := HZ.out
    have e3 := (hb3.block w.heap.size (by omega) (by omega)).trans HE.out
    obtain ⟨⟨s0, s1, s2, s3, s4, s5⟩, ⟨sf0, sf1, sf2, sf3, sf4, sf5⟩, v0, v1, v2, v3', v4, v5⟩ := six_facts e3 (.int .i64 x0) (.string x1) (.string x2) (.int .i64 x3) (.slice xa xk xc) (.slice ya yk yc)
    rw [hz] at hk3
    have HD : Hid (Out w rb B Ok (.ok k l cn) (.returned (.agg #[.int .i64 x0, .string x1, .string x2, .int .i64 x3, .slice xa xk xc, .slice ya yk yc])) _) := key_done hrb HO.out hk3 hr3 hl3 (HB.out.trans (hb3.less (by omega)))
    clear hta e3 hk3 hr3 hl3 hb3
    go_wp2_with fail
    exact bodyPost_ret (v := .agg #[.int .i64 x0, .string x1, .string x2, .int .i64 x3, .slice xa xk xc, .slice ya yk yc]) (by simp [results, Tryz.results101, go_sem, v0, v1, v2, v3', v4, v5]) rfl HD.out
end Go.Proofs.YtligkpcoajnjmaaGreatDoorR
namespace Go.Proofs.YtligkpcoajnjmaaGreatDoorR
open Go.RowKit Go.Proofs.Aid Go.Proofs.Hd Go.Proofs.Sq
theorem great_is (s : ByteArray) (w : World) (hs : s.size ≤ 2000000) :
    Calls Tryz.prog 122 #[.string s] w fun e w' => e = .returned (.string ⟨(great s.data.toList).toArray⟩) ∧ Below w.heap.size w w' := by
  have c := moved_any 97 65 (by decide) (by decide) s w hs
  rw [show s.data.toList.map (mv 97 65) = great s.data.toList from List.map_congr_left fun c _ => mv_gr c] at c
  go_enter Tryz.func122, Tryz.ntmps122
  go_wp2_with fail
  refine c.mono ?_
  rintro e w1 ⟨rfl, hb⟩
  go_wp2_with fail
  go_ret
  exact ⟨rfl, hb⟩
end Go.Proofs.YtligkpcoajnjmaaGreatDoorR
