/-
  What letterboxkeep.count and letterboxkeep.inside answer of a part.
-/
import Derived.Test.YtgbbkdflnlagaaaDoorMimeFresh
namespace Go.Proofs.YtgbbkdflnlagaaaDoor
open Go.RowKit Go.Proofs.Aid Go.Proofs.Sq Go.Proofs.Hd Go.Proofs.Mm

theorem countPs_snoc {ps : List Mm.Pt} {k : Nat} {q : Mm.Pt} (h : ps[k]? = some q) : countPs (ps.take (k + 1)) = countPs (ps.take k) + countP q := by
  induction ps generalizing k with
  | nil => simp at h
  | cons p ps ih =>
    cases k with
    | zero =>
      simp at h
      subst h
      simp [countPs]
    | succ k =>
      simp at h
      rw [List.take_succ_cons, List.take_succ_cons, countPs, countPs, ih h]
      omega
theorem countPs_take (ps : List Mm.Pt) (k : Nat) : countPs (ps.take k) ≤ countPs ps := by
  induction ps generalizing k with
  | nil => simp
  | cons p ps ih =>
    cases k with
    | zero => simp [countPs]
    | succ k =>
      have := ih k
      rw [List.take_succ_cons, countPs, countPs]
      omega
set_option maxHeartbeats 4000000 in
set_option maxRecDepth 100000 in
theorem count_step (n : Nat)
    (IH : ∀ (p : Mm.Pt) (xs : List Value) (Ok : Nat → Prop) (w : World), countP p ≤ n → countP p ≤ 30 → Six w Ok p xs → Calls Tryd.prog 7 #[.agg xs.toArray] w fun e w' => e = .returned (.int .i64 (countP p : Int)) ∧ Below w.heap.size w w')
    (p : Mm.Pt) (xs : List Value) (Ok : Nat → Prop) (w : World) (hn : countP p ≤ n + 1) (hc : countP p ≤ 30) (h : Six w Ok p xs) :
    Calls Tryd.prog 7 #[.agg xs.toArray] w fun e w' => e = .returned (.int .i64 (countP p : Int)) ∧ Below w.heap.size w w' := by
  obtain ⟨t, b, lo, hi, ln, ps⟩ := p
  have hps : ps.length ≤ 29 := by rw [countP] at hc; have := parts_few ps; omega
  have HCH : Hid (∀ (j : Nat) q, ps[j]? = some q → countP q ≤ n ∧ countP q ≤ 30) := by
    intro j q hj
    have h2 := part_few (List.mem_of_getElem? hj)
    rw [countP] at hc hn
    exact ⟨by omega, by omega⟩
  have HCT : Hid (∀ k, 1 + countPs (ps.take k) ≤ 30) := fun k => by have := countPs_take ps k; rw [countP] at hc; omega
  obtain ⟨tb, bb, a, c, rfl, rfl, rfl, hkids⟩ := six_kids h
  have HIH : Hid (∀ (p : Mm.Pt) (xs : List Value) (Ok : Nat → Prop) (w : World), countP p ≤ n → countP p ≤ 30 → Six w Ok p xs → Calls Tryd.prog 7 #[.agg xs.toArray] w fun e w' => e = .returned (.int .i64 (countP p : Int)) ∧ Below w.heap.size w w') := IH
  have HK : Hid (∀ W, Below w.heap.size w W → ∀ j q, ps[j]? = some q → ∃ b o ys, a = some ⟨b, o, none⟩ ∧ Six W Ok q ys ∧ ∀ i x, ys[i]? = some x → W.cell? ⟨b, o + j * 6 + i, none⟩ = some x) := by
    intro W hW j q hj
    obtain ⟨b, o, ys, h1, _, h3, h4⟩ := hkids j q hj
    exact ⟨b, o, ys, h1, h3.under hW, fun i x hx => (hW.cell (World.block_lt_of_cell? _ _ (h4 i x hx))).trans (h4 i x hx)⟩
  obtain ⟨N, hN⟩ : ∃ N, ps.length = N := ⟨_, rfl⟩
  have HN : Hid (ps.length = N) := hN
  rw [hN] at hps ⊢
  have ht : ([.string tb, .string bb, .int .i64 (lo : Int), .int .i64 (hi : Int), .int .i64 (ln : Int), .slice a N c] : List Value).toArray = #[.string tb, .string bb, .int .i64 (lo : Int), .int .i64 (hi : Int), .int .i64 (ln : Int), .slice a N c] := rfl
  rw [ht]
  obtain ⟨C, hC⟩ : ∃ C, countP (.mk tb.data.toList bb.data.toList lo hi ln ps) = C := ⟨_, rfl⟩
  have HC : Hid (1 + countPs ps = C) := by show _ = _; rw [← hC, countP]
  rw [hC]
  clear IH h hkids hn hc hN ht hC
  go_enter Tryd.func7, Tryd.ntmps7
  go_wp2_with fail
  have e1 := heap_alloc_new w (.cells #[.string tb, .string bb, .int .i64 (lo : Int), .int .i64 (hi : Int), .int .i64 (ln : Int), .slice a N c] 26)
  have b1 : Below w.heap.size w (w.alloc (.cells #[.string tb, .string bb, .int .i64 (lo : Int), .int .i64 (hi : Int), .int .i64 (ln : Int), .slice a N c] 26)) := (Below.refl _ _).alloc (Nat.le_refl _) _
  have z1 : (w.alloc (.cells #[.string tb, .string bb, .int .i64 (lo : Int), .int .i64 (hi : Int), .int .i64 (ln : Int), .slice a N c] 26)).heap.size = w.heap.size + 1 := by simp
  generalize w.alloc (.cells #[.string tb, .string bb, .int .i64 (lo : Int), .int .i64 (hi : Int), .int .i64 (ln : Int), .slice a N c] 26) = W1 at e1 b1 z1 ⊢
  go_loopw [3, 4] (fun nv i wr => ∃ k m : Nat, nv = .int .i64 (m : Int) ∧ i = .int .i64 (k : Int) ∧ k ≤ N ∧ m ≤ 30 ∧ Hid (m = 1 + countPs (ps.take k)) ∧ Below W1.heap.size W1 wr) (fun _ i _ => N - (intOf i).toNat)
  case atStart => exact ⟨0, 1, rfl, rfl, by omega, by omega, by show _ = _; simp [countPs], Below.refl _ _⟩
  case round =>
    obtain ⟨k, m, rfl, rfl, hk, hm30, HM, hbW⟩ := hrel
    have eBr := (hbW.block w.heap.size (by omega)).trans e1
    have x5 := rd_cell (j := 5) eBr rfl
    have hb0 := b1.trans (hbW.mono (by omega))
    by_cases hlt : k < N
    · have hkp : k < ps.length := by rw [HN.out]; exact hlt
      obtain ⟨q, hq⟩ : ∃ q, ps[k] = q := ⟨_, rfl⟩
      have hpk : ps[k]? = some q := by rw [List.getElem?_eq_getElem hkp, hq]
      obtain ⟨b, o, ys, rfl, hsix, hcells⟩ := HK.out wr hb0 k q hpk
      obtain ⟨xb, yb, l1, h1, n1, a1, k1, cc1, rfl⟩ := six_cells hsix
      have c0 := hcells 0 _ rfl
      have c1 := hcells 1 _ rfl
      have c2 := hcells 2 _ rfl
      have c3 := hcells 3 _ rfl
      have c4 := hcells 4 _ rfl
      have c5 := hcells 5 _ rfl
      rw [Nat.add_zero] at c0
      have cF := HIH.out q _ Ok wr (HCH.out k q hpk).1 (HCH.out k q hpk).2 hsix
      rw [show ([.string xb, .string yb, .int .i64 (l1 : Int), .int .i64 (h1 : Int), .int .i64 (n1 : Int), .slice a1 k1 cc1] : List Value).toArray = #[.string xb, .string yb, .int .i64 (l1 : Int), .int .i64 (h1 : Int), .int .i64 (n1 : Int), .slice a1 k1 cc1] from rfl] at cF
      have hq30 := (HCH.out k q hpk).2
      obtain ⟨cq, hcq⟩ : ∃ c, countP q = c := ⟨_, rfl⟩
      rw [hcq] at cF hq30
      have HM2 : Hid (m + cq = 1 + countPs (ps.take (k + 1))) := by show _ = _; rw [countPs_snoc hpk, HM.out, hcq]; omega
      have hm2 : m + cq ≤ 30 := by rw [HM2.out]; exact HCT.out _
      clear hcells hq hsix hcq
      go_wp2_with fail
      refine cF.mono ?_
      clear cF
      rintro e w5 ⟨rfl, hb5⟩
      go_wp2_with fail
      go_roundw
      case rel => exact ⟨k + 1, m + cq, by go_num, by go_num, by omega, hm2, HM2.out, hbW.trans (hb5.mono hbW.size)⟩
      case measure => simp [intOf]; omega
    · obtain rfl : m = C := by
        rw [← HC.out, HM.out, List.take_of_length_le (by rw [HN.out]; omega)]
      go_wp2_with fail
      go_ret
      exact ⟨rfl, hb0⟩
theorem count_is : ∀ (n : Nat) (p : Mm.Pt) (xs : List Value) (Ok : Nat → Prop) (w : World), countP p ≤ n → countP p ≤ 30 → Six w Ok p xs → Calls Tryd.prog 7 #[.agg xs.toArray] w fun e w' => e = .returned (.int .i64 (countP p : Int)) ∧ Below w.heap.size w w'
  | 0, p, _, _, _, h, _, _ => absurd h (by have := countP_pos p; omega)
  | n + 1, p, xs, Ok, w, h, hc, hs => count_step n (count_is n) p xs Ok w h hc hs
set_option maxHeartbeats 4000000 in
set_option maxRecDepth 100000 in
theorem kept_step (n : Nat)
    (IH : ∀ (p : Mm.Pt) (xs : List Value) (Ok : Nat → Prop) (x y : Nat) (w : World), countP p ≤ n → countP p ≤ 30 → Six w Ok p xs → Inside p x y → Calls Tryd.prog 6 #[.agg xs.toArray, .int .i64 (x : Int), .int .i64 (y : Int)] w fun e w' => e = .returned (.bool true) ∧ Below w.heap.size w w')
    (p : Mm.Pt) (xs : List Value) (Ok : Nat → Prop) (x y : Nat) (w : World) (hn : countP p ≤ n + 1) (hc : countP p ≤ 30) (h : Six w Ok p xs) (hin : Inside p x y) :
    Calls Tryd.prog 6 #[.agg xs.toArray, .int .i64 (x : Int), .int .i64 (y : Int)] w fun e w' => e = .returned (.bool true) ∧ Below w.heap.size w w' := by
  obtain ⟨t, b, lo, hi, ln, ps⟩ := p
  obtain ⟨i1, i2, i3, HRW'⟩ := hin
  have HRW : Hid (Row ps lo hi) := HRW'
  have hps : ps.length ≤ 29 := by rw [countP] at hc; have := parts_few ps; omega
  have HCH : Hid (∀ (j : Nat) q, ps[j]? = some q → countP q ≤ n ∧ countP q ≤ 30) := by
    intro j q hj
    have h2 := part_few (List.mem_of_getElem? hj)
    rw [countP] at hc hn
    exact ⟨by omega, by omega⟩
  obtain ⟨tb, bb, a, c, rfl, rfl, rfl, hkids⟩ := six_kids h
  have HIH : Hid (∀ (p : Mm.Pt) (xs : List Value) (Ok : Nat → Prop) (x y : Nat) (w : World), countP p ≤ n → countP p ≤ 30 → Six w Ok p xs → Inside p x y → Calls Tryd.prog 6 #[.agg xs.toArray, .int .i64 (x : Int), .int .i64 (y : Int)] w fun e w' => e = .returned (.bool true) ∧ Below w.heap.size w w') := IH
  have HK : Hid (∀ W, Below w.heap.size w W → ∀ j q, ps[j]? = some q → ∃ b o ys, a = some ⟨b, o, none⟩ ∧ Six W Ok q ys ∧ ∀ i x, ys[i]? = some x → W.cell? ⟨b, o + j * 6 + i, none⟩ = some x) := by
    intro W hW j q hj
    obtain ⟨b, o, ys, h1, _, h3, h4⟩ := hkids j q hj
    exact ⟨b, o, ys, h1, h3.under hW, fun i x hx => (hW.cell (World.block_lt_of_cell? _ _ (h4 i x hx))).trans (h4 i x hx)⟩
  obtain ⟨N, hN⟩ : ∃ N, ps.length = N := ⟨_, rfl⟩
  have HN : Hid (ps.length = N) := hN
  rw [hN] at hps ⊢
  have ht : ([.string tb, .string bb, .int .i64 (lo : Int), .int .i64 (hi : Int), .int .i64 (ln : Int), .slice a N c] : List Value).toArray = #[.string tb, .string bb, .int .i64 (lo : Int), .int .i64 (hi : Int), .int .i64 (ln : Int), .slice a N c] := rfl
  rw [ht]
  have j1 : ¬ (lo : Int) < (x : Int) := by omega
  have j2 : ¬ (y : Int) < (hi : Int) := by omega
  have j3 : ¬ (hi : Int) < (lo : Int) := by omega
  have j4 : ¬ (ln : Int) < 0 := by omega
  clear IH h hkids hn hc hN ht HRW'
  go_enter Tryd.func6, Tryd.ntmps6
  go_wp2_with fail
  have e1 := heap_alloc_new w (.cells #[.string tb, .string bb, .int .i64 (lo : Int), .int .i64 (hi : Int), .int .i64 (ln : Int), .slice a N c] 26)
  have b1 : Below w.heap.size w (w.alloc (.cells #[.string tb, .string bb, .int .i64 (lo : Int), .int .i64 (hi : Int), .int .i64 (ln : Int), .slice a N c] 26)) := (Below.refl _ _).alloc (Nat.le_refl _) _
  have z1 : (w.alloc (.cells #[.string tb, .string bb, .int .i64 (lo : Int), .int .i64 (hi : Int), .int .i64 (ln : Int), .slice a N c] 26)).heap.size = w.heap.size + 1 := by simp
  generalize w.alloc (.cells #[.string tb, .string bb, .int .i64 (lo : Int), .int .i64 (hi : Int), .int .i64 (ln : Int), .slice a N c] 26) = W1 at e1 b1 z1 ⊢
  go_loopw [7, 8] (fun av i wr => ∃ k m : Nat, av = .int .i64 (m : Int) ∧ i = .int .i64 (k : Int) ∧ k ≤ N ∧ Hid (Row (ps.drop k) m hi) ∧ Below W1.heap.size W1 wr) (fun _ i _ => N - (intOf i).toNat)
  case atStart => exact ⟨0, lo, rfl, rfl, by omega, HRW.out, Below.refl _ _⟩
  case round =>
    obtain ⟨k, m, rfl, rfl, hk, HM, hbW⟩ := hrel
    have eBr := (hbW.block w.heap.size (by omega)).trans e1
    have x5 := rd_cell (j := 5) eBr rfl
    have x3 := rd_cell (j := 3) eBr rfl
    have hb0 := b1.trans (hbW.mono (by omega))
    by_cases hlt : k < N
    · have hkp : k < ps.length := by rw [HN.out]; exact hlt
      obtain ⟨q, hq⟩ : ∃ q, ps[k] = q := ⟨_, rfl⟩
      have hpk : ps[k]? = some q := by rw [List.getElem?_eq_getElem hkp, hq]
      have hrw := HM.out
      rw [List.drop_eq_getElem_cons hkp, hq] at hrw
      have HQI : Hid (Inside q m hi) := hrw.1
      have HQR : Hid (Row (ps.drop (k + 1)) q.hi hi) := hrw.2
      have hcq := HCH.out k q hpk
      obtain ⟨b, o, ys, rfl, hsix, hcells⟩ := HK.out wr hb0 k q hpk
      obtain ⟨qt, qb, l1, h1, n1, qs⟩ := q
      obtain ⟨xb, yb, a1, cc1, rfl, rfl, rfl, _⟩ := six_kids hsix
      have hl1 : m ≤ l1 := HQI.out.1
      obtain ⟨k1, hk1⟩ : ∃ k, qs.length = k := ⟨_, rfl⟩
      rw [hk1] at hsix hcells
      have c0 := hcells 0 _ rfl
      have c1 := hcells 1 _ rfl
      have c2 := hcells 2 _ rfl
      have c3 := hcells 3 _ rfl
      have c4 := hcells 4 _ rfl
      have c5 := hcells 5 _ rfl
      rw [Nat.add_zero] at c0
      have hbA : Below wr.heap.size wr (wr.alloc (.cells #[.string xb, .string yb, .int .i64 (l1 : Int), .int .i64 (h1 : Int), .int .i64 (n1 : Int), .slice a1 k1 cc1] 26)) := (Below.refl _ _).alloc (Nat.le_refl _) _
      have eA := heap_alloc_new wr (.cells #[.string xb, .string yb, .int .i64 (l1 : Int), .int .i64 (h1 : Int), .int .i64 (n1 : Int), .slice a1 k1 cc1] 26)
      have t0 := rd_cell (j := 0) eA rfl
      have t1 := rd_cell (j := 1) eA rfl
      have t2 := rd_cell (j := 2) eA rfl
      have t3 := rd_cell (j := 3) eA rfl
      have t4 := rd_cell (j := 4) eA rfl
      have t5 := rd_cell (j := 5) eA rfl
      have y3 := (hbA.cell (p := ⟨w.heap.size, 3, none⟩) (by show w.heap.size < _; have := hbW.size; omega)).trans x3
      have hlA : wr.heap.size < (wr.alloc (.cells #[.string xb, .string yb, .int .i64 (l1 : Int), .int .i64 (h1 : Int), .int .i64 (n1 : Int), .slice a1 k1 cc1] 26)).heap.size := by simp
      have q1 : decide ((l1 : Int) < (m : Int)) = false := decide_eq_false (by omega)
      have cF := HIH.out _ _ Ok m hi (wr.alloc (.cells #[.string xb, .string yb, .int .i64 (l1 : Int), .int .i64 (h1 : Int), .int .i64 (n1 : Int), .slice a1 k1 cc1] 26)) hcq.1 hcq.2 (hsix.under hbA) HQI.out
      rw [show ([.string xb, .string yb, .int .i64 (l1 : Int), .int .i64 (h1 : Int), .int .i64 (n1 : Int), .slice a1 k1 cc1] : List Value).toArray = #[.string xb, .string yb, .int .i64 (l1 : Int), .int .i64 (h1 : Int), .int .i64 (n1 : Int), .slice a1 k1 cc1] from rfl] at cF
      have HQR2 : Hid (Row (ps.drop (k + 1)) h1 hi) := HQR.out
      clear hcells hq hsix hcq HQI HQR hrw hpk HM eA hk1
      go_wp2_with fail
      refine cF.mono ?_
      clear cF
      rintro e w5 ⟨rfl, hb5⟩
      have s3 := (hb5.cell (p := ⟨wr.heap.size, 3, none⟩) hlA).trans t3
      go_wp2_with fail
      go_roundw
      case rel => exact ⟨k + 1, h1, rfl, by go_num, by omega, HQR2.out, hbW.trans ((hbA.trans (hb5.mono hbA.size)).mono hbW.size)⟩
      case measure => simp [intOf]; omega
    · go_wp2_with fail
      go_ret
      exact ⟨rfl, hb0⟩
theorem kept_is : ∀ (n : Nat) (p : Mm.Pt) (xs : List Value) (Ok : Nat → Prop) (x y : Nat) (w : World), countP p ≤ n → countP p ≤ 30 → Six w Ok p xs → Inside p x y → Calls Tryd.prog 6 #[.agg xs.toArray, .int .i64 (x : Int), .int .i64 (y : Int)] w fun e w' => e = .returned (.bool true) ∧ Below w.heap.size w w'
  | 0, p, _, _, _, _, _, h, _, _, _ => absurd h (by have := countP_pos p; omega)
  | n + 1, p, xs, Ok, x, y, w, h, hc, hs, hin => kept_step n (kept_is n) p xs Ok x y w h hc hs hin
end Go.Proofs.YtgbbkdflnlagaaaDoor
