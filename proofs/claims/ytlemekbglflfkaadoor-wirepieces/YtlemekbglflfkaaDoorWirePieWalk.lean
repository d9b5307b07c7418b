/-
  The walk of WirePieces.
-/
import Derived.Test.YtlemekbglflfkaaDoorWireFact
import Derived.Test.YtlemekbglflfkaaDoorWirePre
namespace Go.Proofs.YtlemekbglflfkaaDoor
open Go.RowKit Go.Proofs.Aid Go.Proofs.Hd

theorem wrap_nonneg (a : Int) : 0 ≤ IntKind.u64.wrap a := by
  have e1 : IntKind.u64.bits = 64 := rfl
  unfold IntKind.wrap
  rw [e1]
  simp only [IntKind.signed]
  first | omega | (simp; omega) | (split <;> omega)
theorem urem (n : Int) (k : Nat) (hk : 0 < k) : ∃ A : Nat, (IntKind.u64.wrap n).tmod (k : Int) = (A : Int) ∧ A < k := by
  have h0 : 0 ≤ IntKind.u64.wrap n := wrap_nonneg n
  rw [Int.tmod_eq_emod_of_nonneg h0]
  have h1 := Int.emod_nonneg (IntKind.u64.wrap n) (show (k : Int) ≠ 0 by omega)
  have h2 := Int.emod_lt_of_pos (IntKind.u64.wrap n) (show (0 : Int) < (k : Int) by omega)
  exact ⟨(IntKind.u64.wrap n % (k : Int)).toNat, by omega, by omega⟩
theorem wpick_is (a : Int) (k : Nat) (hk : 0 < k) (hk2 : k ≤ 100000) (w : World) : Calls Tryd.prog 16 #[.int .i64 a, .int .i64 (k : Int)] w fun e w' => (∃ r : Nat, r < k ∧ e = .returned (.int .i64 (r : Int))) ∧ w' = w := by
  obtain ⟨A, hA, hA2⟩ := urem a k hk
  have q : IntKind.u64.wrap (k : Int) = (k : Int) := by
    have e1 : IntKind.u64.bits = 64 := rfl
    unfold IntKind.wrap
    rw [e1]
    simp only [IntKind.signed]
    first | omega | (simp; omega) | (split <;> omega)
  have hA3 : A ≤ 100000 := by omega
  have hk0 : ¬ (k : Int) = 0 := by omega
  go_enter Tryd.func16, Tryd.ntmps16
  go_wp2_with fail
  go_ret
  exact ⟨⟨A, hA2, rfl⟩, rfl⟩
theorem pieces_big (s : ByteArray) (at' : Int) (w : World) (hs : 1500 < s.size) :
    Calls Tryd.prog 6 #[.string s, .int .i64 at'] w fun e w' => e = .returned (.bool true) ∧ Below w.heap.size w w' := by
  have d : decide ((1500 : Int) < (s.size : Int)) = true := decide_eq_true (by omega)
  go_enter Tryd.func6, Tryd.ntmps6
  go_wp2_with fail
  go_ret
  exact ⟨rfl, Below.refl _ _⟩
set_option maxHeartbeats 4000000 in
set_option maxRecDepth 100000 in
theorem pieces_small (s : ByteArray) (at' mx : Int) (w : World) (hs : s.size ≤ 1500) (hg : NumAt w) (hm : w.cell? ⟨0, 0, none⟩ = some (.int .i64 mx)) :
    Calls Tryd.prog 6 #[.string s, .int .i64 at'] w fun e w' => e = .returned (.bool true) ∧ Below w.heap.size w w' := by
  have K0 : Hid (∀ W, Below w.heap.size w W → NumAt W ∧ W.cell? ⟨0, 0, none⟩ = some (.int .i64 mx)) := fun W h => ⟨hg.below h, (h.cell (World.block_lt_of_cell? _ _ hm)).trans hm⟩
  have d : decide ((1500 : Int) < (s.size : Int)) = false := decide_eq_false (by omega)
  have cW := wired_is mx w hm hg
  have cPk : ∀ W, Calls Tryd.prog 16 #[.int .i64 at', .int .i64 ((s.size : Int) + 1)] W fun e w' => (∃ r : Nat, r < s.size + 1 ∧ e = .returned (.int .i64 (r : Int))) ∧ w' = W := fun W => by
    have := wpick_is at' (s.size + 1) (by omega) (by omega) W
    rw [show ((s.size + 1 : Nat) : Int) = (s.size : Int) + 1 by omega] at this
    exact this
  clear hg hm
  go_enter Tryd.func6, Tryd.ntmps6
  go_wp2_with fail
  refine cW.mono ?_
  rintro e w1 ⟨rfl, hb1⟩
  have HB1 : Hid (Below w.heap.size w w1) := hb1
  clear cW hb1
  go_wp2_with fail
  refine (cPk _).mono ?_
  rintro e w2 ⟨⟨q, hq, rfl⟩, hw2⟩
  obtain rfl : w1 = w2 := hw2.symm
  clear cPk
  have hqs : q ≤ s.size := by omega
  obtain ⟨U, hU⟩ : ∃ U, s.extract 0 q = U := ⟨_, rfl⟩
  have hUl : U.data.toList = s.data.toList.take q := by rw [← hU, Lib.extract_from_zero]
  have hUs : U.size ≤ 1500 := by rw [← wsize, hUl, List.length_take, wsize]; omega
  have c1 := next_is U mx w1 (by omega) (K0.out w1 HB1.out).2 (K0.out w1 HB1.out).1
  rw [hUl] at c1
  obtain ⟨E1, E2⟩ := next_pieces s.data.toList q (by rw [wsize]; exact hqs) (by rw [wsize]; omega) s.size 0 0 (by rw [wsize]; omega) (by omega)
  obtain ⟨_, E3⟩ := next_ends (s.data.toList.take q) (s.data.toList.take q).length 0 0 (by omega)
  rw [List.length_take, wsize, Nat.min_eq_left hqs] at E3
  obtain ⟨⟨n1, k1, b1⟩, hN1⟩ : ∃ a, nextW (s.data.toList.take q) 0 0 = a := ⟨_, rfl⟩
  obtain ⟨⟨n2, k2, b2⟩, hN2⟩ : ∃ a, nextW s.data.toList 0 0 = a := ⟨_, rfl⟩
  rw [hN1] at c1 E1 E2 E3
  rw [hN2] at E1 E2
  simp only at E1 E2 E3
  have c1 : Calls Tryd.prog 10 #[.string U] w1 fun e w' => e = .returned (.tuple #[.int .i64 (n1 : Int), .int .i64 (k1 : Int), limV b1]) ∧ Below w1.heap.size w1 w' := c1
  have HN2 : Hid (nextW s.data.toList 0 0 = (n2, k2, b2)) := hN2
  have HE1 : Hid (b1 = true → b2 = true) := E1
  have HE2 : Hid (b1 = false → b2 = false → k1 ≤ k2 ∧ (n1 = 0 ∨ n1 = n2 ∧ k1 = k2) ∧ (n2 = 0 ∨ q < n2 ∨ n1 = n2)) := E2
  have HE3 : Hid (n1 = 0 ∨ 0 < n1 ∧ n1 ≤ q) := E3
  clear hN1 hN2 hUl E1 E2 E3
  go_wp2_with fail
  refine c1.mono ?_
  rintro e w2 ⟨rfl, hb2⟩
  have HB2 : Hid (Below w.heap.size w w2) := HB1.out.trans (hb2.mono HB1.out.size)
  clear c1 hb2 HB1
  have c2 := next_is s mx w2 (by omega) (K0.out w2 HB2.out).2 (K0.out w2 HB2.out).1
  rw [HN2.out] at c2
  have c2 : Calls Tryd.prog 10 #[.string s] w2 fun e w' => e = .returned (.tuple #[.int .i64 (n2 : Int), .int .i64 (k2 : Int), limV b2]) ∧ Below w2.heap.size w2 w' := c2
  go_wp2_with fail
  refine c2.mono ?_
  rintro e w3 ⟨rfl, hb3⟩
  have HB3 : Hid (Below w.heap.size w w3) := HB2.out.trans (hb3.mono HB2.out.size)
  clear c2 hb3 HB2 HN2
  cases b1 with
  | true =>
    obtain rfl : b2 = true := HE1.out rfl
    rw [show limV true = .iface 24 (.int .i64 4) from rfl]
    go_wp2_with fail
    go_ret
    exact ⟨rfl, HB3.out⟩
  | false =>
    rw [show limV false = .nilIface from rfl]
    cases b2 with
    | true =>
      rw [show limV true = .iface 24 (.int .i64 4) from rfl]
      go_wp2_with fail
      go_ret
      exact ⟨rfl, HB3.out⟩
    | false =>
      rw [show limV false = .nilIface from rfl]
      obtain ⟨F1, F2, F3⟩ := HE2.out rfl rfl
      have F4 := HE3.out
      have g1 : decide (k1 ≤ k2) = true := decide_eq_true (by omega)
      have g2 : decide (n1 ≤ q) = true := decide_eq_true (by omega)
      have g3 : k1 ≤ k2 := by omega
      have g4 : n1 ≤ q := by omega
      by_cases hn1 : n1 = 0
      · have e1 : ((n1 : Int) == 0) = true := by simp [hn1]
        by_cases hn2 : n2 = 0
        · have e4 : ((n2 : Int) == 0) = true := by simp [hn2]
          clear F1 F2 F3 F4 hn1 hn2 HE1 HE2 HE3
          go_wp2_with fail
          go_ret
          exact ⟨rfl, HB3.out⟩
        · have e4 : ((n2 : Int) == 0) = false := by simp [hn2]
          have e5 : decide (q < n2) = true := decide_eq_true (by omega)
          clear F1 F2 F3 F4 hn1 hn2 HE1 HE2 HE3
          go_wp2_with fail
          go_ret
          exact ⟨rfl, HB3.out⟩
      · have e1 : ((n1 : Int) == 0) = false := by simp [hn1]
        have e2 : ((n1 : Int) == (n2 : Int)) = true := by simp; omega
        have e3 : ((k1 : Int) == (k2 : Int)) = true := by simp; omega
        have e4 : ((n2 : Int) == 0) = false := by simp; omega
        by_cases hn2 : q < n2
        · have e5 : decide (q < n2) = true := decide_eq_true (by omega)
          clear F1 F2 F3 F4 hn1 hn2 HE1 HE2 HE3
          go_wp2_with fail
          go_ret
          exact ⟨rfl, HB3.out⟩
        · have e5 : decide (q < n2) = false := decide_eq_false (by omega)
          clear F1 F2 F3 F4 hn1 hn2 HE1 HE2 HE3
          go_wp2_with fail
          go_ret
          exact ⟨rfl, HB3.out⟩
end Go.Proofs.YtlemekbglflfkaaDoor
