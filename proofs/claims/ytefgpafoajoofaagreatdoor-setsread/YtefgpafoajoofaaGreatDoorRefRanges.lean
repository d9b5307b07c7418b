/-
  The document's answers on ranges: Right, Has.
-/
import Derived.Test.YtefgpafoajoofaaGreatDoorSeqRight
import Derived.Test.YtefgpafoajoofaaGreatDoorSeqHas
namespace Go.Proofs.YtefgpafoajoofaaGreatDoor
open Go.RowKit Go.Proofs.Aid Go.Proofs.Sq

theorem ref_in (n a b : Int) (w : World) : Calls Tryz.prog 63 #[.int .i64 n, .int .i64 a, .int .i64 b] w fun e w' => e = .returned (.bool (decide (a ≤ n ∧ n ≤ b))) ∧ w' = w := by
  by_cases h0 : a ≤ n
  · by_cases h1 : n ≤ b
    · rw [decide_eq_true ⟨h0, h1⟩]
      go_enter Tryz.func63, Tryz.ntmps63
      go_wp2
      go_ret
      exact ⟨by simp, rfl⟩
    · rw [decide_eq_false (by omega)]
      go_enter Tryz.func63, Tryz.ntmps63
      go_wp2
      go_ret
      exact ⟨by simp, rfl⟩
  · rw [decide_eq_false (by omega)]
    go_enter Tryz.func63, Tryz.ntmps63
    go_wp2
    go_ret
    exact ⟨rfl, rfl⟩
set_option maxHeartbeats 1000000 in
set_option maxRecDepth 100000 in
theorem ref_ranges (v : Value) (l : List (Int × Int)) (w : World) (h : Rg w v l) (hl : l.length ≤ 1000) :
    Calls Tryz.prog 13 #[v] w fun e w' => e = .returned (.bool (rightR l)) ∧ Below w.heap.size w w' := by
  obtain ⟨a, c, rfl, ha⟩ := h
  have hr : rightR l = (l.all okR && decide ((1 : Int) ≤ (l.length : Int) ∧ (l.length : Int) ≤ 20)) := by
    unfold rightR
    rw [Bool.and_comm]
    congr 1
    rw [Bool.eq_iff_iff, decide_eq_true_eq, decide_eq_true_eq]; omega
  rw [hr]
  obtain ⟨ANS, hANS⟩ : ∃ ANS, l.all okR = ANS := ⟨_, rfl⟩
  rw [hANS]
  obtain ⟨n, hn⟩ : ∃ n, l.length = n := ⟨_, rfl⟩
  rw [hn] at hl ⊢
  have cI : ∀ W, Calls Tryz.prog 63 #[.int .i64 (n : Int), .int .i64 1, .int .i64 20] W fun e w' => e = .returned (.bool (decide ((1 : Int) ≤ (n : Int) ∧ (n : Int) ≤ 20))) ∧ w' = W := fun W => ref_in _ _ _ W
  generalize decide ((1 : Int) ≤ (n : Int) ∧ (n : Int) ≤ 20) = D at cI ⊢
  have hbig : n ≤ 9223372036854775807 := by omega
  clear hr
  go_enter Tryz.func13, Tryz.ntmps13
  go_wp2
  go_loopw [7] (fun i wr => ∃ k : Nat, i = .int .i64 (k : Int) ∧ k ≤ n ∧ (l.drop k).all okR = ANS ∧ Below w.heap.size w wr) (fun i _ => n - (intOf i).toNat)
  case atStart => exact ⟨0, rfl, by omega, by simpa using hANS, Below.refl _ _⟩
  case round =>
    obtain ⟨k, rfl, hk, hd, hb⟩ := hrel
    by_cases hlt : k < n
    · rcases ha with rfl | ⟨b, o, rfl, hat⟩
      · simp at hn; omega
      have hlk : l[k]? = some l[k] := List.getElem?_eq_getElem _
      obtain ⟨c1, c2⟩ := (hat.below hb (Nat.le_refl _)) k _ hlk
      rw [List.drop_eq_getElem_cons (by omega), List.all_cons] at hd
      obtain ⟨⟨x, y⟩, hxy⟩ : ∃ p, l[k]'(by omega) = p := ⟨_, rfl⟩
      rw [hxy] at c1 c2 hd
      simp only at c1 c2
      have m1 := ref_in x 0 2147483647
      have m2 := ref_in y 0 2147483647
      rw [show okR (x, y) = (decide (0 ≤ x ∧ x ≤ 2147483647) && decide (0 ≤ y ∧ y ≤ 2147483647)) from rfl] at hd
      generalize decide (0 ≤ x ∧ x ≤ 2147483647) = bx at m1 hd
      generalize decide (0 ≤ y ∧ y ≤ 2147483647) = b_y at m2 hd
      clear hANS hlk hxy hat cI
      cases bx
      · have HD : Hid (false = ANS) := by show false = ANS; simpa using hd
        clear hd
        go_wp2_with fail
        refine (m1 _).mono ?_
        rintro e w1 ⟨rfl, rfl⟩
        go_wp2
        go_ret
        exact ⟨by rw [← HD.out]; rfl, hb.alloc hb.size _⟩
      · cases b_y
        · have HD : Hid (false = ANS) := by show false = ANS; simpa using hd
          clear hd
          go_wp2_with fail
          refine (m1 _).mono ?_
          rintro e w1 ⟨rfl, rfl⟩
          go_wp2_with fail
          refine (m2 _).mono ?_
          rintro e w1 ⟨rfl, rfl⟩
          go_wp2
          go_ret
          exact ⟨by rw [← HD.out]; rfl, hb.alloc hb.size _⟩
        · have HD : Hid ((l.drop (k + 1)).all okR = ANS) := by show _ = ANS; simpa using hd
          clear hd
          go_wp2_with fail
          refine (m1 _).mono ?_
          rintro e w1 ⟨rfl, rfl⟩
          go_wp2_with fail
          refine (m2 _).mono ?_
          rintro e w1 ⟨rfl, rfl⟩
          go_wp2
          go_roundw
          case rel => exact ⟨k + 1, by go_num, by omega, HD, hb.alloc hb.size _⟩
          case measure => simp [intOf]; omega
    · have HD : Hid (true = ANS) := by
        show true = ANS
        rw [List.drop_eq_nil_of_le (by omega)] at hd
        simpa using hd
      clear hd hANS ha
      go_wp2_with fail
      refine (cI _).mono ?_
      rintro e w1 ⟨rfl, rfl⟩
      go_wp2
      go_ret
      exact ⟨by rw [← HD.out]; simp, hb⟩
end Go.Proofs.YtefgpafoajoofaaGreatDoor
