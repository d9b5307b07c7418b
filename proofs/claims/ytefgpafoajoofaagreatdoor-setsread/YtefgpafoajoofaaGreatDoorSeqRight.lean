/-
  What seq.Right does.
-/
import Derived.Test.YtefgpafoajoofaaGreatDoorSeqBase
namespace Go.Proofs.YtefgpafoajoofaaGreatDoor
open Go.RowKit Go.Proofs.Aid Go.Proofs.Sq

def okR (r : Int × Int) : Bool := decide (0 ≤ r.1 ∧ r.1 ≤ 2147483647) && decide (0 ≤ r.2 ∧ r.2 ≤ 2147483647)
theorem may_any (n : Int) (w : World) : Calls Tryz.prog 62 #[.int .i64 n] w fun e w' => e = .returned (.bool (decide (0 ≤ n ∧ n ≤ 2147483647))) ∧ w' = w := by
  by_cases h0 : 0 ≤ n
  · by_cases h1 : n ≤ 2147483647
    · rw [decide_eq_true ⟨h0, h1⟩]
      go_enter Tryz.func62, Tryz.ntmps62
      go_wp2
      go_ret
      exact ⟨by simp, rfl⟩
    · rw [decide_eq_false (by omega)]
      go_enter Tryz.func62, Tryz.ntmps62
      go_wp2
      go_ret
      exact ⟨by simp, rfl⟩
  · rw [decide_eq_false (by omega)]
    go_enter Tryz.func62, Tryz.ntmps62
    go_wp2
    go_ret
    exact ⟨rfl, rfl⟩
set_option maxHeartbeats 1000000 in
set_option maxRecDepth 100000 in
theorem right_any (v : Value) (l : List (Int × Int)) (w : World) (h : Rg w v l) :
    Calls Tryz.prog 12 #[v] w fun e w' => e = .returned (.bool (rightR l)) ∧ Below w.heap.size w w' := by
  obtain ⟨a, c, rfl, ha⟩ := h
  by_cases h1 : l.length < 1
  · have hr : rightR l = false := by simp [rightR]; intro h2; omega
    rw [hr]
    go_enter Tryz.func12, Tryz.ntmps12
    go_wp2
    go_ret
    exact ⟨rfl, Below.refl _ _⟩
  by_cases h2 : 20 < l.length
  · have hr : rightR l = false := by simp [rightR]; intro h2; omega
    rw [hr]
    go_enter Tryz.func12, Tryz.ntmps12
    go_wp2
    go_ret
    exact ⟨rfl, Below.refl _ _⟩
  rcases ha with rfl | ⟨b, o, rfl, hat⟩
  · simp at h1
  have hr : rightR l = l.all okR := by
    unfold rightR
    rw [decide_eq_true (by omega), Bool.true_and]; rfl
  rw [hr]
  obtain ⟨ANS, hANS⟩ : ∃ ANS, l.all okR = ANS := ⟨_, rfl⟩
  rw [hANS]
  obtain ⟨n, hn⟩ : ∃ n, l.length = n := ⟨_, rfl⟩
  rw [hn] at h1 h2 ⊢
  have hbig : n ≤ 9223372036854775807 := by omega
  go_enter Tryz.func12, Tryz.ntmps12
  go_wp2
  go_loopw [16] (fun i wr => ∃ k : Nat, i = .int .i64 (k : Int) ∧ k ≤ n ∧ (l.drop k).all okR = ANS ∧ Below w.heap.size w wr) (fun i _ => n - (intOf i).toNat)
  case atStart => exact ⟨0, rfl, by omega, by simpa using hANS, Below.refl _ _⟩
  case round =>
    obtain ⟨k, rfl, hk, hd, hb⟩ := hrel
    by_cases hlt : k < n
    · have hlk : l[k]? = some l[k] := List.getElem?_eq_getElem _
      obtain ⟨c1, c2⟩ := (hat.below hb (Nat.le_refl _)) k _ hlk
      rw [List.drop_eq_getElem_cons (by omega), List.all_cons] at hd
      obtain ⟨⟨x, y⟩, hxy⟩ : ∃ p, l[k]'(by omega) = p := ⟨_, rfl⟩
      rw [hxy] at c1 c2 hd
      simp only at c1 c2
      have m1 := may_any x
      have m2 := may_any y
      rw [show okR (x, y) = (decide (0 ≤ x ∧ x ≤ 2147483647) && decide (0 ≤ y ∧ y ≤ 2147483647)) from rfl] at hd
      generalize decide (0 ≤ x ∧ x ≤ 2147483647) = bx at m1 hd
      generalize decide (0 ≤ y ∧ y ≤ 2147483647) = b_y at m2 hd
      clear hANS hr hlk hxy hat
      cases bx
      · have HD : Hid (false = ANS) := by show false = ANS; simpa using hd
        clear hd
        go_wp2_with fail
        refine (m1 _).mono ?_
        rintro e w1 ⟨rfl, rfl⟩
        go_wp2
        go_ret
        exact ⟨congrArg (fun b => Ending.returned (Value.bool b)) HD, hb.alloc hb.size _⟩
      · cases b_y
        · have HD : Hid (false = ANS) := by show false = ANS; simpa using hd
          clear hd
          go_wp2_with fail
          refine (m1 _).mono ?_
          rintro e w1 ⟨rfl, rfl⟩
          go_wp2_with fail
          refine (m2 _).mono ?_
          rintro e w1 ⟨rfl, rfl⟩
          go_wp2
          go_ret
          exact ⟨congrArg (fun b => Ending.returned (Value.bool b)) HD, hb.alloc hb.size _⟩
        · have HD : Hid ((l.drop (k + 1)).all okR = ANS) := by show _ = ANS; simpa using hd
          clear hd
          go_wp2_with fail
          refine (m1 _).mono ?_
          rintro e w1 ⟨rfl, rfl⟩
          go_wp2_with fail
          refine (m2 _).mono ?_
          rintro e w1 ⟨rfl, rfl⟩
          go_wp2
          go_roundw
          case rel => exact ⟨k + 1, by go_num, by omega, HD, hb.alloc hb.size _⟩
          case measure => simp [intOf]; omega
    · have HD : Hid (true = ANS) := by
        show true = ANS
        rw [List.drop_eq_nil_of_le (by omega)] at hd
        simpa using hd
      clear hd hANS hat hr
      go_wp2
      go_ret
      exact ⟨congrArg (fun b => Ending.returned (Value.bool b)) HD, hb⟩
end Go.Proofs.YtefgpafoajoofaaGreatDoor
