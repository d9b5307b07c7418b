/-
  What the functions of package flags do that put flags in order: rank, compare; the library's comparison of texts.
-/
import Derived.Test.YtgpcnacpefficaaGreatDoorMFlagsLetters
import Derived.Sort.Walk0
import Derived.Lib.Small
namespace Go.Proofs.YtgpcnacpefficaaGreatDoor
open Go.RowKit Go.Proofs.Aid Go.Proofs.Fl

/-- The text is none of the first k. -/
def other (s : Tx) (k : Nat) : Prop := ∀ j, j < k → s ≠ five.getD j []
theorem other_succ {s : Tx} {k : Nat} (h : other s k) (he : s ≠ five.getD k []) : other s (k + 1) := fun j hj => by
  rcases Nat.lt_or_eq_of_le (Nat.le_of_lt_succ hj) with h1 | rfl
  · exact h j h1
  · exact he
theorem rank_hit {s : Tx} {k : Nat} (hk : k < 5) (h : other s k) (he : s = five.getD k []) : rank s = k := by
  have h0 := h 0; have h1 := h 1; have h2 := h 2; have h3 := h 3
  subst he
  have : k = 0 ∨ k = 1 ∨ k = 2 ∨ k = 3 ∨ k = 4 := by omega
  rcases this with rfl | rfl | rfl | rfl | rfl <;> decide
theorem rank_miss {s : Tx} (h : other s 5) : rank s = 5 := by
  have : s ∉ five := by
    intro hm
    obtain ⟨j, hj, rfl⟩ := List.getElem_of_mem hm
    exact h j hj (by rw [List.getD_eq_getElem?_getD, List.getElem?_eq_getElem hj]; rfl)
  unfold rank
  rw [List.idxOf_eq_length this]
  rfl
set_option maxHeartbeats 1000000 in
set_option maxRecDepth 100000 in
theorem rank_any (s : ByteArray) (w : World) (hg : SysAt w) : Calls Tryz.prog 93 #[.string s] w fun e w' => e = .returned (.int .i64 (rank s.data.toList : Nat)) ∧ w' = w := by
  have c0 := hg 0 (by omega)
  have c1 := hg 1 (by omega)
  have c2 := hg 2 (by omega)
  have c3 := hg 3 (by omega)
  have c4 := hg 4 (by omega)
  clear hg
  have i0 := Tryz.ix0
  have i1 := Tryz.ix1
  have i2 := Tryz.ix2
  have i3 := Tryz.ix3
  have i4 := Tryz.ix4
  obtain ⟨R, hR⟩ : ∃ R, rank s.data.toList = R := ⟨_, rfl⟩
  rw [hR]
  have HR : Hid (rank s.data.toList = R) := hR
  clear hR
  go_enter Tryz.func93, Tryz.ntmps93
  go_wp2
  go_loop [6] (fun i => ∃ k : Nat, i = .int .i64 (k : Int) ∧ k ≤ 5 ∧ other s.data.toList k) (fun i => 5 - (intOf i).toNat)
  case atStart => exact ⟨0, rfl, by omega, fun j hj => absurd hj (by omega)⟩
  case round =>
    obtain ⟨k, rfl, hk, hno⟩ := hrel
    have HN : Hid (other s.data.toList k) := hno
    clear hno
    by_cases hlt : k < 5
    · obtain ⟨B, hB⟩ : ∃ B, (s.toList == (sysB k).toList) = B := ⟨_, rfl⟩
      have HB : Hid (B = decide (s.data.toList = five.getD k [])) := by
        show B = _
        rw [← hB, Lib.toList_data, Lib.toList_data, sysB_data, Bool.eq_iff_iff]; simp
      have hk5 : k = 0 ∨ k = 1 ∨ k = 2 ∨ k = 3 ∨ k = 4 := by omega
      cases B
      · have HO := HB.out
        rcases hk5 with rfl | rfl | rfl | rfl | rfl
        all_goals
          clear HO
          go_wp2
          go_round
          case rel => first | exact ⟨1, rfl, by omega, other_succ HN.out (of_decide_eq_false HB.out.symm)⟩ | exact ⟨2, rfl, by omega, other_succ HN.out (of_decide_eq_false HB.out.symm)⟩ | exact ⟨3, rfl, by omega, other_succ HN.out (of_decide_eq_false HB.out.symm)⟩ | exact ⟨4, rfl, by omega, other_succ HN.out (of_decide_eq_false HB.out.symm)⟩ | exact ⟨5, rfl, by omega, other_succ HN.out (of_decide_eq_false HB.out.symm)⟩
          case measure => simp [intOf]
      · rcases hk5 with rfl | rfl | rfl | rfl | rfl
        all_goals
          go_wp2
          go_ret
          exact ⟨by rw [← HR.out, rank_hit hlt HN.out (of_decide_eq_true HB.out.symm)]; rfl, rfl⟩
    · have hk5 : k = 5 := by omega
      subst hk5
      go_wp2
      go_ret
      exact ⟨by rw [← HR.out, rank_miss HN.out]; rfl, rfl⟩
theorem nan_any (s : ByteArray) (w : World) : Calls Tryz.prog 109 #[.string s] w fun e w' => e = .returned (.bool false) ∧ w' = w := by
  go_enter Tryz.func109, Tryz.ntmps109
  go_wp2
  go_ret
  exact ⟨by simp, rfl⟩
/-- Which of two texts stands first. -/
def txc (a b : Tx) : Int := if a < b then -1 else if b < a then 1 else 0
theorem cmpS_any (a b : ByteArray) (w : World) : Calls Tryz.prog 94 #[.string a, .string b] w fun e w' => e = .returned (.int .i64 (txc a.data.toList b.data.toList)) ∧ w' = w := by
  have n1 := nan_any a
  have n2 := nan_any b
  have e1 : Op.bytesLess a.toList b.toList = decide (a.data.toList < b.data.toList) := by rw [bytesLess_eq, Lib.toList_data, Lib.toList_data]
  have e2 : (a.toList == b.toList) = decide (a.data.toList = b.data.toList) := by rw [Lib.toList_data, Lib.toList_data, Bool.eq_iff_iff]; simp
  by_cases h1 : a.data.toList < b.data.toList
  · rw [decide_eq_true h1] at e1
    have HF : Hid (txc a.data.toList b.data.toList = -1) := by show txc _ _ = _; unfold txc; rw [if_pos h1]
    rw [HF.out]
    clear h1 e2
    go_enter Tryz.func94, Tryz.ntmps94
    go_wp2_with (first | (go_at_call 109; refine (nan_any _ _).mono ?_; rintro e w' ⟨rfl, rfl⟩))
    go_ret
    exact ⟨rfl, rfl⟩
  · rw [decide_eq_false h1] at e1
    by_cases h2 : a.data.toList = b.data.toList
    · rw [decide_eq_true h2] at e2
      have HF : Hid (txc a.data.toList b.data.toList = 0) := by show txc _ _ = _; unfold txc; rw [h2, if_neg (tx_irrefl _), if_neg (tx_irrefl _)]
      rw [HF.out]
      clear h1 h2
      go_enter Tryz.func94, Tryz.ntmps94
      go_wp2_with (first | (go_at_call 109; refine (nan_any _ _).mono ?_; rintro e w' ⟨rfl, rfl⟩))
      go_ret
      exact ⟨rfl, rfl⟩
    · rw [decide_eq_false h2] at e2
      have h3 : b.data.toList < a.data.toList := by
        by_cases h3 : b.data.toList < a.data.toList
        · exact h3
        · exact absurd (tx_total h1 h3) h2
      have HF : Hid (txc a.data.toList b.data.toList = 1) := by show txc _ _ = _; unfold txc; rw [if_neg h1, if_pos h3]
      rw [HF.out]
      clear h1 h2 h3
      go_enter Tryz.func94, Tryz.ntmps94
      go_wp2_with (first | (go_at_call 109; refine (nan_any _ _).mono ?_; rintro e w' ⟨rfl, rfl⟩))
      go_ret
      exact ⟨rfl, rfl⟩

theorem cf_eq (a b : Tx) : cf a b = if Lib.compareInt (rank a : Nat) (rank b : Nat) ≠ 0 then Lib.compareInt (rank a : Nat) (rank b : Nat) else txc a b := by
  unfold cf Lib.compareInt txc
  by_cases h1 : rank a < rank b
  · have : ((rank a : Nat) : Int) < (rank b : Nat) := by omega
    simp [h1]
  · by_cases h2 : rank b < rank a
    · have e1 : ¬ ((rank a : Nat) : Int) < (rank b : Nat) := by omega
      have e2 : ((rank b : Nat) : Int) < (rank a : Nat) := by omega
      simp [h1, h2]
    · have e1 : ¬ ((rank a : Nat) : Int) < (rank b : Nat) := by omega
      have e2 : ¬ ((rank b : Nat) : Int) < (rank a : Nat) := by omega
      simp [h1, h2]
set_option maxHeartbeats 1000000 in
set_option maxRecDepth 100000 in
theorem compare_any (a b : ByteArray) (w : World) (hg : SysAt w)
    (cI : ∀ x y W, Calls Tryz.prog 39 #[.int .i64 x, .int .i64 y] W fun e w' => e = .returned (.int .i64 (Lib.compareInt x y)) ∧ w' = W) :
    Calls Tryz.prog 77 #[.string a, .string b] w fun e w' => e = .returned (.int .i64 (cf a.data.toList b.data.toList)) ∧ w' = w := by
  have cA := rank_any a w hg
  have cB := rank_any b w hg
  have cS := cmpS_any a b w
  have hcf := cf_eq a.data.toList b.data.toList
  have cC := cI (rank a.data.toList : Nat) (rank b.data.toList : Nat) w
  obtain ⟨x, hx⟩ : ∃ x, rank a.data.toList = x := ⟨_, rfl⟩
  obtain ⟨y, hy⟩ : ∃ y, rank b.data.toList = y := ⟨_, rfl⟩
  rw [hx] at cA cC hcf
  rw [hy] at cB cC hcf
  obtain ⟨z, hz⟩ : ∃ z, Lib.compareInt (x : Nat) (y : Nat) = z := ⟨_, rfl⟩
  rw [hz] at cC hcf
  obtain ⟨u, hu⟩ : ∃ u, txc a.data.toList b.data.toList = u := ⟨_, rfl⟩
  rw [hu] at cS hcf
  rw [hcf]
  clear hx hy hz hu hcf cI hg
  by_cases h0 : z = 0
  · subst h0
    rw [if_neg (by simp)]
    go_enter Tryz.func77, Tryz.ntmps77
    go_wp2_with fail
    refine cA.mono ?_
    rintro e w' ⟨rfl, rfl⟩
    go_wp2_with fail
    refine cB.mono ?_
    rintro e w' ⟨rfl, rfl⟩
    go_wp2_with fail
    refine cC.mono ?_
    rintro e w' ⟨rfl, rfl⟩
    go_wp2_with fail
    refine cS.mono ?_
    rintro e w' ⟨rfl, rfl⟩
    go_wp2_with fail
    go_ret
    exact ⟨rfl, rfl⟩
  · rw [if_pos h0]
    have hne : (z == 0) = false := by simpa using h0
    go_enter Tryz.func77, Tryz.ntmps77
    go_wp2_with fail
    refine cA.mono ?_
    rintro e w' ⟨rfl, rfl⟩
    go_wp2_with fail
    refine cB.mono ?_
    rintro e w' ⟨rfl, rfl⟩
    go_wp2_with fail
    refine cC.mono ?_
    rintro e w' ⟨rfl, rfl⟩
    go_wp2_with fail
    go_ret
    exact ⟨rfl, rfl⟩
end Go.Proofs.YtgpcnacpefficaaGreatDoor
