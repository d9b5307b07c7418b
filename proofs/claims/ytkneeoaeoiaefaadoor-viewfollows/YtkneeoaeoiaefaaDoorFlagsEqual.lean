/-
  slices.Equal of texts.
-/
import Derived.Test.YtkneeoaeoiaefaaDoorFlagsOr
namespace Go.Proofs.YtkneeoaeoiaefaaDoor
open Go.RowKit Go.Proofs.Aid Go.Proofs.Fl Go.Sort Go.Lib

theorem equal_len (a0 a1 : Option Addr) (n m c0 c1 : Nat) (w : World) (h : n ≠ m) :
    Calls Tryd.prog 14 #[.slice a0 n c0, .slice a1 m c1] w fun e w' => e = .returned (.bool false) ∧ w' = w := by
  have h' : ((n : Int) == (m : Int)) = false := by rw [beq_eq_false_iff_ne]; omega
  go_enter Tryd.func14, Tryd.ntmps14
  go_wp2
  go_ret
  exact ⟨rfl, rfl⟩
theorem equal_txs (va vb : Value) (x y : List Tx) (w : World) (ha : Sl w va x) (hb : Sl w vb y) (hx : x.length ≤ 1000) (hy : y.length ≤ 1000) :
    Calls Tryd.prog 14 #[va, vb] w fun e w' => e = .returned (.bool (decide (x = y))) ∧ ∃ q, w' = w.drewN q := by
  obtain ⟨a0, c0, rfl, _, ha⟩ := ha
  obtain ⟨a1, c1, rfl, _, hb⟩ := hb
  rcases ha with rfl | ⟨b, o, rfl, hat⟩
  · have := Tryd.slices_Equal_string_empty a0 a1 c0 y.length c1 w (by omega)
    refine this.mono ?_
    rintro e w' ⟨rfl, rfl⟩
    refine ⟨?_, 0, rfl⟩
    congr 2
    rw [Bool.eq_iff_iff]
    cases y <;> simp
  · by_cases hxy : x.length = y.length
    · rcases hb with rfl | ⟨b', o', rfl, hbt⟩
      · have h0 : x = [] := List.eq_nil_of_length_eq_zero hxy
        subst h0
        have := Tryd.slices_Equal_string_empty (some ⟨b, o, none⟩) a1 c0 0 c1 w (by omega)
        refine this.mono ?_
        rintro e w' ⟨rfl, rfl⟩
        exact ⟨rfl, 0, rfl⟩
      · have := Tryd.slices_Equal_string b o x.length c0 b' o' y.length c1 (bas x) (bas y) w (by rw [bas_length]; exact Nat.le_refl _) (by rw [bas_length]; exact Nat.le_refl _) (by omega) (by omega) (cells_bas hat) (cells_bas hbt)
        rw [List.take_of_length_le (by rw [bas_length]; exact Nat.le_refl _), List.take_of_length_le (by rw [bas_length]; exact Nat.le_refl _)] at this
        refine this.mono ?_
        rintro e w' ⟨rfl, q, rfl⟩
        refine ⟨?_, q, rfl⟩
        have e1 : decide (bas x = bas y) = decide (x = y) := by
          rw [Bool.eq_iff_iff, decide_eq_true_eq, decide_eq_true_eq]
          exact ⟨bas_inj, fun h => by rw [h]⟩
        rw [e1]
    · refine (equal_len _ a1 x.length y.length c0 c1 w hxy).mono ?_
      rintro e w' ⟨rfl, rfl⟩
      refine ⟨?_, 0, rfl⟩
      rw [decide_eq_false (fun h => hxy (by rw [h]))]
end Go.Proofs.YtkneeoaeoiaefaaDoor
