/-
  The document's answer on a number of a set.
-/
import Derived.Test.YtefgpafoajoofaaGreatDoorRefNum
namespace Go.Proofs.YtefgpafoajoofaaGreatDoor
open Go.RowKit Go.Proofs.Aid Go.Proofs.Sq Go.Sort

/-- What one answers. -/
def oneB (l : List UInt8) : Int × Bool := if l = [42] then (0, true) else ((numB l 2147483647).1, (numB l 2147483647).2 && decide (0 < (numB l 2147483647).1))
set_option maxHeartbeats 1000000 in
theorem ref_one (s : ByteArray) (w : World) (hs : s.size ≤ 1000000) (hg : NumAt w) :
    Calls Tryz.prog 52 #[.string s] w fun e w' => e = .returned (.tuple #[.int .i64 (oneB s.data.toList).1, .bool (oneB s.data.toList).2]) ∧ Below w.heap.size w w' := by
  unfold oneB
  by_cases h : s = ⟨#[42]⟩
  · subst h
    rw [if_pos rfl]
    go_enter Tryz.func52, Tryz.ntmps52
    go_wp2_with fail
    go_ret2
    exact ⟨rfl, Below.refl _ _⟩
  · have h1 : s.data.toList ≠ [42] := fun e => h (num_ba e)
    rw [if_neg h1]
    have cN := ref_num s 2147483647 w hs hg
    obtain ⟨⟨n, b⟩, hnb⟩ : ∃ R, numB s.data.toList 2147483647 = R := ⟨_, rfl⟩
    rw [hnb] at cN ⊢
    simp only at cN ⊢
    have hne : ¬ s.toList = [42] := by rw [Lib.toList_data]; exact h1
    have hne2 : (s.toList == [42]) = false := by rw [beq_eq_false_iff_ne]; exact hne
    have hne3 : (s.toList == ByteArray.toList ⟨#[42]⟩) = false := by rw [Lib.toList_data (⟨#[42]⟩ : ByteArray)]; exact hne2
    clear hnb h h1
    go_enter Tryz.func52, Tryz.ntmps52
    go_wp2_with fail
    refine cN.mono ?_
    rintro e w1 ⟨rfl, hb1⟩
    clear cN
    cases b
    · go_wp2_with fail
      go_ret2
      exact ⟨by simp, hb1⟩
    · go_wp2_with fail
      go_ret2
      exact ⟨by simp, hb1⟩
end Go.Proofs.YtefgpafoajoofaaGreatDoor
