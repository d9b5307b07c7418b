/-
  A head by its lines, and a text without blanks from both ends, as the document's answer goes about it. Of no program.
-/
import Derived.Test.YtgbbkdflnlagaaaGreatDoorHeadFields
namespace Go.Proofs.Hd
open Go.Proofs.Sq

theorem headLen_false_index : ∀ (s : Tx), headLen false s = if Lib.index s [13, 10] = -1 then s.length else (Lib.index s [13, 10]).toNat + 2 + headLen true (s.drop ((Lib.index s [13, 10]).toNat + 2))
  | [] => by simp [headLen, Lib.index]
  | [c] => by simp [headLen, Lib.index, List.isPrefixOf]
  | c :: d :: r => by
    have ih := headLen_false_index (d :: r)
    have hg := Lib.index_ge (d :: r) [13, 10]
    rw [headLen]
    by_cases h : c = 13 ∧ d = 10
    · obtain ⟨rfl, rfl⟩ := h
      have e0 : Lib.index (13 :: 10 :: r) [13, 10] = 0 := by rw [index_cons, if_pos (by simp [List.isPrefixOf])]
      rw [if_pos ⟨rfl, rfl⟩, e0]
      simp
    · have n0 : ([13, 10] : Tx).isPrefixOf (c :: d :: r) = false := by
        cases hp : ([13, 10] : Tx).isPrefixOf (c :: d :: r) with
        | false => rfl
        | true =>
          simp [List.isPrefixOf] at hp
          exact absurd ⟨hp.1.symm, hp.2.symm⟩ h
      rw [if_neg h, ih, index_cons c (d :: r), n0]
      simp only [Bool.false_eq_true, if_false]
      generalize Lib.index (d :: r) [13, 10] = z at hg
      by_cases hz : z = -1
      · subst hz; simp; omega
      · have hz1 : ¬ z + 1 = -1 := by omega
        rw [if_neg hz, if_neg hz, if_neg hz1]
        have e : (z + 1).toNat = z.toNat + 1 := by omega
        have e2 : (c :: d :: r).drop (z.toNat + 1 + 2) = (d :: r).drop (z.toNat + 2) := by
          rw [show z.toNat + 1 + 2 = (z.toNat + 2) + 1 by omega]; rfl
        rw [e, e2]
        omega
/-- How long a head is, by its first line. -/
theorem headLen_true_index (s : Tx) : headLen true s = if Lib.index s [13, 10] = -1 then s.length else if Lib.index s [13, 10] = 0 then 2 else (Lib.index s [13, 10]).toNat + 2 + headLen true (s.drop ((Lib.index s [13, 10]).toNat + 2)) := by
  match s with
  | [] => simp [headLen, Lib.index]
  | [c] => simp [headLen, Lib.index, List.isPrefixOf]
  | c :: d :: r =>
    by_cases h : c = 13 ∧ d = 10
    · obtain ⟨rfl, rfl⟩ := h
      have e0 : Lib.index (13 :: 10 :: r) [13, 10] = 0 := by rw [index_cons, if_pos (by simp [List.isPrefixOf])]
      rw [e0]
      simp [headLen]
    · have n0 : ([13, 10] : Tx).isPrefixOf (c :: d :: r) = false := by
        cases hp : ([13, 10] : Tx).isPrefixOf (c :: d :: r) with
        | false => rfl
        | true =>
          simp [List.isPrefixOf] at hp
          exact absurd ⟨hp.1.symm, hp.2.symm⟩ h
      have hne : Lib.index (c :: d :: r) [13, 10] ≠ 0 := by
        rw [index_cons, n0]
        have := Lib.index_ge (d :: r) [13, 10]
        simp only [Bool.false_eq_true, if_false]
        split <;> omega
      have e1 : headLen true (c :: d :: r) = headLen false (c :: d :: r) := by rw [headLen, headLen, if_neg h, if_neg h]
      rw [e1, headLen_false_index, if_neg hne]
/-- What is left when the blanks at both ends are gone. -/
theorem bare_is_of {s a v b : Tx} (h : s = a ++ v ++ b) (ha : ∀ c ∈ a, blk c = true) (hb : ∀ c ∈ b, blk c = true) (hv : Trim v) : bare s = v := by
  rw [h]; exact bare_blank hv ha hb
end Go.Proofs.Hd
