/-
  Flags are a set: what the statement says, of lists. Of no program.
-/
import Derived.Test.YtkneeoaeoiaefaaDoorFlagsSpec
namespace Go.Proofs.Fl

theorem or_comm (x y : List Tx) : order (y ++ x) = order (x ++ y) := order_congr fun z => by simp [Or.comm]
theorem or_self {x : List Tx} (h : Ord x) : order (x ++ x) = x := ord_eq (order_ord _) h fun z => by rw [order_mem]; simp
theorem not_self (x : List Tx) : order (without x (order x)) = [] := by
  cases h : order (without x (order x)) with
  | nil => rfl
  | cons z l =>
    have hz : z ∈ order (without x (order x)) := by rw [h]; simp
    rw [order_mem, without_mem, order_mem] at hz
    exact absurd hz.1 hz.2
theorem not_or (x y : List Tx) : order (without (order (x ++ y)) (order y)) = order (without x (order y)) := order_congr fun z => by
  rw [without_mem, without_mem, order_mem, order_mem, List.mem_append]
  constructor
  · rintro ⟨h1 | h1, h2⟩
    · exact ⟨h1, h2⟩
    · exact absurd h1 h2
  · rintro ⟨h1, h2⟩; exact ⟨Or.inl h1, h2⟩
theorem or_not (x y : List Tx) : order (order (without x (order y)) ++ y) = order (x ++ y) := order_congr fun z => by
  rw [List.mem_append, order_mem, without_mem, order_mem, List.mem_append]
  by_cases h : z ∈ y <;> simp [h]
theorem has_own {s : Tx} (h : Own s) (l : List Tx) : hasF l s = l.contains s := by
  unfold hasF
  rw [h]
  simp
theorem or_own {x y : List Tx} (hx : ∀ s ∈ x, Own s) (hy : ∀ s ∈ y, Own s) : ∀ s ∈ order (x ++ y), Own s := fun s hs => by
  rw [order_mem, List.mem_append] at hs
  rcases hs with h | h
  · exact hx s h
  · exact hy s h
theorem not_has (x y : List Tx) (s : Tx) : (order (without x (order y))).contains s = (x.contains s && !y.contains s) := by
  rw [Bool.eq_iff_iff, List.contains_iff_mem, order_mem, without_mem, order_mem]
  simp
theorem or_has {x y : List Tx} {s : Tx} (h : s ∈ order (x ++ y)) : (x.contains s || y.contains s) = true := by
  rw [order_mem, List.mem_append] at h
  simpa using h
/-- Turned, and one said twice. -/
theorem turned {a : List Tx} {k : Nat} (hk : k < a.length) (h0 : (setOf a).2 = 0) : setOf (a.drop k ++ a.take k ++ [a[k]]) = setOf a := by
  refine setOf_congr (fun z => ?_) h0
  constructor
  · intro hz
    rw [← List.take_append_drop k a, List.mem_append] at hz
    rw [List.mem_append, List.mem_append]
    rcases hz with h | h
    · exact Or.inl (Or.inr h)
    · exact Or.inl (Or.inl h)
  · intro hz
    rw [List.mem_append, List.mem_append] at hz
    rcases hz with (h | h) | h
    · exact List.mem_of_mem_drop h
    · exact List.mem_of_mem_take h
    · rw [List.mem_singleton] at h; rw [h]; exact List.getElem_mem _
end Go.Proofs.Fl
