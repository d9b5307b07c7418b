/-
  How much of a text is left without its < and >. Of no program.
-/
import Derived.Test.YtefgpafoajoofaaGreatDoorShutTie
namespace Go.Proofs.Sq

def isB (c : UInt8) : Bool := decide (c = 60 ∨ c = 62)
theorem strip_nil : strip [] = [] := rfl
theorem strip_cons (c : UInt8) (l : List UInt8) : strip (c :: l) = if isB c = true then strip l else c :: strip l := by
  unfold strip isB
  rw [List.filter_cons]
  by_cases h : c = 60 ∨ c = 62
  · rw [if_neg (by simp; intro h1; rcases h with h | h; exact absurd h h1; exact h), if_pos (by simp [h])]
  · rw [if_pos (by simp; exact ⟨fun e => h (Or.inl e), fun e => h (Or.inr e)⟩), if_neg (by simp; exact ⟨fun e => h (Or.inl e), fun e => h (Or.inr e)⟩)]
theorem strip_step {l : List UInt8} {k : Nat} {c : UInt8} (h : l[k]? = some c) : strip (l.take (k + 1)) = strip (l.take k) ++ (if isB c = true then [] else [c]) := by
  rw [List.take_add_one, strip_append, h]
  congr 1
  show strip [c] = _
  rw [strip_cons, strip_nil]
theorem strip_len (l : List UInt8) : (strip l).length + (l.count 62 + l.count 60) = l.length := by
  induction l with
  | nil => rfl
  | cons c l ih =>
    rw [strip_cons, List.count_cons, List.count_cons, List.length_cons]
    unfold isB
    by_cases h1 : c = 60
    · subst h1; simp; omega
    · by_cases h2 : c = 62
      · subst h2; simp; omega
      · simp [h1, h2]; omega
theorem strip_le (l : List UInt8) : (strip l).length ≤ l.length := List.length_filter_le ..
theorem strip_full {l : List UInt8} (h : (strip l).length = l.length) : strip l = l := List.filter_eq_self.2 (fun a ha => (List.length_filter_eq_length_iff.1 h) a ha)
theorem strip_take_le (l : List UInt8) (k : Nat) : (strip (l.take k)).length ≤ (strip l).length := by
  have := congrArg List.length (strip_append (l.take k) (l.drop k))
  rw [List.take_append_drop, List.length_append] at this
  omega
end Go.Proofs.Sq
