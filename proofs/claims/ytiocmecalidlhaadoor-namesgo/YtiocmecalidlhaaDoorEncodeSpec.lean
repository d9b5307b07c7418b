/-
  How a name is written (1.1): plain mathematics.
-/
import Derived.Test.YtiocmecalidlhaaDoorBits
import Derived.Test.YtiocmecalidlhaaDoorRunes
namespace Go.Proofs.Ut

def unitsOf (r : Nat) : List Nat := if r ≤ 65535 then [r] else [55296 + (r - 65536) / 1024, 56320 + (r - 65536) % 1024]
def flushTo (out : List UInt8) (us : List Nat) : List UInt8 := if us = [] then out else out ++ 38 :: (lettersOf (bits16 us) ++ [45])
def plainOf (r : Nat) : List UInt8 := if r = 38 then [38, 45] else [UInt8.ofNat r]
def encFrom (out : List UInt8) (wait : List Nat) : List Nat → List UInt8
  | [] => flushTo out wait
  | r :: rs => if 126 < r then encFrom out (wait ++ unitsOf r) rs else encFrom (flushTo out wait ++ plainOf r) [] rs
/-- A name, written. -/
def encName (l : List UInt8) : List UInt8 := encFrom [] [] (runes l)

theorem lettersOf_length (l : List Bool) : (lettersOf l).length ≤ l.length / 6 + 1 := by
  unfold lettersOf
  rw [List.length_append, List.length_map, pieces_length]
  split <;> simp
theorem flushTo_length (out : List UInt8) (us : List Nat) : (flushTo out us).length ≤ out.length + 6 * us.length := by
  unfold flushTo
  split
  · omega
  · rename_i h
    have hp : 0 < us.length := List.length_pos_iff.2 h
    have h1 := lettersOf_length (bits16 us)
    rw [bits16_length] at h1
    simp only [List.length_append, List.length_cons, List.length_nil]
    omega
theorem unitsOf_length (r : Nat) : (unitsOf r).length ≤ 2 := by
  unfold unitsOf
  split <;> simp
theorem unitsOf_lt (r : Nat) (h : r ≤ 1114111) : ∀ u ∈ unitsOf r, u < 65536 := by
  intro u hu
  unfold unitsOf at hu
  split at hu <;> simp at hu <;> omega
theorem plainOf_length (r : Nat) : (plainOf r).length ≤ 2 := by
  unfold plainOf
  split <;> simp
theorem encFrom_length : ∀ (rs : List Nat) (out : List UInt8) (wait : List Nat), (encFrom out wait rs).length ≤ out.length + 6 * wait.length + 12 * rs.length
  | [], out, wait => by have := flushTo_length out wait; simp [encFrom]; omega
  | r :: rs, out, wait => by
    rw [encFrom]
    split
    · have := encFrom_length rs out (wait ++ unitsOf r)
      have h2 := unitsOf_length r
      rw [List.length_append] at this
      simp only [List.length_cons]
      omega
    · have := encFrom_length rs (flushTo out wait ++ plainOf r) []
      have h2 := plainOf_length r
      have h3 := flushTo_length out wait
      rw [List.length_append] at this
      simp only [List.length_cons, List.length_nil] at *
      omega

end Go.Proofs.Ut
