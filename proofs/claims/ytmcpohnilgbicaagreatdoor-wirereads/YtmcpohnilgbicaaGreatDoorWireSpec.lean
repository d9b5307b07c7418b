/-
  Commands as bytes, plain mathematics: what a line tells to come, where a command ends.
-/
import Derived.Test.YtmcpohnilgbicaaGreatDoorNumPlain
import Derived.Test.YtmcpohnilgbicaaGreatDoorHeadSpec
import Derived.Lib.LastIndexByte
import Derived.Lib.ParseIntB
namespace Go.Proofs.YtmcpohnilgbicaaGreatDoor
open Go.RowKit Go.Proofs.Aid Go.Proofs.Hd

theorem wsize (s : ByteArray) : s.data.toList.length = s.size := by show s.data.toList.length = s.data.size; simp
theorem uint_same : ∀ (l : Tx) (acc : Nat), Lib.parseUintM 18446744073709551615 acc l = Lib.parseUint10 acc l
  | [], acc => rfl
  | c :: r, acc => by
    rw [Lib.parseUintM, Lib.parseUint10, uint_same r]
    by_cases h1 : 48 ≤ c.toNat ∧ c.toNat ≤ 57
    · rw [if_pos h1, if_pos h1]
      by_cases h2 : 1844674407370955162 ≤ acc
      · rw [if_pos h2, if_pos h2]
      · rw [if_neg h2, if_neg h2]
        by_cases h3 : 18446744073709551616 ≤ acc * 10 + (c.toNat - 48)
        · rw [if_pos h3, if_pos (by omega)]
        · rw [if_neg h3, if_neg (by omega)]
    · rw [if_neg h1, if_neg h1]
theorem parse_same (l : Tx) : Lib.parseIntB 64 l = Lib.atoiAll l := by
  have h : ∀ q, Lib.parseUintB 64 q = Lib.parseMag q := fun q => by
    unfold Lib.parseUintB Lib.parseMag
    rw [show (2 ^ 64 - 1 : Nat) = 18446744073709551615 from by decide, uint_same]
  cases l with
  | nil => rfl
  | cons c r =>
    unfold Lib.parseIntB Lib.atoiAll
    simp only [h]
    rfl
/-- The number that letters are, of at most 2^62, with no nought ahead. -/
def numW (l : Tx) : Option Nat := if (numB l 4611686018427387904).2 = true then some (numB l 4611686018427387904).1.toNat else none
theorem numW_ok {l : Tx} {n : Int} (h : Lib.atoiAll l = .ok n) : numW l = if 0 ≤ n ∧ n ≤ 4611686018427387904 ∧ Lib.itoa n = l then some n.toNat else none := by
  unfold numW numB
  rw [h]
  simp only
  by_cases h1 : 0 ≤ n ∧ n ≤ 4611686018427387904
  · by_cases h2 : Lib.itoa n = l
    · rw [if_pos (by simp [h1, h2]), if_pos ⟨h1.1, h1.2, h2⟩]
    · rw [if_neg (by simp [h2]), if_neg (fun q => h2 q.2.2)]
  · rw [if_neg (by simp [h1]), if_neg (fun q => h1 ⟨q.1, q.2.1⟩)]
theorem numW_syntax {l : Tx} (h : Lib.atoiAll l = .syntax) : numW l = none := by
  unfold numW numB
  rw [h]
  simp
theorem numW_range {l : Tx} (h : Lib.atoiAll l = .range) : numW l = none := by
  unfold numW numB
  rw [h]
  simp
theorem numW_le {l : Tx} {n : Nat} (h : numW l = some n) : n ≤ 4611686018427387904 := by
  cases ha : Lib.atoiAll l with
  | ok z =>
    rw [numW_ok ha] at h
    split at h
    · cases h; omega
    · cases h
  | «syntax» => rw [numW_syntax ha] at h; cases h
  | range => rw [numW_range ha] at h; cases h
/-- How many bytes a line tells to come behind it. -/
def tailF (l : Tx) : Option Nat :=
  if Lib.lastIndexByte ⟨l.toArray⟩ 123 < 0 ∨ Lib.hasSuffix l [125] = false then none
  else numW ((l.drop ((Lib.lastIndexByte ⟨l.toArray⟩ 123).toNat + 1)).take (l.length - 1 - ((Lib.lastIndexByte ⟨l.toArray⟩ 123).toNat + 1)))
theorem tailF_le {l : Tx} {n : Nat} (h : tailF l = some n) : n ≤ 4611686018427387904 := by
  unfold tailF at h
  split at h
  · cases h
  · exact numW_le h
theorem index_lt : ∀ {s : Tx}, 0 ≤ Lib.index s [13, 10] → (Lib.index s [13, 10]).toNat + 2 ≤ s.length
  | [], h => by
    have h0 : Lib.index ([] : Tx) [13, 10] = -1 := by decide
    rw [h0] at h
    exact absurd h (by decide)
  | b :: r, h => by
    rw [index_cons] at h ⊢
    by_cases hp : ([13, 10] : Tx).isPrefixOf (b :: r) = true
    · rw [if_pos hp]
      cases r with
      | nil => simp [List.isPrefixOf] at hp
      | cons c r => simp
    · rw [if_neg hp] at h ⊢
      by_cases h1 : Lib.index r [13, 10] = -1
      · rw [if_pos h1] at h; exact absurd h (by decide)
      · rw [if_neg h1] at h ⊢
        have hg := Lib.index_ge r [13, 10]
        have := index_lt (s := r) (by omega)
        simp only [List.length_cons]
        omega
/-- Where the first command ends (0: it is not whole), how often more is waited for, whether it is too long. -/
def nextW (s : Tx) (at' waits : Nat) : Nat × Nat × Bool :=
  if Lib.index (s.drop at') [13, 10] < 0 then (0, waits, decide (3000 < s.length))
  else
    match tailF ((s.drop at').take (Lib.index (s.drop at') [13, 10]).toNat) with
    | none => if 3000 < at' + (Lib.index (s.drop at') [13, 10]).toNat + 2 then (0, waits, true) else (at' + (Lib.index (s.drop at') [13, 10]).toNat + 2, waits, false)
    | some n =>
      if 3000 < at' + (Lib.index (s.drop at') [13, 10]).toNat + 2 + n then (0, waits, true)
      else if h2 : s.length < at' + (Lib.index (s.drop at') [13, 10]).toNat + 2 + n then (0, waits + 1, false)
      else nextW s (at' + (Lib.index (s.drop at') [13, 10]).toNat + 2 + n) (waits + 1)
termination_by s.length - at'
decreasing_by omega
theorem nextW_none {s : Tx} {a k : Nat} (h : Lib.index (s.drop a) [13, 10] < 0) : nextW s a k = (0, k, decide (3000 < s.length)) := by
  rw [nextW, if_pos h]
theorem nextW_last {s : Tx} {a k z : Nat} (h : Lib.index (s.drop a) [13, 10] = (z : Int)) (ht : tailF ((s.drop a).take z) = none) : nextW s a k = if 3000 < a + z + 2 then (0, k, true) else (a + z + 2, k, false) := by
  rw [nextW, if_neg (by omega), h, Int.toNat_natCast, ht]
theorem nextW_more {s : Tx} {a k z n : Nat} (h : Lib.index (s.drop a) [13, 10] = (z : Int)) (ht : tailF ((s.drop a).take z) = some n) : nextW s a k = if 3000 < a + z + 2 + n then (0, k, true) else if s.length < a + z + 2 + n then (0, k + 1, false) else nextW s (a + z + 2 + n) (k + 1) := by
  rw [nextW, if_neg (by omega), h, Int.toNat_natCast, ht]
  simp only [dite_eq_ite]
end Go.Proofs.YtmcpohnilgbicaaGreatDoor
