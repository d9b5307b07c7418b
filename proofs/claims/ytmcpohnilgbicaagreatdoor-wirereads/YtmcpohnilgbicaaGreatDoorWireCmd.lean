/-
  A command read from bytes: plain mathematics.
-/
import Derived.Test.YtmcpohnilgbicaaGreatDoorWireSpec
import Derived.Test.YtmcpohnilgbicaaGreatDoorSearchSpec
namespace Go.Proofs.YtmcpohnilgbicaaGreatDoor
open Go.Proofs.Hd
open Go.Proofs.Sr (Ar)

/-- What a reader tells: an error and its place; or a value, where it is, how many parts were counted. -/
inductive Wd (α : Type) where
  | bad (e : Int) (p : Nat) : Wd α
  | ok (a : α) (p : Nat) (c : Nat) : Wd α
def Wd.then {α β : Type} : Wd α → (α → Nat → Nat → Wd β) → Wd β
  | .bad e p, _ => .bad e p
  | .ok a p c, k => k a p c
def Wd.map {α β : Type} (f : α → β) : Wd α → Wd β
  | .bad e p => .bad e p
  | .ok a p c => .ok (f a) p c
/-- A byte that may stand in a WORD. -/
def wordy (b : UInt8) : Bool := decide (33 ≤ b.toNat) && decide (b.toNat ≤ 126) && !(b == 40) && !(b == 41) && !(b == 123) && !(b == 34)
def wordT (l : Tx) : Tx := l.takeWhile wordy
def wordW (s : Tx) (p c : Nat) : Wd Tx := if wordT (s.drop p) = [] then .bad 3 p else .ok (wordT (s.drop p)) (p + (wordT (s.drop p)).length) c
def tookW (sign s : Tx) (p : Nat) : Bool := sign.isPrefixOf (s.drop p)
def blankW (s : Tx) (p c : Nat) : Wd Unit := if tookW [32] s p = true then .ok () (p + 1) c else .bad 3 p
/-- A String of which is told how many bytes it has. -/
def countedW (s : Tx) (p c : Nat) : Wd Tx :=
  if (Lib.cut ((s.drop p).drop 1) [125, 13, 10]).2.2 = false then .bad 3 p
  else match numW (Lib.cut ((s.drop p).drop 1) [125, 13, 10]).1 with
    | none => .bad 3 p
    | some n => if (Lib.cut ((s.drop p).drop 1) [125, 13, 10]).2.1.length < n then .bad 3 p
      else .ok ((Lib.cut ((s.drop p).drop 1) [125, 13, 10]).2.1.take n) (s.length - (Lib.cut ((s.drop p).drop 1) [125, 13, 10]).2.1.length + n) c
/-- A byte that may not stand in quotes; b: a \ stands ahead. -/
def offQ (b : Bool) (x : UInt8) : Bool := (b && !(x == 34) && !(x == 92)) || x == 13 || x == 10 || x == 0
/-- A String up to its second quote. -/
def quotedW (s : Tx) (p c : Nat) (acc : Tx) : Nat → Wd Tx
  | 0 => .bad 3 p
  | f + 1 =>
    if tookW [34] s p = true then .ok acc (p + 1) c
    else if tookW [92] s p = true then
      (if offQ true (s.getD (p + 1) 0) = true then .bad 3 (p + 1) else quotedW s (p + 2) c (acc ++ [s.getD (p + 1) 0]) f)
    else if offQ false (s.getD p 0) = true then .bad 3 p else quotedW s (p + 1) c (acc ++ [s.getD p 0]) f
/-- Parts, behind those that are there, up to a ). -/
def moreW (g : Nat → Nat → Wd Ar) (s : Tx) : Nat → List Ar → Nat → Nat → Wd (List Ar)
  | 0, _, p, _ => .bad 4 p
  | n + 1, acc, p, c => if tookW [41] s p = true then .ok acc (p + 1) c
    else (blankW s p c).then fun _ p c => (g p c).then fun a p c => moreW g s n (acc ++ [a]) p c
def listW (g : Nat → Nat → Wd Ar) (s : Tx) (p c : Nat) : Wd (List Ar) :=
  if tookW [41] s p = true then .ok [] (p + 1) c else (g p c).then fun a p c => moreW g s 62 [a] p c
/-- A part; so many Lists may lie in one another yet. -/
def argW (s : Tx) : Nat → Nat → Nat → Wd Ar
  | 0, p, _ => .bad 4 p
  | f + 1, p, c => if 60 < c + 1 then .bad 4 p
    else if tookW [123] s p = true then (countedW s p (c + 1)).map fun t => .mk 2 t []
    else if tookW [34] s p = true then (quotedW s (p + 1) (c + 1) [] s.length).map fun t => .mk 2 t []
    else if tookW [40] s p = true then (listW (argW s f) s (p + 1) (c + 1)).map fun l => .mk 3 [] l
    else (wordW s p (c + 1)).map fun t => .mk 1 t []
/-- The parts of a command, behind those that are there. -/
def argsW (s : Tx) : Nat → List Ar → Nat → Nat → Wd (List Ar)
  | 0, _, p, _ => .bad 4 p
  | n + 1, acc, p, c => if s.drop p = [13, 10] then .ok acc p c
    else (blankW s p c).then fun _ p c => (argW s 7 p c).then fun a p c => argsW s n (acc ++ [a]) p c
structure Cmd where
  tag : Tx
  name : Tx
  args : List Ar
def commandW (s : Tx) : Wd Cmd :=
  (wordW s 0 0).then fun t p c => (blankW s p c).then fun _ p c => (wordW s p c).then fun n p c => (argsW s 62 [] p c).map fun l => ⟨t, great n, l⟩
/-- A command, whole. -/
def parseW (s : Tx) : Wd Cmd := if Lib.hasSuffix s [13, 10] = true then commandW s else .bad 3 0

/-- CR LF stands at the end. -/
def Ends (s : Tx) : Prop := ∃ t, s = t ++ [13, 10]
theorem Ends.len {s : Tx} (h : Ends s) : 2 ≤ s.length := by obtain ⟨t, rfl⟩ := h; simp
theorem Ends.cr {s : Tx} (h : Ends s) : s[s.length - 2]? = some 13 := by
  obtain ⟨t, rfl⟩ := h
  rw [List.length_append, List.getElem?_append_right (by simp)]
  simp
theorem Ends.lf {s : Tx} (h : Ends s) : s[s.length - 1]? = some 10 := by
  obtain ⟨t, rfl⟩ := h
  rw [List.length_append, List.getElem?_append_right (by simp)]
  simp
theorem took_one {s : Tx} {p : Nat} {x : UInt8} : tookW [x] s p = true ↔ s[p]? = some x := by
  unfold tookW
  rw [List.isPrefixOf_iff_prefix]
  constructor
  · rintro ⟨t, ht⟩
    have : (s.drop p)[0]? = some x := by rw [← ht]; rfl
    rwa [List.getElem?_drop, Nat.add_zero] at this
  · intro h
    obtain ⟨hp, hx⟩ := List.getElem?_eq_some_iff.1 h
    exact ⟨s.drop (p + 1), by rw [List.drop_eq_getElem_cons hp, hx]; rfl⟩
/-- What is no CR and no LF stands ahead of the last CR LF. -/
theorem Ends.ahead {s : Tx} (h : Ends s) {p : Nat} {x : UInt8} (hx : s[p]? = some x) (h1 : x ≠ 13) (h2 : x ≠ 10) : p + 2 < s.length := by
  have hp := (List.getElem?_eq_some_iff.1 hx).1
  have hl := h.len
  have hc := h.cr
  have hf := h.lf
  rcases Nat.lt_or_ge (p + 2) s.length with h3 | h3
  · exact h3
  · exfalso
    rcases (show p = s.length - 2 ∨ p = s.length - 1 by omega) with rfl | rfl
    · rw [hc] at hx; exact h1 (Option.some.inj hx).symm
    · rw [hf] at hx; exact h2 (Option.some.inj hx).symm
theorem Ends.took {s : Tx} (h : Ends s) {p : Nat} {x : UInt8} (hx : tookW [x] s p = true) (h1 : x ≠ 13) (h2 : x ≠ 10) : p + 1 + 2 ≤ s.length := by
  have := h.ahead (took_one.1 hx) h1 h2
  omega
theorem wordT_le (l : Tx) : (wordT l).length ≤ l.length := by
  unfold wordT
  exact (List.takeWhile_prefix wordy).length_le
theorem wordT_take (l : Tx) : wordT l = l.take (wordT l).length := by
  unfold wordT
  exact (List.prefix_iff_eq_take.1 (List.takeWhile_prefix wordy))
theorem wordy_of {l : Tx} {b : UInt8} (h : b ∈ wordT l) : wordy b = true := by
  unfold wordT at h
  exact List.all_eq_true.1 (List.all_takeWhile) b h
theorem wordy_ne {b : UInt8} (h : wordy b = true) : b ≠ 13 ∧ b ≠ 10 := by
  constructor <;> (rintro rfl; revert h; decide)
theorem of_prefix {l w t : Tx} (h : w ++ t = l) {k : Nat} (hk : k < w.length) : l[k]? = w[k]? := by
  rw [← h]; exact List.getElem?_append_left hk
/-- A WORD stands ahead of the last CR LF. -/
theorem Ends.word {s : Tx} (h : Ends s) {p : Nat} (hp : p + 2 ≤ s.length) : p + (wordT (s.drop p)).length + 2 ≤ s.length := by
  by_cases h0 : (wordT (s.drop p)).length = 0
  · omega
  · have hlt : (wordT (s.drop p)).length - 1 < (wordT (s.drop p)).length := by omega
    have hm := List.getElem_mem hlt
    have hy := wordy_ne (wordy_of hm)
    have hg : (s.drop p)[(wordT (s.drop p)).length - 1]? = some ((wordT (s.drop p))[(wordT (s.drop p)).length - 1]'hlt) := by
      have : (wordT (s.drop p))[(wordT (s.drop p)).length - 1]? = some ((wordT (s.drop p))[(wordT (s.drop p)).length - 1]'hlt) := List.getElem?_eq_getElem hlt
      rw [← this]
      obtain ⟨r, hr⟩ : wordT (s.drop p) <+: s.drop p := List.takeWhile_prefix wordy
      exact of_prefix hr hlt
    rw [List.getElem?_drop] at hg
    have := h.ahead hg hy.1 hy.2
    omega
end Go.Proofs.YtmcpohnilgbicaaGreatDoor
