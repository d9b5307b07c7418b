/-
  A text as it is quoted, and read: plain mathematics.
-/
import Derived.Test.YtmcpohnilgbicaaGreatDoorWireBound
import Derived.Test.YtmcpohnilgbicaaGreatDoorSeqSpec
import Derived.Lib.Replace
import Derived.Lib.CountLaws
namespace Go.Proofs.YtmcpohnilgbicaaGreatDoor
open Go.Proofs.Hd
open Go.Proofs.Sr (Ar)

/-- A byte for each that is x, else itself. -/
def repB (x : UInt8) (new : Tx) (s : Tx) : Tx := s.flatMap fun c => if c = x then new else [c]
theorem replaceK_cons {x c : UInt8} (h : c ≠ x) (new : Tx) : ∀ (k : Nat) (r : Tx), Lib.replaceK [x] new k (c :: r) = c :: Lib.replaceK [x] new k r
  | 0, r => rfl
  | k + 1, r => by
    have hi : Lib.index (c :: r) [x] = if Lib.index r [x] = -1 then -1 else Lib.index r [x] + 1 := by
      rw [index_cons, if_neg]
      simp [List.isPrefixOf, Ne.symm h]
    rw [Lib.replaceK, Lib.replaceK, hi]
    have hg := Lib.index_ge r [x]
    by_cases h1 : Lib.index r [x] = -1
    · rw [if_pos h1, h1]; rfl
    · rw [if_neg h1, if_neg (by simp; omega), if_neg (by simp; omega), show (Lib.index r [x] + 1).toNat = (Lib.index r [x]).toNat + 1 by omega]
      rfl
theorem replace_is (x : UInt8) (new : Tx) : ∀ (s : Tx), Lib.replaceK [x] new (s.count x) s = repB x new s
  | [] => rfl
  | c :: r => by
    by_cases h : c = x
    · subst h
      have hi : Lib.index (c :: r) [c] = ((0 : Nat) : Int) := by rw [index_cons, if_pos (by simp [List.isPrefixOf])]; rfl
      rw [List.count_cons_self, Lib.replaceK_hit [c] new (r.count c) (c :: r) 0 hi]
      show [] ++ new ++ Lib.replaceK [c] new (r.count c) r = _
      rw [replace_is c new r]
      simp [repB]
    · rw [List.count_cons_of_ne (by simpa using h), replaceK_cons h, replace_is x new r]
      simp [repB, h]
theorem replaceAll_is (x : UInt8) (new s : Tx) (h : [x] ≠ new) : Lib.replaceAll s [x] new = repB x new s := by
  unfold Lib.replaceAll Lib.replace Lib.replaceNum
  rw [if_neg (by simpa using h), if_pos (Or.inl (by decide)), Lib.count_one]
  exact replace_is x new s
/-- A text within quotes. -/
def esc (s : Tx) : Tx := s.flatMap fun c => if c = 92 ∨ c = 34 then [92, c] else [c]
theorem esc_is (s : Tx) : repB 34 [92, 34] (repB 92 [92, 92] s) = esc s := by
  induction s with
  | nil => rfl
  | cons c r ih =>
    have e1 : repB 92 [92, 92] (c :: r) = (if c = 92 then [92, 92] else [c]) ++ repB 92 [92, 92] r := by simp [repB]
    have e2 : ∀ a b : Tx, repB 34 [92, 34] (a ++ b) = repB 34 [92, 34] a ++ repB 34 [92, 34] b := fun a b => by simp [repB]
    rw [e1, e2, ih]
    by_cases h1 : c = 92
    · subst h1; rfl
    · rw [if_neg h1]
      by_cases h2 : c = 34
      · subst h2; rfl
      · simp [esc, repB, h1, h2]
theorem esc_len (s : Tx) : (esc s).length ≤ 2 * s.length := by
  induction s with
  | nil => simp [esc]
  | cons c r ih =>
    have : esc (c :: r) = (if c = 92 ∨ c = 34 then [92, c] else [c]) ++ esc r := by simp [esc]
    rw [this, List.length_append, List.length_cons]
    split <;> simp <;> omega
def plainB (c : UInt8) : Bool := decide (32 ≤ c.toNat) && decide (c.toNat ≤ 126)
def bareW (s : Tx) : Bool := !s.isEmpty && decide ((wordT s).length = s.length) && !s.contains 92
/-- How a text is written. -/
def quoteW (s : Tx) : Tx := if bareW s = true then s else if s.all plainB = true then 34 :: (esc s ++ [34]) else 123 :: (Lib.itoa (s.length : Int) ++ [125, 13, 10] ++ s)
theorem word_all {s : Tx} (h : (wordT s).length = s.length) : ∀ c ∈ s, wordy c = true := by
  have := wordT_take s
  rw [h, List.take_length] at this
  intro c hc
  rw [← this] at hc
  exact wordy_of hc
theorem word_upto {u : Tx} {d : UInt8} {r : Tx} (h : ∀ c ∈ u, wordy c = true) (hd : wordy d = false) : wordT (u ++ d :: r) = u := by
  unfold wordT
  rw [List.takeWhile_append_of_pos h, List.takeWhile_cons_of_neg (by simp [hd]), List.append_nil]
/-- Digits as they are written are read. -/
theorem numW_itoa (n : Nat) (h : n ≤ 2147483647) : numW (Lib.itoa (n : Int)) = some n := by
  have h1 := Sq.digits_back n h
  have hi : Lib.itoa (n : Int) = Lib.decDigits n := by rw [Lib.itoa, if_neg (by omega), Int.toNat_natCast]
  obtain ⟨p1, _, _⟩ := digits_parse _ 0 n (by omega) h1
  rw [hi]
  have ha : Lib.atoiAll (Lib.decDigits n) = .ok (n : Int) := by
    cases hl : Lib.decDigits n with
    | nil =>
      have := Sq.decDigits_ne n
      exact absurd hl this
    | cons c r =>
      rw [hl] at h1 p1
      obtain ⟨d, hd, _, _⟩ := digits_cons h1
      obtain ⟨e1, e2, _⟩ := digit_some hd
      have hm : Lib.parseMag (c :: r) = .ok n := by unfold Lib.parseMag; rw [if_neg (by simp)]; exact p1
      unfold Lib.atoiAll
      simp only
      rw [if_neg (by omega), hm]
      simp only
      rw [if_neg (by omega), if_neg (by omega), if_neg (by omega)]
  rw [numW_ok ha, if_pos ⟨by omega, by omega, hi⟩, Int.toNat_natCast]
end Go.Proofs.YtmcpohnilgbicaaGreatDoor
