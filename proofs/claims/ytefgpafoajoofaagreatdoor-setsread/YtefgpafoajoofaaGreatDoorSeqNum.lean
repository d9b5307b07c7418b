/-
  What seq.readNumber does.
-/
import Derived.Test.YtefgpafoajoofaaGreatDoorSeqBase
import Derived.Lib.IndexBytes
namespace Go.Proofs.YtefgpafoajoofaaGreatDoor
open Go.RowKit Go.Proofs.Aid Go.Proofs.Sq

theorem drop_cons (s : ByteArray) (k : Nat) (h : k < s.size) : s.data.toList.drop k = s[k] :: s.data.toList.drop (k + 1) := by
  have hl : k < s.data.toList.length := by rw [← Lib.size_eq]; exact h
  rw [List.drop_eq_getElem_cons hl, Array.getElem_toList]; rfl
theorem num_no {c : UInt8} {acc : Nat} {r : List UInt8} {ANS : Option Nat} (h : Hid (((digit? c).bind fun d => if acc * 10 + d ≤ 2147483647 then digitsFrom (acc * 10 + d) r else none) = ANS)) (h1 : c.toNat < 48 ∨ 57 < c.toNat ∨ 2147483647 < acc * 10 + (c.toNat - 48)) : none = ANS := by
  have h2 : ((digit? c).bind fun d => if acc * 10 + d ≤ 2147483647 then digitsFrom (acc * 10 + d) r else none) = ANS := h
  rw [← h2]
  unfold digit?
  by_cases h3 : 48 ≤ c.toNat ∧ c.toNat ≤ 57
  · rw [if_pos h3, Option.bind_some, if_neg (by omega)]
  · rw [if_neg h3]; rfl
theorem num_yes {c : UInt8} {acc : Nat} {r : List UInt8} {ANS : Option Nat} (h : Hid (((digit? c).bind fun d => if acc * 10 + d ≤ 2147483647 then digitsFrom (acc * 10 + d) r else none) = ANS)) (h1 : 48 ≤ c.toNat) (h3 : c.toNat ≤ 57) (h4 : acc * 10 + (c.toNat - 48) ≤ 2147483647) : digitsFrom (acc * 10 + (c.toNat - 48)) r = ANS := by
  have h2 : ((digit? c).bind fun d => if acc * 10 + d ≤ 2147483647 then digitsFrom (acc * 10 + d) r else none) = ANS := h
  rw [← h2]
  unfold digit?
  rw [if_pos ⟨h1, h3⟩, Option.bind_some, if_pos h4]
set_option maxHeartbeats 1000000 in
set_option maxRecDepth 100000 in
theorem number_any (s : ByteArray) (w : World) (hs : s.size ≤ 1000000) :
    Calls Tryz.prog 97 #[.string s] w fun e w' => ((∃ n : Nat, numOf s.data.toList = some n ∧ n ≤ 2147483647 ∧ e = .returned (.tuple #[.int .i64 (n : Int), .bool true])) ∨ (numOf s.data.toList = none ∧ e = .returned (.tuple #[.int .i64 0, .bool false]))) ∧ w' = w := by
  by_cases h1 : s = ⟨#[42]⟩
  · subst h1
    go_enter Tryz.func97, Tryz.ntmps97
    go_wp2
    go_ret2
    exact ⟨Or.inl ⟨0, rfl, by decide, rfl⟩, rfl⟩
  have hl1 : s.data.toList ≠ [42] := by
    intro h2; apply h1
    rw [show s = ⟨s.data.toList.toArray⟩ by simp, h2]
  by_cases h2 : s.size = 0
  · have hn : numOf s.data.toList = none := by
      have hz : s.data.toList = [] := List.eq_nil_of_length_eq_zero (by rw [← Lib.size_eq]; exact h2)
      rw [hz]; rfl
    rw [hn]
    have f1 : (s.toList == [42]) = false := by rw [Lib.toList_data]; simpa using hl1
    have f2 : s.toList = [] := by rw [Lib.toList_data]; exact List.eq_nil_of_length_eq_zero (by rw [← Lib.size_eq]; exact h2)
    go_enter Tryz.func97, Tryz.ntmps97
    go_wp2
    go_ret2
    exact ⟨Or.inr ⟨trivial, rfl⟩, rfl⟩
  have hd0 := drop_cons s 0 (by omega)
  rw [List.drop_zero] at hd0
  by_cases h3 : s[0]'(by omega) = 48
  · have hn : numOf s.data.toList = none := by
      unfold numOf
      rw [if_neg hl1, if_pos (Or.inr (by rw [hd0, h3]; rfl))]
    rw [hn]
    have f1 : (s.toList == [42]) = false := by rw [Lib.toList_data]; simpa using hl1
    have f2 : s.toList.isEmpty = false := by rw [Lib.toList_data, hd0]; rfl
    have f3 : (((s[0]'(by omega)).toNat : Int) == 48) = true := by rw [h3]; rfl
    go_enter Tryz.func97, Tryz.ntmps97
    go_wp2
    go_ret2
    exact ⟨Or.inr ⟨trivial, rfl⟩, rfl⟩
  have hn : numOf s.data.toList = digitsFrom 0 s.data.toList := by
    unfold numOf
    rw [if_neg hl1, if_neg (by rw [hd0]; rintro (h | h); cases h; exact h3 (by simpa using h))]
  rw [hn]
  obtain ⟨ANS, hANS⟩ : ∃ ANS, digitsFrom 0 s.data.toList = ANS := ⟨_, rfl⟩
  rw [hANS]
  have f1 : (s.toList == [42]) = false := by rw [Lib.toList_data]; simpa using hl1
  have f2 : s.toList.isEmpty = false := by rw [Lib.toList_data, hd0]; rfl
  have f3 : (((s[0]'(by omega)).toNat : Int) == 48) = false := by
    rw [beq_eq_false_iff_ne]
    intro e
    exact h3 (UInt8.toNat_inj.1 (by show (s[0]'(by omega)).toNat = 48; omega))
  clear hn hd0
  go_enter Tryz.func97, Tryz.ntmps97
  go_wp2
  go_loopw [4, 18] (fun nv i wr => ∃ (k acc : Nat), i = .int .i64 (k : Int) ∧ nv = .int .i64 (acc : Int) ∧ k ≤ s.size ∧ acc ≤ 2147483647 ∧ digitsFrom acc (s.data.toList.drop k) = ANS ∧ wr = w) (fun _ i _ => s.size - (intOf i).toNat)
  case atStart => exact ⟨0, 0, rfl, rfl, by omega, by decide, by simpa using hANS, rfl⟩
  case round =>
    obtain ⟨k, acc, rfl, rfl, hk, hacc, hd, rfl⟩ := hrel
    clear hANS
    by_cases hlt : k < s.size
    · rw [drop_cons s k hlt, digitsFrom] at hd
      generalize hc : s[k] = c at hd
      have HD : Hid (((digit? c).bind fun d => if acc * 10 + d ≤ 2147483647 then digitsFrom (acc * 10 + d) (s.data.toList.drop (k + 1)) else none) = ANS) := hd
      clear hd
      go_wp2_with fail
      all_goals first
        | (go_ret2; exact ⟨Or.inr ⟨(num_no HD (by omega)).symm, rfl⟩, rfl⟩)
        | (go_roundw
           case rel => exact ⟨k + 1, acc * 10 + (c.toNat - 48), by go_num, by congr 1; omega, by omega, by omega, num_yes HD (by omega) (by omega) (by omega), trivial⟩
           case measure => simp [intOf]; omega)
    · rw [List.drop_eq_nil_of_le (by rw [← Lib.size_eq]; omega), digitsFrom] at hd
      have HD : Hid (some acc = ANS) := hd
      clear hd
      go_wp2
      go_ret2
      exact ⟨Or.inl ⟨acc, HD.symm, hacc, rfl⟩, rfl⟩
end Go.Proofs.YtefgpafoajoofaaGreatDoor
