/-
  A rune's UTF-8, as the model writes it, is the document's. Plain mathematics over the model's encoder.
-/
import Derived.Test.YtiocmecalidlhaaDoorRunes
namespace Go.Proofs.Ut
open Go.Lib
theorem enc_valid (r : Nat) : Utf8.valid (r : Int) = decide (r < 55296 ∨ (57344 ≤ r ∧ r ≤ 1114111)) := by
  unfold Utf8.valid
  rw [Bool.eq_iff_iff]
  simp
  omega
set_option maxRecDepth 1000000 in
theorem enc_at (r c : Nat) (hc : (if Utf8.valid (r : Int) = true then (r : Int).toNat else Utf8.runeError) = c) :
    (Utf8.encode (r : Int)).data.toList = if c < 128 then [UInt8.ofNat c] else if c < 2048 then [UInt8.ofNat (192 + c / 64), UInt8.ofNat (128 + c % 64)]
      else if c < 65536 then [UInt8.ofNat (224 + c / 4096), UInt8.ofNat (128 + c / 64 % 64), UInt8.ofNat (128 + c % 64)]
      else [UInt8.ofNat (240 + c / 262144), UInt8.ofNat (128 + c / 4096 % 64), UInt8.ofNat (128 + c / 64 % 64), UInt8.ofNat (128 + c % 64)] := by
  unfold Utf8.encode
  rw [hc]
  simp only
  split
  · rfl
  · split
    · rfl
    · split
      · rfl
      · rfl
theorem encode_list (r : Nat) : (Utf8.encode (r : Int)).data.toList = enc8 r := by
  unfold enc8 encodeRune
  by_cases h : r < 55296 ∨ (57344 ≤ r ∧ r ≤ 1114111)
  · rw [enc_at r r (by rw [enc_valid, decide_eq_true h, if_pos rfl, Int.toNat_natCast])]
    by_cases h1 : r < 128
    · rw [if_pos h1, encodeRuneZ_one (by omega) (by omega)]
      simp
    · rw [if_neg h1]
      by_cases h2 : r < 2048
      · rw [if_pos h2, encodeRuneZ_two (by omega) (by omega)]
        simp only [List.map_cons, List.map_nil]
        rw [show ((192 : Int) + r / 64).toNat = 192 + r / 64 by omega, show ((128 : Int) + r % 64).toNat = 128 + r % 64 by omega]
      · rw [if_neg h2]
        by_cases h3 : r < 65536
        · rw [if_pos h3, encodeRuneZ_three (by omega)]
          simp only [List.map_cons, List.map_nil]
          rw [show ((224 : Int) + r / 4096).toNat = 224 + r / 4096 by omega, show ((128 : Int) + r / 64 % 64).toNat = 128 + r / 64 % 64 by omega, show ((128 : Int) + r % 64).toNat = 128 + r % 64 by omega]
        · rw [if_neg h3, encodeRuneZ_four (by omega) (by omega)]
          simp only [List.map_cons, List.map_nil]
          rw [show ((240 : Int) + r / 262144).toNat = 240 + r / 262144 by omega, show ((128 : Int) + r / 4096 % 64).toNat = 128 + r / 4096 % 64 by omega, show ((128 : Int) + r / 64 % 64).toNat = 128 + r / 64 % 64 by omega, show ((128 : Int) + r % 64).toNat = 128 + r % 64 by omega]
  · rw [enc_at r 65533 (by rw [enc_valid, decide_eq_false h, if_neg (by decide)]; rfl), encodeRuneZ_bad (by omega), if_neg (by omega), if_neg (by omega), if_pos (by omega)]
    rfl
theorem encode_size (r : Nat) : (Utf8.encode (r : Int)).size ≤ 4 := by
  rw [Lib.size_eq, encode_list]
  have := encodeRuneZ_length (r : Int)
  simp only [enc8, encodeRune, List.length_map]
  omega
set_option maxRecDepth 1000000 in
theorem encode_low (r : Nat) (h : r < 128) : Utf8.encode (r : Int) = ⟨#[UInt8.ofNat r]⟩ := by
  have h1 : Utf8.encode (r : Int) = ⟨(Utf8.encode (r : Int)).data.toList.toArray⟩ := by simp
  rw [h1, encode_list, enc8, encodeRune, encodeRuneZ_one (by omega) (by omega)]
  simp
end Go.Proofs.Ut
