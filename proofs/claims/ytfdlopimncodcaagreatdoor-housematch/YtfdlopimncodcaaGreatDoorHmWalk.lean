/-
  What HouseMatch does, where a house is as housed asks.
-/
import Derived.Test.YtfdlopimncodcaaGreatDoorHmAround
namespace Go.Proofs.YtfdlopimncodcaaGreatDoor
open Go.RowKit Go.Proofs.Aid

/-- The library's contracts that HouseMatch wants. -/
structure StrAt (w : World) : Prop where
  slash : SlashAt
  any : ∀ (x : ByteArray) (W : World), x.size ≤ 100 → Calls Tryz.prog 37 #[.string x, .string ⟨#[42, 37]⟩] W fun e w' => e = .returned (.bool (decide ((42 : UInt8) ∈ x.data.toList ∨ (37 : UInt8) ∈ x.data.toList))) ∧ Below W.heap.size W w'
  has : ∀ (x y : ByteArray) (W : World), Below w.heap.size w W → x.size ≤ 200 → Calls Tryz.prog 38 #[.string x, .string y] W fun e w' => ∃ B, e = .returned (.bool B) ∧ (B = true ↔ ∃ a b, x.data.toList = a ++ y.data.toList ++ b) ∧ w' = W
  pre : ∀ (x y : ByteArray) (W : World), Calls Tryz.prog 33 #[.string x, .string y] W fun e w' => ∃ B, e = .returned (.bool B) ∧ (B = true ↔ ∃ u, x.data.toList = y.data.toList ++ u) ∧ w' = W
theorem cat_list (a b : ByteArray) : (a ++ b).data.toList = a.data.toList ++ b.data.toList := by simp
theorem cat_size (a b : ByteArray) : (a ++ b).size = a.size + b.size := by simp
theorem mB {p s : List UInt8} {b : Bool} (h : Mt p s ↔ b = true) : matchB p s = b := by
  cases b with
  | true => exact (match_iff p s).2 (h.2 rfl)
  | false =>
    cases hm : matchB p s with
    | false => rfl
    | true => exact absurd (h.1 ((match_iff p s).1 hm)) (by simp)
theorem ext_list (s : ByteArray) (i j : Nat) : (s.extract i j).data.toList = (s.data.toList.drop i).take (j - i) := by
  rw [ByteArray.data_extract, Array.toList_extract]
theorem ba_eq' {a b : ByteArray} (h : a.data.toList = b.data.toList) : a = b := by
  obtain ⟨⟨x⟩⟩ := a
  obtain ⟨⟨y⟩⟩ := b
  have : x = y := h
  rw [this]
theorem ar_iff {p s : ByteArray} : arB p s = true ↔ ∃ a b, s.data.toList = a ++ p.data.toList ++ b ∧ (47 : UInt8) ∉ a ∧ (47 : UInt8) ∉ b := by
  have hpl : p.data.toList.length = p.size := by rw [Array.length_toList]; rfl
  have hsl : s.data.toList.length = s.size := by rw [Array.length_toList]; rfl
  unfold arB
  rw [List.any_eq_true]
  constructor
  · rintro ⟨i, hi, h⟩
    rw [List.mem_range] at hi
    unfold arAt at h
    simp only [Bool.and_eq_true, decide_eq_true_eq, Bool.not_eq_true', decide_eq_false_iff_not] at h
    obtain ⟨⟨h1, h2⟩, h3⟩ := h
    have h1 := congrArg (fun x : ByteArray => x.data.toList) h1
    simp only [ext_list] at h1 h2 h3
    rw [Nat.add_sub_cancel_left] at h1
    rw [List.drop_zero, Nat.sub_zero] at h2
    refine ⟨s.data.toList.take i, s.data.toList.drop (i + p.size), ?_, h2, ?_⟩
    · rw [← h1, List.append_assoc, ← List.drop_drop, List.take_append_drop, List.take_append_drop]
    · rwa [List.take_of_length_le (by rw [List.length_drop, hsl]; omega)] at h3
  · rintro ⟨a, b, he, ha, hb⟩
    have hlen := congrArg List.length he
    rw [List.length_append, List.length_append, hsl, hpl] at hlen
    refine ⟨a.length, List.mem_range.2 (by omega), ?_⟩
    unfold arAt
    simp only [Bool.and_eq_true, decide_eq_true_eq, Bool.not_eq_true', decide_eq_false_iff_not]
    refine ⟨⟨ba_eq' ?_, ?_⟩, ?_⟩
    · rw [ext_list, he, Nat.add_sub_cancel_left, List.append_assoc, List.drop_left, ← hpl, List.take_left]
    · rw [ext_list, he, List.drop_zero, Nat.sub_zero, List.append_assoc, List.take_left]
      exact ha
    · rw [ext_list, he, show a.length + p.size = (a ++ p.data.toList).length by rw [List.length_append, hpl], List.drop_left]
      exact fun h => hb (List.mem_of_mem_take h)
end Go.Proofs.YtfdlopimncodcaaGreatDoor
