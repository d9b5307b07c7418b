/-
  What head.unquoted does.
-/
import Derived.Test.YtgbbkdflnlagaaaGreatDoorHeadCut
namespace Go.Proofs.YtgbbkdflnlagaaaGreatDoor
open Go.RowKit Go.Proofs.Aid Go.Proofs.Hd

theorem unq_no {l : Tx} {c : UInt8} (h : l.head? = some c) (hc : c ≠ 34) : unq l = l := if_neg (by rintro ⟨_, h1, _⟩; rw [h] at h1; cases h1; exact hc rfl)
theorem unq_no2 {l : Tx} {c : UInt8} (h : l.getLast? = some c) (hc : c ≠ 34) : unq l = l := if_neg (by rintro ⟨_, _, h1⟩; rw [h] at h1; cases h1; exact hc rfl)
theorem unq_yes {l : Tx} (h2 : 2 ≤ l.length) (h : l.head? = some 34) (h1 : l.getLast? = some 34) : unq l = l.tail.dropLast := if_pos ⟨h2, h, h1⟩
theorem cut_ends (s : ByteArray) : (s.extract 1 (s.size - 1)).data.toList = s.data.toList.tail.dropLast := by
  have hl := list_size s
  have e : (s.extract 1 (s.size - 1)).data = s.data.extract 1 (s.size - 1) := ByteArray.data_extract
  rw [e, Array.toList_extract, List.extract_eq_take_drop, List.drop_one, List.dropLast_eq_take, List.length_tail, hl]
theorem unq_is (s : ByteArray) (w : World) (hs : s.size ≤ 1000000) :
    Calls Tryz.prog 158 #[.string s] w fun e w' => e = .returned (.string ⟨(unq s.data.toList).toArray⟩) ∧ w' = w := by
  have hl := list_size s
  obtain ⟨R, hR⟩ : ∃ R : ByteArray, ⟨(unq s.data.toList).toArray⟩ = R := ⟨_, rfl⟩
  rw [hR]
  by_cases h2 : s.size < 2
  · obtain rfl : s = R := by rw [← hR]; exact text_ext (by show _ = unq _; unfold unq; rw [if_neg (by rw [hl]; omega)])
    clear hR
    have q : decide ((2 : Int) ≤ (s.size : Int)) = false := decide_eq_false (by omega)
    go_enter Tryz.func158, Tryz.ntmps158
    go_wp2_with fail
    go_ret
    exact ⟨rfl, rfl⟩
  · have q : decide ((2 : Int) ≤ (s.size : Int)) = true := decide_eq_true (by omega)
    have h0 : 0 < s.size := by omega
    have h1 : s.size - 1 < s.size := by omega
    have HC0 : Hid (s.data.toList.head? = some (s[0]'h0)) := by
      show _ = _
      rw [List.head?_eq_getElem?, List.getElem?_eq_getElem (by omega)]; rfl
    have HC1 : Hid (s.data.toList.getLast? = some (s[s.size - 1]'h1)) := by
      show _ = _
      rw [List.getLast?_eq_getElem?, hl, List.getElem?_eq_getElem (by omega)]; rfl
    generalize hc0 : s[0] = c0 at HC0
    generalize hc1 : s[s.size - 1] = c1 at HC1
    by_cases e0 : c0 = 34
    · have q0 : ((c0.toNat : Int) == 34) = true := by rw [e0]; rfl
      by_cases e1 : c1 = 34
      · have q1 : ((c1.toNat : Int) == 34) = true := by rw [e1]; rfl
        obtain rfl : s.extract 1 (s.size - 1) = R := by
          rw [← hR]
          exact text_ext (by rw [cut_ends s, unq_yes (by omega) (e0 ▸ HC0.out) (e1 ▸ HC1.out)])
        clear hR
        go_enter Tryz.func158, Tryz.ntmps158
        go_wp2_with fail
        go_ret
        exact ⟨rfl, rfl⟩
      · have q1 : ((c1.toNat : Int) == 34) = false := by rw [beq_eq_false_iff_ne]; intro h; exact e1 (UInt8.toNat_inj.1 (by show c1.toNat = 34; omega))
        obtain rfl : s = R := by rw [← hR]; exact text_ext (by rw [unq_no2 HC1.out e1])
        clear hR
        go_enter Tryz.func158, Tryz.ntmps158
        go_wp2_with fail
        go_ret
        exact ⟨rfl, rfl⟩
    · have q0 : ((c0.toNat : Int) == 34) = false := by rw [beq_eq_false_iff_ne]; intro h; exact e0 (UInt8.toNat_inj.1 (by show c0.toNat = 34; omega))
      obtain rfl : s = R := by rw [← hR]; exact text_ext (by rw [unq_no HC0.out e0])
      clear hR
      go_enter Tryz.func158, Tryz.ntmps158
      go_wp2_with fail
      go_ret
      exact ⟨rfl, rfl⟩
end Go.Proofs.YtgbbkdflnlagaaaGreatDoor
