/-
  The document's answer on flags: letters made small, the five, what a flag is called.
-/
import Derived.Test.YtneipabooahihaaGreatDoorFlagsLetters
import Derived.Test.YtneipabooahihaaGreatDoorFlagsOps
import Derived.Lib.SmallJoins
namespace Go.Proofs.YtneipabooahihaaGreatDoor
open Go.RowKit Go.Proofs.Aid Go.Proofs.Fl

theorem ref_five (j : Nat) (hj : j < 5) (w : World) : Calls Tryz.prog 48 #[.int .i64 (j : Int)] w fun e w' => e = .returned (.string (sysB j)) ∧ w' = w := by
  have i0 := Tryz.ix0
  have i1 := Tryz.ix1
  have i2 := Tryz.ix2
  have i3 := Tryz.ix3
  have i4 := Tryz.ix4
  have : j = 0 ∨ j = 1 ∨ j = 2 ∨ j = 3 ∨ j = 4 := by omega
  rcases this with rfl | rfl | rfl | rfl | rfl
  all_goals
    go_enter Tryz.func48, Tryz.ntmps48
    go_wp2
    go_ret
    exact ⟨rfl, rfl⟩
theorem conv_z (c : UInt8) (z : Int) (h : (c.toNat : Int) = z) (w : World) : (convert 75 9 (.slice (some ⟨w.heap.size, 0, none⟩) 1 1)).run Tryz.prog (w.alloc (.cells #[.int .u8 z] 5)) = .ok (.string ⟨#[c]⟩) (w.alloc (.cells #[.int .u8 z] 5)) := by
  subst h
  exact run_convert_bytes_back _ 75 9 5 ⟨w.heap.size, 0, none⟩ 1 [c] Tryz.underlying75 Tryz.underlying5 Tryz.underlying9 (fun j hj => by
    obtain rfl : j = 0 := by simpa using hj
    simp [Addr.add])
theorem back_list (c : UInt8) (t : ByteArray) : (t ++ (⟨#[c]⟩ : ByteArray)).data.toList = t.data.toList ++ [c] := by
  rw [Joins.data_append]
theorem back_size (c : UInt8) (t : ByteArray) : (t ++ (⟨#[c]⟩ : ByteArray)).size = t.size + 1 := by
  rw [Lib.size_eq, back_list, List.length_append, ← Lib.size_eq]; rfl
theorem sm_snoc {l : Tx} {k : Nat} (hk : k < l.length) : (l.take (k + 1)).map sm = (l.take k).map sm ++ [sm l[k]] := by
  rw [List.take_succ_eq_append_getElem hk, List.map_append]; rfl
set_option maxHeartbeats 1000000 in
set_option maxRecDepth 100000 in
theorem ref_small (s : ByteArray) (w : World) (hs : s.size ≤ 1000000) : Calls Tryz.prog 47 #[.string s] w fun e w' => (∃ t : ByteArray, e = .returned (.string t) ∧ t.data.toList = s.data.toList.map sm) ∧ Below w.heap.size w w' := by
  have hla : s.data.toList.length = s.size := by show s.data.toList.length = s.data.size; simp
  go_enter Tryz.func47, Tryz.ntmps47
  go_wp2
  go_loopw [3, 8] (fun ov i wr => ∃ (k : Nat) (t : ByteArray), i = .int .i64 (k : Int) ∧ k ≤ s.size ∧ ov = .string t ∧ t.size = k ∧ Hid (t.data.toList = (s.data.toList.take k).map sm) ∧ Below w.heap.size w wr) (fun _ i _ => s.size - (intOf i).toNat)
  case atStart => exact ⟨0, ⟨#[]⟩, rfl, Nat.zero_le _, rfl, rfl, rfl, Below.refl _ _⟩
  case round =>
    obtain ⟨k, t, rfl, hk, rfl, htk, HT, hbW⟩ := hrel
    by_cases hlt : k < s.size
    · have hkl : k < s.data.toList.length := by omega
      have hc := s[k].toNat_lt
      by_cases hq : 65 ≤ s[k].toNat ∧ s[k].toNat ≤ 90
      · have h1 : decide ((65 : Int) ≤ (s[k].toNat : Int)) = true := by simp; omega
        have h2 : decide ((s[k].toNat : Int) ≤ 90) = true := by simp; omega
        have hsm : (sm s[k]).toNat = s[k].toNat + 32 := by
          unfold sm; rw [if_pos hq, UInt8.toNat_add]
          show (s[k].toNat + 32) % 256 = _
          omega
        have hcv := conv_z (sm s[k]) ((s[k].toNat : Int) + 32) (by omega) wr
        obtain ⟨C, hC⟩ : ∃ C, sm s[k] = C := ⟨_, rfl⟩
        have HC : Hid (sm s.data.toList[k] = C) := hC
        rw [hC] at hcv
        have hsz : t.size + (⟨#[C]⟩ : ByteArray).size ≤ 1000001 := by show t.size + 1 ≤ _; omega
        clear hsm hC
        go_wp2
        go_roundw
        case rel => exact ⟨k + 1, t ++ ⟨#[C]⟩, by go_num, by omega, rfl, by rw [back_size, htk], by show _ = _; rw [back_list, sm_snoc hkl, HT.out, HC.out], hbW.alloc hbW.size _⟩
        case measure => simp [intOf]; omega
      · have hsm : sm s[k] = s[k] := by unfold sm; rw [if_neg hq]
        have hcv := conv_z s[k] (s[k].toNat : Int) rfl wr
        have HC : Hid (sm s.data.toList[k] = s[k]) := hsm
        have hsz : t.size + (⟨#[s[k]]⟩ : ByteArray).size ≤ 1000001 := by show t.size + 1 ≤ _; omega
        clear hsm
        by_cases h1 : 65 ≤ s[k].toNat
        · have h1' : decide ((65 : Int) ≤ (s[k].toNat : Int)) = true := by simp; omega
          have h2' : decide ((s[k].toNat : Int) ≤ 90) = false := by simp; omega
          go_wp2
          go_roundw
          case rel => exact ⟨k + 1, t ++ ⟨#[s[k]]⟩, by go_num, by omega, rfl, by rw [back_size, htk], by show _ = _; rw [back_list, sm_snoc hkl, HT.out, HC.out], hbW.alloc hbW.size _⟩
          case measure => simp [intOf]; omega
        · have h1' : decide ((65 : Int) ≤ (s[k].toNat : Int)) = false := by simp; omega
          go_wp2
          go_roundw
          case rel => exact ⟨k + 1, t ++ ⟨#[s[k]]⟩, by go_num, by omega, rfl, by rw [back_size, htk], by show _ = _; rw [back_list, sm_snoc hkl, HT.out, HC.out], hbW.alloc hbW.size _⟩
          case measure => simp [intOf]; omega
    · have HE : Hid (t.data.toList = s.data.toList.map sm) := by
        have := HT.out
        rw [List.take_of_length_le (by omega)] at this
        exact this
      clear htk
      go_wp2
      go_ret
      exact ⟨⟨t, rfl, HE.out⟩, hbW⟩
end Go.Proofs.YtneipabooahihaaGreatDoor
