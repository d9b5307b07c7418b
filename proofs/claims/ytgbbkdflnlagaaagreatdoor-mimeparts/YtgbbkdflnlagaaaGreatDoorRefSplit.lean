/-
  The document's answer on letters great and small, and on where a head ends.
-/
import Derived.Test.YtgbbkdflnlagaaaGreatDoorHeadCut
import Derived.Test.YtgbbkdflnlagaaaGreatDoorHeadTies
import Derived.Lib.SmallJoins
namespace Go.Proofs.YtgbbkdflnlagaaaGreatDoor
open Go.RowKit Go.Proofs.Aid Go.Proofs.Hd

theorem conv_byte (c : UInt8) (z : Int) (h : (c.toNat : Int) = z) (w : World) : (convert 92 9 (.slice (some ⟨w.heap.size, 0, none⟩) 1 1)).run Tryz.prog (w.alloc (.cells #[.int .u8 z] 5)) = .ok (.string ⟨#[c]⟩) (w.alloc (.cells #[.int .u8 z] 5)) := by
  subst h
  exact run_convert_bytes_back _ 92 9 5 ⟨w.heap.size, 0, none⟩ 1 [c] Tryz.underlying92 Tryz.underlying5 Tryz.underlying9 (fun j hj => by
    obtain rfl : j = 0 := by simpa using hj
    simp [Addr.add])
theorem one_list (c : UInt8) (t : ByteArray) : (t ++ (⟨#[c]⟩ : ByteArray)).data.toList = t.data.toList ++ [c] := by
  rw [Joins.data_append]
theorem one_size (c : UInt8) (t : ByteArray) : (t ++ (⟨#[c]⟩ : ByteArray)).size = t.size + 1 := by
  rw [Lib.size_eq, one_list, List.length_append, ← Lib.size_eq]; rfl
theorem map_snoc (f : UInt8 → UInt8) {l : Tx} {k : Nat} (hk : k < l.length) : (l.take (k + 1)).map f = (l.take k).map f ++ [f l[k]] := by
  rw [List.take_succ_eq_append_getElem hk, List.map_append]; rfl
set_option maxHeartbeats 1000000 in
set_option maxRecDepth 100000 in
theorem rsmall_is (s : ByteArray) (w : World) (hs : s.size ≤ 1000000) : Calls Tryz.prog 51 #[.string s] w fun e w' => e = .returned (.string ⟨(small s.data.toList).toArray⟩) ∧ Below w.heap.size w w' := by
  have hla := list_size s
  go_enter Tryz.func51, Tryz.ntmps51
  go_wp2
  go_loopw [3, 8] (fun ov i wr => ∃ (k : Nat) (t : ByteArray), i = .int .i64 (k : Int) ∧ k ≤ s.size ∧ ov = .string t ∧ t.size = k ∧ Hid (t.data.toList = (s.data.toList.take k).map sm) ∧ Below w.heap.size w wr) (fun _ i _ => s.size - (intOf i).toNat)
  case atStart => exact ⟨0, ⟨#[]⟩, rfl, Nat.zero_le _, rfl, rfl, rfl, Below.refl _ _⟩
  case round =>
    obtain ⟨k, t, rfl, hk, rfl, htk, HT, hbW⟩ := hrel
    by_cases hlt : k < s.size
    · have hkl : k < s.data.toList.length := by omega
      have hc := s[k].toNat_lt
      by_cases hq : 65 ≤ s[k].toNat ∧ s[k].toNat ≤ 90
      · have h1 : decide ((65 : Int) ≤ (s[k].toNat : Int)) = true := by simp; omega
        have h2 : decide ((s[k].toNat : Int) ≤ 90) = true := by simp; omega
        have hsm : (sm s[k]).toNat = s[k].toNat + 32 := by
          unfold sm; rw [if_pos hq, UInt8.toNat_add]
          show (s[k].toNat + 32) % 256 = _
          omega
        have hcv := conv_byte (sm s[k]) ((s[k].toNat : Int) + 32) (by omega) wr
        obtain ⟨C, hC⟩ : ∃ C, sm s[k] = C := ⟨_, rfl⟩
        have HC : Hid (sm s.data.toList[k] = C) := hC
        rw [hC] at hcv
        have hsz : t.size + (⟨#[C]⟩ : ByteArray).size ≤ 1000001 := by show t.size + 1 ≤ _; omega
        clear hsm hC
        go_wp2
        go_roundw
        case rel => exact ⟨k + 1, t ++ ⟨#[C]⟩, by go_num, by omega, rfl, by rw [one_size, htk], by show _ = _; rw [one_list, map_snoc sm hkl, HT.out, HC.out], hbW.alloc hbW.size _⟩
        case measure => simp [intOf]; omega
      · have hsm : sm s[k] = s[k] := by unfold sm; rw [if_neg hq]
        have hcv := conv_byte s[k] (s[k].toNat : Int) rfl wr
        have HC : Hid (sm s.data.toList[k] = s[k]) := hsm
        have hsz : t.size + (⟨#[s[k]]⟩ : ByteArray).size ≤ 1000001 := by show t.size + 1 ≤ _; omega
        clear hsm
        by_cases h1 : 65 ≤ s[k].toNat
        · have h1' : decide ((65 : Int) ≤ (s[k].toNat : Int)) = true := by simp; omega
          have h2' : decide ((s[k].toNat : Int) ≤ 90) = false := by simp; omega
          go_wp2
          go_roundw
          case rel => exact ⟨k + 1, t ++ ⟨#[s[k]]⟩, by go_num, by omega, rfl, by rw [one_size, htk], by show _ = _; rw [one_list, map_snoc sm hkl, HT.out, HC.out], hbW.alloc hbW.size _⟩
          case measure => simp [intOf]; omega
        · have h1' : decide ((65 : Int) ≤ (s[k].toNat : Int)) = false := by simp; omega
          go_wp2
          go_roundw
          case rel => exact ⟨k + 1, t ++ ⟨#[s[k]]⟩, by go_num, by omega, rfl, by rw [one_size, htk], by show _ = _; rw [one_list, map_snoc sm hkl, HT.out, HC.out], hbW.alloc hbW.size _⟩
          case measure => simp [intOf]; omega
    · obtain rfl : k = s.size := by omega
      have HE : Hid (t = ⟨(small s.data.toList).toArray⟩) := text_ext (by rw [HT.out, List.take_of_length_le (by omega)]; rfl)
      go_wp2
      go_ret
      exact ⟨by rw [← HE.out]; rfl, hbW⟩
set_option maxHeartbeats 1000000 in
set_option maxRecDepth 100000 in
theorem rgreat_is (s : ByteArray) (w : World) (hs : s.size ≤ 1000000) : Calls Tryz.prog 76 #[.string s] w fun e w' => e = .returned (.string ⟨(great s.data.toList).toArray⟩) ∧ Below w.heap.size w w' := by
  have hla := list_size s
  go_enter Tryz.func76, Tryz.ntmps76
  go_wp2
  go_loopw [3, 8] (fun ov i wr => ∃ (k : Nat) (t : ByteArray), i = .int .i64 (k : Int) ∧ k ≤ s.size ∧ ov = .string t ∧ t.size = k ∧ Hid (t.data.toList = (s.data.toList.take k).map gr) ∧ Below w.heap.size w wr) (fun _ i _ => s.size - (intOf i).toNat)
  case atStart => exact ⟨0, ⟨#[]⟩, rfl, Nat.zero_le _, rfl, rfl, rfl, Below.refl _ _⟩
  case round =>
    obtain ⟨k, t, rfl, hk, rfl, htk, HT, hbW⟩ := hrel
    by_cases hlt : k < s.size
    · have hkl : k < s.data.toList.length := by omega
      have hc := s[k].toNat_lt
      by_cases hq : 97 ≤ s[k].toNat ∧ s[k].toNat ≤ 122
      · have h1 : decide ((97 : Int) ≤ (s[k].toNat : Int)) = true := by simp; omega
        have h2 : decide ((s[k].toNat : Int) ≤ 122) = true := by simp; omega
        have hsm : (gr s[k]).toNat = s[k].toNat - 32 := by
          unfold gr; rw [if_pos hq, UInt8.toNat_sub]
          show (256 - 32 + s[k].toNat) % 256 = _
          omega
        have hcv := conv_byte (gr s[k]) ((s[k].toNat : Int) - 32) (by omega) wr
        obtain ⟨C, hC⟩ : ∃ C, gr s[k] = C := ⟨_, rfl⟩
        have HC : Hid (gr s.data.toList[k] = C) := hC
        rw [hC] at hcv
        have hsz : t.size + (⟨#[C]⟩ : ByteArray).size ≤ 1000001 := by show t.size + 1 ≤ _; omega
        clear hsm hC
        go_wp2
        go_roundw
        case rel => exact ⟨k + 1, t ++ ⟨#[C]⟩, by go_num, by omega, rfl, by rw [one_size, htk], by show _ = _; rw [one_list, map_snoc gr hkl, HT.out, HC.out], hbW.alloc hbW.size _⟩
        case measure => simp [intOf]; omega
      · have hsm : gr s[k] = s[k] := by unfold gr; rw [if_neg hq]
        have hcv := conv_byte s[k] (s[k].toNat : Int) rfl wr
        have HC : Hid (gr s.data.toList[k] = s[k]) := hsm
        have hsz : t.size + (⟨#[s[k]]⟩ : ByteArray).size ≤ 1000001 := by show t.size + 1 ≤ _; omega
        clear hsm
        by_cases h1 : 97 ≤ s[k].toNat
        · have h1' : decide ((97 : Int) ≤ (s[k].toNat : Int)) = true := by simp; omega
          have h2' : decide ((s[k].toNat : Int) ≤ 122) = false := by simp; omega
          go_wp2
          go_roundw
          case rel => exact ⟨k + 1, t ++ ⟨#[s[k]]⟩, by go_num, by omega, rfl, by rw [one_size, htk], by show _ = _; rw [one_list, map_snoc gr hkl, HT.out, HC.out], hbW.alloc hbW.size _⟩
          case measure => simp [intOf]; omega
        · have h1' : decide ((97 : Int) ≤ (s[k].toNat : Int)) = false := by simp; omega
          go_wp2
          go_roundw
          case rel => exact ⟨k + 1, t ++ ⟨#[s[k]]⟩, by go_num, by omega, rfl, by rw [one_size, htk], by show _ = _; rw [one_list, map_snoc gr hkl, HT.out, HC.out], hbW.alloc hbW.size _⟩
          case measure => simp [intOf]; omega
    · obtain rfl : k = s.size := by omega
      have HE : Hid (t = ⟨(great s.data.toList).toArray⟩) := text_ext (by rw [HT.out, List.take_of_length_le (by omega)]; rfl)
      go_wp2
      go_ret
      exact ⟨by rw [← HE.out]; rfl, hbW⟩
set_option maxHeartbeats 1000000 in
set_option maxRecDepth 100000 in
theorem rsplit_is (s : ByteArray) (m : Int) (w : World) (hs : s.size ≤ 1000000) (hm : w.cell? ⟨1, 0, none⟩ = some (.int .i64 m)) :
    Calls Tryz.prog 52 #[.string s] w fun e w' => e = .returned (.tuple #[.string ⟨(headOf s.data.toList).toArray⟩, .string ⟨(bodyOf s.data.toList).toArray⟩]) ∧ Below w.heap.size w w' := by
  have hla := list_size s
  obtain ⟨N, hN⟩ : ∃ N, headLen true s.data.toList = N := ⟨_, rfl⟩
  have hNs : N ≤ s.size := by rw [← hN, ← hla]; exact headLen_le _ _
  have e1 : (⟨(headOf s.data.toList).toArray⟩ : ByteArray) = s.extract 0 N := (text_ext (by rw [Lib.extract_from_zero, ← hN]; rfl)).symm
  have e2 : (⟨(bodyOf s.data.toList).toArray⟩ : ByteArray) = s.extract N s.size := (text_ext (by rw [Lib.extract_to_end, ← hN]; rfl)).symm
  rw [e1, e2]
  have HN : Hid (headLen true s.data.toList = N) := hN
  clear e1 e2 hN
  go_enter Tryz.func52, Tryz.ntmps52
  go_wp2_with fail
  go_loopw [4] (fun v wr => ∃ k : Nat, v = .int .i64 (k : Int) ∧ k ≤ s.size ∧ Hid (k + headLen true (s.data.toList.drop k) = N) ∧ wr = w) (fun v _ => s.size - (intOf v).toNat)
  case atStart => exact ⟨0, rfl, by omega, by show _ = _; simpa using HN.out, rfl⟩
  case round =>
    obtain ⟨k, rfl, hk, HK, hw⟩ := hrel
    obtain rfl : w = wr := hw.symm
    by_cases hlt : k < s.size
    · have cI := Tryz.strings_Index (s.extract k s.size) ⟨#[13, 10]⟩ m w (by rw [Lib.size_eq, Lib.extract_to_end, List.length_drop, hla]; omega) hm
      rw [Lib.extract_to_end, show (⟨#[13, 10]⟩ : ByteArray).data.toList = [13, 10] from rfl] at cI
      have hi := headLen_true_index (s.data.toList.drop k)
      have hge := Lib.index_ge (s.data.toList.drop k) [13, 10]
      have hrm := Lib.index_room (s.data.toList.drop k) [13, 10]
      rw [List.length_drop, hla, List.drop_drop] at hi
      rw [List.length_drop, hla, show ([13, 10] : Tx).length = 2 from rfl] at hrm
      have HI : Hid (headLen true (s.data.toList.drop k) = if Lib.index (s.data.toList.drop k) [13, 10] = -1 then s.size - k else if Lib.index (s.data.toList.drop k) [13, 10] = 0 then 2 else (Lib.index (s.data.toList.drop k) [13, 10]).toNat + 2 + headLen true (s.data.toList.drop (k + ((Lib.index (s.data.toList.drop k) [13, 10]).toNat + 2)))) := hi
      clear hi
      generalize Lib.index (s.data.toList.drop k) [13, 10] = z at cI hge hrm HI
      go_wp2_with fail
      refine cI.mono ?_
      rintro e w1 ⟨rfl, hw⟩
      obtain rfl : w = w1 := hw.symm
      by_cases hz : z < 0
      · have hNN : N = s.size := by have := HI.out; rw [if_pos (by omega)] at this; have := HK.out; omega
        subst hNN
        go_wp2_with fail
        go_ret2
        exact ⟨by rw [show s.extract 0 s.size = s from text_ext (by rw [Lib.extract_from_zero, List.take_of_length_le (by omega)]), show s.extract s.size s.size = ⟨#[]⟩ from text_ext (by rw [Lib.extract_to_end, List.drop_eq_nil_of_le (by omega)])]; rfl, Below.refl _ _⟩
      · have hz0 : ¬ z < 0 := hz
        have hb2 := hrm (by omega)
        by_cases h0 : z = 0
        · have hNN : N = k + 2 := by have := HI.out; rw [if_neg (by omega), if_pos h0] at this; have := HK.out; omega
          subst h0
          subst hNN
          go_wp2_with fail
          go_region
          all_goals
            go_wp2_with fail
            go_ret2
            exact ⟨rfl, (Below.refl _ _).drew⟩
        · obtain ⟨q, rfl⟩ : ∃ q : Nat, z = q := ⟨z.toNat, by omega⟩
          have hzb : ((q : Int) == 0) = false := by rw [beq_eq_false_iff_ne]; exact h0
          have HN2 : Hid ((k + (q + 2)) + headLen true (s.data.toList.drop (k + (q + 2))) = N) := by
            show _ = _
            have h1 := HI.out
            rw [if_neg (by omega), if_neg h0, Int.toNat_natCast] at h1
            have h2 := HK.out
            omega
          go_wp2_with fail
          go_roundw
          case rel => exact ⟨k + (q + 2), by go_num, by omega, HN2.out, trivial⟩
          case measure => simp [intOf]; omega
    · obtain rfl : k = s.size := by omega
      have hNN : N = s.size := by have := HK.out; rw [List.drop_eq_nil_of_le (by omega)] at this; simpa [headLen] using this.symm
      subst hNN
      go_wp2_with fail
      go_ret2
      exact ⟨rfl, Below.refl _ _⟩
end Go.Proofs.YtgbbkdflnlagaaaGreatDoor
