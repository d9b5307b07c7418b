/-
  A head by its lines, and a text without blanks from both ends, as the , and more.
-/
import Derived.Test.YtogigccbnohjjaaGreatDoorBpSfOne
namespace Go.Proofs.Hd
open Go.Proofs.Sq
theorem headLen_false_index : ∀ (s : Tx), headLen false s = if Lib.index s [13, 10] = -1 then s.length else (Lib.index s [13, 10]).toNat + 2 + headLen true (s.drop ((Lib.index s [13, 10]).toNat + 2))
 | [] => by simp [headLen, Lib.index]
 | [c] => by simp [headLen, Lib.index, List.isPrefixOf]
 | c :: d :: r => by
  have ih := headLen_false_index (d :: r)
  have hg := Lib.index_ge (d :: r) [13, 10]
  rw [headLen]
  by_cases h : c = 13 ∧ d = 10
  ·obtain ⟨rfl, rfl⟩ := h
   have e0 : Lib.index (13 :: 10 :: r) [13, 10] = 0 := by rw [index_cons, if_pos (by simp [List.isPrefixOf])]
   rw [if_pos ⟨rfl, rfl⟩, e0]
   simp
  ·have n0 : ([13, 10] : Tx).isPrefixOf (c :: d :: r) = false := by
    cases hp : ([13, 10] : Tx).isPrefixOf (c :: d :: r) with
    | false => rfl
    | true =>
     simp [List.isPrefixOf] at hp
     exact absurd ⟨hp.1.symm, hp.2.symm⟩ h
   rw [if_neg h, ih, index_cons c (d :: r), n0]
   simp only [Bool.false_eq_true, if_false]
   generalize Lib.index (d :: r) [13, 10] = z at hg
   by_cases hz : z = -1
   ·subst hz; simp; omega
   ·have hz1 : ¬ z + 1 = -1 := by omega
    rw [if_neg hz, if_neg hz, if_neg hz1]
    have e : (z + 1).toNat = z.toNat + 1 := by omega
    have e2 : (c :: d :: r).drop (z.toNat + 1 + 2) = (d :: r).drop (z.toNat + 2) := by
     rw [show z.toNat + 1 + 2 = (z.toNat + 2) + 1 by omega]; rfl
    rw [e, e2]
    omega
theorem headLen_true_index (s : Tx) : headLen true s = if Lib.index s [13, 10] = -1 then s.length else if Lib.index s [13, 10] = 0 then 2 else (Lib.index s [13, 10]).toNat + 2 + headLen true (s.drop ((Lib.index s [13, 10]).toNat + 2)) := by
 match s with
 | [] => simp [headLen, Lib.index]
 | [c] => simp [headLen, Lib.index, List.isPrefixOf]
 | c :: d :: r =>
  by_cases h : c = 13 ∧ d = 10
  ·obtain ⟨rfl, rfl⟩ := h
   have e0 : Lib.index (13 :: 10 :: r) [13, 10] = 0 := by rw [index_cons, if_pos (by simp [List.isPrefixOf])]
   rw [e0]
   simp [headLen]
  ·have n0 : ([13, 10] : Tx).isPrefixOf (c :: d :: r) = false := by
    cases hp : ([13, 10] : Tx).isPrefixOf (c :: d :: r) with
    | false => rfl
    | true =>
     simp [List.isPrefixOf] at hp
     exact absurd ⟨hp.1.symm, hp.2.symm⟩ h
   have hne : Lib.index (c :: d :: r) [13, 10] ≠ 0 := by
    rw [index_cons, n0]
    have := Lib.index_ge (d :: r) [13, 10]
    simp only [Bool.false_eq_true, if_false]
    split <;> omega
   have e1 : headLen true (c :: d :: r) = headLen false (c :: d :: r) := by rw [headLen, headLen, if_neg h, if_neg h]
   rw [e1, headLen_false_index, if_neg hne]
end Go.Proofs.Hd
namespace Go.Proofs.YtogigccbnohjjaaGreatDoor
open Go.RowKit Go.Proofs.Aid Go.Proofs.Hd
set_option maxHeartbeats 2000000
set_option maxRecDepth 100000
theorem conv_byte (c : UInt8) (z : Int) (h : (c.toNat : Int) = z) (w : World) : (convert 99 9 (.slice (some ⟨w.heap.size, 0, none⟩) 1 1)).run Tryz.prog (w.alloc (.cells #[.int .u8 z] 5)) = .ok (.string ⟨#[c]⟩) (w.alloc (.cells #[.int .u8 z] 5)) := by
 subst h
 exact run_convert_bytes_back _ 99 9 5 ⟨w.heap.size, 0, none⟩ 1 [c] Tryz.underlying99 Tryz.underlying5 Tryz.underlying9 (fun j hj => by
  obtain rfl : j = 0 := by simpa using hj
  simp [Addr.add])
theorem one_list (c : UInt8) (t : ByteArray) : (t ++ (⟨#[c]⟩ : ByteArray)).data.toList = t.data.toList ++ [c] := by
 rw [Joins.data_append]
theorem one_size (c : UInt8) (t : ByteArray) : (t ++ (⟨#[c]⟩ : ByteArray)).size = t.size + 1 := by
 rw [Lib.size_eq, one_list, List.length_append, ← Lib.size_eq]; rfl
theorem map_snoc (f : UInt8 → UInt8) {l : Tx} {k : Nat} (hk : k < l.length) : (l.take (k + 1)).map f = (l.take k).map f ++ [f l[k]] := by
 rw [List.take_succ_eq_append_getElem hk, List.map_append]; rfl
theorem rsmall_is (s : ByteArray) (w : World) (hs : s.size ≤ 1000000) : Calls Tryz.prog 25 #[.string s] w fun e w' => e = .returned (.string ⟨(small s.data.toList).toArray⟩) ∧ Below w.heap.size w w' := by
 have hla := list_size s
 go_enter Tryz.func25, Tryz.ntmps25
 go_wp2
 go_loopw [3, 8] (fun ov i wr => ∃ (k : Nat) (t : ByteArray), i = .int .i64 (k : Int) ∧ k ≤ s.size ∧ ov = .string t ∧ t.size = k ∧ Hid (t.data.toList = (s.data.toList.take k).map sm) ∧ Below w.heap.size w wr) (fun _ i _ => s.size - (intOf i).toNat)
 case atStart => exact ⟨0, ⟨#[]⟩, rfl, Nat.zero_le _, rfl, rfl, rfl, Below.refl _ _⟩
 case round =>
  obtain ⟨k, t, rfl, hk, rfl, htk, HT, hbW⟩ := hrel
  by_cases hlt : k < s.size
  ·have hkl : k < s.data.toList.length := by omega
   have hc := s[k].toNat_lt
   by_cases hq : 65 ≤ s[k].toNat ∧ s[k].toNat ≤ 90
   ·have h1 : decide ((65 : Int) ≤ (s[k].toNat : Int)) = true := by simp; omega
    have h2 : decide ((s[k].toNat : Int) ≤ 90) = true := by simp; omega
    have hsm : (sm s[k]).toNat = s[k].toNat + 32 := by
     unfold sm; rw [if_pos hq, UInt8.toNat_add]
     show (s[k].toNat + 32) % 256 = _
     omega
    have hcv := conv_byte (sm s[k]) ((s[k].toNat : Int) + 32) (by omega) wr
    obtain ⟨C, hC⟩ : ∃ C, sm s[k] = C := ⟨_, rfl⟩
    have HC : Hid (sm s.data.toList[k] = C) := hC
    rw [hC] at hcv
    have hsz : t.size + (⟨#[C]⟩ : ByteArray).size ≤ 1000001 := by show t.size + 1 ≤ _; omega
    clear hsm hC
    go_wp2
    go_roundw
    case rel => exact ⟨k + 1, t ++ ⟨#[C]⟩, by go_num, by omega, rfl, by rw [one_size, htk], by show _ = _; rw [one_list, map_snoc sm hkl, HT.out, HC.out], hbW.alloc hbW.size _⟩
    case measure => simp [intOf]; omega
   ·have hsm : sm s[k] = s[k] := by unfold sm; rw [if_neg hq]
    have hcv := conv_byte s[k] (s[k].toNat : Int) rfl wr
    have HC : Hid (sm s.data.toList[k] = s[k]) := hsm
    have hsz : t.size + (⟨#[s[k]]⟩ : ByteArray).size ≤ 1000001 := by show t.size + 1 ≤ _; omega
    clear hsm
    by_cases h1 : 65 ≤ s[k].toNat
    ·have h1' : decide ((65 : Int) ≤ (s[k].toNat : Int)) = true := by simp; omega
     have h2' : decide ((s[k].toNat : Int) ≤ 90) = false := by simp; omega
     go_wp2
     go_roundw
     case rel => exact ⟨k + 1, t ++ ⟨#[s[k]]⟩, by go_num, by omega, rfl, by rw [one_size, htk], by show _ = _; rw [one_list, map_snoc sm hkl, HT.out, HC.out], hbW.alloc hbW.size _⟩
     case measure => simp [intOf]; omega
    ·have h1' : decide ((65 : Int) ≤ (s[k].toNat : Int)) = false := by simp; omega
     go_wp2
     go_roundw
     case rel => exact ⟨k + 1, t ++ ⟨#[s[k]]⟩, by go_num, by omega, rfl, by rw [one_size, htk], by show _ = _; rw [one_list, map_snoc sm hkl, HT.out, HC.out], hbW.alloc hbW.size _⟩
     case measure => simp [intOf]; omega
  ·obtain rfl : k = s.size := by omega
   have HE : Hid (t = ⟨(small s.data.toList).toArray⟩) := text_ext (by rw [HT.out, List.take_of_length_le (by omega)]; rfl)
   go_wp2
   go_ret
   exact ⟨by rw [← HE.out]; rfl, hbW⟩
theorem rgreat_is (s : ByteArray) (w : World) (hs : s.size ≤ 1000000) : Calls Tryz.prog 34 #[.string s] w fun e w' => e = .returned (.string ⟨(great s.data.toList).toArray⟩) ∧ Below w.heap.size w w' := by
 have hla := list_size s
 go_enter Tryz.func34, Tryz.ntmps34
 go_wp2
 go_loopw [3, 8] (fun ov i wr => ∃ (k : Nat) (t : ByteArray), i = .int .i64 (k : Int) ∧ k ≤ s.size ∧ ov = .string t ∧ t.size = k ∧ Hid (t.data.toList = (s.data.toList.take k).map gr) ∧ Below w.heap.size w wr) (fun _ i _ => s.size - (intOf i).toNat)
 case atStart => exact ⟨0, ⟨#[]⟩, rfl, Nat.zero_le _, rfl, rfl, rfl, Below.refl _ _⟩
 case round =>
  obtain ⟨k, t, rfl, hk, rfl, htk, HT, hbW⟩ := hrel
  by_cases hlt : k < s.size
  ·have hkl : k < s.data.toList.length := by omega
   have hc := s[k].toNat_lt
   by_cases hq : 97 ≤ s[k].toNat ∧ s[k].toNat ≤ 122
   ·have h1 : decide ((97 : Int) ≤ (s[k].toNat : Int)) = true := by simp; omega
    have h2 : decide ((s[k].toNat : Int) ≤ 122) = true := by simp; omega
    have hsm : (gr s[k]).toNat = s[k].toNat - 32 := by
     unfold gr; rw [if_pos hq, UInt8.toNat_sub]
     show (256 - 32 + s[k].toNat) % 256 = _
     omega
    have hcv := conv_byte (gr s[k]) ((s[k].toNat : Int) - 32) (by omega) wr
    obtain ⟨C, hC⟩ : ∃ C, gr s[k] = C := ⟨_, rfl⟩
    have HC : Hid (gr s.data.toList[k] = C) := hC
    rw [hC] at hcv
    have hsz : t.size + (⟨#[C]⟩ : ByteArray).size ≤ 1000001 := by show t.size + 1 ≤ _; omega
    clear hsm hC
    go_wp2
    go_roundw
    case rel => exact ⟨k + 1, t ++ ⟨#[C]⟩, by go_num, by omega, rfl, by rw [one_size, htk], by show _ = _; rw [one_list, map_snoc gr hkl, HT.out, HC.out], hbW.alloc hbW.size _⟩
    case measure => simp [intOf]; omega
   ·have hsm : gr s[k] = s[k] := by unfold gr; rw [if_neg hq]
    have hcv := conv_byte s[k] (s[k].toNat : Int) rfl wr
    have HC : Hid (gr s.data.toList[k] = s[k]) := hsm
    have hsz : t.size + (⟨#[s[k]]⟩ : ByteArray).size ≤ 1000001 := by show t.size + 1 ≤ _; omega
    clear hsm
    by_cases h1 : 97 ≤ s[k].toNat
    ·have h1' : decide ((97 : Int) ≤ (s[k].toNat : Int)) = true := by simp; omega
     have h2' : decide ((s[k].toNat : Int) ≤ 122) = false := by simp; omega
     go_wp2
     go_roundw
     case rel => exact ⟨k + 1, t ++ ⟨#[s[k]]⟩, by go_num, by omega, rfl, by rw [one_size, htk], by show _ = _; rw [one_list, map_snoc gr hkl, HT.out, HC.out], hbW.alloc hbW.size _⟩
     case measure => simp [intOf]; omega
    ·have h1' : decide ((97 : Int) ≤ (s[k].toNat : Int)) = false := by simp; omega
     go_wp2
     go_roundw
     case rel => exact ⟨k + 1, t ++ ⟨#[s[k]]⟩, by go_num, by omega, rfl, by rw [one_size, htk], by show _ = _; rw [one_list, map_snoc gr hkl, HT.out, HC.out], hbW.alloc hbW.size _⟩
     case measure => simp [intOf]; omega
  ·obtain rfl : k = s.size := by omega
   have HE : Hid (t = ⟨(great s.data.toList).toArray⟩) := text_ext (by rw [HT.out, List.take_of_length_le (by omega)]; rfl)
   go_wp2
   go_ret
   exact ⟨by rw [← HE.out]; rfl, hbW⟩
theorem rsplit_is (s : ByteArray) (m : Int) (w : World) (hs : s.size ≤ 1000000) (hm : w.cell? ⟨1, 0, none⟩ = some (.int .i64 m)) :
  Calls Tryz.prog 26 #[.string s] w fun e w' => e = .returned (.tuple #[.string ⟨(headOf s.data.toList).toArray⟩, .string ⟨(bodyOf s.data.toList).toArray⟩]) ∧ Below w.heap.size w w' := by
 have hla := list_size s
 obtain ⟨N, hN⟩ : ∃ N, headLen true s.data.toList = N := ⟨_, rfl⟩
 have hNs : N ≤ s.size := by rw [← hN, ← hla]; exact headLen_le _ _
 have e1 : (⟨(headOf s.data.toList).toArray⟩ : ByteArray) = s.extract 0 N := (text_ext (by rw [Lib.extract_from_zero, ← hN]; rfl)).symm
 have e2 : (⟨(bodyOf s.data.toList).toArray⟩ : ByteArray) = s.extract N s.size := (text_ext (by rw [Lib.extract_to_end, ← hN]; rfl)).symm
 rw [e1, e2]
 have HN : Hid (headLen true s.data.toList = N) := hN
 clear e1 e2 hN
 go_enter Tryz.func26, Tryz.ntmps26
 go_wp2_with fail
 go_loopw [4] (fun v wr => ∃ k : Nat, v = .int .i64 (k : Int) ∧ k ≤ s.size ∧ Hid (k + headLen true (s.data.toList.drop k) = N) ∧ wr = w) (fun v _ => s.size - (intOf v).toNat)
 case atStart => exact ⟨0, rfl, by omega, by show _ = _; simpa using HN.out, rfl⟩
 case round =>
  obtain ⟨k, rfl, hk, HK, hw⟩ := hrel
  obtain rfl : w = wr := hw.symm
  by_cases hlt : k < s.size
  ·have cI := Tryz.strings_Index (s.extract k s.size) ⟨#[13, 10]⟩ m w (by rw [Lib.size_eq, Lib.extract_to_end, List.length_drop, hla]; omega) hm
   rw [Lib.extract_to_end, show (⟨#[13, 10]⟩ : ByteArray).data.toList = [13, 10] from rfl] at cI
   have hi := headLen_true_index (s.data.toList.drop k)
   have hge := Lib.index_ge (s.data.toList.drop k) [13, 10]
   have hrm := Lib.index_room (s.data.toList.drop k) [13, 10]
   rw [List.length_drop, hla, List.drop_drop] at hi
   rw [List.length_drop, hla, show ([13, 10] : Tx).length = 2 from rfl] at hrm
   have HI : Hid (headLen true (s.data.toList.drop k) = if Lib.index (s.data.toList.drop k) [13, 10] = -1 then s.size - k else if Lib.index (s.data.toList.drop k) [13, 10] = 0 then 2 else (Lib.index (s.data.toList.drop k) [13, 10]).toNat + 2 + headLen true (s.data.toList.drop (k + ((Lib.index (s.data.toList.drop k) [13, 10]).toNat + 2)))) := hi
   clear hi
   generalize Lib.index (s.data.toList.drop k) [13, 10] = z at cI hge hrm HI
   go_wp2_with fail
   refine cI.mono ?_
   rintro e w1 ⟨rfl, hw⟩
   obtain rfl : w = w1 := hw.symm
   by_cases hz : z < 0
   ·have hNN : N = s.size := by have := HI.out; rw [if_pos (by omega)] at this; have := HK.out; omega
    subst hNN
    go_wp2_with fail
    go_ret2
    exact ⟨by rw [show s.extract 0 s.size = s from text_ext (by rw [Lib.extract_from_zero, List.take_of_length_le (by omega)]), show s.extract s.size s.size = ⟨#[]⟩ from text_ext (by rw [Lib.extract_to_end, List.drop_eq_nil_of_le (by omega)])]; rfl, Below.refl _ _⟩
   ·have hz0 : ¬ z < 0 := hz
    have hb2 := hrm (by omega)
    by_cases h0 : z = 0
    ·have hNN : N = k + 2 := by have := HI.out; rw [if_neg (by omega), if_pos h0] at this; have := HK.out; omega
     subst h0
     subst hNN
     go_wp2_with fail
     go_region
     all_goals
      go_wp2_with fail
      go_ret2
      exact ⟨rfl, (Below.refl _ _).drew⟩
    ·obtain ⟨q, rfl⟩ : ∃ q : Nat, z = q := ⟨z.toNat, by omega⟩
     have hzb : ((q : Int) == 0) = false := by rw [beq_eq_false_iff_ne]; exact h0
     have HN2 : Hid ((k + (q + 2)) + headLen true (s.data.toList.drop (k + (q + 2))) = N) := by
      show _ = _
      have h1 := HI.out
      rw [if_neg (by omega), if_neg h0, Int.toNat_natCast] at h1
      have h2 := HK.out
      omega
     go_wp2_with fail
     go_roundw
     case rel => exact ⟨k + (q + 2), by go_num, by omega, HN2.out, trivial⟩
     case measure => simp [intOf]; omega
  ·obtain rfl : k = s.size := by omega
   have hNN : N = s.size := by have := HK.out; rw [List.drop_eq_nil_of_le (by omega)] at this; simpa [headLen] using this.symm
   subst hNN
   go_wp2_with fail
   go_ret2
   exact ⟨rfl, Below.refl _ _⟩
end Go.Proofs.YtogigccbnohjjaaGreatDoor
namespace Go.Proofs.YtogigccbnohjjaaGreatDoor
open Go.RowKit Go.Proofs.Aid Go.Proofs.Sq Go.Proofs.Hd
set_option maxHeartbeats 4000000
set_option maxRecDepth 100000
theorem kkey_all (kb B d c : Nat) (x : Sr.Ar) (l : List Sr.Ar) (v : Value) (Ok : Nat → Prop) (w : World) (henv : EnvK w kb) (hr : KyS w kb (c : Int) 0) (hl : Ags w Ok B (x :: l) v) (hB : B ≤ 900000) (hO : ∀ k, Ok k → k ≠ kb ∧ k < w.heap.size) (hd : d ≤ 6) (hc : c + 1 ≤ 60) (hx : x.kind ≠ 3) (hw : great x.text = [65, 76, 76]) :
  Calls Tryz.prog 37 #[.pointer (some ⟨kb, 0, none⟩), v, .int .i64 (d : Int)] w fun e w' => OutK w kb B Ok (Sr.Rs.ok (Sr.Ky.mk 1 [] [] 0 [] []) l (c + 1)) e w' := by
 have hkb := hr.lt
 obtain ⟨T, hT⟩ : ∃ T, (Sr.Rs.ok (Sr.Ky.mk 1 [] [] 0 [] []) l (c + 1)) = T := ⟨_, rfl⟩
 rw [hT]
 have HT : Hid ((Sr.Rs.ok (Sr.Ky.mk 1 [] [] 0 [] []) l (c + 1)) = T) := hT
 have HENV : Hid (EnvK w kb) := henv
 obtain ⟨W1, W2, hW1, hW2, p1, f1, q0, q1, z2, hr2, hl2, hb2, hE2⟩ := kbegun kb B (c : Int) 0 ((c : Int) + 1) (x :: l) v Ok w hr hl hO
 have cW := kword kb B ((c : Int) + 1) 0 (x :: l) v Ok W2 hr2 hl2 (fun _ => by omega)
 obtain ⟨b, o, C, _, lv, rfl, hC, hC2, hOb, _, _, _, c1, _, _, _⟩ := hl2.head
 have hkb3 : (x.kind == 3) = false := by simpa using hx
 obtain ⟨L, hL⟩ : ∃ L, l.length = L := ⟨_, rfl⟩
 have HB : Hid (But w.heap.size kb w W2) := hb2
 have HE : Hid (W2.heap[w.heap.size]? = some (.cells #[.int .i64 0, .string ⟨#[]⟩, .string ⟨#[]⟩, .int .i64 0, .slice none 0 0, .slice none 0 0] 32 (0, 0))) := hE2
 have HO : Hid (∀ k, Ok k → k ≠ kb ∧ k < w.heap.size) := hO
 have HZ : Hid (W2.heap.size = w.heap.size + 1) := z2
 have HWD : Hid (great x.text = [65, 76, 76] ∧ x.kind ≠ 3) := ⟨hw, hx⟩
 have d1 : decide ((60 : Int) < (c : Int) + 1) = false := decide_eq_false (by omega)
 have d2 : decide ((6 : Int) < (d : Int)) = false := decide_eq_false (by omega)
 obtain ⟨K, hK⟩ : ∃ K, x.kind = K := ⟨_, rfl⟩
 rw [hK] at c1 hkb3
 rw [hL] at hC cW ⊢
 clear hr hl hO hr2 hl2 hb2 hE2 hL z2 hx hK hw henv hT
 go_enter Tryz.func37, Tryz.ntmps37
 go_wp2_with fail
 refine cW.mono ?_
 rintro e w3 ⟨tb, v3, l3, E3, rfl, htz, hl3, hr3, hb3, hrel⟩
 obtain ⟨rfl, htb, rfl⟩ : E3 = 0 ∧ tb.data.toList = x.text ∧ l3 = l := by
  unfold atK at hrel
  rw [if_pos rfl, Sr.wordF, if_neg HWD.out.2] at hrel
  exact ⟨hrel.1, hrel.2.1, hrel.2.2.1⟩
 have r1 : w3.cell? ⟨kb, 1, none⟩ = some (.int .i64 0) := rd_cell hr3 rfl
 have cG := rgreat_is tb w3 (by omega)
 rw [htb, HWD.out.1, show (⟨([65, 76, 76] : List UInt8).toArray⟩ : ByteArray) = ⟨#[65, 76, 76]⟩ from rfl] at cG
 have hz := HZ.out
 have hs3 := hb3.size
 have HX : Hid (∀ W, Below w3.heap.size w3 W → KyS W kb ((c : Int) + 1) 0 ∧ Ags W Ok B l3 v3 ∧ But w.heap.size kb w W ∧ W.heap[w.heap.size]? = some (.cells #[.int .i64 0, .string ⟨#[]⟩, .string ⟨#[]⟩, .int .i64 0, .slice none 0 0, .slice none 0 0] 32 (0, 0)) ∧ w.heap.size + 1 ≤ W.heap.size) := fun W hW =>
  ⟨hr3.kept (hW.block kb (by omega)), hl3.kept fun k hk hlt => ⟨hk, hW.block k hlt⟩, (HB.out.trans (hb3.less (by omega))).trans (to_but (hW.mono (by omega))), (hW.block w.heap.size (by omega)).trans ((hb3.block w.heap.size (by omega) (by omega)).trans HE.out), by have := hW.size; omega⟩
 clear cW hr3 hl3 hb3 htb hrel
 go_wp2_with fail
 refine cG.mono ?_
 rintro e w4 ⟨rfl, hb4⟩
 obtain ⟨hr4, hl4, hbt, e4, hs4⟩ := HX.out w4 hb4
 clear cG HX hb4
 obtain ⟨⟨s0, s1, s2, s3, s4, s5⟩, ⟨sf0, sf1, sf2, sf3, sf4, sf5⟩, u0, u1, u2, u3, u4, u5⟩ := six_facts e4 (.int .i64 1) (.string ⟨#[]⟩) (.string ⟨#[]⟩) (.int .i64 0) (.slice none 0 0) (.slice none 0 0)
 have HD : Hid (OutK w kb B Ok T (.returned (.tuple #[.agg #[.int .i64 1, .string ⟨#[]⟩, .string ⟨#[]⟩, .int .i64 0, .slice none 0 0, .slice none 0 0], v3])) _) := kdone hkb HO.out (kx_leaf w4 _ 1 0 ⟨#[]⟩ ⟨#[]⟩) hr4 hl4 hbt (by rw [← HT.out]; exact ⟨rfl, rfl, rfl, rfl⟩)
 clear hr4 hl4 hbt e4 HT HENV
 go_wp2_with fail
 exact bodyPost_ret (v := .tuple #[.agg #[.int .i64 1, .string ⟨#[]⟩, .string ⟨#[]⟩, .int .i64 0, .slice none 0 0, .slice none 0 0], v3]) (by simp [results, Tryz.results37, go_sem, u0, u1, u2, u3, u4, u5]) rfl HD.out
end Go.Proofs.YtogigccbnohjjaaGreatDoor
namespace Go.Proofs.YtogigccbnohjjaaGreatDoor
open Go.RowKit Go.Proofs.Aid Go.Proofs.Sq Go.Proofs.Hd
set_option maxHeartbeats 20000000
set_option maxRecDepth 100000
theorem kkey_sys (kb B d c : Nat) (x : Sr.Ar) (l : List Sr.Ar) (v : Value) (Ok : Nat → Prop) (w : World) (henv : EnvK w kb) (hr : KyS w kb (c : Int) 0) (hl : Ags w Ok B (x :: l) v) (hB : B ≤ 900000) (hO : ∀ k, Ok k → k ≠ kb ∧ k < w.heap.size) (hd : d ≤ 6) (hc : c + 1 ≤ 60) (hx : x.kind ≠ 3) (bs : Sr.Tx) (hbs : bs ∈ Sr.wSys) (hw : great x.text = bs) :
  Calls Tryz.prog 37 #[.pointer (some ⟨kb, 0, none⟩), v, .int .i64 (d : Int)] w fun e w' => OutK w kb B Ok (Sr.flagF (92 :: bs) l (c + 1)) e w' := by
 have hkb := hr.lt
 obtain ⟨T, hT⟩ : ∃ T, (Sr.flagF (92 :: bs) l (c + 1)) = T := ⟨_, rfl⟩
 rw [hT]
 have HT : Hid ((Sr.flagF (92 :: bs) l (c + 1)) = T) := hT
 have HENV : Hid (EnvK w kb) := henv
 obtain ⟨W1, W2, hW1, hW2, p1, f1, q0, q1, z2, hr2, hl2, hb2, hE2⟩ := kbegun kb B (c : Int) 0 ((c : Int) + 1) (x :: l) v Ok w hr hl hO
 have cW := kword kb B ((c : Int) + 1) 0 (x :: l) v Ok W2 hr2 hl2 (fun _ => by omega)
 obtain ⟨b, o, C, _, lv, rfl, hC, hC2, hOb, _, _, _, c1, _, _, _⟩ := hl2.head
 have hkb3 : (x.kind == 3) = false := by simpa using hx
 obtain ⟨L, hL⟩ : ∃ L, l.length = L := ⟨_, rfl⟩
 have HB : Hid (But w.heap.size kb w W2) := hb2
 have HE : Hid (W2.heap[w.heap.size]? = some (.cells #[.int .i64 0, .string ⟨#[]⟩, .string ⟨#[]⟩, .int .i64 0, .slice none 0 0, .slice none 0 0] 32 (0, 0))) := hE2
 have HO : Hid (∀ k, Ok k → k ≠ kb ∧ k < w.heap.size) := hO
 have HZ : Hid (W2.heap.size = w.heap.size + 1) := z2
 have HWD : Hid (great x.text = bs ∧ x.kind ≠ 3) := ⟨hw, hx⟩
 have d1 : decide ((60 : Int) < (c : Int) + 1) = false := decide_eq_false (by omega)
 have d2 : decide ((6 : Int) < (d : Int)) = false := decide_eq_false (by omega)
 obtain ⟨K, hK⟩ : ∃ K, x.kind = K := ⟨_, rfl⟩
 rw [hK] at c1 hkb3
 rw [hL] at hC cW ⊢
 clear hr hl hO hr2 hl2 hb2 hE2 hL z2 hx hK hw henv hT
 have hbl : bs.length ≤ 20 := (show ∀ b ∈ Sr.wSys, b.length ≤ 20 by decide) bs hbs
 have HCF : Hid (∀ W, KyS W kb ((c : Int) + 1) 0 → Calls Tryz.prog 60 #[.pointer (some ⟨kb, 0, none⟩), .string ⟨(92 :: bs).toArray⟩] W fun e w' => ∃ (nb : ByteArray) (E' : Int), e = .returned (.agg #[.int .i64 2, .string nb, .string ⟨#[]⟩, .int .i64 0, .slice none 0 0, .slice none 0 0]) ∧ nb.data.toList = (Fl.fname (92 :: bs)).1 ∧ KyS w' kb ((c : Int) + 1) E' ∧ But W.heap.size kb W w' ∧ ∀ l, RelK (Sr.flagF (92 :: bs) l (c + 1)) (Sr.flagK (Fl.fname (92 :: bs)).1) l ((c : Int) + 1) E') := fun W h => by
  refine (kflag kb ((c : Int) + 1) 0 ⟨(92 :: bs).toArray⟩ W h (fun _ => by omega) (by show (92 :: bs).toArray.size ≤ _; simp; omega)).mono ?_
  rintro e w' ⟨nb, E', h1, h2, h3, h4, h5⟩
  exact ⟨nb, E', h1, h2, h3, h4, fun l => by have := h5 l; rw [show ((c : Int) + 1) = ((c + 1 : Nat) : Int) from rfl, atK_ok] at this; exact this⟩
 clear hbl
 simp only [Sr.wSys, List.mem_cons, List.not_mem_nil, or_false] at hbs
 rcases hbs with rfl | rfl | rfl | rfl | rfl
 all_goals
  go_enter Tryz.func37, Tryz.ntmps37
  go_wp2_with fail
  refine cW.mono ?_
  rintro e w3 ⟨tb, v3, l3, E3, rfl, htz, hl3, hr3, hb3, hrel⟩
  obtain ⟨rfl, htb, rfl⟩ : E3 = 0 ∧ tb.data.toList = x.text ∧ l3 = l := by
   unfold atK at hrel
   rw [if_pos rfl, Sr.wordF, if_neg HWD.out.2] at hrel
   exact ⟨hrel.1, hrel.2.1, hrel.2.2.1⟩
  have r1 : w3.cell? ⟨kb, 1, none⟩ = some (.int .i64 0) := rd_cell hr3 rfl
  have cG := rgreat_is tb w3 (by omega)
  rw [htb, HWD.out.1] at cG
  have hz := HZ.out
  have hs3 := hb3.size
  have HX : Hid (∀ W, Below w3.heap.size w3 W → KyS W kb ((c : Int) + 1) 0 ∧ Ags W Ok B l3 v3 ∧ But w.heap.size kb w W ∧ W.heap[w.heap.size]? = some (.cells #[.int .i64 0, .string ⟨#[]⟩, .string ⟨#[]⟩, .int .i64 0, .slice none 0 0, .slice none 0 0] 32 (0, 0)) ∧ w.heap.size + 1 ≤ W.heap.size) := fun W hW =>
   ⟨hr3.kept (hW.block kb (by omega)), hl3.kept fun k hk hlt => ⟨hk, hW.block k hlt⟩, (HB.out.trans (hb3.less (by omega))).trans (to_but (hW.mono (by omega))), (hW.block w.heap.size (by omega)).trans ((hb3.block w.heap.size (by omega) (by omega)).trans HE.out), by have := hW.size; omega⟩
  clear cW hr3 hl3 hb3 htb hrel
  go_wp2_with fail
  refine cG.mono ?_
  rintro e w4 ⟨rfl, hb4⟩
  obtain ⟨hr4, hl4, hbt, e4, hs4⟩ := HX.out w4 hb4
  clear cG HX hb4
  have cF := HCF.out w4 hr4
  have HX5 : Hid (Ags w4 Ok B l3 v3 ∧ But w.heap.size kb w w4 ∧ w4.heap[w.heap.size]? = some (.cells #[.int .i64 0, .string ⟨#[]⟩, .string ⟨#[]⟩, .int .i64 0, .slice none 0 0, .slice none 0 0] 32 (0, 0))) := ⟨hl4, hbt, e4⟩
  clear hr4 hl4 hbt e4
  go_wp2_with fail
  refine cF.mono ?_
  rintro e w6 ⟨nb, E6, rfl, hnb, hr6, hb6, hrel⟩
  have e6 := (hb6.block w.heap.size (by omega) (by omega)).trans HX5.out.2.2
  have hR := hrel l3
  rw [HT.out] at hR
  have hk6 := kx_leaf w6 (fun q => w.heap.size + 1 ≤ q) 2 0 nb ⟨#[]⟩
  rw [hnb] at hk6
  obtain ⟨⟨s0, s1, s2, s3, s4, s5⟩, ⟨sf0, sf1, sf2, sf3, sf4, sf5⟩, u0, u1, u2, u3, u4, u5⟩ := six_facts e6 (.int .i64 2) (.string nb) (.string ⟨#[]⟩) (.int .i64 0) (.slice none 0 0) (.slice none 0 0)
  have HD : Hid (OutK w kb B Ok T (.returned (.tuple #[.agg #[.int .i64 2, .string nb, .string ⟨#[]⟩, .int .i64 0, .slice none 0 0, .slice none 0 0], v3])) _) := kdone hkb HO.out hk6 hr6 (HX5.out.1.kept fun k hk hlt => ⟨hk, hb6.block k hlt (HO.out k hk).1⟩) (HX5.out.2.1.trans (hb6.less (by omega))) hR
  clear hr6 hb6 hrel hR hk6 e6 cF HT HX5 HENV HCF
  go_wp2_with fail
  exact bodyPost_ret (v := .tuple #[.agg #[.int .i64 2, .string nb, .string ⟨#[]⟩, .int .i64 0, .slice none 0 0, .slice none 0 0], v3]) (by simp [results, Tryz.results37, go_sem, u0, u1, u2, u3, u4, u5]) rfl HD.out
end Go.Proofs.YtogigccbnohjjaaGreatDoor
