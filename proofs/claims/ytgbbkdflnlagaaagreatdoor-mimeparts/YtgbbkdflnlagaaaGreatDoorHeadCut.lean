/-
  What head.headEnd, head.Split, head.bare and head.isName do.
-/
import Derived.Test.YtgbbkdflnlagaaaGreatDoorHeadShelf
import Derived.Test.YtgbbkdflnlagaaaGreatDoorHeadFields
import Derived.Test.YtgbbkdflnlagaaaGreatDoorSeqBase
import Derived.WalkKit
namespace Go.Proofs
open Go.RowKit
theorem Tryz.strings_Trim_set (s cutset : ByteArray) (w : World) (hs : s.size ≤ 9223372036854775807) (hcs : cutset.size < 4294967281) (hascii : ∀ (j : Nat) b, cutset.data.toList[j]? = some b → b.toNat < 128) :
    Calls Tryz.prog 101 #[.string s, .string cutset] w fun e w' => e = .returned (.string ⟨(Lib.trimS s.data.toList cutset.data.toList).toArray⟩) ∧ Below w.heap.size w w' := Any.strings_Trim_laid Tryz.lays160 (by kernel_rfl) s cutset w hs hcs hascii
end Go.Proofs
namespace Go.Proofs.YtgbbkdflnlagaaaGreatDoor
open Go.RowKit Go.Proofs.Aid Go.Proofs.Hd

theorem list_size (s : ByteArray) : s.data.toList.length = s.size := by show s.data.toList.length = s.data.size; simp
theorem text_ext {a b : ByteArray} (h : a.data.toList = b.data.toList) : a = b := by
  obtain ⟨⟨x⟩⟩ := a
  obtain ⟨⟨y⟩⟩ := b
  have : x = y := h
  rw [this]
theorem bare_is' (s : ByteArray) (w : World) (hs : s.size ≤ 1000000) :
    Calls Tryz.prog 157 #[.string s] w fun e w' => e = .returned (.string ⟨(bare s.data.toList).toArray⟩) ∧ Below w.heap.size w w' := by
  have c := Tryz.strings_Trim_set s ⟨#[32, 9]⟩ w (by omega) (by decide) (ascii_of_all (by decide))
  go_enter Tryz.func157, Tryz.ntmps157
  go_wp2_with fail
  refine c.mono ?_
  rintro e w1 ⟨rfl, hb⟩
  go_wp2_with fail
  go_ret
  exact ⟨rfl, hb⟩
theorem headEnd_is (s : ByteArray) (m : Int) (w : World) (hs : s.size ≤ 1000000) (hm : w.cell? ⟨1, 0, none⟩ = some (.int .i64 m)) :
    Calls Tryz.prog 94 #[.string s] w fun e w' => e = .returned (.int .i64 (headLen true s.data.toList : Int)) ∧ w' = w := by
  have cP := Tryz.strings_HasPrefix s ⟨#[13, 10]⟩ w
  have cI := Tryz.strings_Index s ⟨#[13, 10, 13, 10]⟩ m w (by omega) hm
  have hl := headLen_true s.data.toList
  have hp : Lib.hasPrefix s.data.toList (⟨#[13, 10]⟩ : ByteArray).data.toList = ([13, 10] : Tx).isPrefixOf s.data.toList := rfl
  have hi : Lib.index s.data.toList (⟨#[13, 10, 13, 10]⟩ : ByteArray).data.toList = Lib.index s.data.toList [13, 10, 13, 10] := rfl
  rw [hp] at cP
  rw [hi] at cI
  have hle := Lib.index_le s.data.toList [13, 10, 13, 10]
  have hge := Lib.index_ge s.data.toList [13, 10, 13, 10]
  rw [list_size] at hle hl
  obtain ⟨b, hb⟩ : ∃ b, ([13, 10] : Tx).isPrefixOf s.data.toList = b := ⟨_, rfl⟩
  obtain ⟨z, hz⟩ : ∃ z, Lib.index s.data.toList [13, 10, 13, 10] = z := ⟨_, rfl⟩
  obtain ⟨N, hN⟩ : ∃ n, headLen true s.data.toList = n := ⟨_, rfl⟩
  rw [hb] at cP hl
  rw [hz] at cI hl hle hge
  rw [hN] at hl ⊢
  clear hp hi hb hz hN hm
  cases b
  · rw [if_neg (by simp)] at hl
    go_enter Tryz.func94, Tryz.ntmps94
    go_wp2_with fail
    refine cP.mono ?_
    rintro e w1 ⟨rfl, hw⟩
    obtain rfl : w = w1 := hw.symm
    go_wp2_with fail
    refine cI.mono ?_
    rintro e w1 ⟨rfl, hw⟩
    obtain rfl : w = w1 := hw.symm
    by_cases h0 : 0 ≤ z
    · rw [if_pos h0] at hl
      go_wp2_with fail
      go_ret
      exact ⟨by show Ending.returned (Value.int .i64 (z + 4)) = _; congr 2; omega, rfl⟩
    · rw [if_neg h0] at hl
      go_wp2_with fail
      go_ret
      exact ⟨by rw [hl]; rfl, rfl⟩
  · rw [if_pos rfl] at hl
    subst hl
    go_enter Tryz.func94, Tryz.ntmps94
    go_wp2_with fail
    refine cP.mono ?_
    rintro e w1 ⟨rfl, hw⟩
    obtain rfl : w = w1 := hw.symm
    go_wp2_with fail
    go_ret
    exact ⟨rfl, rfl⟩
theorem split_is (s : ByteArray) (m : Int) (w : World) (hs : s.size ≤ 1000000) (hm : w.cell? ⟨1, 0, none⟩ = some (.int .i64 m)) :
    Calls Tryz.prog 64 #[.string s] w fun e w' => e = .returned (.tuple #[.string ⟨(headOf s.data.toList).toArray⟩, .string ⟨(bodyOf s.data.toList).toArray⟩]) ∧ Below w.heap.size w w' := by
  have cE := headEnd_is s m w hs hm
  have hle := headLen_le true s.data.toList
  rw [list_size] at hle
  have h1 : s.extract 0 (headLen true s.data.toList) = ⟨(headOf s.data.toList).toArray⟩ := text_ext (by rw [Lib.extract_from_zero]; rfl)
  have h2 : s.extract (headLen true s.data.toList) s.size = ⟨(bodyOf s.data.toList).toArray⟩ := text_ext (by
    rw [Lib.extract_to_end]; rfl)
  obtain ⟨N, hN⟩ : ∃ n, headLen true s.data.toList = n := ⟨_, rfl⟩
  rw [hN] at cE hle h1 h2
  rw [← h1, ← h2]
  clear h1 h2 hN hm
  go_enter Tryz.func64, Tryz.ntmps64
  go_wp2_with fail
  refine cE.mono ?_
  rintro e w1 ⟨rfl, hw⟩
  obtain rfl : w = w1 := hw.symm
  go_wp2_with fail
  go_region
  all_goals
    go_wp2_with fail
    go_ret2
    exact ⟨rfl, (Below.refl _ _).drew⟩
set_option maxRecDepth 100000 in
theorem isName_is (s : ByteArray) (w : World) (hs : s.size ≤ 1000000) :
    Calls Tryz.prog 204 #[.string s] w fun e w' => e = .returned (.bool (nameOk s.data.toList)) ∧ w' = w := by
  have hl := list_size s
  obtain ⟨ANS, hANS⟩ : ∃ b, nameOk s.data.toList = b := ⟨_, rfl⟩
  rw [hANS]
  have HA : Hid (nameOk s.data.toList = ANS) := hANS
  clear hANS
  go_enter Tryz.func204, Tryz.ntmps204
  go_wp2_with fail
  go_loopw [6] (fun i wr => ∃ k : Nat, i = .int .i64 (k : Int) ∧ k ≤ s.size ∧ Hid (∀ j c, j < k → s.data.toList[j]? = some c → 33 ≤ c.toNat ∧ c.toNat ≤ 126) ∧ wr = w) (fun i _ => s.size - (intOf i).toNat)
  case atStart => exact ⟨0, rfl, by omega, fun j c hj => absurd hj (by omega), rfl⟩
  case round =>
    obtain ⟨k, rfl, hk, HC, hw⟩ := hrel
    obtain rfl : w = wr := hw.symm
    by_cases hlt : k < s.size
    · have hck : s.data.toList[k]? = some (s[k]'hlt) := by rw [List.getElem?_eq_getElem (by rw [hl]; exact hlt)]; rfl
      generalize hc : s[k] = c at hck
      have HK : Hid (s.data.toList[k]? = some c) := hck
      clear hck
      by_cases hq : 33 ≤ c.toNat ∧ c.toNat ≤ 126
      · have q1 : decide ((c.toNat : Int) < 33) = false := decide_eq_false (by omega)
        have q2 : decide ((126 : Int) < (c.toNat : Int)) = false := decide_eq_false (by omega)
        go_wp2_with fail
        go_roundw
        case rel =>
          refine ⟨k + 1, by go_num, by omega, fun j d hj hd => ?_, trivial⟩
          by_cases hjk : j = k
          · subst hjk
            rw [HK.out] at hd
            cases hd
            exact hq
          · exact HC.out j d (by omega) hd
        case measure => simp [intOf]; omega
      · have hA : false = ANS := by
          rw [← HA.out]
          cases hn : nameOk s.data.toList with
          | false => rfl
          | true => exact absurd (name_byte hn c (List.mem_of_getElem? HK.out)) hq
        subst hA
        by_cases h33 : c.toNat < 33
        · have q1 : decide ((c.toNat : Int) < 33) = true := decide_eq_true (by omega)
          go_wp2_with fail
          go_ret
          exact ⟨rfl, rfl⟩
        · have q1 : decide ((c.toNat : Int) < 33) = false := decide_eq_false (by omega)
          have q2 : decide ((126 : Int) < (c.toNat : Int)) = true := decide_eq_true (by omega)
          go_wp2_with fail
          go_ret
          exact ⟨rfl, rfl⟩
    · obtain rfl : k = s.size := by omega
      have hall : (s.data.toList.all fun c => decide (33 ≤ c.toNat ∧ c.toNat ≤ 126)) = true := by
        rw [List.all_eq_true]
        intro c hc
        obtain ⟨j, hj, hjc⟩ := List.mem_iff_getElem.1 hc
        rw [decide_eq_true_eq]
        exact HC.out j c (by omega) (by rw [List.getElem?_eq_getElem hj, hjc])
      have hA := HA.out
      unfold nameOk at hA
      rw [hall, Bool.and_true, hl] at hA
      clear HC hall
      by_cases h0 : s.data.toList = []
      · have f1 : s.toList = [] := by rw [Lib.toList_data]; exact h0
        have f2 : s.toList.isEmpty = true := by rw [f1]; rfl
        rw [h0] at hA
        have hA' : false = ANS := by simpa using hA
        subst hA'
        go_wp2_with fail
        go_ret
        exact ⟨rfl, rfl⟩
      · have f1 : ¬ s.toList = [] := by rw [Lib.toList_data]; exact h0
        have f2 : s.toList.isEmpty = false := by rw [Lib.toList_data]; cases hh : s.data.toList with | nil => exact absurd hh h0 | cons _ _ => rfl
        by_cases h60 : s.size ≤ 60
        · have q : decide ((s.size : Int) ≤ 60) = true := decide_eq_true (by omega)
          have hA' : true = ANS := by simpa [h0, h60] using hA
          subst hA'
          go_wp2_with fail
          go_ret
          exact ⟨rfl, rfl⟩
        · have q : decide ((s.size : Int) ≤ 60) = false := decide_eq_false (by omega)
          have hA' : false = ANS := by simpa [h0, h60] using hA
          subst hA'
          go_wp2_with fail
          go_ret
          exact ⟨rfl, rfl⟩
end Go.Proofs.YtgbbkdflnlagaaaGreatDoor
