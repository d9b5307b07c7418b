/-
  What utf7.readUnits does: letters as units; bits that are left over are dropped.
-/
import Derived.Test.YtiocmecalidlhaaDoorLetters
import Derived.Test.YtiocmecalidlhaaDoorFlush
import Derived.Test.YtiocmecalidlhaaDoorReadSpec
import Derived.Test.YtiocmecalidlhaaDoorShelf
namespace Go.Proofs.YtiocmecalidlhaaDoor
open Go.RowKit Go.Proofs.Aid Go.Proofs.Ut

theorem idx_call (c : UInt8) (w : World) : Calls Tryd.prog 22 #[.string ⟨#[65, 66, 67, 68, 69, 70, 71, 72, 73, 74, 75, 76, 77, 78, 79, 80, 81, 82, 83, 84, 85, 86, 87, 88, 89, 90, 97, 98, 99, 100, 101, 102, 103, 104, 105, 106, 107, 108, 109, 110, 111, 112, 113, 114, 115, 116, 117, 118, 119, 120, 121, 122, 48, 49, 50, 51, 52, 53, 54, 55, 56, 57, 43, 44]⟩, .int .u8 (c.toNat : Int)] w fun e w' => e = .returned (.int .i64 (idx c)) ∧ w' = w := by
  refine (Tryd.strings_IndexByte _ _ w).mono ?_
  rintro e w' ⟨rfl, rfl⟩
  refine ⟨?_, rfl⟩
  have : ((c.toNat : Int)).toNat.toUInt8 = c := by simp
  rw [this]
  rfl

theorem or_join6 (b u : Nat) (hu : u < 64) : bits .or .u32 ((b : Int) * 64 % 4294967296) (u : Int) = ((b * 2 ^ 6 % 2 ^ 32 + u : Nat) : Int) := by
  have h1 : ((b : Int) * 64 % 4294967296) = ((b * 64 % 4294967296 : Nat) : Int) := by omega
  rw [h1, u32_or_nat _ _ (by omega) (by omega), nat_join 6 _ _ (by omega) (by omega)]

set_option maxHeartbeats 1000000 in
set_option maxRecDepth 100000 in
theorem readUnits_any (s : ByteArray) (w : World) (hs : s.size ≤ 1000) :
    Calls Tryd.prog 27 #[.string s] w fun e w' => ((goodLetters s.data.toList = true ∧ ∃ v, e = .returned (.tuple #[v, .bool true]) ∧ w'.ownsRow w.heap.size 48 1 v (unitsIn s.data.toList).length (u16s (unitsIn s.data.toList)))
      ∨ (goodLetters s.data.toList = false ∧ e = .returned (.tuple #[.slice none 0 0, .bool false]))) ∧ Below w.heap.size w w' := by
  have hsl := Lib.size_eq s
  obtain ⟨t, ht⟩ : ∃ t, s.data.toList = t := ⟨_, rfl⟩
  have hget : ∀ k (h : k < s.size) (h' : k < t.length), s[k] = t[k] := by
    intro k h h'
    subst ht
    rw [Array.getElem_toList]; rfl
  rw [ht]
  rw [ht] at hsl
  have HG := hget
  have hlen1 : s.size ≤ t.length := by omega
  have hlen2 : t.length ≤ s.size := by omega
  clear hsl ht hget
  have HG2 : Hid (∀ k (h : k < s.size) (h' : k < t.length), s[k] = t[k]) := HG
  clear HG
  go_enter Tryd.func27, Tryd.ntmps27
  go_wp2
  go_loopw [4, 5, 6, 11] (fun v b c i wr => ∃ (k j bn cn : Nat), k ≤ s.size ∧ i = .int .i64 (k : Int) ∧ b = .int .u32 (bn : Int) ∧ c = .int .i64 (cn : Int) ∧ cn < 16 ∧ bn < 4294967296 ∧ goodLetters (t.take k) = true ∧ Reg 16 (bits6 (t.take k)) j bn cn ∧ wr.ownsRow w.heap.size 48 1 v j (u16s (pieces 16 (bits6 (t.take k)) j)) ∧ Below w.heap.size w wr)
    (fun _ _ _ i _ => s.size - (intOf i).toNat)
  case atStart => exact ⟨0, 0, 0, 0, by omega, rfl, rfl, rfl, by omega, by omega, rfl, Reg.start 16, World.ownsRow_nil _ _ _ _, Below.refl _ _⟩
  case round =>
    obtain ⟨k, j, bn, cn, hk, rfl, rfl, rfl, hcn, hbn, hgood, hreg, hownr, hbw⟩ := hrel
    by_cases hlt : k < s.size
    · have hltI : (k : Int) < (s.size : Int) := by omega
      obtain ⟨c, hc⟩ : ∃ c, t[k]'(by omega) = c := ⟨_, rfl⟩
      have hsk : s[k] = c := (HG2.out k hlt (by omega)).trans hc
      have hT := bits6_take t k (by omega)
      have hgs : goodLetters (t.take (k + 1)) = (goodLetters (t.take k) && decide (0 ≤ idx c)) := by
        rw [List.take_succ_eq_append_getElem (by omega), hc]; simp [goodLetters]
      rw [hc] at hT
      have cI := fun w => idx_call c w
      have hil := idx_lt c
      by_cases hneg : idx c < 0
      · have hbad : goodLetters t = false := by
          rw [Bool.eq_false_iff]
          intro hg
          have := List.all_eq_true.1 hg c (by rw [← hc]; exact List.getElem_mem _)
          simp at this; omega
        have HBAD : Hid (goodLetters t = false) := hbad
        clear hbad hgs hT hc hreg hownr
        go_wp2_with (go_at_call 22; refine (cI _).mono ?_; rintro e w1 ⟨rfl, rfl⟩)
        go_ret2
        exact ⟨Or.inr ⟨HBAD.out, rfl⟩, hbw⟩
      · obtain ⟨u, hu⟩ : ∃ u : Nat, idx c = u := ⟨(idx c).toNat, by omega⟩
        rw [hu] at cI hil hgs hT hneg
        have hu64 : u < 64 := by omega
        have hor := or_join6 bn u hu64
        have hreg1 := hreg.more 6 u 32 hu64 (by omega)
        have hbn2 : bn * 2 ^ 6 % 2 ^ 32 + u < 4294967296 := by omega
        rw [Int.toNat_natCast] at hT
        rw [← hT] at hreg1
        have hle := hreg.len
        have hp1 : pieces 16 (bits6 (t.take (k + 1))) j = pieces 16 (bits6 (t.take k)) j := by rw [hT]; exact pieces_append _ _ _ _ (by omega)
        rw [← hp1] at hownr
        rw [hgood, Bool.true_and, decide_eq_true (by omega)] at hgs
        have hjl : j ≤ 1000 := by rw [bits6_length] at hle; simp at hle; omega
        clear hp1 hle hT hreg hgood hu hc hneg
        generalize bn * 2 ^ 6 % 2 ^ 32 + u = bn' at hor hreg1 hbn2
        have HGS : Hid (goodLetters (t.take (k + 1)) = true) := hgs
        clear hgs
        generalize hLd : bits6 (t.take (k + 1)) = L at hreg1 hownr
        have HLd : Hid (bits6 (t.take (k + 1)) = L) := hLd
        clear hLd
        by_cases h16 : 16 ≤ cn + 6
        · obtain ⟨hreg3, hpc⟩ := hreg1.out h16
          have hps := pieces_succ 16 L j
          have hp16 := piece_lt 16 L j
          generalize piece 16 L j = p at hpc hps hp16
          have hwr : IntKind.u16.wrap ((bn' : Int) / 2 ^ (cn - 10)) = (p : Int) := by
            rw [IntKind.wrap_u16, ← hpc, show cn + 6 - 16 = cn - 10 by omega]
            simp
          have HP : Hid (pieces 16 L (j + 1) = pieces 16 L j ++ [p]) := hps
          have HR : Hid (Reg 16 L (j + 1) bn' (cn + 6 - 16)) := hreg3
          clear hps hreg3 hreg1
          go_wp2_with (first
            | (go_at_call 22; refine (cI _).mono ?_; rintro e w1 ⟨rfl, rfl⟩)
            | (at_builtin; go_must (refine wpList_push rfl _ _ 36 rfl _ w.heap.size 48 (.int .u16 0) 2 Tryd.underlying36 Tryd.info48 rfl _ _ _ (by rfl) hownr [.int .u16 (p : Int)] _ (by rfl) (by simp) (by simp [Value.oneCell']) (by simp) (by rfl) (by decide) (by simp; omega) hbw.size ?_); intro g1 cap1 w1 hown1 hg1 hlt1))
          go_roundw
          case rel =>
            refine ⟨k + 1, j + 1, bn', cn + 6 - 16, by omega, by go_num, rfl, by go_num, by omega, hbn2, HGS.out, by rw [HLd.out]; exact HR.out, ?_, hbw.grown hg1 hbw.size (fun k hk => (hownr.lt k hk).1)⟩
            rw [HLd.out, HP.out, u16s_append]
            exact hown1
          case measure => simp [intOf]; omega
        · go_wp2_with (go_at_call 22; refine (cI _).mono ?_; rintro e w1 ⟨rfl, rfl⟩)
          go_roundw
          case rel => exact ⟨k + 1, j, bn', cn + 6, by omega, by go_num, rfl, by go_num, by omega, hbn2, HGS.out, by rw [HLd.out]; exact hreg1, by rw [HLd.out]; exact hownr, hbw⟩
          case measure => simp [intOf]; omega
    · have hke : t.take k = t := List.take_of_length_le (by omega)
      rw [hke] at hreg hownr hgood
      have hU := unitsIn_of hreg hcn
      clear hke
      go_wp2
      go_ret2
      refine ⟨Or.inl ⟨hgood, _, rfl, ?_⟩, hbw⟩
      rw [hU, pieces_length]
      exact hownr
end Go.Proofs.YtiocmecalidlhaaDoor
