/-
  What wire.Next does.
-/
import Derived.Test.YtmcpohnilgbicaaGreatDoorWireTail
import Derived.OwnWalk
namespace Go.Proofs.YtmcpohnilgbicaaGreatDoor
open Go.RowKit Go.Proofs.Aid Go.Proofs.Sq Go.Proofs.Hd Go.Sort

/-- The error ErrLimit, or none. -/
def limV (b : Bool) : Value := if b = true then .iface 22 (.int .i64 4) else .nilIface
theorem cut_line (s : ByteArray) (A : Nat) (m : Int) (w : World) (hs : s.size ≤ 1000000) (hm : w.cell? ⟨1, 0, none⟩ = some (.int .i64 m)) :
    Calls Tryz.prog 17 #[.string (s.extract A s.size), .string ⟨#[13, 10]⟩] w fun e w' => ((Lib.index (s.data.toList.drop A) [13, 10] < 0 ∧ ∃ x y, e = .returned (.tuple #[.string x, .string y, .bool false])) ∨ (∃ (z : Nat) (L y : ByteArray), Lib.index (s.data.toList.drop A) [13, 10] = (z : Int) ∧ A + z + 2 ≤ s.size ∧ L.data.toList = (s.data.toList.drop A).take z ∧ L.size = z ∧ e = .returned (.tuple #[.string L, .string y, .bool true]))) ∧ Below w.heap.size w w' := by
  have he : (s.extract A s.size).data.toList = s.data.toList.drop A := Lib.extract_to_end s A
  have hsz : (s.extract A s.size).size ≤ 1000000 := by
    have : (s.extract A s.size).data.toList.length ≤ 1000000 := by rw [he, List.length_drop, wsize]; omega
    rw [wsize] at this; exact this
  refine (Tryz.strings_Cut (s.extract A s.size) ⟨#[13, 10]⟩ m w (by omega) hm).mono ?_
  rw [he, show (⟨#[13, 10]⟩ : ByteArray).data.toList = [13, 10] from rfl]
  rintro e w' ⟨rfl, n, rfl⟩
  refine ⟨?_, below_drewN (Below.refl _ _) n⟩
  unfold Lib.cut
  by_cases h : 0 ≤ Lib.index (s.data.toList.drop A) [13, 10]
  · right
    have hle := index_lt h
    rw [List.length_drop, wsize] at hle
    rw [if_pos h]
    refine ⟨_, _, _, (Int.toNat_of_nonneg h).symm, by omega, rfl, ?_, rfl⟩
    rw [← wsize]
    show (List.take _ _).length = _
    rw [List.length_take, List.length_drop, wsize]
    omega
  · left
    rw [if_neg h]
    exact ⟨by omega, _, _, rfl⟩
set_option maxHeartbeats 4000000 in
set_option maxRecDepth 100000 in
theorem next_is (s : ByteArray) (m : Int) (w : World) (hs : s.size ≤ 1000000) (hm : w.cell? ⟨1, 0, none⟩ = some (.int .i64 m)) (hg : NumAt w) :
    Calls Tryz.prog 5 #[.string s] w fun e w' => e = .returned (.tuple #[.int .i64 ((nextW s.data.toList 0 0).1 : Int), .int .i64 ((nextW s.data.toList 0 0).2.1 : Int), limV (nextW s.data.toList 0 0).2.2]) ∧ Below w.heap.size w w' := by
  have hl := wsize s
  have K0 : Hid (∀ W, Below w.heap.size w W → NumAt W ∧ W.cell? ⟨1, 0, none⟩ = some (.int .i64 m)) := fun W h => ⟨hg.below h, (h.cell (World.block_lt_of_cell? _ _ hm)).trans hm⟩
  obtain ⟨⟨A1, A2, A3⟩, hA⟩ : ∃ A, nextW s.data.toList 0 0 = A := ⟨_, rfl⟩
  rw [hA]
  have HA : Hid (nextW s.data.toList 0 0 = (A1, A2, A3)) := hA
  show Calls Tryz.prog 5 #[.string s] w fun e w' => e = .returned (.tuple #[.int .i64 (A1 : Int), .int .i64 (A2 : Int), limV A3]) ∧ Below w.heap.size w w'
  have HL : Hid (s.data.toList.length = s.size) := hl
  clear hA hm hg hl
  go_enter Tryz.func5, Tryz.ntmps5
  go_wp2_with fail
  go_loopw [3, 5] (fun k a wr => ∃ K P : Nat, k = .int .i64 (K : Int) ∧ a = .int .i64 (P : Int) ∧ P ≤ s.size ∧ K ≤ P ∧ Hid (nextW s.data.toList P K = (A1, A2, A3)) ∧ Below w.heap.size w wr) (fun _ a _ => s.size - (intOf a).toNat)
  case atStart => exact ⟨0, 0, rfl, rfl, by omega, by omega, HA, Below.refl _ _⟩
  case round =>
    obtain ⟨K, P, rfl, rfl, hP, hK, HN, hb⟩ := hrel
    clear HA
    have cC := cut_line s P m wr hs (K0.out wr hb).2
    have HB : Hid (Below w.heap.size w wr) := hb
    clear hb
    go_wp2_with fail
    refine cC.mono ?_
    rintro e w1 ⟨h1, hb1⟩
    have hb01 := HB.out.trans (hb1.mono HB.out.size)
    have HB1 : Hid (Below w.heap.size w w1) := hb01
    clear cC HB hb1 hb01
    rcases h1 with ⟨hz, x, y, rfl⟩ | ⟨z, L, y, hz, hPz, hL, hLz, rfl⟩
    · have hA := HN.out
      rw [nextW_none hz, HL.out] at hA
      have HE : Hid (A1 = 0 ∧ A2 = K ∧ A3 = decide (3000 < s.size)) := by injection hA with e1 e2; injection e2 with e2 e3; exact ⟨e1.symm, e2.symm, e3.symm⟩
      have cM := limit_is (s.size : Int) w1
      have hv : (if (3000 : Int) < (s.size : Int) then Value.iface 22 (.int .i64 4) else .nilIface) = limV A3 := by
        rw [HE.out.2.2]; unfold limV
        by_cases h : 3000 < s.size
        · rw [if_pos (by omega), if_pos (decide_eq_true h)]
        · rw [if_neg (by omega), if_neg (by simp [h])]
      rw [hv] at cM
      clear hz HN hv hA
      go_wp2_with fail
      refine cM.mono ?_
      rintro e w2 ⟨rfl, hw⟩
      obtain rfl : w1 = w2 := hw.symm
      go_wp2_with fail
      go_ret3
      exact ⟨by rw [HE.out.1, HE.out.2.1]; rfl, HB1.out⟩
    · have cT := tail_is L w1 (by omega) (K0.out w1 HB1.out).1
      rw [hL] at cT
      have HZ : Hid (Lib.index (s.data.toList.drop P) [13, 10] = (z : Int)) := hz
      obtain ⟨TT, hTT⟩ : ∃ t, tailF ((s.data.toList.drop P).take z) = t := ⟨_, rfl⟩
      have HT : Hid (tailF ((s.data.toList.drop P).take z) = TT) := hTT
      rw [hTT] at cT
      clear hz hL hTT
      have q1 : (P : Int) + ((L.size : Int) + 2) = ((P + z + 2 : Nat) : Int) := by rw [hLz]; push_cast; omega
      clear hLz
      go_wp2_with fail
      refine cT.mono ?_
      rintro e w2 ⟨rfl, hb2⟩
      have hb02 := HB1.out.trans (hb2.mono HB1.out.size)
      have HB2 : Hid (Below w.heap.size w w2) := hb02
      clear cT hb2 hb02 HB1
      cases TT with
      | none =>
        have hA := HN.out
        rw [nextW_last HZ.out HT.out] at hA
        have cM := limit_is ((P + z + 2 : Nat) : Int) w2
        by_cases h3 : 3000 < P + z + 2
        · rw [if_pos h3] at hA
          rw [if_pos (by omega)] at cM
          have HE : Hid (A1 = 0 ∧ A2 = K ∧ A3 = true) := by injection hA with e1 e2; injection e2 with e2 e3; exact ⟨e1.symm, e2.symm, e3.symm⟩
          clear HN HZ HT hA
          go_wp2_with fail
          refine cM.mono ?_
          rintro e w3 ⟨rfl, hw⟩
          obtain rfl : w2 = w3 := hw.symm
          go_wp2_with fail
          go_ret3
          exact ⟨by rw [HE.out.1, HE.out.2.1, HE.out.2.2]; rfl, HB2.out⟩
        · rw [if_neg h3] at hA
          rw [if_neg (by omega)] at cM
          have HE : Hid (A1 = P + z + 2 ∧ A2 = K ∧ A3 = false) := by injection hA with e1 e2; injection e2 with e2 e3; exact ⟨e1.symm, e2.symm, e3.symm⟩
          clear HN HZ HT hA
          go_wp2_with fail
          refine cM.mono ?_
          rintro e w3 ⟨rfl, hw⟩
          obtain rfl : w2 = w3 := hw.symm
          go_wp2_with fail
          go_ret3
          exact ⟨by rw [HE.out.1, HE.out.2.1, HE.out.2.2]; rfl, HB2.out⟩
      | some n =>
        have hn := tailF_le HT.out
        have hA := HN.out
        rw [nextW_more HZ.out HT.out] at hA
        have q2 : ((P + z + 2 : Nat) : Int) + (n : Int) = ((P + z + 2 + n : Nat) : Int) := by push_cast; omega
        have cM := limit_is ((P + z + 2 + n : Nat) : Int) w2
        by_cases h3 : 3000 < P + z + 2 + n
        · rw [if_pos h3] at hA
          rw [if_pos (by omega)] at cM
          have HE : Hid (A1 = 0 ∧ A2 = K ∧ A3 = true) := by injection hA with e1 e2; injection e2 with e2 e3; exact ⟨e1.symm, e2.symm, e3.symm⟩
          clear HN HZ HT hA
          go_wp2_with fail
          refine cM.mono ?_
          rintro e w3 ⟨rfl, hw⟩
          obtain rfl : w2 = w3 := hw.symm
          go_wp2_with fail
          go_ret3
          exact ⟨by rw [HE.out.1, HE.out.2.1, HE.out.2.2]; rfl, HB2.out⟩
        · rw [if_neg h3] at hA
          rw [if_neg (by omega)] at cM
          by_cases h4 : s.size < P + z + 2 + n
          · rw [if_pos (by rw [HL.out]; exact h4)] at hA
            have HE : Hid (A1 = 0 ∧ A2 = K + 1 ∧ A3 = false) := by injection hA with e1 e2; injection e2 with e2 e3; exact ⟨e1.symm, e2.symm, e3.symm⟩
            have d1 : decide ((s.size : Int) - ((P : Int) + (z : Int) + 2) < (n : Int)) = true := decide_eq_true (by omega)
            clear HN HZ HT hA
            go_wp2_with fail
            refine cM.mono ?_
            rintro e w3 ⟨rfl, hw⟩
            obtain rfl : w2 = w3 := hw.symm
            go_wp2_with fail
            go_ret3
            exact ⟨by rw [HE.out.1, HE.out.2.1, HE.out.2.2]; rfl, HB2.out⟩
          · rw [if_neg (by rw [HL.out]; exact h4)] at hA
            have HE : Hid (nextW s.data.toList (P + z + 2 + n) (K + 1) = (A1, A2, A3)) := hA
            have d1 : decide ((s.size : Int) - ((P : Int) + (z : Int) + 2) < (n : Int)) = false := decide_eq_false (by omega)
            clear HN HZ HT hA
            go_wp2_with fail
            refine cM.mono ?_
            rintro e w3 ⟨rfl, hw⟩
            obtain rfl : w2 = w3 := hw.symm
            go_wp2_with fail
            go_roundw
            case rel => exact ⟨K + 1, P + z + 2 + n, by go_num, by go_num, by omega, by omega, HE, HB2.out⟩
            case measure => simp [intOf]; omega
end Go.Proofs.YtmcpohnilgbicaaGreatDoor
