/-
  The document's answer on where a command ends: letterboxref.follows and letterboxref.Next.
-/
import Derived.Test.YtmcpohnilgbicaaGreatDoorWireTail
import Derived.Test.YtmcpohnilgbicaaGreatDoorRefNum
import Derived.OwnWalk
namespace Go.Proofs.YtmcpohnilgbicaaGreatDoor
open Go.RowKit Go.Proofs.Aid Go.Proofs.Sq Go.Proofs.Hd Go.Sort

theorem suffix_last (s : ByteArray) (h : 0 < s.size) : Lib.hasSuffix s.data.toList [125] = decide ((s[s.size - 1]'(by omega)).toNat = 125) := by
  have hl : s.data.toList.length = s.size := wsize s
  have hlt : s.size - 1 < s.size := by omega
  have hg : s.data.toList[s.size - 1]? = some (s[s.size - 1]'hlt) := by rw [List.getElem?_eq_getElem (by rw [hl]; exact hlt)]; rfl
  generalize s[s.size - 1]'hlt = c at hg
  have hsplit : s.data.toList.take (s.size - 1) ++ [c] = s.data.toList := by
    have h1 := List.take_append_drop (s.size - 1) s.data.toList
    rw [List.drop_eq_getElem_cons (by rw [hl]; exact hlt), List.drop_eq_nil_of_le (by rw [hl]; omega)] at h1
    rw [List.getElem?_eq_getElem (by rw [hl]; exact hlt)] at hg
    injection hg with hg
    rw [← hg]
    exact h1
  unfold Lib.hasSuffix
  rw [← hsplit]
  by_cases hc : c.toNat = 125
  · have : c = 125 := UInt8.toNat_inj.1 (by rw [hc]; rfl)
    subst this
    rw [decide_eq_true hc, List.isSuffixOf_iff_suffix]
    exact List.suffix_append _ _
  · rw [decide_eq_false hc, ← Bool.not_eq_true, List.isSuffixOf_iff_suffix]
    rintro ⟨t, ht⟩
    have := List.append_inj_right' ht rfl
    simp at this
    exact hc (by rw [← this]; rfl)
theorem numB_some {l : Tx} {n : Nat} (h : numW l = some n) : (numB l 4611686018427387904).1 = (n : Int) ∧ (numB l 4611686018427387904).2 = true := by
  unfold numW at h
  split at h
  · next h1 =>
    cases h
    refine ⟨?_, h1⟩
    unfold numB at h1 ⊢
    split at h1
    · simp only [Bool.and_eq_true, decide_eq_true_eq] at h1
      simp only
      omega
    · simp at h1
    · simp at h1
  · cases h
theorem numB_none {l : Tx} (h : numW l = none) : (numB l 4611686018427387904).2 = false := by
  unfold numW at h
  split at h
  · cases h
  · next h1 => simpa using h1
set_option maxHeartbeats 1000000 in
theorem ref_follows (s : ByteArray) (w : World) (hs : s.size ≤ 1000000) (hg : NumAt w) :
    Calls Tryz.prog 16 #[.string s] w fun e w' => (∃ z : Int, e = .returned (.tuple #[.int .i64 z, .bool (tailF s.data.toList).isSome]) ∧ ∀ n, tailF s.data.toList = some n → z = (n : Int)) ∧ Below w.heap.size w w' := by
  have cL := Tryz.strings_LastIndexByte s 123 (by omega) w
  obtain ⟨R, hR⟩ : ∃ R, tailF s.data.toList = R := ⟨_, rfl⟩
  rw [hR]
  unfold tailF at hR
  rw [show (⟨s.data.toList.toArray⟩ : ByteArray) = s from num_ba rfl] at hR
  rcases last_spec s with h | ⟨i, hi, h, hc⟩
  · rw [if_pos (Or.inl (by omega))] at hR
    subst hR
    rw [h] at cL
    go_enter Tryz.func16, Tryz.ntmps16
    go_wp2_with fail
    refine cL.mono ?_
    rintro e w1 ⟨rfl, hw⟩
    obtain rfl : w = w1 := hw.symm
    go_wp2_with fail
    go_ret2
    exact ⟨⟨0, rfl, fun n h => by cases h⟩, Below.refl _ _⟩
  · rw [h] at cL hR
    have hsl := suffix_last s (by omega)
    have hlt : s.size - 1 < s.size := by omega
    have hlt0 : 0 < s.size := by omega
    have q0 : (s.size : Int) - 1 = ((s.size - 1 : Nat) : Int) := by omega
    by_cases hx : (s[s.size - 1]'hlt).toNat = 125
    · have hs1 : Lib.hasSuffix s.data.toList [125] = true := by rw [hsl]; exact decide_eq_true hx
      rw [if_neg (by rw [hs1]; simp), Int.toNat_natCast, wsize] at hR
      have hlt2 := brace_ahead s i hi hc hs1
      have he : (s.extract (i + 1) (s.size - 1)).data.toList = (s.data.toList.drop (i + 1)).take (s.size - 1 - (i + 1)) := Lib.extract_data _ _ _
      obtain ⟨Q, hQ⟩ : ∃ Q, s.extract (i + 1) (s.size - 1) = Q := ⟨_, rfl⟩
      rw [hQ] at he
      rw [← he] at hR
      have hqs : Q.size ≤ 1000000 := by
        have : Q.data.toList.length ≤ s.size := by rw [he, List.length_take, List.length_drop, wsize]; omega
        rw [wsize] at this; omega
      have cN := ref_num Q 4611686018427387904 w hqs hg
      have hzz : ∀ n, R = some n → (numB Q.data.toList 4611686018427387904).1 = (n : Int) := fun n e => (numB_some (by rw [hR, e])).1
      have hbb : (numB Q.data.toList 4611686018427387904).2 = R.isSome := by
        cases R with
        | none => exact numB_none hR
        | some n => exact (numB_some hR).2
      rw [hbb] at cN
      obtain ⟨zz, hz⟩ : ∃ z, (numB Q.data.toList 4611686018427387904).1 = z := ⟨_, rfl⟩
      rw [hz] at cN hzz
      have HZ : Hid (∀ n, R = some n → zz = (n : Int)) := hzz
      have d1 : ((s[s.size - 1]'hlt).toNat : Int) = 125 := by omega
      have d2 : (((s[s.size - 1]'hlt).toNat : Int) != 125) = false := by rw [d1]; rfl
      clear hc h hx he hR hg hsl hs1 hbb hz hzz
      go_enter Tryz.func16, Tryz.ntmps16
      go_wp2_with fail
      refine cL.mono ?_
      rintro e w1 ⟨rfl, hw⟩
      obtain rfl : w = w1 := hw.symm
      go_wp2_with fail
      refine cN.mono ?_
      rintro e w1 ⟨rfl, hb⟩
      go_wp2_with fail
      go_ret2
      exact ⟨⟨zz, rfl, HZ.out⟩, hb⟩
    · have hs1 : Lib.hasSuffix s.data.toList [125] = false := by rw [hsl]; exact decide_eq_false hx
      rw [if_pos (Or.inr hs1)] at hR
      subst hR
      have d2 : (((s[s.size - 1]'hlt).toNat : Int) != 125) = true := by simp; omega
      clear hc h hx hsl hs1
      go_enter Tryz.func16, Tryz.ntmps16
      go_wp2_with fail
      refine cL.mono ?_
      rintro e w1 ⟨rfl, hw⟩
      obtain rfl : w = w1 := hw.symm
      go_wp2_with fail
      go_ret2
      exact ⟨⟨0, rfl, fun n h => by cases h⟩, Below.refl _ _⟩
def limN (b : Bool) : Int := if b = true then 4 else 0
set_option maxHeartbeats 4000000 in
set_option maxRecDepth 100000 in
theorem ref_next (s : ByteArray) (m : Int) (w : World) (hs : s.size ≤ 1000000) (hm : w.cell? ⟨1, 0, none⟩ = some (.int .i64 m)) (hg : NumAt w) :
    Calls Tryz.prog 4 #[.string s] w fun e w' => e = .returned (.tuple #[.int .i64 ((nextW s.data.toList 0 0).1 : Int), .int .i64 ((nextW s.data.toList 0 0).2.1 : Int), .int .i64 (limN (nextW s.data.toList 0 0).2.2)]) ∧ Below w.heap.size w w' := by
  have hl := wsize s
  have K0 : Hid (∀ W, Below w.heap.size w W → NumAt W ∧ W.cell? ⟨1, 0, none⟩ = some (.int .i64 m)) := fun W h => ⟨hg.below h, (h.cell (World.block_lt_of_cell? _ _ hm)).trans hm⟩
  obtain ⟨⟨A1, A2, A3⟩, hA⟩ : ∃ A, nextW s.data.toList 0 0 = A := ⟨_, rfl⟩
  rw [hA]
  have HA : Hid (nextW s.data.toList 0 0 = (A1, A2, A3)) := hA
  show Calls Tryz.prog 4 #[.string s] w fun e w' => e = .returned (.tuple #[.int .i64 (A1 : Int), .int .i64 (A2 : Int), .int .i64 (limN A3)]) ∧ Below w.heap.size w w'
  have HL : Hid (s.data.toList.length = s.size) := hl
  clear hA hm hg hl
  go_enter Tryz.func4, Tryz.ntmps4
  go_wp2_with fail
  go_loopw [5, 6] (fun a k wr => ∃ K P : Nat, k = .int .i64 (K : Int) ∧ a = .int .i64 (P : Int) ∧ P ≤ s.size ∧ K ≤ P ∧ Hid (nextW s.data.toList P K = (A1, A2, A3)) ∧ Below w.heap.size w wr) (fun a _ _ => s.size - (intOf a).toNat)
  case atStart => exact ⟨0, 0, rfl, rfl, by omega, by omega, HA, Below.refl _ _⟩
  case round =>
    obtain ⟨K, P, rfl, rfl, hP, hK, HN, hb⟩ := hrel
    clear HA
    have he : (s.extract P s.size).data.toList = s.data.toList.drop P := Lib.extract_to_end s P
    have hsz : (s.extract P s.size).size ≤ 1000000 := by
      have : (s.extract P s.size).data.toList.length ≤ 1000000 := by rw [he, List.length_drop, wsize]; omega
      rw [wsize] at this; exact this
    have cI := Tryz.strings_Index (s.extract P s.size) ⟨#[13, 10]⟩ m wr (by omega) (K0.out wr hb).2
    rw [he, show (⟨#[13, 10]⟩ : ByteArray).data.toList = [13, 10] from rfl] at cI
    have hge := Lib.index_ge (s.data.toList.drop P) [13, 10]
    have HI : Hid (0 ≤ Lib.index (s.data.toList.drop P) [13, 10] → (Lib.index (s.data.toList.drop P) [13, 10]).toNat + 2 ≤ (s.data.toList.drop P).length) := index_lt
    obtain ⟨Z, hZ⟩ : ∃ Z, Lib.index (s.data.toList.drop P) [13, 10] = Z := ⟨_, rfl⟩
    rw [hZ] at cI hge HI
    have HZ0 : Hid (Lib.index (s.data.toList.drop P) [13, 10] = Z) := hZ
    have HB : Hid (Below w.heap.size w wr) := hb
    clear hb he hsz hZ
    go_wp2_with fail
    refine cI.mono ?_
    rintro e w1 ⟨rfl, hw1⟩
    have hb1 : Below w.heap.size w w1 := by rw [hw1]; exact HB.out
    have HB1 : Hid (Below w.heap.size w w1) := hb1
    clear cI HB hb1 hw1
    by_cases hz : Z < 0
    · have hA := HN.out
      rw [nextW_none (by rw [HZ0.out]; exact hz), HL.out] at hA
      have d0 : decide (Z < 0) = true := decide_eq_true hz
      have HE : Hid (A1 = 0 ∧ A2 = K ∧ A3 = decide (3000 < s.size)) := by injection hA with e1 e2; injection e2 with e2 e3; exact ⟨e1.symm, e2.symm, e3.symm⟩
      clear HN hA
      by_cases h3 : 3000 < s.size
      · have d1 : decide ((3000 : Int) < (s.size : Int)) = true := decide_eq_true (by omega)
        go_wp2_with fail
        go_ret3
        exact ⟨by rw [HE.out.1, HE.out.2.1, HE.out.2.2, decide_eq_true h3]; rfl, HB1.out⟩
      · have d1 : decide ((3000 : Int) < (s.size : Int)) = false := decide_eq_false (by omega)
        go_wp2_with fail
        go_ret3
        exact ⟨by rw [HE.out.1, HE.out.2.1, HE.out.2.2, decide_eq_false h3]; rfl, HB1.out⟩
    · have d0 : decide (Z < 0) = false := decide_eq_false hz
      obtain ⟨z, rfl⟩ : ∃ z : Nat, Z = (z : Int) := ⟨Z.toNat, by omega⟩
      have hPz : P + z + 2 ≤ s.size := by
        have := HI.out (by omega)
        rw [Int.toNat_natCast, List.length_drop, HL.out] at this
        omega
      have heL : (s.extract P (P + z)).data.toList = (s.data.toList.drop P).take z := by rw [Lib.extract_data, Nat.add_sub_cancel_left]
      have hLz : (s.extract P (P + z)).size = z := by rw [← wsize, heL, List.length_take, List.length_drop, HL.out]; omega
      obtain ⟨L, hLL⟩ : ∃ L, s.extract P (P + z) = L := ⟨_, rfl⟩
      rw [hLL] at heL hLz
      have cT := ref_follows L w1 (by omega) (K0.out w1 HB1.out).1
      rw [heL] at cT
      obtain ⟨TT, hTT⟩ : ∃ t, tailF ((s.data.toList.drop P).take z) = t := ⟨_, rfl⟩
      have HT : Hid (tailF ((s.data.toList.drop P).take z) = TT) := hTT
      rw [hTT] at cT
      have HZ : Hid (Lib.index (s.data.toList.drop P) [13, 10] = (z : Int)) := HZ0.out
      clear heL hLz hTT HI HZ0 hge hz
      go_wp2_with fail
      refine cT.mono ?_
      rintro e w2 ⟨⟨nn, rfl, hnn⟩, hb2⟩
      have hb02 := HB1.out.trans (hb2.mono HB1.out.size)
      have HB2 : Hid (Below w.heap.size w w2) := hb02
      clear cT hb2 hb02 HB1
      cases TT with
      | none =>
        have hA := HN.out
        rw [nextW_last HZ.out HT.out] at hA
        clear hnn
        by_cases h3 : 3000 < P + z + 2
        · rw [if_pos h3] at hA
          have d1 : decide ((3000 : Int) < (P : Int) + ((z : Int) + 2)) = true := decide_eq_true (by omega)
          have HE : Hid (A1 = 0 ∧ A2 = K ∧ A3 = true) := by injection hA with e1 e2; injection e2 with e2 e3; exact ⟨e1.symm, e2.symm, e3.symm⟩
          clear HN HZ HT hA
          go_wp2_with fail
          go_ret3
          exact ⟨by rw [HE.out.1, HE.out.2.1, HE.out.2.2]; rfl, HB2.out⟩
        · rw [if_neg h3] at hA
          have d1 : decide ((3000 : Int) < (P : Int) + ((z : Int) + 2)) = false := decide_eq_false (by omega)
          have HE : Hid (A1 = P + z + 2 ∧ A2 = K ∧ A3 = false) := by injection hA with e1 e2; injection e2 with e2 e3; exact ⟨e1.symm, e2.symm, e3.symm⟩
          clear HN HZ HT hA
          go_wp2_with fail
          go_ret3
          exact ⟨by rw [HE.out.1, HE.out.2.1, HE.out.2.2]; simp [limN]; omega, HB2.out⟩
      | some n =>
        obtain rfl : nn = (n : Int) := hnn n rfl
        have hn := tailF_le HT.out
        have hA := HN.out
        rw [nextW_more HZ.out HT.out] at hA
        clear hnn
        by_cases h3 : 3000 < P + z + 2 + n
        · rw [if_pos h3] at hA
          have HE : Hid (A1 = 0 ∧ A2 = K ∧ A3 = true) := by injection hA with e1 e2; injection e2 with e2 e3; exact ⟨e1.symm, e2.symm, e3.symm⟩
          clear HN HZ HT hA
          by_cases h5 : 3000 < n
          · have d1 : decide ((3000 : Int) < (n : Int)) = true := decide_eq_true (by omega)
            go_wp2_with fail
            go_ret3
            exact ⟨by rw [HE.out.1, HE.out.2.1, HE.out.2.2]; rfl, HB2.out⟩
          · have d1 : decide ((3000 : Int) < (n : Int)) = false := decide_eq_false (by omega)
            have d2 : decide ((3000 : Int) < (P : Int) + ((z : Int) + 2) + (n : Int)) = true := decide_eq_true (by omega)
            go_wp2_with fail
            go_ret3
            exact ⟨by rw [HE.out.1, HE.out.2.1, HE.out.2.2]; rfl, HB2.out⟩
        · rw [if_neg h3] at hA
          have d1 : decide ((3000 : Int) < (n : Int)) = false := decide_eq_false (by omega)
          have d2 : decide ((3000 : Int) < (P : Int) + ((z : Int) + 2) + (n : Int)) = false := decide_eq_false (by omega)
          by_cases h4 : s.size < P + z + 2 + n
          · rw [if_pos (by rw [HL.out]; exact h4)] at hA
            have HE : Hid (A1 = 0 ∧ A2 = K + 1 ∧ A3 = false) := by injection hA with e1 e2; injection e2 with e2 e3; exact ⟨e1.symm, e2.symm, e3.symm⟩
            have d3 : decide ((s.size : Int) < (P : Int) + ((z : Int) + 2) + (n : Int)) = true := decide_eq_true (by omega)
            clear HN HZ HT hA
            go_wp2_with fail
            go_ret3
            exact ⟨by rw [HE.out.1, HE.out.2.1, HE.out.2.2]; rfl, HB2.out⟩
          · rw [if_neg (by rw [HL.out]; exact h4)] at hA
            have HE : Hid (nextW s.data.toList (P + z + 2 + n) (K + 1) = (A1, A2, A3)) := hA
            have d3 : decide ((s.size : Int) < (P : Int) + ((z : Int) + 2) + (n : Int)) = false := decide_eq_false (by omega)
            clear HN HZ HT hA
            go_wp2_with fail
            go_roundw
            case rel => exact ⟨K + 1, P + z + 2 + n, by go_num, by go_num, by omega, by omega, HE, HB2.out⟩
            case measure => simp [intOf]; omega
end Go.Proofs.YtmcpohnilgbicaaGreatDoor
