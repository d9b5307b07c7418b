/-
  The walk of SetsRead.
-/
import Derived.Test.YtefgpafoajoofaaGreatDoorRefPrint
import Derived.Test.YtefgpafoajoofaaGreatDoorRefParse
import Derived.Test.YtefgpafoajoofaaGreatDoorRefInSet
import Derived.Test.YtefgpafoajoofaaGreatDoorRefSetOf
import Derived.Test.YtefgpafoajoofaaGreatDoorSameRanges
import Derived.Test.YtefgpafoajoofaaGreatDoorSeqHas
import Derived.Test.YtefgpafoajoofaaGreatDoorBare
namespace Go.Proofs.YtefgpafoajoofaaGreatDoor
open Go.RowKit Go.Proofs.Aid Go.Proofs.Sq Go.Sort

/-- The error that a number tells. -/
def SErr (v : Value) (n : Int) : Prop := (n = 0 ∧ v = .nilIface) ∨ (n ≠ 0 ∧ v = .iface 24 (.int .i64 n))
theorem sbare_is (v : Value) (n : Int) (w : World) (h : SErr v n) (hg : ErrType w) : Calls Tryz.prog 8 #[v, .int .i64 n] w fun ev w' => ev = .returned (.bool true) ∧ Below w.heap.size w w' := by
  rcases h with ⟨rfl, rfl⟩ | ⟨_, rfl⟩
  · exact bare_nil 0 w
  · have := bare_err n n w hg
    rw [show (n == n) = true by simp] at this
    exact this
/-- What a text tells: the error's number, the ranges. -/
def told (s : List UInt8) : Int × List (Int × Int) :=
  match readSet s with
  | .form => (3, [])
  | .limit => (4, [])
  | .ok l => (0, l.map intR)
theorem rg_nil (w : World) : Rg w (.slice none 0 0) [] := ⟨none, 0, rfl, Or.inl rfl⟩
theorem parse_is (s : ByteArray) (m : Int) (w : World) (hs : s.size ≤ 1000000) (hm : w.cell? ⟨2, 0, none⟩ = some (.int .i64 m)) :
    Calls Tryz.prog 7 #[.string s] w fun e w' => (∃ v u, e = .returned (.tuple #[v, u]) ∧ Rg w' v (told s.data.toList).2 ∧ SErr u (told s.data.toList).1) ∧ Below w.heap.size w w' := by
  refine (parse_any s m w hs hm).mono ?_
  rintro e w' ⟨hb, ⟨h, rfl⟩ | ⟨h, rfl⟩ | ⟨l, v, h, _, rfl, hrow⟩⟩
  · refine ⟨⟨_, _, rfl, ?_, ?_⟩, hb⟩ <;> unfold told <;> rw [h]
    · exact rg_nil _
    · exact Or.inr ⟨by decide, rfl⟩
  · refine ⟨⟨_, _, rfl, ?_, ?_⟩, hb⟩ <;> unfold told <;> rw [h]
    · exact rg_nil _
    · exact Or.inr ⟨by decide, rfl⟩
  · refine ⟨⟨_, _, rfl, ?_, ?_⟩, hb⟩ <;> unfold told <;> rw [h]
    · exact rg_of_row (l := l.map intR) (by rw [List.length_map]; exact hrow)
    · exact Or.inl ⟨rfl, rfl⟩
theorem rparse_is (s : ByteArray) (m : Int) (w : World) (hs : s.size ≤ 1000000) (hm : w.cell? ⟨2, 0, none⟩ = some (.int .i64 m)) (hg : NumAt w) :
    Calls Tryz.prog 6 #[.string s] w fun e w' => (∃ v, e = .returned (.tuple #[v, .int .i64 (told s.data.toList).1]) ∧ Rg w' v (told s.data.toList).2 ∧ (told s.data.toList).2.length ≤ 1000) ∧ Below w.heap.size w w' := by
  refine (ref_parse s m w hs hm hg).mono ?_
  rintro e w' ⟨hb, ⟨h, rfl⟩ | ⟨h, rfl⟩ | ⟨l, v, h, hl, rfl, hrg⟩⟩
  · unfold told; rw [h]; exact ⟨⟨_, rfl, rg_nil _, by decide⟩, hb⟩
  · unfold told; rw [h]; exact ⟨⟨_, rfl, rg_nil _, by decide⟩, hb⟩
  · unfold told; rw [h]; exact ⟨⟨_, rfl, hrg, by rw [List.length_map]; omega⟩, hb⟩
/-- How a set is written: the text, the error's number. -/
def writ (l : List (Int × Int)) : ByteArray × Int := if rightR l = true then (⟨(wrote l).toArray⟩, 0) else (⟨#[]⟩, 1)
theorem print_is (v : Value) (l : List (Int × Int)) (w : World) (h : Rg w v l) (hg : NumAt w) :
    Calls Tryz.prog 11 #[v] w fun e w' => (∃ u, e = .returned (.tuple #[.string (writ l).1, u]) ∧ SErr u (writ l).2) ∧ Below w.heap.size w w' := by
  unfold writ
  cases hr : rightR l with
  | true =>
    refine (print_yes v l w h hr (Lib.tabBelow_of_tabIs (hg w (Below.refl _ _)).2.2)).mono ?_
    rintro e w' ⟨rfl, hb⟩
    exact ⟨⟨_, rfl, Or.inl ⟨rfl, rfl⟩⟩, hb⟩
  | false =>
    refine (print_no v l w h hr).mono ?_
    rintro e w' ⟨rfl, hb⟩
    exact ⟨⟨_, rfl, Or.inr ⟨(by decide : (1 : Int) ≠ 0), rfl⟩⟩, hb⟩
theorem rprint_is (v : Value) (l : List (Int × Int)) (m : Int) (w : World) (h : Rg w v l) (hl : l.length ≤ 1000) (hg : NumAt w) (hm : w.cell? ⟨2, 0, none⟩ = some (.int .i64 m)) :
    Calls Tryz.prog 10 #[v] w fun e w' => e = .returned (.tuple #[.string (writ l).1, .int .i64 (writ l).2]) ∧ Below w.heap.size w w' := by
  unfold writ
  cases hr : rightR l with
  | true => exact ref_print_yes v l m w h hl hr hg hm
  | false => exact ref_print_no v l w h hl hr
theorem rising_step {zs : List Int} {k : Nat} {z p : Int} (h : zs[k]? = some z) : rising p (zs.drop k) = (decide (p < z) && rising z (zs.drop (k + 1))) := by
  obtain ⟨hk, rfl⟩ := List.getElem?_eq_some_iff.1 h
  rw [List.drop_eq_getElem_cons hk, rising]
set_option maxHeartbeats 4000000 in
set_option maxRecDepth 100000 in
theorem read_small (s : ByteArray) (vl vz : Value) (l : List (Int × Int)) (zs : List Int) (n g m : Int) (w : World) (hl : Rg w vl l) (hz : Ig w vz zs) (hs : s.size ≤ 400) (hll : l.length ≤ 40) (hzl : zs.length ≤ 60) (hzb : ∀ z ∈ zs, z ≤ 9223372036854775807)
    (hg : NumAt w) (he : ErrType w) (hm : w.cell? ⟨2, 0, none⟩ = some (.int .i64 m)) :
    Calls Tryz.prog 3 #[.string s, vl, .int .i64 n, .int .i64 g, vz] w fun e w' => e = .returned (.bool true) ∧ Below w.heap.size w w' := by
  have K0 : Hid (∀ W, Below w.heap.size w W → Rg W vl l ∧ Ig W vz zs ∧ NumAt W ∧ ErrType W ∧ W.cell? ⟨2, 0, none⟩ = some (.int .i64 m)) := fun W h => ⟨hl.below h (Nat.le_refl _), hz.below h (Nat.le_refl _), hg.below h, he.below h, (h.cell (World.block_lt_of_cell? _ _ hm)).trans hm⟩
  have cP := rparse_is s m w (by omega) hm hg
  have HZB : Hid (∀ z ∈ zs, z ≤ 9223372036854775807) := hzb
  have HLZ : Hid (l.length ≤ 40 ∧ zs.length ≤ 60) := ⟨hll, hzl⟩
  have hvl := hl
  have hvz := hz
  obtain ⟨la, lc, rfl, _⟩ := hvl
  obtain ⟨za, zc, rfl, _⟩ := hvz
  obtain ⟨ln, hln⟩ : ∃ n, l.length = n := ⟨_, rfl⟩
  obtain ⟨zn, hzn⟩ : ∃ n, zs.length = n := ⟨_, rfl⟩
  have HLN : Hid (l.length = ln ∧ zs.length = zn) := ⟨hln, hzn⟩
  rw [hln] at hll K0 ⊢
  rw [hzn] at hzl K0 ⊢
  have i1 : ¬ (400 : Int) < (s.size : Int) := by omega
  have i2 : ¬ (40 : Int) < (ln : Int) := by omega
  have i3 : ¬ (60 : Int) < (zn : Int) := by omega
  obtain ⟨ec, hec⟩ : ∃ c, (told s.data.toList).1 = c := ⟨_, rfl⟩
  obtain ⟨PL, hPL⟩ : ∃ c, (told s.data.toList).2 = c := ⟨_, rfl⟩
  have HT : Hid ((told s.data.toList).1 = ec ∧ (told s.data.toList).2 = PL) := ⟨hec, hPL⟩
  rw [hec, hPL] at cP
  clear hl hz hg he hm hzb hln hzn hec hPL
  go_enter Tryz.func3, Tryz.ntmps3
  go_wp2_with fail
  refine cP.mono ?_
  clear cP
  rintro e w1 ⟨⟨v1, rfl, r1, hp1⟩, hb1⟩
  have cQ := parse_is s m w1 (by omega) (K0.out w1 hb1).2.2.2.2
  rw [HT.out.1, HT.out.2] at cQ
  go_wp2_with fail
  refine cQ.mono ?_
  clear cQ
  rintro e w2 ⟨⟨v2, u2, rfl, r2, e2⟩, hb2⟩
  have hb02 := hb1.trans (hb2.mono hb1.size)
  have r1' : Rg w2 v1 PL := r1.below hb2 (Nat.le_refl _)
  have cB := sbare_is u2 ec w2 e2 (K0.out w2 hb02).2.2.2.1
  clear r1 hb1 hb2 e2
  go_wp2_with fail
  refine cB.mono ?_
  clear cB
  rintro e w3 ⟨rfl, hb3⟩
  have hb03 := hb02.trans (hb3.mono hb02.size)
  have cS := same_ranges v2 v1 PL w3 (r2.below hb3 (Nat.le_refl _)) (r1'.below hb3 (Nat.le_refl _)) hp1
  clear r1' r2 hb02 hb3
  go_wp2_with fail
  refine cS.mono ?_
  clear cS
  rintro e w4 ⟨rfl, hb4⟩
  have hb04 := hb03.trans (hb4.mono hb03.size)
  have k4 := K0.out w4 hb04
  have cP := rprint_is _ l m w4 k4.1 (by have := HLZ.out; omega) k4.2.2.1 k4.2.2.2.2
  obtain ⟨tx, htx⟩ : ∃ c, (writ l).1 = c := ⟨_, rfl⟩
  obtain ⟨ep, hep⟩ : ∃ c, (writ l).2 = c := ⟨_, rfl⟩
  have HW : Hid ((writ l).1 = tx ∧ (writ l).2 = ep) := ⟨htx, hep⟩
  rw [htx, hep] at cP
  clear hb03 hb4 k4 htx hep
  go_wp2_with fail
  refine cP.mono ?_
  clear cP
  rintro e w5 ⟨rfl, hb5⟩
  have hb05 := hb04.trans (hb5.mono hb04.size)
  have cQ := print_is _ l w5 (K0.out w5 hb05).1 (K0.out w5 hb05).2.2.1
  rw [HW.out.1, HW.out.2] at cQ
  clear hb04 hb5
  go_wp2_with fail
  refine cQ.mono ?_
  clear cQ
  rintro e w6 ⟨⟨u6, rfl, e6⟩, hb6⟩
  have hb06 := hb05.trans (hb6.mono hb05.size)
  have cB := sbare_is u6 ep w6 e6 (K0.out w6 hb06).2.2.2.1
  clear hb05 hb6 e6
  go_wp2_with fail
  refine cB.mono ?_
  clear cB
  rintro e w7 ⟨rfl, hb7⟩
  have hb07 := hb06.trans (hb7.mono hb06.size)
  have cR := right_any _ l w7 (K0.out w7 hb07).1
  obtain ⟨br, hbr⟩ : ∃ b, rightR l = b := ⟨_, rfl⟩
  have HBR : Hid (rightR l = br) := hbr
  rw [hbr] at cR
  clear hbr hb06 hb7
  go_wp2_with fail
  refine cR.mono ?_
  clear cR
  rintro e w8 ⟨rfl, hb8⟩
  have hb08 := hb07.trans (hb8.mono hb07.size)
  have cR := ref_ranges _ l w8 (K0.out w8 hb08).1 (by have := HLZ.out; omega)
  rw [HBR.out] at cR
  clear hb07 hb8
  go_wp2_with fail
  refine cR.mono ?_
  clear cR
  rintro e w9 ⟨rfl, hb9⟩
  have hb09 := hb08.trans (hb9.mono hb08.size)
  have cH := has_any _ l n g w9 (K0.out w9 hb09).1 (by have := HLZ.out; omega)
  obtain ⟨bh, hbh⟩ : ∃ b, hasSet n g l = b := ⟨_, rfl⟩
  have HBH : Hid (hasSet n g l = bh) := hbh
  rw [hbh] at cH
  clear hbh hb08 hb9
  have hq1 : (br != br) = false := by simp
  go_wp2_with fail
  refine cH.mono ?_
  clear cH
  rintro e w10 ⟨rfl, hb10⟩
  have hb010 := hb09.trans (hb10.mono hb09.size)
  have cH := ref_inset _ l n g w10 (K0.out w10 hb010).1 (by have := HLZ.out; omega)
  rw [HBH.out] at cH
  clear hb09 hb10
  go_wp2_with fail
  refine cH.mono ?_
  clear cH
  rintro e w11 ⟨rfl, hb11⟩
  have hb011 := hb010.trans (hb11.mono hb010.size)
  have hq2 : (bh != bh) = false := by simp
  clear hb010 hb11
  go_wp2_with fail
  clear HBH HBR HW HT
  go_loopw [17] (fun i wr => ∃ k : Nat, i = .int .i64 (k : Int) ∧ k ≤ zn ∧ Hid (rising 0 zs = rising (if k = 0 then 0 else zs.getD (k - 1) 0) (zs.drop k)) ∧ Hid (0 < k → 0 < zs.getD (k - 1) 0) ∧ Below w.heap.size w wr) (fun i _ => zn - (intOf i).toNat)
  case atStart => exact ⟨0, rfl, by omega, by show _ = _; simp, fun h => absurd h (by omega), hb011⟩
  case round =>
    obtain ⟨k, rfl, hk, HR, HP, hbW⟩ := hrel
    clear hb011
    by_cases hlt : k < zn
    · obtain ⟨a', c', hv, hd⟩ := (K0.out wr hbW).2.1
      have hkz : k < zs.length := by have := HLN.out.2; omega
      injection hv with hv1 hv2 hv3
      subst hv1
      rcases hd with h0 | ⟨b, o, rfl, hat⟩
      · rw [h0] at hkz; simp at hkz
      have c1 := hat k _ (List.getElem?_eq_getElem hkz)
      obtain ⟨z, hz⟩ : ∃ z, zs[k] = z := ⟨_, rfl⟩
      rw [hz] at c1
      have HZ : Hid (zs[k]? = some z) := by show _ = _; rw [List.getElem?_eq_getElem hkz, hz]
      by_cases hz1 : z < 1
      · have b1 : decide (z < 1) = true := decide_eq_true hz1
        clear hat hv2 hv3 hz
        go_wp2_with fail
        go_region
        all_goals
          go_wp2_with fail
          go_ret
          exact ⟨rfl, below_drewN hbW _⟩
      · have b1 : decide (z < 1) = false := decide_eq_false hz1
        by_cases hk0 : k = 0
        · subst hk0
          rw [Nat.add_zero] at c1
          have HN : Hid (rising 0 zs = rising z (zs.drop 1)) := by
            show _ = _
            have := HR.out
            rw [if_pos rfl, rising_step HZ.out, decide_eq_true (by omega), Bool.true_and] at this
            exact this
          have HQ : Hid (zs.getD 0 0 = z) := by show _ = _; rw [List.getD_eq_getElem?_getD, HZ.out]; rfl
          clear hat hv2 hv3 hz HR HP
          go_wp2_with fail
          go_region
          all_goals
            go_wp2_with fail
            go_roundw
            case rel => exact ⟨1, by go_num, by omega, by show _ = _; rw [if_neg (by decide)]; exact HQ.out ▸ HN.out, fun _ => by show 0 < zs.getD 0 0; rw [HQ.out]; omega, below_drewN hbW _⟩
            case measure => simp [intOf]; omega
        · obtain ⟨j, rfl⟩ : ∃ j, k = j + 1 := ⟨k - 1, by omega⟩
          have hjz : j < zs.length := by omega
          have c0 := hat j _ (List.getElem?_eq_getElem hjz)
          obtain ⟨y, hy⟩ : ∃ y, zs[j] = y := ⟨_, rfl⟩
          rw [hy] at c0
          have HY : Hid (zs.getD j 0 = y) := by show _ = _; rw [List.getD_eq_getElem?_getD, List.getElem?_eq_getElem hjz, hy]; rfl
          have hR := HR.out
          rw [if_neg hk0, rising_step HZ.out, Nat.add_sub_cancel, HY.out] at hR
          have hP := HP.out (by omega)
          rw [Nat.add_sub_cancel, HY.out] at hP
          have HQ : Hid (zs.getD (j + 1) 0 = z) := by show _ = _; rw [List.getD_eq_getElem?_getD, HZ.out]; rfl
          have k1 : decide ((0 : Int) < ((j : Int) + 1)) = true := decide_eq_true (by omega)
          by_cases hyz : z ≤ y
          · have b2 : decide (z ≤ y) = true := decide_eq_true hyz
            clear hat hv2 hv3 hz HR HP hR hy
            go_wp2_with fail
            go_region
            all_goals
              go_wp2_with fail
              go_ret
              exact ⟨rfl, below_drewN hbW _⟩
          · have b2 : decide (z ≤ y) = false := decide_eq_false hyz
            rw [decide_eq_true (by omega), Bool.true_and] at hR
            have HN : Hid (rising 0 zs = rising z (zs.drop (j + 1 + 1))) := hR
            clear hat hv2 hv3 hz HR HP hR hy
            go_wp2_with fail
            go_region
            all_goals
              go_wp2_with fail
              go_roundw
              case rel => exact ⟨j + 1 + 1, by go_num, by omega, by show _ = _; rw [if_neg (by omega), Nat.add_sub_cancel, HQ.out]; exact HN.out, fun _ => by rw [Nat.add_sub_cancel, HQ.out]; omega, below_drewN hbW _⟩
              case measure => simp [intOf]; omega
    · obtain rfl : k = zn := by omega
      have HRT : Hid (rising 0 zs = true) := by
        show _ = _
        rw [HR.out, List.drop_eq_nil_of_le (by have := HLN.out.2; omega)]
        rfl
      clear HR HP
      have cO := of_any _ zs wr (K0.out wr hbW).2.1 HRT.out (by have := HLN.out.2; omega) HZB.out
      go_wp2_with fail
      refine cO.mono ?_
      clear cO
      rintro e w12 ⟨⟨v12, rfl, o12⟩, hb12⟩
      have hb012 := hbW.trans (hb12.mono hbW.size)
      have cO := ref_setof _ zs w12 (K0.out w12 hb012).2.1 HRT.out (by have := HLN.out.2; omega) HZB.out
      have r12 : Rg w12 v12 (ofL zs) := rg_of_row o12
      clear o12
      go_wp2_with fail
      refine cO.mono ?_
      clear cO
      rintro e w13 ⟨⟨v13, rfl, o13⟩, hb13⟩
      have hb013 := hb012.trans (hb13.mono hb012.size)
      have cS := same_ranges v12 v13 (ofL zs) w13 (r12.below hb13 (Nat.le_refl _)) (rg_of_row o13) (by have := ofL_length zs; have := HLN.out.2; omega)
      clear r12 o13
      go_wp2_with fail
      refine cS.mono ?_
      rintro e w14 ⟨rfl, hb14⟩
      go_wp2_with fail
      go_ret
      exact ⟨rfl, hb013.trans (hb14.mono hb013.size)⟩
theorem read_big (s : ByteArray) (vl vz : Value) (l : List (Int × Int)) (zs : List Int) (n g : Int) (w : World) (hl : Rg w vl l) (hz : Ig w vz zs) (h : 400 < s.size ∨ 40 < l.length ∨ 60 < zs.length) :
    Calls Tryz.prog 3 #[.string s, vl, .int .i64 n, .int .i64 g, vz] w fun e w' => e = .returned (.bool true) ∧ Below w.heap.size w w' := by
  obtain ⟨la, lc, rfl, _⟩ := hl
  obtain ⟨za, zc, rfl, _⟩ := hz
  generalize l.length = ln at h ⊢
  generalize zs.length = zn at h ⊢
  by_cases h1 : 400 < s.size
  · have i1 : (400 : Int) < (s.size : Int) := by omega
    go_enter Tryz.func3, Tryz.ntmps3
    go_wp2_with fail
    go_ret
    exact ⟨rfl, Below.refl _ _⟩
  · have i1 : ¬ (400 : Int) < (s.size : Int) := by omega
    by_cases h2 : 40 < ln
    · have i2 : (40 : Int) < (ln : Int) := by omega
      go_enter Tryz.func3, Tryz.ntmps3
      go_wp2_with fail
      go_ret
      exact ⟨rfl, Below.refl _ _⟩
    · have i2 : ¬ (40 : Int) < (ln : Int) := by omega
      have i3 : (60 : Int) < (zn : Int) := by omega
      go_enter Tryz.func3, Tryz.ntmps3
      go_wp2_with fail
      go_ret
      exact ⟨rfl, Below.refl _ _⟩
end Go.Proofs.YtefgpafoajoofaaGreatDoor
