/-
  Deeds, in memory.
  The document's box: whether it may be.
-/
import Derived.Test.YtgpcnacpefficaaGreatDoorBpFlagsSl
import Derived.Test.YtgpcnacpefficaaGreatDoorBpBoxRow
import Derived.Test.YtgpcnacpefficaaGreatDoorBpPlSt
import Derived.Test.YtgpcnacpefficaaGreatDoorBpRefSet
import Derived.Test.YtgpcnacpefficaaGreatDoorMRefIn
import Derived.Test.YtgpcnacpefficaaGreatDoorMBoxRight
namespace Go.Proofs.YtgpcnacpefficaaGreatDoor
open Go.RowKit Go.Proofs.Aid Go.Proofs.Bx

/-- A deed. -/
structure Po where
  what : Int
  uid : Int
  n : Int
  flags : List Fl.Tx
  text : ByteArray
  long : Bool
def PoAt (w : World) (b o : Nat) (x : Po) : Prop :=
  w.cell? ⟨b, o, none⟩ = some (.int .i64 x.what) ∧ w.cell? ⟨b, o + 1, none⟩ = some (.int .i64 x.uid) ∧ w.cell? ⟨b, o + 2, none⟩ = some (.int .i64 x.n) ∧ (∃ fv, w.cell? ⟨b, o + 3, none⟩ = some fv ∧ Sl w fv x.flags) ∧ w.cell? ⟨b, o + 4, none⟩ = some (.string x.text) ∧ w.cell? ⟨b, o + 5, none⟩ = some (.bool x.long)
def Pos (w : World) (v : Value) (L : List Po) : Prop := ∃ a c, v = .slice a L.length c ∧ (L = [] ∨ ∃ b o, a = some ⟨b, o, none⟩ ∧ ∀ (j : Nat) x, L[j]? = some x → PoAt w b (o + j * 6) x)
end Go.Proofs.YtgpcnacpefficaaGreatDoor
namespace Go.Proofs.YtgpcnacpefficaaGreatDoor
open Go.RowKit Go.Proofs.Aid Go.Proofs.Bx

theorem rightB_no {v n : Int} {l : List Lt} (h : riseB n 0 l = false) : rightB v n l = false := by
  unfold rightB
  rw [h, Bool.and_false]
theorem rightB_yes {v n : Int} {l : List Lt} (h : riseB n 0 l = true) : rightB v n l = (decide (1 ≤ v ∧ v ≤ 2147483647) && (decide (1 ≤ n ∧ n ≤ 2147483647) && decide (l.length ≤ 60))) := by
  unfold rightB mayB
  rw [h, Bool.and_true, Bool.decide_and, Bool.decide_and, Bool.and_assoc]
set_option maxHeartbeats 8000000 in
set_option maxRecDepth 100000 in
theorem rright_is (vv n : Int) (l : List Lt) (lv : Value) (w : World) (h : Lts w lv l) (hl : l.length ≤ 1000) (hfl : ∀ x ∈ l, x.flags.length ≤ 400 ∧ (∀ s ∈ x.flags, s.length ≤ 900000) ∧ (Fl.setOf x.flags).1.length ≤ 1000) :
    Calls Tryz.prog 6 #[.agg #[.int .i64 vv, .int .i64 n, lv]] w fun e w' => e = .returned (.bool (rightB vv n l)) ∧ Below w.heap.size w w' := by
  obtain ⟨a, c, rfl, hcap, hrest⟩ := id h
  have eA := heap_alloc_new w (.cells #[.int .i64 vv, .int .i64 n, .slice a l.length c] 26)
  have bA : Below w.heap.size w (w.alloc (.cells #[.int .i64 vv, .int .i64 n, .slice a l.length c] 26)) := (Below.refl _ _).alloc (Nat.le_refl _) _
  obtain ⟨R, hR⟩ : ∃ R, rightB vv n l = R := ⟨_, rfl⟩
  rw [hR]
  have HR : Hid (rightB vv n l = R) := hR
  have HL : Hid (l = [] ∨ ∃ b o, a = some ⟨b, o, none⟩ ∧ ∀ (j : Nat) x, l[j]? = some x → LtAt w b (o + j * 4) x) := hrest
  have HFL : Hid (∀ x ∈ l, x.flags.length ≤ 400 ∧ (∀ s ∈ x.flags, s.length ≤ 900000) ∧ (Fl.setOf x.flags).1.length ≤ 1000) := hfl
  obtain ⟨m, hm⟩ : ∃ m, l.length = m := ⟨_, rfl⟩
  have HM : Hid (l.length = m) := hm
  rw [hm] at eA bA hl ⊢
  obtain ⟨W1, hW1⟩ : ∃ W, w.alloc (.cells #[.int .i64 vv, .int .i64 n, .slice a m c] 26) = W := ⟨_, rfl⟩
  rw [hW1] at eA bA
  have z1 : W1.heap.size = w.heap.size + 1 := by rw [← hW1]; simp
  have K1 : Hid (∀ W, Below W1.heap.size W1 W → W.cell? ⟨w.heap.size, 0, none⟩ = some (.int .i64 vv) ∧ W.cell? ⟨w.heap.size, 1, none⟩ = some (.int .i64 n) ∧ W.cell? ⟨w.heap.size, 2, none⟩ = some (.slice a m c) ∧ Below w.heap.size w W) := fun W hW => by
    have e := (hW.block w.heap.size (by omega)).trans eA
    exact ⟨rd_cell e rfl, rd_cell e rfl, rd_cell e rfl, bA.trans (hW.mono (by omega))⟩
  obtain ⟨k0, k1, k2, k3⟩ := K1.out W1 (Below.refl _ _)
  clear h hcap hrest hfl hm hR eA bA z1 k3
  go_enter Tryz.func6, Tryz.ntmps6
  go_wp2_with fail
  go_loopw [3, 11] (fun lu i wr => ∃ k : Nat, i = .int .i64 (k : Int) ∧ k ≤ m ∧ lu = .int .i64 (lastU (l.take k)) ∧ Hid (riseB n 0 (l.take k) = true ∧ Below W1.heap.size W1 wr)) (fun _ i _ => m - (intOf i).toNat)
  case atStart => exact ⟨0, rfl, Nat.zero_le _, rfl, rfl, Below.refl _ _⟩
  case round =>
    obtain ⟨k, rfl, hk, rfl, HI⟩ := hrel
    obtain ⟨p0, p1, p2, p3⟩ := K1.out wr HI.out.2
    by_cases hlt : k < m
    · have hkl : k < l.length := by rw [HM.out]; exact hlt
      obtain ⟨x, hx⟩ : ∃ x, l[k] = x := ⟨_, rfl⟩
      have hxk : l[k]? = some x := by rw [List.getElem?_eq_getElem hkl, hx]
      have hmem := List.mem_of_getElem? hxk
      obtain ⟨b, o, rfl, hat⟩ : ∃ b o, a = some ⟨b, o, none⟩ ∧ ∀ (j : Nat) x, l[j]? = some x → LtAt w b (o + j * 4) x := by
        rcases HL.out with h | h
        · rw [h] at hkl; simp at hkl
        · exact h
      obtain ⟨q0, ⟨fv, q1, hsf⟩, q3, q4⟩ := (hat k x hxk).below p3 (Nat.le_refl _)
      have hstep := riseB_take (n := n) hxk HI.out.1
      have hlast := lastU_snoc hxk
      obtain ⟨fa, fc, hfv, hfr⟩ := id hsf
      clear hfr
      obtain ⟨XU, hXU⟩ : ∃ z, x.uid = z := ⟨_, rfl⟩
      obtain ⟨XD, hXD⟩ : ∃ z, x.day = z := ⟨_, rfl⟩
      obtain ⟨XT, hXT⟩ : ∃ z : ByteArray, ⟨x.text.toArray⟩ = z := ⟨_, rfl⟩
      obtain ⟨FL, hFL⟩ : ∃ z, x.flags.length = z := ⟨_, rfl⟩
      rw [hFL] at hfv
      rw [hXU] at q0 hstep hlast
      rw [hXD] at q3
      rw [hXT] at q4
      obtain ⟨LU, hLU⟩ : ∃ z, lastU (l.take k) = z := ⟨_, rfl⟩
      have hstep : riseB n 0 (l.take (k + 1)) = (decide (LU < XU) && decide (XU < n) && okLt x) := by rw [← hLU]; exact hstep
      have HTS : Hid (XT.size = x.text.length) := by show XT.size = _; rw [← hXT]; simp [ByteArray.size]
      obtain ⟨SE, hSE⟩ : ∃ z, (Fl.setOf x.flags).2 = z := ⟨_, rfl⟩
      obtain ⟨SF, hSF⟩ : ∃ z, (Fl.setOf x.flags).1 = z := ⟨_, rfl⟩
      have HOK : Hid (okLt x = (decide (SE = 0) && decide (SF = x.flags) && decide (0 ≤ XD ∧ XD ≤ 2147483647) && decide (XT.size ≤ 2000))) := by
        show okLt x = _
        unfold okLt
        rw [hSE, hSF, hXD, HTS.out]
      obtain ⟨f1, f2, f3⟩ := HFL.out x hmem
      rw [hSF] at f3
      subst hfv
      have eB := heap_alloc_new wr (.cells #[.int .i64 XU, .slice fa FL fc, .int .i64 XD, .string XT] 51)
      have bB : Below wr.heap.size wr (wr.alloc (.cells #[.int .i64 XU, .slice fa FL fc, .int .i64 XD, .string XT] 51)) := (Below.refl _ _).alloc (Nat.le_refl _) _
      obtain ⟨W2, hW2⟩ : ∃ W, wr.alloc (.cells #[.int .i64 XU, .slice fa FL fc, .int .i64 XD, .string XT] 51) = W := ⟨_, rfl⟩
      rw [hW2] at eB bB
      have z2 : W2.heap.size = wr.heap.size + 1 := by rw [← hW2]; simp
      have hb12 : Below W1.heap.size W1 W2 := HI.out.2.trans (bB.mono HI.out.2.size)
      have cL := ref_set (.slice fa FL fc) x.flags W2 (hsf.below bB (Nat.le_refl _)) f1 f2
      rw [hSE, hSF] at cL
      have K2 : Hid (∀ W, Below W2.heap.size W2 W → W.cell? ⟨wr.heap.size, 0, none⟩ = some (.int .i64 XU) ∧ W.cell? ⟨wr.heap.size, 1, none⟩ = some (.slice fa FL fc) ∧ W.cell? ⟨wr.heap.size, 2, none⟩ = some (.int .i64 XD) ∧ W.cell? ⟨wr.heap.size, 3, none⟩ = some (.string XT) ∧ (W.cell? ⟨w.heap.size, 1, none⟩ = some (.int .i64 n) ∧ Sl W (.slice fa FL fc) x.flags ∧ Below W1.heap.size W1 W) ∧ Below w.heap.size w W) := fun W hW => by
        have e := (hW.block wr.heap.size (by omega)).trans eB
        have h9 := hb12.trans (hW.mono hb12.size)
        exact ⟨rd_cell e rfl, rd_cell e rfl, rd_cell e rfl, rd_cell e rfl, ⟨(K1.out W h9).2.1, hsf.below (bB.trans (hW.mono (by omega))) (Nat.le_refl _), h9⟩, (K1.out W h9).2.2.2⟩
      obtain ⟨a0, a1, a2, a3, _⟩ := K2.out W2 (Below.refl _ _)
      have HST : Hid (riseB n 0 (l.take (k + 1)) = (decide (LU < XU) && decide (XU < n) && okLt x)) := hstep
      have HLA : Hid (lastU (l.take (k + 1)) = XU) := hlast
      have HNO : Hid ((decide (LU < XU) && decide (XU < n) && okLt x) = false → R = false) := fun h => by
        rw [← HR.out]
        exact rightB_no (riseB_false (k := k + 1) (by rw [HST.out]; exact h))
      have HFIN : Hid ((decide (LU < XU) && decide (XU < n) && okLt x) = true → riseB n 0 (l.take (k + 1)) = true) := fun h => by rw [HST.out]; exact h
      have HF3 : Hid (SF.length ≤ 1000 ∧ x.flags.length ≤ 400) := ⟨f3, f1⟩
      rw [hLU]
      clear hx hxk hmem hat hsf eB bB z2 hb12 f1 f2 f3 hstep hlast hXU hXD hXT hFL hLU hSE hSF hkl HI p3 p0 p1 p2 hW1
      go_wp2_with fail
      refine cL.mono ?_
      clear cL q0 q1 q3 q4
      rintro e w3 ⟨⟨sv, rfl, hsv⟩, hb3⟩
      obtain ⟨b0, b1, b2, b3, ⟨b4, hs3, hb13⟩, hb03⟩ := K2.out w3 hb3
      have H3 : Hid (Below W2.heap.size W2 w3) := hb3
      obtain ⟨sa, sc, hsvf, hsr⟩ := id hsv
      clear hsr
      obtain ⟨sn, hsn⟩ : ∃ z, SF.length = z := ⟨_, rfl⟩
      rw [hsn] at hsvf
      subst hsvf
      by_cases hE : SE = 0
      rotate_left
      · have hEb : (SE == 0) = false := by simpa using hE
        clear hb3 hs3 hb13 hb03 hsv hsn
        have hR : false = R := (HNO.out (by rw [HOK.out, decide_eq_false hE]; simp)).symm
        subst hR
        clear HR HST HLA HNO HFIN
        go_wp2_with fail
        go_ret
        exact ⟨rfl, (K2.out w3 H3.out).2.2.2.2.2⟩
      subst hE
      have cM := rsame_is (.slice sa sn sc) (.slice fa FL fc) SF x.flags w3 hsv hs3 HF3.out.1 (by have := HF3.out.2; omega)
      obtain ⟨SB, hSB⟩ : ∃ z, decide (SF = x.flags) = z := ⟨_, rfl⟩
      rw [hSB] at cM
      have HSB : Hid (decide (SF = x.flags) = SB) := hSB
      clear hb3 hs3 hb13 hb03 hsv hsn hSB a0 a1 a2 a3 k0 k1 k2
      go_wp2_with fail
      refine cM.mono ?_
      clear cM
      rintro e w4 ⟨rfl, qq, hw4⟩
      have H4 : Hid (Below W2.heap.size W2 w4) := by
        unfold Hid
        rw [hw4]
        exact below_drewN H3.out _
      obtain ⟨c0, c1, c2, c3, ⟨c4, hs4, hb14⟩, hb04⟩ := K2.out w4 H4.out
      have HB14 : Hid (Below W1.heap.size W1 w4) := hb14
      clear hw4 hs4 hb14 hb04 b0 b1 b2 b3 b4
      cases SB with
      | false =>
        have hR : false = R := (HNO.out (by rw [HOK.out, HSB.out]; simp)).symm
        subst hR
        clear HR HST HLA HNO HFIN
        go_wp2_with fail
        go_ret
        exact ⟨rfl, (K2.out w4 H4.out).2.2.2.2.2⟩
      | true =>
        by_cases e1 : XU ≤ LU
        · have g1 : decide (XU ≤ LU) = true := decide_eq_true e1
          have hR : false = R := (HNO.out (by rw [decide_eq_false (by omega)]; rfl)).symm
          subst hR
          clear HR HST HLA HNO HFIN
          go_wp2_with fail
          go_ret
          exact ⟨rfl, (K2.out w4 H4.out).2.2.2.2.2⟩
        have g1 : decide (XU ≤ LU) = false := decide_eq_false e1
        by_cases e2 : n ≤ XU
        · have g2 : decide (n ≤ XU) = true := decide_eq_true e2
          have hR : false = R := (HNO.out (by rw [decide_eq_false (show ¬ XU < n by omega)]; simp)).symm
          subst hR
          clear HR HST HLA HNO HFIN
          go_wp2_with fail
          go_ret
          exact ⟨rfl, (K2.out w4 H4.out).2.2.2.2.2⟩
        have g2 : decide (n ≤ XU) = false := decide_eq_false e2
        have cI := ref_in XD 0 2147483647 w4
        obtain ⟨DB, hDB⟩ : ∃ z, decide (0 ≤ XD ∧ XD ≤ 2147483647) = z := ⟨_, rfl⟩
        rw [hDB] at cI
        have HDB : Hid (decide (0 ≤ XD ∧ XD ≤ 2147483647) = DB) := hDB
        clear hDB
        go_wp2_with fail
        refine cI.mono ?_
        rintro e w5 ⟨rfl, hw⟩
        obtain rfl : w4 = w5 := hw.symm
        clear cI hw
        cases DB with
        | false =>
          have hR : false = R := (HNO.out (by rw [HOK.out, HDB.out]; simp)).symm
          subst hR
          clear HR HST HLA HNO HFIN
          go_wp2_with fail
          go_ret
          exact ⟨rfl, (K2.out w4 H4.out).2.2.2.2.2⟩
        | true =>
          by_cases e3 : 2000 < XT.size
          · have g3 : decide ((2000 : Int) < (XT.size : Int)) = true := decide_eq_true (by omega)
            have g4 : decide (2000 < XT.size) = true := decide_eq_true e3
            have hR : false = R := (HNO.out (by rw [HOK.out, decide_eq_false (show ¬ XT.size ≤ 2000 by omega)]; simp)).symm
            subst hR
            clear HR HST HLA HNO HFIN
            go_wp2_with fail
            go_ret
            exact ⟨rfl, (K2.out w4 H4.out).2.2.2.2.2⟩
          have g3 : decide ((2000 : Int) < (XT.size : Int)) = false := decide_eq_false (by omega)
          have g4 : decide (2000 < XT.size) = false := decide_eq_false e3
          have HRT : Hid (riseB n 0 (l.take (k + 1)) = true ∧ Below W1.heap.size W1 w4) := ⟨HFIN.out (by rw [HOK.out, HSB.out, HDB.out, decide_eq_true (show LU < XU by omega), decide_eq_true (show XU < n by omega), decide_eq_true (show XT.size ≤ 2000 by omega)]; simp), HB14.out⟩
          have HLX : Hid (XU = lastU (l.take (k + 1))) := HLA.out.symm
          clear HFIN HNO HST HOK
          go_wp2_with fail
          go_roundw
          case rel => exact ⟨k + 1, by go_num, by omega, by rw [← HLX.out], HRT⟩
          case measure => simp [intOf]; omega
    · obtain rfl : k = m := by omega
      have hr := HI.out.1
      rw [List.take_of_length_le (by rw [HM.out]; exact Nat.le_refl _)] at hr
      have HRR : Hid ((decide (1 ≤ vv ∧ vv ≤ 2147483647) && (decide (1 ≤ n ∧ n ≤ 2147483647) && decide (k ≤ 60))) = R) := by
        show _ = R
        rw [← HR.out, rightB_yes hr, HM.out]
      have HB3 : Hid (Below w.heap.size w wr) := p3
      have cV := ref_in vv 1 2147483647 wr
      have cN := ref_in n 1 2147483647 wr
      obtain ⟨M1, hM1⟩ : ∃ z, decide (1 ≤ vv ∧ vv ≤ 2147483647) = z := ⟨_, rfl⟩
      obtain ⟨M2, hM2⟩ : ∃ z, decide (1 ≤ n ∧ n ≤ 2147483647) = z := ⟨_, rfl⟩
      rw [hM1] at cV
      rw [hM2] at cN
      rw [hM1, hM2] at HRR
      clear hr HI p3 hM1 hM2 HR
      go_wp2_with fail
      refine cV.mono ?_
      rintro e w5 ⟨rfl, hw⟩
      obtain rfl : wr = w5 := hw.symm
      clear cV hw
      cases M1 with
      | false =>
        have hR : false = R := by have := HRR.out; simpa using this
        subst hR
        clear HRR cN
        go_wp2_with fail
        go_ret
        exact ⟨rfl, HB3.out⟩
      | true =>
        go_wp2_with fail
        refine cN.mono ?_
        rintro e w5 ⟨rfl, hw⟩
        obtain rfl : wr = w5 := hw.symm
        clear cN hw
        cases M2 with
        | false =>
          have hR : false = R := by have := HRR.out; simpa using this
          subst hR
          clear HRR
          go_wp2_with fail
          go_ret
          exact ⟨rfl, HB3.out⟩
        | true =>
          have HRK : Hid (decide (k ≤ 60) = R) := by show decide (k ≤ 60) = R; have := HRR.out; simpa using this
          clear HRR
          go_wp2_with fail
          go_ret
          exact ⟨by rw [← HRK.out]; simp; omega, HB3.out⟩
end Go.Proofs.YtgpcnacpefficaaGreatDoor
