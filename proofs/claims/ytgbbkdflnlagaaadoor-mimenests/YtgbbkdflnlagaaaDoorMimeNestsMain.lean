/-
  MimeNests: what it answers.
-/
import Derived.Test.YtgbbkdflnlagaaaDoorMimeNestsWalk
namespace Go.Proofs.YtgbbkdflnlagaaaDoor
open Go.RowKit Go.Proofs.Aid Go.Proofs.Sq Go.Proofs.Hd Go.Proofs.Mm

set_option maxHeartbeats 8000000 in
set_option maxRecDepth 100000 in
theorem nests_small (s bd : ByteArray) (vl : Value) (l : List ByteArray) (m : Int) (w : World) (hs : s.size ≤ 1500) (hl : Tn w vl l) (hll : l.length ≤ 10) (hbd : bd.size ≤ 30) (hm : w.cell? ⟨0, 0, none⟩ = some (.int .i64 m)) (htab : TabB w.heap.size w) :
    Calls Tryd.prog 3 #[.string s, vl, .string bd] w fun e w' => e = .returned (.bool true) ∧ Below w.heap.size w w' := by
  have K0 : Hid (∀ W, Below w.heap.size w W → W.cell? ⟨0, 0, none⟩ = some (.int .i64 m)) := fun W h => (h.cell (World.block_lt_of_cell? _ _ hm)).trans hm
  have HTG : Hid (∀ W, Below w.heap.size w W → Tn W vl l) := fun W h => hl.below h (Nat.le_refl _)
  have cP := parted_is m w hm htab
  obtain ⟨a, c, rfl, _⟩ := hl
  obtain ⟨N, hN⟩ : ∃ N, l.length = N := ⟨_, rfl⟩
  have HN : Hid (l.length = N) := hN
  rw [hN] at hll HTG ⊢
  have i1 : ¬ (1500 : Int) < (s.size : Int) := by omega
  have i2 : ¬ (10 : Int) < (N : Int) := by omega
  have i3 : ¬ (30 : Int) < (bd.size : Int) := by omega
  clear hm htab hN
  go_enter Tryd.func3, Tryd.ntmps3
  go_wp2_with fail
  refine cP.mono ?_
  clear cP
  rintro e w1 ⟨rfl, hb1⟩
  have cS := parse_is s m w1 (by omega) (K0.out w1 hb1)
  go_wp2_with fail
  refine cS.mono ?_
  clear cS
  rintro e w2 ⟨hb2, hcase⟩
  have hb02 := hb1.trans (hb2.mono hb1.size)
  clear hb1 hb2
  have hAgg : ∃ (z0 z1 : ByteArray) (z2 z3 z4 : Int) (za : Option Addr) (zk zc : Nat) (er : Value), e = .returned (.tuple #[.agg #[.string z0, .string z1, .int .i64 z2, .int .i64 z3, .int .i64 z4, .slice za zk zc], er]) ∧
      ((∃ n, er = .iface 44 (.int .i64 n)) ∨ (er = .nilIface ∧ ∃ p, parseP s.data.toList = some p ∧ Six w2 (fun k => w1.heap.size ≤ k) p [.string z0, .string z1, .int .i64 z2, .int .i64 z3, .int .i64 z4, .slice za zk zc])) := by
    rcases hcase with ⟨_, rfl⟩ | ⟨p, xs, hp, rfl, hsix⟩
    · exact ⟨_, _, _, _, _, _, _, _, _, rfl, .inl ⟨_, rfl⟩⟩
    · obtain ⟨tb, bb, l1, h1, n1, a1, k1, cc1, rfl⟩ := six_cells hsix
      exact ⟨_, _, _, _, _, _, _, _, _, rfl, .inr ⟨rfl, p, hp, hsix⟩⟩
  clear hcase
  obtain ⟨z0, z1, z2, z3, z4, za, zk, zc, er, rfl, her⟩ := hAgg
  have hbA : Below w2.heap.size w2 (w2.alloc (.cells #[.string z0, .string z1, .int .i64 z2, .int .i64 z3, .int .i64 z4, .slice za zk zc] 26)) := (Below.refl _ _).alloc (Nat.le_refl _) _
  have eA := heap_alloc_new w2 (.cells #[.string z0, .string z1, .int .i64 z2, .int .i64 z3, .int .i64 z4, .slice za zk zc] 26)
  have zA : (w2.alloc (.cells #[.string z0, .string z1, .int .i64 z2, .int .i64 z3, .int .i64 z4, .slice za zk zc] 26)).heap.size = w2.heap.size + 1 := by simp
  have hb0A := hb02.trans (hbA.mono hb02.size)
  have t0 := rd_cell (j := 0) eA rfl
  have t1 := rd_cell (j := 1) eA rfl
  have t2 := rd_cell (j := 2) eA rfl
  have t3 := rd_cell (j := 3) eA rfl
  have t4 := rd_cell (j := 4) eA rfl
  have t5 := rd_cell (j := 5) eA rfl
  rcases her with ⟨n, rfl⟩ | ⟨rfl, p, hp, hsix⟩
  all_goals
    first
      | (
        have hin := parse_inside hp
        have hcn := parse_count hp
        have cK := kept_is 30 p _ _ 0 s.data.toList.length _ hcn hcn (hsix.under hbA) hin
        rw [list_size, show ((0 : Nat) : Int) = 0 from rfl, show ([.string z0, .string z1, .int .i64 z2, .int .i64 z3, .int .i64 z4, .slice za zk zc] : List Value).toArray = #[.string z0, .string z1, .int .i64 z2, .int .i64 z3, .int .i64 z4, .slice za zk zc] from rfl] at cK
        go_wp2_with fail
        refine cK.mono ?_
        clear cK
        rintro e w3 ⟨rfl, hb3⟩
        have hbA3 := hbA.trans (hb3.mono hbA.size)
        have cC := count_is 30 p _ _ w3 hcn hcn (hsix.under hbA3)
        rw [show ([.string z0, .string z1, .int .i64 z2, .int .i64 z3, .int .i64 z4, .slice za zk zc] : List Value).toArray = #[.string z0, .string z1, .int .i64 z2, .int .i64 z3, .int .i64 z4, .slice za zk zc] from rfl] at cC
        have e3 := (hb3.block w2.heap.size (by omega)).trans eA
        have u0 := rd_cell (j := 0) e3 rfl
        have u1 := rd_cell (j := 1) e3 rfl
        have u2 := rd_cell (j := 2) e3 rfl
        have u3 := rd_cell (j := 3) e3 rfl
        have u4 := rd_cell (j := 4) e3 rfl
        have u5 := rd_cell (j := 5) e3 rfl
        have hcn' : ¬ (30 : Int) < (countP p : Int) := by omega
        go_wp2_with fail
        refine cC.mono ?_
        clear cC
        rintro e W3 ⟨rfl, hb4⟩
        have hbA4 := hb3.trans (hb4.mono hb3.size)
        replace e3 := (hbA4.block w2.heap.size (by omega)).trans eA
        have hb03 := hb0A.trans (hbA4.mono hb0A.size)
        go_upto_region 8 with fail
        clear t0 t1 t2 t3 t4 t5 u0 u1 u2 u3 u4 u5 hsix hin hcn hcn' hp hb3 hb4 hbA3 hbA4 eA hbA hb0A zA)
      | (
        obtain ⟨W3, hW3⟩ : ∃ W, w2.alloc (.cells #[.string z0, .string z1, .int .i64 z2, .int .i64 z3, .int .i64 z4, .slice za zk zc] 26) = W := ⟨_, rfl⟩
        rw [hW3] at hb0A eA
        have hb03 := hb0A
        have e3 := eA
        go_upto_region 8 with fail
        clear t0 t1 t2 t3 t4 t5 hbA zA hW3 hb0A eA)
  all_goals
    by_cases hv0 : bd.data.toList = []
    · obtain rfl : bd = ⟨#[]⟩ := text_ext hv0
      go_wp2_with fail
      go_ret
      exact ⟨rfl, hb03⟩
    · have hv1 : ¬ bd.toList = [] := by rw [Lib.toList_data]; exact hv0
      have hv2 : bd.toList.isEmpty = false := by rw [Lib.toList_data]; cases h : bd.data.toList with
        | nil => exact absurd h hv0
        | cons c r => rfl
      have c := any_is bd ⟨#[32, 9, 13, 10, 0, 59, 61, 34]⟩ W3 (by decide) low_bd (by decide) (by omega)
      rw [show (⟨#[32, 9, 13, 10, 0, 59, 61, 34]⟩ : ByteArray).data.toList = [32, 9, 13, 10, 0, 59, 61, 34] from rfl] at c
      obtain ⟨B, hB⟩ : ∃ B, (bd.data.toList.any fun c => ([32, 9, 13, 10, 0, 59, 61, 34] : Tx).contains c) = B := ⟨_, rfl⟩
      rw [hB] at c
      have HB : Hid (B = false → Bd bd.data.toList) := fun h => bd_of hv0 (by rw [hB]; exact h)
      clear hB hv0
      go_wp2_with fail
      refine c.mono ?_
      clear c
      rintro e W4 ⟨rfl, hb4⟩
      have hb04 := hb03.trans (hb4.mono hb03.size)
      have e4 := (hb4.block w2.heap.size (Array.getElem?_eq_some_iff.1 e3).1).trans e3
      clear e3 hb4 hb03
      cases B
      · have HBD : Hid (Bd bd.data.toList) := HB.out rfl
        clear HB
        have x1 : (9223372036854775807 < 37 + bd.size) = False := eq_false (by omega)
        have x2 : (9223372036854775807 < 37 + bd.size + 5) = False := eq_false (by omega)
        go_wp2_with fail
        obtain ⟨M0, hM0⟩ : ∃ M : ByteArray, (⟨#[67, 111, 110, 116, 101, 110, 116, 45, 84, 121, 112, 101, 58, 32, 109, 117, 108, 116, 105, 112, 97, 114, 116, 47, 120, 59, 32, 98, 111, 117, 110, 100, 97, 114, 121, 61, 34]⟩ ++ bd ++ ⟨#[34, 13, 10, 13, 10]⟩ : ByteArray) = M := ⟨_, rfl⟩
        have HM0 : Hid (M0.data.toList = headM bd.data.toList) := by show _ = _; rw [← hM0, cat_list, cat_list, headM_eq]; rfl
        have hM0z : M0.size ≤ 100 := by rw [← hM0, cat_size, cat_size]; show 37 + bd.size + 5 ≤ 100; omega
        rw [hM0]
        clear hM0 x1 x2 hv1 hv2
        go_loop [9, 10] (fun mv i => ∃ (k : Nat) (M : ByteArray), mv = .string M ∧ i = .int .i64 (k : Int) ∧ k ≤ N ∧ M.size ≤ 100 + k * 200 ∧ Hid (M.data.toList ++ bodyM bd.data.toList (txs (l.drop k)) = headM bd.data.toList ++ bodyM bd.data.toList (txs l)) ∧ Hid (∀ (j : Nat) x, j < k → l[j]? = some x → NoDash x.data.toList)) (fun _ i => N - (intOf i).toNat)
        case atStart => exact ⟨0, M0, rfl, rfl, by omega, by omega, by show _ = _; rw [HM0.out]; rfl, fun j x h => absurd h (by omega)⟩
        case round =>
          obtain ⟨k, M, rfl, rfl, hk, hMz, HM, HND⟩ := hrel
          by_cases hlt : k < N
          · have hkl : k < l.length := by rw [HN.out]; exact hlt
            obtain ⟨x, hx⟩ : ∃ x, l[k] = x := ⟨_, rfl⟩
            have hlk : l[k]? = some x := by rw [List.getElem?_eq_getElem hkl, hx]
            have hcell : ∃ b o, a = some ⟨b, o, none⟩ ∧ W4.cell? ⟨b, o + k, none⟩ = some (.string x) := by
              obtain ⟨a', c', hv, hd⟩ := HTG.out W4 hb04
              injection hv with hv1 hv2 hv3
              subst hv1
              rcases hd with h0 | ⟨b, o, h1, hat⟩
              · rw [h0] at hkl; simp at hkl
              · exact ⟨b, o, h1, hat k x hlk⟩
            obtain ⟨b, o, rfl, hat⟩ := hcell
            have HX : Hid (txs (l.drop k) = x.data.toList :: txs (l.drop (k + 1))) := by show _ = _; rw [List.drop_eq_getElem_cons hkl, hx]; rfl
            have HLK : Hid (l[k]? = some x) := hlk
            clear hx hlk
            by_cases h100 : 100 < x.size
            · have i100 : (100 : Int) < (x.size : Int) := by omega
              go_wp2_with fail
              go_ret
              exact ⟨rfl, hb04⟩
            · have i100 : ¬ (100 : Int) < (x.size : Int) := by omega
              have c1 := Tryd.strings_Contains x ⟨#[45, 45]⟩ m W4 (by omega) (K0.out W4 hb04)
              rw [show (⟨#[45, 45]⟩ : ByteArray).data.toList = [45, 45] from rfl] at c1
              have c2 := Tryd.strings_Contains x bd m W4 (by omega) (K0.out W4 hb04)
              obtain ⟨B1, hB1⟩ : ∃ B, Lib.contains x.data.toList [45, 45] = B := ⟨_, rfl⟩
              obtain ⟨B2, hB2⟩ : ∃ B, Lib.contains x.data.toList bd.data.toList = B := ⟨_, rfl⟩
              rw [hB1] at c1
              rw [hB2] at c2
              have HD : Hid (B1 = false → NoDash x.data.toList) := fun h => noDash_of (by rw [hB1]; exact h)
              clear hB1 hB2
              go_wp2_with fail
              refine c1.mono ?_
              clear c1
              rintro e w5 ⟨rfl, hw5⟩
              obtain rfl : W4 = w5 := hw5.symm
              cases B1
              · have HD1 : Hid (NoDash x.data.toList) := HD.out rfl
                clear HD
                go_wp2_with fail
                refine c2.mono ?_
                clear c2
                rintro e w5 ⟨rfl, hw5⟩
                obtain rfl : W4 = w5 := hw5.symm
                cases B2
                · have y1 : (9223372036854775807 < 2 + bd.size) = False := eq_false (by omega)
                  have y2 : (9223372036854775807 < 2 + bd.size + 4) = False := eq_false (by omega)
                  have y3 : (9223372036854775807 < 2 + bd.size + 4 + x.size) = False := eq_false (by omega)
                  have y4 : (9223372036854775807 < 2 + bd.size + 4 + x.size + 2) = False := eq_false (by omega)
                  have y5 : (9223372036854775807 < M.size + (2 + bd.size + 4 + x.size + 2)) = False := eq_false (by omega)
                  go_wp2_with fail
                  have hz : (⟨#[45, 45]⟩ ++ bd ++ ⟨#[13, 10, 13, 10]⟩ ++ x ++ ⟨#[13, 10]⟩ : ByteArray).size = 2 + bd.size + 4 + x.size + 2 := by rw [cat_size, cat_size, cat_size, cat_size]; rfl
                  go_round
                  case rel =>
                    refine ⟨k + 1, _, rfl, by go_num, by omega, by rw [cat_size, hz]; omega, ?_, ?_⟩
                    · show _ = _
                      rw [← HM.out, HX.out, bodyM_cons, cat_list, cat_list, cat_list, cat_list, cat_list]
                      simp
                    · intro j x' hj hj'
                      by_cases hjk : j < k
                      · exact HND.out j x' hjk hj'
                      · obtain rfl : j = k := by omega
                        obtain rfl : x = x' := Option.some.inj (HLK.out.symm.trans hj')
                        exact HD1.out
                  case measure => simp [intOf]; omega
                · go_wp2_with fail
                  go_ret
                  exact ⟨rfl, hb04⟩
              · go_wp2_with fail
                go_ret
                exact ⟨rfl, hb04⟩
          · obtain rfl : k = N := by omega
            have y1 : (9223372036854775807 < 2 + bd.size) = False := eq_false (by omega)
            have y2 : (9223372036854775807 < 2 + bd.size + 4) = False := eq_false (by omega)
            have y5 : (9223372036854775807 < M.size + (2 + bd.size + 4)) = False := eq_false (by omega)
            obtain ⟨MT, hMT⟩ : ∃ M' : ByteArray, (M ++ (⟨#[45, 45]⟩ ++ bd ++ ⟨#[45, 45, 13, 10]⟩) : ByteArray) = M' := ⟨_, rfl⟩
            have hMTl : MT.data.toList = headM bd.data.toList ++ bodyM bd.data.toList (txs l) := by
              have := HM.out
              rw [List.drop_eq_nil_of_le (by rw [HN.out]; omega), show txs [] = [] from rfl, bodyM_nil] at this
              rw [← this, ← hMT, cat_list, cat_list, cat_list]
              simp
            have hMTz : MT.size ≤ 90000 := by rw [← hMT, cat_size, cat_size, cat_size]; show M.size + (2 + bd.size + 4) ≤ 90000; omega
            have hnl : (txs l).length = k := by rw [txs, List.length_map, HN.out]
            have hnd : ∀ x ∈ txs l, NoDash x := by
              intro x hx
              obtain ⟨y, hy, rfl⟩ := List.mem_map.1 hx
              obtain ⟨j, hj, hjy⟩ := List.getElem_of_mem hy
              exact HND.out j y (by rw [HN.out] at hj; exact hj) (by rw [List.getElem?_eq_getElem hj, hjy])
            have hpM := parse_M HBD.out (txs l) hnd (by omega)
            rw [← hMTl] at hpM
            have hcnt := parse_count hpM
            have HLA : Hid (∀ (i : Nat) (q : Mm.Pt), (leaves bd.data.toList (headM bd.data.toList).length (txs l))[i]? = some q → q.type = plainT ∧ q.lo ≤ q.hi ∧ q.hi ≤ MT.data.toList.length ∧ q.parts = [] ∧ (txs l)[i]? = some (textOf MT.data.toList q.lo q.hi)) := fun i q h => leaves_at (txs l) (headM bd.data.toList) i q hMTl h
            have hll2 := leaves_length bd.data.toList (txs l) (headM bd.data.toList).length
            rw [hnl] at hll2
            generalize leaves bd.data.toList (headM bd.data.toList).length (txs l) = LV at hpM hcnt HLA hll2
            generalize (headM bd.data.toList).length = p2 at hpM hcnt
            generalize (bodyM bd.data.toList (txs l)).count 10 = p4 at hpM hcnt
            rw [list_size] at hpM hcnt
            have cQ := parse_is MT m W4 hMTz (K0.out W4 hb04)
            go_wp2_with fail
            clear y1 y2 y5 HM hMT hMTl hMz HND hnl hnd
            refine cQ.mono ?_
            clear cQ
            rintro e w5 ⟨hb5, ⟨hno, _⟩ | ⟨P, xs, hP, rfl, hsix⟩⟩
            · rw [hpM] at hno; cases hno
            rw [hpM] at hP
            obtain rfl := Option.some.inj hP
            obtain ⟨tb, bb, a5, c5, rfl, htb, hbb, _⟩ := six_kids hsix
            have htb2 : tb = ⟨#[109, 117, 108, 116, 105, 112, 97, 114, 116, 47, 120]⟩ := by apply text_ext; rw [htb]; rfl
            subst htb2
            have hbb2 : bb = bd := text_ext hbb
            subst hbb2
            clear htb hbb
            rw [hll2] at hsix ⊢
            rw [show ([.string ⟨#[109, 117, 108, 116, 105, 112, 97, 114, 116, 47, 120]⟩, .string bb, .int .i64 (p2 : Int), .int .i64 (MT.size : Int), .int .i64 (p4 : Int), .slice a5 k c5] : List Value).toArray = #[.string ⟨#[109, 117, 108, 116, 105, 112, 97, 114, 116, 47, 120]⟩, .string bb, .int .i64 (p2 : Int), .int .i64 (MT.size : Int), .int .i64 (p4 : Int), .slice a5 k c5] from rfl]
            have hRlt : w2.heap.size < W4.heap.size := (Array.getElem?_eq_some_iff.1 e4).1
            have e5 := (hb5.block w2.heap.size hRlt).trans e4
            have hb05 := hb04.trans (hb5.mono hb04.size)
            have r0 := rd_cell (j := 0) e5 rfl
            have r1 := rd_cell (j := 1) e5 rfl
            have r2 := rd_cell (j := 2) e5 rfl
            have r3 := rd_cell (j := 3) e5 rfl
            have r4 := rd_cell (j := 4) e5 rfl
            have r5 := rd_cell (j := 5) e5 rfl
            have rf0 := rd_free e5 0
            have rf1 := rd_free e5 1
            have rf2 := rd_free e5 2
            have rf3 := rd_free e5 3
            have rf4 := rd_free e5 4
            have rf5 := rd_free e5 5
            have eF := rd_set (i := 5) (.slice a5 k c5) (rd_set (i := 4) (.int .i64 (p4 : Int)) (rd_set (i := 3) (.int .i64 (MT.size : Int)) (rd_set (i := 2) (.int .i64 (p2 : Int)) (rd_set (i := 1) (.string bb) (rd_set (i := 0) (.string ⟨#[109, 117, 108, 116, 105, 112, 97, 114, 116, 47, 120]⟩) e5)))))
            have hF : ∀ q, q ≠ w2.heap.size → _ := fun q hq => six_other w5 hq (.string ⟨#[109, 117, 108, 116, 105, 112, 97, 114, 116, 47, 120]⟩) (.string bb) (.int .i64 (p2 : Int)) (.int .i64 (MT.size : Int)) (.int .i64 (p4 : Int)) (.slice a5 k c5)
            have hbF := (six_but (rb := w2.heap.size) (to_but hb05) hb02.size (.string ⟨#[109, 117, 108, 116, 105, 112, 97, 114, 116, 47, 120]⟩) (.string bb) (.int .i64 (p2 : Int)) (.int .i64 (MT.size : Int)) (.int .i64 (p4 : Int)) (.slice a5 k c5)).below (Nat.le_refl _) hb02.size
            go_upto_region 19 with fail
            clear r0 r1 r2 r3 r4 r5 rf0 rf1 rf2 rf3 rf4 rf5
            obtain ⟨W6, hW6⟩ : ∃ W, ((((((w5.setCell ⟨w2.heap.size, 0, none⟩ (.string ⟨#[109, 117, 108, 116, 105, 112, 97, 114, 116, 47, 120]⟩)).setCell ⟨w2.heap.size, 1, none⟩ (.string bb)).setCell ⟨w2.heap.size, 2, none⟩ (.int .i64 (p2 : Int))).setCell ⟨w2.heap.size, 3, none⟩ (.int .i64 (MT.size : Int))).setCell ⟨w2.heap.size, 4, none⟩ (.int .i64 (p4 : Int))).setCell ⟨w2.heap.size, 5, none⟩ (.slice a5 k c5)) = W := ⟨_, rfl⟩
            rw [hW6] at eF hbF hF ⊢
            have e6 : W6.heap[w2.heap.size]? = some (.cells #[.string ⟨#[109, 117, 108, 116, 105, 112, 97, 114, 116, 47, 120]⟩, .string bb, .int .i64 (p2 : Int), .int .i64 (MT.size : Int), .int .i64 (p4 : Int), .slice a5 k c5] 26 (0, 0)) := eF
            have hsix6 := hsix.kept (w' := W6) (Ok' := fun q => W4.heap.size ≤ q) fun q hq _ => ⟨hq, hF q (by omega)⟩
            have HS6 : Hid (∀ W, Below W6.heap.size W6 W → Six W (fun q => W4.heap.size ≤ q) (.mk mxT bb.data.toList p2 MT.size p4 LV) [.string ⟨#[109, 117, 108, 116, 105, 112, 97, 114, 116, 47, 120]⟩, .string bb, .int .i64 (p2 : Int), .int .i64 (MT.size : Int), .int .i64 (p4 : Int), .slice a5 k c5]) := fun W h => hsix6.under h
            have HE6 : Hid (∀ W, Below W6.heap.size W6 W → W.heap[w2.heap.size]? = some (.cells #[.string ⟨#[109, 117, 108, 116, 105, 112, 97, 114, 116, 47, 120]⟩, .string bb, .int .i64 (p2 : Int), .int .i64 (MT.size : Int), .int .i64 (p4 : Int), .slice a5 k c5] 26 (0, 0))) := fun W h => (h.block _ (Array.getElem?_eq_some_iff.1 e6).1).trans e6
            have c0 := rd_cell (j := 0) e6 rfl
            have c1 := rd_cell (j := 1) e6 rfl
            have c5' := rd_cell (j := 5) e6 rfl
            have HL2 : Hid (LV.length = k) := hll2
            have HC2 : Hid (countP (.mk mxT bb.data.toList p2 MT.size p4 LV) ≤ 30) := hcnt
            clear hW6 eF hF hsix hsix6 hpM hcnt hP hll2 e5 hb5 e4 e6
            go_wp2_with fail
            clear c0 c1 c5'
            obtain ⟨N, hN⟩ : ∃ N, N = k := ⟨_, rfl⟩
            subst hN
            go_loopw [11] (fun i wr => ∃ (k : Nat), i = .int .i64 (k : Int) ∧ k ≤ N ∧ Below W6.heap.size W6 wr) (fun i _ => N - (intOf i).toNat)
            case atStart => exact ⟨0, rfl, by omega, Below.refl _ _⟩
            case round =>
              obtain ⟨k, rfl, hk, hbr⟩ := hrel
              have hbr0 := hbF.trans (hbr.mono hbF.size)
              have er := HE6.out wr hbr
              have c0 := rd_cell (j := 0) er rfl
              have c1 := rd_cell (j := 1) er rfl
              have c2 := rd_cell (j := 2) er rfl
              have c3 := rd_cell (j := 3) er rfl
              have c4 := rd_cell (j := 4) er rfl
              have c5' := rd_cell (j := 5) er rfl
              by_cases hlt : k < N
              · have hkl : k < l.length := by rw [HN.out]; exact hlt
                obtain ⟨x, hx⟩ : ∃ x, l[k] = x := ⟨_, rfl⟩
                have hlk : l[k]? = some x := by rw [List.getElem?_eq_getElem hkl, hx]
                obtain ⟨q, hq⟩ : ∃ q, LV[k]? = some q := ⟨_, List.getElem?_eq_getElem (by rw [HL2.out]; exact hlt)⟩
                obtain ⟨q1, q2, q3, q4, q5⟩ := HLA.out k q hq
                rw [list_size] at q3
                have hex : MT.extract q.lo q.hi = x := extract_is (by
                  have : (txs l)[k]? = some x.data.toList := by rw [txs, List.getElem?_map, hlk]; rfl
                  rw [this] at q5
                  exact (Option.some.inj q5).symm)
                obtain ⟨tq, bq, lo, hi, nq, pq⟩ := q
                simp only [Mm.Pt.type, Mm.Pt.lo, Mm.Pt.hi, Mm.Pt.parts] at q1 q2 q3 q4 hex
                subst q1 q4
                have cF := find_is (.mk mxT bb.data.toList p2 MT.size p4 LV) [.string ⟨#[109, 117, 108, 116, 105, 112, 97, 114, 116, 47, 120]⟩, .string bb, .int .i64 (p2 : Int), .int .i64 (MT.size : Int), .int .i64 (p4 : Int), .slice a5 N c5] _ (.slice (some ⟨wr.heap.size, 0, none⟩) 1 1) [(k : Int) + 1] (wr.alloc (.cells #[.int .i64 ((k : Int) + 1)] 3)) HC2.out ((HS6.out wr hbr).under ((Below.refl _ _).alloc (Nat.le_refl _) _)) (ng_one wr _) (by simp)
                rw [find_leaf hq, show ([.string ⟨#[109, 117, 108, 116, 105, 112, 97, 114, 116, 47, 120]⟩, .string bb, .int .i64 (p2 : Int), .int .i64 (MT.size : Int), .int .i64 (p4 : Int), .slice a5 N c5] : List Value).toArray = #[.string ⟨#[109, 117, 108, 116, 105, 112, 97, 114, 116, 47, 120]⟩, .string bb, .int .i64 (p2 : Int), .int .i64 (MT.size : Int), .int .i64 (p4 : Int), .slice a5 N c5] from rfl] at cF
                have hbr1 := hbr.trans (((Below.refl wr.heap.size wr).alloc (Nat.le_refl _) (.cells #[.int .i64 ((k : Int) + 1)] 3)).mono hbr.size)
                clear hx q5 hq er
                go_wp2_with fail
                refine cF.mono ?_
                clear cF
                rintro e w7 ⟨hb7, ⟨hno, _⟩ | ⟨q, ys, hqq, rfl, hsq, _⟩⟩
                · cases hno
                obtain rfl := Option.some.inj hqq
                obtain ⟨tb, bq', a7, c7, rfl, htb, hbb, _⟩ := six_kids hsq
                have htb2 : tb = ⟨#[116, 101, 120, 116, 47, 112, 108, 97, 105, 110]⟩ := by apply text_ext; rw [htb]; rfl
                subst htb2
                have hbr7 := hbr1.trans (hb7.mono hbr1.size)
                have hbr70 := hbF.trans (hbr7.mono hbF.size)
                have hcell : ∃ b o, a = some ⟨b, o, none⟩ ∧ (w7.alloc (.cells #[.string ⟨#[116, 101, 120, 116, 47, 112, 108, 97, 105, 110]⟩, .string bq', .int .i64 (lo : Int), .int .i64 (hi : Int), .int .i64 (nq : Int), .slice a7 0 c7] 26)).cell? ⟨b, o + k, none⟩ = some (.string x) := by
                  obtain ⟨a', c', hv, hd⟩ := HTG.out _ (hbr70.alloc hbr70.size (.cells #[.string ⟨#[116, 101, 120, 116, 47, 112, 108, 97, 105, 110]⟩, .string bq', .int .i64 (lo : Int), .int .i64 (hi : Int), .int .i64 (nq : Int), .slice a7 0 c7] 26))
                  injection hv with hv1 hv2 hv3
                  subst hv1
                  rcases hd with h0 | ⟨b, o, h1, hat⟩
                  · rw [h0] at hkl; simp at hkl
                  · exact ⟨b, o, h1, hat k x hlk⟩
                have eA := heap_alloc_new w7 (.cells #[.string ⟨#[116, 101, 120, 116, 47, 112, 108, 97, 105, 110]⟩, .string bq', .int .i64 (lo : Int), .int .i64 (hi : Int), .int .i64 (nq : Int), .slice a7 0 c7] 26)
                have t0 := rd_cell (j := 0) eA rfl
                have t2 := rd_cell (j := 2) eA rfl
                have t3 := rd_cell (j := 3) eA rfl
                obtain ⟨b, o, rfl, hat⟩ := hcell
                rw [show ([.string ⟨#[116, 101, 120, 116, 47, 112, 108, 97, 105, 110]⟩, .string bq', .int .i64 (lo : Int), .int .i64 (hi : Int), .int .i64 (nq : Int), .slice a7 ([] : List Mm.Pt).length c7] : List Value).toArray = #[.string ⟨#[116, 101, 120, 116, 47, 112, 108, 97, 105, 110]⟩, .string bq', .int .i64 (lo : Int), .int .i64 (hi : Int), .int .i64 (nq : Int), .slice a7 0 c7] from rfl]
                have k1 : (0 : Int) ≤ (lo : Int) := by omega
                have k2 : (lo : Int) ≤ (hi : Int) := by omega
                have k3 : (hi : Int) ≤ (MT.size : Int) := by omega
                have hbr8 : Below W6.heap.size W6 (w7.alloc (.cells #[.string ⟨#[116, 101, 120, 116, 47, 112, 108, 97, 105, 110]⟩, .string bq', .int .i64 (lo : Int), .int .i64 (hi : Int), .int .i64 (nq : Int), .slice a7 0 c7] 26)) := hbr7.alloc hbr7.size _
                clear htb hbb hsq hqq hlk eA c0 c1 c2 c3 c4 c5'
                go_upto_region 25 with fail
                go_quiet (fail)
                go_wp2_with fail
                go_roundw
                case rel => exact ⟨k + 1, by go_num, by omega, below_drewN hbr8 _⟩
                case measure => simp [intOf]; omega
              · obtain rfl : k = N := by omega
                have cF := find_is (.mk mxT bb.data.toList p2 MT.size p4 LV) [.string ⟨#[109, 117, 108, 116, 105, 112, 97, 114, 116, 47, 120]⟩, .string bb, .int .i64 (p2 : Int), .int .i64 (MT.size : Int), .int .i64 (p4 : Int), .slice a5 k c5] _ (.slice (some ⟨wr.heap.size, 0, none⟩) 1 1) [(k : Int) + 1] (wr.alloc (.cells #[.int .i64 ((k : Int) + 1)] 3)) HC2.out ((HS6.out wr hbr).under ((Below.refl _ _).alloc (Nat.le_refl _) _)) (ng_one wr _) (by simp)
                rw [show ([.string ⟨#[109, 117, 108, 116, 105, 112, 97, 114, 116, 47, 120]⟩, .string bb, .int .i64 (p2 : Int), .int .i64 (MT.size : Int), .int .i64 (p4 : Int), .slice a5 k c5] : List Value).toArray = #[.string ⟨#[109, 117, 108, 116, 105, 112, 97, 114, 116, 47, 120]⟩, .string bb, .int .i64 (p2 : Int), .int .i64 (MT.size : Int), .int .i64 (p4 : Int), .slice a5 k c5] from rfl] at cF
                have hbr1 := hbr0.trans (((Below.refl wr.heap.size wr).alloc (Nat.le_refl _) (.cells #[.int .i64 ((k : Int) + 1)] 3)).mono hbr0.size)
                by_cases hk0 : k = 0
                · subst hk0
                  have hLV : LV = [] := List.eq_nil_of_length_eq_zero HL2.out
                  subst hLV
                  go_wp2_with fail
                  refine cF.mono ?_
                  clear cF
                  rintro e w7 ⟨hb7, hcase⟩
                  have hb07 := hbr1.trans (hb7.mono hbr1.size)
                  rw [show (((0 : Nat) : Int) + 1) = 1 from rfl, find_none] at hcase
                  rcases hcase with ⟨hno, _⟩ | ⟨q, ys, hqq, rfl, hsq, _⟩
                  · cases hno
                  obtain ⟨tb, bq, l1, h1, n1, a1, k1, cc1, rfl⟩ := six_cells hsq
                  rw [show ([.string tb, .string bq, .int .i64 (l1 : Int), .int .i64 (h1 : Int), .int .i64 (n1 : Int), .slice a1 k1 cc1] : List Value).toArray = #[.string tb, .string bq, .int .i64 (l1 : Int), .int .i64 (h1 : Int), .int .i64 (n1 : Int), .slice a1 k1 cc1] from rfl]
                  clear hsq hqq
                  go_wp2_with fail
                  go_ret
                  exact ⟨rfl, hb07.alloc hb07.size _⟩
                · have hne : LV ≠ [] := fun e => hk0 (by rw [← HL2.out, e]; rfl)
                  have hfm := find_more (t := mxT) (b := bb.data.toList) (lo := p2) (hi := MT.size) (n := p4) hne
                  rw [HL2.out] at hfm
                  rw [hfm] at cF
                  clear hfm
                  go_wp2_with fail
                  refine cF.mono ?_
                  clear cF
                  rintro e w7 ⟨hb7, ⟨_, rfl⟩ | ⟨q, ys, hqq, _⟩⟩
                  · have hb07 := hbr1.trans (hb7.mono hbr1.size)
                    rw [show zeroSix.toArray = #[.string ⟨#[]⟩, .string ⟨#[]⟩, .int .i64 0, .int .i64 0, .int .i64 0, .slice none 0 0] from rfl]
                    go_wp2_with fail
                    go_ret
                    exact ⟨rfl, hb07.alloc hb07.size _⟩
                  · cases hqq
      · go_wp2_with fail
        go_ret
        exact ⟨rfl, hb04⟩
end Go.Proofs.YtgbbkdflnlagaaaDoor
