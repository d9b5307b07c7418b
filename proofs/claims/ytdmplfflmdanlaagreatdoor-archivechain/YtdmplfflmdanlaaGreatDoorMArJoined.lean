/-
  archive.joined: letters that were kept, and others, in order.
-/
import Derived.Test.YtdmplfflmdanlaaGreatDoorBpArRead
namespace Go.Proofs.YtdmplfflmdanlaaGreatDoor
open Go.RowKit Go.Proofs.Aid Go.Proofs.Bx

/-- Numbers in a row of the call's own: is one of them there? -/
theorem contains_nown (base : Nat) (v : Value) (zs : List Int) (x : Int) (w : World) (h : NOwn w base v zs) (hl : zs.length ≤ 1000) :
    Calls Tryz.prog 89 #[v, .int .i64 x] w fun e w' => e = .returned (.bool (zs.contains x)) ∧ w' = w := by
  by_cases hz : zs = []
  · subst hz
    obtain ⟨a, c, rfl⟩ := row_form h
    exact Tryz.slices_Contains_int_empty a c x w
  · have hpos : 0 < zs.length := List.length_pos_iff.2 hz
    rcases h.2 with ⟨_, h2⟩ | ⟨g, cap, cur, hv, _, hh, _, _, hsz, htk⟩
    · omega
    · subst hv
      have hC := Tryz.slices_Contains_int g 0 zs.length cap zs x w (Nat.le_refl _) (by omega) (fun j hj => by
        rw [Nat.zero_add]
        refine rd_cell hh ?_
        have h1 : (zs.map fun z => Value.int .i64 z)[j]? = some (.int .i64 (zs.getD j 0)) := by
          rw [List.getElem?_map, List.getElem?_eq_getElem hj, List.getD_eq_getElem?_getD, List.getElem?_eq_getElem hj]
          rfl
        have htk : cur.toList.take (zs.length * 1) = zs.map fun z => Value.int .i64 z := htk
        rw [← htk, List.getElem?_take] at h1
        split at h1
        · rw [Array.getElem?_toList] at h1; exact h1
        · cases h1)
      rw [List.take_of_length_le (Nat.le_refl _)] at hC
      exact hC
/-- Letters behind a row of the call's own. -/
theorem lnew_app {w : World} {base B : Nat} {va : Option Addr} {ca : Nat} {ov : Value} {L os : List Lt} (h : LNew w base (.slice va L.length ca) L) (ho : LNew w B ov os) (hL : L.length ≤ 1000) (hl : os.length ≤ 1000) (hbase : base ≤ w.heap.size) :
    ∃ ga cap W, (Builtin.append_ #[64, 64] 64 #[.slice va L.length ca, ov]).run Tryz.prog w = .ok (.slice ga (L.length + os.length) cap) W ∧
      LNew W base (.slice ga (L.length + os.length) cap) (L ++ os) ∧ Below base w W ∧ Oth 71 w W := by
  obtain ⟨d, rfl, hrow, hfl⟩ := lnew_enc h
  obtain ⟨d2, rfl, hrow2, hfl2⟩ := lnew_enc ho
  obtain ⟨j0, hj, hz, hs, hby⟩ := info_parts Tryz.infoLt
  rcases id hrow2.2 with ⟨rfl, h0⟩ | ⟨g, cap, cur, rfl, hg, hh, hc1, hc2, hc3, hc4⟩
  · obtain rfl : d2 = [] := List.eq_nil_of_length_eq_zero (by simpa using h0)
    refine ⟨va, ca, w, ?_, by simpa using h, Below.refl _ _, Lib.OthersKept.refl _ _ _⟩
    simpa using run_append_owned_none (P := Tryz.prog) (w := w) base 64 64 71 j0 4 Tryz.underlying64 hj _ _ _ hrow
  · rw [List.length_map] at hrow2 hL hl
    obtain ⟨v', W, hrun, hown, hgr, _, hat⟩ := run_append_own_at (P := Tryz.prog) w base 64 64 71 j0 (.agg #[.int .i64 0, .slice none 0 0, .int .i64 0, .string ⟨#[]⟩]) 4 56 Tryz.underlying64 hj hz hs hby rfl (by decide) _ _ _ hrow ⟨g, 0, none⟩ d2.length cap (d2.map encLt).flatten (by rw [flatE_len]) (fun j u hu => by
        have hjl : j < d2.length * 4 := by have := (List.getElem?_eq_some_iff.1 hu).1; rw [flatE_len] at this; exact this
        rw [Addr.add_lit, Nat.zero_add]
        rw [hrow2.cellAt j hjl]
        exact hu) (fun u hu => by
        obtain ⟨xs, hxs, hu⟩ := List.mem_flatten.1 hu
        obtain ⟨x, _, rfl⟩ := List.mem_map.1 hxs
        simp [encLt] at hu
        rcases hu with rfl | rfl | rfl | rfl <;> rfl) (by rw [List.length_map]; unfold maxLen; omega) (by rw [List.length_map]; omega) hbase
    rw [List.length_map] at hown
    have hoth : Oth 71 w W := app_oth hrow fun q hq hne => hgr.block q hq fun e => hne e.symm
    obtain ⟨ga, gc, rfl⟩ := row_form hown
    refine ⟨ga, gc, W, by simpa using hrun, ?_, ⟨hgr.os, hgr.tape, hgr.output, hgr.size, fun q hq => hgr.block q (by omega) fun e => by have := (hrow.lt q e.symm).1; omega⟩, hoth⟩
    have := lnew_of (w := W) (base := base) (v := .slice ga (d.length + d2.length) gc) (d := d ++ d2) (by rw [List.length_append, List.map_append, List.flatten_append]; exact hown) fun x hx W' hW => by
      rcases List.mem_append.1 hx with hx | hx
      · exact hfl x hx W' ((txs_oth hoth (by decide)).trans hW)
      · exact hfl2 x hx W' ((txs_oth hoth (by decide)).trans hW)
    simpa using this
/-- Those of them whose numbers are told. -/
def keepL (ks : List Int) (before : List Lt) : List Lt := before.filter fun b => ks.contains b.uid
theorem keepL_step {ks : List Int} {before : List Lt} {k : Nat} {x : Lt} (h : before[k]? = some x) : keepL ks (before.take (k + 1)) = keepL ks (before.take k) ++ if ks.contains x.uid = true then [x] else [] := by
  unfold keepL
  rw [List.take_add_one, h, List.filter_append]
  congr 1
  show List.filter _ [x] = _
  cases hc : ks.contains x.uid
  · rw [List.filter_cons_of_neg (by rw [hc]; simp)]; rfl
  · rw [List.filter_cons_of_pos (by rw [hc])]; rfl
set_option maxHeartbeats 8000000 in
set_option maxRecDepth 100000 in
theorem joined_is (kv ov bv : Value) (ks : List Int) (os before : List Lt) (B1 B2 : Nat) (w : World) (h1 : NOwn w B1 kv ks) (h2 : LNew w B2 ov os) (h3 : Lts w bv before) (l1 : ks.length ≤ 1000) (l2 : os.length ≤ 400) (l3 : before.length ≤ 400) (hs : ∀ x ∈ before, LtSm x) :
    Calls Tryz.prog 68 #[kv, ov, bv] w fun e w' => (∃ v l', e = .returned v ∧ l'.Perm (keepL ks before ++ os) ∧ (l'.Pairwise fun a b => a.uid ≤ b.uid) ∧ LNew w' w.heap.size v l') ∧ Below w.heap.size w w' := by
  obtain ⟨ka, kc, rfl⟩ := row_form h1
  obtain ⟨oa, oc, rfl⟩ := h2.form
  obtain ⟨ba, bc, rfl, _⟩ := id h3
  obtain ⟨M, hM⟩ : ∃ m, before.length = m := ⟨_, rfl⟩
  obtain ⟨KN, hKN⟩ : ∃ m, ks.length = m := ⟨_, rfl⟩
  obtain ⟨ON, hON⟩ : ∃ m, os.length = m := ⟨_, rfl⟩
  have HX : Hid (NOwn w B1 (.slice ka KN kc) ks ∧ LNew w B2 (.slice oa ON oc) os ∧ Lts w (.slice ba M bc) before ∧ before.length = M ∧ ks.length ≤ 1000 ∧ os.length = ON ∧ ON ≤ 400 ∧ ∀ x ∈ before, LtSm x) := ⟨by rw [← hKN]; exact h1, by rw [← hON]; exact h2, by rw [← hM]; exact h3, hM, l1, hON, by omega, hs⟩
  have hM4 : M ≤ 400 := by omega
  rw [hM, hKN, hON]
  clear h1 h2 h3 l1 l2 l3 hs hM hKN hON
  go_enter Tryz.func68, Tryz.ntmps68
  go_wp2_with fail
  go_loopw [7, 12] (fun rv iv wr => ∃ (k LL : Nat) (ra : Option Addr) (rc : Nat), rv = .slice ra LL rc ∧ iv = .int .i64 (k : Int) ∧ k ≤ M ∧ LL ≤ k ∧ Hid ((keepL ks (before.take k)).length = LL ∧ LNew wr w.heap.size (.slice ra LL rc) (keepL ks (before.take k)) ∧ Below w.heap.size w wr)) (fun _ iv _ => M - (intOf iv).toNat)
  case atStart => exact ⟨0, 0, none, 0, rfl, rfl, Nat.zero_le _, Nat.zero_le _, by simp [keepL], LNew.nil _ _, Below.refl _ _⟩
  case round =>
    obtain ⟨k, LL, ra, rc, rfl, rfl, hk, hLk, HI⟩ := hrel
    by_cases hlt : k < M
    · have d1 : decide ((k : Int) < (M : Int)) = true := decide_eq_true (by omega)
      have i1 : (0 : Int) ≤ (k : Int) := by omega
      have i2 : (k : Int) < (M : Int) := by omega
      obtain ⟨x, hxk⟩ : ∃ x, before[k]? = some x := ⟨_, List.getElem?_eq_getElem (by have := HX.out.2.2.2.1; omega)⟩
      have hxm := List.mem_of_getElem? hxk
      obtain ⟨g, o, hva, q1, ⟨fv, q2, q3⟩, q4, q5⟩ := lts_at2 (HX.out.2.2.1.below HI.out.2.2 (Nat.le_refl _)) hxk
      subst hva
      obtain ⟨fa, fc, rfl, _⟩ := id q3
      obtain ⟨W2, hW2⟩ : ∃ W, wr.alloc (.cells #[.int .i64 x.uid, .slice fa x.flags.length fc, .int .i64 x.day, .string ⟨x.text.toArray⟩] 71) = W := ⟨_, rfl⟩
      have b2 : Below wr.heap.size wr W2 := by rw [← hW2]; exact (Below.refl _ _).alloc (Nat.le_refl _) _
      have e2 : W2.heap[wr.heap.size]? = some (.cells #[.int .i64 x.uid, .slice fa x.flags.length fc, .int .i64 x.day, .string ⟨x.text.toArray⟩] 71 (0, 0)) := by rw [← hW2]; exact heap_alloc_new _ _
      obtain ⟨lb, hlb⟩ : ∃ n, wr.heap.size = n := ⟨_, rfl⟩
      rw [hlb] at e2
      have hB2 : Below w.heap.size w W2 := HI.out.2.2.trans (b2.mono HI.out.2.2.size)
      have cC := contains_nown B1 (.slice ka KN kc) ks x.uid W2 (row_below hB2 (Nat.le_refl _) HX.out.1) HX.out.2.2.2.2.1
      have cL := clone_wown _ x.flags W2 (q3.below b2 (Nat.le_refl _)) (HX.out.2.2.2.2.2.2.2 x hxm)
      have hL2 := HI.out.2.1.below b2
      have hst := keepL_step (ks := ks) hxk
      have HK : Hid (Below wr.heap.size wr W2 ∧ Below w.heap.size w W2 ∧ LNew W2 w.heap.size (.slice ra LL rc) (keepL ks (before.take k)) ∧ keepL ks (before.take (k + 1)) = keepL ks (before.take k) ++ (if ks.contains x.uid = true then [x] else []) ∧ wr.heap.size = lb ∧ W2.heap[lb]? = some (.cells #[.int .i64 x.uid, .slice fa x.flags.length fc, .int .i64 x.day, .string ⟨x.text.toArray⟩] 71 (0, 0))) := ⟨b2, hB2, hL2, hst, hlb, e2⟩
      obtain ⟨XU, XF, XD, XT⟩ := x
      simp only at q1 q2 q4 q5 hW2 cC cL e2
      obtain ⟨FN, hFN⟩ : ∃ n, XF.length = n := ⟨_, rfl⟩
      obtain ⟨tx, htx⟩ : ∃ t : ByteArray, ⟨XT.toArray⟩ = t := ⟨_, rfl⟩
      have HFN : Hid (XF.length = FN ∧ (⟨XT.toArray⟩ : ByteArray) = tx) := ⟨hFN, htx⟩
      simp only [hFN] at q2 hW2 cL e2
      simp only [htx] at q5 hW2 e2
      have c0 : W2.cell? ⟨lb, 0, none⟩ = some (.int .i64 XU) := rd_cell e2 rfl
      have c1 : W2.cell? ⟨lb, 1, none⟩ = some (.slice fa FN fc) := rd_cell e2 rfl
      have HS : Hid (k < M ∧ LL ≤ k) := ⟨hlt, hLk⟩
      clear hxk hxm q3 b2 e2 hB2 hL2 hst hFN htx
      cases hcc : ks.contains XU with
      | false =>
        rw [hcc] at cC
        clear cL
        go_wp2_with fail
        refine cC.mono ?_
        rintro e w3 ⟨rfl, hw⟩
        obtain rfl : W2 = w3 := hw.symm
        have HN : Hid ((keepL ks (before.take (k + 1))).length = LL ∧ LNew W2 w.heap.size (.slice ra LL rc) (keepL ks (before.take (k + 1))) ∧ Below w.heap.size w W2) := by
          rw [HK.out.2.2.2.1]
          simp only [hcc, Bool.false_eq_true, if_false, List.append_nil]
          exact ⟨HI.out.1, HK.out.2.2.1, HK.out.2.1⟩
        clear cC hw HI HK hcc
        go_wp2_with fail
        go_roundw
        case rel => exact ⟨k + 1, _, _, _, rfl, by go_num, by omega, by omega, HN⟩
        case measure => simp [intOf]; omega
      | true =>
        rw [hcc] at cC
        go_wp2_with fail
        refine cC.mono ?_
        rintro e w3 ⟨rfl, hw⟩
        obtain rfl : W2 = w3 := hw.symm
        clear cC hw
        go_wp2_with fail
        refine cL.mono ?_
        rintro e w4 ⟨⟨v4, rfl, hw4⟩, hb4⟩
        have hn4 : NRow w4 W2.heap.size v4 XF := hw4.2
        obtain ⟨va, vc, rfl⟩ := row_form hn4
        rw [HFN.out.1]
        have e4 := (hb4.block lb (Array.getElem?_eq_some_iff.1 HK.out.2.2.2.2.2).1).trans HK.out.2.2.2.2.2
        simp only [HFN.out.1, HFN.out.2] at e4
        obtain ⟨⟨k0, k1, k2, k3⟩, ⟨f0, f1, f2, f3⟩, _⟩ := four_facts e4 (.int .i64 XU) (.slice va FN vc) (.int .i64 XD) (.string tx)
        have e5 := rd_set (i := 1) (.slice va FN vc) e4
        have e5 : (w4.setCell ⟨lb, 1, none⟩ (.slice va FN vc)).heap[lb]? = some (.cells #[.int .i64 XU, .slice va FN vc, .int .i64 XD, .string tx] 71 (0, 0)) := e5
        have hbut : But w4.heap.size lb w4 (w4.setCell ⟨lb, 1, none⟩ (.slice va FN vc)) := (to_but (Below.refl _ _)).setB 1 _
        obtain ⟨W5, hW5⟩ : ∃ W, w4.setCell ⟨lb, 1, none⟩ (.slice va FN vc) = W := ⟨_, rfl⟩
        rw [hW5] at e5 hbut
        have m0 : W5.cell? ⟨lb, 0, none⟩ = some (.int .i64 XU) := rd_cell e5 rfl
        have m1 : W5.cell? ⟨lb, 1, none⟩ = some (.slice va FN vc) := rd_cell e5 rfl
        have m2 : W5.cell? ⟨lb, 2, none⟩ = some (.int .i64 XD) := rd_cell e5 rfl
        have m3 : W5.cell? ⟨lb, 3, none⟩ = some (.string tx) := rd_cell e5 rfl
        have hlb2 : w.heap.size ≤ lb := by rw [← HK.out.2.2.2.2.1]; exact HI.out.2.2.size
        have hB4 : Below w.heap.size w w4 := HK.out.2.1.trans (hb4.mono HK.out.2.1.size)
        have hB5 : Below w.heap.size w W5 := hB4.trans (hbut.below hB4.size hlb2)
        have hn5 : NRow W5 W2.heap.size (.slice va XF.length vc) XF := by
          refine own_same hn4 fun q hq => hbut.block q (hn4.lt q hq).2 fun e => ?_
          obtain ⟨cs, fz, hh⟩ := own_kind hn4 hq
          rw [e, e4] at hh
          injection hh with hh
          injection hh with _ q2 _
          exact absurd q2 (by decide)
        have hL4 : LNew w4 w.heap.size (.slice ra LL rc) (keepL ks (before.take k)) := HK.out.2.2.1.below hb4
        have hL5 : LNew W5 w.heap.size (.slice ra LL rc) (keepL ks (before.take k)) := by
          have htx : TxStay w4 W5 := fun q cs fz hq => by
            refine (hbut.block q (Array.getElem?_eq_some_iff.1 hq).1 fun e => ?_).trans hq
            rw [e, e4] at hq
            injection hq with hq
            injection hq with _ q2 _
            exact absurd q2 (by decide)
          refine LOwQ.sub (LOwQ.same hL4 fun q hq => hbut.block q (hL4.lt hq).2 fun e => ?_) fun W hW => htx.trans hW
          have h9 := (HI.out.2.1.lt hq).2
          have := HK.out.2.2.2.2.1
          omega
        obtain ⟨g9, cap9, W9, hap, hnew, hb9, ho9⟩ := lnew_push (by rw [HI.out.1]; exact hL5) (by rw [HI.out.1]; have := HS.out; omega) ⟨XU, XF, XD, XT⟩ va vc _ hn5 hB5.size
        rw [HI.out.1] at hap hnew
        simp only [HFN.out.1, HFN.out.2] at hap
        have HAP : Hid ((Builtin.append_ #[64, 64] 64 #[.slice ra LL rc, .slice (some ⟨W5.heap.size, 0, none⟩) 1 1]).run Tryz.prog (W5.alloc (.cells #[.int .i64 XU, .slice va FN vc, .int .i64 XD, .string tx] 71)) = .ok (.slice (some ⟨g9, 0, none⟩) (LL + 1) cap9) W9) := hap
        have HN : Hid ((keepL ks (before.take (k + 1))).length = LL + 1 ∧ LNew W9 w.heap.size (.slice (some ⟨g9, 0, none⟩) (LL + 1) cap9) (keepL ks (before.take (k + 1))) ∧ Below w.heap.size w W9) := by
          rw [HK.out.2.2.2.1]
          simp only [hcc, if_true]
          exact ⟨by rw [List.length_append, HI.out.1]; rfl, hnew, hB5.trans hb9⟩
        clear hap hnew hb9 ho9 hL4 hL5 hn4 hn5 hw4 hb4 e4 e5 hbut hB4 hB5 hlb2 HI HK hcc cL c0 c1
        go_wp2_with (at_builtin; go_must (refine Go.Lib.wpList_append_run _ rfl (.tmp 24) (.tmp 26) 64 64 rfl _ _ rfl rfl _ W9 HAP.out ?_))
        go_roundw
        case rel => exact ⟨k + 1, _, _, _, rfl, by go_num, by have := HS.out; omega, by have := HS.out; omega, HN⟩
        case measure => have := HS.out; simp [intOf]; omega
    · have d1 : decide ((k : Int) < (M : Int)) = false := decide_eq_false (by omega)
      obtain rfl : k = M := by omega
      have hkl := HI.out.1
      have hall := HI.out.2.1
      rw [List.take_of_length_le (by have := HX.out.2.2.2.1; omega)] at hkl hall
      rw [← hkl] at hall
      have hkle : (keepL ks before).length ≤ 400 := by omega
      obtain ⟨ga, gc, W6, hap, hnew, hb6, ho6⟩ := lnew_app hall (HX.out.2.1.below HI.out.2.2) (by omega) (by have := HX.out.2.2.2.2.2; omega) HI.out.2.2.size
      rw [HX.out.2.2.2.2.2.1] at hap hnew
      rw [hkl] at hap hnew
      have hB6 : Below w.heap.size w W6 := HI.out.2.2.trans hb6
      have hlen : (keepL ks before ++ os).length = LL + ON := by rw [List.length_append, hkl, HX.out.2.2.2.2.2.1]
      have cS := lsort_is w.heap.size _ _ W6 hnew (by have := HX.out.2.2.2.2.2.2.1; omega) hB6.size
      have HAP : Hid ((Builtin.append_ #[64, 64] 64 #[.slice ra LL rc, .slice oa ON oc]).run Tryz.prog wr = .ok (.slice ga (LL + ON) gc) W6) := hap
      have HB6 : Hid (Below w.heap.size w W6) := hB6
      clear hkl hall hkle hap hnew hb6 ho6 hB6 hlen HI
      go_wp2_with (at_builtin; go_must (refine Go.Lib.wpList_append_run _ rfl (.tmp 29) (.tmp 30) 64 64 rfl _ _ rfl rfl _ W6 HAP.out ?_))
      refine cS.mono ?_
      rintro e w7 ⟨rfl, ⟨l', hp, hso, hl7⟩, hb7, _⟩
      have HF : Hid (l'.Perm (keepL ks before ++ os) ∧ (l'.Pairwise fun a b => a.uid ≤ b.uid) ∧ LNew w7 w.heap.size (.slice ga (LL + ON) gc) l' ∧ Below w.heap.size w w7) := ⟨hp, hso, hl7, HB6.out.trans hb7⟩
      clear cS hp hso hl7 hb7
      go_wp2_with fail
      go_ret
      exact ⟨⟨_, l', rfl, HF.out.1, HF.out.2.1, HF.out.2.2.1⟩, HF.out.2.2.2⟩
end Go.Proofs.YtdmplfflmdanlaaGreatDoor
