/-
  The document's box: flags of a message are changed.
-/
import Derived.Test.YtgpcnacpefficaaGreatDoorMRbApp
import Derived.Test.YtgpcnacpefficaaGreatDoorBpAs
import Derived.Test.YtgpcnacpefficaaGreatDoorMBoxInv
namespace Go.Proofs.YtgpcnacpefficaaGreatDoor
open Go.RowKit Go.Proofs.Aid Go.Proofs.Bx

theorem rown_fresh {w : World} {base H : Nat} (hH : w.heap.size = H) (hb : base ≤ H) : (w.alloc (.cells #[] 9)).ownsRow base 9 1 (.slice (some ⟨H, 0, none⟩) 0 0) 0 [] := by
  subst hH
  exact World.ownsRow_lit w #[] 0 hb (by decide) rfl
/-- What the document's Flag leaves. -/
def RFlagNew (w : World) (wb : Nat) (vv n u what : Int) (l : List Lt) (F : List Fl.Tx × Int) (e : Ending) (w' : World) : Prop :=
  (∃ E : Int, E ≠ 0 ∧ (findB l u = false → E = 7) ∧ (findB l u = true → F.2 ≠ 0 → E = F.2) ∧ (∀ x, findB l u = true → F.2 = 0 → l[findI l u]? = some x → E = (chgF x.flags what F.1).2) ∧ e = .returned (.int .i64 E) ∧ Below w.heap.size w w') ∨
  (findB l u = true ∧ F.2 = 0 ∧ e = .returned (.int .i64 0) ∧ ∃ x, l[findI l u]? = some x ∧ (chgF x.flags what F.1).2 = 0 ∧ RBoxNew w.heap.size w' wb vv n (l.set (findI l u) (Lt.withF x (chgF x.flags what F.1).1)) ∧ But w.heap.size wb w w')
/-- All messages copied, one's flags put anew, and the box has them. -/
theorem rflag_fin {w3 : World} {wb FI : Nat} {vv n : Int} {lv nv : Value} {l : List Lt} {x : Lt} {G : List Fl.Tx} (hbox : RBox w3 wb vv n lv l) (hf : ∃ a m c, lv = .slice a m c) (hl : l.length ≤ 900) (hx : l[FI]? = some x) (hs : Sl w3 nv G) :
    ∃ (WE : World) (g9 cap9 : Nat) (W1 : World), w3.alloc (.cells #[] 51) = WE ∧ (Builtin.append_ #[22, 22] 22 #[.slice (some ⟨w3.heap.size, 0, none⟩) 0 0, lv]).run Tryz.prog WE = .ok (.slice (some ⟨g9, 0, none⟩) l.length cap9) W1 ∧
      w3.cell? ⟨wb, 2, none⟩ = some lv ∧ WE.cell? ⟨wb, 2, none⟩ = some lv ∧ (∃ a n c, W1.cell? ⟨g9, FI * 4 + 1, none⟩ = some (.slice a n c)) ∧ W1.frozen? ⟨g9, FI * 4 + 1, none⟩ = false ∧ (W1.setCell ⟨g9, FI * 4 + 1, none⟩ nv).cell? ⟨wb, 2, none⟩ = some lv ∧ (W1.setCell ⟨g9, FI * 4 + 1, none⟩ nv).frozen? ⟨wb, 2, none⟩ = false ∧
      Hid (RBoxNew w3.heap.size ((W1.setCell ⟨g9, FI * 4 + 1, none⟩ nv).setCell ⟨wb, 2, none⟩ (.slice (some ⟨g9, 0, none⟩) l.length cap9)) wb vv n (l.set FI (Lt.withF x G)) ∧ But w3.heap.size wb w3 ((W1.setCell ⟨g9, FI * 4 + 1, none⟩ nv).setCell ⟨wb, 2, none⟩ (.slice (some ⟨g9, 0, none⟩) l.length cap9))) := by
  have bE : Below w3.heap.size w3 (w3.alloc (.cells #[] 51)) := (Below.refl _ _).alloc (Nat.le_refl _) _
  have eE := heap_alloc_new w3 (.cells #[] 51)
  obtain ⟨v1, W1, hrun, hO, hb1⟩ := spread (w := w3.alloc (.cells #[] 51)) hbox.2 (by omega) bE eE (Nat.le_refl _)
  obtain ⟨g9, cap9, fv9, rfl, hg9, hgl9, _⟩ := lown_at hO hx
  obtain ⟨hO2, hold, hfz⟩ := lown_set hO rfl hx hs
  have hwl := hbox.lt
  have hb01 : Below w3.heap.size w3 W1 := bE.trans (hb1.mono bE.size)
  have hot : ∀ q, q ≠ g9 → (W1.setCell ⟨g9, FI * 4 + 1, none⟩ nv).heap[q]? = W1.heap[q]? := fun q hq => Below.heap_setCell _ _ _ _ hq
  have zE := (bE.block wb hwl).trans hbox.1
  have z1 := (hb01.block wb hwl).trans hbox.1
  have z2 := (hot wb (by omega)).trans z1
  have z3 := rd_set (i := 2) (.slice (some ⟨g9, 0, none⟩) l.length cap9) z2
  have hb02 : Below w3.heap.size w3 (W1.setCell ⟨g9, FI * 4 + 1, none⟩ nv) := hb01.trans ((Below.refl _ _).setCell (p := ⟨g9, FI * 4 + 1, none⟩) hg9 nv)
  have hbut : But w3.heap.size wb w3 ((W1.setCell ⟨g9, FI * 4 + 1, none⟩ nv).setCell ⟨wb, 2, none⟩ (.slice (some ⟨g9, 0, none⟩) l.length cap9)) := (to_but hb02).setB 2 _
  have hns : NoStr w3 wb := noStr_box hbox.1 hf
  refine ⟨_, g9, cap9, W1, rfl, hrun, rd_cell hbox.1 rfl, rd_cell zE rfl, hold, hfz, rd_cell z2 rfl, rd_free z2 2, ⟨_, ⟨z3, ?_⟩, fun q hq => (hO2.blk hq).1⟩, hbut⟩
  obtain ⟨rows, r1, r2, r3, r4⟩ := hO2
  refine lts_own (base := w3.heap.size) (rows := rows) (own_same r1 fun q hq => Below.heap_setCell _ _ _ _ (by have := (r1.lt q hq).1; show q ≠ wb; omega)) r2 (fun j y xs h1 h2 => ?_) r4
  obtain ⟨fv, e1, e2⟩ := r3 j y xs h1 h2
  exact ⟨fv, e1, e2.but hns hbut (Nat.le_refl _)⟩
set_option maxHeartbeats 8000000 in
set_option maxRecDepth 100000 in
theorem rflag_is (wb : Nat) (vv n u what : Int) (lv : Value) (l : List Lt) (fv : Value) (F : List Fl.Tx × Int) (w : World) (h : RBox w wb vv n lv l) (hr : Rise l) (hl : l.length ≤ 900) (hfl : ∀ x ∈ l, SetOk x.flags) (hF : F.2 = 0 → SetOk F.1)
    (cS : ∀ W, Below w.heap.size w W → Calls Tryz.prog 17 #[fv] W fun e w' => RSetOut W F e w') :
    Calls Tryz.prog 26 #[.pointer (some ⟨wb, 0, none⟩), .int .i64 u, .int .i64 what, fv] w fun e w' => RFlagNew w wb vv n u what l F e w' := by
  have cF := rfind_is vv n u lv l w h.2 hr (by omega)
  obtain ⟨a, c, rfl, hcap, hrest⟩ := id h.2
  have HL : Hid (l = [] ∨ ∃ b o, a = some ⟨b, o, none⟩ ∧ ∀ (j : Nat) x, l[j]? = some x → LtAt w b (o + j * 4) x) := hrest
  have HRI : Hid (Rise l) := hr
  obtain ⟨m, hm⟩ : ∃ m, l.length = m := ⟨_, rfl⟩
  have HM : Hid (l.length = m) := hm
  rw [hm] at h cF
  have HBX : Hid (RBox w wb vv n (.slice a m c) l) := h
  have hbl := h.lt
  have p0 : w.cell? ⟨wb, 0, none⟩ = some (.int .i64 vv) := rd_cell h.1 rfl
  have p1 : w.cell? ⟨wb, 1, none⟩ = some (.int .i64 n) := rd_cell h.1 rfl
  have p2 : w.cell? ⟨wb, 2, none⟩ = some (.slice a m c) := rd_cell h.1 rfl
  obtain ⟨FE, hFE⟩ : ∃ z, F.2 = z := ⟨_, rfl⟩
  obtain ⟨FX, hFX⟩ : ∃ z, F.1 = z := ⟨_, rfl⟩
  have HSO : Hid (∀ W e w', RSetOut W F e w' → (∃ v', e = .returned (.tuple #[v', .int .i64 FE]) ∧ Sl w' v' FX) ∧ Below W.heap.size W w') := fun W e w' h => by rw [← hFE, ← hFX]; exact h
  have HFE : Hid (F.2 = FE ∧ F.1 = FX) := ⟨hFE, hFX⟩
  have HFO : Hid (F.2 = 0 → SetOk F.1) := hF
  have HFL : Hid (∀ x ∈ l, SetOk x.flags) := hfl
  have HCS : Hid (∀ W, Below w.heap.size w W → Calls Tryz.prog 17 #[fv] W fun e w' => RSetOut W F e w') := cS
  clear hFE hFX h hr hcap hrest hm hF hfl cS
  cases hFB : findB l u with
  | false =>
    have hrf : rfind l u = -1 := by unfold rfind; rw [if_neg (by rw [hFB]; simp)]
    rw [hrf] at cF
    have HFB : Hid (findB l u = false) := hFB
    clear hrf hFB
    go_enter Tryz.func26, Tryz.ntmps26
    go_wp2_with fail
    refine cF.mono ?_
    rintro e w1 ⟨rfl, hb1⟩
    have HB1 : Hid (Below w.heap.size w w1) := hb1
    clear cF hb1
    go_wp2_with fail
    go_ret
    exact Or.inl ⟨7, by decide, fun _ => rfl, fun h => (by rw [HFB.out] at h; cases h), fun _ h => (by rw [HFB.out] at h; cases h), rfl, HB1.out⟩
  | true =>
    have HFB : Hid (findB l u = true) := hFB
    obtain ⟨x, hx, hxu⟩ := find_true HRI.out hFB
    have hrf : rfind l u = (findI l u : Int) := by unfold rfind; rw [if_pos hFB]
    rw [hrf] at cF
    obtain ⟨FI, hFI⟩ : ∃ z, findI l u = z := ⟨_, rfl⟩
    rw [hFI] at cF hx
    have HFI : Hid (findI l u = FI) := hFI
    have HX : Hid (l[FI]? = some x) := hx
    have hFm : FI < m := by have := (List.getElem?_eq_some_iff.1 hx).1; have := HM.out; omega
    have hfn : decide ((FI : Int) < 0) = false := decide_eq_false (by omega)
    clear hrf hFB hFI hxu
    go_enter Tryz.func26, Tryz.ntmps26
    go_wp2_with fail
    refine cF.mono ?_
    rintro e w1 ⟨rfl, hb1⟩
    have HB1 : Hid (Below w.heap.size w w1) := hb1
    have cS1 := HCS.out w1 hb1
    clear cF hb1 p0 p1 p2
    go_wp2_with fail
    refine cS1.mono ?_
    intro e w2 hout
    obtain ⟨⟨sv, rfl, hsv⟩, hb2⟩ := HSO.out w1 e w2 hout
    obtain ⟨sa, sc, hsvf, hsr⟩ := id hsv
    clear cS1 hout HSO hsr HCS
    obtain ⟨sn, hsn⟩ : ∃ z, FX.length = z := ⟨_, rfl⟩
    rw [hsn] at hsvf
    subst hsvf
    have HB2 : Hid (Below w.heap.size w w2) := HB1.out.trans (hb2.mono HB1.out.size)
    clear hb2
    by_cases hFE : FE = 0
    rotate_left
    · have hFb : (FE == 0) = false := by simpa using hFE
      clear hsv
      go_wp2_with fail
      go_ret
      exact Or.inl ⟨FE, hFE, fun h => (by rw [HFB.out] at h; cases h), fun _ _ => HFE.out.1.symm, fun _ _ h => absurd (HFE.out.1.symm.trans h) hFE, rfl, HB2.out⟩
    subst hFE
    have HF0 : Hid (F.2 = 0) := HFE.out.1
    have hFok : SetOk FX := by rw [← HFE.out.2]; exact HFO.out HFE.out.1
    have hXok : SetOk x.flags := HFL.out x (List.mem_of_getElem? HX.out)
    obtain ⟨b, o, rfl, hat⟩ : ∃ b o, a = some ⟨b, o, none⟩ ∧ ∀ (j : Nat) x, l[j]? = some x → LtAt w b (o + j * 4) x := by
      rcases HL.out with h | h
      · rw [h] at hx; simp at hx
      · exact h
    obtain ⟨_, ⟨hv, q1, hsh⟩, _, _⟩ := (hat FI x hx).below HB2.out (Nat.le_refl _)
    obtain ⟨ha, hc, hhv, hhr⟩ := id hsh
    clear hhr
    obtain ⟨HLN, hHLN⟩ : ∃ z, x.flags.length = z := ⟨_, rfl⟩
    rw [hHLN] at hhv
    subst hhv
    have p2 : w2.cell? ⟨wb, 2, none⟩ = some (.slice (some ⟨b, o, none⟩) m c) := rd_cell (HBX.out.below HB2.out (Nat.le_refl _)).1 rfl
    have i1 : (0 : Int) ≤ (FI : Int) := by omega
    have i2 : (FI : Int) < (m : Int) := by omega
    have HSV : Hid (Sl w2 (.slice sa sn sc) FX) := hsv
    have HSH : Hid (Sl w2 (.slice ha HLN hc) x.flags) := hsh
    have HOK : Hid (SetOk FX ∧ SetOk x.flags) := ⟨hFok, hXok⟩
    have HLN2 : Hid (FX.length = sn ∧ x.flags.length = HLN) := ⟨hsn, hHLN⟩
    have hs12 : sn ≤ 12 := by rw [← hsn]; exact hFok.2.2
    have hh12 : HLN ≤ 12 := by rw [← hHLN]; exact hXok.2.2
    clear hsv hsh hFok hXok hsn hHLN hat hx
    by_cases w0 : what = 0
    · subst w0
      have HCH : Hid (chgF x.flags 0 F.1 = limF FX) := by
        unfold Hid chgF
        rw [if_pos rfl, HFE.out.2]
      have hb03 := HB2.out
      have hg3 := HSV.out
      obtain ⟨w3, hw3⟩ : ∃ W, W = w2 := ⟨_, rfl⟩
      subst hw3
      have hGL : FX.length = sn := HLN2.out.1
      have HG : Hid (FX.length = sn) := hGL
      by_cases h12 : 12 < sn
      · exact absurd h12 (by omega)
      · have d12 : decide ((12 : Int) < (sn : Int)) = false := decide_eq_false (by omega)
        have d13 : decide (12 < sn) = false := decide_eq_false h12
        obtain ⟨WE, g9, cap9, W1, hWE, hrun, p2w, k2E, ⟨oa, on, oc, hold⟩, hfz, k2F, kfF, HFIN⟩ := rflag_fin (HBX.out.below hb03 (Nat.le_refl _)) ⟨_, _, _, rfl⟩ hl HX.out hg3
        rw [HM.out] at hrun HFIN
        have HRUN : Hid _ := hrun
        have HOUT : Hid (RFlagNew w wb vv n u 0 l F (.returned (.int .i64 0)) ((W1.setCell ⟨g9, FI * 4 + 1, none⟩ (.slice sa sn sc)).setCell ⟨wb, 2, none⟩ (.slice (some ⟨g9, 0, none⟩) m cap9))) := by
          obtain ⟨⟨lv', q1, q2⟩, q3⟩ := HFIN.out
          have hlim : limF FX = (FX, 0) := by unfold limF; rw [if_neg (by rw [HG.out]; exact h12)]
          refine Or.inr ⟨HFB.out, HF0.out, rfl, x, by rw [HFI.out]; exact HX.out, by rw [HCH.out, hlim], ⟨lv', ?_, fun q hq => Nat.le_trans hb03.size (q2 q hq)⟩, (to_but hb03).trans (q3.less hb03.size)⟩
          rw [HFI.out, HCH.out, hlim]
          exact q1
        clear hg3 hb03 hGL hrun HFIN
        go_wp2_with (at_builtin; go_must (refine Go.Lib.wpList_append_run _ rfl (.tmp 56) (.tmp 60) 22 22 rfl _ _ rfl rfl _ W1 HRUN.out ?_))
        go_ret
        exact HOUT.out
    have e0 : (what == 0) = false := by simpa using w0
    by_cases w1e : what = 1
    · subst w1e
      have HCH : Hid (chgF x.flags 1 F.1 = limF (Fl.order (x.flags ++ FX))) := by
        unfold Hid chgF
        rw [if_neg (by decide), if_pos rfl, HFE.out.2]
      have hf : (w2.alloc (.cells #[] 9)).ownsRow w2.heap.size 9 1 (.slice (some ⟨w2.heap.size, 0, none⟩) 0 0) 0 [] := rown_fresh rfl (Nat.le_refl _)
      have hbf : Below w2.heap.size w2 (w2.alloc (.cells #[] 9)) := (Below.refl _ _).alloc (Nat.le_refl _) _
      have hxf := HSH.out.below hbf (Nat.le_refl _)
      have hfs := hbf.size
      have hlx : x.flags.length ≤ 12 := by rw [HLN2.out.2]; exact hh12
      have hly : FX.length ≤ 12 := by rw [HLN2.out.1]; exact hs12
      have K9 : Hid (∀ W, Below w2.heap.size w2 W → Sl W (.slice sa sn sc) FX) := fun W hW => HSV.out.below hW (Nat.le_refl _)
      go_wp2_with (first
        | (at_builtin; refine wpList_append_sl rfl (.tmp 42) (.tmp 43) rfl w2.heap.size _ 0 [] (by rfl) hf _ x.flags (by rfl) hxf (by omega) hfs ?_; intro v10 w10 hown10 hg10; have hb10 : Below w2.heap.size w2 w10 := hbf.grown hg10 hfs (fun k e => (hf.lt k e).1); have hy10 := K9.out _ hb10; have hs10 := hb10.size)
        | (at_builtin; refine wpList_append_sl rfl (.tmp 44) (.tmp 45) rfl w2.heap.size _ _ _ (by rfl) hown10 _ FX (by rfl) hy10 (by omega) hs10 ?_; intro v11 w11 hown11 hg11; have hb11 : Below w2.heap.size w2 w11 := hb10.grown hg11 hs10 (fun k e => (hown10.lt k e).1))
        | fail)
      have hrx : Row w11 w2.heap.size v11 (x.flags ++ FX) := by
        unfold Row
        rw [List.length_append, List.map_append]
        rw [Nat.zero_add, List.nil_append] at hown11
        exact hown11
      have cO := ref_ordered v11 (x.flags ++ FX) w11 (Sl.of_row hrx) (by simp; omega) (fun t ht => by
        rcases List.mem_append.1 ht with h | h
        · have := own_len (HOK.out.2.1 t h); omega
        · have := own_len (HOK.out.1.1 t h); omega)
      clear hown10 hown11 hf hg10 hg11 hbf hb10 hxf hy10 hfs hs10 hrx
      go_wp2_with fail
      refine cO.mono ?_
      clear cO
      rintro e w3 ⟨⟨v12, rfl, hg3⟩, hb12⟩
      have hb03 : Below w.heap.size w w3 := HB2.out.trans ((hb11.trans (hb12.mono hb11.size)).mono HB2.out.size)
      obtain ⟨G, hGe⟩ : ∃ G, Fl.order (x.flags ++ FX) = G := ⟨_, rfl⟩
      rw [hGe] at hg3 HCH
      clear hb11 hb12 p2 q1 hGe
      obtain ⟨GL, hGL⟩ : ∃ z, G.length = z := ⟨_, rfl⟩
      obtain ⟨ga, gc, hgv, hgr⟩ := id hg3
      clear hgr
      rw [hGL] at hgv
      subst hgv
      have HG : Hid (G.length = GL) := hGL
      by_cases h12 : 12 < GL
      · have d12 : decide ((12 : Int) < (GL : Int)) = true := decide_eq_true (by omega)
        have d13 : decide (12 < GL) = true := decide_eq_true h12
        have HOUT : Hid (RFlagNew w wb vv n u 1 l F (.returned (.int .i64 4)) w3) := by
          refine Or.inl ⟨4, by decide, fun h => (by rw [HFB.out] at h; cases h), fun _ h => absurd HF0.out h, fun y _ _ hy => ?_, rfl, hb03⟩
          rw [HFI.out, HX.out] at hy
          rw [← Option.some.inj hy, HCH.out]
          unfold limF
          rw [if_pos (by rw [HG.out]; exact h12)]
        clear hg3 hb03 hGL
        go_wp2_with fail
        go_ret
        exact HOUT.out
      · have d12 : decide ((12 : Int) < (GL : Int)) = false := decide_eq_false (by omega)
        have d13 : decide (12 < GL) = false := decide_eq_false h12
        obtain ⟨WE, g9, cap9, W1, hWE, hrun, p2w, k2E, ⟨oa, on, oc, hold⟩, hfz, k2F, kfF, HFIN⟩ := rflag_fin (HBX.out.below hb03 (Nat.le_refl _)) ⟨_, _, _, rfl⟩ hl HX.out hg3
        rw [HM.out] at hrun HFIN
        have HRUN : Hid _ := hrun
        have HOUT : Hid (RFlagNew w wb vv n u 1 l F (.returned (.int .i64 0)) ((W1.setCell ⟨g9, FI * 4 + 1, none⟩ (.slice ga GL gc)).setCell ⟨wb, 2, none⟩ (.slice (some ⟨g9, 0, none⟩) m cap9))) := by
          obtain ⟨⟨lv', q1, q2⟩, q3⟩ := HFIN.out
          have hlim : limF G = (G, 0) := by unfold limF; rw [if_neg (by rw [HG.out]; exact h12)]
          refine Or.inr ⟨HFB.out, HF0.out, rfl, x, by rw [HFI.out]; exact HX.out, by rw [HCH.out, hlim], ⟨lv', ?_, fun q hq => Nat.le_trans hb03.size (q2 q hq)⟩, (to_but hb03).trans (q3.less hb03.size)⟩
          rw [HFI.out, HCH.out, hlim]
          exact q1
        clear hg3 hb03 hGL hrun HFIN
        go_wp2_with (at_builtin; go_must (refine Go.Lib.wpList_append_run _ rfl (.tmp 56) (.tmp 60) 22 22 rfl _ _ rfl rfl _ W1 HRUN.out ?_))
        go_ret
        exact HOUT.out
    have e1 : (what == 1) = false := by simpa using w1e
    by_cases w2e : what = 2
    · subst w2e
      have HCH : Hid (chgF x.flags 2 F.1 = limF (Fl.without x.flags FX)) := by
        unfold Hid chgF
        rw [if_neg (by decide), if_neg (by decide), if_pos rfl, HFE.out.2, not_is HOK.out.2.2.1]
      have cW := ref_without (.slice ha HLN hc) (.slice sa sn sc) x.flags FX w2 HSH.out HSV.out (by rw [HLN2.out.2]; omega) (by rw [HLN2.out.1]; omega)
      go_wp2_with fail
      refine cW.mono ?_
      clear cW
      rintro e w3 ⟨⟨v12, rfl, hg3⟩, hb12⟩
      have hb03 : Below w.heap.size w w3 := HB2.out.trans (hb12.mono HB2.out.size)
      obtain ⟨G, hGe⟩ : ∃ G, Fl.without x.flags FX = G := ⟨_, rfl⟩
      rw [hGe] at hg3 HCH
      clear hb12 p2 q1 hGe
      obtain ⟨GL, hGL⟩ : ∃ z, G.length = z := ⟨_, rfl⟩
      obtain ⟨ga, gc, hgv, hgr⟩ := id hg3
      clear hgr
      rw [hGL] at hgv
      subst hgv
      have HG : Hid (G.length = GL) := hGL
      by_cases h12 : 12 < GL
      · have d12 : decide ((12 : Int) < (GL : Int)) = true := decide_eq_true (by omega)
        have d13 : decide (12 < GL) = true := decide_eq_true h12
        have HOUT : Hid (RFlagNew w wb vv n u 2 l F (.returned (.int .i64 4)) w3) := by
          refine Or.inl ⟨4, by decide, fun h => (by rw [HFB.out] at h; cases h), fun _ h => absurd HF0.out h, fun y _ _ hy => ?_, rfl, hb03⟩
          rw [HFI.out, HX.out] at hy
          rw [← Option.some.inj hy, HCH.out]
          unfold limF
          rw [if_pos (by rw [HG.out]; exact h12)]
        clear hg3 hb03 hGL
        go_wp2_with fail
        go_ret
        exact HOUT.out
      · have d12 : decide ((12 : Int) < (GL : Int)) = false := decide_eq_false (by omega)
        have d13 : decide (12 < GL) = false := decide_eq_false h12
        obtain ⟨WE, g9, cap9, W1, hWE, hrun, p2w, k2E, ⟨oa, on, oc, hold⟩, hfz, k2F, kfF, HFIN⟩ := rflag_fin (HBX.out.below hb03 (Nat.le_refl _)) ⟨_, _, _, rfl⟩ hl HX.out hg3
        rw [HM.out] at hrun HFIN
        have HRUN : Hid _ := hrun
        have HOUT : Hid (RFlagNew w wb vv n u 2 l F (.returned (.int .i64 0)) ((W1.setCell ⟨g9, FI * 4 + 1, none⟩ (.slice ga GL gc)).setCell ⟨wb, 2, none⟩ (.slice (some ⟨g9, 0, none⟩) m cap9))) := by
          obtain ⟨⟨lv', q1, q2⟩, q3⟩ := HFIN.out
          have hlim : limF G = (G, 0) := by unfold limF; rw [if_neg (by rw [HG.out]; exact h12)]
          refine Or.inr ⟨HFB.out, HF0.out, rfl, x, by rw [HFI.out]; exact HX.out, by rw [HCH.out, hlim], ⟨lv', ?_, fun q hq => Nat.le_trans hb03.size (q2 q hq)⟩, (to_but hb03).trans (q3.less hb03.size)⟩
          rw [HFI.out, HCH.out, hlim]
          exact q1
        clear hg3 hb03 hGL hrun HFIN
        go_wp2_with (at_builtin; go_must (refine Go.Lib.wpList_append_run _ rfl (.tmp 56) (.tmp 60) 22 22 rfl _ _ rfl rfl _ W1 HRUN.out ?_))
        go_ret
        exact HOUT.out
    have e2 : (what == 2) = false := by simpa using w2e
    have HCH : Hid (chgF x.flags what F.1 = ([], 1)) := by
      unfold Hid chgF
      rw [if_neg w0, if_neg w1e, if_neg w2e]
    go_wp2_with fail
    go_ret
    exact Or.inl ⟨1, by decide, fun h => (by rw [HFB.out] at h; cases h), fun _ h => absurd HF0.out h, fun y _ _ hy => (by rw [HFI.out, HX.out] at hy; rw [← Option.some.inj hy, HCH.out]), rfl, HB2.out⟩
end Go.Proofs.YtgpcnacpefficaaGreatDoor
