/-
  A view is told to know: slices.BinarySearchFunc over what it sees, Know.
-/
import Derived.Test.YtgpcnacpefficaaGreatDoorMRbKnow
import Derived.Test.YtgpcnacpefficaaGreatDoorBpFlagsOr
namespace Go.Proofs.YtgpcnacpefficaaGreatDoor
open Go.RowKit Go.Proofs.Aid Go.Proofs.Bx

/-- What is seen lies at two cells. -/
def SgC (w : World) (b o : Nat) (x : Lt) : Prop := w.cell? ⟨b, o, none⟩ = some (.int .i64 x.uid) ∧ ∃ fa fn fc, w.cell? ⟨b, o + 1, none⟩ = some (.slice fa fn fc)
theorem SgC.below {w w' : World} {b o B : Nat} {x : Lt} (h : SgC w b o x) (hb : Below B w w') (hB : w.heap.size ≤ B) : SgC w' b o x := by
  obtain ⟨h1, fa, fn, fc, h2⟩ := h
  have hlt : b < B := Nat.lt_of_lt_of_le (World.block_lt_of_cell? _ _ h1) hB
  exact ⟨(hb.cell (p := ⟨b, _, none⟩) hlt).trans h1, fa, fn, fc, (hb.cell (p := ⟨b, _, none⟩) hlt).trans h2⟩
def SgL (w : World) (v : Value) (l : List Lt) : Prop := ∃ a c, v = .slice a l.length c ∧ (l = [] ∨ ∃ b o, a = some ⟨b, o, none⟩ ∧ ∀ (j : Nat) x, l[j]? = some x → SgC w b (o + j * 2) x)
theorem sgL_of {w : World} {v : Value} {S : List Sg} (h : Sgs w v S) : SgL w v (S.map sgLt) := by
  obtain ⟨a, c, hv⟩ := sgs_form h
  refine ⟨a, c, by rw [List.length_map]; exact hv, ?_⟩
  by_cases hS : S = []
  · exact Or.inl (by rw [hS]; rfl)
  · have h0 : 0 < S.length := List.length_pos_iff.2 hS
    obtain ⟨g, c0, _, e0, _⟩ := sgs_at h (List.getElem?_eq_getElem h0)
    rw [hv] at e0
    injection e0 with e0 _ _
    refine Or.inr ⟨g, 0, e0, fun j x hj => ?_⟩
    rw [List.getElem?_map] at hj
    cases hs : S[j]? with
    | none => rw [hs] at hj; cases hj
    | some s =>
      rw [hs] at hj
      have hj : sgLt s = x := by simpa using hj
      obtain ⟨g1, c1, fv, e1, _, q0, q1, hsl⟩ := sgs_at h hs
      rw [hv] at e1
      injection e1 with e1 _ _
      rw [e0] at e1
      injection e1 with e1
      injection e1 with e1 _ _
      subst e1
      obtain ⟨fa, fc, rfl, _⟩ := hsl
      rw [Nat.zero_add]
      exact ⟨by rw [← hj]; exact q0, _, _, _, q1⟩
set_option maxHeartbeats 1000000 in
theorem know1_is (u x : Int) (fv : Value) (w : World) : Calls Tryz.prog 59 #[.agg #[.int .i64 x, fv], .int .i64 u] w fun e w' => e = .returned (.int .i64 (cmpI x u)) ∧ Below w.heap.size w w' := by
  have c := fun W => compare_int x u W
  go_enter Tryz.func59, Tryz.ntmps59
  go_wp2_with fail
  refine (c _).mono ?_
  rintro e w1 ⟨rfl, hw⟩
  have hb : Below w.heap.size w w1 := by rw [hw]; exact (Below.refl _ _).alloc (Nat.le_refl _) _
  clear c hw
  go_wp2_with fail
  go_ret
  exact ⟨rfl, hb⟩
set_option maxHeartbeats 4000000 in
set_option maxRecDepth 100000 in
theorem search_sgs (v : Value) (l : List Lt) (u : Int) (w : World) (h : SgL w v l) (hr : Rise l) (hl : l.length ≤ 1000) :
    Calls Tryz.prog 58 #[v, .int .i64 u, .func (.func 59) #[] #[]] w fun e w' => e = .returned (.tuple #[.int .i64 (findI l u : Int), .bool (findB l u)]) ∧ Below w.heap.size w w' := by
  obtain ⟨a, c, rfl, ha⟩ := h
  obtain ⟨n, hn⟩ : ∃ n, l.length = n := ⟨_, rfl⟩
  rw [hn] at hl ⊢
  have eg : ∀ args w, (callFunc 59 args).run Tryz.prog w = .ok (.enter 59 args) w := enters_of Tryz.func59 (by kernel_rfl) rfl
  have HO : Hid (Rise l) := hr
  obtain ⟨FI, hFI⟩ : ∃ C, findI l u = C := ⟨_, rfl⟩
  obtain ⟨FB, hFB⟩ : ∃ C, findB l u = C := ⟨_, rfl⟩
  rw [hFI, hFB]
  have HC : Hid (findI l u = FI ∧ findB l u = FB) := ⟨hFI, hFB⟩
  have HAT : Hid (l = [] ∨ ∃ b o, a = some ⟨b, o, none⟩ ∧ ∀ (j : Nat) x, l[j]? = some x → SgC w b (o + j * 2) x) := ha
  have HN : Hid (l.length = n) := hn
  clear hr hFI hFB ha hn
  go_enter Tryz.func58, Tryz.ntmps58
  go_wp2_with fail
  go_loopw [9, 10] (fun si sj wr => ∃ i j : Nat, si = .int .i64 (i : Int) ∧ sj = .int .i64 (j : Int) ∧ i ≤ j ∧ j ≤ n ∧ Hid (∀ t (h : t < l.length), t < i → l[t].uid < u) ∧ Hid (∀ (h : j < l.length), u ≤ l[j].uid) ∧ Below w.heap.size w wr) (fun si sj _ => (intOf sj).toNat - (intOf si).toNat)
  case atStart => exact ⟨0, n, rfl, rfl, Nat.zero_le _, Nat.le_refl _, fun t _ h => absurd h (by omega), fun h => absurd h (by rw [HN.out]; omega), Below.refl _ _⟩
  case round =>
    obtain ⟨i, j, rfl, rfl, hij, hjn, H1, H2, hb⟩ := hrel
    have HB : Hid (Below w.heap.size w wr) := hb
    by_cases hlt : i < j
    · have hml : (i + j) / 2 < l.length := by rw [HN.out]; omega
      obtain ⟨b, o, rfl, hat⟩ : ∃ b o, a = some ⟨b, o, none⟩ ∧ ∀ (j : Nat) x, l[j]? = some x → SgC w b (o + j * 2) x := by
        rcases HAT.out with h | h
        · rw [h] at hml; simp at hml
        · exact h
      obtain ⟨q1, fa, fn, fc, q2⟩ := (hat _ _ (List.getElem?_eq_getElem hml)).below hb (Nat.le_refl _)
      obtain ⟨y, hy⟩ : ∃ y, l[(i + j) / 2] = y := ⟨_, rfl⟩
      have HY : Hid (l[(i + j) / 2] = y) := hy
      rw [hy] at q1
      have cY := fun W => know1_is u y.uid (.slice fa fn fc) W
      obtain ⟨z, hz⟩ : ∃ z, cmpI y.uid u = z := ⟨_, rfl⟩
      have HZ : Hid (cmpI y.uid u = z) := hz
      rw [hz] at cY
      obtain ⟨YU, hYU⟩ : ∃ z, y.uid = z := ⟨_, rfl⟩
      rw [hYU] at cY
      rw [hYU] at q1
      clear hat hy hz hYU hb
      by_cases hz0 : z < 0
      · go_wp2_with fail
        refine (cY _).mono ?_
        rintro e w' ⟨rfl, hb2⟩
        have HB2 : Hid (Below w.heap.size w w') := HB.out.trans (hb2.mono HB.out.size)
        clear cY hb2
        go_wp2_with fail
        go_roundw
        case rel => exact ⟨(i + j) / 2 + 1, j, by rw [show ((i : Int) + (j : Int)) / 2 + 1 = (((i + j) / 2 + 1 : Nat) : Int) by omega], rfl, by omega, hjn, below_mid HO.out hml (by rw [HY.out]; exact (cmpI_neg _ _).1 (by rw [HZ.out]; exact hz0)), H2, HB2.out⟩
        case measure => simp [intOf]; omega
      · go_wp2_with fail
        refine (cY _).mono ?_
        rintro e w' ⟨rfl, hb2⟩
        have HB2 : Hid (Below w.heap.size w w') := HB.out.trans (hb2.mono HB.out.size)
        clear cY hb2
        go_wp2_with fail
        go_roundw
        case rel => exact ⟨i, (i + j) / 2, rfl, by rw [show ((i : Int) + (j : Int)) / 2 = (((i + j) / 2 : Nat) : Int) by omega], by omega, by omega, H1, fun h => by rw [HY.out]; have := mt (cmpI_neg y.uid u).2 (by rw [HZ.out]; omega); omega, HB2.out⟩
        case measure => simp [intOf]; omega
    · obtain rfl : j = i := by omega
      have HFI : Hid (FI = j) := by show FI = j; rw [← HC.out.1]; exact find_at H1.out (by rw [HN.out]; exact hjn) H2.out
      have hFI := HFI.out
      subst hFI
      by_cases hin : FI < n
      · have hml : FI < l.length := by rw [HN.out]; omega
        obtain ⟨b, o, rfl, hat⟩ : ∃ b o, a = some ⟨b, o, none⟩ ∧ ∀ (j : Nat) x, l[j]? = some x → SgC w b (o + j * 2) x := by
          rcases HAT.out with h | h
          · rw [h] at hml; simp at hml
          · exact h
        obtain ⟨q1, fa, fn, fc, q2⟩ := (hat _ _ (List.getElem?_eq_getElem hml)).below hb (Nat.le_refl _)
        have HF : Hid (findB l u = decide (l[FI].uid = u)) := by
          rcases find_some HO.out H1.out hml with h | h
          · exact h
          · have := H2.out hml; omega
        obtain ⟨y, hy⟩ : ∃ y, l[FI] = y := ⟨_, rfl⟩
        have HY : Hid (l[FI] = y) := hy
        rw [hy] at q1
        have cY := fun W => know1_is u y.uid (.slice fa fn fc) W
        obtain ⟨z, hz⟩ : ∃ z, cmpI y.uid u = z := ⟨_, rfl⟩
        have HZ : Hid (cmpI y.uid u = z) := hz
        rw [hz] at cY
        obtain ⟨YU, hYU⟩ : ∃ z, y.uid = z := ⟨_, rfl⟩
        rw [hYU] at cY
        rw [hYU] at q1
        have HFB : Hid (FB = (z == 0)) := by
          show FB = _
          rw [← HC.out.2, HF.out, HY.out]
          by_cases h0 : z = 0
          · rw [decide_eq_true ((cmpI_zero _ _).1 (HZ.out.trans h0)), h0]; rfl
          · rw [decide_eq_false (fun e => h0 (HZ.out.symm.trans ((cmpI_zero _ _).2 e)))]; simpa using h0
        clear hat hy hz hYU hb HF
        by_cases hz0 : z = 0
        · subst hz0
          go_wp2_with fail
          refine (cY _).mono ?_
          rintro e w' ⟨rfl, hb2⟩
          have HB2 : Hid (Below w.heap.size w w') := HB.out.trans (hb2.mono HB.out.size)
          clear cY hb2
          go_wp2_with fail
          go_ret2
          exact ⟨by rw [HFB.out]; rfl, HB2.out⟩
        · have hzb : (z == 0) = false := by simpa using hz0
          go_wp2_with fail
          refine (cY _).mono ?_
          rintro e w' ⟨rfl, hb2⟩
          have HB2 : Hid (Below w.heap.size w w') := HB.out.trans (hb2.mono HB.out.size)
          clear cY hb2
          go_wp2_with fail
          go_ret2
          exact ⟨by rw [HFB.out, hzb]; rfl, HB2.out⟩
      · have HFB : Hid (FB = false) := by
          show FB = false
          rw [← HC.out.2]
          exact find_none fun t h => H1.out t h (by have := HN.out; omega)
        have hFB := HFB.out
        subst hFB
        clear hb
        go_wp2_with fail
        go_ret2
        exact ⟨rfl, HB.out⟩
theorem know_set {S : List Sg} {u : Int} {F : List Fl.Tx} {k : Nat} {s : Sg} (hr : Rise (S.map sgLt)) (hk : S[k]? = some s) (hu : s.uid = u) : S.map (know1 u F) = S.set k ⟨s.uid, F⟩ := by
  obtain ⟨hkl, hse⟩ := List.getElem?_eq_some_iff.1 hk
  apply List.ext_getElem?
  intro j
  rw [List.getElem?_map, List.getElem?_set]
  by_cases hj : k = j
  · subst hj
    rw [if_pos rfl, if_pos hkl, hk]
    show some (know1 u F s) = _
    unfold know1
    rw [if_pos hu]
  · rw [if_neg hj]
    cases hs : S[j]? with
    | none => rfl
    | some y =>
      obtain ⟨hjl, hye⟩ := List.getElem?_eq_some_iff.1 hs
      show some (know1 u F y) = some y
      unfold know1
      rw [if_neg]
      intro hyu
      have hl1 : k < (S.map sgLt).length := by rw [List.length_map]; exact hkl
      have hl2 : j < (S.map sgLt).length := by rw [List.length_map]; exact hjl
      have e1 : (S.map sgLt)[k].uid = u := by rw [List.getElem_map, hse]; exact hu
      have e2 : (S.map sgLt)[j].uid = u := by rw [List.getElem_map, hye]; exact hyu
      rcases Nat.lt_or_gt_of_ne hj with h | h
      · have := rise_at hr hl1 hl2 h; omega
      · have := rise_at hr hl2 hl1 h; omega
theorem know_no {S : List Sg} {u : Int} {F : List Fl.Tx} (h : findB (S.map sgLt) u = false) : S.map (know1 u F) = S := by
  unfold findB at h
  rw [List.any_eq_false] at h
  conv => rhs; rw [← List.map_id S]
  refine List.map_congr_left fun s hs => ?_
  unfold know1
  rw [if_neg fun e => h (sgLt s) (List.mem_map_of_mem hs) (by simpa [sgLt] using e)]
  rfl
set_option maxHeartbeats 4000000 in
set_option maxRecDepth 100000 in
theorem know_is (vb : Nat) (sv : Value) (S : List Sg) (u : Int) (fv : Value) (F : List Fl.Tx) (w : World) (h : ViewAt w vb sv S) (hr : Rise (S.map sgLt)) (hS : S.length ≤ 900) (hf : Sl w fv F) (hF : F.length ≤ 1000) :
    Calls Tryz.prog 34 #[.pointer (some ⟨vb, 0, none⟩), .int .i64 u, fv] w fun e w' => e = .returned (.tuple #[]) ∧ ViewAt w' vb sv (S.map (know1 u F)) ∧ VKeep vb sv w w' := by
  have cS := search_sgs sv (S.map sgLt) u w (sgL_of h.2) hr (by rw [List.length_map]; omega)
  obtain ⟨FI, hFI⟩ : ∃ C, findI (S.map sgLt) u = C := ⟨_, rfl⟩
  obtain ⟨FB, hFB⟩ : ∃ C, findB (S.map sgLt) u = C := ⟨_, rfl⟩
  rw [hFI, hFB] at cS
  obtain ⟨a, c, rfl⟩ := sgs_form h.2
  obtain ⟨N, hN⟩ : ∃ N, S.length = N := ⟨_, rfl⟩
  have HN : Hid (S.length = N) := hN
  rw [hN] at h hS cS ⊢
  have p0 : w.cell? ⟨vb, 0, none⟩ = some (.slice a N c) := rd_cell h.1 rfl
  have HV : Hid (ViewAt w vb (.slice a N c) S) := h
  obtain ⟨fa, fc, hfv, hfr⟩ := id hf
  clear hfr
  obtain ⟨FL, hFL⟩ : ∃ z, F.length = z := ⟨_, rfl⟩
  rw [hFL] at hfv
  subst hfv
  have HSF : Hid (Sl w (.slice fa FL fc) F ∧ F.length ≤ 1000) := ⟨hf, hF⟩
  have HRI : Hid (Rise (S.map sgLt)) := hr
  have HFF : Hid (findI (S.map sgLt) u = FI ∧ findB (S.map sgLt) u = FB) := ⟨hFI, hFB⟩
  have hvl := h.lt
  clear h hr hf hF hFL hN hFI hFB
  cases FB with
  | false =>
    have HNO : Hid (S.map (know1 u F) = S) := know_no HFF.out.2
    go_enter Tryz.func34, Tryz.ntmps34
    go_wp2_with fail
    refine cS.mono ?_
    rintro e w1 ⟨rfl, hb1⟩
    have HF : Hid (ViewAt w1 vb (.slice a N c) (S.map (know1 u F)) ∧ VKeep vb (.slice a N c) w w1) := by
      unfold Hid
      rw [HNO.out]
      exact ⟨HV.out.below hb1, VKeep.of hb1⟩
    clear cS hb1
    go_wp2_with fail
    go_end0
    exact ⟨rfl, HF.out⟩
  | true =>
    obtain ⟨x, hx, hxu⟩ := find_true HRI.out HFF.out.2
    rw [HFF.out.1, List.getElem?_map] at hx
    obtain ⟨s, hsk, rfl⟩ : ∃ s, S[FI]? = some s ∧ sgLt s = x := by
      cases hs : S[FI]? with
      | none => rw [hs] at hx; cases hx
      | some s => rw [hs] at hx; exact ⟨s, rfl, by simpa using hx⟩
    have HSK : Hid (S[FI]? = some s) := hsk
    have HSET : Hid (S.map (know1 u F) = S.set FI ⟨s.uid, F⟩) := know_set HRI.out hsk hxu
    obtain ⟨g, cg, gv, ev, hgl, q0, q1, hgs⟩ := sgs_at HV.out.2 hsk
    have hFN : FI < N := by have := (List.getElem?_eq_some_iff.1 hsk).1; have := HN.out; omega
    rw [HN.out] at ev
    injection ev with ev _ ec
    subst ev
    subst ec
    have i1 : (0 : Int) ≤ (FI : Int) := by omega
    have i2 : (FI : Int) < (N : Int) := by omega
    clear hx hxu hsk q0 q1 hgs
    go_enter Tryz.func34, Tryz.ntmps34
    go_wp2_with fail
    refine cS.mono ?_
    rintro e w1 ⟨rfl, hb1⟩
    have HV1 : Hid (ViewAt w1 vb (.slice (some ⟨g, 0, none⟩) N c) S) := HV.out.below hb1
    have r1 : w1.cell? ⟨vb, 0, none⟩ = some (.slice (some ⟨g, 0, none⟩) N c) := rd_cell HV1.out.1 rfl
    have HB1 : Hid (Below w.heap.size w w1) := hb1
    have cC := clone_sl (.slice fa FL fc) F w1.drew ((HSF.out.1.below hb1 (Nat.le_refl _)).below (Below.refl _ _).drew (Nat.le_refl _)) HSF.out.2
    clear cS hb1 p0
    go_upto_region 2 with fail
    refine wp_region_held_drew (S := fun W => W.cell? ⟨vb, 0, none⟩ = some (.slice (some ⟨g, 0, none⟩) N c)) (by kernel_rfl) ?_ (fun hHeld => ?_)
    · simpa using r1
    refine wpAnyH_take (i := 0) (v := ?_) rfl (by kernel_rfl) (by kernel_rfl) (by kernel_rfl) (fun _ _ _ h => h) (Or.inl ⟨by rfl, ?_⟩) (by assumption) ?_
    rotate_left
    · intro w hSw; go_simp; (try with_reducible rfl)
    change wpAnyH _ _ _ _ _ _ _ (Act.put _ (some 18) _) _; simp only [Act.put, List.setIfInBounds_toArray, List.set_cons_zero, List.set_cons_succ]
    refine wpAnyH_take (i := 1) (v := ?_) rfl (by kernel_rfl) (by kernel_rfl) (by kernel_rfl) (fun _ _ _ h => h) (Or.inl ⟨by rfl, ?_⟩) (by assumption) ?_
    rotate_left
    · intro w hSw; go_simp; (try with_reducible rfl)
    change wpAnyH _ _ _ _ _ _ _ (Act.put _ (some 19) _) _; simp only [Act.put, List.setIfInBounds_toArray, List.set_cons_zero, List.set_cons_succ]
    refine wpAnyH_take (i := 2) (v := ?_) rfl (by kernel_rfl) (by kernel_rfl) (by kernel_rfl) (fun _ _ _ h => h) (Or.inl ⟨by rfl, ?_⟩) (by assumption) ?_
    rotate_left
    · intro w hSw; go_simp; (try with_reducible rfl)
    change wpAnyH _ _ _ _ _ _ _ (Act.put _ (some 20) _) _; simp only [Act.put, List.setIfInBounds_toArray, List.set_cons_zero, List.set_cons_succ]
    refine wpAnyH_take (i := 3) (v := ?_) rfl (by kernel_rfl) (by kernel_rfl) (by kernel_rfl) (fun _ _ _ h => h) (Or.inl ⟨by rfl, ?_⟩) (by assumption) ?_
    rotate_left
    · intro w hSw; go_simp; (try with_reducible rfl)
    change wpAnyH _ _ _ _ _ _ _ (Act.put _ (some 21) _) _; simp only [Act.put, List.setIfInBounds_toArray, List.set_cons_zero, List.set_cons_succ]
    refine wpAnyH_take (i := 4) (v := ?_) rfl (by kernel_rfl) (by kernel_rfl) (by kernel_rfl) (fun _ _ _ h => h) (Or.inl ⟨by rfl, ?_⟩) (by assumption) ?_
    rotate_left
    · intro w hSw; go_simp; (try with_reducible rfl)
    change wpAnyH _ _ _ _ _ _ _ (Act.put _ (some 22) _) _; simp only [Act.put, List.setIfInBounds_toArray, List.set_cons_zero, List.set_cons_succ]
    refine wpAnyH_take (i := 5) (v := ?_) rfl (by kernel_rfl) (by kernel_rfl) (by kernel_rfl) (fun _ _ _ h => h) (Or.inl ⟨by rfl, ?_⟩) (by assumption) ?_
    rotate_left
    · intro w hSw; go_simp; (try with_reducible rfl)
    change wpAnyH _ _ _ _ _ _ _ (Act.put _ (some 23) _) _; simp only [Act.put, List.setIfInBounds_toArray, List.set_cons_zero, List.set_cons_succ]
    refine wpAnyH_ready (rs := [6]) (by kernel_rfl) (by simp) ?_
    refine AllReadyH.cons rfl (fun K hK => ?_) AllReadyH.nil
    go_simp
    refine cC.mono ?_
    rintro e w7 ⟨⟨v7, rfl, hs7⟩, hb7⟩
    obtain ⟨xa, xc, hv7, _⟩ := id hs7
    have hb17 : Below w1.heap.size w1 w7 := (Below.refl _ _).drew.trans (by simpa using hb7)
    have hV7 := HV1.out.below hb17
    have hset := sgs_set (k := FI) (g := g) (x := s) (by rw [HN.out]; exact hV7.2) rfl HSK.out hs7
    rw [HN.out] at hset
    obtain ⟨g7, c7, gv7, ev7, hgl7, t0, t1, hsl7⟩ := sgs_at hV7.2 HSK.out
    rw [HN.out] at ev7
    injection ev7 with ev7 _ ec7
    injection ev7 with ev7
    injection ev7 with ev7 _ _
    subst ev7
    clear ec7
    have hvg : vb ≠ g := fun e => hV7.apart (by rw [e]; rfl)
    have r7 : w7.cell? ⟨vb, 0, none⟩ = some (.slice (some ⟨g, 0, none⟩) N c) := rd_cell hV7.1 rfl
    have hot : ∀ q, q ≠ g → (w7.setCell ⟨g, FI * 2 + 1, none⟩ v7).heap[q]? = w7.heap[q]? := fun q hq => Below.heap_setCell _ _ _ _ hq
    have s7 : (w7.setCell ⟨g, FI * 2 + 1, none⟩ v7).heap[vb]? = some (.cells #[.slice (some ⟨g, 0, none⟩) N c] 62 (0, 0)) := (hot vb hvg).trans hV7.1
    have r8 : (w7.setCell ⟨g, FI * 2 + 1, none⟩ v7).cell? ⟨vb, 0, none⟩ = some (.slice (some ⟨g, 0, none⟩) N c) := rd_cell s7 rfl
    have hfz : w7.frozen? ⟨g, FI * 2 + 1, none⟩ = false := by
      obtain ⟨rows, h1, _⟩ := hV7.2
      rcases h1.2 with ⟨hz, _⟩ | ⟨g', cap, cur, hv, _, hh, _⟩
      · cases hz
      · injection hv with hv _ _
        injection hv with hv
        injection hv with hv _ _
        subst hv
        exact rd_free hh _
    have HFIN : Hid (ViewAt (w7.setCell ⟨g, FI * 2 + 1, none⟩ v7) vb (.slice (some ⟨g, 0, none⟩) N c) (S.map (know1 u F)) ∧ VKeep vb (.slice (some ⟨g, 0, none⟩) N c) w (w7.setCell ⟨g, FI * 2 + 1, none⟩ v7)) := by
      refine ⟨⟨s7, by rw [HSET.out]; exact hset⟩, (VKeep.of (HB1.out)).trans (Near.refl _ _) ⟨hb17.os, hb17.tape, hb17.output, by simpa using hb17.size, fun q hq _ h2 => (hot q fun e => h2 (by rw [e]; rfl)).trans (hb17.block q hq)⟩⟩
    subst hv7
    clear hs7 hb7 hb17 hV7 hset s7 hot hvg hsl7 t0 HV1 cC
    refine hK.out _ _ ?_ (fun hHeld => ?_)
    · exact r7
    clear hK K
    refine wpAnyH_take (i := 7) (v := ?_) rfl (by kernel_rfl) (by kernel_rfl) (by kernel_rfl) (fun _ _ _ h => h) (Or.inl ⟨by rfl, ?_⟩) (by assumption) ?_
    rotate_left
    · intro w hSw; go_simp; (try with_reducible rfl)
    refine wpAnyH_take (i := 8) (v := ?_) rfl (by kernel_rfl) (by kernel_rfl) (by kernel_rfl) (fun _ _ _ h => h) (Or.inl ⟨by rfl, ?_⟩) (by assumption) ?_
    rotate_left
    · intro w hSw; go_simp; (try with_reducible rfl)
    refine wpAnyH_ready (rs := [9]) (by kernel_rfl) (by simp) ?_
    refine AllReadyH.cons rfl (fun K hK => ?_) AllReadyH.nil
    go_simp
    refine hK.out _ _ ?_ (fun hHeld => ?_)
    · exact r8
    clear hK K
    refine wpAnyH_done (by kernel_rfl) ?_ _
    go_wp2_with fail
    go_end0
    exact ⟨rfl, HFIN.out⟩
end Go.Proofs.YtgpcnacpefficaaGreatDoor
