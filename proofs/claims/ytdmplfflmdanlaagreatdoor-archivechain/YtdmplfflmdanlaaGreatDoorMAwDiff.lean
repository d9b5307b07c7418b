/-
  archive.Diff: the bytes of what changed between two houses that may be.
-/
import Derived.Test.YtdmplfflmdanlaaGreatDoorBpArNice
import Derived.Test.YtdmplfflmdanlaaGreatDoorBpArRows2
namespace Go.Proofs.YtdmplfflmdanlaaGreatDoor
open Go.RowKit Go.Proofs.Aid Go.Proofs.Bx

/-- What Diff writes of a box's letters. -/
noncomputable def changedB (A : List Bxd) (x : Bxd) : Nm := rowB numB (keptU x.ls (lettersB A x.v)) ++ rowB letterB (othersL x.ls (lettersB A x.v))
theorem changeB_body (A : List Bxd) (S : Svd) : changeB (lettersB A) S = bodyB (changedB A) S := rfl
theorem nown_in {w : World} {base : Nat} {v : Value} {l : List Int} (h : NOwn w base v l) : In w v l := by
  rcases h.2 with ⟨e1, e2⟩ | ⟨g, cap, cur, hv, _, hh, _⟩
  · exact ⟨none, 0, by rw [e1, e2], Or.inl (List.eq_nil_of_length_eq_zero e2)⟩
  · refine ⟨_, cap, hv, Or.inr ⟨g, 0, rfl, fun j x hj => ?_⟩⟩
    have h' := h
    unfold NOwn at h'
    rw [hv] at h'
    rw [Nat.zero_add, h'.cellAt j (by have := (List.getElem?_eq_some_iff.1 hj).1; omega), List.getElem?_map, hj]
    rfl
theorem kept_ok {now before : List Lt} (h : ∀ y ∈ now, LtS y) : ∀ u ∈ keptU now before, 0 ≤ u ∧ u ≤ 9000000000 := fun u hu => by
  unfold keptU at hu
  obtain ⟨y, hy, rfl⟩ := List.mem_map.1 hu
  exact (h y (List.mem_filter.1 hy).1).1
theorem others_ok {now before : List Lt} (h : ∀ y ∈ now, LtS y) : ∀ y ∈ othersL now before, LtS y := fun y hy => h y (List.mem_filter.1 hy).1
theorem wk_own {B b : Nat} {w w' : World} (h : Wk B b w w') {base n size : Nat} {e : TypeId} {v : Value} {xs : List Value} (ho : w.ownsRow base e size v n xs) (hb : b < base) (he : e ≠ 5) : ∀ q, v.ownBlock = some q → w'.heap[q]? = w.heap[q]? := fun q hq => by
  rcases ho.2 with ⟨e1, _⟩ | ⟨g, cap, cur, hv, hg, hh, _⟩
  · rw [e1] at hq; cases hq
  · rw [hv] at hq
    obtain rfl : g = q := by simpa [Value.ownBlock] using hq
    exact (h.cells hh (by omega) he).trans hh.symm
set_option maxHeartbeats 8000000 in
set_option maxRecDepth 100000 in
theorem diff1_is (B b ab cb : Nat) (x : Bxd) (A : Svd) (na ba wa la : Option Addr) (nl nc bl bc wl wc lc : Nat) (o : Nm) (w : World) (h : IsAw B b o w) (hBw : B ≤ w.heap.size) (hc : w.cell? ⟨cb, 0, none⟩ = some (.pointer (some ⟨b, 0, none⟩))) (hcn : w.heap[cb]? = some (.cells #[.pointer (some ⟨b, 0, none⟩)] 84 (0, 0))) (hbcb : b ≠ cb) (ha : w.heap[ab]? = some (.cells #[.slice na nl nc, .slice ba bl bc, .slice wa wl wc, .int .i64 A.next] 26 (0, 0)))
    (hA : Bxr w (.slice ba bl bc) A.boxes) (hAl : A.boxes.length ≤ 1000) (hAs : ∀ y ∈ A.boxes, y.ls.length ≤ 1000 ∧ ∀ z ∈ y.ls, LtSm z) (hl : LtQ (Wk B b w) (.slice la x.ls.length lc) x.ls) (hx : x.ls.length ≤ 900 ∧ ∀ y ∈ x.ls, LtS y) (hlen : o.length + (changedB A.boxes x).length ≤ 100000000) (htab : TabW B w) :
    Calls Tryz.prog 58 #[.agg #[.int .i64 x.v, .int .i64 x.n, .slice la x.ls.length lc], .pointer (some ⟨ab, 0, none⟩), .pointer (some ⟨cb, 0, none⟩)] w fun e w' => e = .returned (.tuple #[]) ∧ IsAw B b (o ++ changedB A.boxes x) w' ∧ Wk B b w w' := by
  obtain ⟨xv, xn, xl⟩ := x
  unfold changedB at hlen ⊢
  simp only at hl hx hlen ⊢
  obtain ⟨N, hN⟩ : ∃ n, xl.length = n := ⟨_, rfl⟩
  obtain ⟨X, hX⟩ : ∃ n, A.next = n := ⟨_, rfl⟩
  obtain ⟨Bf, hBf⟩ : ∃ n, lettersB A.boxes xv = n := ⟨_, rfl⟩
  rw [hX] at ha
  have hbs : Bf.length ≤ 1000 ∧ ∀ z ∈ Bf, LtSm z := by
    rw [← hBf]
    unfold lettersB
    cases hf : A.boxes.find? (fun x => x.v == xv) with
    | none => exact ⟨by simp, fun z hz => by simp at hz⟩
    | some y => exact hAs y (List.mem_of_find?_eq_some hf)
  obtain ⟨W1, hW1⟩ : ∃ W, w.alloc (.cells #[.int .i64 xv, .int .i64 xn, .slice la N lc] 66) = W := ⟨_, rfl⟩
  have b1 : Below w.heap.size w W1 := by rw [← hW1]; exact (Below.refl _ _).alloc (Nat.le_refl _) _
  have e1 : W1.heap[w.heap.size]? = some (.cells #[.int .i64 xv, .int .i64 xn, .slice la N lc] 66 (0, 0)) := by rw [← hW1]; exact heap_alloc_new _ _
  have k1 : Wk B b w W1 := Wk.of b1 hBw
  obtain ⟨WD, hWD⟩ : ∃ W, W1.drew = W := ⟨_, rfl⟩
  have bD : Below W1.heap.size W1 WD := by rw [← hWD]; exact (Below.refl _ _).drew
  have hlt1 : w.heap.size < W1.heap.size := (Array.getElem?_eq_some_iff.1 e1).1
  have HRD : Hid (∀ W, Below W1.heap.size W1 W → (W.cell? ⟨w.heap.size, 2, none⟩ = some (.slice la N lc) ∧ W.cell? ⟨w.heap.size, 0, none⟩ = some (.int .i64 xv)) ∧ (W.cell? ⟨ab, 0, none⟩ = some (.slice na nl nc) ∧ W.cell? ⟨ab, 1, none⟩ = some (.slice ba bl bc) ∧ W.cell? ⟨ab, 2, none⟩ = some (.slice wa wl wc) ∧ W.cell? ⟨ab, 3, none⟩ = some (.int .i64 X)) ∧ W.cell? ⟨cb, 0, none⟩ = some (.pointer (some ⟨b, 0, none⟩))) := fun W hW => by
    have g1 := (hW.block _ hlt1).trans e1
    have hwW := b1.trans (hW.mono b1.size)
    have g2 := (hwW.block _ (Array.getElem?_eq_some_iff.1 ha).1).trans ha
    exact ⟨⟨rd_cell g1 rfl, rd_cell g1 rfl⟩, ⟨rd_cell g2 rfl, rd_cell g2 rfl, rd_cell g2 rfl, rd_cell g2 rfl⟩, (hwW.cell (p := ⟨cb, 0, none⟩) (World.block_lt_of_cell? _ _ hc)).trans hc⟩
  have HX : Hid (IsAw B b o w ∧ B ≤ w.heap.size ∧ w.heap[cb]? = some (.cells #[.pointer (some ⟨b, 0, none⟩)] 84 (0, 0)) ∧ b ≠ cb ∧ LtQ (Wk B b w) (.slice la N lc) xl ∧ (xl.length ≤ 900 ∧ ∀ y ∈ xl, LtS y) ∧ o.length + ((rowB numB (keptU xl Bf)).length + (rowB letterB (othersL xl Bf)).length) ≤ 100000000 ∧ TabW B w ∧ Below w.heap.size w W1 ∧ (Bf.length ≤ 1000 ∧ ∀ z ∈ Bf, LtSm z) ∧ Below W1.heap.size W1 WD) :=
    ⟨h, hBw, hcn, hbcb, by rw [← hN]; exact hl, hx, by have := hlen; rw [hBf, List.length_append] at this; exact this, htab, b1, hbs, bD⟩
  have HCL : Hid (∀ W, Below W1.heap.size W1 W → Calls Tryz.prog 60 #[.agg #[.slice na nl nc, .slice ba bl bc, .slice wa wl wc, .int .i64 X], .int .i64 xv] W fun e w' => (∃ lv, e = .returned lv ∧ Lts W lv Bf) ∧ Below W.heap.size W w') := fun W hW => by
    have := lettersOf_is na ba wa nl nc bl bc wl wc X xv A.boxes W (hA.below (b1.trans (hW.mono b1.size)) (Nat.le_refl _)) hAl
    rwa [hBf] at this
  obtain ⟨KU, hKU⟩ : ∃ l, keptU xl Bf = l := ⟨_, rfl⟩
  obtain ⟨OL, hOL⟩ : ∃ l, othersL xl Bf = l := ⟨_, rfl⟩
  have HKO : Hid (keptU xl Bf = KU ∧ othersL xl Bf = OL) := ⟨hKU, hOL⟩
  rw [hN, hBf, hKU, hOL]
  obtain ⟨⟨s0, s1⟩, ⟨s2, s3, s4, s5⟩, s6⟩ := HRD.out W1 (Below.refl _ _)
  obtain ⟨⟨t0, t1⟩, ⟨t2, t3, t4, t5⟩, t6⟩ := HRD.out WD bD
  clear h hBw hc hcn hbcb ha hA hAl hAs hl hx hlen htab hN hX hBf hbs b1 e1 k1 bD hlt1 hKU hOL
  go_enter Tryz.func58, Tryz.ntmps58
  go_upto_region 1 with fail
  refine wp_region_held_drew (S := fun W => (W.cell? ⟨w.heap.size, 2, none⟩ = some (.slice la N lc) ∧ W.cell? ⟨w.heap.size, 0, none⟩ = some (.int .i64 xv)) ∧ W.cell? ⟨ab, 0, none⟩ = some (.slice na nl nc) ∧ W.cell? ⟨ab, 1, none⟩ = some (.slice ba bl bc) ∧ W.cell? ⟨ab, 2, none⟩ = some (.slice wa wl wc) ∧ W.cell? ⟨ab, 3, none⟩ = some (.int .i64 X)) (by kernel_rfl) ?_ (fun hHeld => ?_)
  · exact ⟨⟨by simpa using s0, by simpa using s1⟩, by simpa using s2, by simpa using s3, by simpa using s4, by simpa using s5⟩
  rw [hWD] at hHeld ⊢
  refine wpAnyH_take (i := 0) (v := ?_) rfl (by kernel_rfl) (by kernel_rfl) (by kernel_rfl) (fun _ _ _ h => h) (Or.inl ⟨by rfl, ?_⟩) (by first | assumption | trivial) ?_
  rotate_left
  · intro w hSw; go_simp; (try with_reducible rfl)
  change wpAnyH _ _ _ _ _ _ _ (Act.put _ (some 7) _) _; simp only [Act.put, List.setIfInBounds_toArray, List.set_cons_zero, List.set_cons_succ]
  refine wpAnyH_take (i := 1) (v := ?_) rfl (by kernel_rfl) (by kernel_rfl) (by kernel_rfl) (fun _ _ _ h => h) (Or.inl ⟨by rfl, ?_⟩) (by first | assumption | trivial) ?_
  rotate_left
  · intro w hSw; go_simp; (try with_reducible rfl)
  change wpAnyH _ _ _ _ _ _ _ (Act.put _ (some 8) _) _; simp only [Act.put, List.setIfInBounds_toArray, List.set_cons_zero, List.set_cons_succ]
  refine wpAnyH_take (i := 2) (v := ?_) rfl (by kernel_rfl) (by kernel_rfl) (by kernel_rfl) (fun _ _ _ h => h) (Or.inl ⟨by rfl, ?_⟩) (by first | assumption | trivial) ?_
  rotate_left
  · intro w hSw; go_simp; (try with_reducible rfl)
  change wpAnyH _ _ _ _ _ _ _ (Act.put _ (some 9) _) _; simp only [Act.put, List.setIfInBounds_toArray, List.set_cons_zero, List.set_cons_succ]
  refine wpAnyH_take (i := 3) (v := ?_) rfl (by kernel_rfl) (by kernel_rfl) (by kernel_rfl) (fun _ _ _ h => h) (Or.inl ⟨by rfl, ?_⟩) (by first | assumption | trivial) ?_
  rotate_left
  · intro w hSw; go_simp; (try with_reducible rfl)
  change wpAnyH _ _ _ _ _ _ _ (Act.put _ (some 10) _) _; simp only [Act.put, List.setIfInBounds_toArray, List.set_cons_zero, List.set_cons_succ]
  refine wpAnyH_take (i := 4) (v := ?_) rfl (by kernel_rfl) (by kernel_rfl) (by kernel_rfl) (fun _ _ _ h => h) (Or.inl ⟨by rfl, ?_⟩) (by first | assumption | trivial) ?_
  rotate_left
  · intro w hSw; go_simp; (try with_reducible rfl)
  change wpAnyH _ _ _ _ _ _ _ (Act.put _ (some 11) _) _; simp only [Act.put, List.setIfInBounds_toArray, List.set_cons_zero, List.set_cons_succ]
  refine wpAnyH_ready (rs := [5]) (by kernel_rfl) (by simp) ?_
  refine AllReadyH.cons rfl (fun K hK => ?_) AllReadyH.nil
  go_simp
  refine (HCL.out WD HX.out.2.2.2.2.2.2.2.2.2.2).mono ?_
  rintro e w3 ⟨⟨lv, rfl, hlv⟩, hb3⟩
  obtain ⟨l3a, l3c, rfl, _⟩ := id hlv
  have hA3 : Below W1.heap.size W1 w3 := HX.out.2.2.2.2.2.2.2.2.2.2.trans (hb3.mono HX.out.2.2.2.2.2.2.2.2.2.2.size)
  have hB3 : Below w.heap.size w w3 := HX.out.2.2.2.2.2.2.2.2.1.trans (hA3.mono HX.out.2.2.2.2.2.2.2.2.1.size)
  have HL3 : Hid (Lts w3 (.slice l3a Bf.length l3c) Bf ∧ Below W1.heap.size W1 w3 ∧ Below w.heap.size w w3) := ⟨hlv.below hb3 (Nat.le_refl _), hA3, hB3⟩
  obtain ⟨BL, hBL⟩ : ∃ n, Bf.length = n := ⟨_, rfl⟩
  have HBL : Hid (Bf.length = BL) := hBL
  rw [hBL] at HL3
  rw [hBL]
  have k3 := HRD.out w3 hA3
  clear hlv hb3 hA3 hB3 hBL
  refine hK.out _ _ ?_ (fun hHeld => ?_)
  · exact ⟨k3.1, k3.2.1⟩
  clear hK K
  refine wpAnyH_ready (rs := [6]) (by kernel_rfl) (by simp) ?_
  refine AllReadyH.cons rfl (fun K hK => ?_) AllReadyH.nil
  go_simp
  have hP3 : ∀ W, Below w3.heap.size w3 W → Wk B b w W := fun W hW => Wk.of (HL3.out.2.2.trans (hW.mono HL3.out.2.2.size)) HX.out.2.1
  have cP := parted_is (Wk B b w) (.slice la N lc) (.slice l3a BL l3c) xl Bf w3 hP3 HX.out.2.2.2.2.1 HL3.out.1 HX.out.2.2.2.2.2.1.1 HX.out.2.2.2.2.2.2.2.2.2.1.1 (fun y hy => (HX.out.2.2.2.2.2.1.2 y hy).2.1.1) HX.out.2.2.2.2.2.2.2.2.2.1.2
  rw [HKO.out.1, HKO.out.2] at cP
  refine cP.mono ?_
  rintro e w4 ⟨⟨kv, ov, rfl, hN4, hO4⟩, hb4⟩
  obtain ⟨ka, kc, rfl⟩ := row_form hN4
  obtain ⟨oa, oc, rfl⟩ := hO4.form
  have hA4 : Below W1.heap.size W1 w4 := HL3.out.2.1.trans (hb4.mono HL3.out.2.1.size)
  have hB4 : Below w.heap.size w w4 := HL3.out.2.2.trans (hb4.mono HL3.out.2.2.size)
  have k4 := HRD.out w4 hA4
  have hbz := aw_lt HX.out.1
  have HW4 : Hid (Wk B b w w4 ∧ Below w.heap.size w w4 ∧ IsAw B b o w4 ∧ B ≤ w4.heap.size ∧ ∀ W, Wk B b w4 W → W.cell? ⟨cb, 0, none⟩ = some (.pointer (some ⟨b, 0, none⟩))) := ⟨Wk.of hB4 HX.out.2.1, hB4, aw_below HX.out.1 hB4, Nat.le_trans HX.out.2.1 hB4.size, fun W hW => rd_cell (hW.cells ((hB4.block cb (Array.getElem?_eq_some_iff.1 HX.out.2.2.1).1).trans HX.out.2.2.1) (fun e => HX.out.2.2.2.1 e.symm) (by decide)) rfl⟩
  have hb3b : b < w3.heap.size := Nat.lt_of_lt_of_le hbz HL3.out.2.2.size
  have HK4 : Hid (∀ W, Wk B b w4 W → In W (.slice ka KU.length kc) KU) := fun W hW => nown_in (own_same hN4 (wk_own hW hN4 hb3b (by decide)))
  have HO4 : Hid (OL.length ≤ 1000 ∧ (∀ y ∈ OL, LtS y) ∧ LtQ (Wk B b w4) (.slice oa OL.length oc) OL) := by
    refine ⟨?_, ?_, hO4.ltq fun W hW => ⟨HW4.out.1.trans hW, ?_⟩⟩
    · rw [← HKO.out.2]; exact Nat.le_trans othersL_le (by have := HX.out.2.2.2.2.2.1.1; omega)
    · rw [← HKO.out.2]; exact others_ok HX.out.2.2.2.2.2.1.2
    · obtain ⟨rows, r1, _⟩ := hO4
      exact wk_own hW r1 hb3b (by decide)
  have HKL : Hid (KU.length ≤ 1000 ∧ ∀ u ∈ KU, 0 ≤ u ∧ u ≤ 9000000000) := by
    rw [← HKO.out.1]
    exact ⟨Nat.le_trans keptU_le (by have := HX.out.2.2.2.2.2.1.1; omega), kept_ok HX.out.2.2.2.2.2.1.2⟩
  obtain ⟨KN, hKN⟩ : ∃ n, KU.length = n := ⟨_, rfl⟩
  obtain ⟨ON, hON⟩ : ∃ n, OL.length = n := ⟨_, rfl⟩
  have HO4L : Hid (OL.length = ON) := hON
  have HKN : Hid (KU.length = KN) := hKN
  rw [hKN] at HK4
  rw [hKN, hON]
  clear hN4 hO4 hb4 hA4 hB4 hKN hON cP hP3 hbz hb3b
  refine hK.out _ _ ?_ (fun hHeld => ?_)
  · exact ⟨k4.1, k4.2.1⟩
  clear hK K
  refine wpAnyH_take (i := 7) (v := ?_) rfl (by kernel_rfl) (by kernel_rfl) (by kernel_rfl) (fun _ _ _ h => h) (Or.inl ⟨by rfl, ?_⟩) (by first | assumption | trivial) ?_
  rotate_left
  · intro w hSw; go_simp; (try with_reducible rfl)
  change wpAnyH _ _ _ _ _ _ _ (Act.put _ (some 6) _) _; simp only [Act.put, List.setIfInBounds_toArray, List.set_cons_zero, List.set_cons_succ]
  refine wpAnyH_take (i := 8) (v := ?_) rfl (by kernel_rfl) (by kernel_rfl) (by kernel_rfl) (fun _ _ _ h => h) (Or.inl ⟨by rfl, ?_⟩) (by first | assumption | trivial) ?_
  rotate_left
  · intro w hSw; go_simp; (try with_reducible rfl)
  change wpAnyH _ _ _ _ _ _ _ (Act.put _ (some 14) _) _; simp only [Act.put, List.setIfInBounds_toArray, List.set_cons_zero, List.set_cons_succ]
  refine wpAnyH_take (i := 9) (v := ?_) rfl (by kernel_rfl) (by kernel_rfl) (by kernel_rfl) (fun _ _ _ h => h) (Or.inl ⟨by rfl, ?_⟩) (by first | assumption | trivial) ?_
  rotate_left
  · intro w hSw; go_simp; (try with_reducible rfl)
  change wpAnyH _ _ _ _ _ _ _ (Act.put _ (some 15) _) _; simp only [Act.put, List.setIfInBounds_toArray, List.set_cons_zero, List.set_cons_succ]
  refine wpAnyH_take (i := 10) (v := ?_) rfl (by kernel_rfl) (by kernel_rfl) (by kernel_rfl) (fun _ _ _ h => h) (Or.inl ⟨by rfl, ?_⟩) (by first | assumption | trivial) ?_
  rotate_left
  · intro w hSw; go_simp; (try with_reducible rfl)
  change wpAnyH _ _ _ _ _ _ _ (Act.put _ (some 4) _) _; simp only [Act.put, List.setIfInBounds_toArray, List.set_cons_zero, List.set_cons_succ]
  refine wpAnyH_take (i := 11) (v := ?_) rfl (by kernel_rfl) (by kernel_rfl) (by kernel_rfl) (fun _ _ _ h => h) (Or.inl ⟨by rfl, ?_⟩) (by first | assumption | trivial) ?_
  rotate_left
  · intro w hSw; go_simp; (try with_reducible rfl)
  change wpAnyH _ _ _ _ _ _ _ (Act.put _ (some 5) _) _; simp only [Act.put, List.setIfInBounds_toArray, List.set_cons_zero, List.set_cons_succ]
  refine wpAnyH_done (by kernel_rfl) ?_ _
  clear hHeld
  clear s0 s1 s2 s3 s4 s5 s6 t0 t1 t2 t3 t4 t5 t6
  have t6 := k4.2.2
  have cK := awnums_is B b o (.slice ka KU.length kc) KU w4 HW4.out.2.2.1 HW4.out.2.2.2.1 HKL.out.1 HKL.out.2 (by rw [HKN.out]; exact HK4.out) (by have := HX.out.2.2.2.2.2.2.1; rw [HKO.out.1, HKO.out.2] at this; omega) (HX.out.2.2.2.2.2.2.2.1.wk HW4.out.1)
  rw [HKN.out] at cK
  clear k3 k4
  go_wp2_with fail
  refine cK.mono ?_
  rintro e w5 ⟨rfl, h5, k5⟩
  have K5 : Hid (Wk B b w4 w5) := k5
  have u6 : w5.cell? ⟨cb, 0, none⟩ = some (.pointer (some ⟨b, 0, none⟩)) := HW4.out.2.2.2.2 w5 k5
  have cO := awletters_is B b _ (.slice oa OL.length oc) OL w5 h5 (Nat.le_trans HW4.out.2.2.2.1 k5.size) HO4.out.1 HO4.out.2.1 (HO4.out.2.2.sub fun W hW => k5.trans hW) (by have := HX.out.2.2.2.2.2.2.1; rw [HKO.out.1, HKO.out.2] at this; rw [List.length_append]; omega) (HX.out.2.2.2.2.2.2.2.1.wk (HW4.out.1.trans k5))
  rw [HO4L.out] at cO
  clear cK h5 k5 t6
  go_wp2_with fail
  refine cO.mono ?_
  rintro e w6 ⟨rfl, h6, k6⟩
  have HF : Hid (IsAw B b (o ++ (rowB numB KU ++ rowB letterB OL)) w6 ∧ Wk B b w w6) := ⟨by rw [← List.append_assoc]; exact h6, (HW4.out.1.trans K5.out).trans k6⟩
  clear cO h6 k6
  go_wp2_with fail
  go_end0
  exact ⟨rfl, HF.out.1, HF.out.2⟩
end Go.Proofs.YtdmplfflmdanlaaGreatDoor
