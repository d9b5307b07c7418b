/-
  Two that were saved, the same (letterboxlaw.sameSaved).
-/
import Derived.Test.YtfdlopimncodcaaGreatDoorMRhSaved
import Derived.Test.YtfdlopimncodcaaGreatDoorMLwLetters
namespace Go.Proofs.YtfdlopimncodcaaGreatDoor
open Go.RowKit Go.Proofs.Aid Go.Proofs.Bx
set_option maxHeartbeats 8000000
set_option maxRecDepth 100000
theorem same_saved (S : Svd) (nv bv wv nv2 bv2 wv2 : Value) (w : World) (h : SvAt w nv bv wv S) (h2 : SvAt w nv2 bv2 wv2 S) (hl : S.boxes.length ≤ 30) (hnn : S.names.length ≤ 1000) (hww : S.wants.length ≤ 1000) (hll : ∀ x ∈ S.boxes, x.ls.length ≤ 900) (hff : ∀ x ∈ S.boxes, ∀ y ∈ x.ls, y.flags.length ≤ 400) :
  Calls Tryz.prog 20 #[.agg #[nv, bv, wv, .int .i64 S.next], .agg #[nv2, bv2, wv2, .int .i64 S.next]] w fun e w' => e = .returned (.bool true) ∧ Below w.heap.size w w' := by
 have cV0 := saved_is S nv bv wv
 obtain ⟨nx, hnx⟩ : ∃ n, S.next = n := ⟨_, rfl⟩
 rw [hnx] at cV0 ⊢
 obtain ⟨na1, nc1, rfl, _⟩ := id h.1
 obtain ⟨ba1, bc1, rfl, _⟩ := id h.2.1
 obtain ⟨wa1, vc1, rfl, _⟩ := id h.2.2
 obtain ⟨na2, nc2, rfl, _⟩ := id h2.1
 obtain ⟨ba2, bc2, rfl, _⟩ := id h2.2.1
 obtain ⟨wa2, vc2, rfl, _⟩ := id h2.2.2
 obtain ⟨NN, hNN⟩ : ∃ n, S.names.length = n := ⟨_, rfl⟩
 obtain ⟨N, hN⟩ : ∃ n, S.boxes.length = n := ⟨_, rfl⟩
 obtain ⟨M, hM⟩ : ∃ n, S.wants.length = n := ⟨_, rfl⟩
 rw [hNN, hN, hM] at h h2 cV0 ⊢
 have HH : Hid (S.boxes.length = N ∧ N ≤ 30 ∧ S.names.length ≤ 1000 ∧ S.wants.length ≤ 1000 ∧ (∀ x ∈ S.boxes, x.ls.length ≤ 900) ∧ ∀ x ∈ S.boxes, ∀ y ∈ x.ls, y.flags.length ≤ 400) := ⟨hN, by omega, hnn, hww, hll, hff⟩
 obtain ⟨W1, hW1⟩ : ∃ W, w.alloc (.cells #[.slice na1 NN nc1, .slice ba1 N bc1, .slice wa1 M vc1, .int .i64 nx] 35) = W := ⟨_, rfl⟩
 have b1 : Below w.heap.size w W1 := by rw [← hW1]; exact (Below.refl _ _).alloc (Nat.le_refl _) _
 have e1 : W1.heap[w.heap.size]? = some (.cells #[.slice na1 NN nc1, .slice ba1 N bc1, .slice wa1 M vc1, .int .i64 nx] 35 (0, 0)) := by rw [← hW1]; exact heap_alloc_new _ _
 have z1 : w.heap.size < W1.heap.size := (Array.getElem?_eq_some_iff.1 e1).1
 obtain ⟨W2, hW2⟩ : ∃ W, W1.alloc (.cells #[.slice na2 NN nc2, .slice ba2 N bc2, .slice wa2 M vc2, .int .i64 nx] 53) = W := ⟨_, rfl⟩
 have b2 : Below W1.heap.size W1 W2 := by rw [← hW2]; exact (Below.refl _ _).alloc (Nat.le_refl _) _
 have e2 : W2.heap[W1.heap.size]? = some (.cells #[.slice na2 NN nc2, .slice ba2 N bc2, .slice wa2 M vc2, .int .i64 nx] 53 (0, 0)) := by rw [← hW2]; exact heap_alloc_new _ _
 have z2 : W1.heap.size < W2.heap.size := (Array.getElem?_eq_some_iff.1 e2).1
 have b12 : Below w.heap.size w W2 := b1.trans (b2.mono b1.size)
 have h12 := h.below b12 (Nat.le_refl _)
 have h22 := h2.below b12 (Nat.le_refl _)
 have HOUT : Hid (∀ W, Below W2.heap.size W2 W → Below w.heap.size w W) := fun W hW => b12.trans (hW.mono b12.size)
 have cV := cV0 W2 h12 (by omega)
 have e12 := (b2.block _ z1).trans e1
 have r0 : W2.cell? ⟨w.heap.size, 0, none⟩ = some (.slice na1 NN nc1) := rd_cell e12 rfl
 have r1 : W2.cell? ⟨w.heap.size, 1, none⟩ = some (.slice ba1 N bc1) := rd_cell e12 rfl
 have r2 : W2.cell? ⟨w.heap.size, 2, none⟩ = some (.slice wa1 M vc1) := rd_cell e12 rfl
 have r3 : W2.cell? ⟨w.heap.size, 3, none⟩ = some (.int .i64 nx) := rd_cell e12 rfl
 have HRD : Hid (∀ W, Below W2.heap.size W2 W → W.cell? ⟨W1.heap.size, 0, none⟩ = some (.slice na2 NN nc2) ∧ W.cell? ⟨W1.heap.size, 1, none⟩ = some (.slice ba2 N bc2) ∧ W.cell? ⟨W1.heap.size, 2, none⟩ = some (.slice wa2 M vc2) ∧ W.cell? ⟨W1.heap.size, 3, none⟩ = some (.int .i64 nx)) := fun W hW => by
  have g := (hW.block _ z2).trans e2
  exact ⟨rd_cell g rfl, rd_cell g rfl, rd_cell g rfl, rd_cell g rfl⟩
 have HSV : Hid (∀ W, Below W2.heap.size W2 W → SvAt W (.slice na2 NN nc2) (.slice ba2 N bc2) (.slice wa2 M vc2) S) := fun W hW => h22.below hW (Nat.le_refl _)
 clear h h2 cV0 hl hnn hww hll hff hnx hNN hM b1 e1 b2 e2 b12 h12 h22 e12
 go_enter Tryz.func20, Tryz.ntmps20
 go_upto_region 1 with fail
 go_cut [5] (fun sv wx => ∃ sb, sv = .pointer (some ⟨sb, 0, none⟩) ∧ ∃ ba3 bc3, Hid (Below W2.heap.size W2 wx ∧ wx.heap[sb]? = some (.cells #[.slice na1 NN nc1, .slice ba3 N bc3, .slice wa1 M vc1, .int .i64 nx] 53 (0, 0)) ∧ SvAt wx (.slice na1 NN nc1) (.slice ba3 N bc3) (.slice wa1 M vc1) S))
 case first =>
  go_wp2_with fail
  refine cV.mono ?_
  rintro e w3 ⟨⟨bv', rfl, hsv⟩, hb3⟩
  obtain ⟨ba3, bc3, rfl, _⟩ := id hsv.2.1
  rw [hN] at hsv ⊢
  obtain ⟨W4, hW4⟩ : ∃ W, w3.alloc (.cells #[.slice none 0 0, .slice none 0 0, .slice none 0 0, .int .i64 0] 53) = W := ⟨_, rfl⟩
  have b4 : Below w3.heap.size w3 W4 := by rw [← hW4]; exact (Below.refl _ _).alloc (Nat.le_refl _) _
  have e4 : W4.heap[w3.heap.size]? = some (.cells #[.slice none 0 0, .slice none 0 0, .slice none 0 0, .int .i64 0] 53 (0, 0)) := by rw [← hW4]; exact heap_alloc_new _ _
  obtain ⟨⟨o0, o1, o2, o3⟩, ⟨f0, f1, f2, f3⟩, u⟩ := four_facts e4 (.slice na1 NN nc1) (.slice ba3 N bc3) (.slice wa1 M vc1) (.int .i64 nx)
  have hbut : But w3.heap.size w3.heap.size w3 ((((W4.setCell ⟨w3.heap.size, 0, none⟩ (.slice na1 NN nc1)).setCell ⟨w3.heap.size, 1, none⟩ (.slice ba3 N bc3)).setCell ⟨w3.heap.size, 2, none⟩ (.slice wa1 M vc1)).setCell ⟨w3.heap.size, 3, none⟩ (.int .i64 nx)) := ((((to_but b4).setB 0 _).setB 1 _).setB 2 _).setB 3 _
  have hbb := hbut.below (Nat.le_refl _) (Nat.le_refl _)
  have HF : Hid (Below W2.heap.size W2 ((((W4.setCell ⟨w3.heap.size, 0, none⟩ (.slice na1 NN nc1)).setCell ⟨w3.heap.size, 1, none⟩ (.slice ba3 N bc3)).setCell ⟨w3.heap.size, 2, none⟩ (.slice wa1 M vc1)).setCell ⟨w3.heap.size, 3, none⟩ (.int .i64 nx)) ∧ _ ∧ _) := ⟨hb3.trans (hbb.mono hb3.size), u, hsv.below hbb (Nat.le_refl _)⟩
  clear cV hsv hb3 b4 e4 u hbut hbb
  go_wp2_with fail
  go_meet
  exact ⟨_, rfl, _, _, HF⟩
 case rest =>
  obtain ⟨sb, rfl, ba3, bc3, HX⟩ := hcut
  have hxz : sb < wc.heap.size := (Array.getElem?_eq_some_iff.1 HX.out.2.1).1
  have HRA : Hid (∀ W, Below wc.heap.size wc W → W.cell? ⟨sb, 0, none⟩ = some (.slice na1 NN nc1) ∧ W.cell? ⟨sb, 1, none⟩ = some (.slice ba3 N bc3) ∧ W.cell? ⟨sb, 2, none⟩ = some (.slice wa1 M vc1) ∧ W.cell? ⟨sb, 3, none⟩ = some (.int .i64 nx)) := fun W hW => by
   have g := (hW.block _ hxz).trans HX.out.2.1
   exact ⟨rd_cell g rfl, rd_cell g rfl, rd_cell g rfl, rd_cell g rfl⟩
  clear cV r0 r1 r2 r3 hxz hN
  have HXL : Hid (∀ W, Below wc.heap.size wc W → Below W2.heap.size W2 W) := fun W hW => HX.out.1.trans (hW.mono HX.out.1.size)
  have HT1 : Hid (∀ W, Below wc.heap.size wc W → Calls Tryz.prog 17 #[.slice na1 NN nc1, .slice na2 NN nc2] W fun e w' => e = .returned (.bool true) ∧ Below W.heap.size W w') := fun W hW => by
   refine (same_texts _ _ S.names S.names W (HX.out.2.2.1.below hW (Nat.le_refl _)) (HSV.out W (HXL.out W hW)).1 HH.out.2.2.1 HH.out.2.2.1).mono ?_
   rintro e w' ⟨rfl, q, rfl⟩
   exact ⟨by rw [decide_eq_true rfl], below_drewN (Below.refl _ _) q⟩
  have HT2 : Hid (∀ W, Below wc.heap.size wc W → Calls Tryz.prog 17 #[.slice wa1 M vc1, .slice wa2 M vc2] W fun e w' => e = .returned (.bool true) ∧ Below W.heap.size W w') := fun W hW => by
   refine (same_texts _ _ S.wants S.wants W (HX.out.2.2.2.2.below hW (Nat.le_refl _)) (HSV.out W (HXL.out W hW)).2.2 HH.out.2.2.2.1 HH.out.2.2.2.1).mono ?_
   rintro e w' ⟨rfl, q, rfl⟩
   exact ⟨by rw [decide_eq_true rfl], below_drewN (Below.refl _ _) q⟩
  obtain ⟨a0, a1, a2, a3⟩ := HRA.out wc (Below.refl _ _)
  obtain ⟨c0, c1, c2, c3⟩ := HRD.out wc HX.out.1
  have cT1 := HT1.out wc (Below.refl _ _)
  go_wp2_with fail
  refine cT1.mono ?_
  rintro e w5 ⟨rfl, hb5⟩
  clear a0 a1 a2 a3 c0 c1 c2 c3 cT1
  obtain ⟨a0, a1, a2, a3⟩ := HRA.out w5 hb5
  obtain ⟨c0, c1, c2, c3⟩ := HRD.out w5 (HXL.out w5 hb5)
  have cT2 := HT2.out w5 hb5
  have HB5 : Hid (Below wc.heap.size wc w5) := hb5
  clear hb5
  go_wp2_with fail
  refine cT2.mono ?_
  rintro e w6 ⟨rfl, hb6⟩
  clear a0 a1 a2 a3 c0 c1 c2 c3 cT2
  have hl6 := HB5.out.trans (hb6.mono HB5.out.size)
  obtain ⟨a0, a1, a2, a3⟩ := HRA.out w6 hl6
  obtain ⟨c0, c1, c2, c3⟩ := HRD.out w6 (HXL.out w6 hl6)
  have HB6 : Hid (Below wc.heap.size wc w6) := hl6
  clear hb6 hl6
  go_wp2_with fail
  go_loopw [6] (fun iv wr => ∃ k : Nat, iv = .int .i64 (k : Int) ∧ k ≤ N ∧ Hid (Below wc.heap.size wc wr)) (fun iv _ => N - (intOf iv).toNat)
  case atStart => exact ⟨0, rfl, Nat.zero_le _, HB6⟩
  case round =>
   clear a0 a1 a2 a3 c0 c1 c2 c3
   obtain ⟨k, rfl, hk, HI⟩ := hrel
   have hN30 : N ≤ 30 := HH.out.2.1
   by_cases hlt : k < N
   ·have d1 : decide ((k : Int) < (N : Int)) = true := decide_eq_true (by omega)
    have i1 : (0 : Int) ≤ (k : Int) := by omega
    have i2 : (k : Int) < (N : Int) := by omega
    obtain ⟨x, hBk⟩ : ∃ x, S.boxes[k]? = some x := ⟨_, List.getElem?_eq_getElem (by have := HH.out.1; omega)⟩
    have hxm := List.mem_of_getElem? hBk
    obtain ⟨xv, xn, xl⟩ := x
    have hxl : xl.length ≤ 900 := HH.out.2.2.2.2.1 _ hxm
    have hxf : ∀ y ∈ xl, y.flags.length ≤ 400 := HH.out.2.2.2.2.2 _ hxm
    obtain ⟨p1, o1, rfl, g1, g2, lv1, g3, g4⟩ := bxr_at HX.out.2.2.2.1 hBk
    obtain ⟨p2, o2, rfl, g5, g6, lv2, g7, g8⟩ := bxr_at (HSV.out wc HX.out.1).2.1 hBk
    have g4 : Lts wc lv1 xl := g4
    have g8 : Lts wc lv2 xl := g8
    obtain ⟨la, lc, rfl, _⟩ := id g4
    obtain ⟨la2, lc2, rfl, _⟩ := id g8
    have v1 := World.block_lt_of_cell? _ _ g1
    have v2 := World.block_lt_of_cell? _ _ g5
    have HRX : Hid (∀ W, Below wc.heap.size wc W → W.cell? ⟨sb, 1, none⟩ = some (.slice (some ⟨p1, o1, none⟩) N bc3) ∧ W.cell? ⟨p1, o1 + k * 3, none⟩ = some (.int .i64 xv) ∧ W.cell? ⟨p1, o1 + k * 3 + 1, none⟩ = some (.int .i64 xn) ∧ W.cell? ⟨p1, o1 + k * 3 + 2, none⟩ = some (.slice la xl.length lc) ∧ W.cell? ⟨W1.heap.size, 1, none⟩ = some (.slice (some ⟨p2, o2, none⟩) N bc2) ∧ W.cell? ⟨p2, o2 + k * 3, none⟩ = some (.int .i64 xv) ∧ W.cell? ⟨p2, o2 + k * 3 + 1, none⟩ = some (.int .i64 xn) ∧ W.cell? ⟨p2, o2 + k * 3 + 2, none⟩ = some (.slice la2 xl.length lc2)) := fun W hW =>
     ⟨(HRA.out W hW).2.1, (hW.cell (p := ⟨p1, o1 + k * 3, none⟩) v1).trans g1, (hW.cell (p := ⟨p1, o1 + k * 3 + 1, none⟩) v1).trans g2, (hW.cell (p := ⟨p1, o1 + k * 3 + 2, none⟩) v1).trans g3,
     (HRD.out W (HXL.out W hW)).2.1, (hW.cell (p := ⟨p2, o2 + k * 3, none⟩) v2).trans g5, (hW.cell (p := ⟨p2, o2 + k * 3 + 1, none⟩) v2).trans g6, (hW.cell (p := ⟨p2, o2 + k * 3 + 2, none⟩) v2).trans g7⟩
    have HLT : Hid (∀ W, Below wc.heap.size wc W → Calls Tryz.prog 69 #[.slice la xl.length lc, .slice la2 xl.length lc2] W fun e w' => e = .returned (.bool true) ∧ Below W.heap.size W w') := fun W hW => same_letters _ _ xl W (g4.below hW (Nat.le_refl _)) (g8.below hW (Nat.le_refl _)) (by omega) (fun y hy => by have := hxf y hy; omega)
    obtain ⟨WD, hWD⟩ : ∃ W, wr.drew = W := ⟨_, rfl⟩
    have HBD : Hid (Below wc.heap.size wc WD) := by rw [← hWD]; exact HI.out.drew
    obtain ⟨q0, q1, q2, q3, q4, q5, q6, q7⟩ := HRX.out wr HI.out
    obtain ⟨XL, hXL⟩ : ∃ n, xl.length = n := ⟨_, rfl⟩
    rw [hXL] at HRX HLT q3 q7
    clear hXL hxm hBk hxl hxf g1 g2 g3 g4 g5 g6 g7 g8 v1 v2
    have a1 := q0
    have c1 := q4
    clear a1 c1
    go_upto_region 7 with fail
    refine wp_region_held_drew (S := fun W => W.cell? ⟨sb, 1, none⟩ = some (.slice (some ⟨p1, o1, none⟩) N bc3) ∧ W.cell? ⟨p1, o1 + k * 3, none⟩ = some (.int .i64 xv) ∧ W.cell? ⟨p1, o1 + k * 3 + 1, none⟩ = some (.int .i64 xn) ∧ W.cell? ⟨p1, o1 + k * 3 + 2, none⟩ = some (.slice la XL lc) ∧ W.cell? ⟨W1.heap.size, 1, none⟩ = some (.slice (some ⟨p2, o2, none⟩) N bc2) ∧ W.cell? ⟨p2, o2 + k * 3, none⟩ = some (.int .i64 xv) ∧ W.cell? ⟨p2, o2 + k * 3 + 1, none⟩ = some (.int .i64 xn) ∧ W.cell? ⟨p2, o2 + k * 3 + 2, none⟩ = some (.slice la2 XL lc2)) (by kernel_rfl) ?_ (fun hHeld => ?_)
    ·exact ⟨by simpa using q0, by simpa using q1, by simpa using q2, by simpa using q3, by simpa using q4, by simpa using q5, by simpa using q6, by simpa using q7⟩
    rw [hWD] at hHeld ⊢
    refine wpAnyH_take (i := 0) (v := ?_) rfl (by kernel_rfl) (by kernel_rfl) (by kernel_rfl) (fun _ _ _ h => h) (Or.inl ⟨by rfl, ?_⟩) (by assumption) ?_
    rotate_left
    ·intro w hSw; go_simp; (try with_reducible rfl)
    change wpAnyH _ _ _ _ _ _ _ (Act.put _ (some 46) _) _; simp only [Act.put, List.setIfInBounds_toArray, List.set_cons_zero, List.set_cons_succ]
    refine wpAnyH_take (i := 1) (v := ?_) rfl (by kernel_rfl) (by kernel_rfl) (by kernel_rfl) (fun _ _ _ h => h) (Or.inl ⟨by rfl, ?_⟩) (by assumption) ?_
    rotate_left
    ·intro w hSw; go_simp; (try with_reducible rfl)
    change wpAnyH _ _ _ _ _ _ _ (Act.put _ (some 47) _) _; simp only [Act.put, List.setIfInBounds_toArray, List.set_cons_zero, List.set_cons_succ]
    refine wpAnyH_take (i := 2) (v := ?_) rfl (by kernel_rfl) (by kernel_rfl) (by kernel_rfl) (fun _ _ _ h => h) (Or.inl ⟨by rfl, ?_⟩) (by assumption) ?_
    rotate_left
    ·intro w hSw; go_simp; (try with_reducible rfl)
    change wpAnyH _ _ _ _ _ _ _ (Act.put _ (some 48) _) _; simp only [Act.put, List.setIfInBounds_toArray, List.set_cons_zero, List.set_cons_succ]
    refine wpAnyH_take (i := 3) (v := ?_) rfl (by kernel_rfl) (by kernel_rfl) (by kernel_rfl) (fun _ _ _ h => h) (Or.inl ⟨by rfl, ?_⟩) (by assumption) ?_
    rotate_left
    ·intro w hSw; go_simp; (try with_reducible rfl)
    change wpAnyH _ _ _ _ _ _ _ (Act.put _ (some 49) _) _; simp only [Act.put, List.setIfInBounds_toArray, List.set_cons_zero, List.set_cons_succ]
    refine wpAnyH_take (i := 4) (v := ?_) rfl (by kernel_rfl) (by kernel_rfl) (by kernel_rfl) (fun _ _ _ h => h) (Or.inl ⟨by rfl, ?_⟩) (by assumption) ?_
    rotate_left
    ·intro w hSw; go_simp; (try with_reducible rfl)
    change wpAnyH _ _ _ _ _ _ _ (Act.put _ (some 50) _) _; simp only [Act.put, List.setIfInBounds_toArray, List.set_cons_zero, List.set_cons_succ]
    refine wpAnyH_take (i := 5) (v := ?_) rfl (by kernel_rfl) (by kernel_rfl) (by kernel_rfl) (fun _ _ _ h => h) (Or.inl ⟨by rfl, ?_⟩) (by assumption) ?_
    rotate_left
    ·intro w hSw; go_simp; (try with_reducible rfl)
    change wpAnyH _ _ _ _ _ _ _ (Act.put _ (some 51) _) _; simp only [Act.put, List.setIfInBounds_toArray, List.set_cons_zero, List.set_cons_succ]
    refine wpAnyH_take (i := 6) (v := ?_) rfl (by kernel_rfl) (by kernel_rfl) (by kernel_rfl) (fun _ _ _ h => h) (Or.inl ⟨by rfl, ?_⟩) (by assumption) ?_
    rotate_left
    ·intro w hSw; go_simp; (try with_reducible rfl)
    change wpAnyH _ _ _ _ _ _ _ (Act.put _ (some 52) _) _; simp only [Act.put, List.setIfInBounds_toArray, List.set_cons_zero, List.set_cons_succ]
    refine wpAnyH_take (i := 7) (v := ?_) rfl (by kernel_rfl) (by kernel_rfl) (by kernel_rfl) (fun _ _ _ h => h) (Or.inl ⟨by rfl, ?_⟩) (by assumption) ?_
    rotate_left
    ·intro w hSw; go_simp; (try with_reducible rfl)
    change wpAnyH _ _ _ _ _ _ _ (Act.put _ (some 53) _) _; simp only [Act.put, List.setIfInBounds_toArray, List.set_cons_zero, List.set_cons_succ]
    refine wpAnyH_take (i := 8) (v := ?_) rfl (by kernel_rfl) (by kernel_rfl) (by kernel_rfl) (fun _ _ _ h => h) (Or.inl ⟨by rfl, ?_⟩) (by assumption) ?_
    rotate_left
    ·intro w hSw; go_simp; (try with_reducible rfl)
    change wpAnyH _ _ _ _ _ _ _ (Act.put _ (some 54) _) _; simp only [Act.put, List.setIfInBounds_toArray, List.set_cons_zero, List.set_cons_succ]
    refine wpAnyH_take (i := 9) (v := ?_) rfl (by kernel_rfl) (by kernel_rfl) (by kernel_rfl) (fun _ _ _ h => h) (Or.inl ⟨by rfl, ?_⟩) (by assumption) ?_
    rotate_left
    ·intro w hSw; go_simp; (try with_reducible rfl)
    change wpAnyH _ _ _ _ _ _ _ (Act.put _ (some 55) _) _; simp only [Act.put, List.setIfInBounds_toArray, List.set_cons_zero, List.set_cons_succ]
    refine wpAnyH_take (i := 10) (v := ?_) rfl (by kernel_rfl) (by kernel_rfl) (by kernel_rfl) (fun _ _ _ h => h) (Or.inl ⟨by rfl, ?_⟩) (by assumption) ?_
    rotate_left
    ·intro w hSw; go_simp; (try with_reducible rfl)
    change wpAnyH _ _ _ _ _ _ _ (Act.put _ (some 56) _) _; simp only [Act.put, List.setIfInBounds_toArray, List.set_cons_zero, List.set_cons_succ]
    refine wpAnyH_take (i := 11) (v := ?_) rfl (by kernel_rfl) (by kernel_rfl) (by kernel_rfl) (fun _ _ _ h => h) (Or.inl ⟨by rfl, ?_⟩) (by assumption) ?_
    rotate_left
    ·intro w hSw; go_simp; (try with_reducible rfl)
    change wpAnyH _ _ _ _ _ _ _ (Act.put _ (some 57) _) _; simp only [Act.put, List.setIfInBounds_toArray, List.set_cons_zero, List.set_cons_succ]
    refine wpAnyH_take (i := 12) (v := ?_) rfl (by kernel_rfl) (by kernel_rfl) (by kernel_rfl) (fun _ _ _ h => h) (Or.inl ⟨by rfl, ?_⟩) (by assumption) ?_
    rotate_left
    ·intro w hSw; go_simp; (try with_reducible rfl)
    change wpAnyH _ _ _ _ _ _ _ (Act.put _ (some 58) _) _; simp only [Act.put, List.setIfInBounds_toArray, List.set_cons_zero, List.set_cons_succ]
    refine wpAnyH_take (i := 13) (v := ?_) rfl (by kernel_rfl) (by kernel_rfl) (by kernel_rfl) (fun _ _ _ h => h) (Or.inl ⟨by rfl, ?_⟩) (by assumption) ?_
    rotate_left
    ·intro w hSw; go_simp; (try with_reducible rfl)
    change wpAnyH _ _ _ _ _ _ _ (Act.put _ (some 59) _) _; simp only [Act.put, List.setIfInBounds_toArray, List.set_cons_zero, List.set_cons_succ]
    refine wpAnyH_take (i := 14) (v := ?_) rfl (by kernel_rfl) (by kernel_rfl) (by kernel_rfl) (fun _ _ _ h => h) (Or.inl ⟨by rfl, ?_⟩) (by assumption) ?_
    rotate_left
    ·intro w hSw; go_simp; (try with_reducible rfl)
    change wpAnyH _ _ _ _ _ _ _ (Act.put _ (some 60) _) _; simp only [Act.put, List.setIfInBounds_toArray, List.set_cons_zero, List.set_cons_succ]
    refine wpAnyH_take (i := 15) (v := ?_) rfl (by kernel_rfl) (by kernel_rfl) (by kernel_rfl) (fun _ _ _ h => h) (Or.inl ⟨by rfl, ?_⟩) (by assumption) ?_
    rotate_left
    ·intro w hSw; go_simp; (try with_reducible rfl)
    change wpAnyH _ _ _ _ _ _ _ (Act.put _ (some 61) _) _; simp only [Act.put, List.setIfInBounds_toArray, List.set_cons_zero, List.set_cons_succ]
    refine wpAnyH_take (i := 16) (v := ?_) rfl (by kernel_rfl) (by kernel_rfl) (by kernel_rfl) (fun _ _ _ h => h) (Or.inl ⟨by rfl, ?_⟩) (by assumption) ?_
    rotate_left
    ·intro w hSw; go_simp; (try with_reducible rfl)
    change wpAnyH _ _ _ _ _ _ _ (Act.put _ (some 62) _) _; simp only [Act.put, List.setIfInBounds_toArray, List.set_cons_zero, List.set_cons_succ]
    refine wpAnyH_take (i := 17) (v := ?_) rfl (by kernel_rfl) (by kernel_rfl) (by kernel_rfl) (fun _ _ _ h => h) (Or.inl ⟨by rfl, ?_⟩) (by assumption) ?_
    rotate_left
    ·intro w hSw; go_simp; (try with_reducible rfl)
    change wpAnyH _ _ _ _ _ _ _ (Act.put _ (some 63) _) _; simp only [Act.put, List.setIfInBounds_toArray, List.set_cons_zero, List.set_cons_succ]
    refine wpAnyH_take (i := 18) (v := ?_) rfl (by kernel_rfl) (by kernel_rfl) (by kernel_rfl) (fun _ _ _ h => h) (Or.inl ⟨by rfl, ?_⟩) (by assumption) ?_
    rotate_left
    ·intro w hSw; go_simp; (try with_reducible rfl)
    change wpAnyH _ _ _ _ _ _ _ (Act.put _ (some 64) _) _; simp only [Act.put, List.setIfInBounds_toArray, List.set_cons_zero, List.set_cons_succ]
    refine wpAnyH_take (i := 19) (v := ?_) rfl (by kernel_rfl) (by kernel_rfl) (by kernel_rfl) (fun _ _ _ h => h) (Or.inl ⟨by rfl, ?_⟩) (by assumption) ?_
    rotate_left
    ·intro w hSw; go_simp; (try with_reducible rfl)
    change wpAnyH _ _ _ _ _ _ _ (Act.put _ (some 65) _) _; simp only [Act.put, List.setIfInBounds_toArray, List.set_cons_zero, List.set_cons_succ]
    refine wpAnyH_take (i := 20) (v := ?_) rfl (by kernel_rfl) (by kernel_rfl) (by kernel_rfl) (fun _ _ _ h => h) (Or.inl ⟨by rfl, ?_⟩) (by assumption) ?_
    rotate_left
    ·intro w hSw; go_simp; (try with_reducible rfl)
    change wpAnyH _ _ _ _ _ _ _ (Act.put _ (some 66) _) _; simp only [Act.put, List.setIfInBounds_toArray, List.set_cons_zero, List.set_cons_succ]
    refine wpAnyH_take (i := 21) (v := ?_) rfl (by kernel_rfl) (by kernel_rfl) (by kernel_rfl) (fun _ _ _ h => h) (Or.inl ⟨by rfl, ?_⟩) (by assumption) ?_
    rotate_left
    ·intro w hSw; go_simp; (try with_reducible rfl)
    change wpAnyH _ _ _ _ _ _ _ (Act.put _ (some 67) _) _; simp only [Act.put, List.setIfInBounds_toArray, List.set_cons_zero, List.set_cons_succ]
    refine wpAnyH_take (i := 22) (v := ?_) rfl (by kernel_rfl) (by kernel_rfl) (by kernel_rfl) (fun _ _ _ h => h) (Or.inl ⟨by rfl, ?_⟩) (by assumption) ?_
    rotate_left
    ·intro w hSw; go_simp; (try with_reducible rfl)
    change wpAnyH _ _ _ _ _ _ _ (Act.put _ (some 68) _) _; simp only [Act.put, List.setIfInBounds_toArray, List.set_cons_zero, List.set_cons_succ]
    refine wpAnyH_take (i := 23) (v := ?_) rfl (by kernel_rfl) (by kernel_rfl) (by kernel_rfl) (fun _ _ _ h => h) (Or.inl ⟨by rfl, ?_⟩) (by assumption) ?_
    rotate_left
    ·intro w hSw; go_simp; (try with_reducible rfl)
    change wpAnyH _ _ _ _ _ _ _ (Act.put _ (some 69) _) _; simp only [Act.put, List.setIfInBounds_toArray, List.set_cons_zero, List.set_cons_succ]
    refine wpAnyH_take (i := 24) (v := ?_) rfl (by kernel_rfl) (by kernel_rfl) (by kernel_rfl) (fun _ _ _ h => h) (Or.inl ⟨by rfl, ?_⟩) (by assumption) ?_
    rotate_left
    ·intro w hSw; go_simp; (try with_reducible rfl)
    change wpAnyH _ _ _ _ _ _ _ (Act.put _ (some 70) _) _; simp only [Act.put, List.setIfInBounds_toArray, List.set_cons_zero, List.set_cons_succ]
    refine wpAnyH_take (i := 25) (v := ?_) rfl (by kernel_rfl) (by kernel_rfl) (by kernel_rfl) (fun _ _ _ h => h) (Or.inl ⟨by rfl, ?_⟩) (by assumption) ?_
    rotate_left
    ·intro w hSw; go_simp; (try with_reducible rfl)
    change wpAnyH _ _ _ _ _ _ _ (Act.put _ (some 71) _) _; simp only [Act.put, List.setIfInBounds_toArray, List.set_cons_zero, List.set_cons_succ]
    refine wpAnyH_take (i := 26) (v := ?_) rfl (by kernel_rfl) (by kernel_rfl) (by kernel_rfl) (fun _ _ _ h => h) (Or.inl ⟨by rfl, ?_⟩) (by assumption) ?_
    rotate_left
    ·intro w hSw; go_simp; (try with_reducible rfl)
    change wpAnyH _ _ _ _ _ _ _ (Act.put _ (some 72) _) _; simp only [Act.put, List.setIfInBounds_toArray, List.set_cons_zero, List.set_cons_succ]
    refine wpAnyH_take (i := 27) (v := ?_) rfl (by kernel_rfl) (by kernel_rfl) (by kernel_rfl) (fun _ _ _ h => h) (Or.inl ⟨by rfl, ?_⟩) (by assumption) ?_
    rotate_left
    ·intro w hSw; go_simp; (try with_reducible rfl)
    change wpAnyH _ _ _ _ _ _ _ (Act.put _ (some 73) _) _; simp only [Act.put, List.setIfInBounds_toArray, List.set_cons_zero, List.set_cons_succ]
    refine wpAnyH_take (i := 28) (v := ?_) rfl (by kernel_rfl) (by kernel_rfl) (by kernel_rfl) (fun _ _ _ h => h) (Or.inl ⟨by rfl, ?_⟩) (by assumption) ?_
    rotate_left
    ·intro w hSw; go_simp; (try with_reducible rfl)
    change wpAnyH _ _ _ _ _ _ _ (Act.put _ (some 74) _) _; simp only [Act.put, List.setIfInBounds_toArray, List.set_cons_zero, List.set_cons_succ]
    refine wpAnyH_take (i := 29) (v := ?_) rfl (by kernel_rfl) (by kernel_rfl) (by kernel_rfl) (fun _ _ _ h => h) (Or.inl ⟨by rfl, ?_⟩) (by assumption) ?_
    rotate_left
    ·intro w hSw; go_simp; (try with_reducible rfl)
    change wpAnyH _ _ _ _ _ _ _ (Act.put _ (some 75) _) _; simp only [Act.put, List.setIfInBounds_toArray, List.set_cons_zero, List.set_cons_succ]
    refine wpAnyH_take (i := 30) (v := ?_) rfl (by kernel_rfl) (by kernel_rfl) (by kernel_rfl) (fun _ _ _ h => h) (Or.inl ⟨by rfl, ?_⟩) (by assumption) ?_
    rotate_left
    ·intro w hSw; go_simp; (try with_reducible rfl)
    change wpAnyH _ _ _ _ _ _ _ (Act.put _ (some 76) _) _; simp only [Act.put, List.setIfInBounds_toArray, List.set_cons_zero, List.set_cons_succ]
    refine wpAnyH_take (i := 31) (v := ?_) rfl (by kernel_rfl) (by kernel_rfl) (by kernel_rfl) (fun _ _ _ h => h) (Or.inl ⟨by rfl, ?_⟩) (by assumption) ?_
    rotate_left
    ·intro w hSw; go_simp; (try with_reducible rfl)
    change wpAnyH _ _ _ _ _ _ _ (Act.put _ (some 77) _) _; simp only [Act.put, List.setIfInBounds_toArray, List.set_cons_zero, List.set_cons_succ]
    refine wpAnyH_take (i := 32) (v := ?_) rfl (by kernel_rfl) (by kernel_rfl) (by kernel_rfl) (fun _ _ _ h => h) (Or.inl ⟨by rfl, ?_⟩) (by assumption) ?_
    rotate_left
    ·intro w hSw; go_simp; (try with_reducible rfl)
    change wpAnyH _ _ _ _ _ _ _ (Act.put _ (some 78) _) _; simp only [Act.put, List.setIfInBounds_toArray, List.set_cons_zero, List.set_cons_succ]
    refine wpAnyH_take (i := 33) (v := ?_) rfl (by kernel_rfl) (by kernel_rfl) (by kernel_rfl) (fun _ _ _ h => h) (Or.inl ⟨by rfl, ?_⟩) (by assumption) ?_
    rotate_left
    ·intro w hSw; go_simp; (try with_reducible rfl)
    change wpAnyH _ _ _ _ _ _ _ (Act.put _ (some 79) _) _; simp only [Act.put, List.setIfInBounds_toArray, List.set_cons_zero, List.set_cons_succ]
    refine wpAnyH_take (i := 34) (v := ?_) rfl (by kernel_rfl) (by kernel_rfl) (by kernel_rfl) (fun _ _ _ h => h) (Or.inl ⟨by rfl, ?_⟩) (by assumption) ?_
    rotate_left
    ·intro w hSw; go_simp; (try with_reducible rfl)
    change wpAnyH _ _ _ _ _ _ _ (Act.put _ (some 80) _) _; simp only [Act.put, List.setIfInBounds_toArray, List.set_cons_zero, List.set_cons_succ]
    refine wpAnyH_take (i := 35) (v := ?_) rfl (by kernel_rfl) (by kernel_rfl) (by kernel_rfl) (fun _ _ _ h => h) (Or.inl ⟨by rfl, ?_⟩) (by assumption) ?_
    rotate_left
    ·intro w hSw; go_simp; (try with_reducible rfl)
    change wpAnyH _ _ _ _ _ _ _ (Act.put _ (some 81) _) _; simp only [Act.put, List.setIfInBounds_toArray, List.set_cons_zero, List.set_cons_succ]
    refine wpAnyH_take (i := 36) (v := ?_) rfl (by kernel_rfl) (by kernel_rfl) (by kernel_rfl) (fun _ _ _ h => h) (Or.inl ⟨by rfl, ?_⟩) (by assumption) ?_
    rotate_left
    ·intro w hSw; go_simp; (try with_reducible rfl)
    change wpAnyH _ _ _ _ _ _ _ (Act.put _ (some 82) _) _; simp only [Act.put, List.setIfInBounds_toArray, List.set_cons_zero, List.set_cons_succ]
    refine wpAnyH_take (i := 37) (v := ?_) rfl (by kernel_rfl) (by kernel_rfl) (by kernel_rfl) (fun _ _ _ h => h) (Or.inl ⟨by rfl, ?_⟩) (by assumption) ?_
    rotate_left
    ·intro w hSw; go_simp; (try with_reducible rfl)
    change wpAnyH _ _ _ _ _ _ _ (Act.put _ (some 83) _) _; simp only [Act.put, List.setIfInBounds_toArray, List.set_cons_zero, List.set_cons_succ]
    refine wpAnyH_take (i := 38) (v := ?_) rfl (by kernel_rfl) (by kernel_rfl) (by kernel_rfl) (fun _ _ _ h => h) (Or.inl ⟨by rfl, ?_⟩) (by assumption) ?_
    rotate_left
    ·intro w hSw; go_simp; (try with_reducible rfl)
    change wpAnyH _ _ _ _ _ _ _ (Act.put _ (some 84) _) _; simp only [Act.put, List.setIfInBounds_toArray, List.set_cons_zero, List.set_cons_succ]
    refine wpAnyH_take (i := 39) (v := ?_) rfl (by kernel_rfl) (by kernel_rfl) (by kernel_rfl) (fun _ _ _ h => h) (Or.inl ⟨by rfl, ?_⟩) (by assumption) ?_
    rotate_left
    ·intro w hSw; go_simp; (try with_reducible rfl)
    change wpAnyH _ _ _ _ _ _ _ (Act.put _ (some 85) _) _; simp only [Act.put, List.setIfInBounds_toArray, List.set_cons_zero, List.set_cons_succ]
    refine wpAnyH_take (i := 40) (v := ?_) rfl (by kernel_rfl) (by kernel_rfl) (by kernel_rfl) (fun _ _ _ h => h) (Or.inl ⟨by rfl, ?_⟩) (by assumption) ?_
    rotate_left
    ·intro w hSw; go_simp; (try with_reducible rfl)
    change wpAnyH _ _ _ _ _ _ _ (Act.put _ (some 86) _) _; simp only [Act.put, List.setIfInBounds_toArray, List.set_cons_zero, List.set_cons_succ]
    refine wpAnyH_ready (rs := [41]) (by kernel_rfl) (by simp) ?_
    refine AllReadyH.cons rfl (fun K hK => ?_) AllReadyH.nil
    go_simp
    refine (HLT.out WD HBD.out).mono ?_
    rintro e w8 ⟨rfl, hb8⟩
    have hl8 : Below wc.heap.size wc w8 := HBD.out.trans (hb8.mono HBD.out.size)
    have k8 := HRX.out w8 hl8
    clear hb8
    refine hK.out _ _ ?_ (fun hHeld => ?_)
    ·exact k8
    clear hK K
    refine wpAnyH_take (i := 42) (v := ?_) rfl (by kernel_rfl) (by kernel_rfl) (by kernel_rfl) (fun _ _ _ h => h) (Or.inl ⟨by rfl, ?_⟩) (by assumption) ?_
    rotate_left
    ·intro w hSw; go_simp; (try with_reducible rfl)
    change wpAnyH _ _ _ _ _ _ _ (Act.put _ (some 88) _) _; simp only [Act.put, List.setIfInBounds_toArray, List.set_cons_zero, List.set_cons_succ]
    refine wpAnyH_take (i := 43) (v := ?_) rfl (by kernel_rfl) (by kernel_rfl) (by kernel_rfl) (fun _ _ _ h => h) (Or.inl ⟨by rfl, ?_⟩) (by assumption) ?_
    rotate_left
    ·intro w hSw; go_simp; (try with_reducible rfl)
    change wpAnyH _ _ _ _ _ _ _ (Act.put _ (some 89) _) _; simp only [Act.put, List.setIfInBounds_toArray, List.set_cons_zero, List.set_cons_succ]
    refine wpAnyH_done (by kernel_rfl) ?_ _
    clear hHeld k8
    have HI8 : Hid (Below wc.heap.size wc w8) := hl8
    clear hl8
    go_wp2_with fail
    go_roundw
    case rel => exact ⟨k + 1, by go_num, by omega, HI8⟩
    case measure => simp [intOf]; omega
   ·have d1 : decide ((k : Int) < (N : Int)) = false := decide_eq_false (by omega)
    obtain rfl : k = N := by omega
    obtain ⟨a0, a1, a2, a3⟩ := HRA.out wr HI.out
    have HF : Hid (Below w.heap.size w wr) := HOUT.out wr (HXL.out wr HI.out)
    go_wp2_with fail
    go_ret
    exact ⟨rfl, HF.out⟩
end Go.Proofs.YtfdlopimncodcaaGreatDoor
