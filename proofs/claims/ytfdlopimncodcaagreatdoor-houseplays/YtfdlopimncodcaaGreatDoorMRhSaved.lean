/-
  What a house has, as the document's (letterboxlaw.saved).
-/
import Derived.Test.YtfdlopimncodcaaGreatDoorMRhSave
namespace Go.Proofs.YtfdlopimncodcaaGreatDoor
open Go.RowKit Go.Proofs.Aid Go.Proofs.Bx
set_option maxHeartbeats 8000000
set_option maxRecDepth 100000
theorem saved_is (S : Svd) (nv bv wv : Value) (w : World) (h : SvAt w nv bv wv S) (hl : S.boxes.length ≤ 30) :
  Calls Tryz.prog 68 #[.agg #[nv, bv, wv, .int .i64 S.next]] w fun e w' => (∃ bv', e = .returned (.agg #[nv, bv', wv, .int .i64 S.next]) ∧ SvAt w' nv bv' wv S) ∧ Below w.heap.size w w' := by
 obtain ⟨nx, hnx⟩ : ∃ n, S.next = n := ⟨_, rfl⟩
 rw [hnx]
 obtain ⟨na, nc, rfl, _⟩ := id h.1
 obtain ⟨ba, bc, rfl, _⟩ := id h.2.1
 obtain ⟨wa, vc, rfl, _⟩ := id h.2.2
 obtain ⟨NN, hNN⟩ : ∃ n, S.names.length = n := ⟨_, rfl⟩
 obtain ⟨N, hN⟩ : ∃ n, S.boxes.length = n := ⟨_, rfl⟩
 obtain ⟨M, hM⟩ : ∃ n, S.wants.length = n := ⟨_, rfl⟩
 rw [hNN, hN, hM] at h ⊢
 have HH : Hid (SvAt w (.slice na NN nc) (.slice ba N bc) (.slice wa M vc) S ∧ S.boxes.length = N ∧ N ≤ 30) := ⟨h, hN, by omega⟩
 obtain ⟨W1, hW1⟩ : ∃ W, w.alloc (.cells #[.slice na NN nc, .slice ba N bc, .slice wa M vc, .int .i64 nx] 35) = W := ⟨_, rfl⟩
 have b1 : Below w.heap.size w W1 := by rw [← hW1]; exact (Below.refl _ _).alloc (Nat.le_refl _) _
 have e1 : W1.heap[w.heap.size]? = some (.cells #[.slice na NN nc, .slice ba N bc, .slice wa M vc, .int .i64 nx] 35 (0, 0)) := by rw [← hW1]; exact heap_alloc_new _ _
 have z1 : w.heap.size < W1.heap.size := (Array.getElem?_eq_some_iff.1 e1).1
 have HB1 : Hid (Below w.heap.size w W1) := b1
 have HRD : Hid (∀ W, Below W1.heap.size W1 W → W.cell? ⟨w.heap.size, 0, none⟩ = some (.slice na NN nc) ∧ W.cell? ⟨w.heap.size, 1, none⟩ = some (.slice ba N bc) ∧ W.cell? ⟨w.heap.size, 2, none⟩ = some (.slice wa M vc) ∧ W.cell? ⟨w.heap.size, 3, none⟩ = some (.int .i64 nx)) := fun W hW => by
  have g := (hW.block _ z1).trans e1
  exact ⟨rd_cell g rfl, rd_cell g rfl, rd_cell g rfl, rd_cell g rfl⟩
 have HSV : Hid (∀ W, Below W1.heap.size W1 W → SvAt W (.slice na NN nc) (.slice ba N bc) (.slice wa M vc) S) := fun W hW => (h.below b1 (Nat.le_refl _)).below hW (Nat.le_refl _)
 obtain ⟨W2, hW2⟩ : ∃ W, W1.alloc (.cells #[.slice none 0 0, .slice none 0 0, .slice none 0 0, .int .i64 0] 53) = W := ⟨_, rfl⟩
 have b2 : Below W1.heap.size W1 W2 := by rw [← hW2]; exact (Below.refl _ _).alloc (Nat.le_refl _) _
 have e2 : W2.heap[W1.heap.size]? = some (.cells #[.slice none 0 0, .slice none 0 0, .slice none 0 0, .int .i64 0] 53 (0, 0)) := by rw [← hW2]; exact heap_alloc_new _ _
 obtain ⟨W3, hW3⟩ : ∃ W, W2.alloc (.cells #[.slice none 0 0, .slice none 0 0, .slice none 0 0, .int .i64 0] 53) = W := ⟨_, rfl⟩
 have b3 : Below W2.heap.size W2 W3 := by rw [← hW3]; exact (Below.refl _ _).alloc (Nat.le_refl _) _
 have e3 : W3.heap[W2.heap.size]? = some (.cells #[.slice none 0 0, .slice none 0 0, .slice none 0 0, .int .i64 0] 53 (0, 0)) := by rw [← hW3]; exact heap_alloc_new _ _
 have z2 : W1.heap.size < W2.heap.size := (Array.getElem?_eq_some_iff.1 e2).1
 have hl3 : Below W1.heap.size W1 W3 := b2.trans (b3.mono b2.size)
 have sv3 := HSV.out W3 hl3
 obtain ⟨⟨o0, o1, o2, o3⟩, ⟨f0, f1, f2, f3⟩, _⟩ := four_facts e3 (.slice na NN nc) (.slice none 0 0) (.slice wa M vc) (.int .i64 nx)
 have HF := rsvi_start (nx := nx) hl3 hl3.size ((b3.block _ z2).trans e2) e3 z2 sv3.1 sv3.2.2
 obtain ⟨c0, c1, c2, c3⟩ := HRD.out W2 b2
 clear h hl hnx hNN hN hM b1 e1 b2 e2 b3 e3 hl3 sv3
 go_enter Tryz.func68, Tryz.ntmps68
 go_upto_region 1 with fail
 go_cut [3] (fun sv wx => ∃ sb, sv = .pointer (some ⟨sb, 0, none⟩) ∧ ∃ base, Hid (RSvI W1 sb base (.slice na NN nc) (.slice none 0 0) (.slice wa M vc) nx S.names S.wants [] wx))
 case first =>
  go_wp2_with fail
  go_meet
  exact ⟨_, rfl, _, HF⟩
 case rest =>
  obtain ⟨sb, rfl, base, HI0⟩ := hcut
  clear HF c0 c1 c2 c3 o0 o1 o2 o3 f0 f1 f2 f3 hW2 hW3 z2
  obtain ⟨c0, c1, c2, c3⟩ := HRD.out _ HI0.out.low
  go_wp2_with fail
  go_loopw [4] (fun iv wr => ∃ k : Nat, iv = .int .i64 (k : Int) ∧ k ≤ N ∧ ∃ va ca, Hid (RSvI W1 sb base (.slice na NN nc) (.slice va k ca) (.slice wa M vc) nx S.names S.wants (S.boxes.take k) wr)) (fun iv _ => N - (intOf iv).toNat)
  case atStart => exact ⟨0, rfl, Nat.zero_le _, none, 0, HI0⟩
  case round =>
   clear HI0 c0 c1 c2 c3
   obtain ⟨k, rfl, hk, va, ca, HI⟩ := hrel
   obtain ⟨c0, c1, c2, c3⟩ := HRD.out wr HI.out.low
   by_cases hlt : k < N
   ·have d1 : decide ((k : Int) < (N : Int)) = true := decide_eq_true (by omega)
    have hN30 : N ≤ 30 := HH.out.2.2
    have i1 : (0 : Int) ≤ (k : Int) := by omega
    have i2 : (k : Int) < (N : Int) := by omega
    obtain ⟨x, hBk⟩ : ∃ x, S.boxes[k]? = some x := ⟨_, List.getElem?_eq_getElem (by have := HH.out.2.1; omega)⟩
    obtain ⟨xv, xn, xl⟩ := x
    have hba := bxr_at (HSV.out W1 (Below.refl _ _)).2.1 hBk
    obtain ⟨bb, bo, rfl, _⟩ := hba
    obtain ⟨b', o', hbo, p1, p2, lv, p3, p4⟩ := bxr_at (HSV.out W1 (Below.refl _ _)).2.1 hBk
    obtain ⟨rfl, rfl⟩ : bb = b' ∧ bo = o' := by injection hbo with h1; injection h1 with h1 h2 _; exact ⟨h1, h2⟩
    have p4 : Lts W1 lv xl := p4
    obtain ⟨la, lc, rfl, _⟩ := id p4
    have p1 : W1.cell? ⟨bb, bo + k * 3, none⟩ = some (.int .i64 xv) := p1
    have p2 : W1.cell? ⟨bb, bo + k * 3 + 1, none⟩ = some (.int .i64 xn) := p2
    have hbl := World.block_lt_of_cell? _ _ p1
    obtain ⟨WD, hWD⟩ : ∃ W, wr.drew = W := ⟨_, rfl⟩
    have hbD : Below wr.heap.size wr WD := by rw [← hWD]; exact (Below.refl _ _).drew
    have HLOW : Hid (Below W1.heap.size W1 wr) := HI.out.low
    have HSB : Hid (sb < wr.heap.size) := by have := HI.out.sep; show sb < _; omega
    have HRX : Hid (∀ W, Below W1.heap.size W1 W → W.cell? ⟨w.heap.size, 1, none⟩ = some (.slice (some ⟨bb, bo, none⟩) N bc) ∧ W.cell? ⟨bb, bo + k * 3, none⟩ = some (.int .i64 xv) ∧ W.cell? ⟨bb, bo + k * 3 + 1, none⟩ = some (.int .i64 xn) ∧ W.cell? ⟨bb, bo + k * 3 + 2, none⟩ = some (.slice la xl.length lc)) := fun W hW =>
     ⟨(HRD.out W hW).2.1, (hW.cell (p := ⟨bb, bo + k * 3, none⟩) hbl).trans p1, (hW.cell (p := ⟨bb, bo + k * 3 + 1, none⟩) hbl).trans p2, (hW.cell (p := ⟨bb, bo + k * 3 + 2, none⟩) hbl).trans p3⟩
    have hB7 : Below W1.heap.size W1 WD := HLOW.out.trans (hbD.mono HLOW.out.size)
    have HPU := HI.out.push (by rw [List.length_take]; have := HH.out.2.1; omega) (by have := HH.out.2.2; omega) hbD ⟨xv, xn, xl⟩ (.slice la xl.length lc) (p4.below hB7 (Nat.le_refl _))
    rw [show S.boxes.take k ++ [⟨xv, xn, xl⟩] = S.boxes.take (k + 1) by rw [List.take_add_one, hBk]; rfl] at HPU
    obtain ⟨g9, cap9, W9, hap, k9, f9, b9, HN9⟩ := HPU
    have hap : (Builtin.append_ #[51, 51] 51 #[.slice va k ca, .slice (some ⟨WD.heap.size, 0, none⟩) 1 1]).run Tryz.prog (WD.alloc (.cells #[.int .i64 xv, .int .i64 xn, .slice la xl.length lc] 84)) = .ok (.slice (some ⟨g9, 0, none⟩) (k + 1) cap9) W9 := hap
    obtain ⟨q0, q1, q2, q3⟩ := HRX.out wr HLOW.out
    have mD : WD.cell? ⟨sb, 1, none⟩ = some (.slice va k ca) := (hbD.cell (p := ⟨sb, 1, none⟩) HSB.out).trans (rd_cell HI.out.cell rfl)
    have s8 := HRX.out (WD.alloc (.cells #[.int .i64 xv, .int .i64 xn, .slice la xl.length lc] 84)) (hB7.alloc hB7.size _)
    have m8 : (WD.alloc (.cells #[.int .i64 xv, .int .i64 xn, .slice la xl.length lc] 84)).cell? ⟨sb, 1, none⟩ = some (.slice va k ca) := (((Below.refl _ _).alloc (Nat.le_refl WD.heap.size) _).cell (p := ⟨sb, 1, none⟩) (World.block_lt_of_cell? _ _ mD)).trans mD
    have s9 := HRX.out W9 b9
    have HS9 : Hid (Below W1.heap.size W1 (W9.setCell ⟨sb, 1, none⟩ (.slice (some ⟨g9, 0, none⟩) (k + 1) cap9))) := HN9.out.low
    clear HI hBk p1 p2 p3 p4 hbl hbD hB7 b9 c0 c1 c2 c3 HRD hbo
    have HRD := HRX
    go_upto_region 5 with fail
    refine wp_region_held_drew (S := fun W => W.cell? ⟨w.heap.size, 1, none⟩ = some (.slice (some ⟨bb, bo, none⟩) N bc) ∧ W.cell? ⟨bb, bo + k * 3, none⟩ = some (.int .i64 xv) ∧ W.cell? ⟨bb, bo + k * 3 + 1, none⟩ = some (.int .i64 xn) ∧ W.cell? ⟨bb, bo + k * 3 + 2, none⟩ = some (.slice la xl.length lc)) (by kernel_rfl) ?_ (fun hHeld => ?_)
    ·exact ⟨by simpa using q0, by simpa using q1, by simpa using q2, by simpa using q3⟩
    rw [hWD] at hHeld ⊢
    refine wpAnyH_take (i := 0) (v := ?_) rfl (by kernel_rfl) (by kernel_rfl) (by kernel_rfl) (fun _ _ _ h => h) (Or.inl ⟨by rfl, ?_⟩) (by assumption) ?_
    rotate_left
    ·intro w hSw; go_simp; (try with_reducible rfl)
    change wpAnyH _ _ _ _ _ _ _ (Act.put _ (some 19) _) _; simp only [Act.put, List.setIfInBounds_toArray, List.set_cons_zero, List.set_cons_succ]
    refine wpAnyH_take (i := 2) (v := ?_) rfl (by kernel_rfl) (by kernel_rfl) (by kernel_rfl) (fun _ _ _ h => h) (Or.inl ⟨by rfl, ?_⟩) (by assumption) ?_
    rotate_left
    ·intro w hSw; go_simp; (try with_reducible rfl)
    change wpAnyH _ _ _ _ _ _ _ (Act.put _ (some 21) _) _; simp only [Act.put, List.setIfInBounds_toArray, List.set_cons_zero, List.set_cons_succ]
    refine wpAnyH_take (i := 3) (v := ?_) rfl (by kernel_rfl) (by kernel_rfl) (by kernel_rfl) (fun _ _ _ h => h) (Or.inl ⟨by rfl, ?_⟩) (by assumption) ?_
    rotate_left
    ·intro w hSw; go_simp; (try with_reducible rfl)
    change wpAnyH _ _ _ _ _ _ _ (Act.put _ (some 22) _) _; simp only [Act.put, List.setIfInBounds_toArray, List.set_cons_zero, List.set_cons_succ]
    refine wpAnyH_take (i := 4) (v := ?_) rfl (by kernel_rfl) (by kernel_rfl) (by kernel_rfl) (fun _ _ _ h => h) (Or.inl ⟨by rfl, ?_⟩) (by assumption) ?_
    rotate_left
    ·intro w hSw; go_simp; (try with_reducible rfl)
    change wpAnyH _ _ _ _ _ _ _ (Act.put _ (some 23) _) _; simp only [Act.put, List.setIfInBounds_toArray, List.set_cons_zero, List.set_cons_succ]
    refine wpAnyH_take (i := 5) (v := ?_) rfl (by kernel_rfl) (by kernel_rfl) (by kernel_rfl) (fun _ _ _ h => h) (Or.inl ⟨by rfl, ?_⟩) (by assumption) ?_
    rotate_left
    ·intro w hSw; go_simp; (try with_reducible rfl)
    change wpAnyH _ _ _ _ _ _ _ (Act.put _ (some 24) _) _; simp only [Act.put, List.setIfInBounds_toArray, List.set_cons_zero, List.set_cons_succ]
    refine wpAnyH_take (i := 6) (v := ?_) rfl (by kernel_rfl) (by kernel_rfl) (by kernel_rfl) (fun _ _ _ h => h) (Or.inl ⟨by rfl, ?_⟩) (by assumption) ?_
    rotate_left
    ·intro w hSw; go_simp; (try with_reducible rfl)
    change wpAnyH _ _ _ _ _ _ _ (Act.put _ (some 25) _) _; simp only [Act.put, List.setIfInBounds_toArray, List.set_cons_zero, List.set_cons_succ]
    refine wpAnyH_take (i := 7) (v := ?_) rfl (by kernel_rfl) (by kernel_rfl) (by kernel_rfl) (fun _ _ _ h => h) (Or.inl ⟨by rfl, ?_⟩) (by assumption) ?_
    rotate_left
    ·intro w hSw; go_simp; (try with_reducible rfl)
    change wpAnyH _ _ _ _ _ _ _ (Act.put _ (some 26) _) _; simp only [Act.put, List.setIfInBounds_toArray, List.set_cons_zero, List.set_cons_succ]
    refine wpAnyH_take (i := 8) (v := ?_) rfl (by kernel_rfl) (by kernel_rfl) (by kernel_rfl) (fun _ _ _ h => h) (Or.inl ⟨by rfl, ?_⟩) (by assumption) ?_
    rotate_left
    ·intro w hSw; go_simp; (try with_reducible rfl)
    change wpAnyH _ _ _ _ _ _ _ (Act.put _ (some 27) _) _; simp only [Act.put, List.setIfInBounds_toArray, List.set_cons_zero, List.set_cons_succ]
    refine wpAnyH_take (i := 9) (v := ?_) rfl (by kernel_rfl) (by kernel_rfl) (by kernel_rfl) (fun _ _ _ h => h) (Or.inl ⟨by rfl, ?_⟩) (by assumption) ?_
    rotate_left
    ·intro w hSw; go_simp; (try with_reducible rfl)
    change wpAnyH _ _ _ _ _ _ _ (Act.put _ (some 28) _) _; simp only [Act.put, List.setIfInBounds_toArray, List.set_cons_zero, List.set_cons_succ]
    refine wpAnyH_take (i := 10) (v := ?_) rfl (by kernel_rfl) (by kernel_rfl) (by kernel_rfl) (fun _ _ _ h => h) (Or.inl ⟨by rfl, ?_⟩) (by assumption) ?_
    rotate_left
    ·intro w hSw; go_simp; (try with_reducible rfl)
    change wpAnyH _ _ _ _ _ _ _ (Act.put _ (some 29) _) _; simp only [Act.put, List.setIfInBounds_toArray, List.set_cons_zero, List.set_cons_succ]
    refine wpAnyH_take (i := 11) (v := ?_) rfl (by kernel_rfl) (by kernel_rfl) (by kernel_rfl) (fun _ _ _ h => h) (Or.inl ⟨by rfl, ?_⟩) (by assumption) ?_
    rotate_left
    ·intro w hSw; go_simp; (try with_reducible rfl)
    change wpAnyH _ _ _ _ _ _ _ (Act.put _ (some 30) _) _; simp only [Act.put, List.setIfInBounds_toArray, List.set_cons_zero, List.set_cons_succ]
    refine wpAnyH_take (i := 12) (v := ?_) rfl (by kernel_rfl) (by kernel_rfl) (by kernel_rfl) (fun _ _ _ h => h) (Or.inl ⟨by rfl, ?_⟩) (by assumption) ?_
    rotate_left
    ·intro w hSw; go_simp; (try with_reducible rfl)
    change wpAnyH _ _ _ _ _ _ _ (Act.put _ (some 31) _) _; simp only [Act.put, List.setIfInBounds_toArray, List.set_cons_zero, List.set_cons_succ]
    refine wpAnyH_take (i := 13) (v := ?_) rfl (by kernel_rfl) (by kernel_rfl) (by kernel_rfl) (fun _ _ _ h => h) (Or.inl ⟨by rfl, ?_⟩) (by assumption) ?_
    rotate_left
    ·intro w hSw; go_simp; (try with_reducible rfl)
    change wpAnyH _ _ _ _ _ _ _ (Act.put _ (some 32) _) _; simp only [Act.put, List.setIfInBounds_toArray, List.set_cons_zero, List.set_cons_succ]
    refine wpAnyH_take (i := 14) (v := ?_) rfl (by kernel_rfl) (by kernel_rfl) (by kernel_rfl) (fun _ _ _ h => h) (Or.inl ⟨by rfl, ?_⟩) (by assumption) ?_
    rotate_left
    ·intro w hSw; go_simp; (try with_reducible rfl)
    change wpAnyH _ _ _ _ _ _ _ (Act.put _ (some 33) _) _; simp only [Act.put, List.setIfInBounds_toArray, List.set_cons_zero, List.set_cons_succ]
    refine wpAnyH_take (i := 15) (v := ?_) rfl (by kernel_rfl) (by kernel_rfl) (by kernel_rfl) (fun _ _ _ h => h) (Or.inl ⟨by rfl, ?_⟩) (by assumption) ?_
    rotate_left
    ·intro w hSw; go_simp; (try with_reducible rfl)
    change wpAnyH _ _ _ _ _ _ _ (Act.put _ (some 34) _) _; simp only [Act.put, List.setIfInBounds_toArray, List.set_cons_zero, List.set_cons_succ]
    refine wpAnyH_take (i := 16) (v := ?_) rfl (by kernel_rfl) (by kernel_rfl) (by kernel_rfl) (fun _ _ _ h => h) (Or.inl ⟨by rfl, ?_⟩) (by assumption) ?_
    rotate_left
    ·intro w hSw; go_simp; (try with_reducible rfl)
    change wpAnyH _ _ _ _ _ _ _ (Act.put _ (some 35) _) _; simp only [Act.put, List.setIfInBounds_toArray, List.set_cons_zero, List.set_cons_succ]
    refine wpAnyH_take (i := 17) (v := ?_) rfl (by kernel_rfl) (by kernel_rfl) (by kernel_rfl) (fun _ _ _ h => h) (Or.inl ⟨by rfl, ?_⟩) (by assumption) ?_
    rotate_left
    ·intro w hSw; go_simp; (try with_reducible rfl)
    change wpAnyH _ _ _ _ _ _ _ (Act.put _ (some 36) _) _; simp only [Act.put, List.setIfInBounds_toArray, List.set_cons_zero, List.set_cons_succ]
    refine wpAnyH_take (i := 18) (v := ?_) rfl (by kernel_rfl) (by kernel_rfl) (by kernel_rfl) (fun _ _ _ h => h) (Or.inl ⟨by rfl, ?_⟩) (by assumption) ?_
    rotate_left
    ·intro w hSw; go_simp; (try with_reducible rfl)
    change wpAnyH _ _ _ _ _ _ _ (Act.put _ (some 37) _) _; simp only [Act.put, List.setIfInBounds_toArray, List.set_cons_zero, List.set_cons_succ]
    refine wpAnyH_take (i := 19) (v := ?_) rfl (by kernel_rfl) (by kernel_rfl) (by kernel_rfl) (fun _ _ _ h => h) (Or.inl ⟨by rfl, ?_⟩) (by assumption) ?_
    rotate_left
    ·intro w hSw; go_simp; (try with_reducible rfl)
    change wpAnyH _ _ _ _ _ _ _ (Act.put _ (some 38) _) _; simp only [Act.put, List.setIfInBounds_toArray, List.set_cons_zero, List.set_cons_succ]
    refine wpAnyH_take (i := 20) (v := ?_) rfl (by kernel_rfl) (by kernel_rfl) (by kernel_rfl) (fun _ _ _ h => h) (Or.inl ⟨by rfl, ?_⟩) (by assumption) ?_
    rotate_left
    ·intro w hSw; go_simp; (try with_reducible rfl)
    change wpAnyH _ _ _ _ _ _ _ (Act.put _ (some 39) _) _; simp only [Act.put, List.setIfInBounds_toArray, List.set_cons_zero, List.set_cons_succ]
    refine wpAnyH_ready (rs := [1, 21]) (by kernel_rfl) (by simp) ?_
    refine AllReadyH.cons rfl (fun K hK => ?_) ?_
    ·go_simp
     refine hK.out _ _ ?_ (fun hHeld => ?_)
     ·exact hHeld
     clear hK K
     refine wpAnyH_ready (rs := [21]) (by kernel_rfl) (by simp) ?_
     refine AllReadyH.cons rfl (fun K hK => ?_) AllReadyH.nil
     go_simp
     refine hK.out _ _ ?_ (fun hHeld => ?_)
     ·exact s8
     clear hK K
     refine wpAnyH_ready (rs := [22]) (by kernel_rfl) (by simp) ?_
     refine AllReadyH.cons rfl (fun K hK => ?_) AllReadyH.nil
     refine nstep_app rfl (.tmp 20) (.tmp 40) 51 rfl _ _ _ rfl rfl hap ?_
     refine hK.out _ _ ?_ (fun hHeld => ?_)
     ·exact s9
     clear hK K
     refine wpAnyH_take (i := 23) (v := ?_) rfl (by kernel_rfl) (by kernel_rfl) (by kernel_rfl) (fun _ _ _ h => h) (Or.inl ⟨by rfl, ?_⟩) (by assumption) ?_
     rotate_left
     ·intro w hSw; go_simp; (try with_reducible rfl)
     refine wpAnyH_ready (rs := [24]) (by kernel_rfl) (by simp) ?_
     refine AllReadyH.cons rfl (fun K hK => ?_) AllReadyH.nil
     go_simp
     refine hK.out _ _ ?_ (fun hHeld => ?_)
     ·exact HRD.out _ HS9.out
     clear hK K
     refine wpAnyH_done (by kernel_rfl) ?_ _
     clear hHeld
     go_wp2_with fail
     go_roundw
     case rel => exact ⟨k + 1, by go_num, by omega, _, _, HN9⟩
     case measure => simp [intOf]; omega
    refine AllReadyH.cons rfl (fun K hK => ?_) AllReadyH.nil
    go_simp
    refine hK.out _ _ ?_ (fun hHeld => ?_)
    ·exact s8
    clear hK K
    refine wpAnyH_ready (rs := [1]) (by kernel_rfl) (by simp) ?_
    refine AllReadyH.cons rfl (fun K hK => ?_) AllReadyH.nil
    go_simp
    refine hK.out _ _ ?_ (fun hHeld => ?_)
    ·exact s8
    clear hK K
    refine wpAnyH_ready (rs := [22]) (by kernel_rfl) (by simp) ?_
    refine AllReadyH.cons rfl (fun K hK => ?_) AllReadyH.nil
    refine nstep_app rfl (.tmp 20) (.tmp 40) 51 rfl _ _ _ rfl rfl hap ?_
    refine hK.out _ _ ?_ (fun hHeld => ?_)
    ·exact s9
    clear hK K
    refine wpAnyH_take (i := 23) (v := ?_) rfl (by kernel_rfl) (by kernel_rfl) (by kernel_rfl) (fun _ _ _ h => h) (Or.inl ⟨by rfl, ?_⟩) (by assumption) ?_
    rotate_left
    ·intro w hSw; go_simp; (try with_reducible rfl)
    refine wpAnyH_ready (rs := [24]) (by kernel_rfl) (by simp) ?_
    refine AllReadyH.cons rfl (fun K hK => ?_) AllReadyH.nil
    go_simp
    refine hK.out _ _ ?_ (fun hHeld => ?_)
    ·exact HRD.out _ HS9.out
    clear hK K
    refine wpAnyH_done (by kernel_rfl) ?_ _
    clear hHeld
    go_wp2_with fail
    go_roundw
    case rel => exact ⟨k + 1, by go_num, by omega, _, _, HN9⟩
    case measure => simp [intOf]; omega
   ·have d1 : decide ((k : Int) < (N : Int)) = false := decide_eq_false (by omega)
    obtain rfl : k = N := by omega
    obtain ⟨⟨b0, b1, b2, b3⟩, _, _⟩ := four_facts HI.out.cell (.slice na NN nc) (.slice va k ca) (.slice wa M vc) (.int .i64 nx)
    obtain ⟨⟨s0, s1, s2, s3⟩, ⟨f0, f1, f2, f3⟩, u⟩ := four_facts HI.out.res (.slice na NN nc) (.slice va k ca) (.slice wa M vc) (.int .i64 nx)
    obtain ⟨W9, hW9⟩ : ∃ W, ((((wr.setCell ⟨W1.heap.size, 0, none⟩ (.slice na NN nc)).setCell ⟨W1.heap.size, 1, none⟩ (.slice va k ca)).setCell ⟨W1.heap.size, 2, none⟩ (.slice wa M vc)).setCell ⟨W1.heap.size, 3, none⟩ (.int .i64 nx)) = W := ⟨_, rfl⟩
    have hbut : But wr.heap.size W1.heap.size wr W9 := by rw [← hW9]; exact ((((to_but (Below.refl _ _)).setB 0 _).setB 1 _).setB 2 _).setB 3 _
    rw [hW9] at u
    have htx : TxKeep wr W9 := tx_but HI.out.res notx_four fun j h1 h2 => hbut.block j h1 h2
    have u0 : W9.cell? ⟨W1.heap.size, 0, none⟩ = some (.slice na NN nc) := rd_cell u rfl
    have u1 : W9.cell? ⟨W1.heap.size, 1, none⟩ = some (.slice va k ca) := rd_cell u rfl
    have u2 : W9.cell? ⟨W1.heap.size, 2, none⟩ = some (.slice wa M vc) := rd_cell u rfl
    have u3 : W9.cell? ⟨W1.heap.size, 3, none⟩ = some (.int .i64 nx) := rd_cell u rfl
    have HF : Hid (SvAt W9 (.slice na NN nc) (.slice va k ca) (.slice wa M vc) S ∧ Below w.heap.size w W9) := by
     have hB := rbxr_of_own (HI.out.boxes.keep (w' := W9) (fun q hq => hbut.block q (HI.out.boxes.lt hq).2 (by have := (HI.out.boxes.lt hq).1; have := HI.out.sep; omega)) htx)
     rw [List.take_of_length_le (by have := HH.out.2.1; omega)] at hB
     exact ⟨⟨HI.out.names.tx htx, hB, HI.out.wants.tx htx⟩, HB1.out.trans ((HI.out.low.trans (hbut.below HI.out.low.size (Nat.le_refl _))).mono (Nat.le_of_lt z1))⟩
    subst hW9
    clear HI u htx hbut
    go_wp2_with fail
    exact bodyPost_ret (v := .agg #[.slice na NN nc, .slice va k ca, .slice wa M vc, .int .i64 nx]) (by simp [results, Tryz.results68, go_sem, u0, u1, u2, u3]) rfl ⟨⟨_, rfl, HF.out.1⟩, HF.out.2⟩
end Go.Proofs.YtfdlopimncodcaaGreatDoor
