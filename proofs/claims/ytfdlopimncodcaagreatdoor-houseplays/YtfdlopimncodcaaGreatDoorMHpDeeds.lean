/-
  A deed on both houses, whatever it is (letterboxlaw.deeds).
-/
import Derived.Test.YtfdlopimncodcaaGreatDoorBpAs
namespace Go.Proofs.YtfdlopimncodcaaGreatDoor
open Go.RowKit Go.Proofs.Aid Go.Proofs.Bx
set_option maxHeartbeats 8000000
set_option maxRecDepth 100000
theorem Two.below {H K hb rb : Nat} {w w' : World} (h : Two H K hb rb w) (hb' : Below w.heap.size w w') : Two H K hb rb w' := by
 obtain ⟨mb, rm, rq, l, l2, Wl, nx, W, C, C2, wv, t⟩ := h
 exact ⟨mb, rm, rq, l, l2, Wl, nx, W, C, C2, wv, t.below hb'⟩
theorem Two.more {H K K' hb rb : Nat} {w : World} (h : Two H K hb rb w) (hK : K ≤ K') : Two H K' hb rb w := by
 obtain ⟨mb, rm, rq, l, l2, Wl, nx, W, C, C2, wv, t⟩ := h
 exact ⟨mb, rm, rq, l, l2, Wl, nx, W, C, C2, wv, t.more hK⟩
def DeedOut (H K hb rb : Nat) (w : World) (e : Ending) (w' : World) : Prop := e = .returned (.bool true) ∧ Below H w w' ∧ KeepK w w' ∧ Two H (K + 1) hb rb w'
theorem bare_same (c : Int) (W : World) (hE : ErrType W) : Calls Tryz.prog 16 #[errV c, .int .i64 c] W fun e w' => e = .returned (.bool true) ∧ Below W.heap.size W w' := by
 by_cases h : c = 0
 ·subst h
  rw [errV_zero]
  have := bare_nil 0 W
  rw [show ((0 : Int) == 0) = true from rfl] at this
  exact this
 ·rw [errV_ne h]
  have := bare_err c c W hE
  rw [show (c == c) = true by simp] at this
  exact this
theorem deeds_is (H Q hb rb : Nat) (k : Int) (s x : ByteArray) (y : Bool) (w : World) (h : Two H Q hb rb w) (hE : ∀ W, Below H w W → NEnv W ∧ ErrType W) (hK : Q ≤ 89) (hs : s.size ≤ 100) (hx : x.size ≤ 100) :
  Calls Tryz.prog 10 #[.pointer (some ⟨hb, 0, none⟩), .pointer (some ⟨rb, 0, none⟩), .agg #[.int .i64 k, .string s, .string x, .bool y]] w fun e w' => DeedOut H Q hb rb w e w' := by
 obtain ⟨mb, rm, rq, l, l2, Wl, nx, W, C, C2, wv, t0⟩ := h
 have b1 : Below w.heap.size w (w.alloc (.cells #[.int .i64 k, .string s, .string x, .bool y] 31)) := (Below.refl _ _).alloc (Nat.le_refl _) _
 have e1 := heap_alloc_new w (.cells #[.int .i64 k, .string s, .string x, .bool y] 31)
 obtain ⟨W1, hW1⟩ : ∃ W, w.alloc (.cells #[.int .i64 k, .string s, .string x, .bool y] 31) = W := ⟨_, rfl⟩
 rw [hW1] at b1 e1
 have h0 := t0.p.st.h0
 obtain ⟨WD, hWD⟩ : ∃ W, W1.drew = W := ⟨_, rfl⟩
 have bD : Below w.heap.size w WD := by rw [← hWD]; exact b1.drew
 have eD : WD.heap[w.heap.size]? = some (.cells #[.int .i64 k, .string s, .string x, .bool y] 31 (0, 0)) := by rw [← hWD]; exact e1
 have lowD : Below H w WD := bD.mono h0
 have low1 : Below H w W1 := b1.mono h0
 have tD := t0.below bD
 have T1 := t0.below b1
 have hED : ∀ W, Below H WD W → NEnv W ∧ ErrType W := fun W hW => hE W (lowD.trans hW)
 have HED : Hid (∀ W, Below H WD W → NEnv W ∧ ErrType W) := hED
 have HED1 : Hid (∀ W, Below H W1 W → NEnv W ∧ ErrType W) := fun W hW => hE W (low1.trans hW)
 have HTD : Hid (Two H (Q + 1) hb rb WD) := ⟨mb, rm, rq, l, l2, Wl, nx, W, C, C2, wv, tD.more (Nat.le_succ Q)⟩
 have HT1 : Hid (Two H Q hb rb W1) := ⟨mb, rm, rq, l, l2, Wl, nx, W, C, C2, wv, T1⟩
 have HS : Hid (H ≤ WD.heap.size ∧ ∀ W, Below H WD W → H ≤ W.heap.size) := ⟨Nat.le_trans h0 bD.size, fun W hW => Nat.le_trans (Nat.le_trans h0 bD.size) hW.size⟩
 have HS1 : Hid (H ≤ W1.heap.size) := Nat.le_trans h0 b1.size
 have HL : Hid (∀ W, Below H WD W → KeepK WD W → Two H (Q + 1) hb rb W → DeedOut H Q hb rb w (.returned (.bool true)) W) := fun W h1 h2 h3 => ⟨rfl, lowD.trans h1, (KeepK.of bD).trans h2, h3⟩
 have HL1 : Hid (∀ W, Below H W1 W → KeepK W1 W → Two H (Q + 1) hb rb W → DeedOut H Q hb rb w (.returned (.bool true)) W) := fun W h1 h2 h3 => ⟨rfl, low1.trans h1, (KeepK.of b1).trans h2, h3⟩
 have HDD : Hid (∀ W, KeepK WD W → W.cell? ⟨w.heap.size, 1, none⟩ = some (.string s) ∧ W.cell? ⟨w.heap.size, 2, none⟩ = some (.string x) ∧ W.cell? ⟨w.heap.size, 3, none⟩ = some (.bool y)) := fun W hW => by
  have g := hW _ _ _ _ eD (by decide) (by decide) (by decide) (by decide) (by decide)
  exact ⟨rd_cell g rfl, rd_cell g rfl, rd_cell g rfl⟩
 have HD1 : Hid (∀ W, KeepK W1 W → W.cell? ⟨w.heap.size, 2, none⟩ = some (.string x)) := fun W hW => by
  have g := hW _ _ _ _ e1 (by decide) (by decide) (by decide) (by decide) (by decide)
  exact rd_cell g rfl
 have r1K : ∀ W, Below W1.heap.size W1 W → W.cell? ⟨w.heap.size, 1, none⟩ = some (.string s) := fun W hW => by
  have g := KeepK.of hW _ _ _ _ e1 (by decide) (by decide) (by decide) (by decide) (by decide)
  exact rd_cell g rfl
 have r2K : ∀ W, Below W1.heap.size W1 W → W.cell? ⟨w.heap.size, 2, none⟩ = some (.string x) := fun W hW => HD1.out W (KeepK.of hW)
 have r0 : W1.cell? ⟨w.heap.size, 0, none⟩ = some (.int .i64 k) := rd_cell e1 rfl
 have r1 : W1.cell? ⟨w.heap.size, 1, none⟩ = some (.string s) := rd_cell e1 rfl
 have r2 : W1.cell? ⟨w.heap.size, 2, none⟩ = some (.string x) := rd_cell e1 rfl
 have r3 : W1.cell? ⟨w.heap.size, 3, none⟩ = some (.bool y) := rd_cell e1 rfl
 clear hE t0 b1 e1 h0 low1
 by_cases k0 : k = 0
 ·clear T1 r1K r2K
  subst k0
  have cD := both_create tD (fun W hW => (hED W hW).1) (by omega) s (by omega)
  clear tD hED eD bD lowD
  go_enter Tryz.func10, Tryz.ntmps10
  go_upto_region 3 with fail
  refine wp_region_held_drew (S := fun W => W.cell? ⟨w.heap.size, 1, none⟩ = some (.string s)) (by kernel_rfl) ?_ (fun hHeld => ?_)
  ·exact by simpa using r1
  rw [hWD] at hHeld ⊢
  refine wpAnyH_take (i := 0) (v := ?_) rfl (by kernel_rfl) (by kernel_rfl) (by kernel_rfl) (fun _ _ _ h => h) (Or.inl ⟨by rfl, ?_⟩) (by assumption) ?_
  rotate_left
  ·intro w hSw; go_simp; (try with_reducible rfl)
  change wpAnyH _ _ _ _ _ _ _ (Act.put _ (some 17) _) _; simp only [Act.put, List.setIfInBounds_toArray, List.set_cons_zero, List.set_cons_succ]
  refine wpAnyH_take (i := 1) (v := ?_) rfl (by kernel_rfl) (by kernel_rfl) (by kernel_rfl) (fun _ _ _ h => h) (Or.inl ⟨by rfl, ?_⟩) (by assumption) ?_
  rotate_left
  ·intro w hSw; go_simp; (try with_reducible rfl)
  change wpAnyH _ _ _ _ _ _ _ (Act.put _ (some 18) _) _; simp only [Act.put, List.setIfInBounds_toArray, List.set_cons_zero, List.set_cons_succ]
  refine wpAnyH_take (i := 2) (v := ?_) rfl (by kernel_rfl) (by kernel_rfl) (by kernel_rfl) (fun _ _ _ h => h) (Or.inl ⟨by rfl, ?_⟩) (by assumption) ?_
  rotate_left
  ·intro w hSw; go_simp; (try with_reducible rfl)
  change wpAnyH _ _ _ _ _ _ _ (Act.put _ (some 19) _) _; simp only [Act.put, List.setIfInBounds_toArray, List.set_cons_zero, List.set_cons_succ]
  refine wpAnyH_take (i := 4) (v := ?_) rfl (by kernel_rfl) (by kernel_rfl) (by kernel_rfl) (fun _ _ _ h => h) (Or.inl ⟨by rfl, ?_⟩) (by assumption) ?_
  rotate_left
  ·intro w hSw; go_simp; (try with_reducible rfl)
  change wpAnyH _ _ _ _ _ _ _ (Act.put _ (some 21) _) _; simp only [Act.put, List.setIfInBounds_toArray, List.set_cons_zero, List.set_cons_succ]
  refine wpAnyH_take (i := 5) (v := ?_) rfl (by kernel_rfl) (by kernel_rfl) (by kernel_rfl) (fun _ _ _ h => h) (Or.inl ⟨by rfl, ?_⟩) (by assumption) ?_
  rotate_left
  ·intro w hSw; go_simp; (try with_reducible rfl)
  change wpAnyH _ _ _ _ _ _ _ (Act.put _ (some 22) _) _; simp only [Act.put, List.setIfInBounds_toArray, List.set_cons_zero, List.set_cons_succ]
  refine wpAnyH_take (i := 6) (v := ?_) rfl (by kernel_rfl) (by kernel_rfl) (by kernel_rfl) (fun _ _ _ h => h) (Or.inl ⟨by rfl, ?_⟩) (by assumption) ?_
  rotate_left
  ·intro w hSw; go_simp; (try with_reducible rfl)
  change wpAnyH _ _ _ _ _ _ _ (Act.put _ (some 23) _) _; simp only [Act.put, List.setIfInBounds_toArray, List.set_cons_zero, List.set_cons_succ]
  refine wpAnyH_ready (rs := [3]) (by kernel_rfl) (by simp) ?_
  refine AllReadyH.cons rfl (fun K hK => ?_) AllReadyH.nil
  go_simp
  refine cD.mono ?_
  rintro e w1 ⟨c, rfl, hb1, hk1, hT⟩
  have g1 := HDD.out w1 hk1
  have HA : Hid (Below H WD w1 ∧ KeepK WD w1) := ⟨hb1, hk1⟩
  unfold Then at hT
  clear cD hb1 hk1
  refine hK.out _ _ ?_ (fun hHeld => ?_)
  ·exact g1.1
  clear hK K
  refine wpAnyH_ready (rs := [7]) (by kernel_rfl) (by simp) ?_
  refine AllReadyH.cons rfl (fun K hK => ?_) AllReadyH.nil
  go_simp
  refine hT.mono ?_
  rintro e w2 ⟨rfl, hb2, hk2, hTwo⟩
  have hl2 := HA.out.1.trans hb2
  have hkk := HA.out.2.trans hk2
  have g2 := HDD.out w2 hkk
  have cB := bare_same c w2 (HED.out w2 hl2).2
  have HT : Hid (Below H WD w2 ∧ KeepK WD w2 ∧ Two H (Q + 1) hb rb w2) := ⟨hl2, hkk, hTwo⟩
  clear hT hb2 hk2 hTwo hl2 hkk
  refine hK.out _ _ ?_ (fun hHeld => ?_)
  ·exact g2.1
  clear hK K
  refine wpAnyH_ready (rs := [8]) (by kernel_rfl) (by simp) ?_
  refine AllReadyH.cons rfl (fun K hK => ?_) AllReadyH.nil
  go_simp
  refine cB.mono ?_
  rintro e w3 ⟨rfl, hb3⟩
  have g3 := HDD.out w3 (HT.out.2.1.trans (KeepK.of hb3))
  have HF : Hid (DeedOut H Q hb rb w (.returned (.bool true)) w3) := HL.out w3 (HT.out.1.trans (hb3.mono (HS.out.2 w2 HT.out.1))) (HT.out.2.1.trans (KeepK.of hb3)) (HT.out.2.2.below hb3)
  clear cB hb3
  refine hK.out _ _ ?_ (fun hHeld => ?_)
  ·exact g3.1
  clear hK K
  refine wpAnyH_take (i := 9) (v := ?_) rfl (by kernel_rfl) (by kernel_rfl) (by kernel_rfl) (fun _ _ _ h => h) (Or.inl ⟨by rfl, ?_⟩) (by assumption) ?_
  rotate_left
  ·intro w hSw; go_simp; (try with_reducible rfl)
  change wpAnyH _ _ _ _ _ _ _ (Act.put _ (some 6) _) _; simp only [Act.put, List.setIfInBounds_toArray, List.set_cons_zero, List.set_cons_succ]
  refine wpAnyH_done (by kernel_rfl) ?_ _
  clear hHeld
  go_wp2_with fail
  go_ret
  exact HF.out
 ·have d0 : (k == 0) = false := beq_eq_false_iff_ne.2 k0
  by_cases k1 : k = 1
  ·clear T1 r1K r2K
   subst k1
   have cD := both_delete tD (fun W hW => (hED W hW).1) s (by omega)
   clear tD hED eD bD lowD
   go_enter Tryz.func10, Tryz.ntmps10
   go_upto_region 5 with fail
   refine wp_region_held_drew (S := fun W => W.cell? ⟨w.heap.size, 1, none⟩ = some (.string s)) (by kernel_rfl) ?_ (fun hHeld => ?_)
   ·exact by simpa using r1
   rw [hWD] at hHeld ⊢
   refine wpAnyH_take (i := 0) (v := ?_) rfl (by kernel_rfl) (by kernel_rfl) (by kernel_rfl) (fun _ _ _ h => h) (Or.inl ⟨by rfl, ?_⟩) (by assumption) ?_
   rotate_left
   ·intro w hSw; go_simp; (try with_reducible rfl)
   change wpAnyH _ _ _ _ _ _ _ (Act.put _ (some 28) _) _; simp only [Act.put, List.setIfInBounds_toArray, List.set_cons_zero, List.set_cons_succ]
   refine wpAnyH_take (i := 1) (v := ?_) rfl (by kernel_rfl) (by kernel_rfl) (by kernel_rfl) (fun _ _ _ h => h) (Or.inl ⟨by rfl, ?_⟩) (by assumption) ?_
   rotate_left
   ·intro w hSw; go_simp; (try with_reducible rfl)
   change wpAnyH _ _ _ _ _ _ _ (Act.put _ (some 29) _) _; simp only [Act.put, List.setIfInBounds_toArray, List.set_cons_zero, List.set_cons_succ]
   refine wpAnyH_take (i := 2) (v := ?_) rfl (by kernel_rfl) (by kernel_rfl) (by kernel_rfl) (fun _ _ _ h => h) (Or.inl ⟨by rfl, ?_⟩) (by assumption) ?_
   rotate_left
   ·intro w hSw; go_simp; (try with_reducible rfl)
   change wpAnyH _ _ _ _ _ _ _ (Act.put _ (some 30) _) _; simp only [Act.put, List.setIfInBounds_toArray, List.set_cons_zero, List.set_cons_succ]
   refine wpAnyH_take (i := 4) (v := ?_) rfl (by kernel_rfl) (by kernel_rfl) (by kernel_rfl) (fun _ _ _ h => h) (Or.inl ⟨by rfl, ?_⟩) (by assumption) ?_
   rotate_left
   ·intro w hSw; go_simp; (try with_reducible rfl)
   change wpAnyH _ _ _ _ _ _ _ (Act.put _ (some 32) _) _; simp only [Act.put, List.setIfInBounds_toArray, List.set_cons_zero, List.set_cons_succ]
   refine wpAnyH_take (i := 5) (v := ?_) rfl (by kernel_rfl) (by kernel_rfl) (by kernel_rfl) (fun _ _ _ h => h) (Or.inl ⟨by rfl, ?_⟩) (by assumption) ?_
   rotate_left
   ·intro w hSw; go_simp; (try with_reducible rfl)
   change wpAnyH _ _ _ _ _ _ _ (Act.put _ (some 33) _) _; simp only [Act.put, List.setIfInBounds_toArray, List.set_cons_zero, List.set_cons_succ]
   refine wpAnyH_take (i := 6) (v := ?_) rfl (by kernel_rfl) (by kernel_rfl) (by kernel_rfl) (fun _ _ _ h => h) (Or.inl ⟨by rfl, ?_⟩) (by assumption) ?_
   rotate_left
   ·intro w hSw; go_simp; (try with_reducible rfl)
   change wpAnyH _ _ _ _ _ _ _ (Act.put _ (some 34) _) _; simp only [Act.put, List.setIfInBounds_toArray, List.set_cons_zero, List.set_cons_succ]
   refine wpAnyH_ready (rs := [3]) (by kernel_rfl) (by simp) ?_
   refine AllReadyH.cons rfl (fun K hK => ?_) AllReadyH.nil
   go_simp
   refine cD.mono ?_
   rintro e w1 ⟨c, rfl, hb1, hk1, hT⟩
   have g1 := HDD.out w1 hk1
   have HA : Hid (Below H WD w1 ∧ KeepK WD w1) := ⟨hb1, hk1⟩
   unfold Then at hT
   clear cD hb1 hk1
   refine hK.out _ _ ?_ (fun hHeld => ?_)
   ·exact g1.1
   clear hK K
   refine wpAnyH_ready (rs := [7]) (by kernel_rfl) (by simp) ?_
   refine AllReadyH.cons rfl (fun K hK => ?_) AllReadyH.nil
   go_simp
   refine hT.mono ?_
   rintro e w2 ⟨rfl, hb2, hk2, hTwo⟩
   have hl2 := HA.out.1.trans hb2
   have hkk := HA.out.2.trans hk2
   have g2 := HDD.out w2 hkk
   have cB := bare_same c w2 (HED.out w2 hl2).2
   have HT : Hid (Below H WD w2 ∧ KeepK WD w2 ∧ Two H (Q + 1) hb rb w2) := ⟨hl2, hkk, hTwo⟩
   clear hT hb2 hk2 hTwo hl2 hkk
   refine hK.out _ _ ?_ (fun hHeld => ?_)
   ·exact g2.1
   clear hK K
   refine wpAnyH_ready (rs := [8]) (by kernel_rfl) (by simp) ?_
   refine AllReadyH.cons rfl (fun K hK => ?_) AllReadyH.nil
   go_simp
   refine cB.mono ?_
   rintro e w3 ⟨rfl, hb3⟩
   have g3 := HDD.out w3 (HT.out.2.1.trans (KeepK.of hb3))
   have HF : Hid (DeedOut H Q hb rb w (.returned (.bool true)) w3) := HL.out w3 (HT.out.1.trans (hb3.mono (HS.out.2 w2 HT.out.1))) (HT.out.2.1.trans (KeepK.of hb3)) (HT.out.2.2.below hb3)
   clear cB hb3
   refine hK.out _ _ ?_ (fun hHeld => ?_)
   ·exact g3.1
   clear hK K
   refine wpAnyH_take (i := 9) (v := ?_) rfl (by kernel_rfl) (by kernel_rfl) (by kernel_rfl) (fun _ _ _ h => h) (Or.inl ⟨by rfl, ?_⟩) (by assumption) ?_
   rotate_left
   ·intro w hSw; go_simp; (try with_reducible rfl)
   change wpAnyH _ _ _ _ _ _ _ (Act.put _ (some 6) _) _; simp only [Act.put, List.setIfInBounds_toArray, List.set_cons_zero, List.set_cons_succ]
   refine wpAnyH_done (by kernel_rfl) ?_ _
   clear hHeld
   go_wp2_with fail
   go_ret
   exact HF.out
  ·have d1 : (k == 1) = false := beq_eq_false_iff_ne.2 k1
   by_cases k2 : k = 2
   ·clear T1 r1K r2K
    subst k2
    have cD := both_rename tD (fun W hW => (hED W hW).1) (by omega) s x (by omega) (by omega)
    clear tD hED eD bD lowD
    go_enter Tryz.func10, Tryz.ntmps10
    go_upto_region 7 with fail
    refine wp_region_held_drew (S := fun W => W.cell? ⟨w.heap.size, 1, none⟩ = some (.string s) ∧ W.cell? ⟨w.heap.size, 2, none⟩ = some (.string x)) (by kernel_rfl) ?_ (fun hHeld => ?_)
    ·exact ⟨by simpa using r1, by simpa using r2⟩
    rw [hWD] at hHeld ⊢
    refine wpAnyH_take (i := 0) (v := ?_) rfl (by kernel_rfl) (by kernel_rfl) (by kernel_rfl) (fun _ _ _ h => h) (Or.inl ⟨by rfl, ?_⟩) (by assumption) ?_
    rotate_left
    ·intro w hSw; go_simp; (try with_reducible rfl)
    change wpAnyH _ _ _ _ _ _ _ (Act.put _ (some 39) _) _; simp only [Act.put, List.setIfInBounds_toArray, List.set_cons_zero, List.set_cons_succ]
    refine wpAnyH_take (i := 1) (v := ?_) rfl (by kernel_rfl) (by kernel_rfl) (by kernel_rfl) (fun _ _ _ h => h) (Or.inl ⟨by rfl, ?_⟩) (by assumption) ?_
    rotate_left
    ·intro w hSw; go_simp; (try with_reducible rfl)
    change wpAnyH _ _ _ _ _ _ _ (Act.put _ (some 40) _) _; simp only [Act.put, List.setIfInBounds_toArray, List.set_cons_zero, List.set_cons_succ]
    refine wpAnyH_take (i := 2) (v := ?_) rfl (by kernel_rfl) (by kernel_rfl) (by kernel_rfl) (fun _ _ _ h => h) (Or.inl ⟨by rfl, ?_⟩) (by assumption) ?_
    rotate_left
    ·intro w hSw; go_simp; (try with_reducible rfl)
    change wpAnyH _ _ _ _ _ _ _ (Act.put _ (some 41) _) _; simp only [Act.put, List.setIfInBounds_toArray, List.set_cons_zero, List.set_cons_succ]
    refine wpAnyH_take (i := 3) (v := ?_) rfl (by kernel_rfl) (by kernel_rfl) (by kernel_rfl) (fun _ _ _ h => h) (Or.inl ⟨by rfl, ?_⟩) (by assumption) ?_
    rotate_left
    ·intro w hSw; go_simp; (try with_reducible rfl)
    change wpAnyH _ _ _ _ _ _ _ (Act.put _ (some 42) _) _; simp only [Act.put, List.setIfInBounds_toArray, List.set_cons_zero, List.set_cons_succ]
    refine wpAnyH_take (i := 4) (v := ?_) rfl (by kernel_rfl) (by kernel_rfl) (by kernel_rfl) (fun _ _ _ h => h) (Or.inl ⟨by rfl, ?_⟩) (by assumption) ?_
    rotate_left
    ·intro w hSw; go_simp; (try with_reducible rfl)
    change wpAnyH _ _ _ _ _ _ _ (Act.put _ (some 43) _) _; simp only [Act.put, List.setIfInBounds_toArray, List.set_cons_zero, List.set_cons_succ]
    refine wpAnyH_take (i := 6) (v := ?_) rfl (by kernel_rfl) (by kernel_rfl) (by kernel_rfl) (fun _ _ _ h => h) (Or.inl ⟨by rfl, ?_⟩) (by assumption) ?_
    rotate_left
    ·intro w hSw; go_simp; (try with_reducible rfl)
    change wpAnyH _ _ _ _ _ _ _ (Act.put _ (some 45) _) _; simp only [Act.put, List.setIfInBounds_toArray, List.set_cons_zero, List.set_cons_succ]
    refine wpAnyH_take (i := 7) (v := ?_) rfl (by kernel_rfl) (by kernel_rfl) (by kernel_rfl) (fun _ _ _ h => h) (Or.inl ⟨by rfl, ?_⟩) (by assumption) ?_
    rotate_left
    ·intro w hSw; go_simp; (try with_reducible rfl)
    change wpAnyH _ _ _ _ _ _ _ (Act.put _ (some 46) _) _; simp only [Act.put, List.setIfInBounds_toArray, List.set_cons_zero, List.set_cons_succ]
    refine wpAnyH_take (i := 8) (v := ?_) rfl (by kernel_rfl) (by kernel_rfl) (by kernel_rfl) (fun _ _ _ h => h) (Or.inl ⟨by rfl, ?_⟩) (by assumption) ?_
    rotate_left
    ·intro w hSw; go_simp; (try with_reducible rfl)
    change wpAnyH _ _ _ _ _ _ _ (Act.put _ (some 47) _) _; simp only [Act.put, List.setIfInBounds_toArray, List.set_cons_zero, List.set_cons_succ]
    refine wpAnyH_take (i := 9) (v := ?_) rfl (by kernel_rfl) (by kernel_rfl) (by kernel_rfl) (fun _ _ _ h => h) (Or.inl ⟨by rfl, ?_⟩) (by assumption) ?_
    rotate_left
    ·intro w hSw; go_simp; (try with_reducible rfl)
    change wpAnyH _ _ _ _ _ _ _ (Act.put _ (some 48) _) _; simp only [Act.put, List.setIfInBounds_toArray, List.set_cons_zero, List.set_cons_succ]
    refine wpAnyH_take (i := 10) (v := ?_) rfl (by kernel_rfl) (by kernel_rfl) (by kernel_rfl) (fun _ _ _ h => h) (Or.inl ⟨by rfl, ?_⟩) (by assumption) ?_
    rotate_left
    ·intro w hSw; go_simp; (try with_reducible rfl)
    change wpAnyH _ _ _ _ _ _ _ (Act.put _ (some 49) _) _; simp only [Act.put, List.setIfInBounds_toArray, List.set_cons_zero, List.set_cons_succ]
    refine wpAnyH_ready (rs := [5]) (by kernel_rfl) (by simp) ?_
    refine AllReadyH.cons rfl (fun K hK => ?_) AllReadyH.nil
    go_simp
    refine cD.mono ?_
    rintro e w1 ⟨c, rfl, hb1, hk1, hT⟩
    have g1 := HDD.out w1 hk1
    have HA : Hid (Below H WD w1 ∧ KeepK WD w1) := ⟨hb1, hk1⟩
    unfold Then at hT
    clear cD hb1 hk1
    refine hK.out _ _ ?_ (fun hHeld => ?_)
    ·exact ⟨g1.1, g1.2.1⟩
    clear hK K
    refine wpAnyH_ready (rs := [11]) (by kernel_rfl) (by simp) ?_
    refine AllReadyH.cons rfl (fun K hK => ?_) AllReadyH.nil
    go_simp
    refine hT.mono ?_
    rintro e w2 ⟨rfl, hb2, hk2, hTwo⟩
    have hl2 := HA.out.1.trans hb2
    have hkk := HA.out.2.trans hk2
    have g2 := HDD.out w2 hkk
    have cB := bare_same c w2 (HED.out w2 hl2).2
    have HT : Hid (Below H WD w2 ∧ KeepK WD w2 ∧ Two H (Q + 1) hb rb w2) := ⟨hl2, hkk, hTwo⟩
    clear hT hb2 hk2 hTwo hl2 hkk
    refine hK.out _ _ ?_ (fun hHeld => ?_)
    ·exact ⟨g2.1, g2.2.1⟩
    clear hK K
    refine wpAnyH_ready (rs := [12]) (by kernel_rfl) (by simp) ?_
    refine AllReadyH.cons rfl (fun K hK => ?_) AllReadyH.nil
    go_simp
    refine cB.mono ?_
    rintro e w3 ⟨rfl, hb3⟩
    have g3 := HDD.out w3 (HT.out.2.1.trans (KeepK.of hb3))
    have HF : Hid (DeedOut H Q hb rb w (.returned (.bool true)) w3) := HL.out w3 (HT.out.1.trans (hb3.mono (HS.out.2 w2 HT.out.1))) (HT.out.2.1.trans (KeepK.of hb3)) (HT.out.2.2.below hb3)
    clear cB hb3
    refine hK.out _ _ ?_ (fun hHeld => ?_)
    ·exact ⟨g3.1, g3.2.1⟩
    clear hK K
    refine wpAnyH_take (i := 13) (v := ?_) rfl (by kernel_rfl) (by kernel_rfl) (by kernel_rfl) (fun _ _ _ h => h) (Or.inl ⟨by rfl, ?_⟩) (by assumption) ?_
    rotate_left
    ·intro w hSw; go_simp; (try with_reducible rfl)
    change wpAnyH _ _ _ _ _ _ _ (Act.put _ (some 6) _) _; simp only [Act.put, List.setIfInBounds_toArray, List.set_cons_zero, List.set_cons_succ]
    refine wpAnyH_done (by kernel_rfl) ?_ _
    clear hHeld
    go_wp2_with fail
    go_ret
    exact HF.out
   ·have d2 : (k == 2) = false := beq_eq_false_iff_ne.2 k2
    by_cases k3 : k = 3
    ·clear T1 r1K r2K
     subst k3
     have cD := both_want tD (fun W hW => (hED W hW).1) s y (by omega)
     clear tD hED eD bD lowD
     go_enter Tryz.func10, Tryz.ntmps10
     go_upto_region 9 with fail
     refine wp_region_held_drew (S := fun W => W.cell? ⟨w.heap.size, 1, none⟩ = some (.string s) ∧ W.cell? ⟨w.heap.size, 3, none⟩ = some (.bool y)) (by kernel_rfl) ?_ (fun hHeld => ?_)
     ·exact ⟨by simpa using r1, by simpa using r3⟩
     rw [hWD] at hHeld ⊢
     refine wpAnyH_take (i := 0) (v := ?_) rfl (by kernel_rfl) (by kernel_rfl) (by kernel_rfl) (fun _ _ _ h => h) (Or.inl ⟨by rfl, ?_⟩) (by assumption) ?_
     rotate_left
     ·intro w hSw; go_simp; (try with_reducible rfl)
     change wpAnyH _ _ _ _ _ _ _ (Act.put _ (some 54) _) _; simp only [Act.put, List.setIfInBounds_toArray, List.set_cons_zero, List.set_cons_succ]
     refine wpAnyH_take (i := 1) (v := ?_) rfl (by kernel_rfl) (by kernel_rfl) (by kernel_rfl) (fun _ _ _ h => h) (Or.inl ⟨by rfl, ?_⟩) (by assumption) ?_
     rotate_left
     ·intro w hSw; go_simp; (try with_reducible rfl)
     change wpAnyH _ _ _ _ _ _ _ (Act.put _ (some 55) _) _; simp only [Act.put, List.setIfInBounds_toArray, List.set_cons_zero, List.set_cons_succ]
     refine wpAnyH_take (i := 2) (v := ?_) rfl (by kernel_rfl) (by kernel_rfl) (by kernel_rfl) (fun _ _ _ h => h) (Or.inl ⟨by rfl, ?_⟩) (by assumption) ?_
     rotate_left
     ·intro w hSw; go_simp; (try with_reducible rfl)
     change wpAnyH _ _ _ _ _ _ _ (Act.put _ (some 56) _) _; simp only [Act.put, List.setIfInBounds_toArray, List.set_cons_zero, List.set_cons_succ]
     refine wpAnyH_take (i := 3) (v := ?_) rfl (by kernel_rfl) (by kernel_rfl) (by kernel_rfl) (fun _ _ _ h => h) (Or.inl ⟨by rfl, ?_⟩) (by assumption) ?_
     rotate_left
     ·intro w hSw; go_simp; (try with_reducible rfl)
     change wpAnyH _ _ _ _ _ _ _ (Act.put _ (some 57) _) _; simp only [Act.put, List.setIfInBounds_toArray, List.set_cons_zero, List.set_cons_succ]
     refine wpAnyH_take (i := 4) (v := ?_) rfl (by kernel_rfl) (by kernel_rfl) (by kernel_rfl) (fun _ _ _ h => h) (Or.inl ⟨by rfl, ?_⟩) (by assumption) ?_
     rotate_left
     ·intro w hSw; go_simp; (try with_reducible rfl)
     change wpAnyH _ _ _ _ _ _ _ (Act.put _ (some 58) _) _; simp only [Act.put, List.setIfInBounds_toArray, List.set_cons_zero, List.set_cons_succ]
     refine wpAnyH_take (i := 6) (v := ?_) rfl (by kernel_rfl) (by kernel_rfl) (by kernel_rfl) (fun _ _ _ h => h) (Or.inl ⟨by rfl, ?_⟩) (by assumption) ?_
     rotate_left
     ·intro w hSw; go_simp; (try with_reducible rfl)
     change wpAnyH _ _ _ _ _ _ _ (Act.put _ (some 60) _) _; simp only [Act.put, List.setIfInBounds_toArray, List.set_cons_zero, List.set_cons_succ]
     refine wpAnyH_take (i := 7) (v := ?_) rfl (by kernel_rfl) (by kernel_rfl) (by kernel_rfl) (fun _ _ _ h => h) (Or.inl ⟨by rfl, ?_⟩) (by assumption) ?_
     rotate_left
     ·intro w hSw; go_simp; (try with_reducible rfl)
     change wpAnyH _ _ _ _ _ _ _ (Act.put _ (some 61) _) _; simp only [Act.put, List.setIfInBounds_toArray, List.set_cons_zero, List.set_cons_succ]
     refine wpAnyH_take (i := 8) (v := ?_) rfl (by kernel_rfl) (by kernel_rfl) (by kernel_rfl) (fun _ _ _ h => h) (Or.inl ⟨by rfl, ?_⟩) (by assumption) ?_
     rotate_left
     ·intro w hSw; go_simp; (try with_reducible rfl)
     change wpAnyH _ _ _ _ _ _ _ (Act.put _ (some 62) _) _; simp only [Act.put, List.setIfInBounds_toArray, List.set_cons_zero, List.set_cons_succ]
     refine wpAnyH_take (i := 9) (v := ?_) rfl (by kernel_rfl) (by kernel_rfl) (by kernel_rfl) (fun _ _ _ h => h) (Or.inl ⟨by rfl, ?_⟩) (by assumption) ?_
     rotate_left
     ·intro w hSw; go_simp; (try with_reducible rfl)
     change wpAnyH _ _ _ _ _ _ _ (Act.put _ (some 63) _) _; simp only [Act.put, List.setIfInBounds_toArray, List.set_cons_zero, List.set_cons_succ]
     refine wpAnyH_take (i := 10) (v := ?_) rfl (by kernel_rfl) (by kernel_rfl) (by kernel_rfl) (fun _ _ _ h => h) (Or.inl ⟨by rfl, ?_⟩) (by assumption) ?_
     rotate_left
     ·intro w hSw; go_simp; (try with_reducible rfl)
     change wpAnyH _ _ _ _ _ _ _ (Act.put _ (some 64) _) _; simp only [Act.put, List.setIfInBounds_toArray, List.set_cons_zero, List.set_cons_succ]
     refine wpAnyH_ready (rs := [5]) (by kernel_rfl) (by simp) ?_
     refine AllReadyH.cons rfl (fun K hK => ?_) AllReadyH.nil
     go_simp
     refine cD.mono ?_
     rintro e w1 ⟨c, rfl, hb1, hk1, hT⟩
     have g1 := HDD.out w1 hk1
     have HA : Hid (Below H WD w1 ∧ KeepK WD w1) := ⟨hb1, hk1⟩
     unfold Then at hT
     clear cD hb1 hk1
     refine hK.out _ _ ?_ (fun hHeld => ?_)
     ·exact ⟨g1.1, g1.2.2⟩
     clear hK K
     refine wpAnyH_ready (rs := [11]) (by kernel_rfl) (by simp) ?_
     refine AllReadyH.cons rfl (fun K hK => ?_) AllReadyH.nil
     go_simp
     refine hT.mono ?_
     rintro e w2 ⟨rfl, hb2, hk2, hTwo⟩
     have hl2 := HA.out.1.trans hb2
     have hkk := HA.out.2.trans hk2
     have g2 := HDD.out w2 hkk
     have cB := bare_same c w2 (HED.out w2 hl2).2
     have HT : Hid (Below H WD w2 ∧ KeepK WD w2 ∧ Two H (Q + 1) hb rb w2) := ⟨hl2, hkk, hTwo⟩
     clear hT hb2 hk2 hTwo hl2 hkk
     refine hK.out _ _ ?_ (fun hHeld => ?_)
     ·exact ⟨g2.1, g2.2.2⟩
     clear hK K
     refine wpAnyH_ready (rs := [12]) (by kernel_rfl) (by simp) ?_
     refine AllReadyH.cons rfl (fun K hK => ?_) AllReadyH.nil
     go_simp
     refine cB.mono ?_
     rintro e w3 ⟨rfl, hb3⟩
     have g3 := HDD.out w3 (HT.out.2.1.trans (KeepK.of hb3))
     have HF : Hid (DeedOut H Q hb rb w (.returned (.bool true)) w3) := HL.out w3 (HT.out.1.trans (hb3.mono (HS.out.2 w2 HT.out.1))) (HT.out.2.1.trans (KeepK.of hb3)) (HT.out.2.2.below hb3)
     clear cB hb3
     refine hK.out _ _ ?_ (fun hHeld => ?_)
     ·exact ⟨g3.1, g3.2.2⟩
     clear hK K
     refine wpAnyH_take (i := 13) (v := ?_) rfl (by kernel_rfl) (by kernel_rfl) (by kernel_rfl) (fun _ _ _ h => h) (Or.inl ⟨by rfl, ?_⟩) (by assumption) ?_
     rotate_left
     ·intro w hSw; go_simp; (try with_reducible rfl)
     change wpAnyH _ _ _ _ _ _ _ (Act.put _ (some 6) _) _; simp only [Act.put, List.setIfInBounds_toArray, List.set_cons_zero, List.set_cons_succ]
     refine wpAnyH_done (by kernel_rfl) ?_ _
     clear hHeld
     go_wp2_with fail
     go_ret
     exact HF.out
    ·have d3 : (k == 3) = false := beq_eq_false_iff_ne.2 k3
     by_cases k4 : k = 4
     ·clear T1 r1K r2K
      subst k4
      have cD := both_list tD s y (by omega)
      clear tD hED eD bD lowD
      go_enter Tryz.func10, Tryz.ntmps10
      go_upto_region 11 with fail
      refine wp_region_held_drew (S := fun W => W.cell? ⟨w.heap.size, 1, none⟩ = some (.string s) ∧ W.cell? ⟨w.heap.size, 3, none⟩ = some (.bool y)) (by kernel_rfl) ?_ (fun hHeld => ?_)
      ·exact ⟨by simpa using r1, by simpa using r3⟩
      rw [hWD] at hHeld ⊢
      refine wpAnyH_take (i := 0) (v := ?_) rfl (by kernel_rfl) (by kernel_rfl) (by kernel_rfl) (fun _ _ _ h => h) (Or.inl ⟨by rfl, ?_⟩) (by assumption) ?_
      rotate_left
      ·intro w hSw; go_simp; (try with_reducible rfl)
      change wpAnyH _ _ _ _ _ _ _ (Act.put _ (some 69) _) _; simp only [Act.put, List.setIfInBounds_toArray, List.set_cons_zero, List.set_cons_succ]
      refine wpAnyH_take (i := 1) (v := ?_) rfl (by kernel_rfl) (by kernel_rfl) (by kernel_rfl) (fun _ _ _ h => h) (Or.inl ⟨by rfl, ?_⟩) (by assumption) ?_
      rotate_left
      ·intro w hSw; go_simp; (try with_reducible rfl)
      change wpAnyH _ _ _ _ _ _ _ (Act.put _ (some 70) _) _; simp only [Act.put, List.setIfInBounds_toArray, List.set_cons_zero, List.set_cons_succ]
      refine wpAnyH_take (i := 2) (v := ?_) rfl (by kernel_rfl) (by kernel_rfl) (by kernel_rfl) (fun _ _ _ h => h) (Or.inl ⟨by rfl, ?_⟩) (by assumption) ?_
      rotate_left
      ·intro w hSw; go_simp; (try with_reducible rfl)
      change wpAnyH _ _ _ _ _ _ _ (Act.put _ (some 71) _) _; simp only [Act.put, List.setIfInBounds_toArray, List.set_cons_zero, List.set_cons_succ]
      refine wpAnyH_take (i := 3) (v := ?_) rfl (by kernel_rfl) (by kernel_rfl) (by kernel_rfl) (fun _ _ _ h => h) (Or.inl ⟨by rfl, ?_⟩) (by assumption) ?_
      rotate_left
      ·intro w hSw; go_simp; (try with_reducible rfl)
      change wpAnyH _ _ _ _ _ _ _ (Act.put _ (some 72) _) _; simp only [Act.put, List.setIfInBounds_toArray, List.set_cons_zero, List.set_cons_succ]
      refine wpAnyH_take (i := 4) (v := ?_) rfl (by kernel_rfl) (by kernel_rfl) (by kernel_rfl) (fun _ _ _ h => h) (Or.inl ⟨by rfl, ?_⟩) (by assumption) ?_
      rotate_left
      ·intro w hSw; go_simp; (try with_reducible rfl)
      change wpAnyH _ _ _ _ _ _ _ (Act.put _ (some 73) _) _; simp only [Act.put, List.setIfInBounds_toArray, List.set_cons_zero, List.set_cons_succ]
      refine wpAnyH_take (i := 6) (v := ?_) rfl (by kernel_rfl) (by kernel_rfl) (by kernel_rfl) (fun _ _ _ h => h) (Or.inl ⟨by rfl, ?_⟩) (by assumption) ?_
      rotate_left
      ·intro w hSw; go_simp; (try with_reducible rfl)
      change wpAnyH _ _ _ _ _ _ _ (Act.put _ (some 75) _) _; simp only [Act.put, List.setIfInBounds_toArray, List.set_cons_zero, List.set_cons_succ]
      refine wpAnyH_take (i := 7) (v := ?_) rfl (by kernel_rfl) (by kernel_rfl) (by kernel_rfl) (fun _ _ _ h => h) (Or.inl ⟨by rfl, ?_⟩) (by assumption) ?_
      rotate_left
      ·intro w hSw; go_simp; (try with_reducible rfl)
      change wpAnyH _ _ _ _ _ _ _ (Act.put _ (some 76) _) _; simp only [Act.put, List.setIfInBounds_toArray, List.set_cons_zero, List.set_cons_succ]
      refine wpAnyH_take (i := 8) (v := ?_) rfl (by kernel_rfl) (by kernel_rfl) (by kernel_rfl) (fun _ _ _ h => h) (Or.inl ⟨by rfl, ?_⟩) (by assumption) ?_
      rotate_left
      ·intro w hSw; go_simp; (try with_reducible rfl)
      change wpAnyH _ _ _ _ _ _ _ (Act.put _ (some 77) _) _; simp only [Act.put, List.setIfInBounds_toArray, List.set_cons_zero, List.set_cons_succ]
      refine wpAnyH_take (i := 9) (v := ?_) rfl (by kernel_rfl) (by kernel_rfl) (by kernel_rfl) (fun _ _ _ h => h) (Or.inl ⟨by rfl, ?_⟩) (by assumption) ?_
      rotate_left
      ·intro w hSw; go_simp; (try with_reducible rfl)
      change wpAnyH _ _ _ _ _ _ _ (Act.put _ (some 78) _) _; simp only [Act.put, List.setIfInBounds_toArray, List.set_cons_zero, List.set_cons_succ]
      refine wpAnyH_take (i := 10) (v := ?_) rfl (by kernel_rfl) (by kernel_rfl) (by kernel_rfl) (fun _ _ _ h => h) (Or.inl ⟨by rfl, ?_⟩) (by assumption) ?_
      rotate_left
      ·intro w hSw; go_simp; (try with_reducible rfl)
      change wpAnyH _ _ _ _ _ _ _ (Act.put _ (some 79) _) _; simp only [Act.put, List.setIfInBounds_toArray, List.set_cons_zero, List.set_cons_succ]
      refine wpAnyH_ready (rs := [5]) (by kernel_rfl) (by simp) ?_
      refine AllReadyH.cons rfl (fun K hK => ?_) AllReadyH.nil
      go_simp
      refine cD.mono ?_
      rintro e w1 ⟨v, L, rfl, hv, hL, hb1, hT⟩
      have g1 := HDD.out w1 (KeepK.of hb1)
      have HA : Hid (Below WD.heap.size WD w1 ∧ L.length ≤ 1000 ∧ Sl w1 v L) := ⟨hb1, hL, hv⟩
      clear cD hb1 hv hL
      refine hK.out _ _ ?_ (fun hHeld => ?_)
      ·exact ⟨g1.1, g1.2.2⟩
      clear hK K
      refine wpAnyH_ready (rs := [11]) (by kernel_rfl) (by simp) ?_
      refine AllReadyH.cons rfl (fun K hK => ?_) AllReadyH.nil
      go_simp
      refine hT.mono ?_
      rintro e w2 ⟨v2, rfl, hv2, hb2⟩
      have hl2 := HA.out.1.trans (hb2.mono HA.out.1.size)
      have g2 := HDD.out w2 (KeepK.of hl2)
      have cB := same_texts v v2 L L w2 (HA.out.2.2.below hb2 (Nat.le_refl _)) hv2 HA.out.2.1 HA.out.2.1
      rw [show decide (L = L) = true from decide_eq_true rfl] at cB
      have HT : Hid (Below WD.heap.size WD w2) := hl2
      clear hT hb2 hv2 hl2
      refine hK.out _ _ ?_ (fun hHeld => ?_)
      ·exact ⟨g2.1, g2.2.2⟩
      clear hK K
      refine wpAnyH_ready (rs := [12]) (by kernel_rfl) (by simp) ?_
      refine AllReadyH.cons rfl (fun K hK => ?_) AllReadyH.nil
      go_simp
      refine cB.mono ?_
      rintro e w3 ⟨rfl, q, hq⟩
      have hl3 : Below WD.heap.size WD w3 := by rw [hq]; exact below_drewN HT.out q
      have g3 := HDD.out w3 (KeepK.of hl3)
      have HF : Hid (DeedOut H Q hb rb w (.returned (.bool true)) w3) := HL.out w3 (hl3.mono HS.out.1) (KeepK.of hl3) (HTD.out.below hl3)
      clear cB hq hl3
      refine hK.out _ _ ?_ (fun hHeld => ?_)
      ·exact ⟨g3.1, g3.2.2⟩
      clear hK K
      refine wpAnyH_take (i := 13) (v := ?_) rfl (by kernel_rfl) (by kernel_rfl) (by kernel_rfl) (fun _ _ _ h => h) (Or.inl ⟨by rfl, ?_⟩) (by assumption) ?_
      rotate_left
      ·intro w hSw; go_simp; (try with_reducible rfl)
      change wpAnyH _ _ _ _ _ _ _ (Act.put _ (some 6) _) _; simp only [Act.put, List.setIfInBounds_toArray, List.set_cons_zero, List.set_cons_succ]
      refine wpAnyH_done (by kernel_rfl) ?_ _
      clear hHeld
      go_wp2_with fail
      go_ret
      exact HF.out
     ·have d4 : (k == 4) = false := beq_eq_false_iff_ne.2 k4
      clear tD hED eD bD lowD HED HTD HL HDD HS
      by_cases k5 : k = 5
      ·skip
       subst k5
       have cG := rget_is rb rm rq l2 nx s W1 (HED1.out W1 (Below.refl _ _)).1 T1.r.rhs (by omega)
       clear hWD WD
       go_enter Tryz.func10, Tryz.ntmps10
       go_wp2_with fail
       refine cG.mono ?_
       rintro e w1 ⟨hb1, ⟨r, b2, hr, hm2, rfl⟩ | ⟨r, hr, hno, rfl⟩ | ⟨hr, rfl⟩⟩
       ·clear cG
        have h1 := T1.below hb1
        have cP := get_p nameB hb mb l nx wv s w1 (nameC (HED1.out w1 (hb1.mono HS1.out)).1) h1.p.st.hse.hs (by omega)
        have q1 := r1K w1 hb1
        go_wp2_with fail
        refine cP.mono ?_
        rintro e w2 ⟨hb2, ⟨r', b, hr', hm, rfl⟩ | ⟨r', hr', hno', rfl⟩ | ⟨hr', rfl⟩⟩
        ·rw [hr] at hr'
         obtain rfl := Option.some.inj hr'
         have hl2 := hb1.trans (hb2.mono hb1.size)
         have cB := bare_nil 0 w2
         have HY : Hid (Below W1.heap.size W1 w2 ∧ (r.data.toList, b) ∈ l ∧ (r.data.toList, b2) ∈ l2) := ⟨hl2, hm, hm2⟩
         clear cP hl2 hb2 hb1 h1 hr hr' hm hm2 q1
         go_wp2_with fail
         refine cB.mono ?_
         rintro e w3 ⟨rfl, hb3⟩
         have hl3 := HY.out.1.trans (hb3.mono HY.out.1.size)
         have cA := both_append (T1.below hl3) (by omega) r.data.toList b b2 x hx HY.out.2.1 HY.out.2.2
         have q3 := r2K w3 hl3
         have HZ : Hid (Below W1.heap.size W1 w3) := hl3
         clear cB hb3 hl3
         go_wp2_with fail
         refine cA.mono ?_
         rintro e w4 ⟨u, c, rfl, hb4, hk4, hT⟩
         have hk4' := (KeepK.of HZ.out).trans hk4
         have q4 := HD1.out w4 hk4'
         have hl4 := (HZ.out.mono HS1.out).trans hb4
         have HV : Hid (Below H W1 w4 ∧ KeepK W1 w4) := ⟨hl4, hk4'⟩
         clear cA hb4 hk4 hk4' hl4 q3
         go_wp2_with fail
         refine hT.mono ?_
         rintro e w5 ⟨rfl, hb5, hk5, hTwo⟩
         have hl5 := HV.out.1.trans hb5
         have hk5' := HV.out.2.trans hk5
         have cB := bare_same c w5 (HED1.out w5 hl5).2
         have HU : Hid (Below H W1 w5 ∧ KeepK W1 w5 ∧ Two H (Q + 1) hb rb w5) := ⟨hl5, hk5', hTwo⟩
         clear hT hb5 hk5 hTwo hl5 hk5' q4
         go_wp2_with fail
         refine cB.mono ?_
         rintro e w6 ⟨rfl, hb6⟩
         have HF : Hid (DeedOut H Q hb rb w (.returned (.bool true)) w6) := HL1.out w6 (HU.out.1.trans (hb6.mono (Nat.le_trans HS1.out HU.out.1.size))) (HU.out.2.1.trans (KeepK.of hb6)) (HU.out.2.2.below hb6)
         clear cB hb6
         go_wp2_with fail
         go_ret
         exact HF.out
        ·rw [hr] at hr'
         obtain rfl := Option.some.inj hr'
         have h9 := hasB_true.2 ⟨b2, hm2⟩
         rw [has_names T1.names, hno'] at h9
         cases h9
        ·rw [hr] at hr'
         cases hr'
       ·clear cG
        have h1 := T1.below hb1
        have cP := get_p nameB hb mb l nx wv s w1 (nameC (HED1.out w1 (hb1.mono HS1.out)).1) h1.p.st.hse.hs (by omega)
        have q1 := r1K w1 hb1
        go_wp2_with fail
        refine cP.mono ?_
        rintro e w2 ⟨hb2, ⟨r', b, hr', hm, rfl⟩ | ⟨r', hr', hno', rfl⟩ | ⟨hr', rfl⟩⟩
        ·rw [hr] at hr'
         obtain rfl := Option.some.inj hr'
         have h9 := hasB_true.2 ⟨b, hm⟩
         rw [← has_names T1.names, hno] at h9
         cases h9
        ·clear hno hno'
         have hl2 := hb1.trans (hb2.mono hb1.size)
         have cB := fun W (hW : Below W1.heap.size W1 W) => bare_err 7 7 W (HED1.out W (hW.mono HS1.out)).2
         have cB1 := cB w2 hl2
         have HX : Hid (∀ W, Below W1.heap.size W1 W → Calls Tryz.prog 16 #[errN 7, .int .i64 7] W fun ev w' => ev = .returned (.bool ((7 : Int) == 7)) ∧ Below W.heap.size W w') := cB
         have HY : Hid (Below W1.heap.size W1 w2) := hl2
         clear cP cB hl2 hb2 hb1 h1 hr hr'
         go_wp2_with fail
         refine cB1.mono ?_
         rintro e w3 ⟨rfl, hb3⟩
         have hl3 := HY.out.trans (hb3.mono HY.out.size)
         have cB2 := HX.out w3 hl3
         clear cB1 hb3
         go_wp2_with fail
         refine cB2.mono ?_
         rintro e w4 ⟨rfl, hb4⟩
         have hl4 := hl3.trans (hb4.mono hl3.size)
         have HF : Hid (DeedOut H Q hb rb w (.returned (.bool true)) w4) := HL1.out w4 (hl4.mono HS1.out) (KeepK.of hl4) ((HT1.out.below hl4).more (Nat.le_succ Q))
         clear cB2 hb4 hl4 hl3
         go_wp2_with fail
         go_ret
         exact HF.out
        ·rw [hr] at hr'
         cases hr'
       ·clear cG
        have h1 := T1.below hb1
        have cP := get_p nameB hb mb l nx wv s w1 (nameC (HED1.out w1 (hb1.mono HS1.out)).1) h1.p.st.hse.hs (by omega)
        have q1 := r1K w1 hb1
        go_wp2_with fail
        refine cP.mono ?_
        rintro e w2 ⟨hb2, ⟨r', b, hr', hm, rfl⟩ | ⟨r', hr', hno', rfl⟩ | ⟨hr', rfl⟩⟩
        ·rw [hr] at hr'
         cases hr'
        ·rw [hr] at hr'
         cases hr'
        ·skip
         have hl2 := hb1.trans (hb2.mono hb1.size)
         have cB := fun W (hW : Below W1.heap.size W1 W) => bare_err 1 1 W (HED1.out W (hW.mono HS1.out)).2
         have cB1 := cB w2 hl2
         have HX : Hid (∀ W, Below W1.heap.size W1 W → Calls Tryz.prog 16 #[errN 1, .int .i64 1] W fun ev w' => ev = .returned (.bool ((1 : Int) == 1)) ∧ Below W.heap.size W w') := cB
         have HY : Hid (Below W1.heap.size W1 w2) := hl2
         clear cP cB hl2 hb2 hb1 h1 hr hr'
         go_wp2_with fail
         refine cB1.mono ?_
         rintro e w3 ⟨rfl, hb3⟩
         have hl3 := HY.out.trans (hb3.mono HY.out.size)
         have cB2 := HX.out w3 hl3
         clear cB1 hb3
         go_wp2_with fail
         refine cB2.mono ?_
         rintro e w4 ⟨rfl, hb4⟩
         have hl4 := hl3.trans (hb4.mono hl3.size)
         have HF : Hid (DeedOut H Q hb rb w (.returned (.bool true)) w4) := HL1.out w4 (hl4.mono HS1.out) (KeepK.of hl4) ((HT1.out.below hl4).more (Nat.le_succ Q))
         clear cB2 hb4 hl4 hl3
         go_wp2_with fail
         go_ret
         exact HF.out
      ·have d5 : (k == 5) = false := beq_eq_false_iff_ne.2 k5
       have HF : Hid (DeedOut H Q hb rb w (.returned (.bool true)) W1) := HL1.out W1 (Below.refl _ _) (KeepK.of (Below.refl _ _)) (HT1.out.more (Nat.le_succ Q))
       clear T1 r1K r2K hWD WD
       go_enter Tryz.func10, Tryz.ntmps10
       go_wp2_with fail
       go_ret
       exact HF.out
end Go.Proofs.YtfdlopimncodcaaGreatDoor
