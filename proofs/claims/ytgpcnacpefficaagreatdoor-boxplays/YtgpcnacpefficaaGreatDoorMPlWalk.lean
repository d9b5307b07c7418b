/-
  What BoxPlays does, for every box and every list of deeds.
-/
import Derived.Test.YtgpcnacpefficaaGreatDoorMPlPosts
import Derived.Test.YtgpcnacpefficaaGreatDoorBpPlMem
import Derived.Test.YtgpcnacpefficaaGreatDoorBpLwLetters
import Derived.Test.YtgpcnacpefficaaGreatDoorBpFlagsOps
namespace Go.Proofs.YtgpcnacpefficaaGreatDoor
open Go.RowKit Go.Proofs.Aid Go.Proofs.Bx

theorem letters_fl {L : List Lt} (h : lettersB L = true) : L.length ≤ 70 ∧ ∀ x ∈ L, x.flags.length ≤ 40 ∧ ∀ s ∈ x.flags, s.length ≤ 100 := by
  unfold lettersB at h
  simp only [Bool.and_eq_true, decide_eq_true_eq, List.all_eq_true] at h
  refine ⟨h.1, fun x hx => ?_⟩
  have := h.2 x hx
  unfold shortL at this
  simp only [Bool.and_eq_true, decide_eq_true_eq, List.all_eq_true] at this
  exact this.1
theorem setOf_len (F : List Fl.Tx) : (Fl.setOf F).1.length ≤ 1000 := by
  by_cases h0 : (Fl.setOf F).2 = 0
  · have := (setOf_ok h0).2.2; omega
  · rw [setOf_err h0]; simp
set_option maxHeartbeats 16000000 in
set_option maxRecDepth 100000 in
theorem plays_is (vv nn : Int) (sv0 pv : Value) (L0 : List Lt) (LP : List Po) (w : World) (hs : Lts w sv0 L0) (hp : Pos w pv LP) (hg : SysAt w) (he : ErrType w) :
    Calls Tryz.prog 3 #[.int .i64 vv, .int .i64 nn, sv0, pv] w fun e w' => e = .returned (.bool true) ∧ Below w.heap.size w w' := by
  have cL := letters_is sv0 L0 w hs
  obtain ⟨pa, pcap, rfl, hpr⟩ := id hp
  obtain ⟨sa, sc, rfl, hcap, hrest⟩ := id hs
  obtain ⟨sm, hsm⟩ : ∃ m, L0.length = m := ⟨_, rfl⟩
  obtain ⟨pm, hpm⟩ : ∃ m, LP.length = m := ⟨_, rfl⟩
  have HPM : Hid (LP.length = pm) := hpm
  have HPR : Hid (LP = [] ∨ ∃ b o, pa = some ⟨b, o, none⟩ ∧ ∀ (j : Nat) x, LP[j]? = some x → PoAt w b (o + j * 6) x) := hpr
  rw [hsm] at hs cL ⊢
  rw [hpm]
  cases hLB : lettersB L0 with
  | false =>
    rw [hLB] at cL
    clear hs hp hpr hcap hrest
    go_enter Tryz.func3, Tryz.ntmps3
    go_wp2_with fail
    refine cL.mono ?_
    rintro e w1 ⟨rfl, hw⟩
    obtain rfl : w = w1 := hw.symm
    go_wp2_with fail
    go_ret
    exact ⟨rfl, Below.refl _ _⟩
  | true =>
  rw [hLB] at cL
  by_cases h60 : 60 < pm
  · have d1 : decide ((60 : Int) < (pm : Int)) = true := decide_eq_true (by omega)
    have d2 : decide (60 < pm) = true := decide_eq_true h60
    clear hs hp hpr hcap hrest
    go_enter Tryz.func3, Tryz.ntmps3
    go_wp2_with fail
    refine cL.mono ?_
    rintro e w1 ⟨rfl, hw⟩
    obtain rfl : w = w1 := hw.symm
    go_wp2_with fail
    go_ret
    exact ⟨rfl, Below.refl _ _⟩
  have d1 : decide ((60 : Int) < (pm : Int)) = false := decide_eq_false (by omega)
  have d2 : decide (60 < pm) = false := decide_eq_false h60
  obtain ⟨hl70, hfl⟩ := letters_fl hLB
  have bA : Below w.heap.size w (w.alloc (.cells #[.int .i64 vv, .int .i64 nn, .slice sa sm sc] 26)) := (Below.refl _ _).alloc (Nat.le_refl _) _
  have eA := heap_alloc_new w (.cells #[.int .i64 vv, .int .i64 nn, .slice sa sm sc] 26)
  have bB : Below w.heap.size w ((w.alloc (.cells #[.int .i64 vv, .int .i64 nn, .slice sa sm sc] 26)).alloc (.cells #[.int .i64 vv, .int .i64 nn, .slice sa sm sc] 28)) := bA.alloc (by simp) _
  have eB := heap_alloc_new (w.alloc (.cells #[.int .i64 vv, .int .i64 nn, .slice sa sm sc] 26)) (.cells #[.int .i64 vv, .int .i64 nn, .slice sa sm sc] 28)
  have eA2 : ((w.alloc (.cells #[.int .i64 vv, .int .i64 nn, .slice sa sm sc] 26)).alloc (.cells #[.int .i64 vv, .int .i64 nn, .slice sa sm sc] 28)).heap[w.heap.size]? = some (.cells #[.int .i64 vv, .int .i64 nn, .slice sa sm sc] 26 (0, 0)) := (((Below.refl _ _).alloc (Nat.le_refl _) _).block _ (by simp)).trans eA
  have zB : ((w.alloc (.cells #[.int .i64 vv, .int .i64 nn, .slice sa sm sc] 26)).alloc (.cells #[.int .i64 vv, .int .i64 nn, .slice sa sm sc] 28)).heap.size = w.heap.size + 2 := by simp
  rw [World.size_alloc] at eB
  clear hp hpr hcap hrest
  go_enter Tryz.func3, Tryz.ntmps3
  go_wp2_with fail
  refine cL.mono ?_
  clear cL
  rintro e w1 ⟨rfl, hw⟩
  obtain rfl : w = w1 := hw.symm
  clear hw
  go_upto_region 5 with fail
  obtain ⟨W2, hW2⟩ : ∃ W, (w.alloc (.cells #[.int .i64 vv, .int .i64 nn, .slice sa sm sc] 26)).alloc (.cells #[.int .i64 vv, .int .i64 nn, .slice sa sm sc] 28) = W := ⟨_, rfl⟩
  rw [hW2] at bB eB eA2 zB ⊢
  obtain ⟨wb, hwb⟩ : ∃ B, w.heap.size = B := ⟨_, rfl⟩
  obtain ⟨bb, hbb⟩ : ∃ B, wb + 1 = B := ⟨_, rfl⟩
  rw [hwb] at eB eA2 ⊢
  rw [hbb] at eB ⊢
  have HW2 : Hid (Below w.heap.size w W2) := bB
  have HZ : Hid (w.heap.size = wb ∧ wb + 1 = bb ∧ W2.heap.size = wb + 2) := ⟨hwb, hbb, by rw [zB, hwb]⟩
  have HBB : Hid (W2.heap[bb]? = some (.cells #[.int .i64 vv, .int .i64 nn, .slice sa sm sc] 28 (0, 0)) ∧ W2.heap[wb]? = some (.cells #[.int .i64 vv, .int .i64 nn, .slice sa sm sc] 26 (0, 0))) := ⟨eB, eA2⟩
  have HK : Hid (∀ W, Below W2.heap.size W2 W → (W.cell? ⟨bb, 0, none⟩ = some (.int .i64 vv) ∧ W.cell? ⟨bb, 1, none⟩ = some (.int .i64 nn) ∧ W.cell? ⟨bb, 2, none⟩ = some (.slice sa sm sc)) ∧ W.cell? ⟨wb, 0, none⟩ = some (.int .i64 vv) ∧ W.cell? ⟨wb, 1, none⟩ = some (.int .i64 nn) ∧ W.cell? ⟨wb, 2, none⟩ = some (.slice sa sm sc)) := fun W hW => by
    have z := HZ.out
    have e1 := (hW.block bb (by omega)).trans HBB.out.1
    have e2 := (hW.block wb (by omega)).trans HBB.out.2
    exact ⟨⟨rd_cell e1 rfl, rd_cell e1 rfl, rd_cell e1 rfl⟩, rd_cell e2 rfl, rd_cell e2 rfl, rd_cell e2 rfl⟩
  obtain ⟨⟨x0, x1, x2⟩, y0, y1, y2⟩ := HK.out W2 (Below.refl _ _)
  have HLT : Hid (∀ W, Below W2.heap.size W2 W → Lts W (.slice sa sm sc) L0) := fun W hW => (hs.below bB (Nat.le_refl _)).below hW (Nat.le_refl _)
  have HGE : Hid (SysAt w ∧ ErrType w) := ⟨hg, he⟩
  have HFL : Hid (∀ x ∈ L0, x.flags.length ≤ 400 ∧ (∀ s ∈ x.flags, s.length ≤ 900000) ∧ (Fl.setOf x.flags).1.length ≤ 1000) := fun x hx => ⟨by have := (hfl x hx).1; omega, fun s h => by have := (hfl x hx).2 s h; omega, setOf_len _⟩
  obtain ⟨RB, hRB⟩ : ∃ b, rightB vv nn L0 = b := ⟨_, rfl⟩
  have HRB : Hid (rightB vv nn L0 = RB) := hRB
  have HRR : Hid (∀ W, Below W2.heap.size W2 W → Calls Tryz.prog 6 #[.agg #[.int .i64 vv, .int .i64 nn, .slice sa sm sc]] W fun e w' => e = .returned (.bool RB) ∧ Below W.heap.size W w') := fun W hW => by
    have := rright_is vv nn L0 (.slice sa sm sc) W (HLT.out W hW) (by omega) HFL.out
    rw [hRB] at this
    exact this
  obtain ⟨WD, hWD⟩ : ∃ W, W2.drew = W := ⟨_, rfl⟩
  have hbD : Below W2.heap.size W2 WD := by rw [← hWD]; exact (Below.refl _ _).drew
  have cP := right_is vv nn L0 (.slice sa sm sc) WD (HLT.out WD hbD) (by omega) (fun x hx => ⟨(HFL.out x hx).1, fun s h => by have := (HFL.out x hx).2.1 s h; omega, (HFL.out x hx).2.2⟩) (hg.below (bB.trans (hbD.mono bB.size)) hg.lt)
  rw [hRB] at cP
  clear hs hfl hl70 hLB bA eA bB eB eA2 zB hW2 hwb hbb hRB hg he hsm hpm
  refine wp_region_held_drew (S := fun W => (W.cell? ⟨bb, 0, none⟩ = some (.int .i64 vv) ∧ W.cell? ⟨bb, 1, none⟩ = some (.int .i64 nn) ∧ W.cell? ⟨bb, 2, none⟩ = some (.slice sa sm sc)) ∧ W.cell? ⟨wb, 0, none⟩ = some (.int .i64 vv) ∧ W.cell? ⟨wb, 1, none⟩ = some (.int .i64 nn) ∧ W.cell? ⟨wb, 2, none⟩ = some (.slice sa sm sc)) (by kernel_rfl) ?_ (fun hHeld => ?_)
  · exact ⟨⟨by simpa using x0, by simpa using x1, by simpa using x2⟩, by simpa using y0, by simpa using y1, by simpa using y2⟩
  rw [hWD] at hHeld ⊢
  refine wpAnyH_take (i := 0) (v := ?_) rfl (by kernel_rfl) (by kernel_rfl) (by kernel_rfl) (fun _ _ _ h => h) (Or.inl ⟨by rfl, ?_⟩) (by first | assumption | trivial) ?_
  rotate_left
  · intro w hSw; go_simp; (try with_reducible rfl)
  change wpAnyH _ _ _ _ _ _ _ (Act.put _ (some 35) _) _; simp only [Act.put, List.setIfInBounds_toArray, List.set_cons_zero, List.set_cons_succ]
  refine wpAnyH_take (i := 2) (v := ?_) rfl (by kernel_rfl) (by kernel_rfl) (by kernel_rfl) (fun _ _ _ h => h) (Or.inl ⟨by rfl, ?_⟩) (by first | assumption | trivial) ?_
  rotate_left
  · intro w hSw; go_simp; (try with_reducible rfl)
  change wpAnyH _ _ _ _ _ _ _ (Act.put _ (some 37) _) _; simp only [Act.put, List.setIfInBounds_toArray, List.set_cons_zero, List.set_cons_succ]
  refine wpAnyH_ready (rs := [1]) (by kernel_rfl) (by simp) ?_
  refine AllReadyH.cons rfl (fun K hK => ?_) AllReadyH.nil
  go_simp
  refine cP.mono ?_
  rintro e w3 ⟨rfl, hb3⟩
  have HB3 : Hid (Below W2.heap.size W2 w3) := hbD.trans (hb3.mono hbD.size)
  obtain ⟨⟨g0, g1, g2⟩, g3, g4, g5⟩ := HK.out w3 HB3.out
  clear hb3 cP
  refine hK.out _ _ ?_ (fun hHeld => ?_)
  · exact ⟨⟨g0, g1, g2⟩, g3, g4, g5⟩
  clear hK K
  refine wpAnyH_ready (rs := [3]) (by kernel_rfl) (by simp) ?_
  refine AllReadyH.cons rfl (fun K hK => ?_) AllReadyH.nil
  go_simp
  have cR := HRR.out w3 HB3.out
  refine cR.mono ?_
  rintro e w4 ⟨rfl, hb4⟩
  have HB4 : Hid (Below W2.heap.size W2 w4) := HB3.out.trans (hb4.mono HB3.out.size)
  obtain ⟨⟨k0, k1, k2⟩, k3, k4, k5⟩ := HK.out w4 HB4.out
  clear hb4 cR HB3 g0 g1 g2 g3 g4 g5
  refine hK.out _ _ ?_ (fun hHeld => ?_)
  · exact ⟨⟨k0, k1, k2⟩, k3, k4, k5⟩
  clear hK K
  refine wpAnyH_take (i := 4) (v := ?_) rfl (by kernel_rfl) (by kernel_rfl) (by kernel_rfl) (fun _ _ _ h => h) (Or.inl ⟨by rfl, ?_⟩) (by first | assumption | trivial) ?_
  rotate_left
  · intro w hSw; go_simp; (try with_reducible rfl)
  change wpAnyH _ _ _ _ _ _ _ (Act.put _ (some 39) _) _; simp only [Act.put, List.setIfInBounds_toArray, List.set_cons_zero, List.set_cons_succ]
  refine wpAnyH_done (by kernel_rfl) ?_ _
  clear hHeld
  have cR := HRR.out w4 HB4.out
  go_wp2_with fail
  refine cR.mono ?_
  clear cR k0 k1 k2 k3 k4 k5
  rintro e w5 ⟨rfl, hb5⟩
  have HB5 : Hid (Below W2.heap.size W2 w5) := HB4.out.trans (hb5.mono HB4.out.size)
  clear hb5 HB4
  cases RB with
  | false =>
    have HB0 : Hid (Below w.heap.size w w5) := HW2.out.trans (HB5.out.mono (by have := HW2.out.size; omega))
    go_wp2_with fail
    go_ret
    exact ⟨rfl, HB0.out⟩
  | true =>
    have HPI : Hid (PInv nn L0) := pinv_of HRB.out
    obtain ⟨⟨m0, m1, m2⟩, m3, m4, m5⟩ := HK.out w5 HB5.out
    obtain ⟨WE, hWE⟩ : ∃ W, w5.drew = W := ⟨_, rfl⟩
    have hbE : Below W2.heap.size W2 WE := by rw [← hWE]; exact HB5.out.trans ((Below.refl _ _).drew.mono HB5.out.size)
    have hlE : Lts WE (.slice sa sm sc) L0 := HLT.out WE hbE
    have cO := open_is vv nn (.slice sa sm sc) L0 WE hlE (by have := HPI.out.len; omega) (fun x hx => by have := (HPI.out.ok x hx).2.2; omega)
    have HBE : Hid (Below W2.heap.size W2 WE) := hbE
    clear hlE hbE
    go_upto_region 9 with fail
    refine wp_region_held_drew (S := fun W => (W.cell? ⟨bb, 0, none⟩ = some (.int .i64 vv) ∧ W.cell? ⟨bb, 1, none⟩ = some (.int .i64 nn) ∧ W.cell? ⟨bb, 2, none⟩ = some (.slice sa sm sc)) ∧ W.cell? ⟨wb, 0, none⟩ = some (.int .i64 vv) ∧ W.cell? ⟨wb, 1, none⟩ = some (.int .i64 nn) ∧ W.cell? ⟨wb, 2, none⟩ = some (.slice sa sm sc)) (by kernel_rfl) ?_ (fun hHeld => ?_)
    · exact ⟨⟨by simpa using m0, by simpa using m1, by simpa using m2⟩, by simpa using m3, by simpa using m4, by simpa using m5⟩
    rw [hWE] at hHeld ⊢
    refine wpAnyH_take (i := 0) (v := ?_) rfl (by kernel_rfl) (by kernel_rfl) (by kernel_rfl) (fun _ _ _ h => h) (Or.inl ⟨by rfl, ?_⟩) (by first | assumption | trivial) ?_
    rotate_left
    · intro w hSw; go_simp; (try with_reducible rfl)
    change wpAnyH _ _ _ _ _ _ _ (Act.put _ (some 43) _) _; simp only [Act.put, List.setIfInBounds_toArray, List.set_cons_zero, List.set_cons_succ]
    refine wpAnyH_take (i := 2) (v := ?_) rfl (by kernel_rfl) (by kernel_rfl) (by kernel_rfl) (fun _ _ _ h => h) (Or.inl ⟨by rfl, ?_⟩) (by first | assumption | trivial) ?_
    rotate_left
    · intro w hSw; go_simp; (try with_reducible rfl)
    change wpAnyH _ _ _ _ _ _ _ (Act.put _ (some 45) _) _; simp only [Act.put, List.setIfInBounds_toArray, List.set_cons_zero, List.set_cons_succ]
    refine wpAnyH_ready (rs := [1]) (by kernel_rfl) (by simp) ?_
    refine AllReadyH.cons rfl (fun K hK => ?_) AllReadyH.nil
    go_simp
    refine cO.mono ?_
    rintro e w6 ⟨vb, sv, rfl, hvb, hview, hsv, hb6⟩
    have HB6 : Hid (Below W2.heap.size W2 w6) := HBE.out.trans (hb6.mono HBE.out.size)
    obtain ⟨⟨g0, g1, g2⟩, g3, g4, g5⟩ := HK.out w6 HB6.out
    have HV6 : Hid (W2.heap.size ≤ vb ∧ ViewAt w6 vb sv (newS 0 L0) ∧ ∀ q, sv.ownBlock = some q → W2.heap.size ≤ q) := ⟨Nat.le_trans HBE.out.size hvb, hview, fun q hq => Nat.le_trans HBE.out.size (hsv q hq)⟩
    clear hb6 hview hsv hvb cO
    refine hK.out _ _ ?_ (fun hHeld => ?_)
    · exact ⟨⟨g0, g1, g2⟩, g3, g4, g5⟩
    clear hK K
    refine wpAnyH_ready (rs := [3]) (by kernel_rfl) (by simp) ?_
    refine AllReadyH.cons rfl (fun K hK => ?_) AllReadyH.nil
    go_simp
    have cU := ropen_is vv nn (.slice sa sm sc) L0 w6 (HLT.out w6 HB6.out) (by have := HPI.out.len; omega)
    refine cU.mono ?_
    rintro e w7 ⟨ub, uv, rfl, hub, hrv, huv, hb7⟩
    have HB7 : Hid (Below W2.heap.size W2 w7) := HB6.out.trans (hb7.mono HB6.out.size)
    obtain ⟨⟨k0, k1, k2⟩, k3, k4, k5⟩ := HK.out w7 HB7.out
    have HPS : Hid (PS w w7 bb wb vb ub [] 37 vv nn nn L0 L0 (L0.map sgOf) (L0.map sgOf) (.slice sa sm sc) (.slice sa sm sc) sv uv ∧ PInv nn L0 ∧ VInv L0 (L0.map sgOf) 0) := by
      obtain ⟨vi, hnew⟩ := vinv_open HPI.out
      have hv7 := HV6.out.2.1.below hb7
      rw [hnew] at hv7
      have hz := HZ.out
      have hs6 := HB6.out.size
      exact ⟨⟨HW2.out.trans (HB7.out.mono (by have := HW2.out.size; omega)), ⟨by omega, by omega, by have := HV6.out.1; omega, by omega⟩, fun q hq => by have := HV6.out.2.2 q hq; omega, fun q hq => by have := huv q hq; omega, (HB7.out.block bb (by omega)).trans HBB.out.1, HLT.out w7 HB7.out, ⟨(HB7.out.block wb (by omega)).trans HBB.out.2, HLT.out w7 HB7.out⟩, hv7, hrv, fun q hq => ⟨fun hl e => by have := huv q hq; have := ((HLT.out W2 (Below.refl _ _)).str hl e).2; omega, fun hl e => by have := huv q hq; have := ((HLT.out W2 (Below.refl _ _)).str hl e).2; omega⟩, fun q pc hq => (by cases hq), by decide⟩, HPI.out, vi⟩
    clear hb7 hrv huv hub cU HB6 HV6 g0 g1 g2 g3 g4 g5
    refine hK.out _ _ ?_ (fun hHeld => ?_)
    · exact ⟨⟨k0, k1, k2⟩, k3, k4, k5⟩
    clear hK K
    refine wpAnyH_take (i := 4) (v := ?_) rfl (by kernel_rfl) (by kernel_rfl) (by kernel_rfl) (fun _ _ _ h => h) (Or.inl ⟨by rfl, ?_⟩) (by first | assumption | trivial) ?_
    rotate_left
    · intro w hSw; go_simp; (try with_reducible rfl)
    refine wpAnyH_take (i := 5) (v := ?_) rfl (by kernel_rfl) (by kernel_rfl) (by kernel_rfl) (fun _ _ _ h => h) (Or.inl ⟨by rfl, ?_⟩) (by first | assumption | trivial) ?_
    rotate_left
    · intro w hSw; go_simp; (try with_reducible rfl)
    refine wpAnyH_done (by kernel_rfl) ?_ _
    clear hHeld k0 k1 k2 k3 k4 k5 m0 m1 m2 m3 m4 m5 HB5 HBE HB7 HLT HK HRR HBB HZ HW2 HPI HRB hWE hWD
    go_wp2_with fail
    go_loopw [13] (fun i wr => ∃ k : Nat, i = .int .i64 (k : Int) ∧ k ≤ pm ∧ Hid (∃ (n : Int) (l : List Lt) (S : List Sg) (lv lw sv uv : Value), PS w wr bb wb vb ub [] 37 vv n n l l S S lv lw sv uv ∧ PInv n l ∧ VInv l S k)) (fun i _ => pm - (intOf i).toNat)
    case atStart => exact ⟨0, rfl, Nat.zero_le _, _, _, _, _, _, _, _, HPS.out⟩
    case round =>
      clear HPS
      obtain ⟨i, rfl, hi, HI⟩ := hrel
      obtain ⟨n, l, S, lv, lw, sv, uv, hps, hpi, hvi⟩ := HI.out
      have HP : Hid (PS w wr bb wb vb ub [] 37 vv n n l l S S lv lw sv uv ∧ PInv n l ∧ VInv l S i) := ⟨hps, hpi, hvi⟩
      have HBW : Hid (Below w.heap.size w wr) := hps.base
      clear hps hpi hvi HI
      by_cases hlt : i < pm
      · have hkl : i < LP.length := by rw [HPM.out]; exact hlt
        obtain ⟨x, hx⟩ : ∃ x, LP[i] = x := ⟨_, rfl⟩
        obtain ⟨b, o, rfl, hat⟩ := HPR.out.resolve_left fun e => by rw [e] at hkl; simp at hkl
        obtain ⟨f0, f1, f2, ⟨fv, f3, hsf⟩, f4, f5⟩ := hat i x (by rw [List.getElem?_eq_getElem hkl, hx])
        have hbl := World.block_lt_of_cell? _ _ f0
        have ec : ∀ j, wr.cell? ⟨b, j, none⟩ = w.cell? ⟨b, j, none⟩ := fun j => HBW.out.cell (p := ⟨b, j, none⟩) hbl
        have q0 := (ec _).trans f0
        have q1 := (ec _).trans f1
        have q2 := (ec _).trans f2
        have q3 := (ec _).trans f3
        have q4 := (ec _).trans f4
        have q5 := (ec _).trans f5
        obtain ⟨fa, fc, hfv, hfr⟩ := id hsf
        obtain ⟨FL, hFL⟩ : ∃ z, x.flags.length = z := ⟨_, rfl⟩
        rw [hFL] at hfv
        subst hfv
        obtain ⟨WH, hWH⟩ : ∃ z, x.what = z := ⟨_, rfl⟩
        obtain ⟨UI, hUI⟩ : ∃ z, x.uid = z := ⟨_, rfl⟩
        obtain ⟨NN, hNN⟩ : ∃ z, x.n = z := ⟨_, rfl⟩
        obtain ⟨TX, hTX⟩ : ∃ z, x.text = z := ⟨_, rfl⟩
        obtain ⟨LG, hLG⟩ : ∃ z, x.long = z := ⟨_, rfl⟩
        rw [hWH] at q0
        rw [hUI] at q1
        rw [hNN] at q2
        rw [hTX] at q4
        rw [hLG] at q5
        have HSF : Hid (Sl w (.slice fa FL fc) x.flags) := hsf
        have b1 : Below wr.heap.size wr (wr.alloc (.cells #[.int .i64 WH, .int .i64 UI, .int .i64 NN, .slice fa FL fc, .string TX, .bool LG] 37)) := (Below.refl _ _).alloc (Nat.le_refl _) _
        have e1 := heap_alloc_new wr (.cells #[.int .i64 WH, .int .i64 UI, .int .i64 NN, .slice fa FL fc, .string TX, .bool LG] 37)
        clear hx hat f0 f1 f2 f3 f4 f5 ec hbl hsf hfr hFL hWH hUI hNN hTX hLG hkl
        go_upto_region 16 with fail
        obtain ⟨w1, hw1⟩ : ∃ W, wr.alloc (.cells #[.int .i64 WH, .int .i64 UI, .int .i64 NN, .slice fa FL fc, .string TX, .bool LG] 37) = W := ⟨_, rfl⟩
        rw [hw1] at b1 e1 ⊢
        obtain ⟨XB, hXB⟩ : ∃ B, wr.heap.size = B := ⟨_, rfl⟩
        rw [hXB] at e1 ⊢
        have hP1 := (HP.out.1.below b1).keeps (K' := [(XB, #[.int .i64 WH, .int .i64 UI, .int .i64 NN, .slice fa FL fc, .string TX, .bool LG])]) (fun q pc hq => by
          have e := List.mem_singleton.1 hq
          injection e with e2 e3
          subst e2
          subst e3
          exact e1)
        have HP1 : Hid (PS w w1 bb wb vb ub [(XB, #[.int .i64 WH, .int .i64 UI, .int .i64 NN, .slice fa FL fc, .string TX, .bool LG])] 37 vv n n l l S S lv lw sv uv ∧ PInv n l ∧ VInv l S i) := ⟨hP1, HP.out.2⟩
        have p1 : w1.cell? ⟨XB, 1, none⟩ = some (.int .i64 UI) := rd_cell e1 rfl
        have p0 : w1.cell? ⟨XB, 0, none⟩ = some (.int .i64 WH) := rd_cell e1 rfl
        have p2 : w1.cell? ⟨XB, 2, none⟩ = some (.int .i64 NN) := rd_cell e1 rfl
        have p3 : w1.cell? ⟨XB, 3, none⟩ = some (.slice fa FL fc) := rd_cell e1 rfl
        have p4 : w1.cell? ⟨XB, 4, none⟩ = some (.string TX) := rd_cell e1 rfl
        have p5 : w1.cell? ⟨XB, 5, none⟩ = some (.bool LG) := rd_cell e1 rfl
        have cT := texts_any (.slice fa FL fc) x.flags w1 (HSF.out.below hP1.base (Nat.le_refl _))
        obtain ⟨TB, hTB⟩ : ∃ z, (decide (x.flags.length ≤ 40) && x.flags.all fun t => decide (t.length ≤ 100)) = z := ⟨_, rfl⟩
        rw [hTB] at cT
        have HTB : Hid ((decide (x.flags.length ≤ 40) && x.flags.all fun t => decide (t.length ≤ 100)) = TB) := hTB
        have HGO : Hid (∃ (n : Int) (l : List Lt) (S : List Sg) (lv lw sv uv : Value), PS w w1 bb wb vb ub [] 37 vv n n l l S S lv lw sv uv ∧ PInv n l ∧ VInv l S (i + 1)) := ⟨_, _, _, _, _, _, _, hP1.keeps (fun q pc hq => (by cases hq)), HP.out.2.1, HP.out.2.2.more⟩
        clear hP1 e1 b1 hw1 hXB hTB HP HBW q0 q1 q2 q3 q4 q5
        go_wp2_with fail
        refine cT.mono ?_
        clear cT
        rintro e w2 ⟨rfl, hw2⟩
        obtain rfl : w1 = w2 := hw2.symm
        clear hw2
        cases TB with
        | false =>
          go_wp2_with fail
          go_roundw
          case rel => exact ⟨i + 1, by go_num, by omega, HGO⟩
          case measure => simp [intOf]; omega
        | true =>
          by_cases h300 : 300 < TX.size
          · have e3 : decide ((300 : Int) < (TX.size : Int)) = true := decide_eq_true (by omega)
            have e4 : decide (300 < TX.size) = true := decide_eq_true h300
            go_wp2_with fail
            go_roundw
            case rel => exact ⟨i + 1, by go_num, by omega, HGO⟩
            case measure => simp [intOf]; omega
          have e3 : decide ((300 : Int) < (TX.size : Int)) = false := decide_eq_false (by omega)
          have e4 : decide (300 < TX.size) = false := decide_eq_false h300
          have hfx : x.flags.length ≤ 40 ∧ ∀ t ∈ x.flags, t.length ≤ 100 := by
            have := HTB.out
            simp only [Bool.and_eq_true, decide_eq_true_eq, List.all_eq_true] at this
            exact this
          have cX := posts_is w w1 bb wb vb ub _ vv n l S lv lw sv uv i WH UI NN (.slice fa FL fc) x.flags TX LG HP1.out.1 HP1.out.2.1 HP1.out.2.2 (by omega) HSF.out hfx.1 hfx.2 HGE.out.1 HGE.out.2
          clear HP1 hfx HTB HGO
          go_wp2_with fail
          refine cX.mono ?_
          clear cX p0 p1 p2 p3 p4 p5
          rintro e w3 ⟨rfl, hout⟩
          obtain ⟨n3, l3, S3, lv3, lw3, sv3, uv3, hps3, hpi3, hvi3⟩ := hout
          have HP3 : Hid _ := hps3
          have HIV : Hid (PInv n3 l3 ∧ VInv l3 S3 (i + 1) ∧ S3.length ≤ 200) := ⟨hpi3, hvi3, by have := hvi3.len; omega⟩
          obtain ⟨a3, c3, hlv3, hlr3⟩ := id hps3.lts
          obtain ⟨a4, c4, hlw3, hlr4⟩ := id hps3.rbox.2
          obtain ⟨m3, hm3⟩ : ∃ z, l3.length = z := ⟨_, rfl⟩
          rw [hm3] at hlv3 hlw3
          subst hlv3
          subst hlw3
          have cS := same_letters _ _ l3 w3 hps3.lts hps3.rbox.2 (by have := hpi3.len; omega) (fun y hy => by have := (hpi3.ok y hy).2.2; omega)
          have k0 : w3.cell? ⟨bb, 0, none⟩ = some (.int .i64 vv) := rd_cell hps3.box rfl
          have k1 : w3.cell? ⟨bb, 1, none⟩ = some (.int .i64 n3) := rd_cell hps3.box rfl
          have k2 : w3.cell? ⟨bb, 2, none⟩ = some (.slice a3 m3 c3) := rd_cell hps3.box rfl
          have j0 : w3.cell? ⟨wb, 0, none⟩ = some (.int .i64 vv) := rd_cell hps3.rbox.1 rfl
          have j1 : w3.cell? ⟨wb, 1, none⟩ = some (.int .i64 n3) := rd_cell hps3.rbox.1 rfl
          have j2 : w3.cell? ⟨wb, 2, none⟩ = some (.slice a4 m3 c4) := rd_cell hps3.rbox.1 rfl
          clear hps3 hpi3 hvi3 hlr3 hlr4 hm3
          go_wp2_with fail
          refine cS.mono ?_
          clear cS k0 k1 k2 j0 j1 j2
          rintro e w4 ⟨rfl, hb4⟩
          have hps4 := HP3.out.below hb4
          have HP4 : Hid _ := hps4
          have cF := find_is bb vv n3 UI l3 w4 hps4.boxAt HIV.out.1.rise (by have := HIV.out.1.len; omega)
          obtain ⟨FI, hFI⟩ : ∃ C, findI l3 UI = C := ⟨_, rfl⟩
          obtain ⟨FB, hFB⟩ : ∃ C, findB l3 UI = C := ⟨_, rfl⟩
          rw [hFI, hFB] at cF
          have p1 : w4.cell? ⟨XB, 1, none⟩ = some (.int .i64 UI) := rd_cell (hps4.post XB _ List.mem_cons_self) rfl
          have HRF : Hid (rfind l3 UI = if FB = true then (FI : Int) else -1) := by
            unfold Hid rfind
            rw [hFI, hFB]
          clear hps4 HP3 hb4 hFI hFB
          go_wp2_with fail
          refine cF.mono ?_
          clear cF p1
          rintro e w5 ⟨rfl, hb5⟩
          have hps5 := HP4.out.below hb5
          have HP5 : Hid _ := hps5
          have cR : ∀ W, Below w5.heap.size w5 W → Calls Tryz.prog 13 #[.agg #[.int .i64 vv, .int .i64 n3, .slice a4 m3 c4], .int .i64 UI] W fun e w' => e = .returned (.int .i64 (rfind l3 UI)) ∧ Below W.heap.size W w' := fun W hW => rfind_is vv n3 UI (.slice a4 m3 c4) l3 W (HP5.out.below hW).rbox.2 HIV.out.1.rise (by have := HIV.out.1.len; omega)
          have HCR : Hid (∀ W, Below w5.heap.size w5 W → Calls Tryz.prog 13 #[.agg #[.int .i64 vv, .int .i64 n3, .slice a4 m3 c4], .int .i64 UI] W fun e w' => e = .returned (.int .i64 (rfind l3 UI)) ∧ Below W.heap.size W w') := cR
          have HRB5 : Hid (∀ W, Below w5.heap.size w5 W → W.cell? ⟨wb, 0, none⟩ = some (.int .i64 vv) ∧ W.cell? ⟨wb, 1, none⟩ = some (.int .i64 n3) ∧ W.cell? ⟨wb, 2, none⟩ = some (.slice a4 m3 c4) ∧ W.cell? ⟨XB, 1, none⟩ = some (.int .i64 UI)) := fun W hW => by
            have h := HP5.out.below hW
            exact ⟨rd_cell h.rbox.1 rfl, rd_cell h.rbox.1 rfl, rd_cell h.rbox.1 rfl, rd_cell (h.post XB _ List.mem_cons_self) rfl⟩
          obtain ⟨g0, g1, g2, g3⟩ := HRB5.out w5 (Below.refl _ _)
          clear hps5 HP4 hb5 cR
          have cR1 := HCR.out w5 (Below.refl _ _)
          cases FB with
          | true =>
            have hrf : rfind l3 UI = (FI : Int) := by rw [HRF.out]; rfl
            rw [hrf] at cR1
            have df : decide ((0 : Int) ≤ (FI : Int)) = true := decide_eq_true (by omega)
            go_wp2_with fail
            refine cR1.mono ?_
            clear cR1 g0 g1 g2 g3
            rintro e w6 ⟨rfl, hb6⟩
            have cR2 := HCR.out w6 hb6
            rw [hrf] at cR2
            obtain ⟨g0, g1, g2, g3⟩ := HRB5.out w6 hb6
            have HB6 : Hid (Below w5.heap.size w5 w6) := hb6
            clear hb6 hrf
            go_wp2_with fail
            refine cR2.mono ?_
            clear cR2 g0 g1 g2 g3
            rintro e w7 ⟨rfl, hb7⟩
            have HB7 : Hid (Below w5.heap.size w5 w7) := HB6.out.trans (hb7.mono HB6.out.size)
            clear hb7 HB6
            have hps7 := HP5.out.below HB7.out
            have cU := view_uids vb sv3 S3 w7 hps7.view (by have := HIV.out.2.2; omega)
            have HP7 : Hid _ := hps7
            clear hps7 HP5 HCR HRB5
            go_wp2_with fail
            refine cU.mono ?_
            clear cU
            rintro e w8 ⟨ov, rfl, hno, hb8⟩
            have hps8 := HP7.out.below hb8
            obtain ⟨oa, oc, hov, hor⟩ := hno.rd
            obtain ⟨ra, rcap, hruv⟩ := hps8.rview.2.form
            rw [List.length_map] at hov hruv
            obtain ⟨m2, hm2⟩ : ∃ z, S3.length = z := ⟨_, rfl⟩
            have HM2 : Hid (S3.length = m2) := hm2
            have hm200 : m2 ≤ 200 := by rw [← hm2]; exact HIV.out.2.2
            rw [hm2] at hov hruv
            subst hov
            subst hruv
            have HP8 : Hid _ := hps8
            have HOR : Hid (S3.map Sg.uid = [] ∨ ∃ b o, oa = some ⟨b, o, none⟩ ∧ ∀ (j : Nat) x, (S3.map Sg.uid)[j]? = some x → w8.cell? ⟨b, o + j, none⟩ = some (.int .i64 x)) := hor
            have u0 : w8.cell? ⟨ub, 0, none⟩ = some (.slice ra m2 rcap) := rd_cell hps8.rview.1 rfl
            clear hps8 hno hb8 hor hm2 HP7
            go_wp2_with fail
            go_loopw [18] (fun j wr => ∃ k : Nat, j = .int .i64 (k : Int) ∧ k ≤ m2 ∧ Hid (Below w8.heap.size w8 wr)) (fun j _ => m2 - (intOf j).toNat)
            case atStart => exact ⟨0, rfl, Nat.zero_le _, Below.refl _ _⟩
            case round =>
              obtain ⟨j, rfl, hj, HJ⟩ := hrel
              by_cases hjl : j < m2
              · have hsl : j < S3.length := by rw [HM2.out]; exact hjl
                obtain ⟨s, hs⟩ : ∃ s, S3[j] = s := ⟨_, rfl⟩
                have hsk : S3[j]? = some s := by rw [List.getElem?_eq_getElem hsl, hs]
                have hps9 := HP8.out.below HJ.out
                obtain ⟨ob, oo, rfl, hot⟩ := HOR.out.resolve_left fun e => by rw [List.map_eq_nil_iff] at e; rw [e] at hsl; simp at hsl
                have t0 := hot j s.uid (by rw [List.getElem?_map, hsk]; rfl)
                obtain ⟨rg, rc9, fv9, ev9, _, _, t2, _⟩ := lown_at hps9.rview.2 (k := j) (x := sgLt s) (by rw [List.getElem?_map, hsk]; rfl)
                rw [List.length_map, HM2.out] at ev9
                injection ev9 with ev9 _ ec9
                subst ev9
                obtain ⟨XU, hXU⟩ : ∃ z, s.uid = z := ⟨_, rfl⟩
                have z0 : wr.cell? ⟨ob, oo + j, none⟩ = some (.int .i64 XU) := by
                  rw [← hXU]
                  exact (HJ.out.cell (p := ⟨ob, _, none⟩) (World.block_lt_of_cell? _ _ t0)).trans t0
                have z1 : wr.cell? ⟨ub, 0, none⟩ = some (.slice (some ⟨rg, 0, none⟩) m2 rcap) := rd_cell hps9.rview.1 rfl
                have z2 : wr.cell? ⟨rg, j * 4, none⟩ = some (.int .i64 XU) := by
                  rw [t2, ← hXU]
                  rfl
                have i1 : (0 : Int) ≤ (j : Int) := by omega
                have i2 : (j : Int) < (m2 : Int) := by omega
                clear hs hsk hsl hps9 hot t0 t2 ec9 hXU
                go_upto_region 28 with fail
                refine wp_region_held_drew (S := fun W => W.cell? ⟨ob, oo + j, none⟩ = some (.int .i64 XU) ∧ W.cell? ⟨ub, 0, none⟩ = some (.slice (some ⟨rg, 0, none⟩) m2 rcap) ∧ W.cell? ⟨rg, j * 4, none⟩ = some (.int .i64 XU)) (by kernel_rfl) ?_ (fun hHeld => ?_)
                · exact ⟨by simpa using z0, by simpa using z1, by simpa using z2⟩
                refine wpAnyH_take (i := 0) (v := ?_) rfl (by kernel_rfl) (by kernel_rfl) (by kernel_rfl) (fun _ _ _ h => h) (Or.inl ⟨by rfl, ?_⟩) (by first | assumption | trivial) ?_
                rotate_left
                · intro w hSw; go_simp; (try with_reducible rfl)
                change wpAnyH _ _ _ _ _ _ _ (Act.put _ (some 136) _) _; simp only [Act.put, List.setIfInBounds_toArray, List.set_cons_zero, List.set_cons_succ]
                refine wpAnyH_take (i := 1) (v := ?_) rfl (by kernel_rfl) (by kernel_rfl) (by kernel_rfl) (fun _ _ _ h => h) (Or.inl ⟨by rfl, ?_⟩) (by first | assumption | trivial) ?_
                rotate_left
                · intro w hSw; go_simp; (try with_reducible rfl)
                change wpAnyH _ _ _ _ _ _ _ (Act.put _ (some 137) _) _; simp only [Act.put, List.setIfInBounds_toArray, List.set_cons_zero, List.set_cons_succ]
                refine wpAnyH_take (i := 2) (v := ?_) rfl (by kernel_rfl) (by kernel_rfl) (by kernel_rfl) (fun _ _ _ h => h) (Or.inl ⟨by rfl, ?_⟩) (by first | assumption | trivial) ?_
                rotate_left
                · intro w hSw; go_simp; (try with_reducible rfl)
                change wpAnyH _ _ _ _ _ _ _ (Act.put _ (some 138) _) _; simp only [Act.put, List.setIfInBounds_toArray, List.set_cons_zero, List.set_cons_succ]
                refine wpAnyH_take (i := 3) (v := ?_) rfl (by kernel_rfl) (by kernel_rfl) (by kernel_rfl) (fun _ _ _ h => h) (Or.inl ⟨by rfl, ?_⟩) (by first | assumption | trivial) ?_
                rotate_left
                · intro w hSw; go_simp; (try with_reducible rfl)
                change wpAnyH _ _ _ _ _ _ _ (Act.put _ (some 139) _) _; simp only [Act.put, List.setIfInBounds_toArray, List.set_cons_zero, List.set_cons_succ]
                refine wpAnyH_take (i := 4) (v := ?_) rfl (by kernel_rfl) (by kernel_rfl) (by kernel_rfl) (fun _ _ _ h => h) (Or.inl ⟨by rfl, ?_⟩) (by first | assumption | trivial) ?_
                rotate_left
                · intro w hSw; go_simp; (try with_reducible rfl)
                change wpAnyH _ _ _ _ _ _ _ (Act.put _ (some 140) _) _; simp only [Act.put, List.setIfInBounds_toArray, List.set_cons_zero, List.set_cons_succ]
                refine wpAnyH_take (i := 5) (v := ?_) rfl (by kernel_rfl) (by kernel_rfl) (by kernel_rfl) (fun _ _ _ h => h) (Or.inl ⟨by rfl, ?_⟩) (by first | assumption | trivial) ?_
                rotate_left
                · intro w hSw; go_simp; (try with_reducible rfl)
                change wpAnyH _ _ _ _ _ _ _ (Act.put _ (some 141) _) _; simp only [Act.put, List.setIfInBounds_toArray, List.set_cons_zero, List.set_cons_succ]
                refine wpAnyH_take (i := 6) (v := ?_) rfl (by kernel_rfl) (by kernel_rfl) (by kernel_rfl) (fun _ _ _ h => h) (Or.inl ⟨by rfl, ?_⟩) (by first | assumption | trivial) ?_
                rotate_left
                · intro w hSw; go_simp; (try with_reducible rfl)
                change wpAnyH _ _ _ _ _ _ _ (Act.put _ (some 142) _) _; simp only [Act.put, List.setIfInBounds_toArray, List.set_cons_zero, List.set_cons_succ]
                refine wpAnyH_take (i := 7) (v := ?_) rfl (by kernel_rfl) (by kernel_rfl) (by kernel_rfl) (fun _ _ _ h => h) (Or.inl ⟨by rfl, ?_⟩) (by first | assumption | trivial) ?_
                rotate_left
                · intro w hSw; go_simp; (try with_reducible rfl)
                change wpAnyH _ _ _ _ _ _ _ (Act.put _ (some 143) _) _; simp only [Act.put, List.setIfInBounds_toArray, List.set_cons_zero, List.set_cons_succ]
                refine wpAnyH_take (i := 8) (v := ?_) rfl (by kernel_rfl) (by kernel_rfl) (by kernel_rfl) (fun _ _ _ h => h) (Or.inl ⟨by rfl, ?_⟩) (by first | assumption | trivial) ?_
                rotate_left
                · intro w hSw; go_simp; (try with_reducible rfl)
                change wpAnyH _ _ _ _ _ _ _ (Act.put _ (some 144) _) _; simp only [Act.put, List.setIfInBounds_toArray, List.set_cons_zero, List.set_cons_succ]
                refine wpAnyH_take (i := 9) (v := ?_) rfl (by kernel_rfl) (by kernel_rfl) (by kernel_rfl) (fun _ _ _ h => h) (Or.inl ⟨by rfl, ?_⟩) (by first | assumption | trivial) ?_
                rotate_left
                · intro w hSw; go_simp; (try with_reducible rfl)
                change wpAnyH _ _ _ _ _ _ _ (Act.put _ (some 145) _) _; simp only [Act.put, List.setIfInBounds_toArray, List.set_cons_zero, List.set_cons_succ]
                refine wpAnyH_take (i := 10) (v := ?_) rfl (by kernel_rfl) (by kernel_rfl) (by kernel_rfl) (fun _ _ _ h => h) (Or.inl ⟨by rfl, ?_⟩) (by first | assumption | trivial) ?_
                rotate_left
                · intro w hSw; go_simp; (try with_reducible rfl)
                change wpAnyH _ _ _ _ _ _ _ (Act.put _ (some 146) _) _; simp only [Act.put, List.setIfInBounds_toArray, List.set_cons_zero, List.set_cons_succ]
                refine wpAnyH_take (i := 11) (v := ?_) rfl (by kernel_rfl) (by kernel_rfl) (by kernel_rfl) (fun _ _ _ h => h) (Or.inl ⟨by rfl, ?_⟩) (by first | assumption | trivial) ?_
                rotate_left
                · intro w hSw; go_simp; (try with_reducible rfl)
                change wpAnyH _ _ _ _ _ _ _ (Act.put _ (some 147) _) _; simp only [Act.put, List.setIfInBounds_toArray, List.set_cons_zero, List.set_cons_succ]
                refine wpAnyH_take (i := 12) (v := ?_) rfl (by kernel_rfl) (by kernel_rfl) (by kernel_rfl) (fun _ _ _ h => h) (Or.inl ⟨by rfl, ?_⟩) (by first | assumption | trivial) ?_
                rotate_left
                · intro w hSw; go_simp; (try with_reducible rfl)
                change wpAnyH _ _ _ _ _ _ _ (Act.put _ (some 148) _) _; simp only [Act.put, List.setIfInBounds_toArray, List.set_cons_zero, List.set_cons_succ]
                refine wpAnyH_done (by kernel_rfl) ?_ _
                have HG : Hid (Below w8.heap.size w8 wr.drew) := HJ.out.trans ((Below.refl _ _).drew.mono HJ.out.size)
                clear hHeld
                go_wp2_with fail
                go_roundw
                case rel => exact ⟨j + 1, by go_num, by omega, HG⟩
                case measure => simp [intOf]; omega
              · have HGO : Hid (∃ (n : Int) (l : List Lt) (S : List Sg) (lv lw sv uv : Value), PS w wr bb wb vb ub [] 37 vv n n l l S S lv lw sv uv ∧ PInv n l ∧ VInv l S (i + 1)) := ⟨_, _, _, _, _, _, _, (HP8.out.below HJ.out).keeps (fun q pc hq => (by cases hq)), HIV.out.1, HIV.out.2.1⟩
                clear HJ
                go_wp2_with fail
                go_roundw
                case rel => exact ⟨i + 1, by go_num, by omega, HGO⟩
                case measure => simp [intOf]; omega
          | false =>
            have hrf : rfind l3 UI = -1 := by rw [HRF.out]; rfl
            rw [hrf] at cR1
            go_wp2_with fail
            refine cR1.mono ?_
            clear cR1 g0 g1 g2 g3 hrf
            rintro e w6 ⟨rfl, hb6⟩
            have HB6 : Hid (Below w5.heap.size w5 w6) := hb6
            clear hb6
            have hps7 := HP5.out.below HB6.out
            have cU := view_uids vb sv3 S3 w6 hps7.view (by have := HIV.out.2.2; omega)
            have HP7 : Hid _ := hps7
            clear hps7 HP5 HCR HRB5
            go_wp2_with fail
            refine cU.mono ?_
            clear cU
            rintro e w8 ⟨ov, rfl, hno, hb8⟩
            have hps8 := HP7.out.below hb8
            obtain ⟨oa, oc, hov, hor⟩ := hno.rd
            obtain ⟨ra, rcap, hruv⟩ := hps8.rview.2.form
            rw [List.length_map] at hov hruv
            obtain ⟨m2, hm2⟩ : ∃ z, S3.length = z := ⟨_, rfl⟩
            have HM2 : Hid (S3.length = m2) := hm2
            have hm200 : m2 ≤ 200 := by rw [← hm2]; exact HIV.out.2.2
            rw [hm2] at hov hruv
            subst hov
            subst hruv
            have HP8 : Hid _ := hps8
            have HOR : Hid (S3.map Sg.uid = [] ∨ ∃ b o, oa = some ⟨b, o, none⟩ ∧ ∀ (j : Nat) x, (S3.map Sg.uid)[j]? = some x → w8.cell? ⟨b, o + j, none⟩ = some (.int .i64 x)) := hor
            have u0 : w8.cell? ⟨ub, 0, none⟩ = some (.slice ra m2 rcap) := rd_cell hps8.rview.1 rfl
            clear hps8 hno hb8 hor hm2 HP7
            go_wp2_with fail
            go_loopw [18] (fun j wr => ∃ k : Nat, j = .int .i64 (k : Int) ∧ k ≤ m2 ∧ Hid (Below w8.heap.size w8 wr)) (fun j _ => m2 - (intOf j).toNat)
            case atStart => exact ⟨0, rfl, Nat.zero_le _, Below.refl _ _⟩
            case round =>
              obtain ⟨j, rfl, hj, HJ⟩ := hrel
              by_cases hjl : j < m2
              · have hsl : j < S3.length := by rw [HM2.out]; exact hjl
                obtain ⟨s, hs⟩ : ∃ s, S3[j] = s := ⟨_, rfl⟩
                have hsk : S3[j]? = some s := by rw [List.getElem?_eq_getElem hsl, hs]
                have hps9 := HP8.out.below HJ.out
                obtain ⟨ob, oo, rfl, hot⟩ := HOR.out.resolve_left fun e => by rw [List.map_eq_nil_iff] at e; rw [e] at hsl; simp at hsl
                have t0 := hot j s.uid (by rw [List.getElem?_map, hsk]; rfl)
                obtain ⟨rg, rc9, fv9, ev9, _, _, t2, _⟩ := lown_at hps9.rview.2 (k := j) (x := sgLt s) (by rw [List.getElem?_map, hsk]; rfl)
                rw [List.length_map, HM2.out] at ev9
                injection ev9 with ev9 _ ec9
                subst ev9
                obtain ⟨XU, hXU⟩ : ∃ z, s.uid = z := ⟨_, rfl⟩
                have z0 : wr.cell? ⟨ob, oo + j, none⟩ = some (.int .i64 XU) := by
                  rw [← hXU]
                  exact (HJ.out.cell (p := ⟨ob, _, none⟩) (World.block_lt_of_cell? _ _ t0)).trans t0
                have z1 : wr.cell? ⟨ub, 0, none⟩ = some (.slice (some ⟨rg, 0, none⟩) m2 rcap) := rd_cell hps9.rview.1 rfl
                have z2 : wr.cell? ⟨rg, j * 4, none⟩ = some (.int .i64 XU) := by
                  rw [t2, ← hXU]
                  rfl
                have i1 : (0 : Int) ≤ (j : Int) := by omega
                have i2 : (j : Int) < (m2 : Int) := by omega
                clear hs hsk hsl hps9 hot t0 t2 ec9 hXU
                go_upto_region 28 with fail
                refine wp_region_held_drew (S := fun W => W.cell? ⟨ob, oo + j, none⟩ = some (.int .i64 XU) ∧ W.cell? ⟨ub, 0, none⟩ = some (.slice (some ⟨rg, 0, none⟩) m2 rcap) ∧ W.cell? ⟨rg, j * 4, none⟩ = some (.int .i64 XU)) (by kernel_rfl) ?_ (fun hHeld => ?_)
                · exact ⟨by simpa using z0, by simpa using z1, by simpa using z2⟩
                refine wpAnyH_take (i := 0) (v := ?_) rfl (by kernel_rfl) (by kernel_rfl) (by kernel_rfl) (fun _ _ _ h => h) (Or.inl ⟨by rfl, ?_⟩) (by first | assumption | trivial) ?_
                rotate_left
                · intro w hSw; go_simp; (try with_reducible rfl)
                change wpAnyH _ _ _ _ _ _ _ (Act.put _ (some 136) _) _; simp only [Act.put, List.setIfInBounds_toArray, List.set_cons_zero, List.set_cons_succ]
                refine wpAnyH_take (i := 1) (v := ?_) rfl (by kernel_rfl) (by kernel_rfl) (by kernel_rfl) (fun _ _ _ h => h) (Or.inl ⟨by rfl, ?_⟩) (by first | assumption | trivial) ?_
                rotate_left
                · intro w hSw; go_simp; (try with_reducible rfl)
                change wpAnyH _ _ _ _ _ _ _ (Act.put _ (some 137) _) _; simp only [Act.put, List.setIfInBounds_toArray, List.set_cons_zero, List.set_cons_succ]
                refine wpAnyH_take (i := 2) (v := ?_) rfl (by kernel_rfl) (by kernel_rfl) (by kernel_rfl) (fun _ _ _ h => h) (Or.inl ⟨by rfl, ?_⟩) (by first | assumption | trivial) ?_
                rotate_left
                · intro w hSw; go_simp; (try with_reducible rfl)
                change wpAnyH _ _ _ _ _ _ _ (Act.put _ (some 138) _) _; simp only [Act.put, List.setIfInBounds_toArray, List.set_cons_zero, List.set_cons_succ]
                refine wpAnyH_take (i := 3) (v := ?_) rfl (by kernel_rfl) (by kernel_rfl) (by kernel_rfl) (fun _ _ _ h => h) (Or.inl ⟨by rfl, ?_⟩) (by first | assumption | trivial) ?_
                rotate_left
                · intro w hSw; go_simp; (try with_reducible rfl)
                change wpAnyH _ _ _ _ _ _ _ (Act.put _ (some 139) _) _; simp only [Act.put, List.setIfInBounds_toArray, List.set_cons_zero, List.set_cons_succ]
                refine wpAnyH_take (i := 4) (v := ?_) rfl (by kernel_rfl) (by kernel_rfl) (by kernel_rfl) (fun _ _ _ h => h) (Or.inl ⟨by rfl, ?_⟩) (by first | assumption | trivial) ?_
                rotate_left
                · intro w hSw; go_simp; (try with_reducible rfl)
                change wpAnyH _ _ _ _ _ _ _ (Act.put _ (some 140) _) _; simp only [Act.put, List.setIfInBounds_toArray, List.set_cons_zero, List.set_cons_succ]
                refine wpAnyH_take (i := 5) (v := ?_) rfl (by kernel_rfl) (by kernel_rfl) (by kernel_rfl) (fun _ _ _ h => h) (Or.inl ⟨by rfl, ?_⟩) (by first | assumption | trivial) ?_
                rotate_left
                · intro w hSw; go_simp; (try with_reducible rfl)
                change wpAnyH _ _ _ _ _ _ _ (Act.put _ (some 141) _) _; simp only [Act.put, List.setIfInBounds_toArray, List.set_cons_zero, List.set_cons_succ]
                refine wpAnyH_take (i := 6) (v := ?_) rfl (by kernel_rfl) (by kernel_rfl) (by kernel_rfl) (fun _ _ _ h => h) (Or.inl ⟨by rfl, ?_⟩) (by first | assumption | trivial) ?_
                rotate_left
                · intro w hSw; go_simp; (try with_reducible rfl)
                change wpAnyH _ _ _ _ _ _ _ (Act.put _ (some 142) _) _; simp only [Act.put, List.setIfInBounds_toArray, List.set_cons_zero, List.set_cons_succ]
                refine wpAnyH_take (i := 7) (v := ?_) rfl (by kernel_rfl) (by kernel_rfl) (by kernel_rfl) (fun _ _ _ h => h) (Or.inl ⟨by rfl, ?_⟩) (by first | assumption | trivial) ?_
                rotate_left
                · intro w hSw; go_simp; (try with_reducible rfl)
                change wpAnyH _ _ _ _ _ _ _ (Act.put _ (some 143) _) _; simp only [Act.put, List.setIfInBounds_toArray, List.set_cons_zero, List.set_cons_succ]
                refine wpAnyH_take (i := 8) (v := ?_) rfl (by kernel_rfl) (by kernel_rfl) (by kernel_rfl) (fun _ _ _ h => h) (Or.inl ⟨by rfl, ?_⟩) (by first | assumption | trivial) ?_
                rotate_left
                · intro w hSw; go_simp; (try with_reducible rfl)
                change wpAnyH _ _ _ _ _ _ _ (Act.put _ (some 144) _) _; simp only [Act.put, List.setIfInBounds_toArray, List.set_cons_zero, List.set_cons_succ]
                refine wpAnyH_take (i := 9) (v := ?_) rfl (by kernel_rfl) (by kernel_rfl) (by kernel_rfl) (fun _ _ _ h => h) (Or.inl ⟨by rfl, ?_⟩) (by first | assumption | trivial) ?_
                rotate_left
                · intro w hSw; go_simp; (try with_reducible rfl)
                change wpAnyH _ _ _ _ _ _ _ (Act.put _ (some 145) _) _; simp only [Act.put, List.setIfInBounds_toArray, List.set_cons_zero, List.set_cons_succ]
                refine wpAnyH_take (i := 10) (v := ?_) rfl (by kernel_rfl) (by kernel_rfl) (by kernel_rfl) (fun _ _ _ h => h) (Or.inl ⟨by rfl, ?_⟩) (by first | assumption | trivial) ?_
                rotate_left
                · intro w hSw; go_simp; (try with_reducible rfl)
                change wpAnyH _ _ _ _ _ _ _ (Act.put _ (some 146) _) _; simp only [Act.put, List.setIfInBounds_toArray, List.set_cons_zero, List.set_cons_succ]
                refine wpAnyH_take (i := 11) (v := ?_) rfl (by kernel_rfl) (by kernel_rfl) (by kernel_rfl) (fun _ _ _ h => h) (Or.inl ⟨by rfl, ?_⟩) (by first | assumption | trivial) ?_
                rotate_left
                · intro w hSw; go_simp; (try with_reducible rfl)
                change wpAnyH _ _ _ _ _ _ _ (Act.put _ (some 147) _) _; simp only [Act.put, List.setIfInBounds_toArray, List.set_cons_zero, List.set_cons_succ]
                refine wpAnyH_take (i := 12) (v := ?_) rfl (by kernel_rfl) (by kernel_rfl) (by kernel_rfl) (fun _ _ _ h => h) (Or.inl ⟨by rfl, ?_⟩) (by first | assumption | trivial) ?_
                rotate_left
                · intro w hSw; go_simp; (try with_reducible rfl)
                change wpAnyH _ _ _ _ _ _ _ (Act.put _ (some 148) _) _; simp only [Act.put, List.setIfInBounds_toArray, List.set_cons_zero, List.set_cons_succ]
                refine wpAnyH_done (by kernel_rfl) ?_ _
                have HG : Hid (Below w8.heap.size w8 wr.drew) := HJ.out.trans ((Below.refl _ _).drew.mono HJ.out.size)
                clear hHeld
                go_wp2_with fail
                go_roundw
                case rel => exact ⟨j + 1, by go_num, by omega, HG⟩
                case measure => simp [intOf]; omega
              · have HGO : Hid (∃ (n : Int) (l : List Lt) (S : List Sg) (lv lw sv uv : Value), PS w wr bb wb vb ub [] 37 vv n n l l S S lv lw sv uv ∧ PInv n l ∧ VInv l S (i + 1)) := ⟨_, _, _, _, _, _, _, (HP8.out.below HJ.out).keeps (fun q pc hq => (by cases hq)), HIV.out.1, HIV.out.2.1⟩
                clear HJ
                go_wp2_with fail
                go_roundw
                case rel => exact ⟨i + 1, by go_num, by omega, HGO⟩
                case measure => simp [intOf]; omega
      · have HB0 : Hid (Below w.heap.size w wr) := HBW.out
        clear HP HBW
        go_wp2_with fail
        go_ret
        exact ⟨rfl, HB0.out⟩

end Go.Proofs.YtgpcnacpefficaaGreatDoor
