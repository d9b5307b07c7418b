/-
  Load: a house that has just this.
-/
import Derived.Test.YtdmplfflmdanlaaGreatDoorBpBoxInv
namespace Go.Proofs.YtdmplfflmdanlaaGreatDoor
open Go.RowKit Go.Proofs.Aid Go.Proofs.Bx

theorem putB_last {n : Nm} {b : Nat} : ∀ {l : Bxs}, (∀ p ∈ l, p.1 < n) → putB n b l = l ++ [(n, b)]
  | [], _ => rfl
  | p :: l, h => by
    have h1 := h p List.mem_cons_self
    unfold putB
    rw [if_neg fun e => List.lt_irrefl _ (List.lt_trans e h1), if_neg fun e => (by rw [e] at h1; exact List.lt_irrefl _ h1), putB_last fun q hq => h q (List.mem_cons_of_mem _ hq)]
    rfl
/-- What stands while a house is laid anew. -/
structure LdI (w : World) (hb mb : Nat) (nv bv wv wv' : Value) (S : Svd) (k : Nat) (wr : World) : Prop where
  low : Below w.heap.size w wr
  cell : wr.heap[w.heap.size]? = some (.cells #[nv, bv, wv, .int .i64 S.next] 26 (0, 0))
  sep : w.heap.size < hb ∧ w.heap.size < mb
  hse : ∃ l C, Hse wr hb mb l S.next wv' S.wants C ∧ namesB l = S.names.take k ∧ (l.map fun p => C p.2) = S.boxes.take k ∧ ∀ p ∈ l, w.heap.size < p.2
theorem ld_start {W1 w5 : World} {mb : Nat} {wa : Option Addr} {wl wc : Nat} {W : List Nm} {nx : Int} (hlow : Below W1.heap.size W1 w5) (hw : Sl w5 (.slice wa wl wc) W) (hm : Mp w5 mb []) (hmb : W1.heap.size ≤ mb) :
    ∃ W6, w5.alloc (.cells #[.map (some mb), .slice wa wl wc, .int .i64 nx] 130) = W6 ∧ Hid ((Below W1.heap.size W1 W6 ∧ W1.heap.size ≤ mb ∧ W1.heap.size ≤ w5.heap.size ∧ Hse W6 w5.heap.size mb [] nx (.slice wa wl wc) W (fun _ => ⟨0, 0, []⟩)) ∧ True) := by
  have b6 : Below w5.heap.size w5 (w5.alloc (.cells #[.map (some mb), .slice wa wl wc, .int .i64 nx] 130)) := (Below.refl _ _).alloc (Nat.le_refl _) _
  exact ⟨_, rfl, ⟨hlow.trans (b6.mono hlow.size), hmb, hlow.size, ⟨⟨heap_alloc_new _ _, hm.same (b6.block mb hm.lt)⟩, hw.below b6 (Nat.le_refl _), fun p hp => absurd hp List.not_mem_nil⟩⟩, trivial⟩
set_option maxRecDepth 100000 in
theorem LdI.next {w wr w7 : World} {hb mb k : Nat} {nv bv wv wv' lv7 : Value} {S : Svd} {nm : Nm} {nms : ByteArray} {x : Bxd} (h : LdI w hb mb nv bv wv wv' S k wr) (hO : SvOk S) (hb7 : Below wr.heap.size wr w7) (hnk : S.names[k]? = some nm) (hxk : S.boxes[k]? = some x) (hl7 : Lts w7 lv7 x.ls) (hz : nms.data.toList = nm) (hz2 : nms.size ≤ 60) :
    ∃ W8, w7.alloc (.cells #[.int .i64 x.v, .int .i64 x.n, lv7] 66) = W8 ∧ W8.cell? ⟨hb, 0, none⟩ = some (.map (some mb)) ∧ ∃ W9, (Instr.mapUpdate 128 (.map (some mb)) (.string nms) (.pointer (some ⟨w7.heap.size, 0, none⟩))).run Tryz.prog W8 = .ok () W9 ∧ Hid (LdI w hb mb nv bv wv wv' S (k + 1) W9) := by
  obtain ⟨p1, p2, ⟨p3, p4⟩, l, C, p5, p6, p7, p8⟩ := h
  have hlen : l.length ≤ 30 := by
    have h1 := congrArg List.length p6
    have h2 := hO.most
    rw [List.length_take] at h1
    have h3 : (namesB l).length = l.length := by simp [namesB]
    omega
  have b8 : Below w7.heap.size w7 (w7.alloc (.cells #[.int .i64 x.v, .int .i64 x.n, lv7] 66)) := (Below.refl _ _).alloc (Nat.le_refl _) _
  have e8 := heap_alloc_new w7 (.cells #[.int .i64 x.v, .int .i64 x.n, lv7] 66)
  obtain ⟨W8, hW8⟩ : ∃ W, w7.alloc (.cells #[.int .i64 x.v, .int .i64 x.n, lv7] 66) = W := ⟨_, rfl⟩
  rw [hW8] at b8 e8
  have hB8 : Below wr.heap.size wr W8 := hb7.trans (b8.mono hb7.size)
  have h8 := p5.below hB8
  have hL8 := hl7.below b8 (Nat.le_refl _)
  obtain ⟨W9, hp, hm9, ht⟩ := mp_put h8.hs.2 nms (by omega) (by omega) w7.heap.size
  have hall : ∀ p ∈ l, p.1 < nm := fun p hp => by
    have h1 : p.1 ∈ S.names.take k := by rw [← p6]; exact List.mem_map_of_mem hp
    obtain ⟨j, hj⟩ := List.getElem?_of_mem h1
    rw [List.getElem?_take] at hj
    split at hj
    · rename_i hlt
      obtain ⟨q1, q2⟩ := List.getElem?_eq_some_iff.1 hj
      obtain ⟨q3, q4⟩ := List.getElem?_eq_some_iff.1 hnk
      have := List.pairwise_iff_getElem.1 hO.nsorted j k q1 q3 hlt
      rw [q2, q4] at this
      exact this
    · cases hj
  rw [hz, putB_last hall] at hm9
  have hS9 : HsAt W9 hb mb (l ++ [(nm, w7.heap.size)]) S.next wv' := ⟨((turned_but ht).block hb h8.hs.lt h8.hs.ne).trans h8.hs.1, hm9⟩
  have hlow : Below w.heap.size w W9 := p1.trans ((hB8.mono p1.size).trans ((turned_but ht).below (Nat.le_trans p1.size hB8.size) (by omega)))
  have htx : TxKeep W8 W9 := fun g i s hc => (turned_but ht).block g (World.block_lt_of_cell? _ _ hc) fun e => by
    obtain ⟨_, D, ⟨es, clock, h2, _⟩, _⟩ := h8.hs.2
    rw [e] at hc
    simp [World.cell?, h2] at hc
  have hblk : ∀ (b : Nat) (cs : Array Value) (ty : TypeId), W8.heap[b]? = some (.cells cs ty (0, 0)) → W9.heap[b]? = some (.cells cs ty (0, 0)) := fun b cs ty hh => by
    have hne : b ≠ mb := fun e => by
      obtain ⟨_, D, ⟨es, clock, h2, _⟩, _⟩ := h8.hs.2
      rw [e, h2] at hh
      cases hh
    exact ((turned_but ht).block b (Array.getElem?_eq_some_iff.1 hh).1 hne).trans hh
  refine ⟨W8, hW8, h8.hs.cell.1, W9, hp, hlow, hblk _ _ _ ((hB8.block _ (Array.getElem?_eq_some_iff.1 p2).1).trans p2), ⟨p3, p4⟩, _, setC C w7.heap.size x, ⟨hS9, h8.ws.tx htx, fun p hp => ?_⟩, ?_, ?_, fun p hp => ?_⟩
  · rcases List.mem_append.1 hp with hp | hp
    · have h1 := h8.bx p hp
      have h2 := (p5.bx p hp).lt
      have h3 := hb7.size
      rw [setC_other (by omega)]
      obtain ⟨lv, q1, q2⟩ := h1
      exact ⟨lv, hblk _ _ _ q1, q2.tx htx⟩
    · rw [List.mem_singleton.1 hp, setC_same]
      exact ⟨lv7, hblk _ _ _ e8, hL8.tx htx⟩
  · rw [List.take_add_one, hnk, ← p6]
    simp [namesB]
  · rw [List.take_add_one, hxk, ← p7, List.map_append]
    congr 1
    · refine List.map_congr_left fun p hp => ?_
      have h2 := (p5.bx p hp).lt
      have h3 := hb7.size
      exact setC_other (by omega)
    · simp [setC_same]
  · rcases List.mem_append.1 hp with hp | hp
    · exact p8 p hp
    · rw [List.mem_singleton.1 hp]
      have h2 := hb7.size
      have h3 := p1.size
      have h4 := (Array.getElem?_eq_some_iff.1 p2).1
      show w.heap.size < w7.heap.size
      omega
set_option maxHeartbeats 8000000 in
set_option maxRecDepth 100000 in
theorem load_sep (nv bv wv : Value) (S : Svd) (w : World) (h : SvAt w nv bv wv S) (hO : SvOk S) (hS : ∀ x ∈ S.boxes, x.ls.length ≤ 900) (hE : NEnv w) (hg : SysAt w) :
    Calls Tryz.prog 23 #[.agg #[nv, bv, wv, .int .i64 S.next]] w fun e w' => (∃ hb mb wv' l C, e = .returned (.tuple #[.pointer (some ⟨hb, 0, none⟩), .nilIface]) ∧ Hse w' hb mb l S.next wv' S.wants C ∧ svOf l S.wants S.next C = S ∧ w.heap.size < hb ∧ w.heap.size < mb) ∧ Below w.heap.size w w' := by
  obtain ⟨na, nc, rfl, _⟩ := id h.1
  obtain ⟨ba, bc, rfl, _⟩ := id h.2.1
  obtain ⟨wa, wq, rfl, _⟩ := id h.2.2
  obtain ⟨N, hN⟩ : ∃ m, S.names.length = m := ⟨_, rfl⟩
  obtain ⟨M, hM⟩ : ∃ m, S.wants.length = m := ⟨_, rfl⟩
  obtain ⟨X, hX⟩ : ∃ m, S.next = m := ⟨_, rfl⟩
  have hBn : S.boxes.length = N := by rw [← hN, hO.len]
  have cR := right_true (.slice na N nc) (.slice ba N bc) (.slice wa M wq) S
  have HH : Hid (SvAt w (.slice na N nc) (.slice ba N bc) (.slice wa M wq) S ∧ SvOk S ∧ (∀ x ∈ S.boxes, x.ls.length ≤ 900) ∧ NEnv w ∧ SysAt w ∧ S.names.length = N ∧ S.wants.length = M ∧ S.next = X ∧ S.boxes.length = N) := ⟨by have h9 := h; rw [hN, hBn, hM] at h9; exact h9, hO, hS, hE, hg, hN, hM, hX, hBn⟩
  rw [hN, hBn, hM, hX]
  rw [hX] at cR
  obtain ⟨W1, hW1⟩ : ∃ W, w.alloc (.cells #[.slice na N nc, .slice ba N bc, .slice wa M wq, .int .i64 X] 26) = W := ⟨_, rfl⟩
  have b1 : Below w.heap.size w W1 := by rw [← hW1]; exact (Below.refl _ _).alloc (Nat.le_refl _) _
  have e1 : W1.heap[w.heap.size]? = some (.cells #[.slice na N nc, .slice ba N bc, .slice wa M wq, .int .i64 X] 26 (0, 0)) := by rw [← hW1]; exact heap_alloc_new _ _
  have cR := cR W1 (HH.out.1.below b1 (Nat.le_refl _)) hO (hE.below b1) (hg.below b1 hg.lt)
  have hlt1 : w.heap.size < W1.heap.size := (Array.getElem?_eq_some_iff.1 e1).1
  have HRA : Hid (∀ W, Below W1.heap.size W1 W → W.heap[w.heap.size]? = some (.cells #[.slice na N nc, .slice ba N bc, .slice wa M wq, .int .i64 X] 26 (0, 0))) := fun W hW => (hW.block _ hlt1).trans e1
  have HB1 : Hid (Below w.heap.size w W1 ∧ w.heap.size < W1.heap.size) := ⟨b1, hlt1⟩
  have s0 : W1.cell? ⟨w.heap.size, 0, none⟩ = some (.slice na N nc) := rd_cell e1 rfl
  have s1 : W1.cell? ⟨w.heap.size, 1, none⟩ = some (.slice ba N bc) := rd_cell e1 rfl
  have s2 : W1.cell? ⟨w.heap.size, 2, none⟩ = some (.slice wa M wq) := rd_cell e1 rfl
  have s3 : W1.cell? ⟨w.heap.size, 3, none⟩ = some (.int .i64 X) := rd_cell e1 rfl
  clear h hO hS hE hg hN hM hX hBn b1 e1 hlt1
  go_enter Tryz.func23, Tryz.ntmps23
  go_wp2_with fail
  refine cR.mono ?_
  rintro e w2 ⟨rfl, hb2⟩
  have HB2 : Hid (Below W1.heap.size W1 w2) := hb2
  clear cR hb2 s0 s1 s2 s3
  obtain ⟨WD, hWD⟩ : ∃ W, w2.drew = W := ⟨_, rfl⟩
  have HWD : Hid (Below W1.heap.size W1 WD) := by rw [← hWD]; exact HB2.out.drew
  have HRD : Hid (∀ W, Below W1.heap.size W1 W → W.cell? ⟨w.heap.size, 2, none⟩ = some (.slice wa M wq) ∧ W.cell? ⟨w.heap.size, 3, none⟩ = some (.int .i64 X)) := fun W hW => ⟨rd_cell (HRA.out W hW) rfl, rd_cell (HRA.out W hW) rfl⟩
  have HCL : Hid (∀ W, Below W1.heap.size W1 W → Calls Tryz.prog 71 #[.slice wa M wq] W fun e w' => (∃ v', e = .returned v' ∧ Sl w' v' S.wants) ∧ Below W.heap.size W w') := fun W hW => hclone_sl _ S.wants W (HH.out.1.2.2.below (HB1.out.1.trans (hW.mono HB1.out.1.size)) (Nat.le_refl _)) (by have := HH.out.2.1.wmost; omega)
  have hmk := mp_make WD
  obtain ⟨WA, hWA⟩ : ∃ W, WD.alloc (.map #[] 0) = W := ⟨_, rfl⟩
  have HWA : Hid (Below W1.heap.size W1 WA ∧ WD.heap.size < WA.heap.size ∧ Mp WA WD.heap.size [] ∧ (WA.cell? ⟨w.heap.size, 2, none⟩ = some (.slice wa M wq) ∧ WA.cell? ⟨w.heap.size, 3, none⟩ = some (.int .i64 X))) := by
    have hlA : Below W1.heap.size W1 WA := by rw [← hWA]; exact HWD.out.trans (((Below.refl _ _).alloc (Nat.le_refl _) _).mono HWD.out.size)
    exact ⟨hlA, by rw [← hWA]; simp, by rw [← hWA]; exact mp_new WD, HRD.out WA hlA⟩
  rw [hWA] at hmk
  obtain ⟨c2, c3⟩ := HRD.out w2 HB2.out
  go_upto_region 3 with fail
  go_cut [4] (fun hv wx => ∃ hb, hv = .pointer (some ⟨hb, 0, none⟩) ∧ ∃ mb wa' , ∃ wc', Hid ((Below W1.heap.size W1 wx ∧ W1.heap.size ≤ mb ∧ W1.heap.size ≤ hb ∧ Hse wx hb mb [] X (.slice wa' S.wants.length wc') S.wants (fun _ => ⟨0, 0, []⟩)) ∧ True))
  case first =>
    refine wp_region_held_drew (S := fun W => W.cell? ⟨w.heap.size, 2, none⟩ = some (.slice wa M wq) ∧ W.cell? ⟨w.heap.size, 3, none⟩ = some (.int .i64 X)) (by kernel_rfl) ?_ (fun hHeld => ?_)
    · exact ⟨by simpa using c2, by simpa using c3⟩
    rw [hWD] at hHeld ⊢
    refine wpAnyH_take (i := 1) (v := ?_) rfl (by kernel_rfl) (by kernel_rfl) (by kernel_rfl) (fun _ _ _ h => h) (Or.inl ⟨by rfl, ?_⟩) (by first | assumption | trivial) ?_
    rotate_left
    · intro w hSw; go_simp; (try with_reducible rfl)
    change wpAnyH _ _ _ _ _ _ _ (Act.put _ (some 13) _) _; simp only [Act.put, List.setIfInBounds_toArray, List.set_cons_zero, List.set_cons_succ]
    refine wpAnyH_take (i := 2) (v := ?_) rfl (by kernel_rfl) (by kernel_rfl) (by kernel_rfl) (fun _ _ _ h => h) (Or.inl ⟨by rfl, ?_⟩) (by first | assumption | trivial) ?_
    rotate_left
    · intro w hSw; go_simp; (try with_reducible rfl)
    change wpAnyH _ _ _ _ _ _ _ (Act.put _ (some 14) _) _; simp only [Act.put, List.setIfInBounds_toArray, List.set_cons_zero, List.set_cons_succ]
    refine wpAnyH_take (i := 4) (v := ?_) rfl (by kernel_rfl) (by kernel_rfl) (by kernel_rfl) (fun _ _ _ h => h) (Or.inl ⟨by rfl, ?_⟩) (by first | assumption | trivial) ?_
    rotate_left
    · intro w hSw; go_simp; (try with_reducible rfl)
    change wpAnyH _ _ _ _ _ _ _ (Act.put _ (some 16) _) _; simp only [Act.put, List.setIfInBounds_toArray, List.set_cons_zero, List.set_cons_succ]
    refine wpAnyH_take (i := 5) (v := ?_) rfl (by kernel_rfl) (by kernel_rfl) (by kernel_rfl) (fun _ _ _ h => h) (Or.inl ⟨by rfl, ?_⟩) (by first | assumption | trivial) ?_
    rotate_left
    · intro w hSw; go_simp; (try with_reducible rfl)
    change wpAnyH _ _ _ _ _ _ _ (Act.put _ (some 17) _) _; simp only [Act.put, List.setIfInBounds_toArray, List.set_cons_zero, List.set_cons_succ]
    refine wpAnyH_ready (rs := [0, 3]) (by kernel_rfl) (by simp) ?_
    refine AllReadyH.cons rfl (fun K hK => ?_) ?_
    · go_simp
      refine hK.out _ _ ?_ (fun hHeld => ?_)
      · exact HWA.out.2.2.2
      clear hK K
      refine wpAnyH_ready (rs := [3]) (by kernel_rfl) (by simp) ?_
      refine AllReadyH.cons rfl (fun K hK => ?_) AllReadyH.nil
      go_simp
      refine (HCL.out WA HWA.out.1).mono ?_
      rintro e w4 ⟨⟨wv4, rfl, hs4⟩, hb4⟩
      obtain ⟨wa4, wc4, rfl, _⟩ := id hs4
      have hl4 : Below W1.heap.size W1 w4 := (HWA.out.1).trans (hb4.mono (HWA.out.1).size)
      have k4 := HRD.out w4 hl4
      have hm4 : Mp w4 WD.heap.size [] := HWA.out.2.2.1.same (hb4.block _ HWA.out.2.1)
      obtain ⟨W6, hW6, HF⟩ := ld_start (nx := X) hl4 hs4 hm4 (by have := HWD.out.size; omega)
      clear hb4 hl4 hs4
      refine hK.out _ _ ?_ (fun hHeld => ?_)
      · exact k4
      clear hK K
      refine wpAnyH_take (i := 6) (v := ?_) rfl (by kernel_rfl) (by kernel_rfl) (by kernel_rfl) (fun _ _ _ h => h) (Or.inl ⟨by rfl, ?_⟩) (by first | assumption | trivial) ?_
      rotate_left
      · intro w hSw; go_simp; (try with_reducible rfl)
      change wpAnyH _ _ _ _ _ _ _ (Act.put _ (some 18) _) _; simp only [Act.put, List.setIfInBounds_toArray, List.set_cons_zero, List.set_cons_succ]
      refine wpAnyH_ready (rs := [7]) (by kernel_rfl) (by simp) ?_
      refine AllReadyH.cons rfl (fun K hK => ?_) AllReadyH.nil
      go_simp
      refine hK.out _ _ ?_ (fun hHeld => ?_)
      · exact HRD.out _ HF.out.1.1
      clear hK K
      refine wpAnyH_take (i := 8) (v := ?_) rfl (by kernel_rfl) (by kernel_rfl) (by kernel_rfl) (fun _ _ _ h => h) (Or.inl ⟨by rfl, ?_⟩) (by first | assumption | trivial) ?_
      rotate_left
      · intro w hSw; go_simp; (try with_reducible rfl)
      change wpAnyH _ _ _ _ _ _ _ (Act.put _ (some 4) _) _; simp only [Act.put, List.setIfInBounds_toArray, List.set_cons_zero, List.set_cons_succ]
      refine wpAnyH_done (by kernel_rfl) ?_ _
      clear hHeld
      go_wp2_with fail
      go_meet
      exact ⟨_, rfl, _, _, _, HF⟩
    refine AllReadyH.cons rfl (fun K hK => ?_) AllReadyH.nil
    go_simp
    refine (HCL.out WD HWD.out).mono ?_
    rintro e w4 ⟨⟨wv4, rfl, hs4⟩, hb4⟩
    obtain ⟨wa4, wc4, rfl, _⟩ := id hs4
    have hl4 : Below W1.heap.size W1 w4 := (HWD.out).trans (hb4.mono (HWD.out).size)
    have k4 := HRD.out w4 hl4
    have hmk2 := mp_make w4
    have hm5 := mp_new w4
    have b5 : Below w4.heap.size w4 (w4.alloc (.map #[] 0)) := (Below.refl _ _).alloc (Nat.le_refl _) _
    obtain ⟨W5, hW5⟩ : ∃ W, w4.alloc (.map #[] 0) = W := ⟨_, rfl⟩
    rw [hW5] at hmk2 hm5 b5
    have k5 := HRD.out _ (hl4.trans (b5.mono hl4.size))
    obtain ⟨W6, hW6, HF⟩ := ld_start (nx := X) (hl4.trans (b5.mono hl4.size)) (hs4.below b5 (Nat.le_refl _)) hm5 (by have := hl4.size; omega)
    clear hm5 b5
    clear hb4 hl4 hs4
    refine hK.out _ _ ?_ (fun hHeld => ?_)
    · exact k4
    clear hK K
    refine wpAnyH_ready (rs := [0]) (by kernel_rfl) (by simp) ?_
    refine AllReadyH.cons rfl (fun K hK => ?_) AllReadyH.nil
    go_simp
    refine hK.out _ _ ?_ (fun hHeld => ?_)
    · exact k5
    clear hK K
    refine wpAnyH_take (i := 6) (v := ?_) rfl (by kernel_rfl) (by kernel_rfl) (by kernel_rfl) (fun _ _ _ h => h) (Or.inl ⟨by rfl, ?_⟩) (by first | assumption | trivial) ?_
    rotate_left
    · intro w hSw; go_simp; (try with_reducible rfl)
    change wpAnyH _ _ _ _ _ _ _ (Act.put _ (some 18) _) _; simp only [Act.put, List.setIfInBounds_toArray, List.set_cons_zero, List.set_cons_succ]
    refine wpAnyH_ready (rs := [7]) (by kernel_rfl) (by simp) ?_
    refine AllReadyH.cons rfl (fun K hK => ?_) AllReadyH.nil
    go_simp
    refine hK.out _ _ ?_ (fun hHeld => ?_)
    · exact HRD.out _ HF.out.1.1
    clear hK K
    refine wpAnyH_take (i := 8) (v := ?_) rfl (by kernel_rfl) (by kernel_rfl) (by kernel_rfl) (fun _ _ _ h => h) (Or.inl ⟨by rfl, ?_⟩) (by first | assumption | trivial) ?_
    rotate_left
    · intro w hSw; go_simp; (try with_reducible rfl)
    change wpAnyH _ _ _ _ _ _ _ (Act.put _ (some 4) _) _; simp only [Act.put, List.setIfInBounds_toArray, List.set_cons_zero, List.set_cons_succ]
    refine wpAnyH_done (by kernel_rfl) ?_ _
    clear hHeld
    go_wp2_with fail
    go_meet
    exact ⟨_, rfl, _, _, _, HF⟩
  case rest =>
    obtain ⟨hb, rfl, mb, wa', wc', HI0⟩ := hcut
    clear HB2 HWD HRD HCL hmk HWA c2 c3
    obtain ⟨Nms, hNms⟩ : ∃ x, S.names = x := ⟨_, rfl⟩
    have HL0 : Hid (LdI w hb mb (.slice na N nc) (.slice ba N bc) (.slice wa M wq) (.slice wa' S.wants.length wc') S 0 wc) := by
      obtain ⟨⟨h1, h2, h3, h4⟩, _⟩ := HI0.out
      have h5 := HB1.out.2
      refine ⟨HB1.out.1.trans (h1.mono HB1.out.1.size), ?_, ⟨by omega, by omega⟩, [], _, by rw [HH.out.2.2.2.2.2.2.2.1]; exact h4, rfl, rfl, fun p hp => absurd hp List.not_mem_nil⟩
      rw [HH.out.2.2.2.2.2.2.2.1]
      exact HRA.out wc h1
    have hN30 : N ≤ 30 := by rw [← HH.out.2.2.2.2.2.1]; exact HH.out.2.1.most
    have c0 : wc.cell? ⟨w.heap.size, 0, none⟩ = some (.slice na N nc) := rd_cell HL0.out.cell rfl
    clear HI0 HRA
    go_wp2_with fail
    go_loopw [23] (fun iv wr => ∃ k : Nat, iv = .int .i64 (k : Int) ∧ k ≤ N ∧ Hid (LdI w hb mb (.slice na N nc) (.slice ba N bc) (.slice wa M wq) (.slice wa' S.wants.length wc') S k wr)) (fun iv _ => N - (intOf iv).toNat)
    case atStart => exact ⟨0, rfl, Nat.zero_le _, HL0⟩
    case round =>
      clear HL0 c0
      obtain ⟨k, rfl, hk, HI⟩ := hrel
      by_cases hlt : k < N
      · have d1 : decide ((k : Int) < (N : Int)) = true := decide_eq_true (by omega)
        have i1 : (0 : Int) ≤ (k : Int) := by omega
        have i2 : (k : Int) < (N : Int) := by omega
        obtain ⟨nm, hnk⟩ : ∃ p, S.names[k]? = some p := ⟨_, List.getElem?_eq_getElem (by have := HH.out.2.2.2.2.2.1; omega)⟩
        obtain ⟨x, hxk⟩ : ∃ p, S.boxes[k]? = some p := ⟨_, List.getElem?_eq_getElem (by have := HH.out.2.2.2.2.2.2.2.2; omega)⟩
        obtain ⟨nb, no, rfl, hnc⟩ := sl_at (HH.out.1.1.below HI.out.low (Nat.le_refl _)) hnk
        have nmc := hnc k nm hnk
        obtain ⟨b, o, rfl, q1, q2, lv, q3, q4⟩ := bxr_at (HH.out.1.2.1.below HI.out.low (Nat.le_refl _)) hxk
        have hnm := HH.out.2.1.nname nm (List.mem_of_getElem? hnk)
        have hnl : nm.length ≤ 60 := (nameB_len hnm)
        have hll := HH.out.2.2.1 x (List.mem_of_getElem? hxk)
        have hfl : ∀ y ∈ x.ls, y.flags.length ≤ 400 := fun y hy => ((HH.out.2.1.boxes x (List.mem_of_getElem? hxk)).2.2.2 y hy).1
        obtain ⟨xv, xn, xl⟩ := x
        have q1 : wr.cell? ⟨b, o + k * 3, none⟩ = some (.int .i64 xv) := q1
        have q2 : wr.cell? ⟨b, o + k * 3 + 1, none⟩ = some (.int .i64 xn) := q2
        have q3 : wr.cell? ⟨b, o + k * 3 + 2, none⟩ = some lv := q3
        have q4 : Lts wr lv xl := q4
        have hll : xl.length ≤ 900 := hll
        have hfl : ∀ y ∈ xl, y.flags.length ≤ 400 := hfl
        obtain ⟨la, lc, rfl, _⟩ := id q4
        have cP := copied_is xv xn _ xl wr q4 (by omega) (fun y hy => by have := hfl y hy; omega)
        have s1 : wr.cell? ⟨w.heap.size, 1, none⟩ = some (.slice (some ⟨b, o, none⟩) N bc) := rd_cell HI.out.cell rfl
        obtain ⟨nms, hnms⟩ : ∃ s : ByteArray, (⟨nm.toArray⟩ : ByteArray) = s := ⟨_, rfl⟩
        have hnz : nms.data.toList = nm := by rw [← hnms]
        have HK : Hid (S.names[k]? = some nm ∧ S.boxes[k]? = some ⟨xv, xn, xl⟩ ∧ nms.data.toList = nm ∧ nms.size ≤ 60) := ⟨hnk, hxk, hnz, by rw [← hnms, ba_size]; exact hnl⟩
        rw [hnms] at nmc
        clear hnk hxk hnc hnm hnl hll hfl hnms hnz q4
        go_wp2_with fail
        refine cP.mono ?_
        rintro e w7 ⟨⟨lv7, rfl, hl7⟩, hb7⟩
        obtain ⟨l7a, l7c, rfl, _⟩ := id hl7
        obtain ⟨W8, hW8, c8, W9, hput, HN⟩ := HI.out.next HH.out.2.1 hb7 HK.out.1 HK.out.2.1 hl7 HK.out.2.2.1 HK.out.2.2.2
        have c8 : W8.cell? ⟨hb, 0, none⟩ = some (.map (some mb)) := c8
        have hW8 : w7.alloc (.cells #[.int .i64 xv, .int .i64 xn, .slice l7a xl.length l7c] 66) = W8 := hW8
        clear cP HI hb7 hl7
        go_wp2_with fail
        go_roundw
        case rel => exact ⟨k + 1, by go_num, by omega, HN⟩
        case measure => simp [intOf]; omega
      · have d1 : decide ((k : Int) < (N : Int)) = false := decide_eq_false (by omega)
        obtain rfl : k = N := by omega
        have HF : Hid ((∃ l C, Hse wr hb mb l S.next (.slice wa' S.wants.length wc') S.wants C ∧ svOf l S.wants S.next C = S ∧ w.heap.size < hb ∧ w.heap.size < mb) ∧ Below w.heap.size w wr) := by
          obtain ⟨l, C, h1, h2, h3, _⟩ := HI.out.hse
          refine ⟨⟨l, C, h1, ?_, HI.out.sep⟩, HI.out.low⟩
          rw [List.take_of_length_le (by have := HH.out.2.2.2.2.2.1; omega)] at h2
          rw [List.take_of_length_le (by have := HH.out.2.2.2.2.2.2.2.2; omega)] at h3
          unfold svOf
          rw [h2, h3]
        clear HI
        go_wp2_with fail
        go_ret2
        obtain ⟨⟨l, C, h1, h2, h4⟩, h3⟩ := HF.out
        rw [HH.out.2.2.2.2.2.2.2.1] at h1 h2
        exact ⟨⟨_, _, _, l, C, rfl, h1, h2, h4⟩, h3⟩
end Go.Proofs.YtdmplfflmdanlaaGreatDoor
