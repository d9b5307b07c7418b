/-
  Load: a house that has just this, and more.
-/
import Derived.Test.YtfdlopimncodcaaGreatDoorMHpDeeds
import Derived.Test.YtfdlopimncodcaaGreatDoorMHpSame
namespace Go.Proofs.YtfdlopimncodcaaGreatDoor
open Go.RowKit Go.Proofs.Aid Go.Proofs.Bx
theorem putB_last {n : Nm} {b : Nat} : ∀ {l : Bxs}, (∀ p ∈ l, p.1 < n) → putB n b l = l ++ [(n, b)]
  | [], _ => rfl
  | p :: l, h => by
    have h1 := h p List.mem_cons_self
    unfold putB
    rw [if_neg fun e => List.lt_irrefl _ (List.lt_trans e h1), if_neg fun e => (by rw [e] at h1; exact List.lt_irrefl _ h1), putB_last fun q hq => h q (List.mem_cons_of_mem _ hq)]
    rfl
end Go.Proofs.YtfdlopimncodcaaGreatDoor
namespace Go.Proofs.YtfdlopimncodcaaGreatDoor
open Go.RowKit Go.Proofs.Aid Go.Proofs.Bx
set_option maxHeartbeats 8000000
set_option maxRecDepth 100000
structure SlW (B : Nat) (w : World) (v : Value) (W : List Nm) : Prop where
 sl : Sl w v W
 row : WRow w v W
 own : ∀ g, v.ownBlock = some g → B ≤ g
theorem SlW.below {B B' : Nat} {w w' : World} {v : Value} {W : List Nm} (h : SlW B w v W) (hb : Below B' w w') (hB : w.heap.size ≤ B') : SlW B w' v W := ⟨h.sl.below hb hB, h.row.below (hb.mono hB), h.own⟩
theorem slw_clone {B : Nat} {fv : Value} {F : List Nm} {W : World} (hB : B ≤ W.heap.size) (h : Sl W fv F) (hF : F.length ≤ 1000) :
  Calls Tryz.prog 51 #[fv] W fun e w' => (∃ v', e = .returned v' ∧ SlW B w' v' F) ∧ Below W.heap.size W w' := by
 refine (clone_wown fv F W h hF).mono ?_
 rintro e w' ⟨⟨v, rfl, h1, h2⟩, h3⟩
 refine ⟨⟨v, rfl, h1.sl, h1, fun g hg => ?_⟩, h3⟩
 rcases h2.2 with ⟨q1, _⟩ | ⟨g', cap, cur, q1, q2, _⟩
 ·rw [q1] at hg; cases hg
 ·rw [q1] at hg
  have : g' = g := by simpa [Value.ownBlock] using hg
  omega
structure LdW (w : World) (hb mb : Nat) (nv bv wv wv' : Value) (S : Svd) (k : Nat) (wr : World) : Prop where
 low : Below w.heap.size w wr
 cell : wr.heap[w.heap.size]? = some (.cells #[nv, bv, wv, .int .i64 S.next] 35 (0, 0))
 sep : w.heap.size < hb ∧ w.heap.size < mb
 hse : ∃ l C, Hse wr hb mb l S.next wv' S.wants C ∧ namesB l = S.names.take k ∧ (l.map fun p => C p.2) = S.boxes.take k ∧ ∀ p ∈ l, w.heap.size < p.2
 row : WRow wr wv' S.wants
 own : ∀ g, wv'.ownBlock = some g → w.heap.size ≤ g
theorem ldw_start {W1 w5 : World} {mb : Nat} {wa : Option Addr} {wl wc : Nat} {W : List Nm} {nx : Int} (hlow : Below W1.heap.size W1 w5) (hw : SlW W1.heap.size w5 (.slice wa wl wc) W) (hm : Mp w5 mb []) (hmb : W1.heap.size ≤ mb) :
  ∃ W6, w5.alloc (.cells #[.map (some mb), .slice wa wl wc, .int .i64 nx] 80) = W6 ∧ Hid ((Below W1.heap.size W1 W6 ∧ W1.heap.size ≤ mb ∧ W1.heap.size ≤ w5.heap.size ∧ Hse W6 w5.heap.size mb [] nx (.slice wa wl wc) W (fun _ => ⟨0, 0, []⟩)) ∧ (WRow W6 (.slice wa wl wc) W ∧ ∀ g, (Value.slice wa wl wc).ownBlock = some g → W1.heap.size ≤ g)) := by
 have b6 : Below w5.heap.size w5 (w5.alloc (.cells #[.map (some mb), .slice wa wl wc, .int .i64 nx] 80)) := (Below.refl _ _).alloc (Nat.le_refl _) _
 exact ⟨_, rfl, ⟨hlow.trans (b6.mono hlow.size), hmb, hlow.size, ⟨⟨heap_alloc_new _ _, hm.same (b6.block mb hm.lt)⟩, hw.sl.below b6 (Nat.le_refl _), fun p hp => absurd hp List.not_mem_nil⟩⟩, hw.row.below b6, hw.own⟩
theorem LdW.next {w wr w7 : World} {hb mb k : Nat} {nv bv wv wv' lv7 : Value} {S : Svd} {nm : Nm} {nms : ByteArray} {x : Bxd} (h : LdW w hb mb nv bv wv wv' S k wr) (hO : SvOk S) (hb7 : Below wr.heap.size wr w7) (hnk : S.names[k]? = some nm) (hxk : S.boxes[k]? = some x) (hl7 : Lts w7 lv7 x.ls) (hz : nms.data.toList = nm) (hz2 : nms.size ≤ 60) :
  ∃ W8, w7.alloc (.cells #[.int .i64 x.v, .int .i64 x.n, lv7] 72) = W8 ∧ W8.cell? ⟨hb, 0, none⟩ = some (.map (some mb)) ∧ ∃ W9, (Instr.mapUpdate 78 (.map (some mb)) (.string nms) (.pointer (some ⟨w7.heap.size, 0, none⟩))).run Tryz.prog W8 = .ok () W9 ∧ Hid (LdW w hb mb nv bv wv wv' S (k + 1) W9) := by
 obtain ⟨p1, p2, ⟨p3, p4⟩, ⟨l, C, p5, p6, p7, p8⟩, prow, pown⟩ := h
 have hlen : l.length ≤ 30 := by
  have h1 := congrArg List.length p6
  have h2 := hO.most
  rw [List.length_take] at h1
  have h3 : (namesB l).length = l.length := by simp [namesB]
  omega
 have b8 : Below w7.heap.size w7 (w7.alloc (.cells #[.int .i64 x.v, .int .i64 x.n, lv7] 72)) := (Below.refl _ _).alloc (Nat.le_refl _) _
 have e8 := heap_alloc_new w7 (.cells #[.int .i64 x.v, .int .i64 x.n, lv7] 72)
 obtain ⟨W8, hW8⟩ : ∃ W, w7.alloc (.cells #[.int .i64 x.v, .int .i64 x.n, lv7] 72) = W := ⟨_, rfl⟩
 rw [hW8] at b8 e8
 have hB8 : Below wr.heap.size wr W8 := hb7.trans (b8.mono hb7.size)
 have h8 := p5.below hB8
 have hL8 := hl7.below b8 (Nat.le_refl _)
 obtain ⟨W9, hp, hm9, ht⟩ := mp_put h8.hs.2 nms (by omega) (by omega) w7.heap.size
 have hall : ∀ p ∈ l, p.1 < nm := fun p hp => by
  have h1 : p.1 ∈ S.names.take k := by rw [← p6]; exact List.mem_map_of_mem hp
  obtain ⟨j, hj⟩ := List.getElem?_of_mem h1
  rw [List.getElem?_take] at hj
  split at hj
  ·rename_i hlt
   obtain ⟨q1, q2⟩ := List.getElem?_eq_some_iff.1 hj
   obtain ⟨q3, q4⟩ := List.getElem?_eq_some_iff.1 hnk
   have := List.pairwise_iff_getElem.1 hO.nsorted j k q1 q3 hlt
   rw [q2, q4] at this
   exact this
  ·cases hj
 rw [hz, putB_last hall] at hm9
 have hS9 : HsAt W9 hb mb (l ++ [(nm, w7.heap.size)]) S.next wv' := ⟨((turned_but ht).block hb h8.hs.lt h8.hs.ne).trans h8.hs.1, hm9⟩
 have hlow : Below w.heap.size w W9 := p1.trans ((hB8.mono p1.size).trans ((turned_but ht).below (Nat.le_trans p1.size hB8.size) (by omega)))
 have htx : TxKeep W8 W9 := fun g i s hc => (turned_but ht).block g (World.block_lt_of_cell? _ _ hc) fun e => by
  obtain ⟨_, D, ⟨es, clock, h2, _⟩, _⟩ := h8.hs.2
  rw [e] at hc
  simp [World.cell?, h2] at hc
 have hblk : ∀ (b : Nat) (cs : Array Value) (ty : TypeId), W8.heap[b]? = some (.cells cs ty (0, 0)) → W9.heap[b]? = some (.cells cs ty (0, 0)) := fun b cs ty hh => by
  have hne : b ≠ mb := fun e => by
   obtain ⟨_, D, ⟨es, clock, h2, _⟩, _⟩ := h8.hs.2
   rw [e, h2] at hh
   cases hh
  exact ((turned_but ht).block b (Array.getElem?_eq_some_iff.1 hh).1 hne).trans hh
 refine ⟨W8, hW8, h8.hs.cell.1, W9, hp, hlow, hblk _ _ _ ((hB8.block _ (Array.getElem?_eq_some_iff.1 p2).1).trans p2), ⟨p3, p4⟩, ⟨_, setC C w7.heap.size x, ⟨hS9, h8.ws.tx htx, fun p hp => ?_⟩, ?_, ?_, fun p hp => ?_⟩, (prow.below hB8).same (fun g hg => by
  obtain ⟨cap, cur, h1, _⟩ := (prow.below hB8).tblk hg
  exact (hblk _ _ _ h1).trans h1.symm), pown⟩
 ·rcases List.mem_append.1 hp with hp | hp
  ·have h1 := h8.bx p hp
   have h2 := (p5.bx p hp).lt
   have h3 := hb7.size
   rw [setC_other (by omega)]
   obtain ⟨lv, q1, q2⟩ := h1
   exact ⟨lv, hblk _ _ _ q1, q2.tx htx⟩
  ·rw [List.mem_singleton.1 hp, setC_same]
   exact ⟨lv7, hblk _ _ _ e8, hL8.tx htx⟩
 ·rw [List.take_add_one, hnk, ← p6]
  simp [namesB]
 ·rw [List.take_add_one, hxk, ← p7, List.map_append]
  congr 1
  ·refine List.map_congr_left fun p hp => ?_
   have h2 := (p5.bx p hp).lt
   have h3 := hb7.size
   exact setC_other (by omega)
  ·simp [setC_same]
 ·rcases List.mem_append.1 hp with hp | hp
  ·exact p8 p hp
  ·rw [List.mem_singleton.1 hp]
   have h2 := hb7.size
   have h3 := p1.size
   have h4 := (Array.getElem?_eq_some_iff.1 p2).1
   show w.heap.size < w7.heap.size
   omega
theorem load_w (nv bv wv : Value) (S : Svd) (w : World) (h : SvAt w nv bv wv S) (hO : SvOk S) (hS : ∀ x ∈ S.boxes, x.ls.length ≤ 900) (hE : NEnv w) (hg : SysAt w) :
  Calls Tryz.prog 12 #[.agg #[nv, bv, wv, .int .i64 S.next]] w fun e w' => (∃ hb mb wv' l C, e = .returned (.tuple #[.pointer (some ⟨hb, 0, none⟩), .nilIface]) ∧ Hse w' hb mb l S.next wv' S.wants C ∧ svOf l S.wants S.next C = S ∧ w.heap.size < hb ∧ w.heap.size < mb ∧ (∀ p ∈ l, w.heap.size < p.2) ∧ WRow w' wv' S.wants ∧ ∀ g, wv'.ownBlock = some g → w.heap.size ≤ g) ∧ Below w.heap.size w w' := by
 obtain ⟨na, nc, rfl, _⟩ := id h.1
 obtain ⟨ba, bc, rfl, _⟩ := id h.2.1
 obtain ⟨wa, wq, rfl, _⟩ := id h.2.2
 obtain ⟨N, hN⟩ : ∃ m, S.names.length = m := ⟨_, rfl⟩
 obtain ⟨M, hM⟩ : ∃ m, S.wants.length = m := ⟨_, rfl⟩
 obtain ⟨X, hX⟩ : ∃ m, S.next = m := ⟨_, rfl⟩
 have hBn : S.boxes.length = N := by rw [← hN, hO.len]
 have cR := right_true (.slice na N nc) (.slice ba N bc) (.slice wa M wq) S
 have HH : Hid (SvAt w (.slice na N nc) (.slice ba N bc) (.slice wa M wq) S ∧ SvOk S ∧ (∀ x ∈ S.boxes, x.ls.length ≤ 900) ∧ NEnv w ∧ SysAt w ∧ S.names.length = N ∧ S.wants.length = M ∧ S.next = X ∧ S.boxes.length = N) := ⟨by have h9 := h; rw [hN, hBn, hM] at h9; exact h9, hO, hS, hE, hg, hN, hM, hX, hBn⟩
 rw [hN, hBn, hM, hX]
 rw [hX] at cR
 obtain ⟨W1, hW1⟩ : ∃ W, w.alloc (.cells #[.slice na N nc, .slice ba N bc, .slice wa M wq, .int .i64 X] 35) = W := ⟨_, rfl⟩
 have b1 : Below w.heap.size w W1 := by rw [← hW1]; exact (Below.refl _ _).alloc (Nat.le_refl _) _
 have e1 : W1.heap[w.heap.size]? = some (.cells #[.slice na N nc, .slice ba N bc, .slice wa M wq, .int .i64 X] 35 (0, 0)) := by rw [← hW1]; exact heap_alloc_new _ _
 have cR := cR W1 (HH.out.1.below b1 (Nat.le_refl _)) hO (hE.below b1) (hg.below b1 hg.lt)
 have hlt1 : w.heap.size < W1.heap.size := (Array.getElem?_eq_some_iff.1 e1).1
 have HRA : Hid (∀ W, Below W1.heap.size W1 W → W.heap[w.heap.size]? = some (.cells #[.slice na N nc, .slice ba N bc, .slice wa M wq, .int .i64 X] 35 (0, 0))) := fun W hW => (hW.block _ hlt1).trans e1
 have HB1 : Hid (Below w.heap.size w W1 ∧ w.heap.size < W1.heap.size) := ⟨b1, hlt1⟩
 have s0 : W1.cell? ⟨w.heap.size, 0, none⟩ = some (.slice na N nc) := rd_cell e1 rfl
 have s1 : W1.cell? ⟨w.heap.size, 1, none⟩ = some (.slice ba N bc) := rd_cell e1 rfl
 have s2 : W1.cell? ⟨w.heap.size, 2, none⟩ = some (.slice wa M wq) := rd_cell e1 rfl
 have s3 : W1.cell? ⟨w.heap.size, 3, none⟩ = some (.int .i64 X) := rd_cell e1 rfl
 clear h hO hS hE hg hN hM hX hBn b1 e1 hlt1
 go_enter Tryz.func12, Tryz.ntmps12
 go_wp2_with fail
 refine cR.mono ?_
 rintro e w2 ⟨rfl, hb2⟩
 have HB2 : Hid (Below W1.heap.size W1 w2) := hb2
 clear cR hb2 s0 s1 s2 s3
 obtain ⟨WD, hWD⟩ : ∃ W, w2.drew = W := ⟨_, rfl⟩
 have HWD : Hid (Below W1.heap.size W1 WD) := by rw [← hWD]; exact HB2.out.drew
 have HRD : Hid (∀ W, Below W1.heap.size W1 W → W.cell? ⟨w.heap.size, 2, none⟩ = some (.slice wa M wq) ∧ W.cell? ⟨w.heap.size, 3, none⟩ = some (.int .i64 X)) := fun W hW => ⟨rd_cell (HRA.out W hW) rfl, rd_cell (HRA.out W hW) rfl⟩
 have HCL : Hid (∀ W, Below W1.heap.size W1 W → Calls Tryz.prog 51 #[.slice wa M wq] W fun e w' => (∃ v', e = .returned v' ∧ SlW W1.heap.size w' v' S.wants) ∧ Below W.heap.size W w') := fun W hW => slw_clone hW.size (HH.out.1.2.2.below (HB1.out.1.trans (hW.mono HB1.out.1.size)) (Nat.le_refl _)) (by have := HH.out.2.1.wmost; omega)
 have hmk := mp_make WD
 obtain ⟨WA, hWA⟩ : ∃ W, WD.alloc (.map #[] 0) = W := ⟨_, rfl⟩
 have HWA : Hid (Below W1.heap.size W1 WA ∧ WD.heap.size < WA.heap.size ∧ Mp WA WD.heap.size [] ∧ (WA.cell? ⟨w.heap.size, 2, none⟩ = some (.slice wa M wq) ∧ WA.cell? ⟨w.heap.size, 3, none⟩ = some (.int .i64 X))) := by
  have hlA : Below W1.heap.size W1 WA := by rw [← hWA]; exact HWD.out.trans (((Below.refl _ _).alloc (Nat.le_refl _) _).mono HWD.out.size)
  exact ⟨hlA, by rw [← hWA]; simp, by rw [← hWA]; exact mp_new WD, HRD.out WA hlA⟩
 rw [hWA] at hmk
 obtain ⟨c2, c3⟩ := HRD.out w2 HB2.out
 go_upto_region 3 with fail
 go_cut [4] (fun hv wx => ∃ hb, hv = .pointer (some ⟨hb, 0, none⟩) ∧ ∃ mb wa' , ∃ wc', Hid ((Below W1.heap.size W1 wx ∧ W1.heap.size ≤ mb ∧ W1.heap.size ≤ hb ∧ Hse wx hb mb [] X (.slice wa' S.wants.length wc') S.wants (fun _ => ⟨0, 0, []⟩)) ∧ (WRow wx (.slice wa' S.wants.length wc') S.wants ∧ ∀ g, (Value.slice wa' S.wants.length wc').ownBlock = some g → W1.heap.size ≤ g)))
 case first =>
  refine wp_region_held_drew (S := fun W => W.cell? ⟨w.heap.size, 2, none⟩ = some (.slice wa M wq) ∧ W.cell? ⟨w.heap.size, 3, none⟩ = some (.int .i64 X)) (by kernel_rfl) ?_ (fun hHeld => ?_)
  ·exact ⟨by simpa using c2, by simpa using c3⟩
  rw [hWD] at hHeld ⊢
  refine wpAnyH_take (i := 1) (v := ?_) rfl (by kernel_rfl) (by kernel_rfl) (by kernel_rfl) (fun _ _ _ h => h) (Or.inl ⟨by rfl, ?_⟩) (by assumption) ?_
  rotate_left
  ·intro w hSw; go_simp; (try with_reducible rfl)
  change wpAnyH _ _ _ _ _ _ _ (Act.put _ (some 13) _) _; simp only [Act.put, List.setIfInBounds_toArray, List.set_cons_zero, List.set_cons_succ]
  refine wpAnyH_take (i := 2) (v := ?_) rfl (by kernel_rfl) (by kernel_rfl) (by kernel_rfl) (fun _ _ _ h => h) (Or.inl ⟨by rfl, ?_⟩) (by assumption) ?_
  rotate_left
  ·intro w hSw; go_simp; (try with_reducible rfl)
  change wpAnyH _ _ _ _ _ _ _ (Act.put _ (some 14) _) _; simp only [Act.put, List.setIfInBounds_toArray, List.set_cons_zero, List.set_cons_succ]
  refine wpAnyH_take (i := 4) (v := ?_) rfl (by kernel_rfl) (by kernel_rfl) (by kernel_rfl) (fun _ _ _ h => h) (Or.inl ⟨by rfl, ?_⟩) (by assumption) ?_
  rotate_left
  ·intro w hSw; go_simp; (try with_reducible rfl)
  change wpAnyH _ _ _ _ _ _ _ (Act.put _ (some 16) _) _; simp only [Act.put, List.setIfInBounds_toArray, List.set_cons_zero, List.set_cons_succ]
  refine wpAnyH_take (i := 5) (v := ?_) rfl (by kernel_rfl) (by kernel_rfl) (by kernel_rfl) (fun _ _ _ h => h) (Or.inl ⟨by rfl, ?_⟩) (by assumption) ?_
  rotate_left
  ·intro w hSw; go_simp; (try with_reducible rfl)
  change wpAnyH _ _ _ _ _ _ _ (Act.put _ (some 17) _) _; simp only [Act.put, List.setIfInBounds_toArray, List.set_cons_zero, List.set_cons_succ]
  refine wpAnyH_ready (rs := [0, 3]) (by kernel_rfl) (by simp) ?_
  refine AllReadyH.cons rfl (fun K hK => ?_) ?_
  ·go_simp
   refine hK.out _ _ ?_ (fun hHeld => ?_)
   ·exact HWA.out.2.2.2
   clear hK K
   refine wpAnyH_ready (rs := [3]) (by kernel_rfl) (by simp) ?_
   refine AllReadyH.cons rfl (fun K hK => ?_) AllReadyH.nil
   go_simp
   refine (HCL.out WA HWA.out.1).mono ?_
   rintro e w4 ⟨⟨wv4, rfl, hs4⟩, hb4⟩
   obtain ⟨wa4, wc4, rfl, _⟩ := id hs4.sl
   have hl4 : Below W1.heap.size W1 w4 := (HWA.out.1).trans (hb4.mono (HWA.out.1).size)
   have k4 := HRD.out w4 hl4
   have hm4 : Mp w4 WD.heap.size [] := HWA.out.2.2.1.same (hb4.block _ HWA.out.2.1)
   obtain ⟨W6, hW6, HF⟩ := ldw_start (nx := X) hl4 hs4 hm4 (by have := HWD.out.size; omega)
   clear hb4 hl4 hs4
   refine hK.out _ _ ?_ (fun hHeld => ?_)
   ·exact k4
   clear hK K
   refine wpAnyH_take (i := 6) (v := ?_) rfl (by kernel_rfl) (by kernel_rfl) (by kernel_rfl) (fun _ _ _ h => h) (Or.inl ⟨by rfl, ?_⟩) (by assumption) ?_
   rotate_left
   ·intro w hSw; go_simp; (try with_reducible rfl)
   change wpAnyH _ _ _ _ _ _ _ (Act.put _ (some 18) _) _; simp only [Act.put, List.setIfInBounds_toArray, List.set_cons_zero, List.set_cons_succ]
   refine wpAnyH_ready (rs := [7]) (by kernel_rfl) (by simp) ?_
   refine AllReadyH.cons rfl (fun K hK => ?_) AllReadyH.nil
   go_simp
   refine hK.out _ _ ?_ (fun hHeld => ?_)
   ·exact HRD.out _ HF.out.1.1
   clear hK K
   refine wpAnyH_take (i := 8) (v := ?_) rfl (by kernel_rfl) (by kernel_rfl) (by kernel_rfl) (fun _ _ _ h => h) (Or.inl ⟨by rfl, ?_⟩) (by assumption) ?_
   rotate_left
   ·intro w hSw; go_simp; (try with_reducible rfl)
   change wpAnyH _ _ _ _ _ _ _ (Act.put _ (some 4) _) _; simp only [Act.put, List.setIfInBounds_toArray, List.set_cons_zero, List.set_cons_succ]
   refine wpAnyH_done (by kernel_rfl) ?_ _
   clear hHeld
   go_wp2_with fail
   go_meet
   exact ⟨_, rfl, _, _, _, HF⟩
  refine AllReadyH.cons rfl (fun K hK => ?_) AllReadyH.nil
  go_simp
  refine (HCL.out WD HWD.out).mono ?_
  rintro e w4 ⟨⟨wv4, rfl, hs4⟩, hb4⟩
  obtain ⟨wa4, wc4, rfl, _⟩ := id hs4.sl
  have hl4 : Below W1.heap.size W1 w4 := (HWD.out).trans (hb4.mono (HWD.out).size)
  have k4 := HRD.out w4 hl4
  have hmk2 := mp_make w4
  have hm5 := mp_new w4
  have b5 : Below w4.heap.size w4 (w4.alloc (.map #[] 0)) := (Below.refl _ _).alloc (Nat.le_refl _) _
  obtain ⟨W5, hW5⟩ : ∃ W, w4.alloc (.map #[] 0) = W := ⟨_, rfl⟩
  rw [hW5] at hmk2 hm5 b5
  have k5 := HRD.out _ (hl4.trans (b5.mono hl4.size))
  obtain ⟨W6, hW6, HF⟩ := ldw_start (nx := X) (hl4.trans (b5.mono hl4.size)) (hs4.below b5 (Nat.le_refl _)) hm5 (by have := hl4.size; omega)
  clear hm5 b5
  clear hb4 hl4 hs4
  refine hK.out _ _ ?_ (fun hHeld => ?_)
  ·exact k4
  clear hK K
  refine wpAnyH_ready (rs := [0]) (by kernel_rfl) (by simp) ?_
  refine AllReadyH.cons rfl (fun K hK => ?_) AllReadyH.nil
  go_simp
  refine hK.out _ _ ?_ (fun hHeld => ?_)
  ·exact k5
  clear hK K
  refine wpAnyH_take (i := 6) (v := ?_) rfl (by kernel_rfl) (by kernel_rfl) (by kernel_rfl) (fun _ _ _ h => h) (Or.inl ⟨by rfl, ?_⟩) (by assumption) ?_
  rotate_left
  ·intro w hSw; go_simp; (try with_reducible rfl)
  change wpAnyH _ _ _ _ _ _ _ (Act.put _ (some 18) _) _; simp only [Act.put, List.setIfInBounds_toArray, List.set_cons_zero, List.set_cons_succ]
  refine wpAnyH_ready (rs := [7]) (by kernel_rfl) (by simp) ?_
  refine AllReadyH.cons rfl (fun K hK => ?_) AllReadyH.nil
  go_simp
  refine hK.out _ _ ?_ (fun hHeld => ?_)
  ·exact HRD.out _ HF.out.1.1
  clear hK K
  refine wpAnyH_take (i := 8) (v := ?_) rfl (by kernel_rfl) (by kernel_rfl) (by kernel_rfl) (fun _ _ _ h => h) (Or.inl ⟨by rfl, ?_⟩) (by assumption) ?_
  rotate_left
  ·intro w hSw; go_simp; (try with_reducible rfl)
  change wpAnyH _ _ _ _ _ _ _ (Act.put _ (some 4) _) _; simp only [Act.put, List.setIfInBounds_toArray, List.set_cons_zero, List.set_cons_succ]
  refine wpAnyH_done (by kernel_rfl) ?_ _
  clear hHeld
  go_wp2_with fail
  go_meet
  exact ⟨_, rfl, _, _, _, HF⟩
 case rest =>
  obtain ⟨hb, rfl, mb, wa', wc', HI0⟩ := hcut
  clear HB2 HWD HRD HCL hmk HWA c2 c3
  obtain ⟨Nms, hNms⟩ : ∃ x, S.names = x := ⟨_, rfl⟩
  have HL0 : Hid (LdW w hb mb (.slice na N nc) (.slice ba N bc) (.slice wa M wq) (.slice wa' S.wants.length wc') S 0 wc) := by
   obtain ⟨⟨h1, h2, h3, h4⟩, h6, h7⟩ := HI0.out
   have h5 := HB1.out.2
   refine ⟨HB1.out.1.trans (h1.mono HB1.out.1.size), ?_, ⟨by omega, by omega⟩, ⟨[], _, by rw [HH.out.2.2.2.2.2.2.2.1]; exact h4, rfl, rfl, fun p hp => absurd hp List.not_mem_nil⟩, h6, fun g hg => by have := h7 g hg; omega⟩
   rw [HH.out.2.2.2.2.2.2.2.1]
   exact HRA.out wc h1
  have hN30 : N ≤ 30 := by rw [← HH.out.2.2.2.2.2.1]; exact HH.out.2.1.most
  have c0 : wc.cell? ⟨w.heap.size, 0, none⟩ = some (.slice na N nc) := rd_cell HL0.out.cell rfl
  clear HI0 HRA
  go_wp2_with fail
  go_loopw [23] (fun iv wr => ∃ k : Nat, iv = .int .i64 (k : Int) ∧ k ≤ N ∧ Hid (LdW w hb mb (.slice na N nc) (.slice ba N bc) (.slice wa M wq) (.slice wa' S.wants.length wc') S k wr)) (fun iv _ => N - (intOf iv).toNat)
  case atStart => exact ⟨0, rfl, Nat.zero_le _, HL0⟩
  case round =>
   clear HL0 c0
   obtain ⟨k, rfl, hk, HI⟩ := hrel
   by_cases hlt : k < N
   ·have d1 : decide ((k : Int) < (N : Int)) = true := decide_eq_true (by omega)
    have i1 : (0 : Int) ≤ (k : Int) := by omega
    have i2 : (k : Int) < (N : Int) := by omega
    obtain ⟨nm, hnk⟩ : ∃ p, S.names[k]? = some p := ⟨_, List.getElem?_eq_getElem (by have := HH.out.2.2.2.2.2.1; omega)⟩
    obtain ⟨x, hxk⟩ : ∃ p, S.boxes[k]? = some p := ⟨_, List.getElem?_eq_getElem (by have := HH.out.2.2.2.2.2.2.2.2; omega)⟩
    obtain ⟨nb, no, rfl, hnc⟩ := sl_at (HH.out.1.1.below HI.out.low (Nat.le_refl _)) hnk
    have nmc := hnc k nm hnk
    obtain ⟨b, o, rfl, q1, q2, lv, q3, q4⟩ := bxr_at (HH.out.1.2.1.below HI.out.low (Nat.le_refl _)) hxk
    have hnm := HH.out.2.1.nname nm (List.mem_of_getElem? hnk)
    have hnl : nm.length ≤ 60 := (nameB_len hnm)
    have hll := HH.out.2.2.1 x (List.mem_of_getElem? hxk)
    have hfl : ∀ y ∈ x.ls, y.flags.length ≤ 400 := fun y hy => ((HH.out.2.1.boxes x (List.mem_of_getElem? hxk)).2.2.2 y hy).1
    obtain ⟨xv, xn, xl⟩ := x
    have q1 : wr.cell? ⟨b, o + k * 3, none⟩ = some (.int .i64 xv) := q1
    have q2 : wr.cell? ⟨b, o + k * 3 + 1, none⟩ = some (.int .i64 xn) := q2
    have q3 : wr.cell? ⟨b, o + k * 3 + 2, none⟩ = some lv := q3
    have q4 : Lts wr lv xl := q4
    have hll : xl.length ≤ 900 := hll
    have hfl : ∀ y ∈ xl, y.flags.length ≤ 400 := hfl
    obtain ⟨la, lc, rfl, _⟩ := id q4
    have cP := copied_is xv xn _ xl wr q4 (by omega) (fun y hy => by have := hfl y hy; omega)
    have s1 : wr.cell? ⟨w.heap.size, 1, none⟩ = some (.slice (some ⟨b, o, none⟩) N bc) := rd_cell HI.out.cell rfl
    obtain ⟨nms, hnms⟩ : ∃ s : ByteArray, (⟨nm.toArray⟩ : ByteArray) = s := ⟨_, rfl⟩
    have hnz : nms.data.toList = nm := by rw [← hnms]
    have HK : Hid (S.names[k]? = some nm ∧ S.boxes[k]? = some ⟨xv, xn, xl⟩ ∧ nms.data.toList = nm ∧ nms.size ≤ 60) := ⟨hnk, hxk, hnz, by rw [← hnms, ba_size]; exact hnl⟩
    rw [hnms] at nmc
    clear hnk hxk hnc hnm hnl hll hfl hnms hnz q4
    go_wp2_with fail
    refine cP.mono ?_
    rintro e w7 ⟨⟨lv7, rfl, hl7⟩, hb7⟩
    obtain ⟨l7a, l7c, rfl, _⟩ := id hl7
    obtain ⟨W8, hW8, c8, W9, hput, HN⟩ := HI.out.next HH.out.2.1 hb7 HK.out.1 HK.out.2.1 hl7 HK.out.2.2.1 HK.out.2.2.2
    have c8 : W8.cell? ⟨hb, 0, none⟩ = some (.map (some mb)) := c8
    have hW8 : w7.alloc (.cells #[.int .i64 xv, .int .i64 xn, .slice l7a xl.length l7c] 72) = W8 := hW8
    clear cP HI hb7 hl7
    go_wp2_with fail
    go_roundw
    case rel => exact ⟨k + 1, by go_num, by omega, HN⟩
    case measure => simp [intOf]; omega
   ·have d1 : decide ((k : Int) < (N : Int)) = false := decide_eq_false (by omega)
    obtain rfl : k = N := by omega
    have HF : Hid ((∃ l C, Hse wr hb mb l S.next (.slice wa' S.wants.length wc') S.wants C ∧ svOf l S.wants S.next C = S ∧ w.heap.size < hb ∧ w.heap.size < mb ∧ (∀ p ∈ l, w.heap.size < p.2) ∧ WRow wr (.slice wa' S.wants.length wc') S.wants ∧ ∀ g, (Value.slice wa' S.wants.length wc').ownBlock = some g → w.heap.size ≤ g) ∧ Below w.heap.size w wr) := by
     obtain ⟨l, C, h1, h2, h3, h5⟩ := HI.out.hse
     refine ⟨⟨l, C, h1, ?_, HI.out.sep.1, HI.out.sep.2, h5, HI.out.row, HI.out.own⟩, HI.out.low⟩
     rw [List.take_of_length_le (by have := HH.out.2.2.2.2.2.1; omega)] at h2
     rw [List.take_of_length_le (by have := HH.out.2.2.2.2.2.2.2.2; omega)] at h3
     unfold svOf
     rw [h2, h3]
    clear HI
    go_wp2_with fail
    go_ret2
    obtain ⟨⟨l, C, h1, h2, h4⟩, h3⟩ := HF.out
    rw [HH.out.2.2.2.2.2.2.2.1] at h1 h2
    exact ⟨⟨_, _, _, l, C, rfl, h1, h2, h4⟩, h3⟩
end Go.Proofs.YtfdlopimncodcaaGreatDoor
namespace Go.Proofs.YtfdlopimncodcaaGreatDoor
open Go.RowKit Go.Proofs.Aid
set_option maxHeartbeats 4000000 in
set_option maxRecDepth 100000 in
theorem rnew_is (w : World) : Calls Tryz.prog 9 #[] w fun e w' => ∃ hb mb wb bb, e = .returned (.pointer (some ⟨hb, 0, none⟩)) ∧ RHs w' hb mb wb [(inboxN, bb)] 2 ∧ RNm w' wb [] ∧ RNew w' bb 1 ∧ mb ≠ wb ∧ w.heap.size ≤ hb ∧ w.heap.size ≤ mb ∧ w.heap.size ≤ wb ∧ w.heap.size ≤ bb ∧ Below w.heap.size w w' := by
  have hmk := rmp_make w
  have m1 := rmp_new w
  have b1 : Below w.heap.size w (w.alloc (.map #[] 0)) := (Below.refl _ _).alloc (Nat.le_refl _) _
  have z1 : (w.alloc (.map #[] 0)).heap.size = w.heap.size + 1 := World.size_alloc _ _
  obtain ⟨W1, hW1⟩ : ∃ W, w.alloc (.map #[] 0) = W := ⟨_, rfl⟩
  rw [hW1] at hmk m1 b1 z1
  have e2 := heap_alloc_new W1 (.cells #[.int .i64 1, .int .i64 1, .slice none 0 0] 84)
  have b2 : Below W1.heap.size W1 (W1.alloc (.cells #[.int .i64 1, .int .i64 1, .slice none 0 0] 84)) := (Below.refl _ _).alloc (Nat.le_refl _) _
  have z2 : (W1.alloc (.cells #[.int .i64 1, .int .i64 1, .slice none 0 0] 84)).heap.size = W1.heap.size + 1 := World.size_alloc _ _
  obtain ⟨W2, hW2⟩ : ∃ W, W1.alloc (.cells #[.int .i64 1, .int .i64 1, .slice none 0 0] 84) = W := ⟨_, rfl⟩
  rw [hW2] at e2 b2 z2
  have m2 : RMp W2 w.heap.size [] := m1.same (b2.block _ (by omega))
  obtain ⟨W3, hput, m3, ht3⟩ := rmp_put m2 ⟨#[73, 78, 66, 79, 88]⟩ (by decide) (by decide) W1.heap.size
  have z3 := turned_size ht3
  have e3 := ((turned_but ht3).block W1.heap.size (by omega) (by omega)).trans e2
  have hmk4 : (Instr.makeMap 86 none).run Tryz.prog W3 = .ok (.map (some W3.heap.size)) (W3.alloc (.map #[] 0)) := rnm_make W3
  have m4 := rnm_new W3
  have b4 : Below W3.heap.size W3 (W3.alloc (.map #[] 0)) := (Below.refl _ _).alloc (Nat.le_refl _) _
  have z4 : (W3.alloc (.map #[] 0)).heap.size = W3.heap.size + 1 := World.size_alloc _ _
  obtain ⟨W4, hW4⟩ : ∃ W, W3.alloc (.map #[] 0) = W := ⟨_, rfl⟩
  rw [hW4] at hmk4 m4 b4 z4
  obtain ⟨wb, hwb⟩ : ∃ n, W3.heap.size = n := ⟨_, rfl⟩
  rw [hwb] at hmk4 m4 b4 z4
  have e5 := heap_alloc_new W4 (.cells #[.map (some w.heap.size), .map (some wb), .int .i64 2] 88)
  have b5 : Below W4.heap.size W4 (W4.alloc (.cells #[.map (some w.heap.size), .map (some wb), .int .i64 2] 88)) := (Below.refl _ _).alloc (Nat.le_refl _) _
  obtain ⟨bb, hbb⟩ : ∃ n, W1.heap.size = n := ⟨_, rfl⟩
  have HF : Hid (RHs (W4.alloc (.cells #[.map (some w.heap.size), .map (some wb), .int .i64 2] 88)) W4.heap.size w.heap.size wb [(inboxN, bb)] 2 ∧ RNm (W4.alloc (.cells #[.map (some w.heap.size), .map (some wb), .int .i64 2] 88)) wb [] ∧ RNew (W4.alloc (.cells #[.map (some w.heap.size), .map (some wb), .int .i64 2] 88)) bb 1 ∧ w.heap.size ≠ wb ∧ w.heap.size ≤ W4.heap.size ∧ w.heap.size ≤ w.heap.size ∧ w.heap.size ≤ wb ∧ w.heap.size ≤ bb ∧ Below w.heap.size w (W4.alloc (.cells #[.map (some w.heap.size), .map (some wb), .int .i64 2] 88))) := by
    refine ⟨⟨e5, ?_⟩, m4.same (b5.block _ (by omega)), ?_, by omega, by omega, Nat.le_refl _, by omega, by omega, ?_⟩
    · rw [← hbb]
      exact m3.same ((b5.block _ (by omega)).trans (b4.block _ (by omega)))
    · rw [← hbb]
      exact (b5.block _ (by omega)).trans ((b4.block _ (by omega)).trans e3)
    · have b3 : Below w.heap.size W2 W3 := (turned_but ht3).below (by omega) (Nat.le_refl _)
      exact b1.trans ((b2.mono (by omega)).trans (b3.trans ((b4.mono (by omega)).trans (b5.mono (by omega)))))
  rw [hbb] at hput
  clear m1 b1 z1 e2 b2 z2 m2 m3 ht3 z3 e3 m4 b4 z4 e5 b5
  go_enter Tryz.func9, Tryz.ntmps9
  go_wp2_with fail
  go_ret
  exact ⟨_, _, _, _, rfl, HF.out⟩
end Go.Proofs.YtfdlopimncodcaaGreatDoor
namespace Go.Proofs.YtfdlopimncodcaaGreatDoor
open Go.RowKit Go.Proofs.Aid Go.Proofs.Bx
theorem hst_new {w w2 : World} {H1 : Nat} (hH : w.heap.size ≤ H1) (h : HsAt w2 (H1 + 1) H1 [(inboxN, H1 + 2)] 2 (.slice none 0 0)) (hn : NewBox w2 (H1 + 2) 1) :
    Hst w.heap.size (H1 + 1) H1 [(inboxN, H1 + 2)] 2 [] (fun _ => ⟨1, 1, []⟩) (.slice none 0 0) w2 ∧ HI w.heap.size 0 [(inboxN, H1 + 2)] 2 [] (fun _ => ⟨1, 1, []⟩) := by
  have hl := h.lt
  have hone : ∀ p ∈ [((inboxN, H1 + 2) : Nm × Nat)], p = (inboxN, H1 + 2) := fun p hp => List.mem_singleton.1 hp
  refine ⟨⟨⟨h, ⟨none, 0, rfl, ⟨fun _ => rfl, Nat.le_refl _⟩, Or.inl rfl⟩, fun p hp => ?_⟩, Or.inl ⟨rfl, rfl⟩, fun g hg => (by cases hg), by omega, by omega, hH⟩, ⟨List.pairwise_singleton _ _, by simp, fun n hn2 i hi => ?_, fun n hn2 => ?_, ?_, by simp, List.Pairwise.nil, fun n hn2 => absurd hn2 List.not_mem_nil, ⟨by omega, by omega⟩, fun p hp => ?_, fun p hp q hq _ => ?_, fun p hp q hq _ => ?_, fun p hp => ?_⟩⟩
  · rw [hone p hp]
    exact newBox_at hn
  · obtain ⟨b, hb⟩ := hasB_true.1 hn2
    obtain rfl : n = inboxN := congrArg Prod.fst (hone _ hb)
    exact absurd (List.mem_of_getElem? hi) (by decide)
  · obtain ⟨b, hb⟩ := hasB_true.1 hn2
    obtain rfl : n = inboxN := congrArg Prod.fst (hone _ hb)
    kernel_rfl
  · exact hasB_true.2 ⟨_, List.mem_singleton.2 rfl⟩
  · rw [hone p hp]
    show w.heap.size ≤ H1 + 2
    omega
  · rw [hone p hp, hone q hq]
  · rw [hone p hp, hone q hq]
  · exact good_new ⟨by omega, by omega⟩
theorem two_new {w w2 w3 : World} {H1 rb rm rq bb : Nat} (hH : w.heap.size ≤ H1) (h : HsAt w2 (H1 + 1) H1 [(inboxN, H1 + 2)] 2 (.slice none 0 0)) (hn : NewBox w2 (H1 + 2) 1)
    (r1 : RHs w3 rb rm rq [(inboxN, bb)] 2) (r2 : RNm w3 rq []) (r3 : RNew w3 bb 1) (r4 : rm ≠ rq) (r5 : w2.heap.size ≤ rb) (r6 : w2.heap.size ≤ rm) (r7 : w2.heap.size ≤ rq) (r8 : w2.heap.size ≤ bb) (hb : Below w2.heap.size w2 w3) : Two w.heap.size 0 (H1 + 1) rb w3 := by
  obtain ⟨q1, q2⟩ := hst_new hH h hn
  have hlt := h.lt
  have hone : ∀ p ∈ [((inboxN, bb) : Nm × Nat)], p = (inboxN, bb) := fun p hp => List.mem_singleton.1 hp
  have hone1 : ∀ p ∈ [((inboxN, H1 + 2) : Nm × Nat)], p = (inboxN, H1 + 2) := fun p hp => List.mem_singleton.1 hp
  refine ⟨H1, rm, rq, _, _, [], 2, [], _, fun _ => ⟨1, 1, []⟩, _, ⟨q1.below hb, q2⟩, ⟨r1, r2, fun p hp => absurd hp List.not_mem_nil, fun p hp => ?_, r4⟩, ⟨rfl, fun m c c2 _ _ => rfl⟩, rfl, by omega, by omega, ⟨by omega, by omega, by omega⟩, fun q hq => ?_, fun p hp q hq _ => ?_⟩
  · rw [hone p hp]
    exact ⟨_, rnew_box r3⟩
  · rw [hone q hq]
    show w.heap.size ≤ bb
    omega
  · rw [hone p hp, hone q hq]
theorem pos_of {l l' : Bxs} {C C' : Nat → Bxd} (h1 : namesB l' = namesB l) (h2 : (l'.map fun p => C' p.2) = l.map fun p => C p.2) {p : Nm × Nat} (hp : p ∈ l') : ∃ q ∈ l, q.1 = p.1 ∧ C q.2 = C' p.2 := by
  obtain ⟨j, hj⟩ := List.getElem?_of_mem hp
  have e1 : (namesB l')[j]? = (namesB l)[j]? := by rw [h1]
  have e2 : (l'.map fun p => C' p.2)[j]? = (l.map fun p => C p.2)[j]? := by rw [h2]
  unfold namesB at e1
  rw [List.getElem?_map, List.getElem?_map, hj] at e1 e2
  cases hq : l[j]? with
  | none => rw [hq] at e1; cases e1
  | some q =>
    rw [hq] at e1 e2
    exact ⟨q, List.mem_of_getElem? hq, (Option.some.inj e1).symm, (Option.some.inj e2).symm⟩
section
variable {H K hb mb rb rm rq : Nat} {l l2 Wl : Bxs} {nx : Int} {W : List Nm} {C C2 : Nat → Bxd} {wv : Value} {w : World}
theorem two_load (t : TwoAt H K hb mb rb rm rq l l2 Wl nx W C C2 wv w) {w' : World} {hb' mb' : Nat} {wv' : Value} {l' : Bxs} {C' : Nat → Bxd} (hb0 : Below w.heap.size w w') (hs : Hse w' hb' mb' l' nx wv' W C') (hsv : svOf l' W nx C' = svOf l W nx C) (h1 : w.heap.size < hb') (h2 : w.heap.size < mb') (h3 : ∀ p ∈ l', w.heap.size < p.2) (hrow : WRow w' wv' W) (hown : ∀ g, wv'.ownBlock = some g → w.heap.size ≤ g) : Two H K hb' rb w' := by
  have hn : namesB l' = namesB l := congrArg Svd.names hsv
  have hbx : (l'.map fun p => C' p.2) = l.map fun p => C p.2 := congrArg Svd.boxes hsv
  have hso := hs.hs.2.sorted
  have h0 := t.p.st.h0
  have hI := t.p.hi
  have rm_lt := t.r.rhs.2.lt
  have rq_lt := t.r.wm.lt
  have ho := t.same
  have hnum : ∀ p ∈ l', ∀ q ∈ l', (C' p.2).v = (C' q.2).v → p = q := fun p hp q hq e => by
    obtain ⟨p', p1, p2, p3⟩ := pos_of hn hbx hp
    obtain ⟨q', q1, q2, q3⟩ := pos_of hn hbx hq
    have e1 := hI.num p' p1 q' q1 (by rw [p3, q3]; exact e)
    have e2 : p.1 = q.1 := by rw [← p2, ← q2, e1]
    obtain ⟨pn, pb⟩ := p
    obtain ⟨qn, qb⟩ := q
    obtain rfl : pn = qn := e2
    rw [sorted_one hso hp hq]
  refine ⟨mb', rm, rq, l', l2, Wl, nx, W, C', C2, wv', ⟨⟨hs, hrow, fun g hg => Nat.le_trans h0 (hown g hg), Nat.le_trans h0 hb0.size, by omega, by omega⟩, ⟨hso, by rw [len_names hn]; exact hI.len, fun n hn2 i hi => ?_, fun n hn2 => ?_, ?_, hI.wlen, hI.wsorted, hI.wnm, hI.nxt, fun p hp => ?_, fun p hp q hq e => hnum p hp q hq (by rw [e]), hnum, fun p hp => ?_⟩⟩, t.r.below hb0, ⟨hn.trans ho.names, fun m c c2 hc hc2 => ?_⟩, t.wn, by omega, by omega, t.lowr, t.lowb, t.blk2⟩
  · rw [has_names hn] at hn2 ⊢
    exact hI.wh n hn2 i hi
  · rw [has_names hn] at hn2
    exact hI.nms n hn2
  · rw [has_names hn]
    exact hI.inbox
  · have := h3 p hp
    omega
  · obtain ⟨q, q1, _, q3⟩ := pos_of hn hbx hp
    rw [← q3]
    exact hI.bx q q1
  · obtain ⟨⟨qn, qb⟩, q1, q2, q3⟩ := pos_of hn hbx hc
    obtain rfl : qn = m := q2
    rw [← show C qb = C' c from q3]
    exact ho.same qn qb c2 q1 hc2
theorem svOk_len (hO : HI H K l nx W C) : ∀ x ∈ (svOf l W nx C).boxes, x.ls.length ≤ 60 ∧ ∀ y ∈ x.ls, y.flags = [] := fun x hx => by
  obtain ⟨p, hp, rfl⟩ := List.mem_map.1 hx
  exact ⟨(hO.bx p hp).most, fun y hy => ((hO.bx p hp).plain y hy).1⟩
structure Asks (hb rb : Nat) (w : World) (L : List Nm) (S : Svd) : Prop where
  nlen : L.length ≤ 30
  pn : ∀ W, Below w.heap.size w W → Calls Tryz.prog 18 #[.pointer (some ⟨hb, 0, none⟩)] W fun e w' => (∃ v, e = .returned v ∧ Sl w' v L) ∧ Below W.heap.size W w'
  dn : ∀ W, Below w.heap.size w W → Calls Tryz.prog 19 #[.pointer (some ⟨rb, 0, none⟩)] W fun e w' => (∃ v, e = .returned v ∧ Sl w' v L) ∧ Below W.heap.size W w'
  ps : ∀ W, Below w.heap.size w W → Calls Tryz.prog 11 #[.pointer (some ⟨hb, 0, none⟩)] W fun e w' => (∃ nv bv wv, e = .returned (.agg #[nv, bv, wv, .int .i64 S.next]) ∧ SvAt w' nv bv wv S) ∧ Below W.heap.size W w'
  ds : ∀ W, Below w.heap.size w W → Calls Tryz.prog 21 #[.pointer (some ⟨rb, 0, none⟩)] W fun e w' => (∃ nv bv wv, e = .returned (.agg #[nv, bv, wv, .int .i64 S.next]) ∧ SvAt w' nv bv wv S) ∧ Below W.heap.size W w'
  ss : ∀ (W : World) (nv bv wv nv2 bv2 wv2 : Value), SvAt W nv bv wv S → SvAt W nv2 bv2 wv2 S → Calls Tryz.prog 20 #[.agg #[nv, bv, wv, .int .i64 S.next], .agg #[nv2, bv2, wv2, .int .i64 S.next]] W fun e w' => e = .returned (.bool true) ∧ Below W.heap.size W w'
theorem two_asks (t : TwoAt H K hb mb rb rm rq l l2 Wl nx W C C2 wv w) (hK : K ≤ 90) : Asks hb rb w (namesB l) (svOf l W nx C) := by
  have hI := t.p.hi
  have hlen := hI.len
  have hwl := hI.wlen
  have hl2 := t.len2
  have hll : (namesB l).length ≤ 30 := by simpa [namesB] using hlen
  have hsv := svOk_len hI
  have sm2 : Sml l2 (namesB Wl) C2 := ⟨hl2, by rw [t.wn]; exact hwl, t.short2, fun p hp => by
    obtain ⟨c, hc⟩ := hasB_true.1 ((has_names t.same.names p.1).trans (hasB_true.2 ⟨p.2, hp⟩))
    have e := t.same.same p.1 c p.2 hc hp
    have := (hI.bx _ hc).most
    rw [← e]
    exact Nat.le_trans this (by decide), fun p hp y hy => by rw [t.flags p hp y hy]; simp⟩
  have hs2 : svOf l2 (namesB Wl) nx C2 = svOf l W nx C := by
    unfold svOf
    rw [t.names, t.wn, t.same.boxes]
  refine ⟨hll, fun W0 hW => ?_, fun W0 hW => ?_, fun W0 hW => ?_, fun W0 hW => ?_, fun W0 nv bv wv nv2 bv2 wv2 g1 g2 => ?_⟩
  · refine (names_is hb mb l nx wv W0 (t.below hW).p.st.hse.hs (by omega)).mono ?_
    rintro e w' ⟨⟨v, rfl, q⟩, q2⟩
    exact ⟨⟨v, rfl, sl_of_nrow q⟩, q2⟩
  · refine (rnames_is rb rm rq l2 nx W0 (t.below hW).r.rhs (by omega) (fun p hp => by have := t.short2 p hp; omega)).mono ?_
    rw [t.names]
    rintro e w' ⟨⟨v, rfl, q⟩, q2⟩
    exact ⟨⟨v, rfl, sl_of_nrow q⟩, q2⟩
  · exact save_is hb mb l nx wv W C W0 (t.below hW).p.st.hse (hI.sml hK)
  · have := rsave_is rb rm rq l2 Wl nx C2 W0 (t.below hW).r sm2
    rw [hs2] at this
    exact this
  · refine same_saved (svOf l W nx C) nv bv wv nv2 bv2 wv2 W0 g1 g2 (by simpa [svOf] using hlen) (by show (namesB l).length ≤ 1000; omega) (by show W.length ≤ 1000; omega) (fun x hx => by have := (hsv x hx).1; omega) (fun x hx y hy => by rw [(hsv x hx).2 y hy]; simp)
end
end Go.Proofs.YtfdlopimncodcaaGreatDoor
namespace Go.Proofs.YtfdlopimncodcaaGreatDoor
open Go.RowKit Go.Proofs.Aid
structure Dd where
  what : Int
  s : ByteArray
  t : ByteArray
  yes : Bool
def DdAt (w : World) (b o : Nat) (x : Dd) : Prop :=
  w.cell? ⟨b, o, none⟩ = some (.int .i64 x.what) ∧ w.cell? ⟨b, o + 1, none⟩ = some (.string x.s) ∧ w.cell? ⟨b, o + 2, none⟩ = some (.string x.t) ∧ w.cell? ⟨b, o + 3, none⟩ = some (.bool x.yes)
def Dds (w : World) (v : Value) (L : List Dd) : Prop := ∃ a c, v = .slice a L.length c ∧ (L = [] ∨ ∃ b o, a = some ⟨b, o, none⟩ ∧ ∀ (j : Nat) x, L[j]? = some x → DdAt w b (o + j * 4) x)
theorem DdAt.below {w w' : World} {b o B : Nat} {x : Dd} (h : DdAt w b o x) (hb : Below B w w') (hB : w.heap.size ≤ B) : DdAt w' b o x := by
  obtain ⟨h1, h2, h3, h4⟩ := h
  have hlt : b < B := Nat.lt_of_lt_of_le (World.block_lt_of_cell? _ _ h1) hB
  have ec : ∀ i, w'.cell? ⟨b, i, none⟩ = w.cell? ⟨b, i, none⟩ := fun i => hb.cell (p := ⟨b, i, none⟩) hlt
  exact ⟨(ec _).trans h1, (ec _).trans h2, (ec _).trans h3, (ec _).trans h4⟩
theorem Dds.below {w w' : World} {v : Value} {B : Nat} {L : List Dd} (h : Dds w v L) (hb : Below B w w') (hB : w.heap.size ≤ B) : Dds w' v L := by
  obtain ⟨a, c, h1, h2⟩ := h
  refine ⟨a, c, h1, ?_⟩
  rcases h2 with h2 | ⟨b, o, h3, h4⟩
  · exact Or.inl h2
  · exact Or.inr ⟨b, o, h3, fun j x hj => (h4 j x hj).below hb hB⟩
theorem dds_at {w : World} {a : Option Addr} {n c : Nat} {L : List Dd} (h : Dds w (.slice a n c) L) {k : Nat} {x : Dd} (hk : L[k]? = some x) : ∃ b o, a = some ⟨b, o, none⟩ ∧ DdAt w b (o + k * 4) x := by
  obtain ⟨a', c', h1, h2⟩ := h
  injection h1 with h1 _ _
  subst h1
  rcases h2 with h2 | ⟨b, o, h3, h4⟩
  · rw [h2] at hk
    simp at hk
  · exact ⟨b, o, h3, h4 k x hk⟩
end Go.Proofs.YtfdlopimncodcaaGreatDoor
