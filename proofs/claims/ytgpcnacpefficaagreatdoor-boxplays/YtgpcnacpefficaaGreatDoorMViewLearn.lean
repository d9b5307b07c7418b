/-
  Flags as a box has them: learn, the walk.
-/
import Derived.Test.YtgpcnacpefficaaGreatDoorBpFlagsOr
namespace Go.Proofs.YtgpcnacpefficaaGreatDoor
open Go.RowKit Go.Proofs.Aid Go.Proofs.Bx

/-- Behind k rounds of learn. -/
def LState (w1 : World) (vb : Nat) (sv : Value) (S : List Sg) (l : List Lt) (k : Nat) (wr : World) (ov : Value) : Prop :=
  ViewAt wr vb sv ((S.take k).map (learn1 l) ++ S.drop k) ∧ VKeep vb sv w1 wr ∧ Nws wr ov (learnN l 0 (S.take k)) ∧ ∀ q, ov.ownBlock = some q → w1.heap.size ≤ q
theorem learn_len (l : List Lt) (S : List Sg) (k : Nat) : ((S.take k).map (learn1 l) ++ S.drop k).length = S.length := by
  rw [List.length_append, List.length_map, List.length_take, List.length_drop]; omega
theorem learn_at {l : List Lt} {S : List Sg} {k : Nat} {s : Sg} (h : S[k]? = some s) : ((S.take k).map (learn1 l) ++ S.drop k)[k]? = some s := by
  have hk := (List.getElem?_eq_some_iff.1 h).1
  rw [List.getElem?_append_right (by rw [List.length_map, List.length_take]; omega), List.length_map, List.length_take, Nat.min_eq_left (by omega), Nat.sub_self, List.getElem?_drop, Nat.add_zero, h]
theorem learn_set {l : List Lt} {S : List Sg} {k : Nat} {s : Sg} (h : S[k]? = some s) : ((S.take k).map (learn1 l) ++ S.drop k).set k (learn1 l s) = (S.take (k + 1)).map (learn1 l) ++ S.drop (k + 1) := by
  have hk := (List.getElem?_eq_some_iff.1 h).1
  rw [List.take_add_one, h, Option.toList_some, List.map_append, List.append_assoc, List.set_append_right _ _ (by rw [List.length_map, List.length_take]; omega), List.length_map, List.length_take, Nat.min_eq_left (by omega), Nat.sub_self, List.drop_eq_getElem_cons hk, (List.getElem?_eq_some_iff.1 h).2]
  rfl
theorem set_self {α : Type} {T : List α} {k : Nat} {x : α} (h : T[k]? = some x) : T.set k x = T := by
  obtain ⟨hk, rfl⟩ := List.getElem?_eq_some_iff.1 h
  exact List.set_getElem_self hk
/-- Nothing is to be learned of one. -/
theorem LState.same {w1 wr w5 : World} {vb : Nat} {sv ov : Value} {S : List Sg} {l : List Lt} {k : Nat} {s : Sg} (h : LState w1 vb sv S l k wr ov) (hs : S[k]? = some s) (h1 : learn1 l s = s) (h2 : news1 l k s = []) (hb : Below wr.heap.size wr w5) : LState w1 vb sv S l (k + 1) w5 ov := by
  obtain ⟨hv, hk, hn, ho⟩ := h
  refine ⟨?_, hk.trans (Near.refl _ _) (VKeep.of hb), ?_, ho⟩
  · rw [← learn_set hs, h1, set_self (learn_at hs)]
    exact hv.below hb
  · rw [learnN_next hs, h2, List.append_nil]
    exact hn.below hb
set_option maxHeartbeats 8000000 in
set_option maxRecDepth 100000 in
theorem learn_is (vb : Nat) (sv : Value) (S : List Sg) (vv nn : Int) (lv : Value) (l : List Lt) (w : World) (h : ViewAt w vb sv S) (hl : Lts w lv l) (hr : Rise l) (hS : S.length ≤ 900) (hll : l.length ≤ 900) (hfl : ∀ x ∈ l, x.flags.length ≤ 1000) (hfs : ∀ x ∈ S, x.flags.length ≤ 1000) :
    Calls Tryz.prog 57 #[.pointer (some ⟨vb, 0, none⟩), .agg #[.int .i64 vv, .int .i64 nn, lv]] w fun e w' =>
      ∃ ov, e = .returned ov ∧ ViewAt w' vb sv (S.map (learn1 l)) ∧ VKeep vb sv w w' ∧ Nws w' ov (learnN l 0 S) ∧ ∀ q, ov.ownBlock = some q → w.heap.size ≤ q := by
  obtain ⟨a, c, rfl⟩ := sgs_form h.2
  obtain ⟨la, lc, rfl, lcap, lrest⟩ := id hl
  obtain ⟨N, hN⟩ : ∃ N, S.length = N := ⟨_, rfl⟩
  obtain ⟨m, hm⟩ : ∃ m, l.length = m := ⟨_, rfl⟩
  have HN : Hid (S.length = N) := hN
  have HM : Hid (l.length = m) := hm
  have HFL : Hid (∀ x ∈ l, x.flags.length ≤ 1000) := hfl
  have HFS : Hid (∀ x ∈ S, x.flags.length ≤ 1000) := hfs
  have HRI : Hid (Rise l) := hr
  rw [hN] at hS h
  rw [hm] at hll hl
  rw [hN, hm]
  have hvl := h.lt
  obtain ⟨BB, hBB⟩ : ∃ B, w.heap.size = B := ⟨_, rfl⟩
  have b1 : Below w.heap.size w (w.alloc (.cells #[.int .i64 vv, .int .i64 nn, .slice la m lc] 28)) := (Below.refl _ _).alloc (Nat.le_refl _) _
  have e1 := heap_alloc_new w (.cells #[.int .i64 vv, .int .i64 nn, .slice la m lc] 28)
  have z1 : (w.alloc (.cells #[.int .i64 vv, .int .i64 nn, .slice la m lc] 28)).heap.size = BB + 1 := by rw [World.size_alloc, hBB]
  go_enter Tryz.func57, Tryz.ntmps57
  go_upto_region 2 with fail
  obtain ⟨w1, hw1⟩ : ∃ W, w.alloc (.cells #[.int .i64 vv, .int .i64 nn, .slice la m lc] 28) = W := ⟨_, rfl⟩
  rw [hw1] at b1 e1 z1 ⊢
  rw [hBB] at e1 b1 hvl
  have hv1 := h.below (by rw [hBB]; exact b1)
  have HV1 : Hid (ViewAt w1 vb (.slice a N c) S ∧ Lts w1 (.slice la m lc) l ∧ w1.heap[BB]? = some (.cells #[.int .i64 vv, .int .i64 nn, .slice la m lc] 28 (0, 0)) ∧ (∀ q, (Value.slice a N c).ownBlock = some q → q < BB) ∧ VKeep vb (.slice a N c) w w1) := ⟨hv1, hl.below b1 (by omega), e1, fun q hq => by rw [← hBB]; exact h.2.lt hq, VKeep.of (by rw [hBB]; exact b1)⟩
  have p0 : w1.cell? ⟨vb, 0, none⟩ = some (.slice a N c) := rd_cell hv1.1 rfl
  have HBB : Hid (w.heap.size = BB ∧ w1.heap.size = BB + 1) := ⟨hBB, z1⟩
  clear h hl b1 e1 hv1 hw1 lrest lcap hN hm hfl hfs hr hBB z1
  go_wp2_with fail
  go_loopw [5, 15] (fun ov i wr => ∃ (k : Nat) (vo : Option Addr) (n2 c2 : Nat), i = .int .i64 (k : Int) ∧ k ≤ N ∧ ov = .slice vo n2 c2 ∧ Hid (n2 = (learnN l 0 (S.take k)).length ∧ LState w1 vb (.slice a N c) S l k wr (.slice vo n2 c2))) (fun _ i _ => N - (intOf i).toNat)
  case atStart => exact ⟨0, none, 0, 0, rfl, Nat.zero_le _, rfl, rfl, HV1.out.1, VKeep.of (Below.refl _ _), Nws.nil _, fun q hq => (by cases hq)⟩
  case round =>
    obtain ⟨k, vo, n2, c2, rfl, hk, rfl, HI⟩ := hrel
    by_cases hlt : k < N
    · have hkl : k < S.length := by rw [HN.out]; exact hlt
      obtain ⟨s, hs⟩ : ∃ s, S[k] = s := ⟨_, rfl⟩
      have hsk : S[k]? = some s := by rw [List.getElem?_eq_getElem hkl, hs]
      have HSK : Hid (S[k]? = some s ∧ s.flags.length ≤ 1000) := ⟨hsk, HFS.out s (hs ▸ List.getElem_mem hkl)⟩
      obtain ⟨hn2, hv, hkp, hnw, hob⟩ := id HI.out
      have hbox := (hkp.block BB (by have := HBB.out.2; omega) (by omega) (fun e => by have := HV1.out.2.2.2.1 BB e; omega)).trans HV1.out.2.2.1
      have hlw := HV1.out.2.1.vkeep hkp HV1.out.1
      have hbat : BoxAt wr BB vv nn l := ⟨_, hbox, hlw⟩
      obtain ⟨g, cg, fv, e0, hgl, q0, q1, hsf⟩ := sgs_at hv.2 (learn_at (l := l) hsk)
      rw [learn_len, HN.out] at e0
      injection e0 with e0 _ e00
      subst e0
      subst e00
      have pv : wr.cell? ⟨vb, 0, none⟩ = some (.slice (some ⟨g, 0, none⟩) N c) := rd_cell hv.1 rfl
      obtain ⟨U, hU⟩ : ∃ u, s.uid = u := ⟨_, rfl⟩
      rw [hU] at q0
      have cF := find_is BB vv nn U l wr hbat HRI.out (by rw [HM.out]; omega)
      obtain ⟨FI, hFI⟩ : ∃ C, findI l U = C := ⟨_, rfl⟩
      obtain ⟨FB, hFB⟩ : ∃ C, findB l U = C := ⟨_, rfl⟩
      rw [hFI, hFB] at cF
      have HF : Hid (findI l U = FI ∧ findB l U = FB ∧ s.uid = U) := ⟨hFI, hFB, hU⟩
      have hvl2 : vb < wr.heap.size := hv.lt
      have hBBl : BB < wr.heap.size := (Array.getElem?_eq_some_iff.1 hbox).1
      obtain ⟨fa, fc, rfl, _⟩ := id hsf
      obtain ⟨FLs, hFLs⟩ : ∃ n, s.flags.length = n := ⟨_, rfl⟩
      rw [hFLs] at q1 hsf
      have HSF : Hid (Sl wr (.slice fa FLs fc) s.flags) := hsf
      have x2 : wr.cell? ⟨BB, 2, none⟩ = some (.slice la m lc) := rd_cell hbox rfl
      have HLW : Hid (Lts wr (.slice la m lc) l) := hlw
      clear hs hsk hU hFI hFB hsf hFLs hn2 hv hkp hnw hob hbox hlw hbat hkl
      cases FB with
      | false =>
        have HFIN : Hid (∀ W, Below wr.heap.size wr W → LState w1 vb (.slice (some ⟨g, 0, none⟩) N c) S l (k + 1) W (.slice vo n2 c2) ∧ n2 = (learnN l 0 (S.take (k + 1))).length) := fun W hW => by
          have hn : flagsOf l s.uid = none := flagsOf_none (by rw [HF.out.2.2]; exact HF.out.2.1)
          have h2 : news1 l k s = [] := by unfold news1; rw [hn]
          refine ⟨HI.out.2.same HSK.out.1 (by unfold learn1; rw [hn]) h2 hW, ?_⟩
          rw [learnN_next HSK.out.1, h2, List.append_nil]
          exact HI.out.1
        go_wp2_with fail
        refine cF.mono ?_
        rintro e w5 ⟨rfl, hb5⟩
        have HB5 : Hid (Below wr.heap.size wr w5) := hb5
        clear cF hb5
        go_upto_region 6 with fail
        refine wp_region_held_drew (S := fun W => W.heap.size = W.heap.size) (by kernel_rfl) ?_ (fun hHeld => ?_)
        · rfl
        refine wpAnyH_take (i := 0) (v := ?_) rfl (by kernel_rfl) (by kernel_rfl) (by kernel_rfl) (fun _ _ _ h => h) (Or.inl ⟨by rfl, ?_⟩) (by assumption) ?_
        rotate_left
        · intro w hSw; go_simp; (try with_reducible rfl)
        change wpAnyH _ _ _ _ _ _ _ (Act.put _ (some 30) _) _; simp only [Act.put, List.setIfInBounds_toArray, List.set_cons_zero, List.set_cons_succ]
        refine wpAnyH_take (i := 1) (v := ?_) rfl (by kernel_rfl) (by kernel_rfl) (by kernel_rfl) (fun _ _ _ h => h) (Or.inl ⟨by rfl, ?_⟩) (by assumption) ?_
        rotate_left
        · intro w hSw; go_simp; (try with_reducible rfl)
        change wpAnyH _ _ _ _ _ _ _ (Act.put _ (some 31) _) _; simp only [Act.put, List.setIfInBounds_toArray, List.set_cons_zero, List.set_cons_succ]
        refine wpAnyH_take (i := 2) (v := ?_) rfl (by kernel_rfl) (by kernel_rfl) (by kernel_rfl) (fun _ _ _ h => h) (Or.inl ⟨by rfl, ?_⟩) (by assumption) ?_
        rotate_left
        · intro w hSw; go_simp; (try with_reducible rfl)
        change wpAnyH _ _ _ _ _ _ _ (Act.put _ (some 32) _) _; simp only [Act.put, List.setIfInBounds_toArray, List.set_cons_zero, List.set_cons_succ]
        refine wpAnyH_take (i := 3) (v := undef) rfl (by kernel_rfl) (by kernel_rfl) (by kernel_rfl) (fun _ _ _ h => h) (Or.inr ⟨by rfl, rfl⟩) (by assumption) ?_
        change wpAnyH _ _ _ _ _ _ _ (Act.put _ (some 33) _) _; simp only [Act.put, List.setIfInBounds_toArray, List.set_cons_zero, List.set_cons_succ]
        refine wpAnyH_take (i := 4) (v := undef) rfl (by kernel_rfl) (by kernel_rfl) (by kernel_rfl) (fun _ _ _ h => h) (Or.inr ⟨by rfl, rfl⟩) (by assumption) ?_
        change wpAnyH _ _ _ _ _ _ _ (Act.put _ (some 34) _) _; simp only [Act.put, List.setIfInBounds_toArray, List.set_cons_zero, List.set_cons_succ]
        refine wpAnyH_take (i := 5) (v := undef) rfl (by kernel_rfl) (by kernel_rfl) (by kernel_rfl) (fun _ _ _ h => h) (Or.inr ⟨by rfl, rfl⟩) (by assumption) ?_
        change wpAnyH _ _ _ _ _ _ _ (Act.put _ (some 35) _) _; simp only [Act.put, List.setIfInBounds_toArray, List.set_cons_zero, List.set_cons_succ]
        refine wpAnyH_take (i := 6) (v := undef) rfl (by kernel_rfl) (by kernel_rfl) (by kernel_rfl) (fun _ _ _ h => h) (Or.inr ⟨by rfl, rfl⟩) (by assumption) ?_
        change wpAnyH _ _ _ _ _ _ _ (Act.put _ (some 36) _) _; simp only [Act.put, List.setIfInBounds_toArray, List.set_cons_zero, List.set_cons_succ]
        refine wpAnyH_take (i := 7) (v := undef) rfl (by kernel_rfl) (by kernel_rfl) (by kernel_rfl) (fun _ _ _ h => h) (Or.inr ⟨by rfl, rfl⟩) (by assumption) ?_
        change wpAnyH _ _ _ _ _ _ _ (Act.put _ (some 37) _) _; simp only [Act.put, List.setIfInBounds_toArray, List.set_cons_zero, List.set_cons_succ]
        refine wpAnyH_take (i := 8) (v := undef) rfl (by kernel_rfl) (by kernel_rfl) (by kernel_rfl) (fun _ _ _ h => h) (Or.inr ⟨by rfl, rfl⟩) (by assumption) ?_
        change wpAnyH _ _ _ _ _ _ _ (Act.put _ (some 38) _) _; simp only [Act.put, List.setIfInBounds_toArray, List.set_cons_zero, List.set_cons_succ]
        refine wpAnyH_take (i := 9) (v := undef) rfl (by kernel_rfl) (by kernel_rfl) (by kernel_rfl) (fun _ _ _ h => h) (Or.inr ⟨by rfl, rfl⟩) (by assumption) ?_
        change wpAnyH _ _ _ _ _ _ _ (Act.put _ (some 39) _) _; simp only [Act.put, List.setIfInBounds_toArray, List.set_cons_zero, List.set_cons_succ]
        refine wpAnyH_take (i := 10) (v := undef) rfl (by kernel_rfl) (by kernel_rfl) (by kernel_rfl) (fun _ _ _ h => h) (Or.inr ⟨by rfl, rfl⟩) (by assumption) ?_
        change wpAnyH _ _ _ _ _ _ _ (Act.put _ (some 40) _) _; simp only [Act.put, List.setIfInBounds_toArray, List.set_cons_zero, List.set_cons_succ]
        refine wpAnyH_take (i := 11) (v := undef) rfl (by kernel_rfl) (by kernel_rfl) (by kernel_rfl) (fun _ _ _ h => h) (Or.inr ⟨by rfl, rfl⟩) (by assumption) ?_
        change wpAnyH _ _ _ _ _ _ _ (Act.put _ (some 41) _) _; simp only [Act.put, List.setIfInBounds_toArray, List.set_cons_zero, List.set_cons_succ]
        refine wpAnyH_take (i := 12) (v := undef) rfl (by kernel_rfl) (by kernel_rfl) (by kernel_rfl) (fun _ _ _ h => h) (Or.inr ⟨by rfl, rfl⟩) (by assumption) ?_
        change wpAnyH _ _ _ _ _ _ _ (Act.put _ (some 42) _) _; simp only [Act.put, List.setIfInBounds_toArray, List.set_cons_zero, List.set_cons_succ]
        refine wpAnyH_take (i := 13) (v := undef) rfl (by kernel_rfl) (by kernel_rfl) (by kernel_rfl) (fun _ _ _ h => h) (Or.inr ⟨by rfl, rfl⟩) (by assumption) ?_
        change wpAnyH _ _ _ _ _ _ _ (Act.put _ (some 43) _) _; simp only [Act.put, List.setIfInBounds_toArray, List.set_cons_zero, List.set_cons_succ]
        refine wpAnyH_take (i := 14) (v := undef) rfl (by kernel_rfl) (by kernel_rfl) (by kernel_rfl) (fun _ _ _ h => h) (Or.inr ⟨by rfl, rfl⟩) (by assumption) ?_
        change wpAnyH _ _ _ _ _ _ _ (Act.put _ (some 44) _) _; simp only [Act.put, List.setIfInBounds_toArray, List.set_cons_zero, List.set_cons_succ]
        refine wpAnyH_take (i := 15) (v := undef) rfl (by kernel_rfl) (by kernel_rfl) (by kernel_rfl) (fun _ _ _ h => h) (Or.inr ⟨by rfl, rfl⟩) (by assumption) ?_
        change wpAnyH _ _ _ _ _ _ _ (Act.put _ (some 45) _) _; simp only [Act.put, List.setIfInBounds_toArray, List.set_cons_zero, List.set_cons_succ]
        refine wpAnyH_take (i := 16) (v := undef) rfl (by kernel_rfl) (by kernel_rfl) (by kernel_rfl) (fun _ _ _ h => h) (Or.inr ⟨by rfl, rfl⟩) (by assumption) ?_
        change wpAnyH _ _ _ _ _ _ _ (Act.put _ (some 46) _) _; simp only [Act.put, List.setIfInBounds_toArray, List.set_cons_zero, List.set_cons_succ]
        refine wpAnyH_take (i := 17) (v := undef) rfl (by kernel_rfl) (by kernel_rfl) (by kernel_rfl) (fun _ _ _ h => h) (Or.inr ⟨by rfl, rfl⟩) (by assumption) ?_
        change wpAnyH _ _ _ _ _ _ _ (Act.put _ (some 47) _) _; simp only [Act.put, List.setIfInBounds_toArray, List.set_cons_zero, List.set_cons_succ]
        refine wpAnyH_take (i := 18) (v := ?_) rfl (by kernel_rfl) (by kernel_rfl) (by kernel_rfl) (fun _ _ _ h => h) (Or.inl ⟨by rfl, ?_⟩) (by assumption) ?_
        rotate_left
        · intro w hSw; go_simp; (try with_reducible rfl)
        change wpAnyH _ _ _ _ _ _ _ (Act.put _ (some 48) _) _; simp only [Act.put, List.setIfInBounds_toArray, List.set_cons_zero, List.set_cons_succ]
        refine wpAnyH_done (by kernel_rfl) ?_ _
        have HBE : Hid (Below wr.heap.size wr w5.drew) := HB5.out.trans ((Below.refl _ _).drew.mono HB5.out.size)
        go_wp2_with fail
        go_roundw
        case rel => exact ⟨k + 1, _, _, _, by go_num, by omega, rfl, (HFIN.out _ HBE.out).2, (HFIN.out _ HBE.out).1⟩
        case measure => simp [intOf]; omega
      | true =>
        obtain ⟨x, hx, hfo⟩ := flagsOf_some HRI.out HF.out.2.1
        rw [HF.out.1] at hx
        have hxf : x.flags.length ≤ 1000 := HFL.out x (List.mem_of_getElem? hx)
        have hFIm : FI < m := by have := (List.getElem?_eq_some_iff.1 hx).1; have := HM.out; omega
        obtain ⟨lb, lo, rfl, hat⟩ : ∃ b o, la = some ⟨b, o, none⟩ ∧ ∀ (j : Nat) x, l[j]? = some x → LtAt wr b (o + j * 4) x := by
          obtain ⟨a', c', e, _, h⟩ := HLW.out
          injection e with e _ _
          subst e
          rcases h with h | h
          · rw [h] at hx; simp at hx
          · exact h
        obtain ⟨_, ⟨lf, y1, hsl⟩, _, _⟩ := hat FI x hx
        have hlbl : lb < wr.heap.size := World.block_lt_of_cell? _ _ y1
        obtain ⟨ya, yc, rfl, _⟩ := id hsl
        obtain ⟨FLx, hFLx⟩ : ∃ n, x.flags.length = n := ⟨_, rfl⟩
        rw [hFLx] at y1 hsl
        have HSL : Hid (Sl wr (.slice ya FLx yc) x.flags ∧ x.flags.length ≤ 1000) := ⟨hsl, hxf⟩
        have HFO : Hid (flagsOf l s.uid = some x.flags) := by show flagsOf l s.uid = _; rw [HF.out.2.2]; exact hfo
        clear hx hfo hat hsl hFLx hxf
        obtain ⟨EQ, hEQ⟩ : ∃ b, decide (x.flags = s.flags) = b := ⟨_, rfl⟩
        have HEQ : Hid (decide (x.flags = s.flags) = EQ) := hEQ
        clear hEQ
        go_wp2_with fail
        refine cF.mono ?_
        rintro e w5 ⟨rfl, hb5⟩
        have HB5 : Hid (Below wr.heap.size wr w5) := hb5
        have f2 : w5.cell? ⟨BB, 2, none⟩ = some (.slice (some ⟨lb, lo, none⟩) m lc) := (hb5.cell (p := ⟨BB, _, none⟩) hBBl).trans x2
        have fy : w5.cell? ⟨lb, lo + FI * 4 + 1, none⟩ = some (.slice ya FLx yc) := (hb5.cell (p := ⟨lb, _, none⟩) hlbl).trans y1
        have fv0 : w5.cell? ⟨vb, 0, none⟩ = some (.slice (some ⟨g, 0, none⟩) N c) := (hb5.cell (p := ⟨vb, _, none⟩) hvl2).trans pv
        have fg : w5.cell? ⟨g, k * 2 + 1, none⟩ = some (.slice fa FLs fc) := (hb5.cell (p := ⟨g, _, none⟩) hgl).trans q1
        have hz5 := hb5.size
        have cE := equal_txs (.slice ya FLx yc) (.slice fa FLs fc) x.flags s.flags w5.drew ((HSL.out.1.below hb5 (Nat.le_refl _)).below (Below.refl _ _).drew (Nat.le_refl _)) ((HSF.out.below hb5 (Nat.le_refl _)).below (Below.refl _ _).drew (Nat.le_refl _)) HSL.out.2 HSK.out.2
        rw [HEQ.out] at cE
        clear cF hb5
        cases EQ with
        | true =>
          have HFIN : Hid (∀ W, Below wr.heap.size wr W → LState w1 vb (.slice (some ⟨g, 0, none⟩) N c) S l (k + 1) W (.slice vo n2 c2) ∧ n2 = (learnN l 0 (S.take (k + 1))).length) := fun W hW => by
            have he : x.flags = s.flags := of_decide_eq_true HEQ.out
            have h2 : news1 l k s = [] := by unfold news1; rw [HFO.out]; exact if_pos he
            have h1 : learn1 l s = s := by unfold learn1; rw [HFO.out]; show Sg.mk s.uid x.flags = s; rw [he]
            refine ⟨HI.out.2.same HSK.out.1 h1 h2 hW, ?_⟩
            rw [learnN_next HSK.out.1, h2, List.append_nil]
            exact HI.out.1
          go_upto_region 6 with fail
          refine wp_region_held_drew (S := fun W => W.cell? ⟨BB, 2, none⟩ = some (.slice (some ⟨lb, lo, none⟩) m lc) ∧ W.cell? ⟨lb, lo + FI * 4 + 1, none⟩ = some (.slice ya FLx yc) ∧ W.cell? ⟨vb, 0, none⟩ = some (.slice (some ⟨g, 0, none⟩) N c) ∧ W.cell? ⟨g, k * 2 + 1, none⟩ = some (.slice fa FLs fc)) (by kernel_rfl) ?_ (fun hHeld => ?_)
          · first | exact ⟨by simpa using f2, by simpa using fy, by simpa using fv0, by simpa using fg⟩ | exact ⟨(hb6.cell (p := ⟨BB, _, none⟩) (by simp; omega)).trans (by simpa using f2), (hb6.cell (p := ⟨lb, _, none⟩) (by simp; omega)).trans (by simpa using fy), (hb6.cell (p := ⟨vb, _, none⟩) (by simp; omega)).trans (by simpa using fv0), (hb6.cell (p := ⟨g, _, none⟩) (by simp; omega)).trans (by simpa using fg)⟩
          refine wpAnyH_take (i := 0) (v := ?_) rfl (by kernel_rfl) (by kernel_rfl) (by kernel_rfl) (fun _ _ _ h => h) (Or.inl ⟨by rfl, ?_⟩) (by assumption) ?_
          rotate_left
          · intro w hSw; go_simp; (try with_reducible rfl)
          change wpAnyH _ _ _ _ _ _ _ (Act.put _ (some 30) _) _; simp only [Act.put, List.setIfInBounds_toArray, List.set_cons_zero, List.set_cons_succ]
          refine wpAnyH_take (i := 1) (v := ?_) rfl (by kernel_rfl) (by kernel_rfl) (by kernel_rfl) (fun _ _ _ h => h) (Or.inl ⟨by rfl, ?_⟩) (by assumption) ?_
          rotate_left
          · intro w hSw; go_simp; (try with_reducible rfl)
          change wpAnyH _ _ _ _ _ _ _ (Act.put _ (some 31) _) _; simp only [Act.put, List.setIfInBounds_toArray, List.set_cons_zero, List.set_cons_succ]
          refine wpAnyH_take (i := 2) (v := ?_) rfl (by kernel_rfl) (by kernel_rfl) (by kernel_rfl) (fun _ _ _ h => h) (Or.inl ⟨by rfl, ?_⟩) (by assumption) ?_
          rotate_left
          · intro w hSw; go_simp; (try with_reducible rfl)
          change wpAnyH _ _ _ _ _ _ _ (Act.put _ (some 32) _) _; simp only [Act.put, List.setIfInBounds_toArray, List.set_cons_zero, List.set_cons_succ]
          refine wpAnyH_take (i := 3) (v := ?_) rfl (by kernel_rfl) (by kernel_rfl) (by kernel_rfl) (fun _ _ _ h => h) (Or.inl ⟨by rfl, ?_⟩) (by assumption) ?_
          rotate_left
          · intro w hSw; go_simp; (try with_reducible rfl)
          change wpAnyH _ _ _ _ _ _ _ (Act.put _ (some 33) _) _; simp only [Act.put, List.setIfInBounds_toArray, List.set_cons_zero, List.set_cons_succ]
          refine wpAnyH_take (i := 4) (v := ?_) rfl (by kernel_rfl) (by kernel_rfl) (by kernel_rfl) (fun _ _ _ h => h) (Or.inl ⟨by rfl, ?_⟩) (by assumption) ?_
          rotate_left
          · intro w hSw; go_simp; (try with_reducible rfl)
          change wpAnyH _ _ _ _ _ _ _ (Act.put _ (some 34) _) _; simp only [Act.put, List.setIfInBounds_toArray, List.set_cons_zero, List.set_cons_succ]
          refine wpAnyH_take (i := 5) (v := ?_) rfl (by kernel_rfl) (by kernel_rfl) (by kernel_rfl) (fun _ _ _ h => h) (Or.inl ⟨by rfl, ?_⟩) (by assumption) ?_
          rotate_left
          · intro w hSw; go_simp; (try with_reducible rfl)
          change wpAnyH _ _ _ _ _ _ _ (Act.put _ (some 35) _) _; simp only [Act.put, List.setIfInBounds_toArray, List.set_cons_zero, List.set_cons_succ]
          refine wpAnyH_take (i := 6) (v := ?_) rfl (by kernel_rfl) (by kernel_rfl) (by kernel_rfl) (fun _ _ _ h => h) (Or.inl ⟨by rfl, ?_⟩) (by assumption) ?_
          rotate_left
          · intro w hSw; go_simp; (try with_reducible rfl)
          change wpAnyH _ _ _ _ _ _ _ (Act.put _ (some 36) _) _; simp only [Act.put, List.setIfInBounds_toArray, List.set_cons_zero, List.set_cons_succ]
          refine wpAnyH_take (i := 7) (v := ?_) rfl (by kernel_rfl) (by kernel_rfl) (by kernel_rfl) (fun _ _ _ h => h) (Or.inl ⟨by rfl, ?_⟩) (by assumption) ?_
          rotate_left
          · intro w hSw; go_simp; (try with_reducible rfl)
          change wpAnyH _ _ _ _ _ _ _ (Act.put _ (some 37) _) _; simp only [Act.put, List.setIfInBounds_toArray, List.set_cons_zero, List.set_cons_succ]
          refine wpAnyH_take (i := 8) (v := ?_) rfl (by kernel_rfl) (by kernel_rfl) (by kernel_rfl) (fun _ _ _ h => h) (Or.inl ⟨by rfl, ?_⟩) (by assumption) ?_
          rotate_left
          · intro w hSw; go_simp; (try with_reducible rfl)
          change wpAnyH _ _ _ _ _ _ _ (Act.put _ (some 38) _) _; simp only [Act.put, List.setIfInBounds_toArray, List.set_cons_zero, List.set_cons_succ]
          refine wpAnyH_take (i := 9) (v := ?_) rfl (by kernel_rfl) (by kernel_rfl) (by kernel_rfl) (fun _ _ _ h => h) (Or.inl ⟨by rfl, ?_⟩) (by assumption) ?_
          rotate_left
          · intro w hSw; go_simp; (try with_reducible rfl)
          change wpAnyH _ _ _ _ _ _ _ (Act.put _ (some 39) _) _; simp only [Act.put, List.setIfInBounds_toArray, List.set_cons_zero, List.set_cons_succ]
          refine wpAnyH_take (i := 10) (v := ?_) rfl (by kernel_rfl) (by kernel_rfl) (by kernel_rfl) (fun _ _ _ h => h) (Or.inl ⟨by rfl, ?_⟩) (by assumption) ?_
          rotate_left
          · intro w hSw; go_simp; (try with_reducible rfl)
          change wpAnyH _ _ _ _ _ _ _ (Act.put _ (some 40) _) _; simp only [Act.put, List.setIfInBounds_toArray, List.set_cons_zero, List.set_cons_succ]
          refine wpAnyH_take (i := 11) (v := ?_) rfl (by kernel_rfl) (by kernel_rfl) (by kernel_rfl) (fun _ _ _ h => h) (Or.inl ⟨by rfl, ?_⟩) (by assumption) ?_
          rotate_left
          · intro w hSw; go_simp; (try with_reducible rfl)
          change wpAnyH _ _ _ _ _ _ _ (Act.put _ (some 41) _) _; simp only [Act.put, List.setIfInBounds_toArray, List.set_cons_zero, List.set_cons_succ]
          refine wpAnyH_take (i := 12) (v := ?_) rfl (by kernel_rfl) (by kernel_rfl) (by kernel_rfl) (fun _ _ _ h => h) (Or.inl ⟨by rfl, ?_⟩) (by assumption) ?_
          rotate_left
          · intro w hSw; go_simp; (try with_reducible rfl)
          change wpAnyH _ _ _ _ _ _ _ (Act.put _ (some 42) _) _; simp only [Act.put, List.setIfInBounds_toArray, List.set_cons_zero, List.set_cons_succ]
          refine wpAnyH_take (i := 13) (v := ?_) rfl (by kernel_rfl) (by kernel_rfl) (by kernel_rfl) (fun _ _ _ h => h) (Or.inl ⟨by rfl, ?_⟩) (by assumption) ?_
          rotate_left
          · intro w hSw; go_simp; (try with_reducible rfl)
          change wpAnyH _ _ _ _ _ _ _ (Act.put _ (some 43) _) _; simp only [Act.put, List.setIfInBounds_toArray, List.set_cons_zero, List.set_cons_succ]
          refine wpAnyH_take (i := 14) (v := ?_) rfl (by kernel_rfl) (by kernel_rfl) (by kernel_rfl) (fun _ _ _ h => h) (Or.inl ⟨by rfl, ?_⟩) (by assumption) ?_
          rotate_left
          · intro w hSw; go_simp; (try with_reducible rfl)
          change wpAnyH _ _ _ _ _ _ _ (Act.put _ (some 44) _) _; simp only [Act.put, List.setIfInBounds_toArray, List.set_cons_zero, List.set_cons_succ]
          refine wpAnyH_take (i := 15) (v := ?_) rfl (by kernel_rfl) (by kernel_rfl) (by kernel_rfl) (fun _ _ _ h => h) (Or.inl ⟨by rfl, ?_⟩) (by assumption) ?_
          rotate_left
          · intro w hSw; go_simp; (try with_reducible rfl)
          change wpAnyH _ _ _ _ _ _ _ (Act.put _ (some 45) _) _; simp only [Act.put, List.setIfInBounds_toArray, List.set_cons_zero, List.set_cons_succ]
          refine wpAnyH_take (i := 16) (v := ?_) rfl (by kernel_rfl) (by kernel_rfl) (by kernel_rfl) (fun _ _ _ h => h) (Or.inl ⟨by rfl, ?_⟩) (by assumption) ?_
          rotate_left
          · intro w hSw; go_simp; (try with_reducible rfl)
          change wpAnyH _ _ _ _ _ _ _ (Act.put _ (some 46) _) _; simp only [Act.put, List.setIfInBounds_toArray, List.set_cons_zero, List.set_cons_succ]
          refine wpAnyH_ready (rs := [17]) (by kernel_rfl) (by simp) ?_
          refine AllReadyH.cons rfl (fun K hK => ?_) AllReadyH.nil
          go_simp
          refine cE.mono ?_
          rintro e w6 ⟨rfl, qq, hw6⟩
          have hb6 : Below w5.drew.heap.size w5.drew w6 := by rw [hw6]; exact below_drewN (Below.refl _ _) _
          clear hw6
          refine hK.out _ _ ?_ (fun hHeld => ?_)
          · first | exact ⟨by simpa using f2, by simpa using fy, by simpa using fv0, by simpa using fg⟩ | exact ⟨(hb6.cell (p := ⟨BB, _, none⟩) (by simp; omega)).trans (by simpa using f2), (hb6.cell (p := ⟨lb, _, none⟩) (by simp; omega)).trans (by simpa using fy), (hb6.cell (p := ⟨vb, _, none⟩) (by simp; omega)).trans (by simpa using fv0), (hb6.cell (p := ⟨g, _, none⟩) (by simp; omega)).trans (by simpa using fg)⟩
          clear hK K
          refine wpAnyH_take (i := 18) (v := ?_) rfl (by kernel_rfl) (by kernel_rfl) (by kernel_rfl) (fun _ _ _ h => h) (Or.inl ⟨by rfl, ?_⟩) (by assumption) ?_
          rotate_left
          · intro w hSw; go_simp; (try with_reducible rfl)
          change wpAnyH _ _ _ _ _ _ _ (Act.put _ (some 48) _) _; simp only [Act.put, List.setIfInBounds_toArray, List.set_cons_zero, List.set_cons_succ]
          refine wpAnyH_done (by kernel_rfl) ?_ _
          have HBE : Hid (Below wr.heap.size wr w6) := (HB5.out.trans ((Below.refl _ _).drew.mono HB5.out.size)).trans (hb6.mono (by simp; omega))
          clear hb6 hHeld
          go_wp2_with fail
          go_roundw
          case rel => exact ⟨k + 1, _, _, _, by go_num, by omega, rfl, (HFIN.out _ HBE.out).2, (HFIN.out _ HBE.out).1⟩
          case measure => simp [intOf]; omega
        | false =>
          go_upto_region 6 with fail
          refine wp_region_held_drew (S := fun W => W.cell? ⟨BB, 2, none⟩ = some (.slice (some ⟨lb, lo, none⟩) m lc) ∧ W.cell? ⟨lb, lo + FI * 4 + 1, none⟩ = some (.slice ya FLx yc) ∧ W.cell? ⟨vb, 0, none⟩ = some (.slice (some ⟨g, 0, none⟩) N c) ∧ W.cell? ⟨g, k * 2 + 1, none⟩ = some (.slice fa FLs fc)) (by kernel_rfl) ?_ (fun hHeld => ?_)
          · first | exact ⟨by simpa using f2, by simpa using fy, by simpa using fv0, by simpa using fg⟩ | exact ⟨(hb6.cell (p := ⟨BB, _, none⟩) (by simp; omega)).trans (by simpa using f2), (hb6.cell (p := ⟨lb, _, none⟩) (by simp; omega)).trans (by simpa using fy), (hb6.cell (p := ⟨vb, _, none⟩) (by simp; omega)).trans (by simpa using fv0), (hb6.cell (p := ⟨g, _, none⟩) (by simp; omega)).trans (by simpa using fg)⟩
          refine wpAnyH_take (i := 0) (v := ?_) rfl (by kernel_rfl) (by kernel_rfl) (by kernel_rfl) (fun _ _ _ h => h) (Or.inl ⟨by rfl, ?_⟩) (by assumption) ?_
          rotate_left
          · intro w hSw; go_simp; (try with_reducible rfl)
          change wpAnyH _ _ _ _ _ _ _ (Act.put _ (some 30) _) _; simp only [Act.put, List.setIfInBounds_toArray, List.set_cons_zero, List.set_cons_succ]
          refine wpAnyH_take (i := 1) (v := ?_) rfl (by kernel_rfl) (by kernel_rfl) (by kernel_rfl) (fun _ _ _ h => h) (Or.inl ⟨by rfl, ?_⟩) (by assumption) ?_
          rotate_left
          · intro w hSw; go_simp; (try with_reducible rfl)
          change wpAnyH _ _ _ _ _ _ _ (Act.put _ (some 31) _) _; simp only [Act.put, List.setIfInBounds_toArray, List.set_cons_zero, List.set_cons_succ]
          refine wpAnyH_take (i := 2) (v := ?_) rfl (by kernel_rfl) (by kernel_rfl) (by kernel_rfl) (fun _ _ _ h => h) (Or.inl ⟨by rfl, ?_⟩) (by assumption) ?_
          rotate_left
          · intro w hSw; go_simp; (try with_reducible rfl)
          change wpAnyH _ _ _ _ _ _ _ (Act.put _ (some 32) _) _; simp only [Act.put, List.setIfInBounds_toArray, List.set_cons_zero, List.set_cons_succ]
          refine wpAnyH_take (i := 3) (v := ?_) rfl (by kernel_rfl) (by kernel_rfl) (by kernel_rfl) (fun _ _ _ h => h) (Or.inl ⟨by rfl, ?_⟩) (by assumption) ?_
          rotate_left
          · intro w hSw; go_simp; (try with_reducible rfl)
          change wpAnyH _ _ _ _ _ _ _ (Act.put _ (some 33) _) _; simp only [Act.put, List.setIfInBounds_toArray, List.set_cons_zero, List.set_cons_succ]
          refine wpAnyH_take (i := 4) (v := ?_) rfl (by kernel_rfl) (by kernel_rfl) (by kernel_rfl) (fun _ _ _ h => h) (Or.inl ⟨by rfl, ?_⟩) (by assumption) ?_
          rotate_left
          · intro w hSw; go_simp; (try with_reducible rfl)
          change wpAnyH _ _ _ _ _ _ _ (Act.put _ (some 34) _) _; simp only [Act.put, List.setIfInBounds_toArray, List.set_cons_zero, List.set_cons_succ]
          refine wpAnyH_take (i := 5) (v := ?_) rfl (by kernel_rfl) (by kernel_rfl) (by kernel_rfl) (fun _ _ _ h => h) (Or.inl ⟨by rfl, ?_⟩) (by assumption) ?_
          rotate_left
          · intro w hSw; go_simp; (try with_reducible rfl)
          change wpAnyH _ _ _ _ _ _ _ (Act.put _ (some 35) _) _; simp only [Act.put, List.setIfInBounds_toArray, List.set_cons_zero, List.set_cons_succ]
          refine wpAnyH_take (i := 6) (v := ?_) rfl (by kernel_rfl) (by kernel_rfl) (by kernel_rfl) (fun _ _ _ h => h) (Or.inl ⟨by rfl, ?_⟩) (by assumption) ?_
          rotate_left
          · intro w hSw; go_simp; (try with_reducible rfl)
          change wpAnyH _ _ _ _ _ _ _ (Act.put _ (some 36) _) _; simp only [Act.put, List.setIfInBounds_toArray, List.set_cons_zero, List.set_cons_succ]
          refine wpAnyH_take (i := 7) (v := ?_) rfl (by kernel_rfl) (by kernel_rfl) (by kernel_rfl) (fun _ _ _ h => h) (Or.inl ⟨by rfl, ?_⟩) (by assumption) ?_
          rotate_left
          · intro w hSw; go_simp; (try with_reducible rfl)
          change wpAnyH _ _ _ _ _ _ _ (Act.put _ (some 37) _) _; simp only [Act.put, List.setIfInBounds_toArray, List.set_cons_zero, List.set_cons_succ]
          refine wpAnyH_take (i := 8) (v := ?_) rfl (by kernel_rfl) (by kernel_rfl) (by kernel_rfl) (fun _ _ _ h => h) (Or.inl ⟨by rfl, ?_⟩) (by assumption) ?_
          rotate_left
          · intro w hSw; go_simp; (try with_reducible rfl)
          change wpAnyH _ _ _ _ _ _ _ (Act.put _ (some 38) _) _; simp only [Act.put, List.setIfInBounds_toArray, List.set_cons_zero, List.set_cons_succ]
          refine wpAnyH_take (i := 9) (v := ?_) rfl (by kernel_rfl) (by kernel_rfl) (by kernel_rfl) (fun _ _ _ h => h) (Or.inl ⟨by rfl, ?_⟩) (by assumption) ?_
          rotate_left
          · intro w hSw; go_simp; (try with_reducible rfl)
          change wpAnyH _ _ _ _ _ _ _ (Act.put _ (some 39) _) _; simp only [Act.put, List.setIfInBounds_toArray, List.set_cons_zero, List.set_cons_succ]
          refine wpAnyH_take (i := 10) (v := ?_) rfl (by kernel_rfl) (by kernel_rfl) (by kernel_rfl) (fun _ _ _ h => h) (Or.inl ⟨by rfl, ?_⟩) (by assumption) ?_
          rotate_left
          · intro w hSw; go_simp; (try with_reducible rfl)
          change wpAnyH _ _ _ _ _ _ _ (Act.put _ (some 40) _) _; simp only [Act.put, List.setIfInBounds_toArray, List.set_cons_zero, List.set_cons_succ]
          refine wpAnyH_take (i := 11) (v := ?_) rfl (by kernel_rfl) (by kernel_rfl) (by kernel_rfl) (fun _ _ _ h => h) (Or.inl ⟨by rfl, ?_⟩) (by assumption) ?_
          rotate_left
          · intro w hSw; go_simp; (try with_reducible rfl)
          change wpAnyH _ _ _ _ _ _ _ (Act.put _ (some 41) _) _; simp only [Act.put, List.setIfInBounds_toArray, List.set_cons_zero, List.set_cons_succ]
          refine wpAnyH_take (i := 12) (v := ?_) rfl (by kernel_rfl) (by kernel_rfl) (by kernel_rfl) (fun _ _ _ h => h) (Or.inl ⟨by rfl, ?_⟩) (by assumption) ?_
          rotate_left
          · intro w hSw; go_simp; (try with_reducible rfl)
          change wpAnyH _ _ _ _ _ _ _ (Act.put _ (some 42) _) _; simp only [Act.put, List.setIfInBounds_toArray, List.set_cons_zero, List.set_cons_succ]
          refine wpAnyH_take (i := 13) (v := ?_) rfl (by kernel_rfl) (by kernel_rfl) (by kernel_rfl) (fun _ _ _ h => h) (Or.inl ⟨by rfl, ?_⟩) (by assumption) ?_
          rotate_left
          · intro w hSw; go_simp; (try with_reducible rfl)
          change wpAnyH _ _ _ _ _ _ _ (Act.put _ (some 43) _) _; simp only [Act.put, List.setIfInBounds_toArray, List.set_cons_zero, List.set_cons_succ]
          refine wpAnyH_take (i := 14) (v := ?_) rfl (by kernel_rfl) (by kernel_rfl) (by kernel_rfl) (fun _ _ _ h => h) (Or.inl ⟨by rfl, ?_⟩) (by assumption) ?_
          rotate_left
          · intro w hSw; go_simp; (try with_reducible rfl)
          change wpAnyH _ _ _ _ _ _ _ (Act.put _ (some 44) _) _; simp only [Act.put, List.setIfInBounds_toArray, List.set_cons_zero, List.set_cons_succ]
          refine wpAnyH_take (i := 15) (v := ?_) rfl (by kernel_rfl) (by kernel_rfl) (by kernel_rfl) (fun _ _ _ h => h) (Or.inl ⟨by rfl, ?_⟩) (by assumption) ?_
          rotate_left
          · intro w hSw; go_simp; (try with_reducible rfl)
          change wpAnyH _ _ _ _ _ _ _ (Act.put _ (some 45) _) _; simp only [Act.put, List.setIfInBounds_toArray, List.set_cons_zero, List.set_cons_succ]
          refine wpAnyH_take (i := 16) (v := ?_) rfl (by kernel_rfl) (by kernel_rfl) (by kernel_rfl) (fun _ _ _ h => h) (Or.inl ⟨by rfl, ?_⟩) (by assumption) ?_
          rotate_left
          · intro w hSw; go_simp; (try with_reducible rfl)
          change wpAnyH _ _ _ _ _ _ _ (Act.put _ (some 46) _) _; simp only [Act.put, List.setIfInBounds_toArray, List.set_cons_zero, List.set_cons_succ]
          refine wpAnyH_ready (rs := [17]) (by kernel_rfl) (by simp) ?_
          refine AllReadyH.cons rfl (fun K hK => ?_) AllReadyH.nil
          go_simp
          refine cE.mono ?_
          rintro e w6 ⟨rfl, qq, hw6⟩
          have hb6 : Below w5.drew.heap.size w5.drew w6 := by rw [hw6]; exact below_drewN (Below.refl _ _) _
          clear hw6
          refine hK.out _ _ ?_ (fun hHeld => ?_)
          · first | exact ⟨by simpa using f2, by simpa using fy, by simpa using fv0, by simpa using fg⟩ | exact ⟨(hb6.cell (p := ⟨BB, _, none⟩) (by simp; omega)).trans (by simpa using f2), (hb6.cell (p := ⟨lb, _, none⟩) (by simp; omega)).trans (by simpa using fy), (hb6.cell (p := ⟨vb, _, none⟩) (by simp; omega)).trans (by simpa using fv0), (hb6.cell (p := ⟨g, _, none⟩) (by simp; omega)).trans (by simpa using fg)⟩
          clear hK K
          refine wpAnyH_take (i := 18) (v := ?_) rfl (by kernel_rfl) (by kernel_rfl) (by kernel_rfl) (fun _ _ _ h => h) (Or.inl ⟨by rfl, ?_⟩) (by assumption) ?_
          rotate_left
          · intro w hSw; go_simp; (try with_reducible rfl)
          change wpAnyH _ _ _ _ _ _ _ (Act.put _ (some 48) _) _; simp only [Act.put, List.setIfInBounds_toArray, List.set_cons_zero, List.set_cons_succ]
          refine wpAnyH_done (by kernel_rfl) ?_ _
          have HBE : Hid (Below wr.heap.size wr w6) := (HB5.out.trans ((Below.refl _ _).drew.mono HB5.out.size)).trans (hb6.mono (by simp; omega))
          obtain ⟨m2, my, mv, mg⟩ := id hHeld
          clear hb6 hHeld cE f2 fy fv0 fg HB5
          have hz6 := HBE.out.size
          have HS6 : Hid (LState w1 vb (.slice (some ⟨g, 0, none⟩) N c) S l k w6 (.slice vo n2 c2)) := by
            obtain ⟨h1, h2, h3, h4⟩ := HI.out.2
            exact ⟨h1.below HBE.out, h2.trans (Near.refl _ _) (VKeep.of HBE.out), h3.below HBE.out, h4⟩
          have cC := fun (W : World) (hW : Sl W (.slice ya FLx yc) x.flags) => clone_sl (.slice ya FLx yc) x.flags W hW HSL.out.2
          have HCC : Hid (∀ (W : World) (hW : Sl W (.slice ya FLx yc) x.flags), Calls Tryz.prog 45 #[.slice ya FLx yc] W fun e w' => (∃ v', e = .returned v' ∧ Sl w' v' x.flags) ∧ Below W.heap.size W w') := cC
          have HY6 : Hid (Sl w6 (.slice ya FLx yc) x.flags) := HSL.out.1.below HBE.out (Nat.le_refl _)
          have cC1 := HCC.out w6.drew (HY6.out.below (Below.refl _ _).drew (Nat.le_refl _))
          clear cC
          go_upto_region 8 with fail
          refine wp_region_held_drew (S := fun W => W.cell? ⟨vb, 0, none⟩ = some (.slice (some ⟨g, 0, none⟩) N c)) (by kernel_rfl) ?_ (fun hHeld => ?_)
          · first | (show _ = _; simpa using mv) | exact gv | (show World.cell? _ _ = _; rw [World.cell?_of_block (a := ⟨vb, 0, none⟩) (Below.heap_setCell _ _ _ _ hgne2)]; exact gv)
          refine wpAnyH_take (i := 0) (v := ?_) rfl (by kernel_rfl) (by kernel_rfl) (by kernel_rfl) (fun _ _ _ h => h) (Or.inl ⟨by rfl, ?_⟩) (by assumption) ?_
          rotate_left
          · intro w hSw; go_simp; (try with_reducible rfl)
          change wpAnyH _ _ _ _ _ _ _ (Act.put _ (some 55) _) _; simp only [Act.put, List.setIfInBounds_toArray, List.set_cons_zero, List.set_cons_succ]
          refine wpAnyH_take (i := 1) (v := ?_) rfl (by kernel_rfl) (by kernel_rfl) (by kernel_rfl) (fun _ _ _ h => h) (Or.inl ⟨by rfl, ?_⟩) (by assumption) ?_
          rotate_left
          · intro w hSw; go_simp; (try with_reducible rfl)
          change wpAnyH _ _ _ _ _ _ _ (Act.put _ (some 56) _) _; simp only [Act.put, List.setIfInBounds_toArray, List.set_cons_zero, List.set_cons_succ]
          refine wpAnyH_take (i := 2) (v := ?_) rfl (by kernel_rfl) (by kernel_rfl) (by kernel_rfl) (fun _ _ _ h => h) (Or.inl ⟨by rfl, ?_⟩) (by assumption) ?_
          rotate_left
          · intro w hSw; go_simp; (try with_reducible rfl)
          change wpAnyH _ _ _ _ _ _ _ (Act.put _ (some 57) _) _; simp only [Act.put, List.setIfInBounds_toArray, List.set_cons_zero, List.set_cons_succ]
          refine wpAnyH_take (i := 3) (v := ?_) rfl (by kernel_rfl) (by kernel_rfl) (by kernel_rfl) (fun _ _ _ h => h) (Or.inl ⟨by rfl, ?_⟩) (by assumption) ?_
          rotate_left
          · intro w hSw; go_simp; (try with_reducible rfl)
          change wpAnyH _ _ _ _ _ _ _ (Act.put _ (some 58) _) _; simp only [Act.put, List.setIfInBounds_toArray, List.set_cons_zero, List.set_cons_succ]
          refine wpAnyH_take (i := 4) (v := ?_) rfl (by kernel_rfl) (by kernel_rfl) (by kernel_rfl) (fun _ _ _ h => h) (Or.inl ⟨by rfl, ?_⟩) (by assumption) ?_
          rotate_left
          · intro w hSw; go_simp; (try with_reducible rfl)
          change wpAnyH _ _ _ _ _ _ _ (Act.put _ (some 59) _) _; simp only [Act.put, List.setIfInBounds_toArray, List.set_cons_zero, List.set_cons_succ]
          refine wpAnyH_take (i := 5) (v := ?_) rfl (by kernel_rfl) (by kernel_rfl) (by kernel_rfl) (fun _ _ _ h => h) (Or.inl ⟨by rfl, ?_⟩) (by assumption) ?_
          rotate_left
          · intro w hSw; go_simp; (try with_reducible rfl)
          change wpAnyH _ _ _ _ _ _ _ (Act.put _ (some 60) _) _; simp only [Act.put, List.setIfInBounds_toArray, List.set_cons_zero, List.set_cons_succ]
          refine wpAnyH_ready (rs := [6]) (by kernel_rfl) (by simp) ?_
          refine AllReadyH.cons rfl (fun K hK => ?_) AllReadyH.nil
          go_simp
          refine cC1.mono ?_
          rintro e w7 ⟨⟨v7, rfl, hs7⟩, hb7⟩
          obtain ⟨va7, vc7, rfl, _⟩ := id hs7
          obtain ⟨vn7, hvn7⟩ : ∃ n, x.flags.length = n := ⟨_, rfl⟩
          rw [hvn7] at hs7 ⊢
          clear hvn7
          have gg : w7.cell? ⟨g, k * 2 + 1, none⟩ = some (.slice fa FLs fc) := (hb7.cell (p := ⟨g, _, none⟩) (by simp; omega)).trans (by simpa using mg)
          have gf : w7.frozen? ⟨g, k * 2 + 1, none⟩ = false := by
            have hb67 : Below w6.heap.size w6 w7 := (Below.refl _ _).drew.trans (by simpa using hb7)
            obtain ⟨rows, h1, _⟩ := (HS6.out.1.below hb67).2
            rcases h1.2 with ⟨h0, _⟩ | ⟨g2, _, _, h0, _, hh, _⟩
            · cases h0
            · injection h0 with h0 _ _
              injection h0 with h0
              injection h0 with h0 _ _
              subst h0
              exact rd_free hh _
          have gv : w7.cell? ⟨vb, 0, none⟩ = some (.slice (some ⟨g, 0, none⟩) N c) := (hb7.cell (p := ⟨vb, _, none⟩) (by simp; omega)).trans (by simpa using mv)
          have hgne2 : vb ≠ g := fun e => HS6.out.1.apart (by rw [e]; rfl)
          refine hK.out _ _ ?_ (fun hHeld => ?_)
          · first | (show _ = _; simpa using mv) | exact gv | (show World.cell? _ _ = _; rw [World.cell?_of_block (a := ⟨vb, 0, none⟩) (Below.heap_setCell _ _ _ _ hgne2)]; exact gv)
          clear hK K
          refine wpAnyH_take (i := 7) (v := ?_) rfl (by kernel_rfl) (by kernel_rfl) (by kernel_rfl) (fun _ _ _ h => h) (Or.inl ⟨by rfl, ?_⟩) (by assumption) ?_
          rotate_left
          · intro w hSw; go_simp; (try with_reducible rfl)
          change wpAnyH _ _ _ _ _ _ _ (Act.put _ (some 62) _) _; simp only [Act.put, List.setIfInBounds_toArray, List.set_cons_zero, List.set_cons_succ]
          refine wpAnyH_take (i := 8) (v := ?_) rfl (by kernel_rfl) (by kernel_rfl) (by kernel_rfl) (fun _ _ _ h => h) (Or.inl ⟨by rfl, ?_⟩) (by assumption) ?_
          rotate_left
          · intro w hSw; go_simp; (try with_reducible rfl)
          change wpAnyH _ _ _ _ _ _ _ (Act.put _ (some 63) _) _; simp only [Act.put, List.setIfInBounds_toArray, List.set_cons_zero, List.set_cons_succ]
          refine wpAnyH_ready (rs := [9]) (by kernel_rfl) (by simp) ?_
          refine AllReadyH.cons rfl (fun K hK => ?_) AllReadyH.nil
          go_simp
          refine hK.out _ _ ?_ (fun hHeld => ?_)
          · first | (show _ = _; simpa using mv) | exact gv | (show World.cell? _ _ = _; rw [World.cell?_of_block (a := ⟨vb, 0, none⟩) (Below.heap_setCell _ _ _ _ hgne2)]; exact gv)
          clear hK K
          refine wpAnyH_done (by kernel_rfl) ?_ _
          have hb67 : Below w6.heap.size w6 w7 := (Below.refl _ _).drew.trans (by simpa using hb7)
          have hs6 := HS6.out
          have hkl6 : (((S.take k).map (learn1 l) ++ S.drop k)).length = N := by rw [learn_len, HN.out]
          have hset := sgs_set (k := k) (g := g) (x := s) (by rw [hkl6]; exact (hs6.1.below hb67).2) rfl (learn_at (l := l) HSK.out.1) hs7
          rw [hkl6] at hset
          have hv7 := hs6.1.below hb67
          have hgne : vb ≠ g := fun e => hv7.apart (by rw [e]; rfl)
          have HK8 : Hid (VKeep vb (.slice (some ⟨g, 0, none⟩) N c) w6 (w7.setCell ⟨g, k * 2 + 1, none⟩ (.slice va7 vn7 vc7))) := ⟨hb67.os, hb67.tape, hb67.output, by simpa using hb67.size, fun q hq h1 h2 => (Below.heap_setCell _ _ _ _ (fun e => h2 (by have e : q = g := e; rw [e]; rfl))).trans (hb67.block q hq)⟩
          have HV8 : Hid (ViewAt (w7.setCell ⟨g, k * 2 + 1, none⟩ (.slice va7 vn7 vc7)) vb (.slice (some ⟨g, 0, none⟩) N c) ((S.take (k + 1)).map (learn1 l) ++ S.drop (k + 1))) := by
            refine ⟨(Below.heap_setCell _ _ _ _ hgne).trans hv7.1, ?_⟩
            rw [← learn_set HSK.out.1]
            have hl1 : learn1 l s = ⟨s.uid, x.flags⟩ := by unfold learn1; rw [HFO.out]
            rw [hl1]
            exact hset
          have HN8 : Hid (Nws (w7.setCell ⟨g, k * 2 + 1, none⟩ (.slice va7 vn7 vc7)) (.slice vo n2 c2) (learnN l 0 (S.take k))) := by
            refine (hs6.2.2.1.below hb67).same fun q hq h => Below.heap_setCell _ _ _ _ (fun e => ?_)
            have e : q = g := e
            rcases h with h | h
            · have h1 := hs6.2.2.2 q h
              have h2 := HV1.out.2.2.2.1 q (by rw [e]; rfl)
              have := HBB.out.2
              omega
            · exact h (by rw [e]; exact (hv7.2).noStr rfl)
          have HY8 : Hid (Sl (w7.setCell ⟨g, k * 2 + 1, none⟩ (.slice va7 vn7 vc7)) (.slice ya FLx yc) x.flags) := HY6.out.vkeep HK8.out hs6.1
          obtain ⟨W8, hW8⟩ : ∃ W, w7.setCell ⟨g, k * 2 + 1, none⟩ (.slice va7 vn7 vc7) = W := ⟨_, rfl⟩
          rw [hW8] at HK8 HV8 HN8 HY8 ⊢
          have cC2 := HCC.out W8 HY8.out
          clear hW8 hset hv7 hs6 hb67 hb7 hs7 hHeld m2 my mv mg cC1
          go_wp2_with fail
          refine cC2.mono ?_
          rintro e w9 ⟨⟨v9, rfl, hs9⟩, hb9⟩
          obtain ⟨va9, vc9, rfl, _⟩ := id hs9
          obtain ⟨vn9, hvn9⟩ : ∃ n, x.flags.length = n := ⟨_, rfl⟩
          have hn9 := HN8.out.below hb9
          have hle : (learnN l 0 (S.take k)).length ≤ 1000 := by
            have h1 := learnN_le l 0 (S.take k)
            rw [List.length_take] at h1
            omega
          have HN2 : Hid (n2 = (learnN l 0 (S.take k)).length) := HI.out.1
          rw [HN2.out] at hn9
          obtain ⟨g10, cap10, W10, hrun, hnw10, ⟨k1, k2, k3, k4, k5⟩, hnear⟩ := nws_push hn9 hle ⟨3, (k : Int) + 1, x.flags⟩ (.slice va9 x.flags.length vc9) hs9
          rw [← HN2.out, hvn9] at hrun
          have HRUN : Hid ((Builtin.append_ #[77, 77] 77 #[.slice vo n2 c2, .slice (some ⟨w9.heap.size, 0, none⟩) 1 1]).run Tryz.prog (w9.alloc (.cells #[.int .i64 3, .int .i64 ((k : Int) + 1), .slice va9 vn9 vc9] 103)) = .ok (.slice (some ⟨g10, 0, none⟩) (n2 + 1) cap10) W10) := hrun
          have HFIN : Hid (n2 + 1 = (learnN l 0 (S.take (k + 1))).length ∧ LState w1 vb (.slice (some ⟨g, 0, none⟩) N c) S l (k + 1) W10 (.slice (some ⟨g10, 0, none⟩) (n2 + 1) cap10)) := by
            have hne : ¬ x.flags = s.flags := of_decide_eq_false HEQ.out
            have h2 : news1 l k s = [⟨3, (k : Int) + 1, x.flags⟩] := by unfold news1; rw [HFO.out]; exact if_neg hne
            have hnx : learnN l 0 (S.take (k + 1)) = learnN l 0 (S.take k) ++ [⟨3, (k : Int) + 1, x.flags⟩] := by rw [learnN_next HSK.out.1, h2]
            have hv9 := HV8.out.below hb9
            have hob : ∀ q, (Value.slice vo (learnN l 0 (S.take k)).length c2).ownBlock = some q → BB + 1 ≤ q := fun q hq => by
              have h3 := HI.out.2.2.2.2 q (by rw [HN2.out]; exact hq)
              have := HBB.out.2
              omega
            have hvb : vb < BB := hvl
            have hgb := HV1.out.2.2.2.1 g rfl
            have hz9 : W8.heap.size ≤ w9.heap.size := hb9.size
            have hz8 := HK8.out.size
            have hz1 := HS6.out.2.1.size
            have hkk : ∀ q, q < w9.heap.size → q < BB + 1 → W10.heap[q]? = w9.heap[q]? := fun q hq hl' => k5 q hq (fun e => by have := hob q e; omega)
            have hbb := HBB.out.2
            refine ⟨by rw [hnx, List.length_append, ← HN2.out]; rfl, ⟨?_, ?_⟩, ?_, ?_, ?_⟩
            · exact (hkk vb hv9.lt (by omega)).trans hv9.1
            · refine hv9.2.same fun q hq h => k5 q hq fun e => ?_
              rcases h with h | h
              · have h3 : g = q := by simpa [Value.ownBlock] using h
                have := hob q e
                omega
              · exact h (hn9.noStr e)
            · have hk9 : VKeep vb (.slice (some ⟨g, 0, none⟩) N c) w1 w9 := HS6.out.2.1.trans (Near.refl _ _) (HK8.out.trans (Near.refl _ _) (VKeep.of hb9))
              exact ⟨k1.trans hk9.os, k2.trans hk9.tape, k3.trans hk9.output, Nat.le_trans hk9.size k4, fun q hq h1 h2 => (k5 q (by have := hk9.size; omega) (fun e => by have := hob q e; omega)).trans (hk9.block q hq h1 h2)⟩
            · rw [hnx, HN2.out]
              exact hnw10
            · intro q hq
              rcases hnear q (by simpa [Value.ownBlock] using hq) with h | h
              · have := hob q h; omega
              · omega
          clear hrun hnw10 hnear hn9 hs9 hb9 cC2 hle
          go_wp2_with (at_builtin; go_must (refine Go.Lib.wpList_append_run _ rfl (.tmp 64) (.tmp 70) 77 77 rfl _ _ rfl rfl _ W10 HRUN.out ?_))
          go_roundw
          case rel => exact ⟨k + 1, _, _, _, by go_num, by omega, rfl, HFIN.out⟩
          case measure => simp [intOf]; omega
    · obtain rfl : k = N := by omega
      have hI := HI.out.2
      unfold LState at hI
      rw [List.take_of_length_le (by rw [HN.out]; exact Nat.le_refl _), List.drop_of_length_le (by rw [HN.out]; exact Nat.le_refl _), List.append_nil] at hI
      have HF : Hid (ViewAt wr vb (.slice a k c) (S.map (learn1 l)) ∧ VKeep vb (.slice a k c) w wr ∧ Nws wr (.slice vo n2 c2) (learnN l 0 S) ∧ ∀ q, (Value.slice vo n2 c2).ownBlock = some q → w.heap.size ≤ q) := ⟨hI.1, HV1.out.2.2.2.2.trans (Near.refl _ _) hI.2.1, hI.2.2.1, fun q hq => by have := hI.2.2.2 q hq; have := HBB.out; omega⟩
      clear hI HI
      go_wp2_with fail
      go_ret
      exact ⟨_, rfl, HF.out⟩
end Go.Proofs.YtgpcnacpefficaaGreatDoor
