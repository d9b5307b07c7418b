/-
  A new box has the messages of INBOX.
-/
import Derived.Test.YtfdlopimncodcaaGreatDoorBpHsRen
namespace Go.Proofs.YtfdlopimncodcaaGreatDoor
open Go.RowKit Go.Proofs.Aid Go.Proofs.Bx

theorem keep_putAll {q : Nm × Nat} : ∀ (ps l : Bxs), SortedB l → q ∈ l → q.1 ∉ ps.map Prod.fst → q ∈ putAll l ps
  | [], _, _, h, _ => h
  | p :: ps, l, hs, h, hn => by
    refine keep_putAll ps (putB p.1 p.2 l) (sorted_putB hs) ((mem_putB hs (m := q.1) (c := q.2)).2 (Or.inr ⟨fun e => hn ?_, h⟩)) fun e => hn ?_
    · rw [e]; exact List.mem_cons_self
    · exact List.mem_cons_of_mem _ e
theorem last_putAll {T : Nm} {ns : List Nm} {ps l : Bxs} (hs : SortedB l) (h : ps.map Prod.fst = ns ++ [T]) : ∃ (tb j : Nat), (T, tb) ∈ putAll l ps ∧ ps[j]? = some (T, tb) := by
  have hne : ps ≠ [] := fun e => by rw [e] at h; simp at h
  have e := List.dropLast_concat_getLast hne
  obtain ⟨q, hq⟩ : ∃ q, ps.getLast hne = q := ⟨_, rfl⟩
  rw [hq] at e
  have hT : q.1 = T := by
    rw [← e, List.map_append] at h
    have := (List.append_inj' h (by simp)).2
    simpa using this
  obtain ⟨q1, q2⟩ := q
  obtain rfl : q1 = T := hT
  refine ⟨q2, ps.dropLast.length, ?_, ?_⟩
  · rw [← e, putAll_snoc]
    exact (mem_putB (putAll_sorted ps.dropLast l hs)).2 (Or.inl ⟨rfl, rfl⟩)
  · have h3 : (ps.dropLast ++ [(q1, q2)])[ps.dropLast.length]? = some (q1, q2) := by
      rw [List.getElem?_append_right (Nat.le_refl _), Nat.sub_self]
      rfl
    rw [e] at h3
    exact h3
theorem lack_free {l : Bxs} {n m : Nm} (h : m ∈ lackB l n) : hasB l m = false := by
  unfold lackB lackTo at h
  obtain ⟨i, hi, rfl⟩ := List.mem_map.1 h
  have := (List.mem_filter.1 hi).2
  simp only [Bool.and_eq_true, Bool.not_eq_true'] at this
  exact this.2
set_option maxHeartbeats 8000000 in
set_option maxRecDepth 100000 in
theorem pour_is (H hb mb K : Nat) (l : Bxs) (nx : Int) (a : Option Addr) (wn wc : Nat) (t : ByteArray) (w : World) (nB : Nm → Option Nm) (hN : NameC nB w) (h : HsAt w hb mb l nx (.slice a wn wc)) (hO : BxOk w H K l) (hl : l.length ≤ 30) (hn : 0 ≤ nx ∧ nx ≤ 800000) (ht : t.size ≤ 60) (e1 : nB t.data.toList = some t.data.toList) (e2 : hasB l t.data.toList = false) (e3 : hasB l inboxN = true) (h0 : H ≤ w.heap.size) (h1 : H ≤ hb) (h2 : H ≤ mb) :
    Calls Tryz.prog 83 #[.pointer (some ⟨hb, 0, none⟩), .string t] w fun e w' => (∃ v, e = .returned v) ∧ Fr H w w' ∧ ∃ l' mx, HsAt w' hb mb l' mx (.slice a wn wc) ∧ BxOk w' H K l' ∧ l'.length ≤ 30 ∧ nx ≤ mx ∧ mx ≤ nx + 30 := by
  have cC := create_is nB hb mb l nx (.slice a wn wc) t w hN h (by omega) (by omega) (by omega)
  have HH : Hid (HsAt w hb mb l nx (.slice a wn wc) ∧ BxOk w H K l ∧ nB t.data.toList = some t.data.toList ∧ hasB l t.data.toList = false ∧ hasB l inboxN = true ∧ H ≤ w.heap.size ∧ H ≤ hb ∧ H ≤ mb) := ⟨h, hO, e1, e2, e3, h0, h1, h2⟩
  clear hN h hO e1 e2 e3 h0 h1 h2
  go_enter Tryz.func83, Tryz.ntmps83
  go_wp2_with fail
  refine cC.mono ?_
  rintro e w2 (⟨c1, _⟩ | ⟨r, c1, c2, _⟩ | ⟨r, c1, _, c3, rfl, c4⟩ | ⟨r, ps, c1, _, c3, rfl, c5, c6, c7⟩)
  · rw [HH.out.2.2.1] at c1
    cases c1
  · rw [HH.out.2.2.1] at c1
    obtain rfl := Option.some.inj c1
    rw [HH.out.2.2.2.1] at c2
    cases c2
  · have HF : Hid (Fr H w w2 ∧ ∃ l' mx, HsAt w2 hb mb l' mx (.slice a wn wc) ∧ BxOk w2 H K l' ∧ l'.length ≤ 30 ∧ nx ≤ mx ∧ mx ≤ nx + 30) :=
      ⟨Fr.of c4 HH.out.2.2.2.2.2.1, l, nx, HH.out.1.below c4 (Nat.le_refl _), HH.out.2.1.hk HH.out.1 (HK.of c4), hl, Int.le_refl _, by omega⟩
    clear cC c1 c3 c4
    go_wp2_with fail
    go_ret
    exact ⟨⟨_, rfl⟩, HF.out⟩
  · rw [HH.out.2.2.1] at c1
    obtain rfl := Option.some.inj c1
    have hso := HH.out.1.2.sorted
    obtain ⟨fb, hfb0⟩ := hasB_true.1 HH.out.2.2.2.2.1
    obtain ⟨tb, j, htb, hj⟩ := last_putAll (l := l) hso c6.1
    have hfb : (inboxN, fb) ∈ putAll l ps := keep_putAll ps l hso hfb0 (by
      rw [c6.1]
      intro hm
      rcases List.mem_append.1 hm with hm | hm
      · have := lack_free hm
        rw [HH.out.2.2.2.2.1] at this
        cases this
      · have e := List.mem_singleton.1 hm
        have h3 := HH.out.2.2.2.1
        rw [← show inboxN = t.data.toList from e, HH.out.2.2.2.2.1] at h3
        cases h3)
    obtain ⟨htn, hnb⟩ := c6.2.1 j _ hj
    obtain ⟨hf1, hf2, fv, fn, fl, hfB, hf3, hf4, hf5⟩ := HH.out.2.1 (inboxN, fb) hfb0
    have hfBlt := hfB.lt
    have hne : tb ≠ fb := by
      have : w.heap.size ≤ tb := htn
      have : fb < w.heap.size := hfBlt
      omega
    have hO2 : BxOk w2 H K (putAll l ps) := HH.out.2.1.built HH.out.1 c5 c6 HH.out.2.2.2.2.2.1 (fun m hm => by
      have hsz : t.data.toList.length = t.size := by rw [Array.length_toList]; rfl
      rcases List.mem_append.1 hm with hm | hm
      · have := lack_short hm
        omega
      · rw [List.mem_singleton.1 hm]
        omega)
    have hfB2 : BoxAt w2 fb fv fn fl := hfB.hk HH.out.1 c5
    obtain ⟨lv, hfh, la, lc, rfl, hl0, hl1⟩ := id hfB2
    obtain ⟨ln, hln⟩ : ∃ m, fl.length = m := ⟨_, rfl⟩
    rw [hln] at hfh
    have hth : w2.heap[tb]? = some (.cells #[.int .i64 (nx + (j : Int)), .int .i64 1, .slice none 0 0] 72 (0, 0)) := hnb
    obtain ⟨TV, hTV⟩ : ∃ m, nx + (j : Int) = m := ⟨_, rfl⟩
    rw [hTV] at hth
    obtain ⟨WD, hWD⟩ : ∃ W, w2.drew = W := ⟨_, rfl⟩
    obtain ⟨WE, hWE⟩ : ∃ W, WD.drew = W := ⟨_, rfl⟩
    have bE : Below w2.heap.size w2 WE := by rw [← hWE, ← hWD]; exact (Below.refl _ _).drew.drew
    have bD : Below w2.heap.size w2 WD := by rw [← hWD]; exact (Below.refl _ _).drew
    have hSD := c7.below bD (Nat.le_refl _)
    have hSE := c7.below bE (Nat.le_refl _)
    have c0 := c7.cell.1
    have hlk1 := mp_look hSD.2 ⟨#[73, 78, 66, 79, 88]⟩ (by decide) (b := fb) hfb
    have hlk2 := mp_look hSD.2 t (by omega) (b := tb) htb
    have eF := (bE.block fb (Array.getElem?_eq_some_iff.1 hfh).1).trans hfh
    have eT := (bE.block tb (Array.getElem?_eq_some_iff.1 hth).1).trans hth
    have dF := (bD.block fb (Array.getElem?_eq_some_iff.1 hfh).1).trans hfh
    have x1 : WD.cell? ⟨fb, 1, none⟩ = some (.int .i64 fn) := rd_cell dF rfl
    have x2 : WD.cell? ⟨fb, 2, none⟩ = some (.slice la ln lc) := rd_cell dF rfl
    have g2 := rd_free eT 2
    have eT1 : (WE.setCell ⟨tb, 2, none⟩ (.slice la ln lc)).heap[tb]? = some (.cells #[.int .i64 TV, .int .i64 1, .slice la ln lc] 72 (0, 0)) := by simpa using rd_set (i := 2) (.slice la ln lc) eT
    have eF1 : (WE.setCell ⟨tb, 2, none⟩ (.slice la ln lc)).heap[fb]? = some (.cells #[.int .i64 fv, .int .i64 fn, .slice la ln lc] 72 (0, 0)) := (Below.heap_setCell _ _ _ _ (fun e => hne e.symm)).trans eF
    have bA : But WE.heap.size tb WE (WE.setCell ⟨tb, 2, none⟩ (.slice la ln lc)) := (to_but (Below.refl _ _)).setB 2 _
    obtain ⟨WA, hWA⟩ : ∃ W, WE.setCell ⟨tb, 2, none⟩ (.slice la ln lc) = W := ⟨_, rfl⟩
    rw [hWA] at eT1 eF1 bA
    have ya1 : WA.cell? ⟨fb, 1, none⟩ = some (.int .i64 fn) := rd_cell eF1 rfl
    have ya2 : WA.cell? ⟨fb, 2, none⟩ = some (.slice la ln lc) := rd_cell eF1 rfl
    have g1 := rd_free eT1 1
    have eT2 : (WA.setCell ⟨tb, 1, none⟩ (.int .i64 fn)).heap[tb]? = some (.cells #[.int .i64 TV, .int .i64 fn, .slice la ln lc] 72 (0, 0)) := by simpa using rd_set (i := 1) (.int .i64 fn) eT1
    have eF2 : (WA.setCell ⟨tb, 1, none⟩ (.int .i64 fn)).heap[fb]? = some (.cells #[.int .i64 fv, .int .i64 fn, .slice la ln lc] 72 (0, 0)) := (Below.heap_setCell _ _ _ _ (fun e => hne e.symm)).trans eF1
    have bB : But WA.heap.size tb WA (WA.setCell ⟨tb, 1, none⟩ (.int .i64 fn)) := (to_but (Below.refl _ _)).setB 1 _
    obtain ⟨WC, hWC⟩ : ∃ W, WA.setCell ⟨tb, 1, none⟩ (.int .i64 fn) = W := ⟨_, rfl⟩
    rw [hWC] at eT2 eF2 bB
    have yc1 : WC.cell? ⟨fb, 1, none⟩ = some (.int .i64 fn) := rd_cell eF2 rfl
    have yc2 : WC.cell? ⟨fb, 2, none⟩ = some (.slice la ln lc) := rd_cell eF2 rfl
    have gf := rd_free eF2 2
    have eF3 : (WC.setCell ⟨fb, 2, none⟩ (.slice none 0 0)).heap[fb]? = some (.cells #[.int .i64 fv, .int .i64 fn, .slice none 0 0] 72 (0, 0)) := by simpa using rd_set (i := 2) (.slice none 0 0) eF2
    have eT3 : (WC.setCell ⟨fb, 2, none⟩ (.slice none 0 0)).heap[tb]? = some (.cells #[.int .i64 TV, .int .i64 fn, .slice la ln lc] 72 (0, 0)) := (Below.heap_setCell _ _ _ _ hne).trans eT2
    have bC : But WC.heap.size fb WC (WC.setCell ⟨fb, 2, none⟩ (.slice none 0 0)) := (to_but (Below.refl _ _)).setB 2 _
    obtain ⟨WF, hWF⟩ : ∃ W, WC.setCell ⟨fb, 2, none⟩ (.slice none 0 0) = W := ⟨_, rfl⟩
    rw [hWF] at eT3 eF3 bC
    have HFIN : Hid ((∃ v, Ending.returned Value.nilIface = .returned v) ∧ Fr H w WF ∧ ∃ l' mx, HsAt WF hb mb l' mx (.slice a wn wc) ∧ BxOk WF H K l' ∧ l'.length ≤ 30 ∧ nx ≤ mx ∧ mx ≤ nx + 30) := by
      obtain ⟨_, _, _, _, _, k0, k1, k2⟩ := HH.out
      have hz2 := c5.size
      have hz3 := bE.size
      have hzA := bA.size
      have hzB := bB.size
      have ht2 : w.heap.size ≤ tb := htn
      have hft : H ≤ fb := hf1
      have L2 : Lts w2 (.slice la ln lc) fl := by rw [← hln]; exact ⟨la, lc, rfl, hl0, hl1⟩
      have LE := L2.below bE (Nat.le_refl _)
      have f1 : Fr H w w2 := Fr.hk HH.out.1 c5 k0 k1 k2
      have f2 : Fr H w2 WE := Fr.of bE (by omega)
      have f3 : Fr H WE WA := Fr.but (⟨_, eT, Lts.nil _⟩ : BoxAt WE tb TV 1 []) bA (by omega) (by omega)
      have LA := LE.tx f3.tx
      have f4 : Fr H WA WC := Fr.but (⟨_, eT1, LA⟩ : BoxAt WA tb TV 1 fl) bB (by omega) (by omega)
      have LC := LA.tx f4.tx
      have f5 : Fr H WC WF := Fr.but (⟨_, eF2, LC⟩ : BoxAt WC fb fv fn fl) bC (by omega) hft
      have LF := LC.tx f5.tx
      have nT := ne_of_kind hSE eT (by decide)
      have nF := ne_of_kind hSE eF (by decide)
      have blk : ∀ g, g < WE.heap.size → g ≠ tb → g ≠ fb → WF.heap[g]? = WE.heap[g]? := fun g hg h1 h2 => (bC.block g (by omega) h2).trans ((bB.block g (by omega) h1).trans (bA.block g hg h1))
      refine ⟨⟨_, rfl⟩, f1.trans (f2.trans (f3.trans (f4.trans f5))), putAll l ps, _, ⟨(blk hb hSE.lt nT.1.symm nF.1.symm).trans hSE.1, hSE.2.same (blk mb hSE.2.lt nT.2.symm nF.2.symm)⟩, fun p hp => ?_, ?_, ?_, ?_⟩
      · obtain ⟨q1, q2, v, m, ls, q3, q4⟩ := hO2 p hp
        by_cases hpt : p.2 = tb
        · exact ⟨q1, q2, TV, fn, fl, by rw [hpt]; exact ⟨_, eT3, LF⟩, hf3, hf4, hf5⟩
        · by_cases hpf : p.2 = fb
          · exact ⟨q1, q2, fv, fn, [], by rw [hpf]; exact ⟨_, eF3, Lts.nil _⟩, hf3, hf4, Nat.zero_le _⟩
          · have q3E := q3.below bE (Nat.le_refl _)
            exact ⟨q1, q2, v, m, ls, q3E.tx (blk p.2 q3E.lt hpt hpf) (f3.tx.trans (f4.tx.trans f5.tx)), q4⟩
      · have e5 : ps.length = (lackB l t.data.toList ++ [t.data.toList]).length := by rw [← c6.1, List.length_map]
        have := putAll_len l _ ps e5
        omega
      · omega
      · omega
    have u2 : WE.cell? ⟨tb, 2, none⟩ = some (.slice none 0 0) := rd_cell eT rfl
    have u1 : WA.cell? ⟨tb, 1, none⟩ = some (.int .i64 1) := rd_cell eT1 rfl
    clear bE bD hSD hSE eF eT dF eT1 eF1 bA eT2 eF2 bB eF3 eT3 bC hth hfh hln hTV hnb hl0 hl1 hfB2 hO2 hfB hf1 hf2 hf3 hf4 hf5 hfBlt htn hj htb hfb hfb0 hso c3 c5 c6 c7 cC hne c1
    go_upto_region 4 with fail
    refine wp_region_held_drew (S := fun W => W.cell? ⟨hb, 0, none⟩ = some (.map (some mb))) (by kernel_rfl) ?_ (fun hHeld => ?_)
    · simpa using c0
    rw [hWD] at hHeld ⊢
    refine wpAnyH_take (i := 0) (v := ?_) rfl (by kernel_rfl) (by kernel_rfl) (by kernel_rfl) (fun _ _ _ h => h) (Or.inl ⟨by rfl, ?_⟩) (by first | assumption | trivial) ?_
    rotate_left
    · intro w hSw; go_simp; (try with_reducible rfl)
    change wpAnyH _ _ _ _ _ _ _ (Act.put _ (some 14) _) _; simp only [Act.put, List.setIfInBounds_toArray, List.set_cons_zero, List.set_cons_succ]
    refine wpAnyH_take (i := 1) (v := ?_) rfl (by kernel_rfl) (by kernel_rfl) (by kernel_rfl) (fun _ _ _ h => h) (Or.inl ⟨by rfl, ?_⟩) (by first | assumption | trivial) ?_
    rotate_left
    · intro w hSw; go_simp; (try with_reducible rfl)
    change wpAnyH _ _ _ _ _ _ _ (Act.put _ (some 15) _) _; simp only [Act.put, List.setIfInBounds_toArray, List.set_cons_zero, List.set_cons_succ]
    refine wpAnyH_take (i := 2) (v := ?_) rfl (by kernel_rfl) (by kernel_rfl) (by kernel_rfl) (fun _ _ _ h => h) (Or.inl ⟨by rfl, ?_⟩) (by first | assumption | trivial) ?_
    rotate_left
    · intro w hSw; go_simp; (try with_reducible rfl)
    change wpAnyH _ _ _ _ _ _ _ (Act.put _ (some 16) _) _; simp only [Act.put, List.setIfInBounds_toArray, List.set_cons_zero, List.set_cons_succ]
    refine wpAnyH_take (i := 3) (v := ?_) rfl (by kernel_rfl) (by kernel_rfl) (by kernel_rfl) (fun _ _ _ h => h) (Or.inl ⟨by rfl, ?_⟩) (by first | assumption | trivial) ?_
    rotate_left
    · intro w hSw; go_simp; (try with_reducible rfl)
    change wpAnyH _ _ _ _ _ _ _ (Act.put _ (some 17) _) _; simp only [Act.put, List.setIfInBounds_toArray, List.set_cons_zero, List.set_cons_succ]
    refine wpAnyH_take (i := 5) (v := ?_) rfl (by kernel_rfl) (by kernel_rfl) (by kernel_rfl) (fun _ _ _ h => h) (Or.inl ⟨by rfl, ?_⟩) (by first | assumption | trivial) ?_
    rotate_left
    · intro w hSw; go_simp; (try with_reducible rfl)
    change wpAnyH _ _ _ _ _ _ _ (Act.put _ (some 19) _) _; simp only [Act.put, List.setIfInBounds_toArray, List.set_cons_zero, List.set_cons_succ]
    refine wpAnyH_take (i := 6) (v := ?_) rfl (by kernel_rfl) (by kernel_rfl) (by kernel_rfl) (fun _ _ _ h => h) (Or.inl ⟨by rfl, ?_⟩) (by first | assumption | trivial) ?_
    rotate_left
    · intro w hSw; go_simp; (try with_reducible rfl)
    change wpAnyH _ _ _ _ _ _ _ (Act.put _ (some 20) _) _; simp only [Act.put, List.setIfInBounds_toArray, List.set_cons_zero, List.set_cons_succ]
    refine wpAnyH_take (i := 7) (v := ?_) rfl (by kernel_rfl) (by kernel_rfl) (by kernel_rfl) (fun _ _ _ h => h) (Or.inl ⟨by rfl, ?_⟩) (by first | assumption | trivial) ?_
    rotate_left
    · intro w hSw; go_simp; (try with_reducible rfl)
    change wpAnyH _ _ _ _ _ _ _ (Act.put _ (some 21) _) _; simp only [Act.put, List.setIfInBounds_toArray, List.set_cons_zero, List.set_cons_succ]
    refine wpAnyH_take (i := 8) (v := ?_) rfl (by kernel_rfl) (by kernel_rfl) (by kernel_rfl) (fun _ _ _ h => h) (Or.inl ⟨by rfl, ?_⟩) (by first | assumption | trivial) ?_
    rotate_left
    · intro w hSw; go_simp; (try with_reducible rfl)
    change wpAnyH _ _ _ _ _ _ _ (Act.put _ (some 22) _) _; simp only [Act.put, List.setIfInBounds_toArray, List.set_cons_zero, List.set_cons_succ]
    refine wpAnyH_take (i := 9) (v := ?_) rfl (by kernel_rfl) (by kernel_rfl) (by kernel_rfl) (fun _ _ _ h => h) (Or.inl ⟨by rfl, ?_⟩) (by first | assumption | trivial) ?_
    rotate_left
    · intro w hSw; go_simp; (try with_reducible rfl)
    change wpAnyH _ _ _ _ _ _ _ (Act.put _ (some 23) _) _; simp only [Act.put, List.setIfInBounds_toArray, List.set_cons_zero, List.set_cons_succ]
    refine wpAnyH_ready (rs := [4, 10]) (by kernel_rfl) (by simp) ?_
    refine AllReadyH.cons rfl (fun K hK => ?_) ?_
    · go_simp
      refine hK.out _ _ ?_ (fun hHeld => ?_)
      · exact hHeld
      clear hK K
      refine wpAnyH_take (i := 11) (v := ?_) rfl (by kernel_rfl) (by kernel_rfl) (by kernel_rfl) (fun _ _ _ h => h) (Or.inl ⟨by rfl, ?_⟩) (by first | assumption | trivial) ?_
      rotate_left
      · intro w hSw; go_simp; (try with_reducible rfl)
      change wpAnyH _ _ _ _ _ _ _ (Act.put _ (some 6) _) _; simp only [Act.put, List.setIfInBounds_toArray, List.set_cons_zero, List.set_cons_succ]
      refine wpAnyH_ready (rs := [10]) (by kernel_rfl) (by simp) ?_
      refine AllReadyH.cons rfl (fun K hK => ?_) AllReadyH.nil
      go_simp
      refine hK.out _ _ ?_ (fun hHeld => ?_)
      · exact hHeld
      clear hK K
      refine wpAnyH_take (i := 12) (v := ?_) rfl (by kernel_rfl) (by kernel_rfl) (by kernel_rfl) (fun _ _ _ h => h) (Or.inl ⟨by rfl, ?_⟩) (by first | assumption | trivial) ?_
      rotate_left
      · intro w hSw; go_simp; (try with_reducible rfl)
      change wpAnyH _ _ _ _ _ _ _ (Act.put _ (some 7) _) _; simp only [Act.put, List.setIfInBounds_toArray, List.set_cons_zero, List.set_cons_succ]
      refine wpAnyH_done (by kernel_rfl) ?_ _
      clear hHeld
      go_upto_region 5 with fail
      refine wp_region_held_drew (S := fun W => W.cell? ⟨fb, 2, none⟩ = some (.slice la ln lc) ∧ W.cell? ⟨fb, 1, none⟩ = some (.int .i64 fn)) (by kernel_rfl) ?_ (fun hHeld => ?_)
      · exact ⟨by simpa using x2, by simpa using x1⟩
      rw [hWE] at hHeld ⊢
      refine wpAnyH_take (i := 0) (v := ?_) rfl (by kernel_rfl) (by kernel_rfl) (by kernel_rfl) (fun _ _ _ h => h) (Or.inl ⟨by rfl, ?_⟩) (by first | assumption | trivial) ?_
      rotate_left
      · intro w hSw; go_simp; (try with_reducible rfl)
      change wpAnyH _ _ _ _ _ _ _ (Act.put _ (some 25) _) _; simp only [Act.put, List.setIfInBounds_toArray, List.set_cons_zero, List.set_cons_succ]
      refine wpAnyH_take (i := 1) (v := ?_) rfl (by kernel_rfl) (by kernel_rfl) (by kernel_rfl) (fun _ _ _ h => h) (Or.inl ⟨by rfl, ?_⟩) (by first | assumption | trivial) ?_
      rotate_left
      · intro w hSw; go_simp; (try with_reducible rfl)
      change wpAnyH _ _ _ _ _ _ _ (Act.put _ (some 26) _) _; simp only [Act.put, List.setIfInBounds_toArray, List.set_cons_zero, List.set_cons_succ]
      refine wpAnyH_take (i := 2) (v := ?_) rfl (by kernel_rfl) (by kernel_rfl) (by kernel_rfl) (fun _ _ _ h => h) (Or.inl ⟨by rfl, ?_⟩) (by first | assumption | trivial) ?_
      rotate_left
      · intro w hSw; go_simp; (try with_reducible rfl)
      change wpAnyH _ _ _ _ _ _ _ (Act.put _ (some 27) _) _; simp only [Act.put, List.setIfInBounds_toArray, List.set_cons_zero, List.set_cons_succ]
      refine wpAnyH_take (i := 3) (v := ?_) rfl (by kernel_rfl) (by kernel_rfl) (by kernel_rfl) (fun _ _ _ h => h) (Or.inl ⟨by rfl, ?_⟩) (by first | assumption | trivial) ?_
      rotate_left
      · intro w hSw; go_simp; (try with_reducible rfl)
      change wpAnyH _ _ _ _ _ _ _ (Act.put _ (some 28) _) _; simp only [Act.put, List.setIfInBounds_toArray, List.set_cons_zero, List.set_cons_succ]
      refine wpAnyH_take (i := 4) (v := ?_) rfl (by kernel_rfl) (by kernel_rfl) (by kernel_rfl) (fun _ _ _ h => h) (Or.inl ⟨by rfl, ?_⟩) (by first | assumption | trivial) ?_
      rotate_left
      · intro w hSw; go_simp; (try with_reducible rfl)
      change wpAnyH _ _ _ _ _ _ _ (Act.put _ (some 29) _) _; simp only [Act.put, List.setIfInBounds_toArray, List.set_cons_zero, List.set_cons_succ]
      refine wpAnyH_take (i := 5) (v := ?_) rfl (by kernel_rfl) (by kernel_rfl) (by kernel_rfl) (fun _ _ _ h => h) (Or.inl ⟨by rfl, ?_⟩) (by first | assumption | trivial) ?_
      rotate_left
      · intro w hSw; go_simp; (try with_reducible rfl)
      change wpAnyH _ _ _ _ _ _ _ (Act.put _ (some 30) _) _; simp only [Act.put, List.setIfInBounds_toArray, List.set_cons_zero, List.set_cons_succ]
      refine wpAnyH_take (i := 6) (v := ?_) rfl (by kernel_rfl) (by kernel_rfl) (by kernel_rfl) (fun _ _ _ h => h) (Or.inl ⟨by rfl, ?_⟩) (by first | assumption | trivial) ?_
      rotate_left
      · intro w hSw; go_simp; (try with_reducible rfl)
      change wpAnyH _ _ _ _ _ _ _ (Act.put _ (some 31) _) _; simp only [Act.put, List.setIfInBounds_toArray, List.set_cons_zero, List.set_cons_succ]
      refine wpAnyH_take (i := 7) (v := ?_) rfl (by kernel_rfl) (by kernel_rfl) (by kernel_rfl) (fun _ _ _ h => h) (Or.inl ⟨by rfl, ?_⟩) (by first | assumption | trivial) ?_
      rotate_left
      · intro w hSw; go_simp; (try with_reducible rfl)
      change wpAnyH _ _ _ _ _ _ _ (Act.put _ (some 32) _) _; simp only [Act.put, List.setIfInBounds_toArray, List.set_cons_zero, List.set_cons_succ]
      refine wpAnyH_take (i := 8) (v := ?_) rfl (by kernel_rfl) (by kernel_rfl) (by kernel_rfl) (fun _ _ _ h => h) (Or.inl ⟨by rfl, ?_⟩) (by first | assumption | trivial) ?_
      rotate_left
      · intro w hSw; go_simp; (try with_reducible rfl)
      change wpAnyH _ _ _ _ _ _ _ (Act.put _ (some 33) _) _; simp only [Act.put, List.setIfInBounds_toArray, List.set_cons_zero, List.set_cons_succ]
      refine wpAnyH_take (i := 9) (v := ?_) rfl (by kernel_rfl) (by kernel_rfl) (by kernel_rfl) (fun _ _ _ h => h) (Or.inl ⟨by rfl, ?_⟩) (by first | assumption | trivial) ?_
      rotate_left
      · intro w hSw; go_simp; (try with_reducible rfl)
      change wpAnyH _ _ _ _ _ _ _ (Act.put _ (some 34) _) _; simp only [Act.put, List.setIfInBounds_toArray, List.set_cons_zero, List.set_cons_succ]
      refine wpAnyH_take (i := 10) (v := ?_) rfl (by kernel_rfl) (by kernel_rfl) (by kernel_rfl) (fun _ _ _ h => h) (Or.inl ⟨by rfl, ?_⟩) (by first | assumption | trivial) ?_
      rotate_left
      · intro w hSw; go_simp; (try with_reducible rfl)
      change wpAnyH _ _ _ _ _ _ _ (Act.put _ (some 35) _) _; simp only [Act.put, List.setIfInBounds_toArray, List.set_cons_zero, List.set_cons_succ]
      refine wpAnyH_take (i := 11) (v := ?_) rfl (by kernel_rfl) (by kernel_rfl) (by kernel_rfl) (fun _ _ _ h => h) (Or.inl ⟨by rfl, ?_⟩) (by first | assumption | trivial) ?_
      rotate_left
      · intro w hSw; go_simp; (try with_reducible rfl)
      change wpAnyH _ _ _ _ _ _ _ (Act.put _ (some 36) _) _; simp only [Act.put, List.setIfInBounds_toArray, List.set_cons_zero, List.set_cons_succ]
      refine wpAnyH_ready (rs := [12]) (by kernel_rfl) (by simp) ?_
      refine AllReadyH.cons rfl (fun K hK => ?_) AllReadyH.nil
      go_simp
      refine hK.out _ _ ?_ (fun hHeld => ?_)
      · exact ⟨ya2, ya1⟩
      clear hK K
      refine wpAnyH_take (i := 13) (v := ?_) rfl (by kernel_rfl) (by kernel_rfl) (by kernel_rfl) (fun _ _ _ h => h) (Or.inl ⟨by rfl, ?_⟩) (by first | assumption | trivial) ?_
      rotate_left
      · intro w hSw; go_simp; (try with_reducible rfl)
      change wpAnyH _ _ _ _ _ _ _ (Act.put _ (some 37) _) _; simp only [Act.put, List.setIfInBounds_toArray, List.set_cons_zero, List.set_cons_succ]
      refine wpAnyH_take (i := 14) (v := ?_) rfl (by kernel_rfl) (by kernel_rfl) (by kernel_rfl) (fun _ _ _ h => h) (Or.inl ⟨by rfl, ?_⟩) (by first | assumption | trivial) ?_
      rotate_left
      · intro w hSw; go_simp; (try with_reducible rfl)
      change wpAnyH _ _ _ _ _ _ _ (Act.put _ (some 38) _) _; simp only [Act.put, List.setIfInBounds_toArray, List.set_cons_zero, List.set_cons_succ]
      refine wpAnyH_ready (rs := [15]) (by kernel_rfl) (by simp) ?_
      refine AllReadyH.cons rfl (fun K hK => ?_) AllReadyH.nil
      go_simp
      refine hK.out _ _ ?_ (fun hHeld => ?_)
      · exact ⟨yc2, yc1⟩
      clear hK K
      refine wpAnyH_done (by kernel_rfl) ?_ _
      clear hHeld
      go_wp2_with fail
      go_ret
      exact HFIN.out
    refine AllReadyH.cons rfl (fun K hK => ?_) AllReadyH.nil
    go_simp
    refine hK.out _ _ ?_ (fun hHeld => ?_)
    · exact hHeld
    clear hK K
    refine wpAnyH_ready (rs := [4]) (by kernel_rfl) (by simp) ?_
    refine AllReadyH.cons rfl (fun K hK => ?_) AllReadyH.nil
    go_simp
    refine hK.out _ _ ?_ (fun hHeld => ?_)
    · exact hHeld
    clear hK K
    refine wpAnyH_take (i := 11) (v := ?_) rfl (by kernel_rfl) (by kernel_rfl) (by kernel_rfl) (fun _ _ _ h => h) (Or.inl ⟨by rfl, ?_⟩) (by first | assumption | trivial) ?_
    rotate_left
    · intro w hSw; go_simp; (try with_reducible rfl)
    change wpAnyH _ _ _ _ _ _ _ (Act.put _ (some 6) _) _; simp only [Act.put, List.setIfInBounds_toArray, List.set_cons_zero, List.set_cons_succ]
    refine wpAnyH_take (i := 12) (v := ?_) rfl (by kernel_rfl) (by kernel_rfl) (by kernel_rfl) (fun _ _ _ h => h) (Or.inl ⟨by rfl, ?_⟩) (by first | assumption | trivial) ?_
    rotate_left
    · intro w hSw; go_simp; (try with_reducible rfl)
    change wpAnyH _ _ _ _ _ _ _ (Act.put _ (some 7) _) _; simp only [Act.put, List.setIfInBounds_toArray, List.set_cons_zero, List.set_cons_succ]
    refine wpAnyH_done (by kernel_rfl) ?_ _
    clear hHeld
    go_upto_region 5 with fail
    refine wp_region_held_drew (S := fun W => W.cell? ⟨fb, 2, none⟩ = some (.slice la ln lc) ∧ W.cell? ⟨fb, 1, none⟩ = some (.int .i64 fn)) (by kernel_rfl) ?_ (fun hHeld => ?_)
    · exact ⟨by simpa using x2, by simpa using x1⟩
    rw [hWE] at hHeld ⊢
    refine wpAnyH_take (i := 0) (v := ?_) rfl (by kernel_rfl) (by kernel_rfl) (by kernel_rfl) (fun _ _ _ h => h) (Or.inl ⟨by rfl, ?_⟩) (by first | assumption | trivial) ?_
    rotate_left
    · intro w hSw; go_simp; (try with_reducible rfl)
    change wpAnyH _ _ _ _ _ _ _ (Act.put _ (some 25) _) _; simp only [Act.put, List.setIfInBounds_toArray, List.set_cons_zero, List.set_cons_succ]
    refine wpAnyH_take (i := 1) (v := ?_) rfl (by kernel_rfl) (by kernel_rfl) (by kernel_rfl) (fun _ _ _ h => h) (Or.inl ⟨by rfl, ?_⟩) (by first | assumption | trivial) ?_
    rotate_left
    · intro w hSw; go_simp; (try with_reducible rfl)
    change wpAnyH _ _ _ _ _ _ _ (Act.put _ (some 26) _) _; simp only [Act.put, List.setIfInBounds_toArray, List.set_cons_zero, List.set_cons_succ]
    refine wpAnyH_take (i := 2) (v := ?_) rfl (by kernel_rfl) (by kernel_rfl) (by kernel_rfl) (fun _ _ _ h => h) (Or.inl ⟨by rfl, ?_⟩) (by first | assumption | trivial) ?_
    rotate_left
    · intro w hSw; go_simp; (try with_reducible rfl)
    change wpAnyH _ _ _ _ _ _ _ (Act.put _ (some 27) _) _; simp only [Act.put, List.setIfInBounds_toArray, List.set_cons_zero, List.set_cons_succ]
    refine wpAnyH_take (i := 3) (v := ?_) rfl (by kernel_rfl) (by kernel_rfl) (by kernel_rfl) (fun _ _ _ h => h) (Or.inl ⟨by rfl, ?_⟩) (by first | assumption | trivial) ?_
    rotate_left
    · intro w hSw; go_simp; (try with_reducible rfl)
    change wpAnyH _ _ _ _ _ _ _ (Act.put _ (some 28) _) _; simp only [Act.put, List.setIfInBounds_toArray, List.set_cons_zero, List.set_cons_succ]
    refine wpAnyH_take (i := 4) (v := ?_) rfl (by kernel_rfl) (by kernel_rfl) (by kernel_rfl) (fun _ _ _ h => h) (Or.inl ⟨by rfl, ?_⟩) (by first | assumption | trivial) ?_
    rotate_left
    · intro w hSw; go_simp; (try with_reducible rfl)
    change wpAnyH _ _ _ _ _ _ _ (Act.put _ (some 29) _) _; simp only [Act.put, List.setIfInBounds_toArray, List.set_cons_zero, List.set_cons_succ]
    refine wpAnyH_take (i := 5) (v := ?_) rfl (by kernel_rfl) (by kernel_rfl) (by kernel_rfl) (fun _ _ _ h => h) (Or.inl ⟨by rfl, ?_⟩) (by first | assumption | trivial) ?_
    rotate_left
    · intro w hSw; go_simp; (try with_reducible rfl)
    change wpAnyH _ _ _ _ _ _ _ (Act.put _ (some 30) _) _; simp only [Act.put, List.setIfInBounds_toArray, List.set_cons_zero, List.set_cons_succ]
    refine wpAnyH_take (i := 6) (v := ?_) rfl (by kernel_rfl) (by kernel_rfl) (by kernel_rfl) (fun _ _ _ h => h) (Or.inl ⟨by rfl, ?_⟩) (by first | assumption | trivial) ?_
    rotate_left
    · intro w hSw; go_simp; (try with_reducible rfl)
    change wpAnyH _ _ _ _ _ _ _ (Act.put _ (some 31) _) _; simp only [Act.put, List.setIfInBounds_toArray, List.set_cons_zero, List.set_cons_succ]
    refine wpAnyH_take (i := 7) (v := ?_) rfl (by kernel_rfl) (by kernel_rfl) (by kernel_rfl) (fun _ _ _ h => h) (Or.inl ⟨by rfl, ?_⟩) (by first | assumption | trivial) ?_
    rotate_left
    · intro w hSw; go_simp; (try with_reducible rfl)
    change wpAnyH _ _ _ _ _ _ _ (Act.put _ (some 32) _) _; simp only [Act.put, List.setIfInBounds_toArray, List.set_cons_zero, List.set_cons_succ]
    refine wpAnyH_take (i := 8) (v := ?_) rfl (by kernel_rfl) (by kernel_rfl) (by kernel_rfl) (fun _ _ _ h => h) (Or.inl ⟨by rfl, ?_⟩) (by first | assumption | trivial) ?_
    rotate_left
    · intro w hSw; go_simp; (try with_reducible rfl)
    change wpAnyH _ _ _ _ _ _ _ (Act.put _ (some 33) _) _; simp only [Act.put, List.setIfInBounds_toArray, List.set_cons_zero, List.set_cons_succ]
    refine wpAnyH_take (i := 9) (v := ?_) rfl (by kernel_rfl) (by kernel_rfl) (by kernel_rfl) (fun _ _ _ h => h) (Or.inl ⟨by rfl, ?_⟩) (by first | assumption | trivial) ?_
    rotate_left
    · intro w hSw; go_simp; (try with_reducible rfl)
    change wpAnyH _ _ _ _ _ _ _ (Act.put _ (some 34) _) _; simp only [Act.put, List.setIfInBounds_toArray, List.set_cons_zero, List.set_cons_succ]
    refine wpAnyH_take (i := 10) (v := ?_) rfl (by kernel_rfl) (by kernel_rfl) (by kernel_rfl) (fun _ _ _ h => h) (Or.inl ⟨by rfl, ?_⟩) (by first | assumption | trivial) ?_
    rotate_left
    · intro w hSw; go_simp; (try with_reducible rfl)
    change wpAnyH _ _ _ _ _ _ _ (Act.put _ (some 35) _) _; simp only [Act.put, List.setIfInBounds_toArray, List.set_cons_zero, List.set_cons_succ]
    refine wpAnyH_take (i := 11) (v := ?_) rfl (by kernel_rfl) (by kernel_rfl) (by kernel_rfl) (fun _ _ _ h => h) (Or.inl ⟨by rfl, ?_⟩) (by first | assumption | trivial) ?_
    rotate_left
    · intro w hSw; go_simp; (try with_reducible rfl)
    change wpAnyH _ _ _ _ _ _ _ (Act.put _ (some 36) _) _; simp only [Act.put, List.setIfInBounds_toArray, List.set_cons_zero, List.set_cons_succ]
    refine wpAnyH_ready (rs := [12]) (by kernel_rfl) (by simp) ?_
    refine AllReadyH.cons rfl (fun K hK => ?_) AllReadyH.nil
    go_simp
    refine hK.out _ _ ?_ (fun hHeld => ?_)
    · exact ⟨ya2, ya1⟩
    clear hK K
    refine wpAnyH_take (i := 13) (v := ?_) rfl (by kernel_rfl) (by kernel_rfl) (by kernel_rfl) (fun _ _ _ h => h) (Or.inl ⟨by rfl, ?_⟩) (by first | assumption | trivial) ?_
    rotate_left
    · intro w hSw; go_simp; (try with_reducible rfl)
    change wpAnyH _ _ _ _ _ _ _ (Act.put _ (some 37) _) _; simp only [Act.put, List.setIfInBounds_toArray, List.set_cons_zero, List.set_cons_succ]
    refine wpAnyH_take (i := 14) (v := ?_) rfl (by kernel_rfl) (by kernel_rfl) (by kernel_rfl) (fun _ _ _ h => h) (Or.inl ⟨by rfl, ?_⟩) (by first | assumption | trivial) ?_
    rotate_left
    · intro w hSw; go_simp; (try with_reducible rfl)
    change wpAnyH _ _ _ _ _ _ _ (Act.put _ (some 38) _) _; simp only [Act.put, List.setIfInBounds_toArray, List.set_cons_zero, List.set_cons_succ]
    refine wpAnyH_ready (rs := [15]) (by kernel_rfl) (by simp) ?_
    refine AllReadyH.cons rfl (fun K hK => ?_) AllReadyH.nil
    go_simp
    refine hK.out _ _ ?_ (fun hHeld => ?_)
    · exact ⟨yc2, yc1⟩
    clear hK K
    refine wpAnyH_done (by kernel_rfl) ?_ _
    clear hHeld
    go_wp2_with fail
    go_ret
    exact HFIN.out
end Go.Proofs.YtfdlopimncodcaaGreatDoor
