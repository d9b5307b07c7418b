/-
  A box that shares no list with the one that it was.
-/
import Derived.Test.YtdmplfflmdanlaaGreatDoorBpHwSet
namespace Go.Proofs.YtdmplfflmdanlaaGreatDoor
open Go.RowKit Go.Proofs.Aid Go.Proofs.Bx

theorem sl_of_nrow {w : World} {base : Nat} {v : Value} {l : List Nm} (h : NRow w base v l) : Sl w v l := by
  rcases h.2 with ⟨h1, h2⟩ | ⟨g, cap, cur, hv, _, hh, hc, _⟩
  · exact ⟨none, 0, by rw [h1, h2], ⟨fun _ => rfl, by omega⟩, Or.inl (List.eq_nil_of_length_eq_zero h2)⟩
  · refine ⟨_, cap, hv, ⟨fun e => (by cases e), hc⟩, ?_⟩
    by_cases hl : l = []
    · exact Or.inl hl
    · refine Or.inr ⟨g, 0, rfl, fun j t hj => ?_⟩
      obtain ⟨g', cap', e1, e2⟩ := nrow_at h hj
      rw [hv] at e1
      injection e1 with e1 _ _
      injection e1 with e1
      injection e1 with e1 _ _
      subst e1
      rw [Nat.zero_add]
      exact e2
theorem hclone_sl (fv : Value) (F : List Nm) (w : World) (h : Sl w fv F) (hF : F.length ≤ 1000) :
    Calls Tryz.prog 71 #[fv] w fun e w' => (∃ v', e = .returned v' ∧ Sl w' v' F) ∧ Below w.heap.size w w' := by
  obtain ⟨a, c, rfl, ⟨h0, hc⟩, h2⟩ := h
  cases a with
  | none =>
    have hn : F = [] := by
      rcases h2 with h2 | ⟨b, o, h2, _⟩
      · exact h2
      · cases h2
    subst hn
    refine (Tryz.slices_Clone_string_nil _ c w).mono ?_
    rintro e w' ⟨rfl, rfl⟩
    exact ⟨⟨_, rfl, ⟨none, 0, rfl, ⟨fun _ => rfl, Nat.le_refl _⟩, Or.inl rfl⟩⟩, Below.refl _ _⟩
  | some a =>
    by_cases hn : F = []
    · subst hn
      refine (Tryz.slices_Clone_string_zero a c w).mono ?_
      rintro e w' ⟨v, rfl, q1, _, q3⟩
      exact ⟨⟨_, rfl, sl_of_nrow (l := []) q1⟩, q3⟩
    · obtain ⟨b, o, e1, hat⟩ : ∃ b o, (some a : Option Addr) = some ⟨b, o, none⟩ ∧ ∀ (j : Nat) t, F[j]? = some t → w.cell? ⟨b, o + j, none⟩ = some (encStr t) := by
        rcases h2 with h2 | h2
        · exact absurd h2 hn
        · exact h2
      rw [e1]
      refine (Tryz.slices_Clone_string b o F.length c (F.map fun t => (⟨t.toArray⟩ : ByteArray)) w (by rw [List.length_map]; exact Nat.le_refl _) (by omega) (fun j hj => by
        rw [List.length_map] at hj
        rw [hat j _ (List.getElem?_eq_getElem hj), List.getD_eq_getElem?_getD, List.getElem?_map, List.getElem?_eq_getElem hj]
        rfl)).mono ?_
      rintro e w' ⟨v, rfl, q1, _, q3⟩
      rw [List.take_of_length_le (by rw [List.length_map]; exact Nat.le_refl _), List.map_map] at q1
      exact ⟨⟨_, rfl, sl_of_nrow q1⟩, q3⟩
theorem lts_of_own {w : World} {base : Nat} {v : Value} {l : List Lt} (h : LOwn w w base v l) : Lts w v l := by
  obtain ⟨rows, h1, h2, h3, h4⟩ := id h
  rcases h1.2 with ⟨e1, e2⟩ | ⟨g, cap, cur, hv, _, hh, hc, hm, _⟩
  · exact ⟨none, 0, by rw [e1, e2], ⟨fun _ => rfl, by omega, by decide⟩, Or.inl (List.eq_nil_of_length_eq_zero e2)⟩
  · refine ⟨_, cap, hv, ⟨fun e => (by cases e), hc, by unfold maxLen at hm; omega⟩, ?_⟩
    by_cases hl : l = []
    · exact Or.inl hl
    · refine Or.inr ⟨g, 0, rfl, fun j x hj => ?_⟩
      obtain ⟨g', cap', fv, e1, _, _, q1, q2, q3, q4, q5⟩ := hown_at h hj
      rw [hv] at e1
      injection e1 with e1 _ _
      injection e1 with e1
      injection e1 with e1 _ _
      subst e1
      rw [Nat.zero_add]
      exact ⟨q1, ⟨fv, q2, q5⟩, q3, q4⟩
/-- What stands while a box is copied. -/
structure CpI (w : World) (v n : Int) (g N cap : Nat) (ls : List Lt) (wr : World) : Prop where
  box : wr.heap[w.heap.size]? = some (.cells #[.int .i64 v, .int .i64 n, .slice (some ⟨g, 0, none⟩) N cap] 66 (0, 0))
  res : wr.heap[w.heap.size + 1]? = some (.cells #[.int .i64 0, .int .i64 0, .slice none 0 0] 66 (0, 0))
  own : LOwn wr wr (w.heap.size + 2) (.slice (some ⟨g, 0, none⟩) N cap) ls
  low : Below w.heap.size w wr
theorem three_facts {W : World} {R : Nat} {a0 a1 a2 : Value} {t : TypeId} (hh : W.heap[R]? = some (.cells #[a0, a1, a2] t (0, 0))) (x0 x1 x2 : Value) :
    (W.cell? ⟨R, 0, none⟩ = some a0 ∧ W.cell? ⟨R, 1, none⟩ = some a1 ∧ W.cell? ⟨R, 2, none⟩ = some a2) ∧ (W.frozen? ⟨R, 0, none⟩ = false ∧ W.frozen? ⟨R, 1, none⟩ = false ∧ W.frozen? ⟨R, 2, none⟩ = false) ∧
    (((W.setCell ⟨R, 0, none⟩ x0).setCell ⟨R, 1, none⟩ x1).setCell ⟨R, 2, none⟩ x2).heap[R]? = some (.cells #[x0, x1, x2] t (0, 0)) := by
  have h0 := rd_set (i := 0) x0 hh
  have h1 := rd_set (i := 1) x1 h0
  have h2 := rd_set (i := 2) x2 h1
  exact ⟨⟨rd_cell hh rfl, rd_cell hh rfl, rd_cell hh rfl⟩, ⟨rd_free hh 0, rd_free hh 1, rd_free hh 2⟩, by simpa using h2⟩
set_option maxHeartbeats 8000000 in
set_option maxRecDepth 100000 in
theorem copied_some (v n : Int) (lv : Value) (ls : List Lt) (w : World) (h : Lts w lv ls) (hl : ls.length ≤ 1000) (hne : ls ≠ []) (hf : ∀ x ∈ ls, x.flags.length ≤ 1000) :
    Calls Tryz.prog 72 #[.agg #[.int .i64 v, .int .i64 n, lv]] w fun e w' => (∃ lv', e = .returned (.agg #[.int .i64 v, .int .i64 n, lv']) ∧ Lts w' lv' ls) ∧ Below w.heap.size w w' := by
  obtain ⟨W2, hW2, HB2⟩ : ∃ W2, (w.alloc (.cells #[.int .i64 v, .int .i64 n, lv] 66)).alloc (.cells #[.int .i64 0, .int .i64 0, .slice none 0 0] 66) = W2 ∧ Hid (Below w.heap.size w W2 ∧ W2.heap.size = w.heap.size + 2 ∧ W2.heap[w.heap.size]? = some (.cells #[.int .i64 v, .int .i64 n, lv] 66 (0, 0)) ∧ W2.heap[w.heap.size + 1]? = some (.cells #[.int .i64 0, .int .i64 0, .slice none 0 0] 66 (0, 0))) := by
    refine ⟨_, rfl, ((Below.refl _ _).alloc (Nat.le_refl _) _).alloc (by simp) _, by simp, ?_, ?_⟩
    · exact (Below.heap_alloc _ _ _ (by simp)).trans (heap_alloc_new _ _)
    · have := heap_alloc_new (w.alloc (.cells #[.int .i64 v, .int .i64 n, lv] 66)) (.cells #[.int .i64 0, .int .i64 0, .slice none 0 0] 66)
      rw [World.size_alloc] at this
      exact this
  have c2 : W2.cell? ⟨w.heap.size, 2, none⟩ = some lv := rd_cell HB2.out.2.2.1 rfl
  have cC := clone_lts lv ls W2 (h.below HB2.out.1 (Nat.le_refl _)) hl
  obtain ⟨la, lc, rfl, _⟩ := id h
  obtain ⟨N, hN⟩ : ∃ m, ls.length = m := ⟨_, rfl⟩
  have HN : Hid (ls.length = N ∧ ls ≠ [] ∧ ∀ x ∈ ls, x.flags.length ≤ 1000) := ⟨hN, hne, hf⟩
  rw [hN] at hW2 c2 cC hl HB2 ⊢
  clear h hne hf hN
  go_enter Tryz.func72, Tryz.ntmps72
  go_wp2_with fail
  refine cC.mono ?_
  rintro e w3 ⟨⟨v3, rfl, _, hown⟩, hb3⟩
  have hO := hown HN.out.2.1
  obtain ⟨g, cap, rfl⟩ : ∃ g cap, v3 = .slice (some ⟨g, 0, none⟩) N cap := by
    obtain ⟨x, hx⟩ : ∃ x, ls[0]? = some x := ⟨_, List.getElem?_eq_getElem (List.length_pos_iff.2 HN.out.2.1)⟩
    obtain ⟨g, cap, _, e1, _⟩ := hown_at hO hx
    rw [HN.out.1] at e1
    exact ⟨g, cap, e1⟩
  have hz2 := HB2.out.2.1
  have hz3 := hb3.size
  have e3 := (hb3.block w.heap.size (by omega)).trans HB2.out.2.2.1
  have r3 := (hb3.block (w.heap.size + 1) (by omega)).trans HB2.out.2.2.2
  have gg := hO.hblk (q := g) rfl
  have old3 : w3.cell? ⟨w.heap.size, 2, none⟩ = some (.slice la N lc) := rd_cell e3 rfl
  have fr3 := rd_free e3 2
  have HI4 : Hid (CpI w v n g N cap ls (w3.setCell ⟨w.heap.size, 2, none⟩ (.slice (some ⟨g, 0, none⟩) N cap))) := by
    refine ⟨by simpa using rd_set (i := 2) (.slice (some ⟨g, 0, none⟩) N cap) e3, (Below.heap_setCell _ _ _ _ (by show w.heap.size + 1 ≠ w.heap.size; omega)).trans r3, ?_, ?_⟩
    · have h5 : LOwn W2 (w3.setCell ⟨w.heap.size, 2, none⟩ (.slice (some ⟨g, 0, none⟩) N cap)) W2.heap.size (.slice (some ⟨g, 0, none⟩) N cap) ls := hO.hsame fun q hq _ _ => Below.heap_setCell _ _ _ _ (by show q ≠ w.heap.size; omega)
      have h6 := h5.hnow fun fv F hs => (hs.below hb3 (Nat.le_refl _)).hstrs (hset_strs old3)
      rw [hz2] at h6
      exact h6
    · have h6 : Below w.heap.size w w3 := HB2.out.1.trans (hb3.mono (by omega))
      exact ⟨h6.os, h6.tape, h6.output, by simpa using h6.size, fun k hk => (Below.heap_setCell _ _ _ _ (by show k ≠ w.heap.size; omega)).trans (h6.block k hk)⟩
  have c4 : (w3.setCell ⟨w.heap.size, 2, none⟩ (.slice (some ⟨g, 0, none⟩) N cap)).cell? ⟨w.heap.size, 2, none⟩ = some (.slice (some ⟨g, 0, none⟩) N cap) := rd_cell HI4.out.box rfl
  clear cC hown hO hb3 e3 r3 gg c2 hz3
  go_wp2_with fail
  go_loopw [11] (fun iv wr => ∃ k : Nat, iv = .int .i64 (k : Int) ∧ k ≤ N ∧ Hid (CpI w v n g N cap ls wr)) (fun iv _ => N - (intOf iv).toNat)
  case atStart => exact ⟨0, rfl, Nat.zero_le _, HI4⟩
  case round =>
    clear HI4 c4 old3 fr3
    obtain ⟨k, rfl, hk, HI⟩ := hrel
    by_cases hlt : k < N
    · have q1 : decide ((k : Int) < (N : Int)) = true := decide_eq_true (by omega)
      have i1 : (0 : Int) ≤ (k : Int) := by omega
      have i2 : (k : Int) < (N : Int) := by omega
      obtain ⟨x, hxk⟩ : ∃ x, ls[k]? = some x := ⟨_, List.getElem?_eq_getElem (by have := HN.out.1; omega)⟩
      obtain ⟨g', cap', fv, e1, hgb, hgl, p0, p1, p2, p3, hsl⟩ := hown_at HI.out.own hxk
      rw [HN.out.1] at e1
      injection e1 with e1 ex1 ex2
      injection e1 with e1
      injection e1 with e1 ex3 ex4
      subst e1
      clear ex1 ex2 ex3 ex4
      obtain ⟨WD, hWD⟩ : ∃ W, wr.drew = W := ⟨_, rfl⟩
      have bD : Below wr.heap.size wr WD := by rw [← hWD]; exact (Below.refl _ _).drew
      have c2 : wr.cell? ⟨w.heap.size, 2, none⟩ = some (.slice (some ⟨g, 0, none⟩) N cap) := rd_cell HI.out.box rfl
      have p1D : WD.cell? ⟨g, k * 4 + 1, none⟩ = some fv := (bD.cell (p := ⟨g, k * 4 + 1, none⟩) hgl).trans p1
      have HCL : Hid (∀ W, Below wr.heap.size wr W → Calls Tryz.prog 71 #[fv] W fun e w' => (∃ v', e = .returned v' ∧ Sl w' v' x.flags) ∧ Below W.heap.size W w') := fun W hW => hclone_sl fv x.flags W (hsl.below hW (Nat.le_refl _)) (HN.out.2.2 x (List.mem_of_getElem? hxk))
      have HST : Hid (∀ w7 v7, Below WD.heap.size WD w7 → Sl w7 v7 x.flags → w7.cell? ⟨w.heap.size, 2, none⟩ = some (.slice (some ⟨g, 0, none⟩) N cap) ∧ (∃ a n c, w7.cell? ⟨g, k * 4 + 1, none⟩ = some (.slice a n c)) ∧ w7.frozen? ⟨g, k * 4 + 1, none⟩ = false ∧ Hid ((w7.setCell ⟨g, k * 4 + 1, none⟩ v7).cell? ⟨w.heap.size, 2, none⟩ = some (.slice (some ⟨g, 0, none⟩) N cap) ∧ CpI w v n g N cap ls (w7.setCell ⟨g, k * 4 + 1, none⟩ v7))) := fun w7 v7 hb7 hs7 => by
        have hB : Below wr.heap.size wr w7 := bD.trans (hb7.mono bD.size)
        have hbx := (hB.block _ (Array.getElem?_eq_some_iff.1 HI.out.box).1).trans HI.out.box
        have hrs := (hB.block _ (Array.getElem?_eq_some_iff.1 HI.out.res).1).trans HI.out.res
        have ho := (HI.out.own.hsame (w' := w7) fun q _ hq _ => hB.block q hq).hnow fun fv F hs => hs.below hB (Nat.le_refl _)
        obtain ⟨hs1, ⟨a5, n5, c5, hs2⟩, hs3⟩ := hown_set (g := g) (cap := cap) ho (by rw [HN.out.1]) hxk (fv := v7) (F := x.flags) hs7
        have hls : ls.set k ⟨x.uid, x.flags, x.day, x.text⟩ = ls := by
          apply List.ext_getElem?
          intro j
          rw [List.getElem?_set]
          by_cases hj : k = j
          · subst hj
            rw [if_pos rfl, if_pos (List.getElem?_eq_some_iff.1 hxk).1, hxk]
          · rw [if_neg hj]
        rw [hls] at hs1
        have hlow : Below w.heap.size w w7 := HI.out.low.trans (hB.mono HI.out.low.size)
        have hbx2 := (Below.heap_setCell w7 ⟨g, k * 4 + 1, none⟩ v7 w.heap.size (by show w.heap.size ≠ g; omega)).trans hbx
        refine ⟨rd_cell hbx rfl, ⟨a5, n5, c5, hs2⟩, hs3, rd_cell hbx2 rfl, hbx2, (Below.heap_setCell _ _ _ _ (by show w.heap.size + 1 ≠ g; omega)).trans hrs, hs1.hnow fun fv F hs => hs.hstrs (hset_strs hs2), ⟨hlow.os, hlow.tape, hlow.output, by simpa using hlow.size, fun j hj => (Below.heap_setCell _ _ _ _ (by show j ≠ g; omega)).trans (hlow.block j hj)⟩⟩
      obtain ⟨fa, fc, rfl, _⟩ := id hsl
      clear HI hxk hgb hgl p0 p1 p2 p3 hsl
      go_upto_region 5 with fail
      refine wp_region_held_drew (S := fun W => W.cell? ⟨w.heap.size, 2, none⟩ = some (.slice (some ⟨g, 0, none⟩) N cap)) (by kernel_rfl) ?_ (fun hHeld => ?_)
      · simpa using c2
      rw [hWD] at hHeld ⊢
      refine wpAnyH_take (i := 0) (v := ?_) rfl (by kernel_rfl) (by kernel_rfl) (by kernel_rfl) (fun _ _ _ h => h) (Or.inl ⟨by rfl, ?_⟩) (by first | assumption | trivial) ?_
      rotate_left
      · intro w hSw; go_simp; (try with_reducible rfl)
      change wpAnyH _ _ _ _ _ _ _ (Act.put _ (some 14) _) _; simp only [Act.put, List.setIfInBounds_toArray, List.set_cons_zero, List.set_cons_succ]
      refine wpAnyH_take (i := 1) (v := ?_) rfl (by kernel_rfl) (by kernel_rfl) (by kernel_rfl) (fun _ _ _ h => h) (Or.inl ⟨by rfl, ?_⟩) (by first | assumption | trivial) ?_
      rotate_left
      · intro w hSw; go_simp; (try with_reducible rfl)
      change wpAnyH _ _ _ _ _ _ _ (Act.put _ (some 15) _) _; simp only [Act.put, List.setIfInBounds_toArray, List.set_cons_zero, List.set_cons_succ]
      refine wpAnyH_take (i := 2) (v := ?_) rfl (by kernel_rfl) (by kernel_rfl) (by kernel_rfl) (fun _ _ _ h => h) (Or.inl ⟨by rfl, ?_⟩) (by first | assumption | trivial) ?_
      rotate_left
      · intro w hSw; go_simp; (try with_reducible rfl)
      change wpAnyH _ _ _ _ _ _ _ (Act.put _ (some 16) _) _; simp only [Act.put, List.setIfInBounds_toArray, List.set_cons_zero, List.set_cons_succ]
      refine wpAnyH_take (i := 3) (v := ?_) rfl (by kernel_rfl) (by kernel_rfl) (by kernel_rfl) (fun _ _ _ h => h) (Or.inl ⟨by rfl, ?_⟩) (by first | assumption | trivial) ?_
      rotate_left
      · intro w hSw; go_simp; (try with_reducible rfl)
      change wpAnyH _ _ _ _ _ _ _ (Act.put _ (some 17) _) _; simp only [Act.put, List.setIfInBounds_toArray, List.set_cons_zero, List.set_cons_succ]
      refine wpAnyH_take (i := 4) (v := ?_) rfl (by kernel_rfl) (by kernel_rfl) (by kernel_rfl) (fun _ _ _ h => h) (Or.inl ⟨by rfl, ?_⟩) (by first | assumption | trivial) ?_
      rotate_left
      · intro w hSw; go_simp; (try with_reducible rfl)
      change wpAnyH _ _ _ _ _ _ _ (Act.put _ (some 18) _) _; simp only [Act.put, List.setIfInBounds_toArray, List.set_cons_zero, List.set_cons_succ]
      refine wpAnyH_take (i := 5) (v := ?_) rfl (by kernel_rfl) (by kernel_rfl) (by kernel_rfl) (fun _ _ _ h => h) (Or.inl ⟨by rfl, ?_⟩) (by first | assumption | trivial) ?_
      rotate_left
      · intro w hSw; go_simp; (try with_reducible rfl)
      change wpAnyH _ _ _ _ _ _ _ (Act.put _ (some 19) _) _; simp only [Act.put, List.setIfInBounds_toArray, List.set_cons_zero, List.set_cons_succ]
      refine wpAnyH_take (i := 6) (v := ?_) rfl (by kernel_rfl) (by kernel_rfl) (by kernel_rfl) (fun _ _ _ h => h) (Or.inl ⟨by rfl, ?_⟩) (by first | assumption | trivial) ?_
      rotate_left
      · intro w hSw; go_simp; (try with_reducible rfl)
      change wpAnyH _ _ _ _ _ _ _ (Act.put _ (some 20) _) _; simp only [Act.put, List.setIfInBounds_toArray, List.set_cons_zero, List.set_cons_succ]
      refine wpAnyH_take (i := 7) (v := ?_) rfl (by kernel_rfl) (by kernel_rfl) (by kernel_rfl) (fun _ _ _ h => h) (Or.inl ⟨by rfl, ?_⟩) (by first | assumption | trivial) ?_
      rotate_left
      · intro w hSw; go_simp; (try with_reducible rfl)
      change wpAnyH _ _ _ _ _ _ _ (Act.put _ (some 21) _) _; simp only [Act.put, List.setIfInBounds_toArray, List.set_cons_zero, List.set_cons_succ]
      refine wpAnyH_ready (rs := [8]) (by kernel_rfl) (by simp) ?_
      refine AllReadyH.cons rfl (fun K hK => ?_) AllReadyH.nil
      go_simp
      refine hK.out _ _ ?_ (fun hHeld => ?_)
      · exact hHeld
      clear hK K
      refine wpAnyH_ready (rs := [9]) (by kernel_rfl) (by simp) ?_
      refine AllReadyH.cons rfl (fun K hK => ?_) AllReadyH.nil
      go_simp
      refine (HCL.out WD bD).mono ?_
      rintro e w7 ⟨⟨v7, rfl, hs7⟩, hb7⟩
      obtain ⟨xa, xc, rfl, hx1⟩ := id hs7
      obtain ⟨k7, hst1, hst2, HN7⟩ := HST.out w7 (.slice xa x.flags.length xc) hb7 hs7
      obtain ⟨XL, hXL⟩ : ∃ m, x.flags.length = m := ⟨_, rfl⟩
      rw [hXL] at HN7 ⊢
      obtain ⟨oa, on, oc, hst1⟩ := hst1
      clear hs7 hb7 hx1 HCL HST hXL
      refine hK.out _ _ ?_ (fun hHeld => ?_)
      · exact k7
      clear hK K
      refine wpAnyH_take (i := 10) (v := ?_) rfl (by kernel_rfl) (by kernel_rfl) (by kernel_rfl) (fun _ _ _ h => h) (Or.inl ⟨by rfl, ?_⟩) (by first | assumption | trivial) ?_
      rotate_left
      · intro w hSw; go_simp; (try with_reducible rfl)
      change wpAnyH _ _ _ _ _ _ _ (Act.put _ (some 24) _) _; simp only [Act.put, List.setIfInBounds_toArray, List.set_cons_zero, List.set_cons_succ]
      refine wpAnyH_take (i := 11) (v := ?_) rfl (by kernel_rfl) (by kernel_rfl) (by kernel_rfl) (fun _ _ _ h => h) (Or.inl ⟨by rfl, ?_⟩) (by first | assumption | trivial) ?_
      rotate_left
      · intro w hSw; go_simp; (try with_reducible rfl)
      change wpAnyH _ _ _ _ _ _ _ (Act.put _ (some 25) _) _; simp only [Act.put, List.setIfInBounds_toArray, List.set_cons_zero, List.set_cons_succ]
      refine wpAnyH_ready (rs := [12]) (by kernel_rfl) (by simp) ?_
      refine AllReadyH.cons rfl (fun K hK => ?_) AllReadyH.nil
      go_simp
      refine hK.out _ _ ?_ (fun hHeld => ?_)
      · exact HN7.out.1
      clear hK K
      refine wpAnyH_done (by kernel_rfl) ?_ _
      clear hHeld
      go_wp2_with fail
      go_roundw
      case rel => exact ⟨k + 1, by go_num, by omega, HN7.out.2⟩
      case measure => simp [intOf]; omega
    · have q1 : decide ((k : Int) < (N : Int)) = false := decide_eq_false (by omega)
      obtain ⟨⟨b0, b1, b2⟩, _, _⟩ := three_facts HI.out.box (.int .i64 v) (.int .i64 n) (.slice (some ⟨g, 0, none⟩) N cap)
      obtain ⟨⟨s0, s1, s2⟩, ⟨f0, f1, f2⟩, u⟩ := three_facts HI.out.res (.int .i64 v) (.int .i64 n) (.slice (some ⟨g, 0, none⟩) N cap)
      have u0 : (((wr.setCell ⟨w.heap.size + 1, 0, none⟩ (.int .i64 v)).setCell ⟨w.heap.size + 1, 1, none⟩ (.int .i64 n)).setCell ⟨w.heap.size + 1, 2, none⟩ (.slice (some ⟨g, 0, none⟩) N cap)).cell? ⟨w.heap.size + 1, 0, none⟩ = some (.int .i64 v) := rd_cell u rfl
      have u1 : (((wr.setCell ⟨w.heap.size + 1, 0, none⟩ (.int .i64 v)).setCell ⟨w.heap.size + 1, 1, none⟩ (.int .i64 n)).setCell ⟨w.heap.size + 1, 2, none⟩ (.slice (some ⟨g, 0, none⟩) N cap)).cell? ⟨w.heap.size + 1, 1, none⟩ = some (.int .i64 n) := rd_cell u rfl
      have u2 : (((wr.setCell ⟨w.heap.size + 1, 0, none⟩ (.int .i64 v)).setCell ⟨w.heap.size + 1, 1, none⟩ (.int .i64 n)).setCell ⟨w.heap.size + 1, 2, none⟩ (.slice (some ⟨g, 0, none⟩) N cap)).cell? ⟨w.heap.size + 1, 2, none⟩ = some (.slice (some ⟨g, 0, none⟩) N cap) := rd_cell u rfl
      have HF : Hid (Lts (((wr.setCell ⟨w.heap.size + 1, 0, none⟩ (.int .i64 v)).setCell ⟨w.heap.size + 1, 1, none⟩ (.int .i64 n)).setCell ⟨w.heap.size + 1, 2, none⟩ (.slice (some ⟨g, 0, none⟩) N cap)) (.slice (some ⟨g, 0, none⟩) N cap) ls ∧ Below w.heap.size w (((wr.setCell ⟨w.heap.size + 1, 0, none⟩ (.int .i64 v)).setCell ⟨w.heap.size + 1, 1, none⟩ (.int .i64 n)).setCell ⟨w.heap.size + 1, 2, none⟩ (.slice (some ⟨g, 0, none⟩) N cap))) := by
        have hbut : But wr.heap.size (w.heap.size + 1) wr (((wr.setCell ⟨w.heap.size + 1, 0, none⟩ (.int .i64 v)).setCell ⟨w.heap.size + 1, 1, none⟩ (.int .i64 n)).setCell ⟨w.heap.size + 1, 2, none⟩ (.slice (some ⟨g, 0, none⟩) N cap)) := (((to_but (Below.refl _ _)).setB 0 _).setB 1 _).setB 2 _
        exact ⟨(lts_of_own HI.out.own).tx (TxKeep.but (⟨_, HI.out.res, Lts.nil _⟩ : BoxAt wr (w.heap.size + 1) 0 0 []) hbut), HI.out.low.trans (hbut.below HI.out.low.size (by omega))⟩
      clear HI u
      go_wp2_with fail
      exact bodyPost_ret (v := .agg #[.int .i64 v, .int .i64 n, .slice (some ⟨g, 0, none⟩) N cap]) (by simp [results, Tryz.results72, go_sem, u0, u1, u2]) rfl ⟨⟨_, rfl, HF.out.1⟩, HF.out.2⟩
set_option maxHeartbeats 8000000 in
set_option maxRecDepth 100000 in
theorem copied_none (v n : Int) (lv : Value) (w : World) (h : Lts w lv []) :
    Calls Tryz.prog 72 #[.agg #[.int .i64 v, .int .i64 n, lv]] w fun e w' => (∃ lv', e = .returned (.agg #[.int .i64 v, .int .i64 n, lv']) ∧ Lts w' lv' []) ∧ Below w.heap.size w w' := by
  obtain ⟨W2, hW2, HB2⟩ : ∃ W2, (w.alloc (.cells #[.int .i64 v, .int .i64 n, lv] 66)).alloc (.cells #[.int .i64 0, .int .i64 0, .slice none 0 0] 66) = W2 ∧ Hid (Below w.heap.size w W2 ∧ W2.heap.size = w.heap.size + 2 ∧ W2.heap[w.heap.size]? = some (.cells #[.int .i64 v, .int .i64 n, lv] 66 (0, 0)) ∧ W2.heap[w.heap.size + 1]? = some (.cells #[.int .i64 0, .int .i64 0, .slice none 0 0] 66 (0, 0))) := by
    refine ⟨_, rfl, ((Below.refl _ _).alloc (Nat.le_refl _) _).alloc (by simp) _, by simp, ?_, ?_⟩
    · exact (Below.heap_alloc _ _ _ (by simp)).trans (heap_alloc_new _ _)
    · have := heap_alloc_new (w.alloc (.cells #[.int .i64 v, .int .i64 n, lv] 66)) (.cells #[.int .i64 0, .int .i64 0, .slice none 0 0] 66)
      rw [World.size_alloc] at this
      exact this
  have c2 : W2.cell? ⟨w.heap.size, 2, none⟩ = some lv := rd_cell HB2.out.2.2.1 rfl
  have cC := clone_lts lv [] W2 (h.below HB2.out.1 (Nat.le_refl _)) (by decide)
  obtain ⟨la, lc, rfl, _⟩ : ∃ a c, lv = .slice a 0 c ∧ True := by obtain ⟨a, c, e, _⟩ := h; exact ⟨a, c, e, trivial⟩
  clear h
  go_enter Tryz.func72, Tryz.ntmps72
  go_wp2_with fail
  refine cC.mono ?_
  rintro e w3 ⟨⟨v3, rfl, hl3, _⟩, hb3⟩
  obtain ⟨a3, c3, rfl, _⟩ : ∃ a c, v3 = .slice a 0 c ∧ True := by obtain ⟨a, c, e, _⟩ := id hl3; exact ⟨a, c, e, trivial⟩
  have hz2 := HB2.out.2.1
  have hz3 := hb3.size
  have e3 := (hb3.block w.heap.size (by omega)).trans HB2.out.2.2.1
  have r3 := (hb3.block (w.heap.size + 1) (by omega)).trans HB2.out.2.2.2
  have old3 : w3.cell? ⟨w.heap.size, 2, none⟩ = some (.slice la 0 lc) := rd_cell e3 rfl
  have fr3 := rd_free e3 2
  have e4 : (w3.setCell ⟨w.heap.size, 2, none⟩ (.slice a3 0 c3)).heap[w.heap.size]? = some (.cells #[.int .i64 v, .int .i64 n, .slice a3 0 c3] 66 (0, 0)) := by simpa using rd_set (i := 2) (.slice a3 0 c3) e3
  have r4 : (w3.setCell ⟨w.heap.size, 2, none⟩ (.slice a3 0 c3)).heap[w.heap.size + 1]? = _ := (Below.heap_setCell _ _ _ _ (by show w.heap.size + 1 ≠ w.heap.size; omega)).trans r3
  have h6 : Below w.heap.size w w3 := HB2.out.1.trans (hb3.mono (by omega))
  have h7 : Below w.heap.size w (w3.setCell ⟨w.heap.size, 2, none⟩ (.slice a3 0 c3)) := ⟨h6.os, h6.tape, h6.output, by simpa using h6.size, fun k hk => (Below.heap_setCell _ _ _ _ (by show k ≠ w.heap.size; omega)).trans (h6.block k hk)⟩
  obtain ⟨W4, hW4⟩ : ∃ W, w3.setCell ⟨w.heap.size, 2, none⟩ (.slice a3 0 c3) = W := ⟨_, rfl⟩
  rw [hW4] at e4 r4 h7
  obtain ⟨⟨b0, b1, b2⟩, _, _⟩ := three_facts e4 (.int .i64 v) (.int .i64 n) (.slice a3 0 c3)
  obtain ⟨⟨s0, s1, s2⟩, ⟨f0, f1, f2⟩, u⟩ := three_facts r4 (.int .i64 v) (.int .i64 n) (.slice a3 0 c3)
  have u0 : (((W4.setCell ⟨w.heap.size + 1, 0, none⟩ (.int .i64 v)).setCell ⟨w.heap.size + 1, 1, none⟩ (.int .i64 n)).setCell ⟨w.heap.size + 1, 2, none⟩ (.slice a3 0 c3)).cell? ⟨w.heap.size + 1, 0, none⟩ = some (.int .i64 v) := rd_cell u rfl
  have u1 : (((W4.setCell ⟨w.heap.size + 1, 0, none⟩ (.int .i64 v)).setCell ⟨w.heap.size + 1, 1, none⟩ (.int .i64 n)).setCell ⟨w.heap.size + 1, 2, none⟩ (.slice a3 0 c3)).cell? ⟨w.heap.size + 1, 1, none⟩ = some (.int .i64 n) := rd_cell u rfl
  have u2 : (((W4.setCell ⟨w.heap.size + 1, 0, none⟩ (.int .i64 v)).setCell ⟨w.heap.size + 1, 1, none⟩ (.int .i64 n)).setCell ⟨w.heap.size + 1, 2, none⟩ (.slice a3 0 c3)).cell? ⟨w.heap.size + 1, 2, none⟩ = some (.slice a3 0 c3) := rd_cell u rfl
  have HF : Hid (Lts (((W4.setCell ⟨w.heap.size + 1, 0, none⟩ (.int .i64 v)).setCell ⟨w.heap.size + 1, 1, none⟩ (.int .i64 n)).setCell ⟨w.heap.size + 1, 2, none⟩ (.slice a3 0 c3)) (.slice a3 0 c3) [] ∧ Below w.heap.size w (((W4.setCell ⟨w.heap.size + 1, 0, none⟩ (.int .i64 v)).setCell ⟨w.heap.size + 1, 1, none⟩ (.int .i64 n)).setCell ⟨w.heap.size + 1, 2, none⟩ (.slice a3 0 c3))) := by
    have hbut : But W4.heap.size (w.heap.size + 1) W4 (((W4.setCell ⟨w.heap.size + 1, 0, none⟩ (.int .i64 v)).setCell ⟨w.heap.size + 1, 1, none⟩ (.int .i64 n)).setCell ⟨w.heap.size + 1, 2, none⟩ (.slice a3 0 c3)) := (((to_but (Below.refl _ _)).setB 0 _).setB 1 _).setB 2 _
    obtain ⟨a, c, e, h0, _⟩ := hl3
    exact ⟨⟨a, c, e, h0, Or.inl rfl⟩, h7.trans (hbut.below h7.size (by omega))⟩
  clear cC hb3 e3 r3 e4 r4 h6 h7 u hl3 hz3 c2
  go_wp2_with fail
  refine wp_loop_rounds 1 ?_
  rw [rounds_succ]
  go_wp2_with fail
  exact bodyPost_ret (v := .agg #[.int .i64 v, .int .i64 n, .slice a3 0 c3]) (by simp [results, Tryz.results72, go_sem, u0, u1, u2]) rfl ⟨⟨_, rfl, HF.out.1⟩, HF.out.2⟩
theorem copied_is (v n : Int) (lv : Value) (ls : List Lt) (w : World) (h : Lts w lv ls) (hl : ls.length ≤ 1000) (hf : ∀ x ∈ ls, x.flags.length ≤ 1000) :
    Calls Tryz.prog 72 #[.agg #[.int .i64 v, .int .i64 n, lv]] w fun e w' => (∃ lv', e = .returned (.agg #[.int .i64 v, .int .i64 n, lv']) ∧ Lts w' lv' ls) ∧ Below w.heap.size w w' := by
  by_cases hne : ls = []
  · subst hne
    exact copied_none v n lv w h
  · exact copied_some v n lv ls w h hl hne hf
end Go.Proofs.YtdmplfflmdanlaaGreatDoor
