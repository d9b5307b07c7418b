/-
  A house in memory; a new box; whether there is one, and more.
-/
import Derived.Test.YtfdlopimncodcaaGreatDoorBpSeqBase
import Derived.Deep.RegionHeld3
namespace Go.Proofs.YtfdlopimncodcaaGreatDoor
open Go.RowKit Go.Proofs.Aid

/-- A house lies there: boxes by their names, names that are wanted, the next box's number. -/
def HsAt (w : World) (hb mb : Nat) (l : Bxs) (nx : Int) (wv : Value) : Prop := w.heap[hb]? = some (.cells #[.map (some mb), wv, .int .i64 nx] 80 (0, 0)) ∧ Mp w mb l
/-- Nothing but a house's own blocks is changed. -/
structure HK (hb mb : Nat) (w w' : World) : Prop where
  os : w'.os = w.os
  tape : w'.tape = w.tape
  output : w'.output = w.output
  size : w.heap.size ≤ w'.heap.size
  block : ∀ k, k < w.heap.size → k ≠ hb → k ≠ mb → w'.heap[k]? = w.heap[k]?
theorem HK.refl (hb mb : Nat) (w : World) : HK hb mb w w := ⟨rfl, rfl, rfl, Nat.le_refl _, fun _ _ _ _ => rfl⟩
theorem HK.trans {hb mb : Nat} {a b c : World} (h : HK hb mb a b) (k : HK hb mb b c) : HK hb mb a c :=
  ⟨k.os.trans h.os, k.tape.trans h.tape, k.output.trans h.output, Nat.le_trans h.size k.size, fun j hj h1 h2 => (k.block j (Nat.lt_of_lt_of_le hj h.size) h1 h2).trans (h.block j hj h1 h2)⟩
theorem HK.of {hb mb : Nat} {a b : World} (h : Below a.heap.size a b) : HK hb mb a b := ⟨h.os, h.tape, h.output, h.size, fun k hk _ _ => h.block k hk⟩
theorem HK.turned {hb mb : Nat} {a b : World} (h : a.mapTurned b mb) : HK hb mb a b := have k := turned_but h; ⟨k.os, k.tape, k.output, k.size, fun j hj _ h2 => k.block j hj h2⟩
theorem HK.below {hb mb B : Nat} {a b : World} (h : HK hb mb a b) (h0 : B ≤ a.heap.size) (h1 : B ≤ hb) (h2 : B ≤ mb) : Below B a b := ⟨h.os, h.tape, h.output, h.size, fun k hk => h.block k (by omega) (by omega) (by omega)⟩
theorem HsAt.lt {w : World} {hb mb : Nat} {l : Bxs} {nx : Int} {wv : Value} (h : HsAt w hb mb l nx wv) : hb < w.heap.size := (Array.getElem?_eq_some_iff.1 h.1).1
theorem HsAt.ne {w : World} {hb mb : Nat} {l : Bxs} {nx : Int} {wv : Value} (h : HsAt w hb mb l nx wv) : hb ≠ mb := fun e => by
  obtain ⟨h1, _, D, ⟨es, clock, h2, _⟩, _⟩ := h
  rw [e, h2] at h1
  cases h1
theorem HsAt.below {w w' : World} {hb mb B : Nat} {l : Bxs} {nx : Int} {wv : Value} (h : HsAt w hb mb l nx wv) (hb' : Below B w w') (hB : w.heap.size ≤ B) : HsAt w' hb mb l nx wv :=
  ⟨(hb'.block hb (Nat.lt_of_lt_of_le h.lt hB)).trans h.1, h.2.same (hb'.block mb (Nat.lt_of_lt_of_le h.2.lt hB))⟩
theorem HsAt.cell {w : World} {hb mb : Nat} {l : Bxs} {nx : Int} {wv : Value} (h : HsAt w hb mb l nx wv) : w.cell? ⟨hb, 0, none⟩ = some (.map (some mb)) ∧ w.cell? ⟨hb, 1, none⟩ = some wv ∧ w.cell? ⟨hb, 2, none⟩ = some (.int .i64 nx) := ⟨rd_cell h.1 rfl, rd_cell h.1 rfl, rd_cell h.1 rfl⟩
set_option maxHeartbeats 1000000 in
theorem has_is (hb mb : Nat) (l : Bxs) (nx : Int) (wv : Value) (s : ByteArray) (w : World) (h : HsAt w hb mb l nx wv) (hs : s.size ≤ 1000000) :
    Calls Tryz.prog 123 #[.pointer (some ⟨hb, 0, none⟩), .string s] w fun e w' => e = .returned (.bool (hasB l s.data.toList)) ∧ w' = w := by
  obtain ⟨v, hok⟩ := mp_ok h.2 s hs
  have c0 := h.cell.1
  clear h
  obtain ⟨A, hA⟩ : ∃ A, hasB l s.data.toList = A := ⟨_, rfl⟩
  rw [hA] at hok ⊢
  clear hA
  go_enter Tryz.func123, Tryz.ntmps123
  go_wp2_with fail
  go_ret
  exact ⟨rfl, rfl⟩
/-- A new box: its number, nothing in it. -/
def NewBox (w : World) (b : Nat) (v : Int) : Prop := w.heap[b]? = some (.cells #[.int .i64 v, .int .i64 1, .slice none 0 0] 72 (0, 0))
set_option maxHeartbeats 4000000 in
set_option maxRecDepth 100000 in
theorem add_is (hb mb : Nat) (l : Bxs) (nx : Int) (wv : Value) (s : ByteArray) (w : World) (h : HsAt w hb mb l nx wv) (hs : s.size ≤ 1000000) (hl : l.length ≤ 1000) (hn : 0 ≤ nx ∧ nx ≤ 1000000) :
    Calls Tryz.prog 40 #[.pointer (some ⟨hb, 0, none⟩), .string s] w fun e w' => e = .returned (.tuple #[]) ∧ HsAt w' hb mb (putB s.data.toList w.heap.size l) (nx + 1) wv ∧ NewBox w' w.heap.size nx ∧ HK hb mb w w' := by
  obtain ⟨WD, hWD⟩ : ∃ W, w.drew = W := ⟨_, rfl⟩
  have hD : HsAt WD hb mb l nx wv := by rw [← hWD]; exact h
  have bD : Below w.heap.size w WD := by rw [← hWD]; exact (Below.refl _ _).drew
  have hB : WD.heap.size = w.heap.size := by rw [← hWD]; rfl
  obtain ⟨W8, hW8⟩ : ∃ W, WD.alloc (.cells #[.int .i64 nx, .int .i64 1, .slice none 0 0] 72) = W := ⟨_, rfl⟩
  have b8 : Below w.heap.size WD W8 := by rw [← hW8, ← hB]; exact (Below.refl _ _).alloc (Nat.le_refl _) _
  have e8 : NewBox W8 w.heap.size nx := by rw [← hW8, ← hB]; exact heap_alloc_new _ _
  have h8 := hD.below b8 (by omega)
  obtain ⟨W9, hp, hm9, ht⟩ := mp_put h8.2 s hs (by omega) w.heap.size
  have hbl := h.lt
  have hml := h.2.lt
  have hne := h.ne
  have z8 := b8.size
  have hh9 := ((turned_but ht).block hb (by omega) hne).trans h8.1
  have e9 : NewBox W9 w.heap.size nx := ((turned_but ht).block w.heap.size (Array.getElem?_eq_some_iff.1 e8).1 (by omega)).trans e8
  obtain ⟨c0, _, c2⟩ := h.cell
  obtain ⟨d0, _, d2⟩ := h8.cell
  have f0 : W9.cell? ⟨hb, 0, none⟩ = some (.map (some mb)) := rd_cell hh9 rfl
  have f2 : W9.cell? ⟨hb, 2, none⟩ = some (.int .i64 nx) := rd_cell hh9 rfl
  have ff := rd_free hh9 2
  have hsum : wrap64 (nx + 1) = nx + 1 := by unfold wrap64; omega
  have hh10 := rd_set (i := 2) (.int .i64 (nx + 1)) hh9
  have HOUT : Hid (HsAt (W9.setCell ⟨hb, 2, none⟩ (.int .i64 (nx + 1))) hb mb (putB s.data.toList w.heap.size l) (nx + 1) wv ∧ NewBox (W9.setCell ⟨hb, 2, none⟩ (.int .i64 (nx + 1))) w.heap.size nx ∧ HK hb mb w (W9.setCell ⟨hb, 2, none⟩ (.int .i64 (nx + 1)))) := by
    have hk : HK hb mb w W9 := (HK.of (bD.trans b8)).trans (HK.turned ht)
    refine ⟨⟨hh10, hm9.same (Below.heap_setCell _ _ _ _ (fun e => hne e.symm))⟩, (Below.heap_setCell _ _ _ _ (by show w.heap.size ≠ hb; omega)).trans e9, ⟨hk.os, hk.tape, hk.output, by simpa using hk.size, fun k h1 h2 h3 => (Below.heap_setCell _ _ _ _ h2).trans (hk.block k h1 h2 h3)⟩⟩
  clear h hD bD b8 e8 h8 hm9 ht hh9 e9 hh10 z8
  go_enter Tryz.func40, Tryz.ntmps40
  go_wp2_with fail
  refine wp_region_held_drew (S := fun W => W.cell? ⟨hb, 0, none⟩ = some (.map (some mb)) ∧ W.cell? ⟨hb, 2, none⟩ = some (.int .i64 nx)) (by kernel_rfl) ?_ (fun hHeld => ?_)
  · exact ⟨by simpa using c0, by simpa using c2⟩
  rw [hWD] at hHeld ⊢
  refine wpAnyH_take (i := 0) (v := ?_) rfl (by kernel_rfl) (by kernel_rfl) (by kernel_rfl) (fun _ _ _ h => h) (Or.inl ⟨by rfl, ?_⟩) (by first | assumption | trivial) ?_
  rotate_left
  · intro w hSw; go_simp; (try with_reducible rfl)
  change wpAnyH _ _ _ _ _ _ _ (Act.put _ (some 4) _) _; simp only [Act.put, List.setIfInBounds_toArray, List.set_cons_zero, List.set_cons_succ]
  refine wpAnyH_take (i := 1) (v := ?_) rfl (by kernel_rfl) (by kernel_rfl) (by kernel_rfl) (fun _ _ _ h => h) (Or.inl ⟨by rfl, ?_⟩) (by first | assumption | trivial) ?_
  rotate_left
  · intro w hSw; go_simp; (try with_reducible rfl)
  change wpAnyH _ _ _ _ _ _ _ (Act.put _ (some 5) _) _; simp only [Act.put, List.setIfInBounds_toArray, List.set_cons_zero, List.set_cons_succ]
  refine wpAnyH_take (i := 2) (v := ?_) rfl (by kernel_rfl) (by kernel_rfl) (by kernel_rfl) (fun _ _ _ h => h) (Or.inl ⟨by rfl, ?_⟩) (by first | assumption | trivial) ?_
  rotate_left
  · intro w hSw; go_simp; (try with_reducible rfl)
  change wpAnyH _ _ _ _ _ _ _ (Act.put _ (some 6) _) _; simp only [Act.put, List.setIfInBounds_toArray, List.set_cons_zero, List.set_cons_succ]
  refine wpAnyH_take (i := 3) (v := ?_) rfl (by kernel_rfl) (by kernel_rfl) (by kernel_rfl) (fun _ _ _ h => h) (Or.inl ⟨by rfl, ?_⟩) (by first | assumption | trivial) ?_
  rotate_left
  · intro w hSw; go_simp; (try with_reducible rfl)
  change wpAnyH _ _ _ _ _ _ _ (Act.put _ (some 7) _) _; simp only [Act.put, List.setIfInBounds_toArray, List.set_cons_zero, List.set_cons_succ]
  refine wpAnyH_take (i := 4) (v := ?_) rfl (by kernel_rfl) (by kernel_rfl) (by kernel_rfl) (fun _ _ _ h => h) (Or.inl ⟨by rfl, ?_⟩) (by first | assumption | trivial) ?_
  rotate_left
  · intro w hSw; go_simp; (try with_reducible rfl)
  change wpAnyH _ _ _ _ _ _ _ (Act.put _ (some 8) _) _; simp only [Act.put, List.setIfInBounds_toArray, List.set_cons_zero, List.set_cons_succ]
  refine wpAnyH_take (i := 5) (v := ?_) rfl (by kernel_rfl) (by kernel_rfl) (by kernel_rfl) (fun _ _ _ h => h) (Or.inl ⟨by rfl, ?_⟩) (by first | assumption | trivial) ?_
  rotate_left
  · intro w hSw; go_simp; (try with_reducible rfl)
  change wpAnyH _ _ _ _ _ _ _ (Act.put _ (some 9) _) _; simp only [Act.put, List.setIfInBounds_toArray, List.set_cons_zero, List.set_cons_succ]
  refine wpAnyH_take (i := 6) (v := ?_) rfl (by kernel_rfl) (by kernel_rfl) (by kernel_rfl) (fun _ _ _ h => h) (Or.inl ⟨by rfl, ?_⟩) (by first | assumption | trivial) ?_
  rotate_left
  · intro w hSw; go_simp; (try with_reducible rfl)
  change wpAnyH _ _ _ _ _ _ _ (Act.put _ (some 10) _) _; simp only [Act.put, List.setIfInBounds_toArray, List.set_cons_zero, List.set_cons_succ]
  refine wpAnyH_take (i := 7) (v := ?_) rfl (by kernel_rfl) (by kernel_rfl) (by kernel_rfl) (fun _ _ _ h => h) (Or.inl ⟨by rfl, ?_⟩) (by first | assumption | trivial) ?_
  rotate_left
  · intro w hSw; go_simp; (try with_reducible rfl)
  change wpAnyH _ _ _ _ _ _ _ (Act.put _ (some 11) _) _; simp only [Act.put, List.setIfInBounds_toArray, List.set_cons_zero, List.set_cons_succ]
  refine wpAnyH_take (i := 8) (v := ?_) rfl (by kernel_rfl) (by kernel_rfl) (by kernel_rfl) (fun _ _ _ h => h) (Or.inl ⟨by rfl, ?_⟩) (by first | assumption | trivial) ?_
  rotate_left
  · intro w hSw; go_simp; (try with_reducible rfl)
  change wpAnyH _ _ _ _ _ _ _ (Act.put _ (some 12) _) _; simp only [Act.put, List.setIfInBounds_toArray, List.set_cons_zero, List.set_cons_succ]
  refine wpAnyH_take (i := 9) (v := ?_) rfl (by kernel_rfl) (by kernel_rfl) (by kernel_rfl) (fun _ _ _ h => h) (Or.inl ⟨by rfl, ?_⟩) (by first | assumption | trivial) ?_
  rotate_left
  · intro w hSw; go_simp; (try with_reducible rfl)
  change wpAnyH _ _ _ _ _ _ _ (Act.put _ (some 13) _) _; simp only [Act.put, List.setIfInBounds_toArray, List.set_cons_zero, List.set_cons_succ]
  refine wpAnyH_ready (rs := [10]) (by kernel_rfl) (by simp) ?_
  refine AllReadyH.cons rfl (fun K hK => ?_) AllReadyH.nil
  go_simp
  refine hK.out _ _ ?_ (fun hHeld => ?_)
  · exact ⟨d0, d2⟩
  clear hK K
  refine wpAnyH_ready (rs := [11]) (by kernel_rfl) (by simp) ?_
  refine AllReadyH.cons rfl (fun K hK => ?_) AllReadyH.nil
  go_simp
  refine hK.out _ _ ?_ (fun hHeld => ?_)
  · exact ⟨f0, f2⟩
  clear hK K
  refine wpAnyH_done (by kernel_rfl) ?_ _
  clear hHeld d0 d2
  go_wp2_with fail
  go_end0
  exact ⟨rfl, HOUT.out⟩
end Go.Proofs.YtfdlopimncodcaaGreatDoor
namespace Go.Proofs.YtfdlopimncodcaaGreatDoor
open Go.RowKit Go.Proofs.Aid

def inboxN : Nm := [73, 78, 66, 79, 88]
set_option maxHeartbeats 2000000 in
set_option maxRecDepth 100000 in
theorem new_is (w : World) : Calls Tryz.prog 8 #[] w fun e w' => e = .returned (.pointer (some ⟨w.heap.size + 1, 0, none⟩)) ∧ HsAt w' (w.heap.size + 1) w.heap.size [(inboxN, w.heap.size + 2)] 2 (.slice none 0 0) ∧ NewBox w' (w.heap.size + 2) 1 ∧ Below w.heap.size w w' := by
  obtain ⟨W1, hW1⟩ : ∃ W, w.alloc (.map #[] 0) = W := ⟨_, rfl⟩
  have hmk := mp_make w
  have m1 := mp_new w
  have b1 : Below w.heap.size w (w.alloc (.map #[] 0)) := (Below.refl _ _).alloc (Nat.le_refl _) _
  have z1 : (w.alloc (.map #[] 0)).heap.size = w.heap.size + 1 := World.size_alloc _ _
  rw [hW1] at hmk m1 b1 z1
  have e2 := heap_alloc_new W1 (.cells #[.map (some w.heap.size), .slice none 0 0, .int .i64 1] 80)
  have b2 : Below W1.heap.size W1 (W1.alloc (.cells #[.map (some w.heap.size), .slice none 0 0, .int .i64 1] 80)) := (Below.refl _ _).alloc (Nat.le_refl _) _
  have z2 : (W1.alloc (.cells #[.map (some w.heap.size), .slice none 0 0, .int .i64 1] 80)).heap.size = W1.heap.size + 1 := World.size_alloc _ _
  obtain ⟨W2, hW2⟩ : ∃ W, W1.alloc (.cells #[.map (some w.heap.size), .slice none 0 0, .int .i64 1] 80) = W := ⟨_, rfl⟩
  rw [hW2] at e2 b2 z2
  rw [z1] at e2
  have h2 : HsAt W2 (w.heap.size + 1) w.heap.size [] 1 (.slice none 0 0) := ⟨e2, m1.same (b2.block _ (by omega))⟩
  have cA := add_is (w.heap.size + 1) w.heap.size [] 1 (.slice none 0 0) ⟨#[73, 78, 66, 79, 88]⟩ W2 h2 (by decide) (by decide) (by decide)
  have hz2 : W2.heap.size = w.heap.size + 2 := by omega
  rw [hz2] at cA
  have HB : Hid (Below w.heap.size w W2 ∧ W2.heap.size = w.heap.size + 2) := ⟨b1.trans (b2.mono (by omega)), hz2⟩
  clear h2 e2 b2 z2 b1 m1 hz2
  go_enter Tryz.func8, Tryz.ntmps8
  go_wp2_with fail
  refine cA.mono ?_
  rintro e w' ⟨rfl, h3, h4, hk⟩
  have HF : Hid (HsAt w' (w.heap.size + 1) w.heap.size [(inboxN, w.heap.size + 2)] 2 (.slice none 0 0) ∧ NewBox w' (w.heap.size + 2) 1 ∧ Below w.heap.size w w') := ⟨h3, h4, HB.out.1.trans (hk.below (by have := HB.out.2; omega) (by omega) (by omega))⟩
  clear h3 h4 hk cA
  go_wp2_with fail
  go_ret
  exact ⟨rfl, HF.out⟩
end Go.Proofs.YtfdlopimncodcaaGreatDoor
