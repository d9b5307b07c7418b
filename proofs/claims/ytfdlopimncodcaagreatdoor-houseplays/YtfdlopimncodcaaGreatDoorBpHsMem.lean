/-
  A house in memory; a new box; whether there is one, and more.
-/
import Derived.Test.YtfdlopimncodcaaGreatDoorBpAid
import Derived.Deep.RegionHeld3
import Derived.OwnWalk
namespace Go.Proofs.YtfdlopimncodcaaGreatDoor
open Go.RowKit Go.Proofs.Aid
def HsAt (w : World) (hb mb : Nat) (l : Bxs) (nx : Int) (wv : Value) : Prop := w.heap[hb]? = some (.cells #[.map (some mb), wv, .int .i64 nx] 80 (0, 0)) ∧ Mp w mb l
structure HK (hb mb : Nat) (w w' : World) : Prop where
  os : w'.os = w.os
  tape : w'.tape = w.tape
  output : w'.output = w.output
  size : w.heap.size ≤ w'.heap.size
  block : ∀ k, k < w.heap.size → k ≠ hb → k ≠ mb → w'.heap[k]? = w.heap[k]?
theorem HK.refl (hb mb : Nat) (w : World) : HK hb mb w w := ⟨rfl, rfl, rfl, Nat.le_refl _, fun _ _ _ _ => rfl⟩
theorem HK.trans {hb mb : Nat} {a b c : World} (h : HK hb mb a b) (k : HK hb mb b c) : HK hb mb a c :=
  ⟨k.os.trans h.os, k.tape.trans h.tape, k.output.trans h.output, Nat.le_trans h.size k.size, fun j hj h1 h2 => (k.block j (Nat.lt_of_lt_of_le hj h.size) h1 h2).trans (h.block j hj h1 h2)⟩
theorem HK.of {hb mb : Nat} {a b : World} (h : Below a.heap.size a b) : HK hb mb a b := ⟨h.os, h.tape, h.output, h.size, fun k hk _ _ => h.block k hk⟩
theorem HK.turned {hb mb : Nat} {a b : World} (h : a.mapTurned b mb) : HK hb mb a b := have k := turned_but h; ⟨k.os, k.tape, k.output, k.size, fun j hj _ h2 => k.block j hj h2⟩
theorem HK.below {hb mb B : Nat} {a b : World} (h : HK hb mb a b) (h0 : B ≤ a.heap.size) (h1 : B ≤ hb) (h2 : B ≤ mb) : Below B a b := ⟨h.os, h.tape, h.output, h.size, fun k hk => h.block k (by omega) (by omega) (by omega)⟩
theorem HsAt.lt {w : World} {hb mb : Nat} {l : Bxs} {nx : Int} {wv : Value} (h : HsAt w hb mb l nx wv) : hb < w.heap.size := (Array.getElem?_eq_some_iff.1 h.1).1
theorem HsAt.ne {w : World} {hb mb : Nat} {l : Bxs} {nx : Int} {wv : Value} (h : HsAt w hb mb l nx wv) : hb ≠ mb := fun e => by
  obtain ⟨h1, _, D, ⟨es, clock, h2, _⟩, _⟩ := h
  rw [e, h2] at h1
  cases h1
theorem HsAt.below {w w' : World} {hb mb B : Nat} {l : Bxs} {nx : Int} {wv : Value} (h : HsAt w hb mb l nx wv) (hb' : Below B w w') (hB : w.heap.size ≤ B) : HsAt w' hb mb l nx wv :=
  ⟨(hb'.block hb (Nat.lt_of_lt_of_le h.lt hB)).trans h.1, h.2.same (hb'.block mb (Nat.lt_of_lt_of_le h.2.lt hB))⟩
theorem HsAt.cell {w : World} {hb mb : Nat} {l : Bxs} {nx : Int} {wv : Value} (h : HsAt w hb mb l nx wv) : w.cell? ⟨hb, 0, none⟩ = some (.map (some mb)) ∧ w.cell? ⟨hb, 1, none⟩ = some wv ∧ w.cell? ⟨hb, 2, none⟩ = some (.int .i64 nx) := ⟨rd_cell h.1 rfl, rd_cell h.1 rfl, rd_cell h.1 rfl⟩
set_option maxHeartbeats 1000000 in
theorem has_is (hb mb : Nat) (l : Bxs) (nx : Int) (wv : Value) (s : ByteArray) (w : World) (h : HsAt w hb mb l nx wv) (hs : s.size ≤ 1000000) :
    Calls Tryz.prog 123 #[.pointer (some ⟨hb, 0, none⟩), .string s] w fun e w' => e = .returned (.bool (hasB l s.data.toList)) ∧ w' = w := by
  obtain ⟨v, hok⟩ := mp_ok h.2 s hs
  have c0 := h.cell.1
  clear h
  obtain ⟨A, hA⟩ : ∃ A, hasB l s.data.toList = A := ⟨_, rfl⟩
  rw [hA] at hok ⊢
  clear hA
  go_enter Tryz.func123, Tryz.ntmps123
  go_wp2_with fail
  go_ret
  exact ⟨rfl, rfl⟩
def NewBox (w : World) (b : Nat) (v : Int) : Prop := w.heap[b]? = some (.cells #[.int .i64 v, .int .i64 1, .slice none 0 0] 72 (0, 0))
set_option maxHeartbeats 4000000 in
set_option maxRecDepth 100000 in
theorem add_is (hb mb : Nat) (l : Bxs) (nx : Int) (wv : Value) (s : ByteArray) (w : World) (h : HsAt w hb mb l nx wv) (hs : s.size ≤ 1000000) (hl : l.length ≤ 1000) (hn : 0 ≤ nx ∧ nx ≤ 1000000) :
    Calls Tryz.prog 40 #[.pointer (some ⟨hb, 0, none⟩), .string s] w fun e w' => e = .returned (.tuple #[]) ∧ HsAt w' hb mb (putB s.data.toList w.heap.size l) (nx + 1) wv ∧ NewBox w' w.heap.size nx ∧ HK hb mb w w' := by
  obtain ⟨WD, hWD⟩ : ∃ W, w.drew = W := ⟨_, rfl⟩
  have hD : HsAt WD hb mb l nx wv := by rw [← hWD]; exact h
  have bD : Below w.heap.size w WD := by rw [← hWD]; exact (Below.refl _ _).drew
  have hB : WD.heap.size = w.heap.size := by rw [← hWD]; rfl
  obtain ⟨W8, hW8⟩ : ∃ W, WD.alloc (.cells #[.int .i64 nx, .int .i64 1, .slice none 0 0] 72) = W := ⟨_, rfl⟩
  have b8 : Below w.heap.size WD W8 := by rw [← hW8, ← hB]; exact (Below.refl _ _).alloc (Nat.le_refl _) _
  have e8 : NewBox W8 w.heap.size nx := by rw [← hW8, ← hB]; exact heap_alloc_new _ _
  have h8 := hD.below b8 (by omega)
  obtain ⟨W9, hp, hm9, ht⟩ := mp_put h8.2 s hs (by omega) w.heap.size
  have hbl := h.lt
  have hml := h.2.lt
  have hne := h.ne
  have z8 := b8.size
  have hh9 := ((turned_but ht).block hb (by omega) hne).trans h8.1
  have e9 : NewBox W9 w.heap.size nx := ((turned_but ht).block w.heap.size (Array.getElem?_eq_some_iff.1 e8).1 (by omega)).trans e8
  obtain ⟨c0, _, c2⟩ := h.cell
  obtain ⟨d0, _, d2⟩ := h8.cell
  have f0 : W9.cell? ⟨hb, 0, none⟩ = some (.map (some mb)) := rd_cell hh9 rfl
  have f2 : W9.cell? ⟨hb, 2, none⟩ = some (.int .i64 nx) := rd_cell hh9 rfl
  have ff := rd_free hh9 2
  have hsum : wrap64 (nx + 1) = nx + 1 := by unfold wrap64; omega
  have hh10 := rd_set (i := 2) (.int .i64 (nx + 1)) hh9
  have HOUT : Hid (HsAt (W9.setCell ⟨hb, 2, none⟩ (.int .i64 (nx + 1))) hb mb (putB s.data.toList w.heap.size l) (nx + 1) wv ∧ NewBox (W9.setCell ⟨hb, 2, none⟩ (.int .i64 (nx + 1))) w.heap.size nx ∧ HK hb mb w (W9.setCell ⟨hb, 2, none⟩ (.int .i64 (nx + 1)))) := by
    have hk : HK hb mb w W9 := (HK.of (bD.trans b8)).trans (HK.turned ht)
    refine ⟨⟨hh10, hm9.same (Below.heap_setCell _ _ _ _ (fun e => hne e.symm))⟩, (Below.heap_setCell _ _ _ _ (by show w.heap.size ≠ hb; omega)).trans e9, ⟨hk.os, hk.tape, hk.output, by simpa using hk.size, fun k h1 h2 h3 => (Below.heap_setCell _ _ _ _ h2).trans (hk.block k h1 h2 h3)⟩⟩
  clear h hD bD b8 e8 h8 hm9 ht hh9 e9 hh10 z8
  go_enter Tryz.func40, Tryz.ntmps40
  go_wp2_with fail
  refine wp_region_held_drew (S := fun W => W.cell? ⟨hb, 0, none⟩ = some (.map (some mb)) ∧ W.cell? ⟨hb, 2, none⟩ = some (.int .i64 nx)) (by kernel_rfl) ?_ (fun hHeld => ?_)
  · exact ⟨by simpa using c0, by simpa using c2⟩
  rw [hWD] at hHeld ⊢
  refine wpAnyH_take (i := 0) (v := ?_) rfl (by kernel_rfl) (by kernel_rfl) (by kernel_rfl) (fun _ _ _ h => h) (Or.inl ⟨by rfl, ?_⟩) (by first | assumption | trivial) ?_
  rotate_left
  · intro w hSw; go_simp; (try with_reducible rfl)
  change wpAnyH _ _ _ _ _ _ _ (Act.put _ (some 4) _) _; simp only [Act.put, List.setIfInBounds_toArray, List.set_cons_zero, List.set_cons_succ]
  refine wpAnyH_take (i := 1) (v := ?_) rfl (by kernel_rfl) (by kernel_rfl) (by kernel_rfl) (fun _ _ _ h => h) (Or.inl ⟨by rfl, ?_⟩) (by first | assumption | trivial) ?_
  rotate_left
  · intro w hSw; go_simp; (try with_reducible rfl)
  change wpAnyH _ _ _ _ _ _ _ (Act.put _ (some 5) _) _; simp only [Act.put, List.setIfInBounds_toArray, List.set_cons_zero, List.set_cons_succ]
  refine wpAnyH_take (i := 2) (v := ?_) rfl (by kernel_rfl) (by kernel_rfl) (by kernel_rfl) (fun _ _ _ h => h) (Or.inl ⟨by rfl, ?_⟩) (by first | assumption | trivial) ?_
  rotate_left
  · intro w hSw; go_simp; (try with_reducible rfl)
  change wpAnyH _ _ _ _ _ _ _ (Act.put _ (some 6) _) _; simp only [Act.put, List.setIfInBounds_toArray, List.set_cons_zero, List.set_cons_succ]
  refine wpAnyH_take (i := 3) (v := ?_) rfl (by kernel_rfl) (by kernel_rfl) (by kernel_rfl) (fun _ _ _ h => h) (Or.inl ⟨by rfl, ?_⟩) (by first | assumption | trivial) ?_
  rotate_left
  · intro w hSw; go_simp; (try with_reducible rfl)
  change wpAnyH _ _ _ _ _ _ _ (Act.put _ (some 7) _) _; simp only [Act.put, List.setIfInBounds_toArray, List.set_cons_zero, List.set_cons_succ]
  refine wpAnyH_take (i := 4) (v := ?_) rfl (by kernel_rfl) (by kernel_rfl) (by kernel_rfl) (fun _ _ _ h => h) (Or.inl ⟨by rfl, ?_⟩) (by first | assumption | trivial) ?_
  rotate_left
  · intro w hSw; go_simp; (try with_reducible rfl)
  change wpAnyH _ _ _ _ _ _ _ (Act.put _ (some 8) _) _; simp only [Act.put, List.setIfInBounds_toArray, List.set_cons_zero, List.set_cons_succ]
  refine wpAnyH_take (i := 5) (v := ?_) rfl (by kernel_rfl) (by kernel_rfl) (by kernel_rfl) (fun _ _ _ h => h) (Or.inl ⟨by rfl, ?_⟩) (by first | assumption | trivial) ?_
  rotate_left
  · intro w hSw; go_simp; (try with_reducible rfl)
  change wpAnyH _ _ _ _ _ _ _ (Act.put _ (some 9) _) _; simp only [Act.put, List.setIfInBounds_toArray, List.set_cons_zero, List.set_cons_succ]
  refine wpAnyH_take (i := 6) (v := ?_) rfl (by kernel_rfl) (by kernel_rfl) (by kernel_rfl) (fun _ _ _ h => h) (Or.inl ⟨by rfl, ?_⟩) (by first | assumption | trivial) ?_
  rotate_left
  · intro w hSw; go_simp; (try with_reducible rfl)
  change wpAnyH _ _ _ _ _ _ _ (Act.put _ (some 10) _) _; simp only [Act.put, List.setIfInBounds_toArray, List.set_cons_zero, List.set_cons_succ]
  refine wpAnyH_take (i := 7) (v := ?_) rfl (by kernel_rfl) (by kernel_rfl) (by kernel_rfl) (fun _ _ _ h => h) (Or.inl ⟨by rfl, ?_⟩) (by first | assumption | trivial) ?_
  rotate_left
  · intro w hSw; go_simp; (try with_reducible rfl)
  change wpAnyH _ _ _ _ _ _ _ (Act.put _ (some 11) _) _; simp only [Act.put, List.setIfInBounds_toArray, List.set_cons_zero, List.set_cons_succ]
  refine wpAnyH_take (i := 8) (v := ?_) rfl (by kernel_rfl) (by kernel_rfl) (by kernel_rfl) (fun _ _ _ h => h) (Or.inl ⟨by rfl, ?_⟩) (by first | assumption | trivial) ?_
  rotate_left
  · intro w hSw; go_simp; (try with_reducible rfl)
  change wpAnyH _ _ _ _ _ _ _ (Act.put _ (some 12) _) _; simp only [Act.put, List.setIfInBounds_toArray, List.set_cons_zero, List.set_cons_succ]
  refine wpAnyH_take (i := 9) (v := ?_) rfl (by kernel_rfl) (by kernel_rfl) (by kernel_rfl) (fun _ _ _ h => h) (Or.inl ⟨by rfl, ?_⟩) (by first | assumption | trivial) ?_
  rotate_left
  · intro w hSw; go_simp; (try with_reducible rfl)
  change wpAnyH _ _ _ _ _ _ _ (Act.put _ (some 13) _) _; simp only [Act.put, List.setIfInBounds_toArray, List.set_cons_zero, List.set_cons_succ]
  refine wpAnyH_ready (rs := [10]) (by kernel_rfl) (by simp) ?_
  refine AllReadyH.cons rfl (fun K hK => ?_) AllReadyH.nil
  go_simp
  refine hK.out _ _ ?_ (fun hHeld => ?_)
  · exact ⟨d0, d2⟩
  clear hK K
  refine wpAnyH_ready (rs := [11]) (by kernel_rfl) (by simp) ?_
  refine AllReadyH.cons rfl (fun K hK => ?_) AllReadyH.nil
  go_simp
  refine hK.out _ _ ?_ (fun hHeld => ?_)
  · exact ⟨f0, f2⟩
  clear hK K
  refine wpAnyH_done (by kernel_rfl) ?_ _
  clear hHeld d0 d2
  go_wp2_with fail
  go_end0
  exact ⟨rfl, HOUT.out⟩
end Go.Proofs.YtfdlopimncodcaaGreatDoor
namespace Go.Proofs.YtfdlopimncodcaaGreatDoor
open Go.RowKit Go.Proofs.Aid
def inboxN : Nm := [73, 78, 66, 79, 88]
set_option maxHeartbeats 2000000 in
set_option maxRecDepth 100000 in
theorem new_is (w : World) : Calls Tryz.prog 8 #[] w fun e w' => e = .returned (.pointer (some ⟨w.heap.size + 1, 0, none⟩)) ∧ HsAt w' (w.heap.size + 1) w.heap.size [(inboxN, w.heap.size + 2)] 2 (.slice none 0 0) ∧ NewBox w' (w.heap.size + 2) 1 ∧ Below w.heap.size w w' := by
  obtain ⟨W1, hW1⟩ : ∃ W, w.alloc (.map #[] 0) = W := ⟨_, rfl⟩
  have hmk := mp_make w
  have m1 := mp_new w
  have b1 : Below w.heap.size w (w.alloc (.map #[] 0)) := (Below.refl _ _).alloc (Nat.le_refl _) _
  have z1 : (w.alloc (.map #[] 0)).heap.size = w.heap.size + 1 := World.size_alloc _ _
  rw [hW1] at hmk m1 b1 z1
  have e2 := heap_alloc_new W1 (.cells #[.map (some w.heap.size), .slice none 0 0, .int .i64 1] 80)
  have b2 : Below W1.heap.size W1 (W1.alloc (.cells #[.map (some w.heap.size), .slice none 0 0, .int .i64 1] 80)) := (Below.refl _ _).alloc (Nat.le_refl _) _
  have z2 : (W1.alloc (.cells #[.map (some w.heap.size), .slice none 0 0, .int .i64 1] 80)).heap.size = W1.heap.size + 1 := World.size_alloc _ _
  obtain ⟨W2, hW2⟩ : ∃ W, W1.alloc (.cells #[.map (some w.heap.size), .slice none 0 0, .int .i64 1] 80) = W := ⟨_, rfl⟩
  rw [hW2] at e2 b2 z2
  rw [z1] at e2
  have h2 : HsAt W2 (w.heap.size + 1) w.heap.size [] 1 (.slice none 0 0) := ⟨e2, m1.same (b2.block _ (by omega))⟩
  have cA := add_is (w.heap.size + 1) w.heap.size [] 1 (.slice none 0 0) ⟨#[73, 78, 66, 79, 88]⟩ W2 h2 (by decide) (by decide) (by decide)
  have hz2 : W2.heap.size = w.heap.size + 2 := by omega
  rw [hz2] at cA
  have HB : Hid (Below w.heap.size w W2 ∧ W2.heap.size = w.heap.size + 2) := ⟨b1.trans (b2.mono (by omega)), hz2⟩
  clear h2 e2 b2 z2 b1 m1 hz2
  go_enter Tryz.func8, Tryz.ntmps8
  go_wp2_with fail
  refine cA.mono ?_
  rintro e w' ⟨rfl, h3, h4, hk⟩
  have HF : Hid (HsAt w' (w.heap.size + 1) w.heap.size [(inboxN, w.heap.size + 2)] 2 (.slice none 0 0) ∧ NewBox w' (w.heap.size + 2) 1 ∧ Below w.heap.size w w') := ⟨h3, h4, HB.out.1.trans (hk.below (by have := HB.out.2; omega) (by omega) (by omega))⟩
  clear h3 h4 hk cA
  go_wp2_with fail
  go_ret
  exact ⟨rfl, HF.out⟩
end Go.Proofs.YtfdlopimncodcaaGreatDoor
namespace Go.Proofs.YtfdlopimncodcaaGreatDoor
open Go.RowKit Go.Proofs.Aid
def BlAt (w : World) (eb : Nat) (E : List Bool) : Prop := w.heap[eb]? = some (.cells (E.map Value.bool).toArray 4 (0, 0))
theorem BlAt.at {w : World} {eb : Nat} {E : List Bool} (h : BlAt w eb E) {k : Nat} (hk : k < E.length) : w.cell? ⟨eb, k, none⟩ = some (.bool (E.getD k false)) ∧ w.frozen? ⟨eb, k, none⟩ = false := by
  refine ⟨rd_cell h ?_, rd_free h k⟩
  rw [List.getElem?_toArray, List.getElem?_map, List.getD_eq_getElem?_getD, List.getElem?_eq_getElem hk]
  rfl
theorem BlAt.set {w : World} {eb : Nat} {E : List Bool} (h : BlAt w eb E) (k : Nat) (b : Bool) : BlAt (w.setCell ⟨eb, k, none⟩ (.bool b)) eb (E.set k b) := by
  have := rd_set (i := k) (.bool b) h
  unfold BlAt
  rw [this, List.setIfInBounds_toArray, List.map_set]
theorem BlAt.lt {w : World} {eb : Nat} {E : List Bool} (h : BlAt w eb E) : eb < w.heap.size := (Array.getElem?_eq_some_iff.1 h).1
def strAt (ok : Nat → Bool) (E : List Bool) : Nat → List Bool
  | 0 => E
  | k + 1 => (strAt ok E k).set (k + 1) ((strAt ok E k).getD (k + 1) false || ((strAt ok E k).getD k false && ok k))
theorem strAt_len (ok : Nat → Bool) (E : List Bool) : ∀ k, (strAt ok E k).length = E.length
  | 0 => rfl
  | k + 1 => by rw [strAt, List.length_set, strAt_len ok E k]
set_option maxHeartbeats 4000000 in
set_option maxRecDepth 100000 in
theorem stretch_is (eb : Nat) (E : List Bool) (f : FuncId) (caps : List Value) (ok : Nat → Bool) (w : World) (h : BlAt w eb E) (h0 : 0 < E.length) (hl : E.length ≤ 100000) (eg : ∀ args w, (callFunc f args).run Tryz.prog w = .ok (.enter f args) w)
    (cH : ∀ k, k + 1 < E.length → ∀ W, But w.heap.size eb w W → Calls Tryz.prog f (Value.int .i64 (k : Int) :: caps).toArray W fun e w' => e = .returned (.bool (ok k)) ∧ Below W.heap.size W w') :
    Calls Tryz.prog 70 #[.slice (some ⟨eb, 0, none⟩) E.length E.length, .func (.func f) #[] caps.toArray] w fun e w' => e = .returned (.tuple #[]) ∧ BlAt w' eb (strAt ok E (E.length - 1)) ∧ But w.heap.size eb w w' := by
  obtain ⟨m, hm⟩ : ∃ m, E.length = m + 1 := ⟨E.length - 1, by omega⟩
  have HM : Hid (E.length = m + 1) := hm
  have HH : Hid (BlAt w eb E) := h
  have hbl := h.lt
  have HC : Hid (∀ k, k < m → ∀ W, But w.heap.size eb w W → Calls Tryz.prog f (Value.int .i64 (k : Int) :: caps).toArray W fun e w' => e = .returned (.bool (ok k)) ∧ Below W.heap.size W w') := fun k hk => cH k (by omega)
  rw [hm, Nat.add_sub_cancel]
  rw [hm] at hl
  have hmm : (((m + 1 : Nat) : Int) - 1) = (m : Int) := by omega
  clear h h0 hm cH
  go_enter Tryz.func70, Tryz.ntmps70
  go_wp2_with fail
  go_loopw [8] (fun i wr => ∃ k : Nat, i = .int .i64 (k : Int) ∧ k ≤ m ∧ Hid (BlAt wr eb (strAt ok E k) ∧ But w.heap.size eb w wr)) (fun i _ => m - (intOf i).toNat)
  case atStart => exact ⟨0, rfl, Nat.zero_le _, HH.out, to_but (Below.refl _ _)⟩
  case round =>
    obtain ⟨k, rfl, hk, HI⟩ := hrel
    by_cases hlt : k < m
    · have hlen : (strAt ok E k).length = m + 1 := by rw [strAt_len, HM.out]
      obtain ⟨q1, f1⟩ := HI.out.1.at (k := k + 1) (by omega)
      obtain ⟨q0, f0⟩ := HI.out.1.at (k := k) (by omega)
      obtain ⟨A, hA⟩ : ∃ b, (strAt ok E k).getD (k + 1) false = b := ⟨_, rfl⟩
      obtain ⟨B, hB⟩ : ∃ b, (strAt ok E k).getD k false = b := ⟨_, rfl⟩
      rw [hA] at q1
      rw [hB] at q0
      have HN : Hid (strAt ok E (k + 1) = (strAt ok E k).set (k + 1) (A || (B && ok k))) := by
        unfold Hid
        rw [strAt, hA, hB]
      have cK := HC.out k hlt wr HI.out.2
      have i1 : (0 : Int) ≤ (k : Int) := by omega
      have i2 : (k : Int) < ((m + 1 : Nat) : Int) := by omega
      have i3 : (k : Int) + 1 < ((m + 1 : Nat) : Int) := by omega
      have i4 : (0 : Int) ≤ (k : Int) + 1 := by omega
      have HD : Hid (∀ W v, Below wr.heap.size wr W → v = (A || (B && ok k)) → W.cell? ⟨eb, k + 1, none⟩ = some (.bool A) ∧ W.frozen? ⟨eb, k + 1, none⟩ = false ∧ BlAt (W.setCell ⟨eb, k + 1, none⟩ (.bool v)) eb (strAt ok E (k + 1)) ∧ But w.heap.size eb w (W.setCell ⟨eb, k + 1, none⟩ (.bool v))) := fun W v hW hv => by
        have hb : BlAt W eb (strAt ok E k) := (hW.block eb HI.out.1.lt).trans HI.out.1
        obtain ⟨g1, g2⟩ := hb.at (k := k + 1) (by omega)
        rw [hA] at g1
        refine ⟨g1, g2, ?_, (HI.out.2.trans (to_but (hW.mono HI.out.2.size))).setB _ _⟩
        rw [HN.out, ← hv]
        exact hb.set _ _
      clear hlen hA hB f0
      cases A with
      | true =>
        obtain ⟨r1, r2, r3, r4⟩ := HD.out wr true (Below.refl _ _) rfl
        have HG : Hid (BlAt (wr.setCell ⟨eb, k + 1, none⟩ (.bool true)) eb (strAt ok E (k + 1)) ∧ But w.heap.size eb w (wr.setCell ⟨eb, k + 1, none⟩ (.bool true))) := ⟨r3, r4⟩
        clear r3 r4 HI cK
        go_wp2_with fail
        go_roundw
        case rel => exact ⟨k + 1, by go_num, by omega, HG⟩
        case measure => simp [intOf]; omega
      | false =>
        cases B with
        | false =>
          obtain ⟨r1, r2, r3, r4⟩ := HD.out wr false (Below.refl _ _) rfl
          have HG : Hid (BlAt (wr.setCell ⟨eb, k + 1, none⟩ (.bool false)) eb (strAt ok E (k + 1)) ∧ But w.heap.size eb w (wr.setCell ⟨eb, k + 1, none⟩ (.bool false))) := ⟨r3, r4⟩
          clear r3 r4 HI cK
          go_wp2_with fail
          go_roundw
          case rel => exact ⟨k + 1, by go_num, by omega, HG⟩
          case measure => simp [intOf]; omega
        | true =>
          obtain ⟨OK, hOK⟩ : ∃ b, ok k = b := ⟨_, rfl⟩
          rw [hOK] at cK
          have HOK : Hid (ok k = OK) := hOK
          clear HI hOK
          go_wp2_with fail
          refine cK.mono ?_
          clear cK
          rintro e w2 ⟨rfl, hb2⟩
          obtain ⟨r1, r2, r3, r4⟩ := HD.out w2 OK hb2 (by rw [HOK.out]; simp)
          have HG : Hid (BlAt (w2.setCell ⟨eb, k + 1, none⟩ (.bool OK)) eb (strAt ok E (k + 1)) ∧ But w.heap.size eb w (w2.setCell ⟨eb, k + 1, none⟩ (.bool OK))) := ⟨r3, r4⟩
          clear r3 r4 hb2
          go_wp2_with fail
          go_roundw
          case rel => exact ⟨k + 1, by go_num, by omega, HG⟩
          case measure => simp [intOf]; omega
    · obtain rfl : k = m := by omega
      have HG : Hid (BlAt wr eb (strAt ok E k) ∧ But w.heap.size eb w wr) := HI.out
      clear HI
      go_wp2_with fail
      go_end0
      exact ⟨rfl, HG.out⟩
def stpAt (ok : Nat → Bool) (E : List Bool) (k : Nat) : List Bool := (List.range E.length).map fun j => if k < j then E.getD (j - 1) false && ok (j - 1) else E.getD j false
theorem stpAt_len (ok : Nat → Bool) (E : List Bool) (k : Nat) : (stpAt ok E k).length = E.length := by unfold stpAt; rw [List.length_map, List.length_range]
theorem stpAt_get (ok : Nat → Bool) (E : List Bool) (k j : Nat) (hj : j < E.length) : (stpAt ok E k).getD j false = if k < j then E.getD (j - 1) false && ok (j - 1) else E.getD j false := by
  unfold stpAt
  rw [List.getD_eq_getElem?_getD, List.getElem?_map, List.getElem?_range hj]
  rfl
theorem bools_ext {a b : List Bool} (hl : a.length = b.length) (h : ∀ j, j < a.length → a.getD j false = b.getD j false) : a = b := by
  apply List.ext_getElem hl
  intro j h1 h2
  have := h j h1
  rw [List.getD_eq_getElem?_getD, List.getD_eq_getElem?_getD, List.getElem?_eq_getElem h1, List.getElem?_eq_getElem h2] at this
  exact this
theorem getD_set (a : List Bool) (i j : Nat) (b : Bool) (hi : i < a.length) : (a.set i b).getD j false = if i = j then b else a.getD j false := by
  rw [List.getD_eq_getElem?_getD, List.getD_eq_getElem?_getD, List.getElem?_set]
  by_cases h : i = j
  · rw [if_pos h, if_pos h, if_pos hi]; rfl
  · rw [if_neg h, if_neg h]
theorem stpAt_next (ok : Nat → Bool) (E : List Bool) (k : Nat) (hk : k + 1 < E.length) : (stpAt ok E (k + 1)).set (k + 1) (E.getD k false && ok k) = stpAt ok E k := by
  apply bools_ext (by rw [List.length_set, stpAt_len, stpAt_len])
  intro j hj
  rw [List.length_set, stpAt_len] at hj
  rw [getD_set _ _ _ _ (by rw [stpAt_len]; exact hk), stpAt_get _ _ _ _ hj, stpAt_get _ _ _ _ hj]
  by_cases h1 : k + 1 = j
  · subst h1
    rw [if_pos rfl, if_pos (by omega), Nat.add_sub_cancel]
  · rw [if_neg h1]
    by_cases h2 : k + 1 < j
    · rw [if_pos h2, if_pos (by omega)]
    · rw [if_neg h2, if_neg (by omega)]
theorem stpAt_start (ok : Nat → Bool) (E : List Bool) (k : Nat) (hk : E.length ≤ k + 1) : stpAt ok E k = E := by
  apply bools_ext (stpAt_len _ _ _)
  intro j hj
  rw [stpAt_len] at hj
  rw [stpAt_get _ _ _ _ hj, if_neg (by omega)]
def stpL (ok : Nat → Bool) (E : List Bool) : List Bool := (stpAt ok E 0).set 0 false
set_option maxHeartbeats 4000000 in
set_option maxRecDepth 100000 in
theorem step_is (eb : Nat) (E : List Bool) (f : FuncId) (caps : List Value) (ok : Nat → Bool) (w : World) (h : BlAt w eb E) (h0 : 0 < E.length) (hl : E.length ≤ 100000) (eg : ∀ args w, (callFunc f args).run Tryz.prog w = .ok (.enter f args) w)
    (cH : ∀ k, k + 1 < E.length → ∀ W, But w.heap.size eb w W → Calls Tryz.prog f (Value.int .i64 (k : Int) :: caps).toArray W fun e w' => e = .returned (.bool (ok k)) ∧ Below W.heap.size W w') :
    Calls Tryz.prog 73 #[.slice (some ⟨eb, 0, none⟩) E.length E.length, .func (.func f) #[] caps.toArray] w fun e w' => e = .returned (.tuple #[]) ∧ BlAt w' eb (stpL ok E) ∧ But w.heap.size eb w w' := by
  obtain ⟨m, hm⟩ : ∃ m, E.length = m + 1 := ⟨E.length - 1, by omega⟩
  have HM : Hid (E.length = m + 1) := hm
  have HH : Hid (BlAt w eb E) := h
  have HC : Hid (∀ k, k < m → ∀ W, But w.heap.size eb w W → Calls Tryz.prog f (Value.int .i64 (k : Int) :: caps).toArray W fun e w' => e = .returned (.bool (ok k)) ∧ Below W.heap.size W w') := fun k hk => cH k (by omega)
  rw [hm]
  rw [hm] at hl
  clear h h0 hm cH
  go_enter Tryz.func73, Tryz.ntmps73
  go_wp2_with fail
  go_loopw [4] (fun i wr => ∃ k : Nat, i = .int .i64 ((k : Int) - 1) ∧ k ≤ m ∧ Hid (BlAt wr eb (stpAt ok E k) ∧ But w.heap.size eb w wr)) (fun i _ => (intOf i + 1).toNat)
  case atStart => exact ⟨m, by go_num, Nat.le_refl _, by rw [stpAt_start _ _ _ (by rw [HM.out]; exact Nat.le_refl _)]; exact HH.out, to_but (Below.refl _ _)⟩
  case round =>
    obtain ⟨k, rfl, hk, HI⟩ := hrel
    cases k with
    | succ k =>
      have hkk : (((k + 1 : Nat) : Int) - 1) = (k : Int) := by omega
      rw [hkk]
      have hlen : (stpAt ok E (k + 1)).length = m + 1 := by rw [stpAt_len, HM.out]
      obtain ⟨q1, f1⟩ := HI.out.1.at (k := k + 1) (by omega)
      obtain ⟨q0, f0⟩ := HI.out.1.at (k := k) (by omega)
      rw [stpAt_get _ _ _ _ (by rw [HM.out]; omega), if_neg (by omega)] at q0
      obtain ⟨A, hA⟩ : ∃ b, (stpAt ok E (k + 1)).getD (k + 1) false = b := ⟨_, rfl⟩
      obtain ⟨B, hB⟩ : ∃ b, E.getD k false = b := ⟨_, rfl⟩
      rw [hA] at q1
      rw [hB] at q0
      have HN : Hid ((stpAt ok E (k + 1)).set (k + 1) (B && ok k) = stpAt ok E k) := by
        unfold Hid
        rw [← hB]
        exact stpAt_next ok E k (by rw [HM.out]; omega)
      have cK := HC.out k (by omega) wr HI.out.2
      have i1 : (0 : Int) ≤ (k : Int) := by omega
      have i2 : (k : Int) < ((m + 1 : Nat) : Int) := by omega
      have i3 : (k : Int) + 1 < ((m + 1 : Nat) : Int) := by omega
      have i4 : (0 : Int) ≤ (k : Int) + 1 := by omega
      have HD : Hid (∀ W v, Below wr.heap.size wr W → v = (B && ok k) → W.cell? ⟨eb, k + 1, none⟩ = some (.bool A) ∧ W.frozen? ⟨eb, k + 1, none⟩ = false ∧ BlAt (W.setCell ⟨eb, k + 1, none⟩ (.bool v)) eb (stpAt ok E k) ∧ But w.heap.size eb w (W.setCell ⟨eb, k + 1, none⟩ (.bool v))) := fun W v hW hv => by
        have hb : BlAt W eb (stpAt ok E (k + 1)) := (hW.block eb HI.out.1.lt).trans HI.out.1
        obtain ⟨g1, g2⟩ := hb.at (k := k + 1) (by omega)
        rw [hA] at g1
        refine ⟨g1, g2, ?_, (HI.out.2.trans (to_but (hW.mono HI.out.2.size))).setB _ _⟩
        rw [← HN.out, ← hv]
        exact hb.set _ _
      clear hlen hA hB f0 hkk
      cases B with
      | false =>
        obtain ⟨r1, r2, r3, r4⟩ := HD.out wr false (Below.refl _ _) rfl
        have HG : Hid (BlAt (wr.setCell ⟨eb, k + 1, none⟩ (.bool false)) eb (stpAt ok E k) ∧ But w.heap.size eb w (wr.setCell ⟨eb, k + 1, none⟩ (.bool false))) := ⟨r3, r4⟩
        clear r3 r4 HI cK
        go_wp2_with fail
        go_roundw
        case rel => exact ⟨k, by go_num, by omega, HG⟩
        case measure => simp [intOf]
      | true =>
        obtain ⟨OK, hOK⟩ : ∃ b, ok k = b := ⟨_, rfl⟩
        rw [hOK] at cK
        have HOK : Hid (ok k = OK) := hOK
        clear HI hOK
        go_wp2_with fail
        refine cK.mono ?_
        clear cK
        rintro e w2 ⟨rfl, hb2⟩
        obtain ⟨r1, r2, r3, r4⟩ := HD.out w2 OK hb2 (by rw [HOK.out]; simp)
        have HG : Hid (BlAt (w2.setCell ⟨eb, k + 1, none⟩ (.bool OK)) eb (stpAt ok E k) ∧ But w.heap.size eb w (w2.setCell ⟨eb, k + 1, none⟩ (.bool OK))) := ⟨r3, r4⟩
        clear r3 r4 hb2
        go_wp2_with fail
        go_roundw
        case rel => exact ⟨k, by go_num, by omega, HG⟩
        case measure => simp [intOf]
    | zero =>
      have hk0 : (((0 : Nat) : Int) - 1) = -1 := rfl
      rw [hk0]
      obtain ⟨q0, f0⟩ := HI.out.1.at (k := 0) (by rw [stpAt_len, HM.out]; omega)
      have i2 : (0 : Int) < ((m + 1 : Nat) : Int) := by omega
      have HG : Hid (BlAt (wr.setCell ⟨eb, 0, none⟩ (.bool false)) eb (stpL ok E) ∧ But w.heap.size eb w (wr.setCell ⟨eb, 0, none⟩ (.bool false))) := ⟨HI.out.1.set 0 false, HI.out.2.setB _ _⟩
      clear HI
      go_wp2_with fail
      go_end0
      exact ⟨rfl, HG.out⟩
end Go.Proofs.YtfdlopimncodcaaGreatDoor
