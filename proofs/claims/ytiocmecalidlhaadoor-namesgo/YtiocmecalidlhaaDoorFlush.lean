/-
  What the closure of utf7.Encode does: it writes the units that wait.
-/
import Derived.Test.YtiocmecalidlhaaDoorLetters
namespace Go.Proofs.YtiocmecalidlhaaDoor
open Go.RowKit Go.Proofs.Aid Go.Proofs.Ut

def u16s (us : List Nat) : List Value := us.map fun (u : Nat) => Value.int .u16 (u : Int)

theorem u16s_append (a b : List Nat) : u16s (a ++ b) = u16s a ++ u16s b := by simp [u16s]
/-- The two variables that the closure captures: what is written, and the units that wait. -/
structure Two (B bo bw : Nat) (xs : List UInt8) (us : List Nat) (w : World) : Prop where
  lo : B ≤ bo
  lw : B ≤ bw
  o : ∃ vo, w.heap[bo]? = some (.cells #[vo] 35 (0, 0)) ∧ w.ownsRow B 5 1 vo xs.length (Lib.byteCells xs)
  u : ∃ vw, w.heap[bw]? = some (.cells #[vw] 36 (0, 0)) ∧ w.ownsRow B 48 1 vw us.length (u16s us)
/-- Iterators stand where they stood, and all below B is as it was. -/
structure Iters (B : Nat) (w w' : World) : Prop where
  below : Below B w w'
  it : ∀ (k : Nat) (s : ByteArray) (pos : Nat), w.heap[k]? = some (Obj.stringIter s pos) → w'.heap[k]? = some (Obj.stringIter s pos)
theorem Iters.refl (B : Nat) (w : World) : Iters B w w := ⟨Below.refl _ _, fun _ _ _ h => h⟩
theorem Iters.trans {B : Nat} {a b c : World} (h : Iters B a b) (k : Iters B b c) : Iters B a c := ⟨h.below.trans k.below, fun i s p hi => k.it i s p (h.it i s p hi)⟩
theorem Iters.kept {e : TypeId} {B : Nat} {w w' : World} (h : Kept e B w w') : Iters B w w' := ⟨h.below, fun _ _ _ hi => h.iter hi⟩
theorem Iters.store {B b : Nat} {w : World} {t : TypeId} {old new : Value} (h : w.heap[b]? = some (.cells #[old] t (0, 0))) (hb : B ≤ b) : Iters B w (w.setCell ⟨b, 0, none⟩ new) :=
  ⟨(Below.refl _ _).setCell hb _, fun k s p hk => by
    rw [Below.heap_setCell _ _ _ _ (fun e => by subst e; rw [h] at hk; cases hk)]; exact hk⟩
theorem row_ne {w : World} {B b : Nat} {e t : TypeId} {v x : Value} {n : Nat} {xs : List Value} (h : w.ownsRow B e 1 v n xs) (hb : w.heap[b]? = some (.cells #[x] t (0, 0))) (hne : t ≠ e) : v.ownBlock ≠ some b := by
  intro hv
  obtain ⟨c, fz, hc⟩ := row_kind h b hv
  rw [hb] at hc
  cases hc
  exact hne rfl

set_option maxHeartbeats 1000000 in
set_option maxRecDepth 100000 in
theorem flush_any (B bo bw : Nat) (xs : List UInt8) (us : List Nat) (w : World) (h : Two B bo bw xs us w) (hus : ∀ u ∈ us, u < 65536) (hn : xs.length ≤ 900) (hm : us.length ≤ 200) (hB : B ≤ w.heap.size) :
    Calls Tryd.prog 16 #[.pointer (some ⟨bw, 0, none⟩), .pointer (some ⟨bo, 0, none⟩)] w fun e w' => e = .returned (.tuple #[]) ∧
      Two B bo bw (if us = [] then xs else xs ++ 38 :: (lettersOf (bits16 us) ++ [45])) [] w' ∧ Iters B w w' := by
  obtain ⟨lo, lw, ⟨vo, ho, hown⟩, ⟨vw, hw, hownw⟩⟩ := h
  have hne : bo ≠ bw := fun e => by subst e; rw [ho] at hw; cases hw
  have cO := cell_of_one ho
  have fO := free_of_one ho
  have cW := cell_of_one hw
  by_cases h0 : us = []
  · subst h0
    have hownw0 := hownw
    rcases hownw.2 with ⟨rfl, _⟩ | ⟨g, cap, cur, rfl, _⟩
    all_goals
      go_enter Tryd.func16, Tryd.ntmps16
      go_wp2
      refine bodyPost_ret (results_none rfl _ _ _) rfl ?_
      exact ⟨rfl, ⟨lo, lw, ⟨vo, ho, hown⟩, ⟨_, hw, hownw0⟩⟩, Iters.refl _ _⟩
  · have hpos : 0 < us.length := List.length_pos_iff.2 h0
    obtain ⟨g, cap, rfl, _, _⟩ := hownw.form hpos
    rw [if_neg h0]
    go_enter Tryd.func16, Tryd.ntmps16
    go_wp2_with (first
      | (at_builtin; refine wpList_push rfl (.tmp 5) (.tmp 6) 35 rfl _ B 5 (.int .u8 0) 1 Tryd.underlying35 Tryd.info5 rfl _ _ _ (by rfl) hown [.int .u8 38] _ (by rfl) (by simp) (by simp [Value.oneCell']) (by simp) (by rfl) (by decide) (by simp; omega) hB ?_; intro g1 cap1 w1 hown1 hg1 hlt1; have hk1 := (Kept.refl _ _ _).grown hown hg1 (Nat.le_refl _) hB; have ho1 := hk1.one ho (by decide); have hw1 := hk1.one hw (by decide); have hu1 := hk1.row (by decide) hownw; have cO1 := cell_of_one ho1; have fO1 := free_of_one ho1; have cW1 := cell_of_one hw1; clear hown cO fO cW hownw ho hw))
    have hownS := ownsRow_setCell_other hown1 (row_ne hown1 ho1 (by decide)) (a := ⟨bo, 0, none⟩) (.slice (some ⟨g1, 0, none⟩) (xs.length + 1) cap1)
    have huS := ownsRow_setCell_other hu1 (row_ne hu1 ho1 (by decide)) (a := ⟨bo, 0, none⟩) (.slice (some ⟨g1, 0, none⟩) (xs.length + 1) cap1)
    have hoS := one_setCell (u := .slice (some ⟨g1, 0, none⟩) (xs.length + 1) cap1) ho1
    have hwS := (Below.heap_setCell w1 ⟨bo, 0, none⟩ (.slice (some ⟨g1, 0, none⟩) (xs.length + 1) cap1) bw (Ne.symm hne)).trans hw1
    have hIS := (Iters.kept hk1).trans (Iters.store (new := .slice (some ⟨g1, 0, none⟩) (xs.length + 1) cap1) ho1 lo)
    have hBS : B ≤ (w1.setCell ⟨bo, 0, none⟩ (.slice (some ⟨g1, 0, none⟩) (xs.length + 1) cap1)).heap.size := by have := hIS.below.size; omega
    clear hown1 hu1 cO1 fO1 cW1 hw1 ho1 hk1 hg1 hlt1
    refine (appendLetters_any B _ _ _ g cap us _ hownS huS hus (by simp; omega) hm hBS).mono ?_
    rintro e w2 ⟨v2, rfl, hown2, hk2⟩
    obtain ⟨g2, cap2, hv2, _, _⟩ := hown2.form (by simp; omega)
    rw [hv2] at hown2
    rw [hv2]
    have ho2 := hk2.one hoS (by decide)
    have hw2 := hk2.one hwS (by decide)
    have hI2 := hIS.trans (Iters.kept hk2)
    have cO2 := cell_of_one ho2
    have fO2 := free_of_one ho2
    clear hownS huS hoS hwS hIS hk2 hv2
    have hLl : (lettersOf (bits16 us)).length ≤ 600 := by
      have := bits16_length us
      have h1 : (lettersOf (bits16 us)).length ≤ (bits16 us).length / 6 + 1 := by
        unfold lettersOf
        rw [List.length_append, List.length_map, pieces_length]
        split <;> simp
      omega
    generalize hLe : lettersOf (bits16 us) = L at hown2 hLl ⊢
    have HLe : Hid (lettersOf (bits16 us) = L) := hLe
    clear hLe
    simp only [List.length_cons, List.length_nil, Nat.zero_add] at hown2
    have hown3 := ownsRow_setCell_other hown2 (row_ne hown2 ho2 (by decide)) (a := ⟨bo, 0, none⟩) (.slice (some ⟨g2, 0, none⟩) (xs.length + 1 + L.length) cap2)
    have ho3 := one_setCell (u := .slice (some ⟨g2, 0, none⟩) (xs.length + 1 + L.length) cap2) ho2
    have hw3 := (Below.heap_setCell w2 ⟨bo, 0, none⟩ (.slice (some ⟨g2, 0, none⟩) (xs.length + 1 + L.length) cap2) bw (Ne.symm hne)).trans hw2
    have hI3 := hI2.trans (Iters.store (new := .slice (some ⟨g2, 0, none⟩) (xs.length + 1 + L.length) cap2) ho2 lo)
    have hB3 : B ≤ (w2.setCell ⟨bo, 0, none⟩ (.slice (some ⟨g2, 0, none⟩) (xs.length + 1 + L.length) cap2)).heap.size := by have := hI3.below.size; omega
    clear hown2 hw2 hI2
    go_wp2_with (at_builtin; refine wpList_push rfl (.tmp 11) (.tmp 12) 35 rfl _ B 5 (.int .u8 0) 1 Tryd.underlying35 Tryd.info5 rfl _ _ _ (by rfl) hown3 [.int .u8 45] _ (by rfl) (by simp) (by simp [Value.oneCell']) (by simp) (by rfl) (by decide) (by simp; omega) hB3 ?_; intro g4 cap4 w4 hown4 hg4 hlt4; have hk4 := (Kept.refl _ _ _).grown hown3 hg4 (Nat.le_refl _) hB3; have ho4 := hk4.one ho3 (by decide); have hw4 := hk4.one hw3 (by decide); have cO4 := cell_of_one ho4; have fO4 := free_of_one ho4; have cW4 := cell_of_one hw4; have fW4 := free_of_one hw4; clear cO2 fO2 hown3 hg4 hlt4)
    go_end0
    have ho5 := one_setCell (u := .slice (some ⟨g4, 0, none⟩) (xs.length + 1 + L.length + 1) cap4) ho4
    have hw5 := (Below.heap_setCell w4 ⟨bo, 0, none⟩ (.slice (some ⟨g4, 0, none⟩) (xs.length + 1 + L.length + 1) cap4) bw (Ne.symm hne)).trans hw4
    have hown5 := ownsRow_setCell_other hown4 (row_ne hown4 ho4 (by decide)) (a := ⟨bo, 0, none⟩) (.slice (some ⟨g4, 0, none⟩) (xs.length + 1 + L.length + 1) cap4)
    have hown6 := ownsRow_setCell_other hown5 (row_ne hown5 hw5 (by decide)) (a := ⟨bw, 0, none⟩) (.slice none 0 0)
    have ho6 := (Below.heap_setCell _ ⟨bw, 0, none⟩ (.slice none 0 0) bo hne).trans ho5
    have hw6 := one_setCell (u := .slice none 0 0) hw5
    refine ⟨rfl, ⟨lo, lw, ⟨_, ho6, ?_⟩, ⟨_, hw6, World.ownsRow_nil _ _ _ _⟩⟩, ((hI3.trans (Iters.kept hk4)).trans (Iters.store ho4 lo)).trans (Iters.store hw5 lw)⟩
    have hl : (xs ++ 38 :: (L ++ [45])).length = xs.length + 1 + L.length + 1 := by simp; omega
    have hc : Lib.byteCells (xs ++ 38 :: (L ++ [45])) = Lib.byteCells xs ++ [Value.int .u8 38] ++ Lib.byteCells L ++ [Value.int .u8 45] := by simp [Lib.byteCells]
    rw [HLe.out, hl, hc]
    exact hown6
end Go.Proofs.YtiocmecalidlhaaDoor
