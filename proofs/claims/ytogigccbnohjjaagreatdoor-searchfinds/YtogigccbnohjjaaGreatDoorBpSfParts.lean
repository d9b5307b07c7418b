/-
  What the statement's parts does: the document's ParseCommand of a text, and more.
-/
import Derived.Test.YtogigccbnohjjaaGreatDoorMRwParse
import Derived.Test.YtogigccbnohjjaaGreatDoorMSearchLeaf
namespace Go.Proofs.YtogigccbnohjjaaGreatDoor
open Go.RowKit Go.Proofs.Aid Go.Proofs.Hd
open Go.Proofs.Sr (Ar Sz)
set_option maxHeartbeats 4000000
set_option maxRecDepth 100000
theorem tx_mem : ∀ {l : List Ar} {x : Ar}, x ∈ l → txA x ≤ txL l
 | [], x, h => by simp at h
 | a :: r, x, h => by
  rw [txL]
  rcases List.mem_cons.1 h with rfl | h
  ·omega
  ·have := tx_mem h; omega
theorem sz_txn (B : Nat) : ∀ (n : Nat) (l : List Ar), SizeOf.sizeOf l ≤ n → txL l ≤ B → Sz B l := by
 intro n
 induction n with
 | zero =>
  intro l h _
  cases l <;> simp at h
 | succ n ih =>
  intro l h hb
  refine Sz.mk l (fun x hx => ?_) (fun x hx => ?_)
  ·have h1 := tx_mem hx
   cases x with
   | mk k t q => rw [txA] at h1; show t.length ≤ B; omega
  ·have h1 := tx_mem hx
   have h2 := List.sizeOf_lt_of_mem hx
   cases x with
   | mk k t q =>
    rw [txA] at h1
    refine ih q ?_ (by omega)
    simp at h2
    omega
theorem sz_tx (B : Nat) (l : List Ar) (h : txL l ≤ B) : Sz B l := sz_txn B _ l (Nat.le_refl _) h
theorem ags_of {w : World} {Ok : Nat → Prop} {B : Nat} {l : List Ar} {v : Value} (h : Agw w Ok l v) : Sz B l → Ags w Ok B l v := by
 induction h with
 | mk l a c txt vs htx hk ha hc ih =>
  intro hs
  cases hs with
  | mk _ h1 h2 =>
   refine Ags.mk l a c txt vs hc.1 hc.2 (fun j x hj => ⟨htx j x hj, ?_⟩) (fun j x hj => ih j x hj (h2 x (List.mem_of_getElem? hj))) ha
   rw [← list_size, htx j x hj]
   exact h1 x (List.mem_of_getElem? hj)
theorem parts_tx {s : Tx} {k : Cmd} {p c : Nat} (h : parseW s = .ok k p c) : txL k.args ≤ s.length := by
 rw [parseW] at h
 split at h
 ·next hsf =>
  have hE := ends_of hsf
  rw [commandW] at h
  obtain ⟨t, p1, c1, h1, h⟩ := then_ok h
  obtain ⟨u, p2, c2, h2, h⟩ := then_ok h
  obtain ⟨n, p3, c3, h3, h⟩ := then_ok h
  obtain ⟨l, h4, rfl⟩ := map_ok h
  have e2 := blank_wok hE h2
  have e4 := (word_wok (by omega) h3).1
  have e5 := args_tx hE _ _ _ _ _ _ _ e4 h4
  rw [txL] at e5
  show txL l ≤ _
  omega
 ·cases h
def OutPt (w : World) (e : Ending) (w' : World) : Prop := Below w.heap.size w w' ∧ ((∃ a n c, e = .returned (.tuple #[.slice a n c, .bool false])) ∨ ∃ l a n c, e = .returned (.tuple #[.slice a n c, .bool true]) ∧ Ags w' (fun q => w.heap.size ≤ q) 606 l (.slice a n c))
theorem parts_big (s : ByteArray) (w : World) (hs : 600 < s.size) : Calls Tryz.prog 4 #[.string s] w fun e w' => OutPt w e w' := by
 have h1 : (600 : Int) < (s.size : Int) := by omega
 go_enter Tryz.func4, Tryz.ntmps4
 go_wp2_with fail
 go_ret2
 exact ⟨Below.refl _ _, Or.inl ⟨_, _, _, rfl⟩⟩
theorem parts_is (s : ByteArray) (w : World) (hf : FineAt w) (hn : NumAt w) : Calls Tryz.prog 4 #[.string s] w fun e w' => OutPt w e w' := by
 by_cases hs : 600 < s.size
 ·exact parts_big s w hs
 have h1 : ¬ (600 : Int) < (s.size : Int) := by omega
 obtain ⟨P, hP⟩ : ∃ P : ByteArray, (⟨#[97, 32, 98, 32]⟩ : ByteArray) ++ s ++ (⟨#[13, 10]⟩ : ByteArray) = P := ⟨_, rfl⟩
 have hPs : P.size = s.size + 6 := by rw [← hP]; simp; show 4 + s.size + 2 = s.size + 6; omega
 have cP := rparse_is P w (by omega) hf hn
 obtain ⟨T, hT⟩ : ∃ T, parseW P.data.toList = T := ⟨_, rfl⟩
 rw [hT] at cP
 have HT : Hid (parseW P.data.toList = T) := hT
 have HPS : Hid (P.data.toList.length ≤ 606) := by show _ ≤ _; rw [list_size]; omega
 have HF : Hid (∀ W, Below w.heap.size w W → FineAt W) := fun W h => hf.below h (Nat.le_refl _)
 clear hT hf hn hPs
 go_enter Tryz.func4, Tryz.ntmps4
 go_wp2_with fail
 refine cP.mono ?_
 intro e w1 h
 clear cP
 obtain ⟨tb, nb, va, vn, vc, E, Q, rfl, hb1, hE⟩ : ∃ tb nb va vn vc E Q, e = .returned (.tuple #[.agg #[.string tb, .string nb, .slice va vn vc], .agg #[.int .i64 E, .int .i64 Q]]) ∧ Below w.heap.size w w1 ∧ ((E ≠ 0) ∨ (E = 0 ∧ Q = -1 ∧ ∃ l, Agw w1 (fun q => w.heap.size ≤ q) l (.slice va vn vc) ∧ Sz 606 l)) := by
  cases T with
  | bad n p => obtain ⟨rfl, hn, hb⟩ := h; exact ⟨_, _, _, _, _, _, _, rfl, hb, Or.inl hn⟩
  | ok k p c =>
   obtain ⟨tb, nb, v, rfl, _, _, hv, hb⟩ := h
   obtain ⟨a, c', rfl⟩ := hv.form
   refine ⟨tb, nb, a, _, c', 0, -1, rfl, hb, Or.inr ⟨rfl, rfl, k.args, hv, ?_⟩⟩
   have h2 := HPS.out
   exact sz_tx _ _ (Nat.le_trans (by exact parts_tx HT.out) h2)
 clear h
 have b2 : Below w1.heap.size w1 (w1.alloc (.cells #[.string ⟨#[]⟩, .string ⟨#[]⟩, .slice none 0 0] 48)) := (Below.refl _ _).alloc (Nat.le_refl _) _
 obtain ⟨W2, hW2, hz2, e1, e2, hb2⟩ := two_boxes w1 #[.string ⟨#[]⟩, .string ⟨#[]⟩, .slice none 0 0] #[.int .i64 0, .int .i64 0] 48 50
 obtain ⟨C1, hC1⟩ : ∃ n, w1.heap.size = n := ⟨_, rfl⟩
 rw [hC1] at e1 e2 hz2
 have x0 := rd_cell (j := 0) e1 rfl
 have x1 := rd_cell (j := 1) e1 rfl
 have x2 := rd_cell (j := 2) e1 rfl
 have xf0 := rd_free e1 0
 have xf1 := rd_free e1 1
 have xf2 := rd_free e1 2
 have y0 := rd_cell (j := 0) e2 rfl
 have y1 := rd_cell (j := 1) e2 rfl
 have yf0 := rd_free e2 0
 have yf1 := rd_free e2 1
 obtain ⟨W3, hW3⟩ : ∃ W, ((W2.setCell ⟨C1, 0, none⟩ (.string tb)).setCell ⟨C1, 1, none⟩ (.string nb)).setCell ⟨C1, 2, none⟩ (.slice va vn vc) = W := ⟨_, rfl⟩
 obtain ⟨W4, hW4⟩ : ∃ W, (W3.setCell ⟨C1 + 1, 0, none⟩ (.int .i64 E)).setCell ⟨C1 + 1, 1, none⟩ (.int .i64 Q) = W := ⟨_, rfl⟩
 have e3 : W3.heap[C1]? = some (.cells #[.string tb, .string nb, .slice va vn vc] 48 (0, 0)) := by
  rw [← hW3]
  exact rd_set (i := 2) _ (rd_set (i := 1) _ (rd_set (i := 0) _ e1))
 have e3' : W3.heap[C1 + 1]? = some (.cells #[.int .i64 0, .int .i64 0] 50 (0, 0)) := by
  rw [← hW3, Below.heap_setCell _ _ _ _ (by simp), Below.heap_setCell _ _ _ _ (by simp), Below.heap_setCell _ _ _ _ (by simp)]
  exact e2
 have y0' := rd_cell (j := 0) e3' rfl
 have y1' := rd_cell (j := 1) e3' rfl
 have yf0' := rd_free e3' 0
 have yf1' := rd_free e3' 1
 have e4 : W4.heap[C1]? = some (.cells #[.string tb, .string nb, .slice va vn vc] 48 (0, 0)) := by
  rw [← hW4, Below.heap_setCell _ _ _ _ (by simp), Below.heap_setCell _ _ _ _ (by simp)]
  exact e3
 have e4' : W4.heap[C1 + 1]? = some (.cells #[.int .i64 E, .int .i64 Q] 50 (0, 0)) := by
  rw [← hW4]
  exact rd_set (i := 1) _ (rd_set (i := 0) _ e3')
 have b14 : Below w1.heap.size w1 W4 := by
  rw [← hW4, ← hW3]
  exact (((((hb2.setCell (p := ⟨C1, 0, none⟩) (show w1.heap.size ≤ C1 by omega) _).setCell (p := ⟨C1, 1, none⟩) (show w1.heap.size ≤ C1 by omega) _).setCell (p := ⟨C1, 2, none⟩) (show w1.heap.size ≤ C1 by omega) _).setCell (p := ⟨C1 + 1, 0, none⟩) (show w1.heap.size ≤ C1 + 1 by omega) _).setCell (p := ⟨C1 + 1, 1, none⟩) (show w1.heap.size ≤ C1 + 1 by omega) _)
 have b04 : Below w.heap.size w W4 := hb1.trans (b14.mono hb1.size)
 have hfi := HF.out _ b04
 have KS : ((W4.cell? ⟨C1, 0, none⟩ = some (.string tb) ∧ W4.cell? ⟨C1, 1, none⟩ = some (.string nb) ∧ W4.cell? ⟨C1, 2, none⟩ = some (.slice va vn vc)) ∧ (W4.cell? ⟨C1 + 1, 0, none⟩ = some (.int .i64 E) ∧ W4.cell? ⟨C1 + 1, 1, none⟩ = some (.int .i64 Q)) ∧ W4.cell? ⟨0, 0, none⟩ = some (.int .i64 0) ∧ W4.cell? ⟨0, 1, none⟩ = some (.int .i64 (-1))) := ⟨⟨rd_cell e4 rfl, rd_cell e4 rfl, rd_cell e4 rfl⟩, ⟨rd_cell e4' rfl, rd_cell e4' rfl⟩, hfi.1, hfi.2⟩
 have HKS : Hid (((W4.cell? ⟨C1, 0, none⟩ = some (.string tb) ∧ W4.cell? ⟨C1, 1, none⟩ = some (.string nb) ∧ W4.cell? ⟨C1, 2, none⟩ = some (.slice va vn vc)) ∧ (W4.cell? ⟨C1 + 1, 0, none⟩ = some (.int .i64 E) ∧ W4.cell? ⟨C1 + 1, 1, none⟩ = some (.int .i64 Q)) ∧ W4.cell? ⟨0, 0, none⟩ = some (.int .i64 0) ∧ W4.cell? ⟨0, 1, none⟩ = some (.int .i64 (-1)))) := KS
 have HEND : Hid (∀ b, ((b = true ∧ E = 0) ∨ (b = false ∧ E ≠ 0)) → OutPt w (.returned (.tuple #[.slice va vn vc, .bool b])) W4.drew) := fun b h => by
  refine ⟨b04.drew, ?_⟩
  rcases h with ⟨rfl, h0⟩ | ⟨rfl, h0⟩
  ·rcases hE with hE | ⟨_, _, l, hl, hz⟩
   ·exact absurd h0 hE
   ·refine Or.inr ⟨l, va, vn, vc, rfl, ags_of (hl.kept fun k hk hlt => ⟨hk, ?_⟩) hz⟩
    exact b14.block k hlt
  ·exact Or.inl ⟨_, _, _, rfl⟩
 have HQ : Hid (E = 0 → Q = -1) := fun h0 => by
  rcases hE with hE | ⟨_, hq, _⟩
  ·exact absurd h0 hE
  ·exact hq
 clear e1 e2 e3 e3' e4 e4' b14 b04 hfi KS hb1 hE b2 hb2
 by_cases hE0 : E = 0
 ·obtain rfl := HQ.out hE0
  subst hE0
  go_wp2_with fail
  refine wp_region_held_drew (S := fun W => (W.cell? ⟨C1, 0, none⟩ = some (.string tb) ∧ W.cell? ⟨C1, 1, none⟩ = some (.string nb) ∧ W.cell? ⟨C1, 2, none⟩ = some (.slice va vn vc)) ∧ (W.cell? ⟨C1 + 1, 0, none⟩ = some (.int .i64 0) ∧ W.cell? ⟨C1 + 1, 1, none⟩ = some (.int .i64 (-1))) ∧ W.cell? ⟨0, 0, none⟩ = some (.int .i64 0) ∧ W.cell? ⟨0, 1, none⟩ = some (.int .i64 (-1))) (by kernel_rfl) ?_ (fun hHeld => ?_)
  ·exact HKS.out
  refine wpAnyH_take (i := 0) (v := ?_) rfl (by kernel_rfl) (by kernel_rfl) (by kernel_rfl) (fun _ _ _ h => h) (Or.inl ⟨by rfl, ?_⟩) (by assumption) ?_
  rotate_left
  ·intro w hSw; go_simp; (try with_reducible rfl)
  change wpAnyH _ _ _ _ _ _ _ (Act.put _ (some 16) _) _; simp only [Act.put, List.setIfInBounds_toArray, List.set_cons_zero, List.set_cons_succ]
  refine wpAnyH_take (i := 1) (v := ?_) rfl (by kernel_rfl) (by kernel_rfl) (by kernel_rfl) (fun _ _ _ h => h) (Or.inl ⟨by rfl, ?_⟩) (by assumption) ?_
  rotate_left
  ·intro w hSw; go_simp; (try with_reducible rfl)
  change wpAnyH _ _ _ _ _ _ _ (Act.put _ (some 17) _) _; simp only [Act.put, List.setIfInBounds_toArray, List.set_cons_zero, List.set_cons_succ]
  refine wpAnyH_take (i := 2) (v := ?_) rfl (by kernel_rfl) (by kernel_rfl) (by kernel_rfl) (fun _ _ _ h => h) (Or.inl ⟨by rfl, ?_⟩) (by assumption) ?_
  rotate_left
  ·intro w hSw; go_simp; (try with_reducible rfl)
  change wpAnyH _ _ _ _ _ _ _ (Act.put _ (some 18) _) _; simp only [Act.put, List.setIfInBounds_toArray, List.set_cons_zero, List.set_cons_succ]
  refine wpAnyH_take (i := 3) (v := ?_) rfl (by kernel_rfl) (by kernel_rfl) (by kernel_rfl) (fun _ _ _ h => h) (Or.inl ⟨by rfl, ?_⟩) (by assumption) ?_
  rotate_left
  ·intro w hSw; go_simp; (try with_reducible rfl)
  change wpAnyH _ _ _ _ _ _ _ (Act.put _ (some 19) _) _; simp only [Act.put, List.setIfInBounds_toArray, List.set_cons_zero, List.set_cons_succ]
  refine wpAnyH_take (i := 4) (v := ?_) rfl (by kernel_rfl) (by kernel_rfl) (by kernel_rfl) (fun _ _ _ h => h) (Or.inl ⟨by rfl, ?_⟩) (by assumption) ?_
  rotate_left
  ·intro w hSw; go_simp; (try with_reducible rfl)
  change wpAnyH _ _ _ _ _ _ _ (Act.put _ (some 20) _) _; simp only [Act.put, List.setIfInBounds_toArray, List.set_cons_zero, List.set_cons_succ]
  refine wpAnyH_take (i := 5) (v := ?_) rfl (by kernel_rfl) (by kernel_rfl) (by kernel_rfl) (fun _ _ _ h => h) (Or.inl ⟨by rfl, ?_⟩) (by assumption) ?_
  rotate_left
  ·intro w hSw; go_simp; (try with_reducible rfl)
  change wpAnyH _ _ _ _ _ _ _ (Act.put _ (some 2) _) _; simp only [Act.put, List.setIfInBounds_toArray, List.set_cons_zero, List.set_cons_succ]
  refine wpAnyH_take (i := 6) (v := ?_) rfl (by kernel_rfl) (by kernel_rfl) (by kernel_rfl) (fun _ _ _ h => h) (Or.inl ⟨by rfl, ?_⟩) (by assumption) ?_
  rotate_left
  ·intro w hSw; go_simp; (try with_reducible rfl)
  change wpAnyH _ _ _ _ _ _ _ (Act.put _ (some 3) _) _; simp only [Act.put, List.setIfInBounds_toArray, List.set_cons_zero, List.set_cons_succ]
  refine wpAnyH_done (by kernel_rfl) ?_ _
  go_wp2_with fail
  go_ret2
  exact HEND.out true (by first | exact Or.inl ⟨rfl, rfl⟩ | exact Or.inl ⟨rfl, trivial⟩ | simp)
 ·have i1 : (E == 0) = false := by simpa using hE0
  go_wp2_with fail
  refine wp_region_held_drew (S := fun W => (W.cell? ⟨C1, 0, none⟩ = some (.string tb) ∧ W.cell? ⟨C1, 1, none⟩ = some (.string nb) ∧ W.cell? ⟨C1, 2, none⟩ = some (.slice va vn vc)) ∧ (W.cell? ⟨C1 + 1, 0, none⟩ = some (.int .i64 E) ∧ W.cell? ⟨C1 + 1, 1, none⟩ = some (.int .i64 Q)) ∧ W.cell? ⟨0, 0, none⟩ = some (.int .i64 0) ∧ W.cell? ⟨0, 1, none⟩ = some (.int .i64 (-1))) (by kernel_rfl) ?_ (fun hHeld => ?_)
  ·exact HKS.out
  refine wpAnyH_take (i := 0) (v := ?_) rfl (by kernel_rfl) (by kernel_rfl) (by kernel_rfl) (fun _ _ _ h => h) (Or.inl ⟨by rfl, ?_⟩) (by assumption) ?_
  rotate_left
  ·intro w hSw; go_simp; (try with_reducible rfl)
  change wpAnyH _ _ _ _ _ _ _ (Act.put _ (some 16) _) _; simp only [Act.put, List.setIfInBounds_toArray, List.set_cons_zero, List.set_cons_succ]
  refine wpAnyH_take (i := 1) (v := ?_) rfl (by kernel_rfl) (by kernel_rfl) (by kernel_rfl) (fun _ _ _ h => h) (Or.inl ⟨by rfl, ?_⟩) (by assumption) ?_
  rotate_left
  ·intro w hSw; go_simp; (try with_reducible rfl)
  change wpAnyH _ _ _ _ _ _ _ (Act.put _ (some 17) _) _; simp only [Act.put, List.setIfInBounds_toArray, List.set_cons_zero, List.set_cons_succ]
  refine wpAnyH_take (i := 2) (v := ?_) rfl (by kernel_rfl) (by kernel_rfl) (by kernel_rfl) (fun _ _ _ h => h) (Or.inl ⟨by rfl, ?_⟩) (by assumption) ?_
  rotate_left
  ·intro w hSw; go_simp; (try with_reducible rfl)
  change wpAnyH _ _ _ _ _ _ _ (Act.put _ (some 18) _) _; simp only [Act.put, List.setIfInBounds_toArray, List.set_cons_zero, List.set_cons_succ]
  refine wpAnyH_take (i := 3) (v := ?_) rfl (by kernel_rfl) (by kernel_rfl) (by kernel_rfl) (fun _ _ _ h => h) (Or.inl ⟨by rfl, ?_⟩) (by assumption) ?_
  rotate_left
  ·intro w hSw; go_simp; (try with_reducible rfl)
  change wpAnyH _ _ _ _ _ _ _ (Act.put _ (some 19) _) _; simp only [Act.put, List.setIfInBounds_toArray, List.set_cons_zero, List.set_cons_succ]
  refine wpAnyH_take (i := 4) (v := ?_) rfl (by kernel_rfl) (by kernel_rfl) (by kernel_rfl) (fun _ _ _ h => h) (Or.inl ⟨by rfl, ?_⟩) (by assumption) ?_
  rotate_left
  ·intro w hSw; go_simp; (try with_reducible rfl)
  change wpAnyH _ _ _ _ _ _ _ (Act.put _ (some 20) _) _; simp only [Act.put, List.setIfInBounds_toArray, List.set_cons_zero, List.set_cons_succ]
  refine wpAnyH_take (i := 5) (v := ?_) rfl (by kernel_rfl) (by kernel_rfl) (by kernel_rfl) (fun _ _ _ h => h) (Or.inl ⟨by rfl, ?_⟩) (by assumption) ?_
  rotate_left
  ·intro w hSw; go_simp; (try with_reducible rfl)
  change wpAnyH _ _ _ _ _ _ _ (Act.put _ (some 2) _) _; simp only [Act.put, List.setIfInBounds_toArray, List.set_cons_zero, List.set_cons_succ]
  refine wpAnyH_take (i := 6) (v := ?_) rfl (by kernel_rfl) (by kernel_rfl) (by kernel_rfl) (fun _ _ _ h => h) (Or.inl ⟨by rfl, ?_⟩) (by assumption) ?_
  rotate_left
  ·intro w hSw; go_simp; (try with_reducible rfl)
  change wpAnyH _ _ _ _ _ _ _ (Act.put _ (some 3) _) _; simp only [Act.put, List.setIfInBounds_toArray, List.set_cons_zero, List.set_cons_succ]
  refine wpAnyH_done (by kernel_rfl) ?_ _
  go_wp2_with fail
  go_ret2
  exact HEND.out false (Or.inr ⟨rfl, hE0⟩)
end Go.Proofs.YtogigccbnohjjaaGreatDoor
namespace Go.Proofs.YtogigccbnohjjaaGreatDoor
open Go.RowKit Go.Proofs.Aid Go.Proofs.Sq Go.Sort
set_option maxHeartbeats 2000000
set_option maxRecDepth 100000
def oneB (l : List UInt8) : Int × Bool := if l = [42] then (0, true) else ((numB l 2147483647).1, (numB l 2147483647).2 && decide (0 < (numB l 2147483647).1))
theorem ref_one (s : ByteArray) (w : World) (hs : s.size ≤ 1000000) (hg : NumAt w) :
  Calls Tryz.prog 112 #[.string s] w fun e w' => e = .returned (.tuple #[.int .i64 (oneB s.data.toList).1, .bool (oneB s.data.toList).2]) ∧ Below w.heap.size w w' := by
 unfold oneB
 by_cases h : s = ⟨#[42]⟩
 ·subst h
  rw [if_pos rfl]
  go_enter Tryz.func112, Tryz.ntmps112
  go_wp2_with fail
  go_ret2
  exact ⟨rfl, Below.refl _ _⟩
 ·have h1 : s.data.toList ≠ [42] := fun e => h (num_ba e)
  rw [if_neg h1]
  have cN := ref_num s 2147483647 w hs hg
  obtain ⟨⟨n, b⟩, hnb⟩ : ∃ R, numB s.data.toList 2147483647 = R := ⟨_, rfl⟩
  rw [hnb] at cN ⊢
  simp only at cN ⊢
  have hne : ¬ s.toList = [42] := by rw [Lib.toList_data]; exact h1
  have hne2 : (s.toList == [42]) = false := by rw [beq_eq_false_iff_ne]; exact hne
  have hne3 : (s.toList == ByteArray.toList ⟨#[42]⟩) = false := by rw [Lib.toList_data (⟨#[42]⟩ : ByteArray)]; exact hne2
  clear hnb h h1
  go_enter Tryz.func112, Tryz.ntmps112
  go_wp2_with fail
  refine cN.mono ?_
  rintro e w1 ⟨rfl, hb1⟩
  clear cN
  cases b
  ·go_wp2_with fail
   go_ret2
   exact ⟨by simp, hb1⟩
  ·go_wp2_with fail
   go_ret2
   exact ⟨by simp, hb1⟩
end Go.Proofs.YtogigccbnohjjaaGreatDoor
namespace Go.Proofs.YtogigccbnohjjaaGreatDoor
open Go.RowKit Go.Proofs.Aid Go.Proofs.Sq Go.Sort
theorem one_some {l : List UInt8} {n : Nat} (h : numOf l = some n) : oneB l = ((n : Int), true) := by
 unfold oneB
 by_cases h42 : l = [42]
 ·subst h42
  have : n = 0 := by
   have e : numOf [42] = some 0 := by decide
   rw [e] at h; cases h; rfl
  subst this
  rfl
 ·obtain ⟨h1, h2⟩ := num_some h42 h
  rw [if_neg h42, h1]
  simp only
  rw [decide_eq_true (by omega)]
  rfl
theorem one_none {l : List UInt8} (h : numOf l = none) : (oneB l).2 = false := by
 unfold oneB
 by_cases h42 : l = [42]
 ·subst h42; exact absurd h (by decide)
 ·rw [if_neg h42]
  show ((numB l 2147483647).2 && decide (0 < (numB l 2147483647).1)) = false
  by_cases h1 : ((numB l 2147483647).2 && decide (0 < (numB l 2147483647).1)) = true
  ·exfalso
   rw [Bool.and_eq_true, decide_eq_true_eq] at h1
   obtain ⟨h2, h3⟩ := h1
   unfold numB at h2 h3
   cases ha : Lib.atoiAll l with
   | ok n =>
    rw [ha] at h2 h3
    simp only at h2 h3
    rw [Bool.and_eq_true, decide_eq_true_eq, decide_eq_true_eq] at h2
    have := star_back h2.1.1 h2.1.2
    rw [star, if_neg (by omega), h2.2, h] at this
    cases this
   | «syntax» => rw [ha] at h2; cases h2
   | range => rw [ha] at h2; cases h2
  ·simpa using h1
end Go.Proofs.YtogigccbnohjjaaGreatDoor
namespace Go.Proofs.Sq
theorem splitK_cut (c : UInt8) (k : Nat) (s : List UInt8) : Lib.splitK [c] 0 (k + 1) s = if (cutAt c s).2.2 = false then [s] else (cutAt c s).1 :: Lib.splitK [c] 0 k (cutAt c s).2.1 := by
 rw [← cut_eq, Lib.splitK]
 by_cases h : Lib.index s [c] = -1
 ·have e : Lib.cut s [c] = (s, [], false) := by rw [Lib.cut, if_neg (by omega)]
  rw [if_pos (beq_iff_eq.2 h), e, if_pos rfl]
 ·have hge := Lib.index_ge s [c]
  have e : Lib.cut s [c] = (s.take (Lib.index s [c]).toNat, s.drop ((Lib.index s [c]).toNat + [c].length), true) := by rw [Lib.cut, if_pos (by omega)]
  rw [if_neg (fun e => h (beq_iff_eq.1 e)), e, if_neg (by simp)]
  rfl
theorem splitK_all (c : UInt8) : ∀ (k : Nat) (s : List UInt8), s.count c ≤ k → Lib.splitK [c] 0 k s = between c s
 | 0, s, h => by
  have : c ∉ s := fun hm => by have := List.count_pos_iff.2 hm; omega
  rw [between_none this]; rfl
 | k + 1, s, h => by
  rw [splitK_cut]
  cases hc : (cutAt c s).2.2 with
  | false => rw [if_pos rfl, (cutAt_miss hc).2.2]
  | true =>
   obtain ⟨h1, h2⟩ := cutAt_hit hc
   have h3 : (cutAt c s).2.1.count c ≤ k := by
    have := congrArg (List.count c) h1
    rw [List.count_append, List.count_cons_self] at this
    omega
   rw [if_neg (by simp), splitK_all c k _ h3, h2]
theorem split_between (c : UInt8) (s : ByteArray) : (Lib.splitB ⟨#[c]⟩ 0 (Lib.countB s ⟨#[c]⟩) s).map (·.data.toList) = between c s.data.toList := by
 rw [Lib.splitB_data]
 refine splitK_all c _ _ ?_
 have : Lib.countB s ⟨#[c]⟩ = Lib.count s.data.toList [c] := rfl
 rw [this, Lib.count_one]
 exact Nat.le_refl _
theorem split_two (c : UInt8) (s : ByteArray) : (Lib.splitB ⟨#[c]⟩ 0 (min 2 (s.size + 1) - 1) s).map (·.data.toList) = if (cutAt c s.data.toList).2.2 = false then [s.data.toList] else [(cutAt c s.data.toList).1, (cutAt c s.data.toList).2.1] := by
 rw [Lib.splitB_data]
 by_cases h : s.size = 0
 ·have hd : s.data.toList = [] := by
   have : s.data.size = 0 := h
   rw [Array.size_eq_length_toList] at this
   exact List.eq_nil_of_length_eq_zero this
  rw [h, hd]
  rfl
 ·rw [show min 2 (s.size + 1) - 1 = 0 + 1 by omega]
  show Lib.splitK [c] 0 (0 + 1) _ = _
  rw [splitK_cut]
  rfl
end Go.Proofs.Sq
namespace Go.Proofs.YtogigccbnohjjaaGreatDoor
open Go.RowKit Go.Proofs.Aid Go.Proofs.Sq
set_option maxHeartbeats 2000000
set_option maxRecDepth 100000
theorem drop_cons (s : ByteArray) (k : Nat) (h : k < s.size) : s.data.toList.drop k = s[k] :: s.data.toList.drop (k + 1) := by
 have hl : k < s.data.toList.length := by rw [← Lib.size_eq]; exact h
 rw [List.drop_eq_getElem_cons hl, Array.getElem_toList]; rfl
theorem num_no {c : UInt8} {acc : Nat} {r : List UInt8} {ANS : Option Nat} (h : Hid (((digit? c).bind fun d => if acc * 10 + d ≤ 2147483647 then digitsFrom (acc * 10 + d) r else none) = ANS)) (h1 : c.toNat < 48 ∨ 57 < c.toNat ∨ 2147483647 < acc * 10 + (c.toNat - 48)) : none = ANS := by
 have h2 : ((digit? c).bind fun d => if acc * 10 + d ≤ 2147483647 then digitsFrom (acc * 10 + d) r else none) = ANS := h
 rw [← h2]
 unfold digit?
 by_cases h3 : 48 ≤ c.toNat ∧ c.toNat ≤ 57
 ·rw [if_pos h3, Option.bind_some, if_neg (by omega)]
 ·rw [if_neg h3]; rfl
theorem num_yes {c : UInt8} {acc : Nat} {r : List UInt8} {ANS : Option Nat} (h : Hid (((digit? c).bind fun d => if acc * 10 + d ≤ 2147483647 then digitsFrom (acc * 10 + d) r else none) = ANS)) (h1 : 48 ≤ c.toNat) (h3 : c.toNat ≤ 57) (h4 : acc * 10 + (c.toNat - 48) ≤ 2147483647) : digitsFrom (acc * 10 + (c.toNat - 48)) r = ANS := by
 have h2 : ((digit? c).bind fun d => if acc * 10 + d ≤ 2147483647 then digitsFrom (acc * 10 + d) r else none) = ANS := h
 rw [← h2]
 unfold digit?
 rw [if_pos ⟨h1, h3⟩, Option.bind_some, if_pos h4]
theorem number_any (s : ByteArray) (w : World) (hs : s.size ≤ 2000000) :
  Calls Tryz.prog 139 #[.string s] w fun e w' => ((∃ n : Nat, numOf s.data.toList = some n ∧ n ≤ 2147483647 ∧ e = .returned (.tuple #[.int .i64 (n : Int), .bool true])) ∨ (numOf s.data.toList = none ∧ e = .returned (.tuple #[.int .i64 0, .bool false]))) ∧ w' = w := by
 by_cases h1 : s = ⟨#[42]⟩
 ·subst h1
  go_enter Tryz.func139, Tryz.ntmps139
  go_wp2
  go_ret2
  exact ⟨Or.inl ⟨0, rfl, by decide, rfl⟩, rfl⟩
 have hl1 : s.data.toList ≠ [42] := by
  intro h2; apply h1
  rw [show s = ⟨s.data.toList.toArray⟩ by simp, h2]
 by_cases h2 : s.size = 0
 ·have hn : numOf s.data.toList = none := by
   have hz : s.data.toList = [] := List.eq_nil_of_length_eq_zero (by rw [← Lib.size_eq]; exact h2)
   rw [hz]; rfl
  rw [hn]
  have f1 : (s.toList == [42]) = false := by rw [Lib.toList_data]; simpa using hl1
  have f2 : s.toList = [] := by rw [Lib.toList_data]; exact List.eq_nil_of_length_eq_zero (by rw [← Lib.size_eq]; exact h2)
  go_enter Tryz.func139, Tryz.ntmps139
  go_wp2
  go_ret2
  exact ⟨Or.inr ⟨trivial, rfl⟩, rfl⟩
 have hd0 := drop_cons s 0 (by omega)
 rw [List.drop_zero] at hd0
 by_cases h3 : s[0]'(by omega) = 48
 ·have hn : numOf s.data.toList = none := by
   unfold numOf
   rw [if_neg hl1, if_pos (Or.inr (by rw [hd0, h3]; rfl))]
  rw [hn]
  have f1 : (s.toList == [42]) = false := by rw [Lib.toList_data]; simpa using hl1
  have f2 : s.toList.isEmpty = false := by rw [Lib.toList_data, hd0]; rfl
  have f3 : (((s[0]'(by omega)).toNat : Int) == 48) = true := by rw [h3]; rfl
  go_enter Tryz.func139, Tryz.ntmps139
  go_wp2
  go_ret2
  exact ⟨Or.inr ⟨trivial, rfl⟩, rfl⟩
 have hn : numOf s.data.toList = digitsFrom 0 s.data.toList := by
  unfold numOf
  rw [if_neg hl1, if_neg (by rw [hd0]; rintro (h | h); cases h; exact h3 (by simpa using h))]
 rw [hn]
 obtain ⟨ANS, hANS⟩ : ∃ ANS, digitsFrom 0 s.data.toList = ANS := ⟨_, rfl⟩
 rw [hANS]
 have f1 : (s.toList == [42]) = false := by rw [Lib.toList_data]; simpa using hl1
 have f2 : s.toList.isEmpty = false := by rw [Lib.toList_data, hd0]; rfl
 have f3 : (((s[0]'(by omega)).toNat : Int) == 48) = false := by
  rw [beq_eq_false_iff_ne]
  intro e
  exact h3 (UInt8.toNat_inj.1 (by show (s[0]'(by omega)).toNat = 48; omega))
 clear hn hd0
 go_enter Tryz.func139, Tryz.ntmps139
 go_wp2
 go_loopw [4, 18] (fun nv i wr => ∃ (k acc : Nat), i = .int .i64 (k : Int) ∧ nv = .int .i64 (acc : Int) ∧ k ≤ s.size ∧ acc ≤ 2147483647 ∧ digitsFrom acc (s.data.toList.drop k) = ANS ∧ wr = w) (fun _ i _ => s.size - (intOf i).toNat)
 case atStart => exact ⟨0, 0, rfl, rfl, by omega, by decide, by simpa using hANS, rfl⟩
 case round =>
  obtain ⟨k, acc, rfl, rfl, hk, hacc, hd, rfl⟩ := hrel
  clear hANS
  by_cases hlt : k < s.size
  ·rw [drop_cons s k hlt, digitsFrom] at hd
   generalize hc : s[k] = c at hd
   have HD : Hid (((digit? c).bind fun d => if acc * 10 + d ≤ 2147483647 then digitsFrom (acc * 10 + d) (s.data.toList.drop (k + 1)) else none) = ANS) := hd
   clear hd
   go_wp2_with fail
   all_goals first
    | (go_ret2; exact ⟨Or.inr ⟨(num_no HD (by omega)).symm, rfl⟩, rfl⟩)
    | (go_roundw
       case rel => exact ⟨k + 1, acc * 10 + (c.toNat - 48), by go_num, by congr 1; omega, by omega, by omega, num_yes HD (by omega) (by omega) (by omega), trivial⟩
       case measure => simp [intOf]; omega)
  ·rw [List.drop_eq_nil_of_le (by rw [← Lib.size_eq]; omega), digitsFrom] at hd
   have HD : Hid (some acc = ANS) := hd
   clear hd
   go_wp2
   go_ret2
   exact ⟨Or.inl ⟨acc, HD.symm, hacc, rfl⟩, rfl⟩
end Go.Proofs.YtogigccbnohjjaaGreatDoor
