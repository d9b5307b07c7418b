/-
  A block of six cells that is written, and rows of six. Of no program but by the reader's text.
-/
import Derived.Test.YtligkpcoajnjmaaDoorButAid
import Derived.Test.YtligkpcoajnjmaaDoorHeadSpec
namespace Go.Proofs.YtligkpcoajnjmaaDoor
open Go.RowKit Go.Proofs.Aid Go.Proofs.Hd

theorem setm_read {W : World} {b i : Nat} {arr : Array Value} {t : TypeId} (hh : W.heap[b]? = some (.cells arr t (0, 0))) (hi : i < arr.size) (x : Value) : (W.setCell ⟨b, i, none⟩ x).cell? ⟨b, i, none⟩ = some x :=
  rd_cell (rd_set x hh) (by rw [Array.getElem?_setIfInBounds_self_of_lt hi])
/-- Six cells that were set, read. -/
theorem six_set {W : World} {R : Nat} {a0 a1 a2 a3 a4 a5 : Value} {t : TypeId} (hh : W.heap[R]? = some (.cells #[a0, a1, a2, a3, a4, a5] t (0, 0))) (x0 x1 x2 x3 x4 x5 : Value) :
    ((((((W.setCell ⟨R, 0, none⟩ x0).setCell ⟨R, 1, none⟩ x1).setCell ⟨R, 2, none⟩ x2).setCell ⟨R, 3, none⟩ x3).setCell ⟨R, 4, none⟩ x4).setCell ⟨R, 5, none⟩ x5).heap[R]? = some (.cells #[x0, x1, x2, x3, x4, x5] t (0, 0)) := by
  have h0 := rd_set (i := 0) x0 hh
  have h1 := rd_set (i := 1) x1 h0
  have h2 := rd_set (i := 2) x2 h1
  have h3 := rd_set (i := 3) x3 h2
  have h4 := rd_set (i := 4) x4 h3
  exact rd_set (i := 5) x5 h4
theorem six_other (W : World) {R k : Nat} (h : k ≠ R) (x0 x1 x2 x3 x4 x5 : Value) : ((((((W.setCell ⟨R, 0, none⟩ x0).setCell ⟨R, 1, none⟩ x1).setCell ⟨R, 2, none⟩ x2).setCell ⟨R, 3, none⟩ x3).setCell ⟨R, 4, none⟩ x4).setCell ⟨R, 5, none⟩ x5).heap[k]? = W.heap[k]? := by
  rw [Below.heap_setCell _ _ _ _ h, Below.heap_setCell _ _ _ _ h, Below.heap_setCell _ _ _ _ h, Below.heap_setCell _ _ _ _ h, Below.heap_setCell _ _ _ _ h, Below.heap_setCell _ _ _ _ h]
theorem six_but {base rb R : Nat} {w W : World} (h : But base rb w W) (hR : base ≤ R) (x0 x1 x2 x3 x4 x5 : Value) : But base rb w ((((((W.setCell ⟨R, 0, none⟩ x0).setCell ⟨R, 1, none⟩ x1).setCell ⟨R, 2, none⟩ x2).setCell ⟨R, 3, none⟩ x3).setCell ⟨R, 4, none⟩ x4).setCell ⟨R, 5, none⟩ x5) :=
  h.trans (to_but ((((((((Below.refl base W).setCell (p := ⟨R, 0, none⟩) hR x0).setCell (p := ⟨R, 1, none⟩) hR x1).setCell (p := ⟨R, 2, none⟩) hR x2).setCell (p := ⟨R, 3, none⟩) hR x3).setCell (p := ⟨R, 4, none⟩) hR x4).setCell (p := ⟨R, 5, none⟩) hR x5)))
theorem flat_length {rows : List (List Value)} (h : ∀ xs ∈ rows, xs.length = 6) : rows.flatten.length = rows.length * 6 := by
  induction rows with
  | nil => rfl
  | cons r rs ih =>
    have h1 := h r List.mem_cons_self
    rw [List.flatten_cons, List.length_append, h1, ih (fun x hx => h x (List.mem_cons_of_mem _ hx)), List.length_cons]
    omega
theorem flat_get : ∀ {rows : List (List Value)} {j i : Nat} {xs : List Value}, (∀ ys ∈ rows, ys.length = 6) → rows[j]? = some xs → i < 6 → rows.flatten[j * 6 + i]? = xs[i]?
  | [], _, _, _, _, h, _ => by simp at h
  | r :: rs, 0, i, xs, h6, h, hi => by
    simp at h
    subst h
    rw [List.flatten_cons, Nat.zero_mul, Nat.zero_add, List.getElem?_append_left (by rw [h6 _ List.mem_cons_self]; exact hi)]
  | r :: rs, j + 1, i, xs, h6, h, hi => by
    have hr := h6 r List.mem_cons_self
    rw [List.flatten_cons, List.getElem?_append_right (by omega), hr, show (j + 1) * 6 + i - 6 = j * 6 + i by omega]
    exact flat_get (fun y hy => h6 y (List.mem_cons_of_mem _ hy)) (by simpa using h) hi
theorem six_facts {W : World} {R : Nat} {a0 a1 a2 a3 a4 a5 : Value} {t : TypeId} (hh : W.heap[R]? = some (.cells #[a0, a1, a2, a3, a4, a5] t (0, 0))) (x0 x1 x2 x3 x4 x5 : Value) :
    (W.cell? ⟨R, 0, none⟩ = some a0 ∧ W.cell? ⟨R, 1, none⟩ = some a1 ∧ W.cell? ⟨R, 2, none⟩ = some a2 ∧ W.cell? ⟨R, 3, none⟩ = some a3 ∧ W.cell? ⟨R, 4, none⟩ = some a4 ∧ W.cell? ⟨R, 5, none⟩ = some a5) ∧
    (W.frozen? ⟨R, 0, none⟩ = false ∧ W.frozen? ⟨R, 1, none⟩ = false ∧ W.frozen? ⟨R, 2, none⟩ = false ∧ W.frozen? ⟨R, 3, none⟩ = false ∧ W.frozen? ⟨R, 4, none⟩ = false ∧ W.frozen? ⟨R, 5, none⟩ = false) ∧
    ((W.setCell ⟨R, 0, none⟩ x0).cell? ⟨R, 0, none⟩ = some x0 ∧ ((W.setCell ⟨R, 0, none⟩ x0).setCell ⟨R, 1, none⟩ x1).cell? ⟨R, 1, none⟩ = some x1 ∧ (((W.setCell ⟨R, 0, none⟩ x0).setCell ⟨R, 1, none⟩ x1).setCell ⟨R, 2, none⟩ x2).cell? ⟨R, 2, none⟩ = some x2 ∧
      ((((W.setCell ⟨R, 0, none⟩ x0).setCell ⟨R, 1, none⟩ x1).setCell ⟨R, 2, none⟩ x2).setCell ⟨R, 3, none⟩ x3).cell? ⟨R, 3, none⟩ = some x3 ∧ (((((W.setCell ⟨R, 0, none⟩ x0).setCell ⟨R, 1, none⟩ x1).setCell ⟨R, 2, none⟩ x2).setCell ⟨R, 3, none⟩ x3).setCell ⟨R, 4, none⟩ x4).cell? ⟨R, 4, none⟩ = some x4 ∧
      ((((((W.setCell ⟨R, 0, none⟩ x0).setCell ⟨R, 1, none⟩ x1).setCell ⟨R, 2, none⟩ x2).setCell ⟨R, 3, none⟩ x3).setCell ⟨R, 4, none⟩ x4).setCell ⟨R, 5, none⟩ x5).cell? ⟨R, 5, none⟩ = some x5) := by
  have h0 := rd_set (i := 0) x0 hh
  have h1 := rd_set (i := 1) x1 h0
  have h2 := rd_set (i := 2) x2 h1
  have h3 := rd_set (i := 3) x3 h2
  have h4 := rd_set (i := 4) x4 h3
  exact ⟨⟨rd_cell hh rfl, rd_cell hh rfl, rd_cell hh rfl, rd_cell hh rfl, rd_cell hh rfl, rd_cell hh rfl⟩, ⟨rd_free hh 0, rd_free hh 1, rd_free hh 2, rd_free hh 3, rd_free hh 4, rd_free hh 5⟩,
    setm_read hh (by simp) x0, setm_read h0 (by simp) x1, setm_read h1 (by simp) x2, setm_read h2 (by simp) x3, setm_read h3 (by simp) x4, setm_read h4 (by simp) x5⟩end Go.Proofs.YtligkpcoajnjmaaDoor
