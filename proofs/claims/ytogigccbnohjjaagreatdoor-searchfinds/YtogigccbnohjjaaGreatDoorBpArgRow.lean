/-
  Parts of a command in memory, in a row that grows, and more.
-/
import Derived.Test.YtogigccbnohjjaaGreatDoorBpRwWord
import Derived.Lib.ConvBytes
namespace Go.Proofs.YtogigccbnohjjaaGreatDoor
open Go.RowKit Go.Proofs.Aid
inductive Agw (w : World) (Ok : Nat → Prop) : List Sr.Ar → Value → Prop
 | mk (l : List Sr.Ar) (a : Option Addr) (c : Nat) (txt : Nat → ByteArray) (vs : Nat → Value)
  (htx : ∀ (j : Nat) x, l[j]? = some x → (txt j).data.toList = x.text)
  (hk : ∀ (j : Nat) x, l[j]? = some x → Agw w Ok x.list (vs j))
  (ha : l = [] ∨ ∃ b o, a = some ⟨b, o, none⟩ ∧ Ok b ∧ ∀ (j : Nat) x, l[j]? = some x → w.cell? ⟨b, o + j * 3, none⟩ = some (.int .i64 x.kind) ∧ w.cell? ⟨b, o + j * 3 + 1, none⟩ = some (.string (txt j)) ∧ w.cell? ⟨b, o + j * 3 + 2, none⟩ = some (vs j))
  (hc : l.length ≤ c ∧ c ≤ 9223372036854775807) :
  Agw w Ok l (.slice a l.length c)
theorem Agw.nil (w : World) (Ok : Nat → Prop) : Agw w Ok [] (.slice none 0 0) := Agw.mk [] none 0 (fun _ => ⟨#[]⟩) (fun _ => .slice none 0 0) (fun j x h => by simp at h) (fun j x h => by simp at h) (Or.inl rfl) (by simp)
theorem Agw.form {w : World} {Ok : Nat → Prop} {l : List Sr.Ar} {v : Value} (h : Agw w Ok l v) : ∃ a c, v = .slice a l.length c := by
 cases h with
 | mk _ a c _ _ _ _ _ _ => exact ⟨a, c, rfl⟩
theorem Agw.kept {w w' : World} {Ok Ok' : Nat → Prop} {l : List Sr.Ar} {v : Value} (h : Agw w Ok l v) (hO : ∀ k, Ok k → k < w.heap.size → Ok' k ∧ w'.heap[k]? = w.heap[k]?) : Agw w' Ok' l v := by
 induction h with
 | mk l a c txt vs htx hk ha hc ih =>
  refine Agw.mk l a c txt vs htx ih ?_ hc
  rcases ha with ha | ⟨b, o, h1, h2, h3⟩
  ·exact Or.inl ha
  ·cases l with
   | nil => exact Or.inl rfl
   | cons x l =>
    have hb : b < w.heap.size := World.block_lt_of_cell? _ _ (h3 0 x rfl).1
    have h9 := hO b h2 hb
    refine Or.inr ⟨b, o, h1, h9.1, fun j q hj => ?_⟩
    obtain ⟨c1, c2, c3⟩ := h3 j q hj
    exact ⟨(World.cell?_of_block h9.2).trans c1, (World.cell?_of_block h9.2).trans c2, (World.cell?_of_block h9.2).trans c3⟩
def Ax (w : World) (Ok : Nat → Prop) (x : Sr.Ar) (xs : List Value) : Prop :=
 ∃ (tb : ByteArray) (lv : Value), xs = [.int .i64 x.kind, .string tb, lv] ∧ tb.data.toList = x.text ∧ Agw w Ok x.list lv
theorem Ax.length {w : World} {Ok : Nat → Prop} {x : Sr.Ar} {xs : List Value} (h : Ax w Ok x xs) : xs.length = 3 := by obtain ⟨_, _, rfl, _⟩ := h; rfl
theorem Ax.kept {w w' : World} {Ok Ok' : Nat → Prop} {x : Sr.Ar} {xs : List Value} (h : Ax w Ok x xs) (hO : ∀ k, Ok k → k < w.heap.size → Ok' k ∧ w'.heap[k]? = w.heap[k]?) : Ax w' Ok' x xs := by
 obtain ⟨tb, lv, h1, h2, h3⟩ := h
 exact ⟨tb, lv, h1, h2, h3.kept hO⟩
theorem ax_cells {w : World} {Ok : Nat → Prop} {x : Sr.Ar} {xs : List Value} (h : Ax w Ok x xs) : ∃ (tb : ByteArray) (a : Option Addr) (k c : Nat), xs = [.int .i64 x.kind, .string tb, .slice a k c] := by
 obtain ⟨tb, lv, rfl, _, h3⟩ := h
 obtain ⟨a, c, rfl⟩ := h3.form
 exact ⟨tb, a, _, c, rfl⟩
theorem flat3_get : ∀ {rows : List (List Value)} {j i : Nat} {xs : List Value}, (∀ ys ∈ rows, ys.length = 3) → rows[j]? = some xs → i < 3 → rows.flatten[j * 3 + i]? = xs[i]?
 | [], j, i, xs, _, h, _ => by simp at h
 | r :: rs, 0, i, xs, h6, h, hi => by
  obtain rfl : r = xs := by simpa using h
  have := h6 r List.mem_cons_self
  rw [List.flatten_cons, Nat.zero_mul, Nat.zero_add, List.getElem?_append_left (by omega)]
 | r :: rs, j + 1, i, xs, h6, h, hi => by
  have h1 := h6 r List.mem_cons_self
  rw [List.flatten_cons, List.getElem?_append_right (by omega), h1, show (j + 1) * 3 + i - 3 = j * 3 + i by omega]
  exact flat3_get (fun ys hy => h6 ys (List.mem_cons_of_mem _ hy)) (by simpa using h) hi
def ARow (base : Nat) (ks : List Sr.Ar) (v : Value) (w : World) : Prop :=
 ∃ rows : List (List Value), rows.length = ks.length ∧ w.ownsRow base 86 3 v ks.length rows.flatten ∧
  (∀ (j : Nat) k xs, ks[j]? = some k → rows[j]? = some xs → Ax w (fun q => base ≤ q ∧ v.ownBlock ≠ some q) k xs) ∧ (∀ xs ∈ rows, xs.length = 3)
theorem ARow.kept {base : Nat} {ks : List Sr.Ar} {v : Value} {w w' : World} (h : ARow base ks v w) (hk : ∀ q, base ≤ q → q < w.heap.size → w'.heap[q]? = w.heap[q]?) : ARow base ks v w' := by
 obtain ⟨rows, h2, h3, h4, h5⟩ := h
 exact ⟨rows, h2, own_same h3 fun g hg => hk g (h3.lt g hg).1 (h3.lt g hg).2, fun j p xs hj hx => (h4 j p xs hj hx).kept fun q hq hlt => ⟨hq, hk q hq.1 hlt⟩, h5⟩
theorem ARow.cells {base : Nat} {ks : List Sr.Ar} {va : Option Addr} {vc : Nat} {w : World} (h : ARow base ks (.slice va ks.length vc) w) :
  ∃ rows : Nat → List Value, (∀ (j : Nat) k, ks[j]? = some k → Ax w (fun q => base ≤ q) k (rows j)) ∧ (ks = [] ∨ ∃ b o, va = some ⟨b, o, none⟩ ∧ base ≤ b ∧ ∀ (j : Nat) k, ks[j]? = some k → ∀ i x, (rows j)[i]? = some x → w.cell? ⟨b, o + j * 3 + i, none⟩ = some x) := by
 obtain ⟨rows, hl, hrow, hsx, h6⟩ := h
 have hjr : ∀ j : Nat, j < ks.length → rows[j]? = some (rows.getD j []) := fun j hj => by
  rw [List.getD_eq_getElem?_getD, List.getElem?_eq_getElem (by rw [hl]; exact hj)]; rfl
 refine ⟨fun j => rows.getD j [], fun j k hjk => (hsx j k _ hjk (hjr j (List.getElem?_eq_some_iff.1 hjk).1)).kept fun q hq _ => ⟨hq.1, rfl⟩, ?_⟩
 by_cases hps : ks = []
 ·exact Or.inl hps
 ·right
  have hk0 : ks.length ≠ 0 := fun e => hps (List.eq_nil_of_length_eq_zero e)
  obtain ⟨g2, cap2, hv2⟩ := row_some hrow hk0
  injection hv2 with hva _ _
  subst hva
  refine ⟨g2, 0, rfl, (hrow.lt g2 rfl).1, fun j p hjp i x hx => ?_⟩
  change (rows.getD j [])[i]? = some x at hx
  have hjk := (List.getElem?_eq_some_iff.1 hjp).1
  have hx3 : i < 3 := by
   have h7 := h6 _ (List.mem_of_getElem? (hjr j hjk))
   have := (List.getElem?_eq_some_iff.1 hx).1
   omega
  rw [Nat.zero_add, hrow.cellAt (j * 3 + i) (by omega), flat3_get h6 (hjr j hjk) hx3]
  exact hx
theorem ARow.push {base z : Nat} {ks : List Sr.Ar} {va : Option Addr} {vc : Nat} {w W w' : World} {g cap : Nat} {k : Sr.Ar} {xs : List Value} {rows : List (List Value)}
  (hl : rows.length = ks.length)
  (hsx : ∀ (j : Nat) k xs, ks[j]? = some k → rows[j]? = some xs → Ax w (fun q => base ≤ q ∧ (Value.slice va ks.length vc).ownBlock ≠ some q) k xs) (h6 : ∀ xs ∈ rows, xs.length = 3)
  (hz : base ≤ z) (hoz : ∀ q, (Value.slice va ks.length vc).ownBlock = some q → q < z) (hk : Ax w (fun q => z ≤ q) k xs) (hW : Below w.heap.size w W)
  (hown : w'.ownsRow base 86 3 (.slice (some ⟨g, 0, none⟩) (ks.length + 1) cap) (ks.length + 1) (rows.flatten ++ xs)) (hg : W.grownBy w' (Value.slice va ks.length vc).ownBlock) (hor : (Value.slice va ks.length vc).ownBlock = some g ∨ g = W.heap.size) :
  ARow base (ks ++ [k]) (.slice (some ⟨g, 0, none⟩) (ks.length + 1) cap) w' ∧ ∀ q, q < w.heap.size → some q ≠ (Value.slice va ks.length vc).ownBlock → w'.heap[q]? = w.heap[q]? := by
 have far : ∀ q, q < w.heap.size → some q ≠ (Value.slice va ks.length vc).ownBlock → w'.heap[q]? = w.heap[q]? := fun q hq h1 =>
  (hg.block q (Nat.lt_of_lt_of_le hq hW.size) h1).trans (hW.block q hq)
 have hog : ∀ q, q < w.heap.size → some q ≠ (Value.slice va ks.length vc).ownBlock → q ≠ g := fun q hq h1 e => by
  subst e
  rcases hor with h | h
  ·exact h1 h.symm
  ·have := hW.size; omega
 have hlen : (ks ++ [k]).length = ks.length + 1 := by simp
 refine ⟨⟨rows ++ [xs], by simp [hl], ?_, ?_, ?_⟩, far⟩
 ·rw [hlen, List.flatten_append, List.flatten_cons, List.flatten_nil, List.append_nil]
  exact hown
 ·intro j p' xs' hjp hjx
  by_cases hjk : j < ks.length
  ·rw [List.getElem?_append_left hjk] at hjp
   rw [List.getElem?_append_left (by rw [hl]; exact hjk)] at hjx
   refine (hsx j p' xs' hjp hjx).kept fun q hq hlt => ⟨⟨hq.1, fun e => ?_⟩, far q hlt (Ne.symm hq.2)⟩
   injection e with e
   exact hog q hlt (Ne.symm hq.2) e.symm
  ·have hjl : j < (ks ++ [k]).length := (List.getElem?_eq_some_iff.1 hjp).1
   obtain rfl : j = ks.length := by rw [hlen] at hjl; omega
   rw [List.getElem?_append_right (Nat.le_refl _), Nat.sub_self] at hjp
   rw [List.getElem?_append_right (by rw [hl]; exact Nat.le_refl _), hl, Nat.sub_self] at hjx
   obtain rfl : k = p' := by simpa using hjp
   obtain rfl := Option.some.inj hjx
   have hown9 : ∀ q, z ≤ q → some q ≠ (Value.slice va ks.length vc).ownBlock := fun q hq e => by have := hoz q e.symm; omega
   refine hk.kept fun q hq hlt => ⟨⟨by omega, fun e => ?_⟩, far q hlt (hown9 q hq)⟩
   injection e with e
   exact hog q hlt (hown9 q hq) e.symm
 ·intro xs' hxs
  rcases List.mem_append.1 hxs with h | h
  ·exact h6 xs' h
  ·rw [List.mem_singleton.1 h]; exact hk.length
theorem ARow.ags {base : Nat} {ks : List Sr.Ar} {va : Option Addr} {vc : Nat} {w : World} (h : ARow base ks (.slice va ks.length vc) w) : Agw w (fun q => base ≤ q) ks (.slice va ks.length vc) := by
 have hcap : ks.length ≤ vc ∧ vc ≤ 9223372036854775807 := by
  obtain ⟨_, _, hrow, _⟩ := h
  rcases hrow.2 with ⟨hv, h0⟩ | ⟨g, cap, cur, hv, _, _, q1, q2, _⟩
  ·injection hv with _ _ e3
   omega
  ·injection hv with _ _ e3
   unfold maxLen at q2
   omega
 obtain ⟨rows, h1, h2⟩ := h.cells
 have pick : ∀ (j : Nat), ∃ (p : ByteArray × Value), ∀ k, ks[j]? = some k → rows j = [.int .i64 k.kind, .string p.1, p.2] ∧ p.1.data.toList = k.text ∧ Agw w (fun q => base ≤ q) k.list p.2 := fun j => by
  cases hj : ks[j]? with
  | none => exact ⟨(⟨#[]⟩, .slice none 0 0), fun k hk => by cases hk⟩
  | some k =>
   obtain ⟨tb, lv, e1, e2, e3⟩ := h1 j k hj
   exact ⟨(tb, lv), fun k' hk' => by cases hk'; exact ⟨e1, e2, e3⟩⟩
 obtain ⟨f, hf⟩ : ∃ f : Nat → ByteArray × Value, ∀ j k, ks[j]? = some k → rows j = [.int .i64 k.kind, .string (f j).1, (f j).2] ∧ (f j).1.data.toList = k.text ∧ Agw w (fun q => base ≤ q) k.list (f j).2 := ⟨fun j => Classical.choose (pick j), fun j => Classical.choose_spec (pick j)⟩
 refine Agw.mk ks va vc (fun j => (f j).1) (fun j => (f j).2) (fun j x hx => (hf j x hx).2.1) (fun j x hx => (hf j x hx).2.2) ?_ hcap
 rcases h2 with h2 | ⟨b, o, e1, e2, e3⟩
 ·exact Or.inl h2
 ·refine Or.inr ⟨b, o, e1, e2, fun j x hx => ?_⟩
  have hr := (hf j x hx).1
  refine ⟨?_, ?_, ?_⟩
  ·have := e3 j x hx 0 (.int .i64 x.kind) (by rw [hr]; rfl)
   rw [Nat.add_zero] at this
   exact this
  ·exact e3 j x hx 1 _ (by rw [hr]; rfl)
  ·exact e3 j x hx 2 _ (by rw [hr]; rfl)
end Go.Proofs.YtogigccbnohjjaaGreatDoor
namespace Go.Proofs
theorem Tryz.infoArg : (Tryz.prog.info? 86).map (fun i => (i.zero, i.size, i.bytes)) = some (some (.agg #[.int .i64 0, .string ⟨#[]⟩, .slice none 0 0]), 3, 48) := by kernel_rfl
end Go.Proofs
namespace Go.Proofs.YtogigccbnohjjaaGreatDoor
open Go.RowKit Go.Proofs.Aid Go.Proofs.Hd
def slLen : Value → Nat
 | .slice _ n _ => n
 | _ => 0
end Go.Proofs.YtogigccbnohjjaaGreatDoor
namespace Go.Proofs.YtogigccbnohjjaaGreatDoor
open Go.RowKit Go.Proofs.Aid Go.Proofs.Hd
theorem setm_read {W : World} {b i : Nat} {arr : Array Value} {t : TypeId} (hh : W.heap[b]? = some (.cells arr t (0, 0))) (hi : i < arr.size) (x : Value) : (W.setCell ⟨b, i, none⟩ x).cell? ⟨b, i, none⟩ = some x :=
 rd_cell (rd_set x hh) (by rw [Array.getElem?_setIfInBounds_self_of_lt hi])
theorem six_set {W : World} {R : Nat} {a0 a1 a2 a3 a4 a5 : Value} {t : TypeId} (hh : W.heap[R]? = some (.cells #[a0, a1, a2, a3, a4, a5] t (0, 0))) (x0 x1 x2 x3 x4 x5 : Value) :
  ((((((W.setCell ⟨R, 0, none⟩ x0).setCell ⟨R, 1, none⟩ x1).setCell ⟨R, 2, none⟩ x2).setCell ⟨R, 3, none⟩ x3).setCell ⟨R, 4, none⟩ x4).setCell ⟨R, 5, none⟩ x5).heap[R]? = some (.cells #[x0, x1, x2, x3, x4, x5] t (0, 0)) := by
 have h0 := rd_set (i := 0) x0 hh
 have h1 := rd_set (i := 1) x1 h0
 have h2 := rd_set (i := 2) x2 h1
 have h3 := rd_set (i := 3) x3 h2
 have h4 := rd_set (i := 4) x4 h3
 exact rd_set (i := 5) x5 h4
theorem six_other (W : World) {R k : Nat} (h : k ≠ R) (x0 x1 x2 x3 x4 x5 : Value) : ((((((W.setCell ⟨R, 0, none⟩ x0).setCell ⟨R, 1, none⟩ x1).setCell ⟨R, 2, none⟩ x2).setCell ⟨R, 3, none⟩ x3).setCell ⟨R, 4, none⟩ x4).setCell ⟨R, 5, none⟩ x5).heap[k]? = W.heap[k]? := by
 rw [Below.heap_setCell _ _ _ _ h, Below.heap_setCell _ _ _ _ h, Below.heap_setCell _ _ _ _ h, Below.heap_setCell _ _ _ _ h, Below.heap_setCell _ _ _ _ h, Below.heap_setCell _ _ _ _ h]
theorem six_but {base rb R : Nat} {w W : World} (h : But base rb w W) (hR : base ≤ R) (x0 x1 x2 x3 x4 x5 : Value) : But base rb w ((((((W.setCell ⟨R, 0, none⟩ x0).setCell ⟨R, 1, none⟩ x1).setCell ⟨R, 2, none⟩ x2).setCell ⟨R, 3, none⟩ x3).setCell ⟨R, 4, none⟩ x4).setCell ⟨R, 5, none⟩ x5) :=
 h.trans (to_but ((((((((Below.refl base W).setCell (p := ⟨R, 0, none⟩) hR x0).setCell (p := ⟨R, 1, none⟩) hR x1).setCell (p := ⟨R, 2, none⟩) hR x2).setCell (p := ⟨R, 3, none⟩) hR x3).setCell (p := ⟨R, 4, none⟩) hR x4).setCell (p := ⟨R, 5, none⟩) hR x5)))
theorem flat_get : ∀ {rows : List (List Value)} {j i : Nat} {xs : List Value}, (∀ ys ∈ rows, ys.length = 6) → rows[j]? = some xs → i < 6 → rows.flatten[j * 6 + i]? = xs[i]?
 | [], _, _, _, _, h, _ => by simp at h
 | r :: rs, 0, i, xs, h6, h, hi => by
  simp at h
  subst h
  rw [List.flatten_cons, Nat.zero_mul, Nat.zero_add, List.getElem?_append_left (by rw [h6 _ List.mem_cons_self]; exact hi)]
 | r :: rs, j + 1, i, xs, h6, h, hi => by
  have hr := h6 r List.mem_cons_self
  rw [List.flatten_cons, List.getElem?_append_right (by omega), hr, show (j + 1) * 6 + i - 6 = j * 6 + i by omega]
  exact flat_get (fun y hy => h6 y (List.mem_cons_of_mem _ hy)) (by simpa using h) hi
theorem six_facts {W : World} {R : Nat} {a0 a1 a2 a3 a4 a5 : Value} {t : TypeId} (hh : W.heap[R]? = some (.cells #[a0, a1, a2, a3, a4, a5] t (0, 0))) (x0 x1 x2 x3 x4 x5 : Value) :
  (W.cell? ⟨R, 0, none⟩ = some a0 ∧ W.cell? ⟨R, 1, none⟩ = some a1 ∧ W.cell? ⟨R, 2, none⟩ = some a2 ∧ W.cell? ⟨R, 3, none⟩ = some a3 ∧ W.cell? ⟨R, 4, none⟩ = some a4 ∧ W.cell? ⟨R, 5, none⟩ = some a5) ∧
  (W.frozen? ⟨R, 0, none⟩ = false ∧ W.frozen? ⟨R, 1, none⟩ = false ∧ W.frozen? ⟨R, 2, none⟩ = false ∧ W.frozen? ⟨R, 3, none⟩ = false ∧ W.frozen? ⟨R, 4, none⟩ = false ∧ W.frozen? ⟨R, 5, none⟩ = false) ∧
  ((W.setCell ⟨R, 0, none⟩ x0).cell? ⟨R, 0, none⟩ = some x0 ∧ ((W.setCell ⟨R, 0, none⟩ x0).setCell ⟨R, 1, none⟩ x1).cell? ⟨R, 1, none⟩ = some x1 ∧ (((W.setCell ⟨R, 0, none⟩ x0).setCell ⟨R, 1, none⟩ x1).setCell ⟨R, 2, none⟩ x2).cell? ⟨R, 2, none⟩ = some x2 ∧
   ((((W.setCell ⟨R, 0, none⟩ x0).setCell ⟨R, 1, none⟩ x1).setCell ⟨R, 2, none⟩ x2).setCell ⟨R, 3, none⟩ x3).cell? ⟨R, 3, none⟩ = some x3 ∧ (((((W.setCell ⟨R, 0, none⟩ x0).setCell ⟨R, 1, none⟩ x1).setCell ⟨R, 2, none⟩ x2).setCell ⟨R, 3, none⟩ x3).setCell ⟨R, 4, none⟩ x4).cell? ⟨R, 4, none⟩ = some x4 ∧
   ((((((W.setCell ⟨R, 0, none⟩ x0).setCell ⟨R, 1, none⟩ x1).setCell ⟨R, 2, none⟩ x2).setCell ⟨R, 3, none⟩ x3).setCell ⟨R, 4, none⟩ x4).setCell ⟨R, 5, none⟩ x5).cell? ⟨R, 5, none⟩ = some x5) := by
 have h0 := rd_set (i := 0) x0 hh
 have h1 := rd_set (i := 1) x1 h0
 have h2 := rd_set (i := 2) x2 h1
 have h3 := rd_set (i := 3) x3 h2
 have h4 := rd_set (i := 4) x4 h3
 exact ⟨⟨rd_cell hh rfl, rd_cell hh rfl, rd_cell hh rfl, rd_cell hh rfl, rd_cell hh rfl, rd_cell hh rfl⟩, ⟨rd_free hh 0, rd_free hh 1, rd_free hh 2, rd_free hh 3, rd_free hh 4, rd_free hh 5⟩,
  setm_read hh (by simp) x0, setm_read h0 (by simp) x1, setm_read h1 (by simp) x2, setm_read h2 (by simp) x3, setm_read h3 (by simp) x4, setm_read h4 (by simp) x5⟩end Go.Proofs.YtogigccbnohjjaaGreatDoor
namespace Go.Proofs.YtogigccbnohjjaaGreatDoor
open Go.RowKit Go.Proofs.Aid Go.Proofs.Hd
theorem three_other (W : World) {R k : Nat} (h : k ≠ R) (x0 x1 x2 : Value) : (((W.setCell ⟨R, 0, none⟩ x0).setCell ⟨R, 1, none⟩ x1).setCell ⟨R, 2, none⟩ x2).heap[k]? = W.heap[k]? := by
 rw [Below.heap_setCell _ _ _ _ h, Below.heap_setCell _ _ _ _ h, Below.heap_setCell _ _ _ _ h]
theorem three_but {base rb R : Nat} {w W : World} (h : But base rb w W) (hR : base ≤ R) (x0 x1 x2 : Value) : But base rb w (((W.setCell ⟨R, 0, none⟩ x0).setCell ⟨R, 1, none⟩ x1).setCell ⟨R, 2, none⟩ x2) :=
 h.trans (to_but (((((Below.refl base W).setCell (p := ⟨R, 0, none⟩) hR x0).setCell (p := ⟨R, 1, none⟩) hR x1).setCell (p := ⟨R, 2, none⟩) hR x2)))
theorem three_facts {W : World} {R : Nat} {a0 a1 a2 : Value} {t : TypeId} (hh : W.heap[R]? = some (.cells #[a0, a1, a2] t (0, 0))) (x0 x1 x2 : Value) :
  (W.cell? ⟨R, 0, none⟩ = some a0 ∧ W.cell? ⟨R, 1, none⟩ = some a1 ∧ W.cell? ⟨R, 2, none⟩ = some a2) ∧
  (W.frozen? ⟨R, 0, none⟩ = false ∧ W.frozen? ⟨R, 1, none⟩ = false ∧ W.frozen? ⟨R, 2, none⟩ = false) ∧
  ((W.setCell ⟨R, 0, none⟩ x0).cell? ⟨R, 0, none⟩ = some x0 ∧ ((W.setCell ⟨R, 0, none⟩ x0).setCell ⟨R, 1, none⟩ x1).cell? ⟨R, 1, none⟩ = some x1 ∧ (((W.setCell ⟨R, 0, none⟩ x0).setCell ⟨R, 1, none⟩ x1).setCell ⟨R, 2, none⟩ x2).cell? ⟨R, 2, none⟩ = some x2) := by
 have h0 := rd_set (i := 0) x0 hh
 have h1 := rd_set (i := 1) x1 h0
 exact ⟨⟨rd_cell hh rfl, rd_cell hh rfl, rd_cell hh rfl⟩, ⟨rd_free hh 0, rd_free hh 1, rd_free hh 2⟩, setm_read hh (by simp) x0, setm_read h0 (by simp) x1, setm_read h1 (by simp) x2⟩
end Go.Proofs.YtogigccbnohjjaaGreatDoor
namespace Go.Proofs.YtogigccbnohjjaaGreatDoor
open Go.RowKit Go.Proofs.Aid Go.Proofs.Hd
set_option maxHeartbeats 2000000
set_option maxRecDepth 100000
def mv (f t : Nat) (c : UInt8) : UInt8 := if f ≤ c.toNat ∧ c.toNat < f + 26 then UInt8.ofNat (c.toNat - f + t) else c
theorem mv_sm (c : UInt8) : mv 65 97 c = sm c := by
 have h : ∀ n : Fin 256, mv 65 97 (UInt8.ofNat n.val) = sm (UInt8.ofNat n.val) := by decide +kernel
 have := h ⟨c.toNat, c.toNat_lt⟩
 simpa using this
theorem mv_gr (c : UInt8) : mv 97 65 c = gr c := by
 have h : ∀ n : Fin 256, mv 97 65 (UInt8.ofNat n.val) = gr (UInt8.ofNat n.val) := by decide +kernel
 have := h ⟨c.toNat, c.toNat_lt⟩
 simpa using this
theorem head_bytes (w : World) (s : ByteArray) : Below w.heap.size w (Lib.bytesWorld w 5 s) := ⟨rfl, rfl, rfl, by rw [Lib.bytesWorld_size]; omega, fun j hj => Lib.bytesWorld_at_old w 5 s j hj⟩
theorem bytes_free (w : World) (s : ByteArray) {j : Nat} (hj : j < s.size) : (Lib.bytesWorld w 5 s).frozen? ⟨w.heap.size, j, none⟩ = false := by
 have h := Lib.bytesWorld_at_new w 5 s
 have hc := Lib.bytesWorld_cell w 5 s j hj
 generalize Lib.bytesWorld w 5 s = W at h hc
 generalize Lib.bytesCells w 5 s = cs at h
 have : j < cs.size := by
  simp [World.cell?, h] at hc
  obtain ⟨h1, _⟩ := Array.getElem?_eq_some_iff.1 hc
  exact h1
 simp [World.frozen?, h]
 omega
theorem moved_any (f t : Nat) (hf : f + 26 ≤ 255) (ht : t + 26 ≤ 255) (s : ByteArray) (w : World) (hs : s.size ≤ 2000000) :
  Calls Tryz.prog 92 #[.string s, .int .u8 (f : Int), .int .u8 (t : Int)] w fun e w' => e = .returned (.string ⟨(s.data.toList.map (mv f t)).toArray⟩) ∧ Below w.heap.size w w' := by
 have hlen : s.data.toList.length = s.size := by show s.data.toList.length = s.data.size; simp
 have hcw := Lib.run_convert_string_bytes (P := Tryz.prog) w 9 99 5 s Tryz.underlying9 Tryz.underlying99 Tryz.underlying5
 have hb0 := head_bytes w s
 have hc0 : ∀ j, j < s.size → (Lib.bytesWorld w 5 s).cell? ⟨w.heap.size, j, none⟩ = some (.int .u8 (((s.data.toList.getD j 0).toNat : Nat) : Int)) ∧ (Lib.bytesWorld w 5 s).frozen? ⟨w.heap.size, j, none⟩ = false := fun j hj => ⟨Lib.bytesWorld_cell w 5 s j hj, bytes_free w s hj⟩
 obtain ⟨cap, hcap⟩ : ∃ c, grownCap w s.size 0 5 = c := ⟨_, rfl⟩
 rw [hcap] at hcw
 clear hcap
 generalize Lib.bytesWorld w 5 s = W0 at hcw hb0 hc0
 obtain ⟨B, hB⟩ : ∃ B, w.heap.size = B := ⟨_, rfl⟩
 rw [hB] at hcw hc0
 have hbB : w.heap.size ≤ B := by omega
 go_enter Tryz.func92, Tryz.ntmps92
 go_wp2_with fail
 go_loopw [13] (fun i wr => ∃ k : Nat, i = .int .i64 (k : Int) ∧ k ≤ s.size ∧ Hid (∀ j, j < s.size → wr.cell? ⟨B, j, none⟩ = some (.int .u8 (((if j < k then mv f t (s.data.toList.getD j 0) else s.data.toList.getD j 0).toNat : Nat) : Int)) ∧ wr.frozen? ⟨B, j, none⟩ = false) ∧ Below w.heap.size w wr) (fun i _ => s.size - (intOf i).toNat)
 case atStart => exact ⟨0, rfl, by omega, by show ∀ j, _; simpa using hc0, hb0⟩
 case round =>
  obtain ⟨k, rfl, hk, HC, hbW⟩ := hrel
  by_cases hlt : k < s.size
  ·obtain ⟨c1, f1⟩ := HC.out k hlt
   rw [if_neg (by omega)] at c1
   obtain ⟨c, hc⟩ : ∃ c, s.data.toList.getD k 0 = c := ⟨_, rfl⟩
   rw [hc] at c1
   have h256 := c.toNat_lt
   have HK : Hid (s.data.toList.getD k 0 = c) := hc
   clear hc hc0
   by_cases hq : f ≤ c.toNat ∧ c.toNat < f + 26
   ·have q1 : decide ((f : Int) ≤ (c.toNat : Int)) = true := decide_eq_true (by omega)
    have q2 : decide ((c.toNat : Int) < (f : Int) + 26) = true := decide_eq_true (by omega)
    have hmv : ((mv f t c).toNat : Int) = (c.toNat : Int) - f + t := by
     unfold mv
     rw [if_pos hq, UInt8.toNat_ofNat']
     omega
    have HM : Hid (((mv f t c).toNat : Int) = (c.toNat : Int) - f + t) := hmv
    clear hmv
    go_wp2_with fail
    go_roundw
    case rel =>
     refine ⟨k + 1, by go_num, by omega, ?_, hbW.setCell hbB _⟩
     intro j hj
     obtain ⟨x1, x2⟩ := HC.out j hj
     refine ⟨?_, by simpa using x2⟩
     by_cases hjk : j = k
     ·subst hjk
      rw [World.cell?_setCell_same _ _ _ c1, if_pos (by omega), HK.out, HM.out]
     ·rw [World.cell?_setCell_other _ _ _ _ (fun e => hjk (by have := congrArg Addr.off e; simpa using this.symm)), x1]
      congr 4
      by_cases h : j < k
      ·rw [if_pos h, if_pos (by omega)]
      ·rw [if_neg h, if_neg (by omega)]
    case measure => simp [intOf]; omega
   ·have HM : Hid (mv f t c = c) := by show _ = _; unfold mv; rw [if_neg hq]
    have HN : ∀ j, j < s.size → wr.cell? ⟨B, j, none⟩ = some (.int .u8 (((if j < k + 1 then mv f t (s.data.toList.getD j 0) else s.data.toList.getD j 0).toNat : Nat) : Int)) ∧ wr.frozen? ⟨B, j, none⟩ = false := fun j hj => by
     obtain ⟨x1, x2⟩ := HC.out j hj
     refine ⟨?_, x2⟩
     by_cases hjk : j = k
     ·subst hjk
      rw [c1, if_pos (by omega), HK.out, HM.out]
     ·rw [x1]
      congr 4
      by_cases h : j < k
      ·rw [if_pos h, if_pos (by omega)]
      ·rw [if_neg h, if_neg (by omega)]
    have HNN : Hid (∀ j, j < s.size → wr.cell? ⟨B, j, none⟩ = some (.int .u8 (((if j < k + 1 then mv f t (s.data.toList.getD j 0) else s.data.toList.getD j 0).toNat : Nat) : Int)) ∧ wr.frozen? ⟨B, j, none⟩ = false) := HN
    clear HN
    by_cases q : f ≤ c.toNat
    ·have q1 : decide ((f : Int) ≤ (c.toNat : Int)) = true := decide_eq_true (by omega)
     have q2 : decide ((c.toNat : Int) < (f : Int) + 26) = false := decide_eq_false (by omega)
     go_wp2_with fail
     go_roundw
     case rel => exact ⟨k + 1, by go_num, by omega, HNN.out, hbW⟩
     case measure => simp [intOf]; omega
    ·have q1 : decide ((f : Int) ≤ (c.toNat : Int)) = false := decide_eq_false (by omega)
     go_wp2_with fail
     go_roundw
     case rel => exact ⟨k + 1, by go_num, by omega, HNN.out, hbW⟩
     case measure => simp [intOf]; omega
  ·obtain rfl : k = s.size := by omega
   have hcv := run_convert_bytes_back wr 99 9 5 ⟨B, 0, none⟩ cap (s.data.toList.map (mv f t)) Tryz.underlying99 Tryz.underlying5 Tryz.underlying9 (fun j hj => by
    have hjs : j < s.size := by rw [List.length_map, hlen] at hj; exact hj
    rw [Addr.add_lit, Nat.zero_add, (HC.out j hjs).1, if_pos hjs, List.getElem_map, List.getD_eq_getElem?_getD, List.getElem?_eq_getElem (by rw [hlen]; exact hjs)]
    rfl)
   rw [List.length_map, hlen] at hcv
   clear hc0
   go_wp2_with fail
   go_ret
   exact ⟨rfl, hbW⟩
end Go.Proofs.YtogigccbnohjjaaGreatDoor
namespace Go.Proofs.YtogigccbnohjjaaGreatDoor
open Go.RowKit Go.Proofs.Aid Go.Proofs.Hd Go.Proofs.Sq
theorem great_is (s : ByteArray) (w : World) (hs : s.size ≤ 2000000) :
  Calls Tryz.prog 65 #[.string s] w fun e w' => e = .returned (.string ⟨(great s.data.toList).toArray⟩) ∧ Below w.heap.size w w' := by
 have c := moved_any 97 65 (by decide) (by decide) s w hs
 rw [show s.data.toList.map (mv 97 65) = great s.data.toList from List.map_congr_left fun c _ => mv_gr c] at c
 go_enter Tryz.func65, Tryz.ntmps65
 go_wp2_with fail
 refine c.mono ?_
 rintro e w1 ⟨rfl, hb⟩
 go_wp2_with fail
 go_ret
 exact ⟨rfl, hb⟩
end Go.Proofs.YtogigccbnohjjaaGreatDoor
namespace Go.Proofs.YtogigccbnohjjaaGreatDoor
open Go.RowKit Go.Proofs.Aid Go.Proofs.Hd
theorem step_append_run {P : Program} {w w' : World} {ops : Array Oper} {o : Oper} {a : Act} {K : Act → World → Prop} {Q : Exit → Act → World → Prop} {E : Prop} (hgd : o.guard = none) (s x : Operand) (t : TypeId)
  (ho : o.op = .call { callee := .builtin .append, args := #[s, x], argTypes := #[t, t] }) (v xv r : Value) (hs : a.eval s = v) (hx : a.eval x = xv) (hr : (Builtin.append_ #[t, t] o.type #[v, xv]).run P w = .ok r w') (h : K (a.put o.dst r) w') :
  if Region.wanted o (yielded ops a.tmps) = true then Oper.wp P o a w K Q else E := by
 have hw : Region.wanted o (yielded ops a.tmps) = true := by simp [Region.wanted, hgd]
 rw [if_pos hw]
 unfold Oper.wp execOp
 simp only [ho, resolve, invoke, builtin, Sem.run_bind, Sem.run_pure, Result.andThen_ok, List.map_toArray, List.map_cons, List.map_nil, hs, hx, hr]
 exact h
theorem arow_nil (base : Nat) (w : World) : ARow base [] (.slice none 0 0) w := ⟨[], rfl, World.ownsRow_nil _ _ _ _, fun j k xs h => by simp at h, fun xs h => by simp at h⟩
end Go.Proofs.YtogigccbnohjjaaGreatDoor
namespace Go.Proofs.YtogigccbnohjjaaGreatDoor
open Go.RowKit Go.Proofs.Aid Go.Proofs.Hd
open Go.Proofs.Sr (Ar)
def ResA (R : Wd Ar) (a : Ar) (p c : Nat) (E q : Int) : Prop := match R with
 | .bad n p0 => E = n ∧ q = (p0 : Int) ∧ n ≠ 0
 | .ok a0 p0 c0 => a = a0 ∧ p = p0 ∧ c = c0 ∧ E = 0 ∧ q = -1
def OutRA (w : World) (cb : Nat) (s : ByteArray) (R : Wd Ar) (e : Ending) (w' : World) : Prop :=
 ∃ (a : Ar) (ys : List Value) (p c : Nat) (E q : Int), e = .returned (.agg ys.toArray) ∧ Ax w' (fun k => w.heap.size ≤ k) a ys ∧ CdW w' cb s p c E q ∧ But w.heap.size cb w w' ∧ ResA R a p c E q
theorem rapp (cb AB d N vc : Nat) (s : ByteArray) (R : Wd Ar) (acc : List Ar) (va : Option Addr) (x0 x1 : Value) (t : TypeId) (w : World)
  (cA : Calls Tryz.prog 35 #[.pointer (some ⟨cb, 0, none⟩), .int .i64 (d : Int)] w fun e w' => OutRA w cb s R e w')
  (hA : w.heap[AB]? = some (.cells #[x0, x1, .slice va N vc] t (0, 0))) (hrow : ARow (AB + 1) acc (.slice va acc.length vc) w) (hN : acc.length = N) (hNb : N ≤ 1000) (hcb : cb < AB) :
  Calls Tryz.prog 35 #[.pointer (some ⟨cb, 0, none⟩), .int .i64 (d : Int)] w fun e w9 => ∃ (K : Int) (tx : ByteArray) (xa : Option Addr) (xk xc : Nat) (w7 W8 : World) (g9 cap9 : Nat) (W9 : World),
   e = .returned (.agg #[.int .i64 K, .string tx, .slice xa xk xc]) ∧ w9 = w7 ∧ w7.cell? ⟨AB, 2, none⟩ = some (.slice va N vc) ∧ w7.alloc (.cells #[.int .i64 K, .string tx, .slice xa xk xc] 86) = W8 ∧ W8.cell? ⟨AB, 2, none⟩ = some (.slice va N vc) ∧
   (Builtin.append_ #[25, 25] 25 #[.slice va N vc, .slice (some ⟨w7.heap.size, 0, none⟩) 1 1]).run Tryz.prog W8 = .ok (.slice (some ⟨g9, 0, none⟩) (N + 1) cap9) W9 ∧ W9.cell? ⟨AB, 2, none⟩ = some (.slice va N vc) ∧ W9.frozen? ⟨AB, 2, none⟩ = false ∧
   Hid (∃ (a : Ar) (p c : Nat) (E q : Int), ResA R a p c E q ∧ CdW (W9.setCell ⟨AB, 2, none⟩ (.slice (some ⟨g9, 0, none⟩) (N + 1) cap9)) cb s p c E q ∧ But AB cb w (W9.setCell ⟨AB, 2, none⟩ (.slice (some ⟨g9, 0, none⟩) (N + 1) cap9)) ∧
    (W9.setCell ⟨AB, 2, none⟩ (.slice (some ⟨g9, 0, none⟩) (N + 1) cap9)).heap[AB]? = some (.cells #[x0, x1, .slice (some ⟨g9, 0, none⟩) (N + 1) cap9] t (0, 0)) ∧
    ARow (AB + 1) (acc ++ [a]) (.slice (some ⟨g9, 0, none⟩) (acc ++ [a]).length cap9) (W9.setCell ⟨AB, 2, none⟩ (.slice (some ⟨g9, 0, none⟩) (N + 1) cap9))) := by
 have hAB := (Array.getElem?_eq_some_iff.1 hA).1
 obtain ⟨j0, hj, hjz0, hjz1, hjz2⟩ := info_parts Tryz.infoArg
 refine cA.mono ?_
 rintro e w7 ⟨a7, ys, p7, c7, E7, q7, rfl, hk7, hr7, hb7, hres⟩
 obtain ⟨tx, xa, xk, xc, rfl⟩ := ax_cells hk7
 have hs7 := hb7.size
 obtain ⟨rows, hrl, hown, hsx, h3⟩ := hrow.kept (w' := w7) fun q hq hlt => hb7.block q hlt (by omega)
 have hoz : ∀ q, (Value.slice va acc.length vc).ownBlock = some q → q < w.heap.size ∧ AB + 1 ≤ q := fun q hq => by
  obtain ⟨_, _, h, _⟩ := hrow
  exact ⟨(h.lt q hq).2, (h.lt q hq).1⟩
 rw [hN] at hown
 have b8 : Below w7.heap.size w7 (w7.alloc (.cells #[.int .i64 a7.kind, .string tx, .slice xa xk xc] 86)) := (Below.refl _ _).alloc (Nat.le_refl _) _
 have hnews := World.news_of_block (heap_alloc_new w7 (.cells #[.int .i64 a7.kind, .string tx, .slice xa xk xc] 86))
 obtain ⟨g9, cap9, W9, hrun, hown9, hg9, hor9, hlt9⟩ := run_append_lies (P := Tryz.prog) (w7.alloc (.cells #[.int .i64 a7.kind, .string tx, .slice xa xk xc] 86)) 25 25 (AB + 1) 86 j0 (.agg #[.int .i64 0, .string ⟨#[]⟩, .slice none 0 0]) 3 48 Tryz.underlying25 hj hjz0 hjz1 hjz2 rfl (by decide) (.slice va N vc) N _ (hown.alloc _) ⟨w7.heap.size, 0, none⟩ 1 1 [.int .i64 a7.kind, .string tx, .slice xa xk xc] rfl hnews (by simp [Value.oneCell']) (by decide) (by unfold maxLen; omega) (by omega) (by simp; omega) _ rfl
 have hp := ARow.push (base := AB + 1) (z := w.heap.size) (ks := acc) (va := va) (vc := vc) (w := w7) (k := a7) (rows := rows) hrl hsx h3 (by omega) (fun q hq => by have := (hoz q hq).1; omega) hk7 b8 (by rw [hN]; exact hown9) (by rw [hN]; exact hg9) (by rw [hN]; exact hor9)
 rw [hN] at hp
 have hfar : ∀ q, q < w7.heap.size → q < AB + 1 → W9.heap[q]? = w7.heap[q]? := fun q h1 h2 => hp.2 q h1 (fun e => by have := (hoz q (by rw [hN]; exact e.symm)).2; omega)
 have eC7 := (hb7.block AB (by omega) (by omega)).trans hA
 have eC8 := (b8.block AB (by omega)).trans eC7
 have eC9 := (hfar AB (by omega) (by omega)).trans eC7
 refine ⟨a7.kind, tx, xa, xk, xc, w7, _, g9, cap9, W9, rfl, rfl, rd_cell eC7 rfl, rfl, rd_cell eC8 rfl, hrun, rd_cell eC9 rfl, rd_free eC9 2, ?_⟩
 have hsz9 : w7.heap.size ≤ W9.heap.size := Nat.le_trans b8.size hg9.size
 refine ⟨a7, p7, c7, E7, q7, hres, hr7.kept ((Below.heap_setCell _ _ _ _ (show cb ≠ AB by omega)).trans (hfar cb (by omega) (by omega))), ?_, rd_set (i := 2) (.slice (some ⟨g9, 0, none⟩) (N + 1) cap9) eC9, ?_⟩
 ·refine (hb7.less (by omega)).trans ⟨?_, ?_, ?_, ?_, fun q hq _ => (Below.heap_setCell _ _ _ _ (show q ≠ AB by omega)).trans (hfar q (by omega) (by omega))⟩
  ·exact hg9.os.trans b8.os
  ·exact hg9.tape.trans b8.tape
  ·exact hg9.output.trans b8.output
  ·simpa using hsz9
 ·rw [List.length_append, hN]
  refine hp.1.kept fun q hq hlt => Below.heap_setCell _ _ _ _ (show q ≠ AB by omega)
end Go.Proofs.YtogigccbnohjjaaGreatDoor
