/-
  What mime.inside does: where the parts of a body lie.
-/
import Derived.Test.YtgbbkdflnlagaaaGreatDoorMimeSeq
import Derived.Test.YtgbbkdflnlagaaaGreatDoorMimeEnd
import Derived.Test.YtgbbkdflnlagaaaGreatDoorMimeKind
import Derived.Test.YtgbbkdflnlagaaaGreatDoorMimeFrame
import Derived.Test.YtgbbkdflnlagaaaGreatDoorHeadCat
namespace Go.Proofs.YtgbbkdflnlagaaaGreatDoor
open Go.RowKit Go.Proofs.Aid Go.Proofs.Sq Go.Proofs.Hd Go.Proofs.Mm
attribute [local go_sem] Oper.semAt_some

theorem run_store_func (P : Program) (w : World) (a : Addr) (f : Nat) (bs : Array Value) (old : Value) (h : w.cell? a = some old) (hf : w.frozen? a = false) : (store a (.func (.func f) #[] bs)).run P w = .ok () (w.setCell a (.func (.func f) #[] bs)) := by
  rw [run_store P w a _ _ rfl, h, hf]
  rfl
theorem Tryz.infoSpan : (Tryz.prog.info? 84).map (fun i => (i.zero, i.size, i.bytes)) = some (some (.agg #[.int .i64 0, .int .i64 0]), 2, 16) := by kernel_rfl
def opn : Option Nat → List (Nat × Nat)
  | none => []
  | some b => [(b, b)]
/-- The blocks that inside turns. -/
def InsX (H k : Nat) : Prop := k = H + 1 + 1 ∨ k = H + 1 + 1 + 1 ∨ k = H + 1 + 1 + 1 + 1 + 1 ∨ k = H + 1 + 1 + 1 + 1 + 1 + 1
/-- Between two rounds. -/
def InsI (H n : Nat) (mark : Tx) (W0 : World) (pre : List Pt) (W : World) : Prop :=
  ∃ place beg closed v, (∀ rest, closed ++ spans n mark place beg rest = spans n mark 0 none (pre.map Pt.l ++ rest)) ∧ place ≤ n ∧ (beg = none → closed = []) ∧ (closed ++ opn beg).length ≤ pre.length ∧
    Boxed W (H + 1 + 1 + 1) 134 v ∧ Boxed W (H + 1 + 1 + 1 + 1 + 1) 3 (.int .i64 (place : Int)) ∧ Boxed W (H + 1 + 1) 134 (.slice none 0 0) ∧
    W.ownsRow W0.heap.size 84 2 v (closed ++ opn beg).length (cellsS (closed ++ opn beg)) ∧ Frm W0.heap.size (InsX H) W0 W
/-- Behind a round that left. -/
def InsR (H n : Nat) (mark : Tx) (W0 : World) (pre : List Pt) (W : World) : Prop :=
  ∃ v L, (∀ rest, spans n mark 0 none (pre.map Pt.l ++ rest) = L) ∧ Boxed W (H + 1 + 1) 134 v ∧ W.ownsRow W0.heap.size 84 2 v L.length (cellsS L) ∧ Frm W0.heap.size (InsX H) W0 W
theorem turns_frm {b base : Nat} {X : Nat → Prop} {A B : World} (h : Turns b base A B) (hs : base ≤ A.heap.size) (hX : X b) : Frm base X A B := by
  obtain ⟨row, hg, hr⟩ := h
  exact frm_grown hg hs (fun r e => (hr r e).elim (fun e => Or.inl (e ▸ hX)) (fun h => Or.inr h.1))
theorem turns_box {b base k t : Nat} {A B : World} {v : Value} (h : Turns b base A B) (hk : Boxed A k t v) (hlt : k < base) (hne : k ≠ b) : Boxed B k t v := by
  obtain ⟨row, hg, hr⟩ := h
  exact (hg.block k (Array.getElem?_eq_some_iff.1 hk).1 (fun e => by rcases hr k e.symm with h | ⟨h, _⟩ <;> omega)).trans hk
theorem turns_row {b base size n : Nat} {e : TypeId} {A B : World} {v : Value} {xs : List Value} (h : Turns b base A B) (hrow : A.ownsRow base e size v n xs) (hb : b < base) : B.ownsRow base e size v n xs := by
  obtain ⟨row, hg, hr⟩ := h
  refine own_same hrow fun g hgv => ?_
  obtain ⟨arr, fz, hh⟩ := own_cells hrow hgv
  have hl := hrow.lt g hgv
  refine hg.block g hl.2 (fun e1 => ?_)
  rcases hr g e1.symm with h | ⟨_, o, h1, h2⟩
  · omega
  · rw [hh] at h1
    cases h1
    cases h2
theorem insI_bears (H n : Nat) (mark : Tx) (W0 : World) (hb : H + 1 + 1 + 1 + 1 + 1 + 1 < W0.heap.size) : Aid.Bears (H + 1 + 1 + 1 + 1 + 1 + 1) W0.heap.size (InsI H n mark W0) := by
  rintro s A B ⟨place, beg, closed, v, h1, h2, h3, h5, h6, h7, h8, h9, h10⟩ ht
  exact ⟨place, beg, closed, v, h1, h2, h3, h5, turns_box ht h6 (by omega) (by omega), turns_box ht h7 (by omega) (by omega), turns_box ht h8 (by omega) (by omega), turns_row ht h9 hb, h10.trans (turns_frm ht h10.size (Or.inr (Or.inr (Or.inr rfl))))⟩
theorem insR_bears (H n : Nat) (mark : Tx) (W0 : World) (hb : H + 1 + 1 + 1 + 1 + 1 + 1 < W0.heap.size) : Aid.Bears (H + 1 + 1 + 1 + 1 + 1 + 1) W0.heap.size (InsR H n mark W0) := by
  rintro s A B ⟨v, L, h1, h2, h3, h4⟩ ht
  exact ⟨v, L, h1, turns_box ht h2 (by omega) (by omega), turns_row ht h3 hb, h4.trans (turns_frm ht h4.size (Or.inr (Or.inr (Or.inr rfl))))⟩
theorem own_base {e : TypeId} {base base' size n : Nat} {w : World} {v : Value} {xs : List Value} (h : w.ownsRow base e size v n xs) (hb : base' ≤ base) : w.ownsRow base' e size v n xs := by
  refine ⟨h.1, ?_⟩
  rcases h.2 with h2 | ⟨g, cap, cur, rfl, h4, r⟩
  · exact Or.inl h2
  · exact Or.inr ⟨g, cap, cur, rfl, Nat.le_trans hb h4, r⟩
/-- What a round turns: the cells of out, place and the result, and out's row. -/
structure Rnd (H : Nat) (v : Value) (W W' : World) : Prop where
  os : W'.os = W.os
  tape : W'.tape = W.tape
  output : W'.output = W.output
  size : W.heap.size ≤ W'.heap.size
  block : ∀ k, k < W.heap.size → k ≠ H + 1 + 1 → k ≠ H + 1 + 1 + 1 → k ≠ H + 1 + 1 + 1 + 1 + 1 → v.ownBlock ≠ some k → W'.heap[k]? = W.heap[k]?
theorem Rnd.trans {H : Nat} {v : Value} {w w' w'' : World} (h : Rnd H v w w') (k : Rnd H v w' w'') : Rnd H v w w'' :=
  ⟨k.os.trans h.os, k.tape.trans h.tape, k.output.trans h.output, Nat.le_trans h.size k.size, fun j hj a b c d => (k.block j (Nat.lt_of_lt_of_le hj h.size) a b c d).trans (h.block j hj a b c d)⟩
theorem rnd_below {H : Nat} {v : Value} {w w' : World} (h : Below w.heap.size w w') : Rnd H v w w' := ⟨h.os, h.tape, h.output, h.size, fun k hk _ _ _ _ => h.block k hk⟩
theorem rnd_grown {H : Nat} {v : Value} {w w' : World} (h : w.grownBy w' v.ownBlock) : Rnd H v w w' := ⟨h.os, h.tape, h.output, h.size, fun k hk _ _ _ hv => h.block k hk (Ne.symm hv)⟩
theorem rnd_set {H b : Nat} {v : Value} (w : World) (u : Value) (h : b = H + 1 + 1 ∨ b = H + 1 + 1 + 1 ∨ b = H + 1 + 1 + 1 + 1 + 1) : Rnd H v w (w.setCell ⟨b, 0, none⟩ u) :=
  ⟨rfl, rfl, rfl, by simp, fun k _ h1 h2 h3 _ => Below.heap_setCell _ _ _ _ (fun e => by have e' : k = b := e; omega)⟩
theorem Rnd.keeps {H base n size : Nat} {e : TypeId} {v u0 u1 u2 : Value} {t0 t1 t2 : TypeId} {xs : List Value} {W W' : World} (h : Rnd H v W W') (hrow : W.ownsRow base e size v n xs) (k0 : Boxed W (H + 1 + 1) t0 u0) (k1 : Boxed W (H + 1 + 1 + 1) t1 u1) (k2 : Boxed W (H + 1 + 1 + 1 + 1 + 1) t2 u2) :
    ∀ (k : Nat) (o : Obj), W.heap[k]? = some o → o.isCells = false → W'.heap[k]? = some o := by
  intro k o hk ho
  rw [← hk]
  refine h.block k (Array.getElem?_eq_some_iff.1 hk).1 ?_ ?_ ?_ ?_
  · rintro rfl
    rw [show W.heap[H + 1 + 1]? = _ from k0] at hk; cases hk; cases ho
  · rintro rfl
    rw [show W.heap[H + 1 + 1 + 1]? = _ from k1] at hk; cases hk; cases ho
  · rintro rfl
    rw [show W.heap[H + 1 + 1 + 1 + 1 + 1]? = _ from k2] at hk; cases hk; cases ho
  · intro hv
    obtain ⟨arr, fz, hh⟩ := own_cells hrow hv
    rw [hh] at hk; cases hk; cases ho
theorem Rnd.far {H base n size k : Nat} {e : TypeId} {v : Value} {xs : List Value} {W W' : World} (h : Rnd H v W W') (hrow : W.ownsRow base e size v n xs) (hs : base ≤ W.heap.size) (hk : k < base) (h1 : k ≠ H + 1 + 1) (h2 : k ≠ H + 1 + 1 + 1) (h3 : k ≠ H + 1 + 1 + 1 + 1 + 1) : W'.heap[k]? = W.heap[k]? :=
  h.block k (by omega) h1 h2 h3 (fun hv => by have := (hrow.lt k hv).1; omega)
theorem Rnd.frm {H base n size : Nat} {e : TypeId} {v : Value} {xs : List Value} {W W' : World} (h : Rnd H v W W') (hrow : W.ownsRow base e size v n xs) (hs : base ≤ W.heap.size) : Frm base (InsX H) W W' :=
  ⟨h.os, h.tape, h.output, h.size, fun k hk hx => by
    unfold InsX at hx
    exact h.far hrow hs hk (by omega) (by omega) (by omega)⟩
/-- What end does, in one form. -/
theorem end_any (base ob : Nat) (zi : Int) (beg : Option Nat) (closed : List (Nat × Nat)) (v : Value) (w : World) (hb : Boxed w ob 134 v) (hrow : w.ownsRow base 84 2 v (closed ++ opn beg).length (cellsS (closed ++ opn beg))) (hbn : beg = none → closed = []) (hl : (closed ++ opn beg).length ≤ 2000000) :
    Calls Tryz.prog 104 #[.int .i64 zi, .pointer (some ⟨ob, 0, none⟩)] w fun e w' => e = .returned (.tuple #[]) ∧ w'.ownsRow base 84 2 v (closed ++ close beg zi.toNat).length (cellsS (closed ++ close beg zi.toNat)) ∧ w.grownBy w' v.ownBlock := by
  cases beg with
  | none =>
    obtain rfl := hbn rfl
    obtain ⟨a, c, rfl⟩ := row_slice hrow
    refine (end_nil ob zi a c w hb).mono ?_
    rintro e w' ⟨rfl, rfl⟩
    exact ⟨rfl, hrow, ⟨rfl, rfl, rfl, Nat.le_refl _, fun _ _ _ => rfl⟩⟩
  | some b =>
    have hll : (closed ++ opn (some b)).length = closed.length + 1 := by rw [List.length_append]; rfl
    have hl2 : (closed ++ close (some b) zi.toNat).length = closed.length + 1 := by rw [List.length_append]; rfl
    rw [hll] at hrow hl
    obtain ⟨g, c, rfl⟩ := row_some hrow (by omega)
    refine (end_some base ob closed b b zi g c w hb hrow (by omega)).mono ?_
    rintro e w' ⟨rfl, q, rfl⟩
    refine ⟨rfl, ?_, ?_⟩
    · rw [hl2]
      have hst := ((row_below (below_drewN (Below.refl w.heap.size w) q) (Nat.le_refl _) hrow).stored (closed.length * 2 + 1) (.int .i64 ((max b zi.toNat : Nat) : Int))).1
      rw [show opn (some b) = [(b, b)] from rfl, cellsS_setlast] at hst
      exact hst
    · refine ⟨rfl, rfl, rfl, by simp, fun k hk hne => ?_⟩
      rw [Below.heap_setCell _ _ _ _ (fun e1 => hne (by have e2 : k = g := e1; rw [e2]; rfl))]
      simp
theorem own_put {e : TypeId} {base base' size n D : Nat} {w : World} {v : Value} {xs : List Value} {d : Option (List Deferred)} (h : w.ownsRow base e size v n xs) (hb : base' ≤ base) (hD : w.heap[D]? = some (.deferred d)) (o : Obj) : (w.putObj D o).ownsRow base' e size v n xs := by
  refine own_same (own_base h hb) fun g hg => World.putObj_heap_other ?_
  rintro rfl
  obtain ⟨arr, fz, hh⟩ := own_cells h hg
  rw [hh] at hD
  cases hD
set_option maxRecDepth 100000 in
set_option maxHeartbeats 4000000 in
theorem inside_in (body mark : ByteArray) (m : Int) (w : World) (hs : body.size ≤ 1000000) (hmk : mark.size ≤ 1000000) (hm : w.cell? ⟨1, 0, none⟩ = some (.int .i64 m)) :
    CallsIn Fence.wide 3 Tryz.prog 67 #[.string body, .string mark] w fun e w' => Below w.heap.size w w' ∧ ∃ v, e = .returned v ∧ w'.ownsRow w.heap.size 84 2 v (insideOf body.data.toList mark.data.toList).length (cellsS (insideOf body.data.toList mark.data.toList)) := by
  have hglt : 1 < w.heap.size := World.block_lt_of_cell? _ _ hm
  obtain ⟨i0, hi, hz0, hz1, hz2⟩ := info_parts Tryz.infoSpan
  obtain ⟨L, hL⟩ : ∃ L, insideOf body.data.toList mark.data.toList = L := ⟨_, rfl⟩
  have HL : Hid (insideOf body.data.toList mark.data.toList = L) := hL
  rw [hL]
  clear hL
  have bF : Boxed (((((w.alloc (.cells #[.string body] 9)).alloc (.cells #[.string mark] 9)).alloc (.cells #[.slice none 0 0] 134)).alloc (.cells #[.slice none 0 0] 134)).alloc (.cells #[.nilFunc] 126)) (w.heap.size + 1 + 1 + 1 + 1) 126 .nilFunc := by
    have := Boxed.new ((((w.alloc (.cells #[.string body] 9)).alloc (.cells #[.string mark] 9)).alloc (.cells #[.slice none 0 0] 134)).alloc (.cells #[.slice none 0 0] 134)) 126 .nilFunc
    simpa only [World.size_alloc] using this
  have hst := run_store_func Tryz.prog (((((w.alloc (.cells #[.string body] 9)).alloc (.cells #[.string mark] 9)).alloc (.cells #[.slice none 0 0] 134)).alloc (.cells #[.slice none 0 0] 134)).alloc (.cells #[.nilFunc] 126)) ⟨w.heap.size + 1 + 1 + 1 + 1, 0, none⟩ 104 #[.pointer (some ⟨w.heap.size + 1 + 1 + 1, 0, none⟩)] .nilFunc bF.cell bF.frozen
  refine callsIn_of_wp_marks Tryz.func67 rfl trivial ?_ rfl
  simp only [Tryz.ntmps67, List.size_toArray, List.length_cons, List.length_nil, Nat.reduceAdd, Nat.reduceSub, Array.replicate_succ, Array.replicate_zero, List.push_toArray, List.append_toArray, List.nil_append, List.cons_append]
  gi_wp2_with fail
  refine ⟨trivial, ?_⟩
  refine (callsIn_wide.2 (splitSeq2_any body _)).mono ?_
  rintro e w4 ⟨rfl, rfl⟩
  gi_wp2_with fail
  clear hst bF
  obtain ⟨W1, e1, z1, b1, l1⟩ := push_box w 9 (.string body)
  obtain ⟨W2, e2, z2, b2, l2⟩ := push_box W1 9 (.string mark)
  obtain ⟨W3, e3, z3, b3, l3⟩ := push_box W2 134 (.slice none 0 0)
  obtain ⟨W4, e4, z4, b4, l4⟩ := push_box W3 134 (.slice none 0 0)
  obtain ⟨W5, e5, z5, b5, l5⟩ := push_box W4 126 (.func (.func 104) #[] #[.pointer (some ⟨w.heap.size + 1 + 1 + 1, 0, none⟩)])
  obtain ⟨W6, e6, z6, b6, l6⟩ := push_box W5 3 (.int .i64 0)
  obtain ⟨W7, e7, z7, b7, l7⟩ := push_box W6 9 (.string body)
  obtain ⟨W8, e8, z8, b8, l8⟩ := push_box W7 9 (.string ⟨#[13, 10]⟩)
  obtain ⟨W9, e9, z9, b9, l9⟩ := push_box W8 3 (.int .i64 0)
  rw [e1, e2, e3, e4, e5, e6, e7, e8, e9]
  obtain ⟨H, hH⟩ : ∃ H, w.heap.size = H := ⟨_, rfl⟩
  rw [hH] at z1
  rw [z1] at z2
  rw [z2] at z3
  rw [z3] at z4
  rw [z4] at z5
  rw [z5] at z6
  rw [z6] at z7
  rw [z7] at z8
  rw [z8] at z9
  have L89 := l9
  have L79 := l8.trans (L89.mono (by omega))
  have L69 := l7.trans (L79.mono (by omega))
  have L59 := l6.trans (L69.mono (by omega))
  have L49 := l5.trans (L59.mono (by omega))
  have L39 := l4.trans (L49.mono (by omega))
  have L29 := l3.trans (L39.mono (by omega))
  have L19 := l2.trans (L29.mono (by omega))
  have L09 := l1.trans (L19.mono (by omega))
  have c1 := box_below b1 L19 (by omega)
  have c2 := box_below b2 L29 (by omega)
  have c3 := box_below b3 L39 (by omega)
  have c4 := box_below b4 L49 (by omega)
  have c5 := box_below b5 L59 (by omega)
  have c6 := box_below b6 L69 (by omega)
  have c7 := box_below b7 L79 (by omega)
  have c8 := box_below b8 L89 (by omega)
  rw [hH] at c1 c5
  rw [z1] at c2
  rw [z2] at c3
  rw [z3] at c4
  rw [z4] at c5
  rw [z5] at c6
  rw [z6] at c7
  rw [z7] at c8
  rw [z8] at b9
  have hm9 : W9.cell? ⟨1, 0, none⟩ = some (.int .i64 m) := (L09.cell (p := ⟨1, 0, none⟩) hglt).trans hm
  rw [hH] at L09 hglt ⊢
  clear e1 e2 e3 e4 e5 e6 e7 e8 e9 l1 l2 l3 l4 l5 l6 l7 l8 l9 L19 L29 L39 L49 L59 L69 L79 L89 b1 b2 b3 b4 b5 b6 b7 b8 z1 z2 z3 z4 z5 z6 z7 z8
  have hlb := list_size body
  obtain ⟨n, hn⟩ : ∃ n, body.size = n := ⟨_, rfl⟩
  obtain ⟨mk, hmkl⟩ : ∃ l, mark.data.toList = l := ⟨_, rfl⟩
  have hpc : (pieces body.data.toList).length ≤ 1000001 := by
    have h1 := pieces_count (body.data.toList.length + 1) body.data.toList (Nat.lt_succ_self _)
    have h2 := Lib.countB_le ⟨#[13, 10]⟩ (by decide) _ body (Nat.le_refl _)
    have h3 : Lib.countB body ⟨#[13, 10]⟩ = Lib.countFrom [13, 10] (body.data.toList.length + 1) body.data.toList := rfl
    omega
  refine wpIn_range_turnK (b := H + 1 + 1 + 1 + 1 + 1 + 1) (by omega) (Kp := SeqKp (H + 1 + 1 + 1 + 1 + 1 + 1)) (by rintro k (rfl | rfl | rfl | rfl) <;> omega) rfl (by decide) (gf := 186) (lb := #[.pointer (some ⟨H + 1 + 1 + 1 + 1 + 1 + 1 + 1, 0, none⟩), .pointer (some ⟨H + 1 + 1 + 1 + 1 + 1 + 1, 0, none⟩), .pointer (some ⟨H + 1 + 1 + 1 + 1 + 1 + 1 + 1 + 1, 0, none⟩)]) rfl trivial (enters_of Tryz.func186 (by kernel_rfl) rfl)
    (split2_hands _ (by decide) (H + 1 + 1 + 1 + 1 + 1 + 1) body hs m W9 (by omega) c7 c8 b9 hm9) (fun _ => rfl)
    (InsI H n mk W9) (InsR H n mk W9) (insI_bears _ _ _ _ (by omega)) (insR_bears _ _ _ _ (by omega)) ⟨0, none, [], .slice none 0 0, fun rest => rfl, Nat.zero_le _, fun _ => rfl, Nat.le_refl _, c4, c6, c3, World.ownsRow_nil _ _ _ _, Frm.refl _ _ _⟩
    (fun x => { tmps := #[.string body, .string mark, .pointer (some ⟨H, 0, none⟩), .pointer (some ⟨H + 1, 0, none⟩), .pointer (some ⟨H + 1 + 1, 0, none⟩), .pointer (some ⟨H + 1 + 1 + 1, 0, none⟩), .pointer (some ⟨H + 1 + 1 + 1 + 1, 0, none⟩), .pointer (some ⟨H + 1 + 1 + 1 + 1 + 1, 0, none⟩), .string x.1, undef, .func (.func 104) #[] #[.pointer (some ⟨H + 1 + 1 + 1, 0, none⟩)], .string body, .func (.func 186) #[] #[.pointer (some ⟨H + 1 + 1 + 1 + 1 + 1 + 1 + 1, 0, none⟩), .pointer (some ⟨H + 1 + 1 + 1 + 1 + 1 + 1, 0, none⟩), .pointer (some ⟨H + 1 + 1 + 1 + 1 + 1 + 1 + 1 + 1, 0, none⟩)], .string x.1, undef, undef, undef, undef, undef, undef, undef, undef, undef, undef, undef, undef, undef, undef, undef, undef, undef, undef, undef, undef, undef, undef, undef, undef, undef, undef, undef, undef, undef, undef, undef, undef, undef, undef, undef, undef, undef, undef], defers := [] }) ?assign ?body ?done ?stop
  case assign =>
    intro l x W K hK
    gi_wp2
    exact hK
  case body =>
    rintro l pre x W hWs ⟨place, beg, closed, v, hsp, hpn, hbn, hlen, kO, kP, kR, hrow, hfr⟩ hpl
    have hxs := x.2
    have kB := hfr.box c1 (by omega) (by unfold InsX; omega)
    have kM := hfr.box c2 (by omega) (by unfold InsX; omega)
    have kF := hfr.box c5 (by omega) (by unfold InsX; omega)
    have qB := kB.cell
    have qP := kP.cell
    obtain ⟨bh, hbh⟩ : ∃ bh, min (place + x.1.size + 2) n = bh := ⟨_, rfl⟩
    have hmin : min ((place : Int) + (x.1.size : Int) + 2) (n : Int) = (bh : Int) := by omega
    have hlx : x.l.length = x.1.size := list_size x.1
    have HSP : Hid (∀ rest, closed ++ spans n mk place beg (x.l :: rest) = spans n mk 0 none ((pre ++ [x]).map Pt.l ++ rest)) := fun rest => by rw [hsp, List.map_append, List.append_assoc]; rfl
    have HSS : Hid (∀ rest, spans n mk place beg (x.l :: rest) = if rtrim x.l = mk then close beg (place - 2) ++ spans n mk bh (some bh) rest else if rtrim x.l = mk ++ [45, 45] then close beg (place - 2) else spans n mk bh beg rest) := fun rest => by rw [spans, hlx, hbh]
    have cT := rtrim_is x.1 W hxs
    obtain ⟨rt, hrt⟩ : ∃ t : ByteArray, ⟨(rtrim x.1.data.toList).toArray⟩ = t := ⟨_, rfl⟩
    have HRT : Hid (rt.data.toList = rtrim x.l) := by show rt.data.toList = rtrim x.1.data.toList; rw [← hrt]
    rw [hrt] at cT
    clear hrt hsp
    gi_wp2_with fail
    refine ⟨trivial, ?_⟩
    refine (CallsIn.inRound l (callsIn_wide.2 cT)).mono ?_
    clear cT
    rintro e w5 ⟨rfl, hb5⟩
    have hw5 := hb5.size
    have r05 : Rnd H v W w5 := rnd_below hb5
    have HW : Hid (∀ W', Rnd H v W W' → W.heap.size ≤ W'.heap.size ∧ (∀ (k : Nat) (o : Obj), W.heap[k]? = some o → o.isCells = false → W'.heap[k]? = some o) ∧ (∀ k, SeqKp (H + 1 + 1 + 1 + 1 + 1 + 1) k → W'.heap[k]? = W.heap[k]?) ∧ Frm W9.heap.size (InsX H) W9 W') := fun W' hR =>
      ⟨hR.size, hR.keeps hrow kR kO kP, fun k hk => hR.far hrow hWs (by rcases hk with rfl | rfl | rfl | rfl <;> omega) (by rcases hk with rfl | rfl | rfl | rfl <;> omega) (by rcases hk with rfl | rfl | rfl | rfl <;> omega) (by rcases hk with rfl | rfl | rfl | rfl <;> omega), hfr.trans (hR.frm hrow hWs)⟩
    have lO := box_below kO hb5 (by omega)
    have lP := box_below kP hb5 (by omega)
    have lR := box_below kR hb5 (by omega)
    have lM := box_below kM hb5 (by omega)
    have lF := box_below kF hb5 (by omega)
    have lrow := row_below hb5 (Nat.le_refl _) hrow
    have qM := lM.cell
    have qF := lF.cell
    have qP5 := lP.cell
    have qPf := lP.frozen
    have qO := lO.cell
    clear kO kP kR kM kF kB hrow hfr qB qP hb5
    by_cases hmark : rtrim x.l = mk
    · obtain rfl : rt = mark := text_ext (by rw [HRT.out, hmark, hmkl])
      have cE := end_any W9.heap.size (H + 1 + 1 + 1) ((place : Int) - 2) beg closed v w5 lO lrow hbn (by omega)
      rw [show ((place : Int) - 2).toNat = place - 2 by omega] at cE
      gi_wp2_with fail
      refine ⟨trivial, ?_⟩
      refine (CallsIn.inRound l (callsIn_wide.2 cE)).mono ?_
      clear cE
      rintro e w6 ⟨rfl, hrow6, hg6⟩
      have nO := lO.not_row (by decide) lrow
      have nP := lP.not_row (by decide) lrow
      have nR := lR.not_row (by decide) lrow
      have mO := lO.kept hg6 nO
      have mP := lP.kept hg6 nP
      have mR := lR.kept hg6 nR
      have hw6 := hg6.size
      have qO6 := mO.cell
      have hr56 : Rnd H v w5 w6 := rnd_grown hg6
      have hnews : ∀ (j : Nat) (u : Value), [Value.int .i64 (bh : Int), Value.int .i64 (bh : Int)][j]? = some u → (w6.alloc (.cells #[.int .i64 (bh : Int), .int .i64 (bh : Int)] 84)).cell? (Addr.add ⟨w6.heap.size, 0, none⟩ j) = some u := World.news_of_block (heap_alloc_new w6 (.cells #[.int .i64 (bh : Int), .int .i64 (bh : Int)] 84))
      have hlc : (closed ++ close beg (place - 2)).length ≤ 1000001 := by
        have : (closed ++ close beg (place - 2)).length = (closed ++ opn beg).length := by
          rw [List.length_append, List.length_append]; cases beg <;> rfl
        omega
      have hlr : (closed ++ close beg (place - 2)).length ≤ pre.length := by
        have : (closed ++ close beg (place - 2)).length = (closed ++ opn beg).length := by
          rw [List.length_append, List.length_append]; cases beg <;> rfl
        omega
      obtain ⟨ln, hln⟩ : ∃ k, (closed ++ close beg (place - 2)).length = k := ⟨_, rfl⟩
      rw [hln] at hrow6 hlc hlr
      have HLN : Hid ((closed ++ close beg (place - 2)).length = ln) := hln
      clear qM qF qP5 qPf qO hln
      gi_wp2_with (gi_at_builtin; refine wpListIn_append_own _ rfl _ _ 134 rfl W9.heap.size 84 i0 (.agg #[.int .i64 0, .int .i64 0]) 2 16 Tryz.underlying134 hi hz0 hz1 hz2 rfl (by decide) _ _ _ rfl (hrow6.alloc _) ⟨w6.heap.size, 0, none⟩ 1 1 [.int .i64 (bh : Int), .int .i64 (bh : Int)] rfl rfl hnews (by simp [Value.oneCell']) (by unfold maxLen; omega) (by omega) (by simp; omega) ?_; intro v' w7 hown7 hg7 _; obtain ⟨g7, cap7, rfl⟩ := ownsRow_succ hown7; have pO := (mO.alloc (.cells #[.int .i64 (bh : Int), .int .i64 (bh : Int)] 84)).kept hg7 nO; have pP := (mP.alloc (.cells #[.int .i64 (bh : Int), .int .i64 (bh : Int)] 84)).kept hg7 nP; have pR := (mR.alloc (.cells #[.int .i64 (bh : Int), .int .i64 (bh : Int)] 84)).kept hg7 nR; have qO7 := pO.cell; have qOf := pO.frozen; have qP7 := (box_far pP (b := H + 1 + 1 + 1) (by omega) (.slice (some ⟨g7, 0, none⟩) (ln + 1) cap7)).cell; have qPf7 := (box_far pP (b := H + 1 + 1 + 1) (by omega) (.slice (some ⟨g7, 0, none⟩) (ln + 1) cap7)).frozen)
      have r67 : Rnd H v w6 w7 := (rnd_below ((Below.refl _ w6).alloc (Nat.le_refl _) (.cells #[.int .i64 (bh : Int), .int .i64 (bh : Int)] 84))).trans (rnd_grown hg7)
      obtain ⟨h1, h2, h3, h4⟩ := HW.out _ ((((r05.trans hr56).trans r67).trans (rnd_set w7 (.slice (some ⟨g7, 0, none⟩) (ln + 1) cap7) (b := H + 1 + 1 + 1) (by omega))).trans (rnd_set _ (.int .i64 (bh : Int)) (b := H + 1 + 1 + 1 + 1 + 1) (by omega)))
      have hll : (closed ++ close beg (place - 2) ++ opn (some bh)).length = ln + 1 := by rw [List.length_append, HLN.out]; rfl
      refine ⟨h1, h2, h3, bh, some bh, closed ++ close beg (place - 2), _, ?_, by omega, fun h => (by cases h), by rw [hll, List.length_append]; show ln + 1 ≤ pre.length + 1; omega, box_far (pO.set _) (by omega) _, (box_far pP (by omega) _).set _, box_far (box_far pR (by omega) _) (by omega) _, ?_, h4⟩
      · intro rest
        rw [← HSP.out, HSS.out, if_pos hmark, List.append_assoc]
      · rw [hll, cellsS_append]
        exact own_same hown7 (fun g hg => by
          have hlg := (hown7.lt g hg).1
          rw [Below.heap_setCell _ _ _ _ (fun e => by have e' : g = H + 1 + 1 + 1 + 1 + 1 := e; omega), Below.heap_setCell _ _ _ _ (fun e => by have e' : g = H + 1 + 1 + 1 := e; omega)])
    · have hne1 : (rt.toList == mark.toList) = false := by
        rw [Lib.toList_data, Lib.toList_data, HRT.out, hmkl, beq_eq_false_iff_ne]
        exact hmark
      have hsz : mark.size + (⟨#[45, 45]⟩ : ByteArray).size ≤ 2000000 := by show mark.size + 2 ≤ _; omega
      have hcl : (mark ++ ⟨#[45, 45]⟩ : ByteArray).data.toList = mk ++ [45, 45] := by rw [cat_list, hmkl]
      by_cases hlast : rtrim x.l = mk ++ [45, 45]
      · obtain rfl : rt = mark ++ ⟨#[45, 45]⟩ := text_ext (by rw [HRT.out, hlast, hcl])
        have cE := end_any W9.heap.size (H + 1 + 1 + 1) ((place : Int) - 2) beg closed v w5 lO lrow hbn (by omega)
        rw [show ((place : Int) - 2).toNat = place - 2 by omega] at cE
        gi_wp2_with fail
        refine ⟨trivial, ?_⟩
        refine (CallsIn.inRound l (callsIn_wide.2 cE)).mono ?_
        clear cE
        rintro e w6 ⟨rfl, hrow6, hg6⟩
        have nO := lO.not_row (by decide) lrow
        have nR := lR.not_row (by decide) lrow
        have mO := lO.kept hg6 nO
        have mR := lR.kept hg6 nR
        have hr56 : Rnd H v w5 w6 := rnd_grown hg6
        obtain ⟨ln, hln⟩ : ∃ k, (closed ++ close beg (place - 2)).length = k := ⟨_, rfl⟩
        rw [hln] at hrow6
        have HLN : Hid ((closed ++ close beg (place - 2)).length = ln) := hln
        obtain ⟨va, vc, rfl⟩ := row_slice hrow6
        have qO6 := mO.cell
        have qR6 := mR.cell
        have qRf := mR.frozen
        clear qM qF qP5 qPf qO hln
        gi_wp2_with fail
        obtain ⟨h1, h2, h3, h4⟩ := HW.out _ ((r05.trans hr56).trans (rnd_set w6 (.slice va ln vc) (b := H + 1 + 1) (by omega)))
        refine ⟨h2, _, closed ++ close beg (place - 2), ?_, mR.set _, ?_, h4⟩
        · intro rest
          rw [← HSP.out, HSS.out, if_neg hmark, if_pos hlast]
        · rw [HLN.out]
          exact own_same hrow6 (fun g hg => by
            have hlg := (hrow6.lt g hg).1
            rw [Below.heap_setCell _ _ _ _ (fun e => by have e' : g = H + 1 + 1 := e; omega)])
      · have hne2 : (rt.toList == (mark ++ ⟨#[45, 45]⟩ : ByteArray).toList) = false := by
          rw [Lib.toList_data, Lib.toList_data, HRT.out, hcl, beq_eq_false_iff_ne]
          exact hlast
        clear qF qO
        gi_wp2_with fail
        obtain ⟨h1, h2, h3, h4⟩ := HW.out _ (r05.trans (rnd_set w5 (.int .i64 (bh : Int)) (b := H + 1 + 1 + 1 + 1 + 1) (by omega)))
        refine ⟨h1, h2, h3, bh, beg, closed, v, ?_, by omega, hbn, Nat.le_trans hlen (by simp), box_far lO (by omega) _, lP.set _, box_far lR (by omega) _, ?_, h4⟩
        · intro rest
          rw [← HSP.out, HSS.out, if_neg hmark, if_neg hlast]
        · exact own_same lrow (fun g hg => by
            have hlg := (lrow.lt g hg).1
            rw [Below.heap_setCell _ _ _ _ (fun e => by have e' : g = H + 1 + 1 + 1 + 1 + 1 := e; omega)])
  case done =>
    rintro D ys W hD hys ⟨place, beg, closed, v, hsp, hpn, hbn, hlen, kO, kP, kR, hrow, hfr⟩ hK
    have kB := hfr.box c1 (by omega) (by unfold InsX; omega)
    have kF := hfr.box c5 (by omega) (by unfold InsX; omega)
    have hWs := hfr.size
    have HSP : Hid (closed ++ close beg n = L) := by
      have := hsp []
      rw [List.append_nil, hys] at this
      rw [← HL.out]
      show _ = spans _ _ _ _ _
      rw [hmkl, hlb, hn]
      exact this
    have hlp : (closed ++ opn beg).length ≤ 1000001 := by
      have h1 := congrArg List.length hys
      rw [List.length_map] at h1
      omega
    have cE := end_any W9.heap.size (H + 1 + 1 + 1) (n : Int) beg closed v W kO hrow hbn (by omega)
    rw [Int.toNat_natCast] at cE
    have qB := kB.cell
    have qF := kF.cell
    gi_wp2_with fail
    refine ⟨trivial, ?_⟩
    refine (callsIn_wide.2 cE).mono ?_
    clear cE
    rintro e w6 ⟨rfl, hrow6, hg6⟩
    have nO := kO.not_row (by decide) hrow
    have nR := kR.not_row (by decide) hrow
    have mO := kO.kept hg6 nO
    have mR := kR.kept hg6 nR
    have hr6 : Rnd H v W w6 := rnd_grown hg6
    rw [HSP.out] at hrow6
    obtain ⟨ln, hln⟩ : ∃ k, L.length = k := ⟨_, rfl⟩
    rw [hln] at hrow6
    obtain ⟨va, vc, rfl⟩ := row_slice hrow6
    have qO6 := mO.cell
    have qR6 := mR.cell
    have qRf := mR.frozen
    have hK6 : w6.heap[D]? = some (.deferred (some [])) := hr6.keeps hrow kR kO kP D _ hK rfl
    have hRR := hr6.trans (rnd_set (v := .slice va ln vc) w6 (.slice va ln vc) (b := H + 1 + 1) (by omega))
    have hfrm := hfr.trans (hRR.frm hrow hWs)
    clear qB qF
    gi_wp2_with fail
    have hK' := hRR.keeps hrow kR kO kP D _ hK rfl
    have z2 : Boxed (w6.setCell ⟨H + 1 + 1, 0, none⟩ (.slice va ln vc)) (H + 1 + 1) 134 (.slice va ln vc) := mR.set _
    refine ⟨by simp, .inl ⟨_, _, rfl, run_takeDeferred hK', ?_⟩⟩
    have q2 := (box_below z2 (below_put _ (.deferred none) (Nat.le_refl D)) (by omega)).cell
    have hrowS : (w6.setCell ⟨H + 1 + 1, 0, none⟩ (.slice va ln vc)).ownsRow W9.heap.size 84 2 (.slice va ln vc) ln (cellsS L) := own_same hrow6 (fun g hg => by
      have hlg := (hrow6.lt g hg).1
      rw [Below.heap_setCell _ _ _ _ (fun e => by have e' : g = H + 1 + 1 := e; omega)])
    refine ⟨.slice va ln vc, ?_, ?_, _, rfl, by rw [hln]; exact own_put hrowS (by omega) hK' _⟩
    · simp [results, Tryz.f67, go_sem, q2]
    · rw [hH]
      exact (L09.trans (hfrm.below (by omega) (by unfold InsX; omega))).trans (below_put _ _ (by omega))
  case stop =>
    rintro D pre W hD ⟨rest, hrest⟩ ⟨v, L', hsp, kR, hrow, hfr⟩ hK
    obtain rfl : L = L' := by
      rw [← HL.out]
      show spans _ _ _ _ _ = _
      rw [hmkl, hlb, hn, ← hrest]
      exact hsp rest
    gi_wp2
    refine ⟨by simp, .inl ⟨_, _, rfl, run_takeDeferred hK, ?_⟩⟩
    have q2 := (box_below kR (below_put _ (.deferred none) (Nat.le_refl D)) (by omega)).cell
    refine ⟨v, ?_, ?_, _, rfl, own_put hrow (by omega) hK _⟩
    · simp [results, Tryz.f67, go_sem, q2]
    · rw [hH]
      exact (L09.trans (hfr.below (by omega) (by unfold InsX; omega))).trans (below_put _ _ (by omega))
theorem inside_is (body mark : ByteArray) (m : Int) (w : World) (hs : body.size ≤ 1000000) (hmk : mark.size ≤ 1000000) (hm : w.cell? ⟨1, 0, none⟩ = some (.int .i64 m)) :
    Calls Tryz.prog 67 #[.string body, .string mark] w fun e w' => Below w.heap.size w w' ∧ ∃ v, e = .returned v ∧ w'.ownsRow w.heap.size 84 2 v (insideOf body.data.toList mark.data.toList).length (cellsS (insideOf body.data.toList mark.data.toList)) :=
  callsIn_wide.1 (inside_in body mark m w hs hmk hm)
end Go.Proofs.YtgbbkdflnlagaaaGreatDoor
