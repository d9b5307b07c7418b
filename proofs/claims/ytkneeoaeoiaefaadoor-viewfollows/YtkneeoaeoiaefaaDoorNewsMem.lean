/-
  What is told, in memory: rows of three cells.
-/
import Derived.Test.YtkneeoaeoiaefaaDoorSlClone
namespace Go.Proofs
theorem Tryd.infoNw : (Tryd.prog.info? 52).map (fun i => (i.zero, i.size, i.bytes)) = some (some (.agg #[.int .i64 0, .int .i64 0, .slice none 0 0]), 3, 40) := by kernel_rfl
end Go.Proofs
namespace Go.Proofs.YtkneeoaeoiaefaaDoor
open Go.RowKit Go.Proofs.Aid Go.Proofs.Bx

/-- What is told. -/
structure Nw where
  kind : Int
  n : Int
  flags : List Fl.Tx
theorem flat3_get : ∀ {rows : List (List Value)} {j i : Nat} {xs : List Value}, (∀ ys ∈ rows, ys.length = 3) → rows[j]? = some xs → i < 3 → rows.flatten[j * 3 + i]? = xs[i]?
  | [], j, i, xs, _, h, _ => by simp at h
  | r :: rs, 0, i, xs, h6, h, hi => by
    obtain rfl : r = xs := by simpa using h
    have := h6 r List.mem_cons_self
    rw [List.flatten_cons, Nat.zero_mul, Nat.zero_add, List.getElem?_append_left (by omega)]
  | r :: rs, j + 1, i, xs, h6, h, hi => by
    have h1 := h6 r List.mem_cons_self
    rw [List.flatten_cons, List.getElem?_append_right (by omega), h1, show (j + 1) * 3 + i - 3 = j * 3 + i by omega]
    exact flat3_get (fun ys hy => h6 ys (List.mem_cons_of_mem _ hy)) (by simpa using h) hi
/-- Three values are what is told; its flags lie elsewhere than the row. -/
def NwRow (w : World) (v : Value) (x : Nw) (xs : List Value) : Prop := ∃ fv, xs = [.int .i64 x.kind, .int .i64 x.n, fv] ∧ Sl w fv x.flags ∧ (x.flags = [] ∨ ∀ q, fv.ownBlock = some q → v.ownBlock ≠ some q)
/-- A row of news that is nobody else's; no text lies in its block. -/
def Nws (w : World) (v : Value) (S : List Nw) : Prop := ∃ rows : List (List Value), w.ownsRow 0 52 3 v S.length rows.flatten ∧ rows.length = S.length ∧ (∀ (j : Nat) x xs, S[j]? = some x → rows[j]? = some xs → NwRow w v x xs) ∧ (∀ xs ∈ rows, xs.length = 3) ∧ ∀ g, v.ownBlock = some g → AllC NoT w g
theorem Nws.nil (w : World) : Nws w (.slice none 0 0) [] := ⟨[], World.ownsRow_nil _ _ _ _, rfl, fun j x xs h => (by simp at h), fun xs h => (by cases h), fun g h => (by cases h)⟩
theorem NwRow.same {w w' : World} {v : Value} {x : Nw} {xs : List Value} (h : NwRow w v x xs) (hk : ∀ q, q < w.heap.size → v.ownBlock ≠ some q → ¬ NoStr w q → w'.heap[q]? = w.heap[q]?) : NwRow w' v x xs := by
  obtain ⟨fv, h1, h2, h3⟩ := h
  refine ⟨fv, h1, h2.same fun q hq hl hlt => hk q hlt ?_ fun hn => ?_, h3⟩
  · rcases h3 with h | h
    · exact absurd h hl
    · exact h q hq
  · obtain ⟨a, c, e1, _, e2⟩ := h2
    rcases e2 with e2 | ⟨b, o, e3, e4⟩
    · exact hl e2
    · cases hx : x.flags with
      | nil => exact hl hx
      | cons y ys =>
        rw [e1, e3] at hq
        obtain rfl : b = q := by simpa [Value.ownBlock] using hq
        exact hn _ _ (e4 0 y (by rw [hx]; rfl))
theorem Nws.same {w w' : World} {v : Value} {S : List Nw} (h : Nws w v S) (hk : ∀ q, q < w.heap.size → v.ownBlock = some q ∨ ¬ NoStr w q → w'.heap[q]? = w.heap[q]?) : Nws w' v S := by
  obtain ⟨rows, h1, h2, h3, h4, h5⟩ := h
  exact ⟨rows, own_same h1 fun q hq => hk q (h1.lt q hq).2 (Or.inl hq), h2, fun j x xs hj hx => (h3 j x xs hj hx).same fun q hq _ hn => hk q hq (Or.inr hn), h4, fun g hg => (h5 g hg).same (hk g (h1.lt g hg).2 (Or.inl hg))⟩
theorem Nws.below {w w' : World} {v : Value} {S : List Nw} (h : Nws w v S) (hb : Below w.heap.size w w') : Nws w' v S := h.same fun q hq _ => hb.block q hq
theorem nws_form {w : World} {v : Value} {S : List Nw} (h : Nws w v S) : ∃ a c, v = .slice a S.length c := by
  obtain ⟨rows, h1, _⟩ := h
  rcases h1.2 with ⟨h2, h3⟩ | ⟨g, cap, cur, hv, _⟩
  · exact ⟨none, 0, by rw [h2, h3]⟩
  · exact ⟨_, _, hv⟩
theorem Nws.lt {w : World} {v : Value} {S : List Nw} (h : Nws w v S) {q : Nat} (hq : v.ownBlock = some q) : q < w.heap.size := by
  obtain ⟨rows, h1, _⟩ := h
  exact (h1.lt q hq).2
theorem Nws.noStr {w : World} {v : Value} {S : List Nw} (h : Nws w v S) {q : Nat} (hq : v.ownBlock = some q) : NoStr w q := by
  obtain ⟨rows, _, _, _, _, h5⟩ := h
  exact noT_str (h5 q hq)
/-- A sight that is in the row can be read. -/
theorem nws_at {w : World} {v : Value} {S : List Nw} (h : Nws w v S) {j : Nat} {x : Nw} (hj : S[j]? = some x) : ∃ g c fv, v = .slice (some ⟨g, 0, none⟩) S.length c ∧ g < w.heap.size ∧
    w.cell? ⟨g, j * 3, none⟩ = some (.int .i64 x.kind) ∧ w.cell? ⟨g, j * 3 + 1, none⟩ = some (.int .i64 x.n) ∧ w.cell? ⟨g, j * 3 + 2, none⟩ = some fv ∧ Sl w fv x.flags := by
  obtain ⟨rows, h1, h2, h3, h4, h5⟩ := h
  have hjl : j < S.length := (List.getElem?_eq_some_iff.1 hj).1
  rcases h1.2 with ⟨_, h0⟩ | ⟨g, cap, cur, rfl, hg, hh, _⟩
  · omega
  · have hjr : rows[j]? = some (rows[j]'(by omega)) := List.getElem?_eq_getElem (by omega)
    obtain ⟨fv, hx, hs, ho⟩ := h3 j x _ hj hjr
    have hc : ∀ i u, i < 3 → (rows[j]'(by omega))[i]? = some u → w.cell? ⟨g, j * 3 + i, none⟩ = some u := fun i u hi hu => by
      rw [h1.cellAt (j * 3 + i) (by omega), flat3_get h4 hjr hi]
      exact hu
    refine ⟨g, cap, fv, rfl, (Array.getElem?_eq_some_iff.1 hh).1, ?_, hc 1 (.int .i64 x.n) (by omega) (by rw [hx]; rfl), hc 2 fv (by omega) (by rw [hx]; rfl), hs⟩
    have := hc 0 (.int .i64 x.kind) (by omega) (by rw [hx]; rfl)
    rwa [Nat.add_zero] at this
/-- One news more behind the others. -/
theorem nws_push {w : World} {va : Option Addr} {ca : Nat} {S : List Nw} (h : Nws w (.slice va S.length ca) S) (hL : S.length ≤ 1000) (x : Nw) (fv : Value) (hf : Sl w fv x.flags) :
    ∃ g cap W, (Builtin.append_ #[49, 49] 49 #[.slice va S.length ca, .slice (some ⟨w.heap.size, 0, none⟩) 1 1]).run Tryd.prog (w.alloc (.cells #[.int .i64 x.kind, .int .i64 x.n, fv] 52)) = .ok (.slice (some ⟨g, 0, none⟩) (S.length + 1) cap) W ∧
      Nws W (.slice (some ⟨g, 0, none⟩) (S.length + 1) cap) (S ++ [x]) ∧ (W.os = w.os ∧ W.tape = w.tape ∧ W.output = w.output ∧ w.heap.size ≤ W.heap.size ∧ ∀ q, q < w.heap.size → (Value.slice va S.length ca).ownBlock ≠ some q → W.heap[q]? = w.heap[q]?) ∧ Near w (.slice va S.length ca) (.slice (some ⟨g, 0, none⟩) (S.length + 1) cap) := by
  obtain ⟨rows, h1, h2, h3, h4, h5⟩ := id h
  obtain ⟨j0, hj, hz, hs, hby⟩ := info_parts Tryd.infoNw
  have b8 : Below w.heap.size w (w.alloc (.cells #[.int .i64 x.kind, .int .i64 x.n, fv] 52)) := (Below.refl _ _).alloc (Nat.le_refl _) _
  have hnews := World.news_of_block (heap_alloc_new w (.cells #[.int .i64 x.kind, .int .i64 x.n, fv] 52))
  obtain ⟨fa, fc, hfv, _⟩ := id hf
  have hcell : ∀ u ∈ [Value.int .i64 x.kind, Value.int .i64 x.n, fv], u.oneCell' = true := by
    rw [hfv]
    simp [Value.oneCell']
  have hnt : ∀ u ∈ [Value.int .i64 x.kind, Value.int .i64 x.n, fv], NoT u := by
    rw [hfv]
    intro u hu s
    rcases List.mem_cons.1 hu with rfl | hu
    · exact fun e => by cases e
    rcases List.mem_cons.1 hu with rfl | hu
    · exact fun e => by cases e
    · rw [List.mem_singleton.1 hu]; exact fun e => by cases e
  obtain ⟨g9, cap9, W9, hrun, hown9, hg9, hor9, hlt9, hnt9⟩ := run_append_clean (P := Tryd.prog) (w.alloc (.cells #[.int .i64 x.kind, .int .i64 x.n, fv] 52)) NoT 49 49 0 52 j0 (.agg #[.int .i64 0, .int .i64 0, .slice none 0 0]) 3 40 Tryd.underlying49 hj hz hs hby rfl (by decide) (.slice va S.length ca) S.length _ (h1.alloc _) (fun g hg => (h5 g hg).same (b8.block g (h1.lt g hg).2)) (fun u hu s => by
    have : u = .int .i64 0 ∨ u = .slice none 0 0 := by simpa [Value.cells] using hu
    rcases this with rfl | rfl <;> (intro e; cases e)) ⟨w.heap.size, 0, none⟩ 1 1 [.int .i64 x.kind, .int .i64 x.n, fv] rfl hnews hcell hnt (by decide) (by unfold maxLen; omega) (by omega) (Nat.zero_le _)
  have hz9 : (w.alloc (.cells #[.int .i64 x.kind, .int .i64 x.n, fv] 52)).heap.size = w.heap.size + 1 := by simp
  have hkeep : ∀ q, q < w.heap.size → (Value.slice va S.length ca).ownBlock ≠ some q → W9.heap[q]? = w.heap[q]? := fun q hq hne => (hg9.block q (by omega) (fun e => hne e.symm)).trans (b8.block q hq)
  have hns : ∀ q, (Value.slice va S.length ca).ownBlock = some q → NoStr w q := fun q hq => noT_str (h5 q hq)
  have hrow : ∀ y fu, Sl w fu y → Sl W9 fu y ∧ (y = [] ∨ ∀ q, fu.ownBlock = some q → (Value.slice (some ⟨g9, 0, none⟩) (S.length + 1) cap9).ownBlock ≠ some q) := fun y fu hy => by
    refine ⟨hy.same fun q hq hy0 hlt => hkeep q hlt fun e => hy.noStr hy0 hq (hns q e), ?_⟩
    by_cases hy0 : y = []
    · exact Or.inl hy0
    · refine Or.inr fun q hq e => ?_
      have hlt := hy.blk hy0 hq
      obtain rfl : g9 = q := by simpa [Value.ownBlock] using e
      rcases hor9 with e9 | e9
      · exact hy.noStr hy0 hq (hns _ e9)
      · rw [hz9] at e9
        omega
  refine ⟨g9, cap9, W9, hrun, ⟨rows ++ [[.int .i64 x.kind, .int .i64 x.n, fv]], ?_, by simp [h2], fun j y ys hj hy => ?_, fun ys hy => ?_, fun g hg => ?_⟩, ⟨hg9.os.trans b8.os, hg9.tape.trans b8.tape, hg9.output.trans b8.output, Nat.le_trans b8.size hg9.size, hkeep⟩, fun q hq => ?_⟩
  · rw [List.length_append, List.flatten_append, List.flatten_cons, List.flatten_nil, List.append_nil]
    exact hown9
  · by_cases hjl : j < S.length
    · rw [List.getElem?_append_left hjl] at hj
      rw [List.getElem?_append_left (by omega)] at hy
      obtain ⟨fu, e1, e2, e3⟩ := h3 j y ys hj hy
      obtain ⟨r1, r2⟩ := hrow _ fu e2
      exact ⟨fu, e1, r1, r2⟩
    · have : j < (S ++ [x]).length := (List.getElem?_eq_some_iff.1 hj).1
      obtain rfl : j = S.length := by simp at this; omega
      rw [List.getElem?_append_right (Nat.le_refl _), Nat.sub_self] at hj
      rw [List.getElem?_append_right (by omega), h2, Nat.sub_self] at hy
      obtain rfl : x = y := by simpa using hj
      obtain rfl := Option.some.inj hy
      obtain ⟨r1, r2⟩ := hrow _ fv hf
      exact ⟨fv, rfl, r1, r2⟩
  · rcases List.mem_append.1 hy with h | h
    · exact h4 ys h
    · rw [List.mem_singleton.1 h]; rfl
  · obtain rfl : g9 = g := by simpa [Value.ownBlock] using hg
    exact hnt9
  · obtain rfl : g9 = q := by simpa [Value.ownBlock] using hq
    rcases hor9 with e9 | e9
    · exact Or.inl e9
    · rw [hz9] at e9
      exact Or.inr (by omega)
end Go.Proofs.YtkneeoaeoiaefaaDoor
