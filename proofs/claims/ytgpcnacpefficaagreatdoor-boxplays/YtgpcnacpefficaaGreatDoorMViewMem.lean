/-
  A view in memory: a row of sights (a number and flags each) of its own.
-/
import Derived.Test.YtgpcnacpefficaaGreatDoorBpBoxApp
namespace Go.Proofs
theorem Tryz.infoSg : (Tryz.prog.info? 86).map (fun i => (i.zero, i.size, i.bytes)) = some (some (.agg #[.int .i64 0, .slice none 0 0]), 2, 32) := by kernel_rfl
end Go.Proofs
namespace Go.Proofs.YtgpcnacpefficaaGreatDoor
open Go.RowKit Go.Proofs.Aid Go.Proofs.Bx

/-- What is seen of a message. -/
structure Sg where
  uid : Int
  flags : List Fl.Tx
theorem flat2_get : ∀ {rows : List (List Value)} {j i : Nat} {xs : List Value}, (∀ ys ∈ rows, ys.length = 2) → rows[j]? = some xs → i < 2 → rows.flatten[j * 2 + i]? = xs[i]?
  | [], j, i, xs, _, h, _ => by simp at h
  | r :: rs, 0, i, xs, h6, h, hi => by
    obtain rfl : r = xs := by simpa using h
    have := h6 r List.mem_cons_self
    rw [List.flatten_cons, Nat.zero_mul, Nat.zero_add, List.getElem?_append_left (by omega)]
  | r :: rs, j + 1, i, xs, h6, h, hi => by
    have h1 := h6 r List.mem_cons_self
    rw [List.flatten_cons, List.getElem?_append_right (by omega), h1, show (j + 1) * 2 + i - 2 = j * 2 + i by omega]
    exact flat2_get (fun ys hy => h6 ys (List.mem_cons_of_mem _ hy)) (by simpa using h) hi
/-- Two values are a sight; its flags lie elsewhere than the row. -/
def SgRow (w : World) (v : Value) (x : Sg) (xs : List Value) : Prop := ∃ fv, xs = [.int .i64 x.uid, fv] ∧ Sl w fv x.flags ∧ (x.flags = [] ∨ ∀ q, fv.ownBlock = some q → v.ownBlock ≠ some q)
/-- No text. -/
def NoT (u : Value) : Prop := ∀ s, u ≠ .string s
theorem noT_str {w : World} {g : Nat} (h : AllC NoT w g) : NoStr w g := fun i s e => h i _ e s rfl
/-- A row of sights that is nobody else's; no text lies in its block. -/
def Sgs (w : World) (v : Value) (S : List Sg) : Prop := ∃ rows : List (List Value), w.ownsRow 0 86 2 v S.length rows.flatten ∧ rows.length = S.length ∧ (∀ (j : Nat) x xs, S[j]? = some x → rows[j]? = some xs → SgRow w v x xs) ∧ (∀ xs ∈ rows, xs.length = 2) ∧ ∀ g, v.ownBlock = some g → AllC NoT w g
/-- A view in memory, its row at sv. -/
def ViewAt (w : World) (vb : Nat) (sv : Value) (S : List Sg) : Prop := w.heap[vb]? = some (.cells #[sv] 62 (0, 0)) ∧ Sgs w sv S
theorem Sgs.nil (w : World) : Sgs w (.slice none 0 0) [] := ⟨[], World.ownsRow_nil _ _ _ _, rfl, fun j x xs h => (by simp at h), fun xs h => (by cases h), fun g h => (by cases h)⟩
/-- A slice of texts stays where its block does. -/
theorem Sl.same {w w' : World} {v : Value} {l : List Fl.Tx} (h : Sl w v l) (hk : ∀ q, v.ownBlock = some q → l ≠ [] → q < w.heap.size → w'.heap[q]? = w.heap[q]?) : Sl w' v l := by
  obtain ⟨a, c, h1, h0, h2⟩ := h
  refine ⟨a, c, h1, h0, ?_⟩
  rcases h2 with h2 | ⟨b, o, h3, h4⟩
  · exact Or.inl h2
  · by_cases hl : l = []
    · exact Or.inl hl
    refine Or.inr ⟨b, o, h3, fun j z hj => ?_⟩
    have h5 := h4 j z hj
    have hlt := World.block_lt_of_cell? _ _ h5
    have e := hk b (by rw [h1, h3]; rfl) hl hlt
    rw [← h5]
    simp only [World.cell?, e]
theorem Sl.blk {w : World} {v : Value} {l : List Fl.Tx} (h : Sl w v l) (hl : l ≠ []) {q : Nat} (hq : v.ownBlock = some q) : q < w.heap.size := by
  obtain ⟨a, c, h1, h0, h2⟩ := h
  rcases h2 with h2 | ⟨b, o, h3, h4⟩
  · exact absurd h2 hl
  · cases l with
    | nil => exact absurd rfl hl
    | cons t l =>
      have h5 := h4 0 t rfl
      have hlt := World.block_lt_of_cell? _ _ h5
      rw [h1, h3] at hq
      obtain rfl : b = q := by simpa [Value.ownBlock] using hq
      exact hlt
theorem SgRow.same {w w' : World} {v : Value} {x : Sg} {xs : List Value} (h : SgRow w v x xs) (hk : ∀ q, q < w.heap.size → v.ownBlock ≠ some q → ¬ NoStr w q → w'.heap[q]? = w.heap[q]?) : SgRow w' v x xs := by
  obtain ⟨fv, h1, h2, h3⟩ := h
  refine ⟨fv, h1, h2.same fun q hq hl hlt => hk q hlt ?_ fun hn => ?_, h3⟩
  · rcases h3 with h | h
    · exact absurd h hl
    · exact h q hq
  · obtain ⟨a, c, e1, _, e2⟩ := h2
    rcases e2 with e2 | ⟨b, o, e3, e4⟩
    · exact hl e2
    · cases hx : x.flags with
      | nil => exact hl hx
      | cons y ys =>
        rw [e1, e3] at hq
        obtain rfl : b = q := by simpa [Value.ownBlock] using hq
        exact hn _ _ (e4 0 y (by rw [hx]; rfl))
/-- Texts' slices do not lie in a block without texts. -/
theorem Sl.noStr {w : World} {v : Value} {l : List Fl.Tx} (h : Sl w v l) (hl : l ≠ []) {q : Nat} (hq : v.ownBlock = some q) : ¬ NoStr w q := fun hn => by
  obtain ⟨a, c, e1, _, e2⟩ := h
  rcases e2 with e2 | ⟨b, o, e3, e4⟩
  · exact hl e2
  · cases l with
    | nil => exact hl rfl
    | cons y ys =>
      rw [e1, e3] at hq
      obtain rfl : b = q := by simpa [Value.ownBlock] using hq
      exact hn _ _ (e4 0 y rfl)
theorem Sgs.same {w w' : World} {v : Value} {S : List Sg} (h : Sgs w v S) (hk : ∀ q, q < w.heap.size → v.ownBlock = some q ∨ ¬ NoStr w q → w'.heap[q]? = w.heap[q]?) : Sgs w' v S := by
  obtain ⟨rows, h1, h2, h3, h4, h5⟩ := h
  exact ⟨rows, own_same h1 fun q hq => hk q (h1.lt q hq).2 (Or.inl hq), h2, fun j x xs hj hx => (h3 j x xs hj hx).same fun q hq _ hn => hk q hq (Or.inr hn), h4, fun g hg => (h5 g hg).same (hk g (h1.lt g hg).2 (Or.inl hg))⟩
theorem Sgs.below {w w' : World} {v : Value} {S : List Sg} (h : Sgs w v S) (hb : Below w.heap.size w w') : Sgs w' v S := h.same fun q hq _ => hb.block q hq
theorem ViewAt.lt {w : World} {vb : Nat} {sv : Value} {S : List Sg} (h : ViewAt w vb sv S) : vb < w.heap.size := (Array.getElem?_eq_some_iff.1 h.1).1
theorem ViewAt.below {w w' : World} {vb : Nat} {sv : Value} {S : List Sg} (h : ViewAt w vb sv S) (hb : Below w.heap.size w w') : ViewAt w' vb sv S := ⟨(hb.block vb h.lt).trans h.1, h.2.below hb⟩
theorem sgs_form {w : World} {v : Value} {S : List Sg} (h : Sgs w v S) : ∃ a c, v = .slice a S.length c := by
  obtain ⟨rows, h1, _⟩ := h
  rcases h1.2 with ⟨h2, h3⟩ | ⟨g, cap, cur, hv, _⟩
  · exact ⟨none, 0, by rw [h2, h3]⟩
  · exact ⟨_, _, hv⟩
theorem Sgs.lt {w : World} {v : Value} {S : List Sg} (h : Sgs w v S) {q : Nat} (hq : v.ownBlock = some q) : q < w.heap.size := by
  obtain ⟨rows, h1, _⟩ := h
  exact (h1.lt q hq).2
theorem Sgs.noStr {w : World} {v : Value} {S : List Sg} (h : Sgs w v S) {q : Nat} (hq : v.ownBlock = some q) : NoStr w q := by
  obtain ⟨rows, _, _, _, _, h5⟩ := h
  exact noT_str (h5 q hq)
theorem ViewAt.noStr {w : World} {vb : Nat} {sv : Value} {S : List Sg} (h : ViewAt w vb sv S) : NoStr w vb := by
  obtain ⟨a, c, hv⟩ := sgs_form h.2
  intro i s hc
  simp only [World.cell?, h.1, hv] at hc
  match i, hc with
  | 0, hc => simp at hc
  | i + 1, hc => simp at hc
theorem ViewAt.apart {w : World} {vb : Nat} {sv : Value} {S : List Sg} (h : ViewAt w vb sv S) : sv.ownBlock ≠ some vb := by
  obtain ⟨h0, rows, h1, _⟩ := h
  exact row_off h1 h0 (by decide)
/-- A sight that is in the row can be read. -/
theorem sgs_at {w : World} {v : Value} {S : List Sg} (h : Sgs w v S) {j : Nat} {x : Sg} (hj : S[j]? = some x) : ∃ g c fv, v = .slice (some ⟨g, 0, none⟩) S.length c ∧ g < w.heap.size ∧
    w.cell? ⟨g, j * 2, none⟩ = some (.int .i64 x.uid) ∧ w.cell? ⟨g, j * 2 + 1, none⟩ = some fv ∧ Sl w fv x.flags := by
  obtain ⟨rows, h1, h2, h3, h4, h5⟩ := h
  have hjl : j < S.length := (List.getElem?_eq_some_iff.1 hj).1
  rcases h1.2 with ⟨_, h0⟩ | ⟨g, cap, cur, rfl, hg, hh, _⟩
  · omega
  · have hjr : rows[j]? = some (rows[j]'(by omega)) := List.getElem?_eq_getElem (by omega)
    obtain ⟨fv, hx, hs, ho⟩ := h3 j x _ hj hjr
    have hc : ∀ i u, i < 2 → (rows[j]'(by omega))[i]? = some u → w.cell? ⟨g, j * 2 + i, none⟩ = some u := fun i u hi hu => by
      rw [h1.cellAt (j * 2 + i) (by omega), flat2_get h4 hjr hi]
      exact hu
    refine ⟨g, cap, fv, rfl, (Array.getElem?_eq_some_iff.1 hh).1, ?_, hc 1 fv (by omega) (by rw [hx]; rfl), hs⟩
    have := hc 0 (.int .i64 x.uid) (by omega) (by rw [hx]; rfl)
    rwa [Nat.add_zero] at this
/-- Nothing but the view's block and its row's is changed. -/
structure VKeep (vb : Nat) (sv : Value) (w w' : World) : Prop where
  os : w'.os = w.os
  tape : w'.tape = w.tape
  output : w'.output = w.output
  size : w.heap.size ≤ w'.heap.size
  block : ∀ q, q < w.heap.size → q ≠ vb → sv.ownBlock ≠ some q → w'.heap[q]? = w.heap[q]?
theorem VKeep.of {vb : Nat} {sv : Value} {w w' : World} (h : Below w.heap.size w w') : VKeep vb sv w w' := ⟨h.os, h.tape, h.output, h.size, fun q hq _ _ => h.block q hq⟩
/-- A row in the old one's block, or in a new one. -/
def Near (w : World) (sv sv' : Value) : Prop := ∀ q, sv'.ownBlock = some q → sv.ownBlock = some q ∨ w.heap.size ≤ q
theorem VKeep.trans {vb : Nat} {sv sv' : Value} {w w1 w2 : World} (h : VKeep vb sv w w1) (hn : Near w sv sv') (k : VKeep vb sv' w1 w2) : VKeep vb sv w w2 :=
  ⟨k.os.trans h.os, k.tape.trans h.tape, k.output.trans h.output, Nat.le_trans h.size k.size, fun q hq h1 h2 => (k.block q (Nat.lt_of_lt_of_le hq h.size) h1 fun e => by
    rcases hn q e with h3 | h3
    · exact h2 h3
    · omega).trans (h.block q hq h1 h2)⟩
theorem Near.trans {w w1 : World} {a b c : Value} (h : Near w a b) (k : Near w1 b c) (hs : w.heap.size ≤ w1.heap.size) : Near w a c := fun q hq => by
  rcases k q hq with h1 | h1
  · exact h q h1
  · exact Or.inr (Nat.le_trans hs h1)
theorem Near.refl (w : World) (a : Value) : Near w a a := fun _ h => Or.inl h
/-- The view as it is behind a call on it. -/
def VNext (w : World) (vb : Nat) (sv : Value) (w' : World) (S' : List Sg) : Prop := ∃ sv', ViewAt w' vb sv' S' ∧ VKeep vb sv w w' ∧ Near w sv sv'
theorem VNext.trans {w w1 w2 : World} {vb : Nat} {sv sv1 : Value} {S2 : List Sg} (k1 : VKeep vb sv w w1) (n1 : Near w sv sv1) (h : VNext w1 vb sv1 w2 S2) : VNext w vb sv w2 S2 := by
  obtain ⟨sv2, h1, h2, h3⟩ := h
  exact ⟨sv2, h1, k1.trans n1 h2, n1.trans h3 k1.size⟩
/-- What reads texts stays. -/
theorem VKeep.texts {vb : Nat} {sv : Value} {w w' : World} {S : List Sg} (h : VKeep vb sv w w') (hv : ViewAt w vb sv S) {q : Nat} (hq : q < w.heap.size) (hn : ¬ NoStr w q) : w'.heap[q]? = w.heap[q]? :=
  h.block q hq (fun e => hn (by rw [e]; exact hv.noStr)) fun e => hn (hv.2.noStr e)
theorem Sl.vkeep {vb : Nat} {sv : Value} {w w' : World} {S : List Sg} {v : Value} {l : List Fl.Tx} (h : Sl w v l) (hk : VKeep vb sv w w') (hv : ViewAt w vb sv S) : Sl w' v l :=
  h.same fun _ hq hl hlt => hk.texts hv hlt (h.noStr hl hq)
theorem LtAt.vkeep {vb : Nat} {sv : Value} {w w' : World} {S : List Sg} {b o : Nat} {x : Lt} (h : LtAt w b o x) (hk : VKeep vb sv w w') (hv : ViewAt w vb sv S) : LtAt w' b o x := by
  obtain ⟨h1, ⟨fv, h2, h3⟩, h4, h5⟩ := h
  have e := hk.texts hv (World.block_lt_of_cell? _ _ h5) fun hn => hn _ _ h5
  have ec : ∀ i, w'.cell? ⟨b, i, none⟩ = w.cell? ⟨b, i, none⟩ := fun i => World.cell?_of_block (a := ⟨b, i, none⟩) e
  exact ⟨(ec _).trans h1, ⟨fv, (ec _).trans h2, h3.vkeep hk hv⟩, (ec _).trans h4, (ec _).trans h5⟩
theorem Lts.vkeep {vb : Nat} {sv : Value} {w w' : World} {S : List Sg} {v : Value} {l : List Lt} (h : Lts w v l) (hk : VKeep vb sv w w') (hv : ViewAt w vb sv S) : Lts w' v l := by
  obtain ⟨a, c, h1, h0, h2⟩ := h
  refine ⟨a, c, h1, h0, ?_⟩
  rcases h2 with h2 | ⟨b, o, h3, h4⟩
  · exact Or.inl h2
  · exact Or.inr ⟨b, o, h3, fun j x hj => (h4 j x hj).vkeep hk hv⟩
/-- One sight more behind the others. -/
theorem sgs_push {w : World} {va : Option Addr} {ca : Nat} {S : List Sg} (h : Sgs w (.slice va S.length ca) S) (hL : S.length ≤ 1000) (x : Sg) (fv : Value) (hf : Sl w fv x.flags) :
    ∃ g cap W, (Builtin.append_ #[60, 60] 60 #[.slice va S.length ca, .slice (some ⟨w.heap.size, 0, none⟩) 1 1]).run Tryz.prog (w.alloc (.cells #[.int .i64 x.uid, fv] 86)) = .ok (.slice (some ⟨g, 0, none⟩) (S.length + 1) cap) W ∧
      Sgs W (.slice (some ⟨g, 0, none⟩) (S.length + 1) cap) (S ++ [x]) ∧ (W.os = w.os ∧ W.tape = w.tape ∧ W.output = w.output ∧ w.heap.size ≤ W.heap.size ∧ ∀ q, q < w.heap.size → (Value.slice va S.length ca).ownBlock ≠ some q → W.heap[q]? = w.heap[q]?) ∧ Near w (.slice va S.length ca) (.slice (some ⟨g, 0, none⟩) (S.length + 1) cap) := by
  obtain ⟨rows, h1, h2, h3, h4, h5⟩ := id h
  obtain ⟨j0, hj, hz, hs, hby⟩ := info_parts Tryz.infoSg
  have b8 : Below w.heap.size w (w.alloc (.cells #[.int .i64 x.uid, fv] 86)) := (Below.refl _ _).alloc (Nat.le_refl _) _
  have hnews := World.news_of_block (heap_alloc_new w (.cells #[.int .i64 x.uid, fv] 86))
  obtain ⟨fa, fc, hfv, _⟩ := id hf
  have hcell : ∀ u ∈ [Value.int .i64 x.uid, fv], u.oneCell' = true := by
    rw [hfv]
    simp [Value.oneCell']
  have hnt : ∀ u ∈ [Value.int .i64 x.uid, fv], NoT u := by
    rw [hfv]
    intro u hu s
    rcases List.mem_cons.1 hu with rfl | hu
    · exact fun e => by cases e
    · rw [List.mem_singleton.1 hu]; exact fun e => by cases e
  obtain ⟨g9, cap9, W9, hrun, hown9, hg9, hor9, hlt9, hnt9⟩ := run_append_clean (P := Tryz.prog) (w.alloc (.cells #[.int .i64 x.uid, fv] 86)) NoT 60 60 0 86 j0 (.agg #[.int .i64 0, .slice none 0 0]) 2 32 Tryz.underlying60 hj hz hs hby rfl (by decide) (.slice va S.length ca) S.length _ (h1.alloc _) (fun g hg => (h5 g hg).same (b8.block g (h1.lt g hg).2)) (fun u hu s => by
    have : u = .int .i64 0 ∨ u = .slice none 0 0 := by simpa [Value.cells] using hu
    rcases this with rfl | rfl <;> (intro e; cases e)) ⟨w.heap.size, 0, none⟩ 1 1 [.int .i64 x.uid, fv] rfl hnews hcell hnt (by decide) (by unfold maxLen; omega) (by omega) (Nat.zero_le _)
  have hz9 : (w.alloc (.cells #[.int .i64 x.uid, fv] 86)).heap.size = w.heap.size + 1 := by simp
  have hkeep : ∀ q, q < w.heap.size → (Value.slice va S.length ca).ownBlock ≠ some q → W9.heap[q]? = w.heap[q]? := fun q hq hne => (hg9.block q (by omega) (fun e => hne e.symm)).trans (b8.block q hq)
  have hns : ∀ q, (Value.slice va S.length ca).ownBlock = some q → NoStr w q := fun q hq => noT_str (h5 q hq)
  have hrow : ∀ y fu, Sl w fu y → Sl W9 fu y ∧ (y = [] ∨ ∀ q, fu.ownBlock = some q → (Value.slice (some ⟨g9, 0, none⟩) (S.length + 1) cap9).ownBlock ≠ some q) := fun y fu hy => by
    refine ⟨hy.same fun q hq hy0 hlt => hkeep q hlt fun e => hy.noStr hy0 hq (hns q e), ?_⟩
    by_cases hy0 : y = []
    · exact Or.inl hy0
    · refine Or.inr fun q hq e => ?_
      have hlt := hy.blk hy0 hq
      obtain rfl : g9 = q := by simpa [Value.ownBlock] using e
      rcases hor9 with e9 | e9
      · exact hy.noStr hy0 hq (hns _ e9)
      · rw [hz9] at e9
        omega
  refine ⟨g9, cap9, W9, hrun, ⟨rows ++ [[.int .i64 x.uid, fv]], ?_, by simp [h2], fun j y ys hj hy => ?_, fun ys hy => ?_, fun g hg => ?_⟩, ⟨hg9.os.trans b8.os, hg9.tape.trans b8.tape, hg9.output.trans b8.output, Nat.le_trans b8.size hg9.size, hkeep⟩, fun q hq => ?_⟩
  · rw [List.length_append, List.flatten_append, List.flatten_cons, List.flatten_nil, List.append_nil]
    exact hown9
  · by_cases hjl : j < S.length
    · rw [List.getElem?_append_left hjl] at hj
      rw [List.getElem?_append_left (by omega)] at hy
      obtain ⟨fu, e1, e2, e3⟩ := h3 j y ys hj hy
      obtain ⟨r1, r2⟩ := hrow _ fu e2
      exact ⟨fu, e1, r1, r2⟩
    · have : j < (S ++ [x]).length := (List.getElem?_eq_some_iff.1 hj).1
      obtain rfl : j = S.length := by simp at this; omega
      rw [List.getElem?_append_right (Nat.le_refl _), Nat.sub_self] at hj
      rw [List.getElem?_append_right (by omega), h2, Nat.sub_self] at hy
      obtain rfl : x = y := by simpa using hj
      obtain rfl := Option.some.inj hy
      obtain ⟨r1, r2⟩ := hrow _ fv hf
      exact ⟨fv, rfl, r1, r2⟩
  · rcases List.mem_append.1 hy with h | h
    · exact h4 ys h
    · rw [List.mem_singleton.1 h]; rfl
  · obtain rfl : g9 = g := by simpa [Value.ownBlock] using hg
    exact hnt9
  · obtain rfl : g9 = q := by simpa [Value.ownBlock] using hq
    rcases hor9 with e9 | e9
    · exact Or.inl e9
    · rw [hz9] at e9
      exact Or.inr (by omega)
end Go.Proofs.YtgpcnacpefficaaGreatDoor
