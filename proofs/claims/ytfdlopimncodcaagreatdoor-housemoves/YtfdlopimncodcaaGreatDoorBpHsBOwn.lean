/-
  A row of boxes of the call's own; one box more behind the others, and more.
-/
import Derived.Test.YtfdlopimncodcaaGreatDoorBpHsSaved
namespace Go.Proofs
theorem Tryz.infoBx : (Tryz.prog.info? 72).map (fun i => (i.zero, i.size, i.bytes)) = some (some (.agg #[.int .i64 0, .int .i64 0, .slice none 0 0]), 3, 40) := by kernel_rfl
end Go.Proofs
namespace Go.Proofs.YtfdlopimncodcaaGreatDoor
open Go.RowKit Go.Proofs.Aid Go.Proofs.Bx

theorem bflat3_get : ∀ {rows : List (List Value)} {j i : Nat} {xs : List Value}, (∀ ys ∈ rows, ys.length = 3) → rows[j]? = some xs → i < 3 → rows.flatten[j * 3 + i]? = xs[i]?
  | [], j, i, xs, _, h, _ => by simp at h
  | r :: rs, 0, i, xs, h6, h, hi => by
    obtain rfl : r = xs := by simpa using h
    have := h6 r List.mem_cons_self
    rw [List.flatten_cons, Nat.zero_mul, Nat.zero_add, List.getElem?_append_left (by omega)]
  | r :: rs, j + 1, i, xs, h6, h, hi => by
    have h1 := h6 r List.mem_cons_self
    rw [List.flatten_cons, List.getElem?_append_right (by omega), h1, show (j + 1) * 3 + i - 3 = j * 3 + i by omega]
    exact bflat3_get (fun ys hy => h6 ys (List.mem_cons_of_mem _ hy)) (by simpa using h) hi
/-- No text. -/
def NoTx (u : Value) : Prop := ∀ s, u ≠ .string s
/-- Three values are a box. -/
def BxRow (w : World) (x : Bxd) (xs : List Value) : Prop := ∃ lv, xs = [.int .i64 x.v, .int .i64 x.n, lv] ∧ Lts w lv x.ls
/-- A row of boxes that is nobody else's; no text lies in its block. -/
def BOwn (w : World) (base : Nat) (v : Value) (L : List Bxd) : Prop := ∃ rows : List (List Value), w.ownsRow base 72 3 v L.length rows.flatten ∧ rows.length = L.length ∧ (∀ (j : Nat) x xs, L[j]? = some x → rows[j]? = some xs → BxRow w x xs) ∧ (∀ xs ∈ rows, xs.length = 3) ∧ ∀ g, v.ownBlock = some g → AllC NoTx w g
theorem BOwn.nil (w : World) (base : Nat) : BOwn w base (.slice none 0 0) [] := ⟨[], World.ownsRow_nil _ _ _ _, rfl, fun j x xs h => (by simp at h), fun xs h => (by cases h), fun g h => (by cases h)⟩
theorem BOwn.keep {w w' : World} {base : Nat} {v : Value} {L : List Bxd} (h : BOwn w base v L) (hk : ∀ q, v.ownBlock = some q → w'.heap[q]? = w.heap[q]?) (ht : TxKeep w w') : BOwn w' base v L := by
  obtain ⟨rows, h1, h2, h3, h4, h5⟩ := h
  refine ⟨rows, own_same h1 fun q hq => hk q hq, h2, fun j x xs hj hx => ?_, h4, fun g hg => (h5 g hg).same (hk g hg)⟩
  obtain ⟨lv, e1, e2⟩ := h3 j x xs hj hx
  exact ⟨lv, e1, e2.tx ht⟩
theorem BOwn.below {w w' : World} {base : Nat} {v : Value} {L : List Bxd} (h : BOwn w base v L) (hb : Below w.heap.size w w') : BOwn w' base v L := by
  obtain ⟨rows, h1, _⟩ := id h
  exact h.keep (fun q hq => hb.block q (h1.lt q hq).2) (TxKeep.of hb)
theorem BOwn.form {w : World} {base : Nat} {v : Value} {L : List Bxd} (h : BOwn w base v L) : ∃ a c, v = .slice a L.length c := by
  obtain ⟨rows, h1, _⟩ := h
  exact row_form h1
theorem BOwn.lt {w : World} {base : Nat} {v : Value} {L : List Bxd} (h : BOwn w base v L) {q : Nat} (hq : v.ownBlock = some q) : base ≤ q ∧ q < w.heap.size := by
  obtain ⟨rows, h1, _⟩ := h
  exact h1.lt q hq
theorem bxr_of_own {w : World} {base : Nat} {v : Value} {L : List Bxd} (h : BOwn w base v L) : Bxr w v L := by
  obtain ⟨rows, h1, h2, h3, h4, h5⟩ := h
  rcases h1.2 with ⟨e1, e2⟩ | ⟨g, cap, cur, rfl, hg, hh, _⟩
  · exact ⟨none, 0, by rw [e1, e2], Or.inl (List.eq_nil_of_length_eq_zero e2)⟩
  · refine ⟨_, cap, rfl, Or.inr ⟨g, 0, rfl, fun j x hj => ?_⟩⟩
    have hjl : j < L.length := (List.getElem?_eq_some_iff.1 hj).1
    have hjr : rows[j]? = some (rows[j]'(by omega)) := List.getElem?_eq_getElem (by omega)
    obtain ⟨lv, hx, hs⟩ := h3 j x _ hj hjr
    have hc : ∀ i u, i < 3 → (rows[j]'(by omega))[i]? = some u → w.cell? ⟨g, j * 3 + i, none⟩ = some u := fun i u hi hu => by
      rw [h1.cellAt (j * 3 + i) (by omega), bflat3_get h4 hjr hi]
      exact hu
    rw [Nat.zero_add]
    refine ⟨?_, hc 1 (.int .i64 x.n) (by omega) (by rw [hx]; rfl), lv, hc 2 lv (by omega) (by rw [hx]; rfl), hs⟩
    have := hc 0 (.int .i64 x.v) (by omega) (by rw [hx]; rfl)
    rwa [Nat.add_zero] at this
/-- One box more behind the others. -/
theorem bown_push {w : World} {base : Nat} {va : Option Addr} {ca : Nat} {L : List Bxd} (h : BOwn w base (.slice va L.length ca) L) (hb : base ≤ w.heap.size) (hL : L.length ≤ 1000) (x : Bxd) (lv : Value) (hf : Lts w lv x.ls) :
    ∃ g cap W, (Builtin.append_ #[33, 33] 33 #[.slice va L.length ca, .slice (some ⟨w.heap.size, 0, none⟩) 1 1]).run Tryz.prog (w.alloc (.cells #[.int .i64 x.v, .int .i64 x.n, lv] 72)) = .ok (.slice (some ⟨g, 0, none⟩) (L.length + 1) cap) W ∧
      BOwn W base (.slice (some ⟨g, 0, none⟩) (L.length + 1) cap) (L ++ [x]) ∧ (W.os = w.os ∧ W.tape = w.tape ∧ W.output = w.output ∧ w.heap.size ≤ W.heap.size ∧ ∀ q, q < w.heap.size → (Value.slice va L.length ca).ownBlock ≠ some q → W.heap[q]? = w.heap[q]?) ∧ TxKeep w W := by
  obtain ⟨rows, h1, h2, h3, h4, h5⟩ := id h
  obtain ⟨j0, hj, hz, hs, hby⟩ := info_parts Tryz.infoBx
  have b8 : Below w.heap.size w (w.alloc (.cells #[.int .i64 x.v, .int .i64 x.n, lv] 72)) := (Below.refl _ _).alloc (Nat.le_refl _) _
  have hnews := World.news_of_block (heap_alloc_new w (.cells #[.int .i64 x.v, .int .i64 x.n, lv] 72))
  obtain ⟨fa, fc, hfv, _⟩ := id hf
  have hcell : ∀ u ∈ [Value.int .i64 x.v, Value.int .i64 x.n, lv], u.oneCell' = true := by
    rw [hfv]
    simp [Value.oneCell']
  have hnt : ∀ u ∈ [Value.int .i64 x.v, Value.int .i64 x.n, lv], NoTx u := by
    rw [hfv]
    intro u hu s
    rcases List.mem_cons.1 hu with rfl | hu
    · exact fun e => by cases e
    rcases List.mem_cons.1 hu with rfl | hu
    · exact fun e => by cases e
    · rw [List.mem_singleton.1 hu]; exact fun e => by cases e
  obtain ⟨g9, cap9, W9, hrun, hown9, hg9, hor9, hlt9, hnt9⟩ := run_append_clean (P := Tryz.prog) (w.alloc (.cells #[.int .i64 x.v, .int .i64 x.n, lv] 72)) NoTx 33 33 base 72 j0 (.agg #[.int .i64 0, .int .i64 0, .slice none 0 0]) 3 40 Tryz.underlying33 hj hz hs hby rfl (by decide) (.slice va L.length ca) L.length _ (h1.alloc _) (fun g hg => (h5 g hg).same (b8.block g (h1.lt g hg).2)) (fun u hu s => by
    have : u = .int .i64 0 ∨ u = .slice none 0 0 := by simpa [Value.cells] using hu
    rcases this with rfl | rfl <;> (intro e; cases e)) ⟨w.heap.size, 0, none⟩ 1 1 [.int .i64 x.v, .int .i64 x.n, lv] rfl hnews hcell hnt (by decide) (by unfold maxLen; omega) (by omega) (by simp; omega)
  have hz9 : (w.alloc (.cells #[.int .i64 x.v, .int .i64 x.n, lv] 72)).heap.size = w.heap.size + 1 := by simp
  have hkeep : ∀ q, q < w.heap.size → (Value.slice va L.length ca).ownBlock ≠ some q → W9.heap[q]? = w.heap[q]? := fun q hq hne => (hg9.block q (by omega) (fun e => hne e.symm)).trans (b8.block q hq)
  have htx : TxKeep w W9 := fun g i s hc => hkeep g (World.block_lt_of_cell? _ _ hc) fun e => h5 g e i _ hc s rfl
  refine ⟨g9, cap9, W9, hrun, ⟨rows ++ [[.int .i64 x.v, .int .i64 x.n, lv]], ?_, by simp [h2], fun j y ys hj hy => ?_, fun ys hy => ?_, fun g hg => ?_⟩, ⟨hg9.os.trans b8.os, hg9.tape.trans b8.tape, hg9.output.trans b8.output, Nat.le_trans b8.size hg9.size, hkeep⟩, htx⟩
  · rw [List.length_append, List.flatten_append, List.flatten_cons, List.flatten_nil, List.append_nil]
    exact hown9
  · by_cases hjl : j < L.length
    · rw [List.getElem?_append_left hjl] at hj
      rw [List.getElem?_append_left (by omega)] at hy
      obtain ⟨fu, e1, e2⟩ := h3 j y ys hj hy
      exact ⟨fu, e1, e2.tx htx⟩
    · have : j < (L ++ [x]).length := (List.getElem?_eq_some_iff.1 hj).1
      obtain rfl : j = L.length := by simp at this; omega
      rw [List.getElem?_append_right (Nat.le_refl _), Nat.sub_self] at hj
      rw [List.getElem?_append_right (by omega), h2, Nat.sub_self] at hy
      obtain rfl : x = y := by simpa using hj
      obtain rfl := Option.some.inj hy
      exact ⟨lv, rfl, hf.tx htx⟩
  · rcases List.mem_append.1 hy with h | h
    · exact h4 ys h
    · rw [List.mem_singleton.1 h]; rfl
  · obtain rfl : g9 = g := by simpa [Value.ownBlock] using hg
    exact hnt9
/-- A house, with all that it has: C says what lies in a box's block. -/
structure Hse (w : World) (hb mb : Nat) (l : Bxs) (nx : Int) (wv : Value) (W : List Nm) (C : Nat → Bxd) : Prop where
  hs : HsAt w hb mb l nx wv
  ws : Sl w wv W
  bx : ∀ p ∈ l, BoxAt w p.2 (C p.2).v (C p.2).n (C p.2).ls
theorem Hse.below {w w' : World} {hb mb : Nat} {l : Bxs} {nx : Int} {wv : Value} {W : List Nm} {C : Nat → Bxd} (h : Hse w hb mb l nx wv W C) (hb' : Below w.heap.size w w') : Hse w' hb mb l nx wv W C :=
  ⟨h.hs.below hb' (Nat.le_refl _), h.ws.below hb' (Nat.le_refl _), fun p hp => (h.bx p hp).below hb' (Nat.le_refl _)⟩
/-- All that it has, saved. -/
def svOf (l : Bxs) (W : List Nm) (nx : Int) (C : Nat → Bxd) : Svd := ⟨namesB l, l.map fun p => C p.2, W, nx⟩
/-- It is small enough to be held. -/
structure Sml (l : Bxs) (W : List Nm) (C : Nat → Bxd) : Prop where
  len : l.length ≤ 30
  wlen : W.length ≤ 60
  nm : ∀ p ∈ l, p.1.length ≤ 60
  ls : ∀ p ∈ l, (C p.2).ls.length ≤ 900
  fl : ∀ p ∈ l, ∀ y ∈ (C p.2).ls, y.flags.length ≤ 400
end Go.Proofs.YtfdlopimncodcaaGreatDoor
namespace Go.Proofs.Fl

theorem or_comm (x y : List Tx) : order (y ++ x) = order (x ++ y) := order_congr fun z => by simp [Or.comm]
theorem or_self {x : List Tx} (h : Ord x) : order (x ++ x) = x := ord_eq (order_ord _) h fun z => by rw [order_mem]; simp
theorem not_self (x : List Tx) : order (without x (order x)) = [] := by
  cases h : order (without x (order x)) with
  | nil => rfl
  | cons z l =>
    have hz : z ∈ order (without x (order x)) := by rw [h]; simp
    rw [order_mem, without_mem, order_mem] at hz
    exact absurd hz.1 hz.2
theorem not_or (x y : List Tx) : order (without (order (x ++ y)) (order y)) = order (without x (order y)) := order_congr fun z => by
  rw [without_mem, without_mem, order_mem, order_mem, List.mem_append]
  constructor
  · rintro ⟨h1 | h1, h2⟩
    · exact ⟨h1, h2⟩
    · exact absurd h1 h2
  · rintro ⟨h1, h2⟩; exact ⟨Or.inl h1, h2⟩
theorem or_not (x y : List Tx) : order (order (without x (order y)) ++ y) = order (x ++ y) := order_congr fun z => by
  rw [List.mem_append, order_mem, without_mem, order_mem, List.mem_append]
  by_cases h : z ∈ y <;> simp [h]
theorem has_own {s : Tx} (h : Own s) (l : List Tx) : hasF l s = l.contains s := by
  unfold hasF
  rw [h]
  simp
theorem or_own {x y : List Tx} (hx : ∀ s ∈ x, Own s) (hy : ∀ s ∈ y, Own s) : ∀ s ∈ order (x ++ y), Own s := fun s hs => by
  rw [order_mem, List.mem_append] at hs
  rcases hs with h | h
  · exact hx s h
  · exact hy s h
theorem not_has (x y : List Tx) (s : Tx) : (order (without x (order y))).contains s = (x.contains s && !y.contains s) := by
  rw [Bool.eq_iff_iff, List.contains_iff_mem, order_mem, without_mem, order_mem]
  simp
theorem or_has {x y : List Tx} {s : Tx} (h : s ∈ order (x ++ y)) : (x.contains s || y.contains s) = true := by
  rw [order_mem, List.mem_append] at h
  simpa using h
/-- Turned, and one said twice. -/
theorem turned {a : List Tx} {k : Nat} (hk : k < a.length) (h0 : (setOf a).2 = 0) : setOf (a.drop k ++ a.take k ++ [a[k]]) = setOf a := by
  refine setOf_congr (fun z => ?_) h0
  constructor
  · intro hz
    rw [← List.take_append_drop k a, List.mem_append] at hz
    rw [List.mem_append, List.mem_append]
    rcases hz with h | h
    · exact Or.inl (Or.inr h)
    · exact Or.inl (Or.inl h)
  · intro hz
    rw [List.mem_append, List.mem_append] at hz
    rcases hz with (h | h) | h
    · exact List.mem_of_mem_drop h
    · exact List.mem_of_mem_take h
    · rw [List.mem_singleton] at h; rw [h]; exact List.getElem_mem _
end Go.Proofs.Fl
namespace Go.Proofs.YtfdlopimncodcaaGreatDoor
open Go.Proofs.Bx
open Go.Proofs.Fl (Own Ord setOf namesOf order without fname)

theorem own_len {s : Fl.Tx} (h : Own s) : s.length ≤ 20 := by
  unfold Fl.Own fname at h
  split at h
  · cases hf : Fl.five.find? (Fl.sameL s) with
    | none => rw [hf] at h; simp at h
    | some n =>
      rw [hf] at h
      have hn : n = s := by simpa using h
      have hm := List.mem_of_find?_eq_some hf
      rw [hn] at hm
      have : s = Fl.five[0] ∨ s = Fl.five[1] ∨ s = Fl.five[2] ∨ s = Fl.five[3] ∨ s = Fl.five[4] := by simpa [Fl.five] using hm
      rcases this with rfl | rfl | rfl | rfl | rfl <;> decide
  · split at h
    · simp at h
    · split at h
      · simp at h
      · omega
/-- Flags that are a set. -/
def SetOk (F : List Fl.Tx) : Prop := (∀ s ∈ F, Own s) ∧ Ord F ∧ F.length ≤ 12
theorem namesOf_self : ∀ {x : List Fl.Tx}, (∀ s ∈ x, Own s) → namesOf x = (x, 0)
  | [], _ => rfl
  | s :: x, h => by
    have h1 : fname s = (s, 0) := h s List.mem_cons_self
    have h2 := namesOf_self (x := x) fun t ht => h t (List.mem_cons_of_mem _ ht)
    rw [Fl.namesOf, h1, h2]
    simp
theorem setOk_setOf {F : List Fl.Tx} (h : SetOk F) : setOf F = (F, 0) := by
  unfold Fl.setOf
  rw [namesOf_self h.1, if_neg (by simp), Fl.order_of_ord h.2.1, if_neg (by have := h.2.2; omega)]
theorem setOf_ok {l : List Fl.Tx} (h : (setOf l).2 = 0) : SetOk (setOf l).1 := by
  unfold Fl.setOf at h ⊢
  by_cases h1 : (namesOf l).2 ≠ 0
  · rw [if_pos h1] at h; exact absurd h h1
  · rw [if_neg h1] at h ⊢
    by_cases h2 : 12 < (order (namesOf l).1).length
    · rw [if_pos h2] at h; simp at h
    · rw [if_neg h2]
      refine ⟨fun s hs => Fl.namesOf_own l (by simpa using h1) s ((Fl.order_mem _ s).1 hs), Fl.order_ord _, Nat.le_of_not_lt h2⟩
theorem lim_ok {x : List Fl.Tx} (h1 : ∀ s ∈ x, Own s) (h2 : Ord x) (h : (limF x).2 = 0) : SetOk (limF x).1 := by
  unfold limF at h ⊢
  by_cases hl : 12 < x.length
  · rw [if_pos hl] at h; simp at h
  · rw [if_neg hl]; exact ⟨h1, h2, Nat.le_of_not_lt hl⟩
theorem chg_ok {had set : List Fl.Tx} {what : Int} (h1 : SetOk had) (h2 : SetOk set) (h : (chgF had what set).2 = 0) : SetOk (chgF had what set).1 := by
  unfold chgF at h ⊢
  split at h
  · next e => rw [if_pos e]; exact lim_ok h2.1 h2.2.1 h
  · next e =>
    rw [if_neg e]
    split at h
    · next e1 =>
      rw [if_pos e1]
      exact lim_ok (fun s hs => by
        rcases List.mem_append.1 ((Fl.order_mem _ s).1 hs) with h | h
        · exact h1.1 s h
        · exact h2.1 s h) (Fl.order_ord _) h
    · next e1 =>
      rw [if_neg e1]
      split at h
      · next e2 =>
        rw [if_pos e2]
        exact lim_ok (fun s hs => h1.1 s ((Fl.without_mem _ _ s).1 ((Fl.order_mem _ s).1 hs)).1) (Fl.order_ord _) h
      · simp at h
/-- A message as it may be here. -/
def LtOk (x : Lt) : Prop := SetOk x.flags ∧ (0 ≤ x.day ∧ x.day < 1000) ∧ x.text.length ≤ 300
/-- A box as it may be here. -/
structure BInv (n : Int) (l : List Lt) : Prop where
  rise : Rise l
  uid : ∀ x ∈ l, 1 ≤ x.uid ∧ x.uid < n
  ok : ∀ x ∈ l, LtOk x
  next : 1 ≤ n
theorem okLt_of {x : Lt} (h : LtOk x) : okLt x = true := by
  unfold okLt
  rw [setOk_setOf h.1]
  have h1 := h.2.1
  have h2 := h.2.2
  simp
  exact ⟨⟨h1.1, by omega⟩, by omega⟩
theorem riseB_of {n : Int} : ∀ {l : List Lt} {last : Int}, Rise l → (∀ x ∈ l, last < x.uid ∧ x.uid < n) → (∀ x ∈ l, LtOk x) → riseB n last l = true
  | [], _, _, _, _ => rfl
  | x :: r, last, hr, hu, ho => by
    have h1 := hu x List.mem_cons_self
    unfold Rise at hr
    rw [List.pairwise_cons] at hr
    have h2 := riseB_of (n := n) (l := r) (last := x.uid) hr.2 (fun y hy => ⟨hr.1 y hy, (hu y (List.mem_cons_of_mem _ hy)).2⟩) fun y hy => ho y (List.mem_cons_of_mem _ hy)
    rw [riseB, h2, okLt_of (ho x List.mem_cons_self)]
    simp [h1.1, h1.2]
theorem BInv.right {n : Int} {l : List Lt} (h : BInv n l) (hn : n ≤ 2147483647) (hl : l.length ≤ 60) : rightB 1 n l = true := by
  unfold rightB mayB
  rw [riseB_of h.rise (fun x hx => ⟨by have := (h.uid x hx).1; omega, (h.uid x hx).2⟩) h.ok]
  have := h.next
  simp [this, hn, hl]
/-- One deed at a box: what stays, what is new. -/
structure BStep (n : Int) (l : List Lt) (n' : Int) (l' : List Lt) : Prop where
  inv : BInv n' l'
  up : n ≤ n' ∧ n' ≤ n + 1
  old : ∀ y ∈ l', (∃ x ∈ l, x.uid = y.uid ∧ x.text = y.text) ∨ (y.uid = n ∧ n' = n + 1)
  len : l'.length ≤ l.length + 1
theorem BStep.refl {n : Int} {l : List Lt} (h : BInv n l) : BStep n l n l := ⟨h, ⟨Int.le_refl _, by omega⟩, fun y hy => Or.inl ⟨y, hy, rfl, rfl⟩, by omega⟩
theorem step_append {n : Int} {l : List Lt} (h : BInv n l) {F : List Fl.Tx} {day : Int} {t : Fl.Tx} (hF : SetOk F) (hd : 0 ≤ day ∧ day < 1000) (ht : t.length ≤ 300) : BStep n l (n + 1) (l ++ [⟨n, F, day, t⟩]) := by
  refine ⟨⟨?_, fun x hx => ?_, fun x hx => ?_, by have := h.next; omega⟩, ⟨by omega, by omega⟩, fun y hy => ?_, by simp⟩
  · unfold Rise
    rw [List.pairwise_append]
    refine ⟨h.rise, by simp, fun a ha b hb => ?_⟩
    rw [List.mem_singleton.1 hb]
    exact (h.uid a ha).2
  · rcases List.mem_append.1 hx with h1 | h1
    · have := h.uid x h1; omega
    · rw [List.mem_singleton.1 h1]; have := h.next; exact ⟨this, by show n < n + 1; omega⟩
  · rcases List.mem_append.1 hx with h1 | h1
    · exact h.ok x h1
    · rw [List.mem_singleton.1 h1]; exact ⟨hF, hd, ht⟩
  · rcases List.mem_append.1 hy with h1 | h1
    · exact Or.inl ⟨y, h1, rfl, rfl⟩
    · rw [List.mem_singleton.1 h1]; exact Or.inr ⟨rfl, rfl⟩
theorem step_flag {n : Int} {l : List Lt} (h : BInv n l) {i : Nat} {x : Lt} (hx : l[i]? = some x) {G : List Fl.Tx} (hG : SetOk G) : BStep n l n (l.set i (Lt.withF x G)) := by
  have hi := (List.getElem?_eq_some_iff.1 hx).1
  have hxe := (List.getElem?_eq_some_iff.1 hx).2
  have hxm : x ∈ l := hxe ▸ List.getElem_mem hi
  have hmem : ∀ y ∈ l.set i (Lt.withF x G), y ∈ l ∨ y = Lt.withF x G := fun y hy => List.mem_or_eq_of_mem_set hy
  refine ⟨⟨?_, fun y hy => ?_, fun y hy => ?_, h.next⟩, ⟨Int.le_refl _, by omega⟩, fun y hy => ?_, by simp⟩
  · unfold Rise
    have hm : (l.set i (Lt.withF x G)).map Lt.uid = l.map Lt.uid := by
      rw [List.map_set]
      apply List.ext_getElem?
      intro j
      rw [List.getElem?_set]
      by_cases hj : i = j
      · subst hj
        rw [if_pos rfl, if_pos (by simpa using hi), List.getElem?_map, hx]
        rfl
      · rw [if_neg hj]
    have := h.rise
    unfold Rise at this
    rw [← List.pairwise_map (f := Lt.uid) (R := fun a b => a < b)] at this ⊢
    rw [hm]
    exact this
  · rcases hmem y hy with h1 | rfl
    · exact h.uid y h1
    · exact h.uid x hxm
  · rcases hmem y hy with h1 | rfl
    · exact h.ok y h1
    · exact ⟨hG, (h.ok x hxm).2⟩
  · rcases hmem y hy with h1 | rfl
    · exact Or.inl ⟨y, h1, rfl, rfl⟩
    · exact Or.inl ⟨x, hxm, rfl, rfl⟩
theorem step_stay {n : Int} {l : List Lt} (h : BInv n l) (p : Int → Bool) : BStep n l n (stay p l) := by
  have hm : ∀ y ∈ stay p l, y ∈ l := fun y hy => (List.mem_filter.1 hy).1
  exact ⟨⟨List.Pairwise.filter _ h.rise, fun y hy => h.uid y (hm y hy), fun y hy => h.ok y (hm y hy), h.next⟩, ⟨Int.le_refl _, by omega⟩, fun y hy => Or.inl ⟨y, hm y hy, rfl, rfl⟩, by have := stay_le p l; omega⟩
end Go.Proofs.YtfdlopimncodcaaGreatDoor
