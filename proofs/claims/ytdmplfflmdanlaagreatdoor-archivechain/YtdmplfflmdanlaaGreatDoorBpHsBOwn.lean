/-
  A row of boxes of the call's own; one box more behind the others, and more.
-/
import Derived.Test.YtdmplfflmdanlaaGreatDoorBpCiShelf
namespace Go.Proofs
theorem Tryz.infoBx : (Tryz.prog.info? 66).map (fun i => (i.zero, i.size, i.bytes)) = some (some (.agg #[.int .i64 0, .int .i64 0, .slice none 0 0]), 3, 40) := by kernel_rfl
end Go.Proofs
namespace Go.Proofs.YtdmplfflmdanlaaGreatDoor
open Go.RowKit Go.Proofs.Aid Go.Proofs.Bx

theorem bflat3_get : ∀ {rows : List (List Value)} {j i : Nat} {xs : List Value}, (∀ ys ∈ rows, ys.length = 3) → rows[j]? = some xs → i < 3 → rows.flatten[j * 3 + i]? = xs[i]?
  | [], j, i, xs, _, h, _ => by simp at h
  | r :: rs, 0, i, xs, h6, h, hi => by
    obtain rfl : r = xs := by simpa using h
    have := h6 r List.mem_cons_self
    rw [List.flatten_cons, Nat.zero_mul, Nat.zero_add, List.getElem?_append_left (by omega)]
  | r :: rs, j + 1, i, xs, h6, h, hi => by
    have h1 := h6 r List.mem_cons_self
    rw [List.flatten_cons, List.getElem?_append_right (by omega), h1, show (j + 1) * 3 + i - 3 = j * 3 + i by omega]
    exact bflat3_get (fun ys hy => h6 ys (List.mem_cons_of_mem _ hy)) (by simpa using h) hi
/-- No text. -/
def NoTx (u : Value) : Prop := ∀ s, u ≠ .string s
/-- Three values are a box. -/
def BxRow (w : World) (x : Bxd) (xs : List Value) : Prop := ∃ lv, xs = [.int .i64 x.v, .int .i64 x.n, lv] ∧ Lts w lv x.ls
/-- A row of boxes that is nobody else's; no text lies in its block. -/
def BOwn (w : World) (base : Nat) (v : Value) (L : List Bxd) : Prop := ∃ rows : List (List Value), w.ownsRow base 66 3 v L.length rows.flatten ∧ rows.length = L.length ∧ (∀ (j : Nat) x xs, L[j]? = some x → rows[j]? = some xs → BxRow w x xs) ∧ (∀ xs ∈ rows, xs.length = 3) ∧ ∀ g, v.ownBlock = some g → AllC NoTx w g
theorem BOwn.nil (w : World) (base : Nat) : BOwn w base (.slice none 0 0) [] := ⟨[], World.ownsRow_nil _ _ _ _, rfl, fun j x xs h => (by simp at h), fun xs h => (by cases h), fun g h => (by cases h)⟩
theorem BOwn.keep {w w' : World} {base : Nat} {v : Value} {L : List Bxd} (h : BOwn w base v L) (hk : ∀ q, v.ownBlock = some q → w'.heap[q]? = w.heap[q]?) (ht : TxKeep w w') : BOwn w' base v L := by
  obtain ⟨rows, h1, h2, h3, h4, h5⟩ := h
  refine ⟨rows, own_same h1 fun q hq => hk q hq, h2, fun j x xs hj hx => ?_, h4, fun g hg => (h5 g hg).same (hk g hg)⟩
  obtain ⟨lv, e1, e2⟩ := h3 j x xs hj hx
  exact ⟨lv, e1, e2.tx ht⟩
theorem BOwn.below {w w' : World} {base : Nat} {v : Value} {L : List Bxd} (h : BOwn w base v L) (hb : Below w.heap.size w w') : BOwn w' base v L := by
  obtain ⟨rows, h1, _⟩ := id h
  exact h.keep (fun q hq => hb.block q (h1.lt q hq).2) (TxKeep.of hb)
theorem BOwn.lt {w : World} {base : Nat} {v : Value} {L : List Bxd} (h : BOwn w base v L) {q : Nat} (hq : v.ownBlock = some q) : base ≤ q ∧ q < w.heap.size := by
  obtain ⟨rows, h1, _⟩ := h
  exact h1.lt q hq
theorem bxr_of_own {w : World} {base : Nat} {v : Value} {L : List Bxd} (h : BOwn w base v L) : Bxr w v L := by
  obtain ⟨rows, h1, h2, h3, h4, h5⟩ := h
  rcases h1.2 with ⟨e1, e2⟩ | ⟨g, cap, cur, rfl, hg, hh, _⟩
  · exact ⟨none, 0, by rw [e1, e2], Or.inl (List.eq_nil_of_length_eq_zero e2)⟩
  · refine ⟨_, cap, rfl, Or.inr ⟨g, 0, rfl, fun j x hj => ?_⟩⟩
    have hjl : j < L.length := (List.getElem?_eq_some_iff.1 hj).1
    have hjr : rows[j]? = some (rows[j]'(by omega)) := List.getElem?_eq_getElem (by omega)
    obtain ⟨lv, hx, hs⟩ := h3 j x _ hj hjr
    have hc : ∀ i u, i < 3 → (rows[j]'(by omega))[i]? = some u → w.cell? ⟨g, j * 3 + i, none⟩ = some u := fun i u hi hu => by
      rw [h1.cellAt (j * 3 + i) (by omega), bflat3_get h4 hjr hi]
      exact hu
    rw [Nat.zero_add]
    refine ⟨?_, hc 1 (.int .i64 x.n) (by omega) (by rw [hx]; rfl), lv, hc 2 lv (by omega) (by rw [hx]; rfl), hs⟩
    have := hc 0 (.int .i64 x.v) (by omega) (by rw [hx]; rfl)
    rwa [Nat.add_zero] at this
/-- One box more behind the others. -/
theorem bown_push {w : World} {base : Nat} {va : Option Addr} {ca : Nat} {L : List Bxd} (h : BOwn w base (.slice va L.length ca) L) (hb : base ≤ w.heap.size) (hL : L.length ≤ 1000) (x : Bxd) (lv : Value) (hf : Lts w lv x.ls) :
    ∃ g cap W, (Builtin.append_ #[24, 24] 24 #[.slice va L.length ca, .slice (some ⟨w.heap.size, 0, none⟩) 1 1]).run Tryz.prog (w.alloc (.cells #[.int .i64 x.v, .int .i64 x.n, lv] 66)) = .ok (.slice (some ⟨g, 0, none⟩) (L.length + 1) cap) W ∧
      BOwn W base (.slice (some ⟨g, 0, none⟩) (L.length + 1) cap) (L ++ [x]) ∧ (W.os = w.os ∧ W.tape = w.tape ∧ W.output = w.output ∧ w.heap.size ≤ W.heap.size ∧ ∀ q, q < w.heap.size → (Value.slice va L.length ca).ownBlock ≠ some q → W.heap[q]? = w.heap[q]?) ∧ TxKeep w W := by
  obtain ⟨rows, h1, h2, h3, h4, h5⟩ := id h
  obtain ⟨j0, hj, hz, hs, hby⟩ := info_parts Tryz.infoBx
  have b8 : Below w.heap.size w (w.alloc (.cells #[.int .i64 x.v, .int .i64 x.n, lv] 66)) := (Below.refl _ _).alloc (Nat.le_refl _) _
  have hnews := World.news_of_block (heap_alloc_new w (.cells #[.int .i64 x.v, .int .i64 x.n, lv] 66))
  obtain ⟨fa, fc, hfv, _⟩ := id hf
  have hcell : ∀ u ∈ [Value.int .i64 x.v, Value.int .i64 x.n, lv], u.oneCell' = true := by
    rw [hfv]
    simp [Value.oneCell']
  have hnt : ∀ u ∈ [Value.int .i64 x.v, Value.int .i64 x.n, lv], NoTx u := by
    rw [hfv]
    intro u hu s
    rcases List.mem_cons.1 hu with rfl | hu
    · exact fun e => by cases e
    rcases List.mem_cons.1 hu with rfl | hu
    · exact fun e => by cases e
    · rw [List.mem_singleton.1 hu]; exact fun e => by cases e
  obtain ⟨g9, cap9, W9, hrun, hown9, hg9, hor9, hlt9, hnt9⟩ := run_append_clean (P := Tryz.prog) (w.alloc (.cells #[.int .i64 x.v, .int .i64 x.n, lv] 66)) NoTx 24 24 base 66 j0 (.agg #[.int .i64 0, .int .i64 0, .slice none 0 0]) 3 40 Tryz.underlying24 hj hz hs hby rfl (by decide) (.slice va L.length ca) L.length _ (h1.alloc _) (fun g hg => (h5 g hg).same (b8.block g (h1.lt g hg).2)) (fun u hu s => by
    have : u = .int .i64 0 ∨ u = .slice none 0 0 := by simpa [Value.cells] using hu
    rcases this with rfl | rfl <;> (intro e; cases e)) ⟨w.heap.size, 0, none⟩ 1 1 [.int .i64 x.v, .int .i64 x.n, lv] rfl hnews hcell hnt (by decide) (by unfold maxLen; omega) (by omega) (by simp; omega)
  have hz9 : (w.alloc (.cells #[.int .i64 x.v, .int .i64 x.n, lv] 66)).heap.size = w.heap.size + 1 := by simp
  have hkeep : ∀ q, q < w.heap.size → (Value.slice va L.length ca).ownBlock ≠ some q → W9.heap[q]? = w.heap[q]? := fun q hq hne => (hg9.block q (by omega) (fun e => hne e.symm)).trans (b8.block q hq)
  have htx : TxKeep w W9 := fun g i s hc => hkeep g (World.block_lt_of_cell? _ _ hc) fun e => h5 g e i _ hc s rfl
  refine ⟨g9, cap9, W9, hrun, ⟨rows ++ [[.int .i64 x.v, .int .i64 x.n, lv]], ?_, by simp [h2], fun j y ys hj hy => ?_, fun ys hy => ?_, fun g hg => ?_⟩, ⟨hg9.os.trans b8.os, hg9.tape.trans b8.tape, hg9.output.trans b8.output, Nat.le_trans b8.size hg9.size, hkeep⟩, htx⟩
  · rw [List.length_append, List.flatten_append, List.flatten_cons, List.flatten_nil, List.append_nil]
    exact hown9
  · by_cases hjl : j < L.length
    · rw [List.getElem?_append_left hjl] at hj
      rw [List.getElem?_append_left (by omega)] at hy
      obtain ⟨fu, e1, e2⟩ := h3 j y ys hj hy
      exact ⟨fu, e1, e2.tx htx⟩
    · have : j < (L ++ [x]).length := (List.getElem?_eq_some_iff.1 hj).1
      obtain rfl : j = L.length := by simp at this; omega
      rw [List.getElem?_append_right (Nat.le_refl _), Nat.sub_self] at hj
      rw [List.getElem?_append_right (by omega), h2, Nat.sub_self] at hy
      obtain rfl : x = y := by simpa using hj
      obtain rfl := Option.some.inj hy
      exact ⟨lv, rfl, hf.tx htx⟩
  · rcases List.mem_append.1 hy with h | h
    · exact h4 ys h
    · rw [List.mem_singleton.1 h]; rfl
  · obtain rfl : g9 = g := by simpa [Value.ownBlock] using hg
    exact hnt9
/-- A house, with all that it has: C says what lies in a box's block. -/
structure Hse (w : World) (hb mb : Nat) (l : Bxs) (nx : Int) (wv : Value) (W : List Nm) (C : Nat → Bxd) : Prop where
  hs : HsAt w hb mb l nx wv
  ws : Sl w wv W
  bx : ∀ p ∈ l, BoxAt w p.2 (C p.2).v (C p.2).n (C p.2).ls
theorem Hse.below {w w' : World} {hb mb : Nat} {l : Bxs} {nx : Int} {wv : Value} {W : List Nm} {C : Nat → Bxd} (h : Hse w hb mb l nx wv W C) (hb' : Below w.heap.size w w') : Hse w' hb mb l nx wv W C :=
  ⟨h.hs.below hb' (Nat.le_refl _), h.ws.below hb' (Nat.le_refl _), fun p hp => (h.bx p hp).below hb' (Nat.le_refl _)⟩
/-- All that it has, saved. -/
def svOf (l : Bxs) (W : List Nm) (nx : Int) (C : Nat → Bxd) : Svd := ⟨namesB l, l.map fun p => C p.2, W, nx⟩
/-- It is small enough to be held. -/
structure Sml (l : Bxs) (W : List Nm) (C : Nat → Bxd) : Prop where
  len : l.length ≤ 30
  wlen : W.length ≤ 60
  nm : ∀ p ∈ l, p.1.length ≤ 60
  ls : ∀ p ∈ l, (C p.2).ls.length ≤ 900
  fl : ∀ p ∈ l, ∀ y ∈ (C p.2).ls, y.flags.length ≤ 400
end Go.Proofs.YtdmplfflmdanlaaGreatDoor
namespace Go.Proofs.YtdmplfflmdanlaaGreatDoor
open Go.RowKit Go.Proofs.Aid Go.Proofs.Sq Go.Proofs.Hd

theorem dec_slash (A B : List UInt8) (h : A ≠ []) : Lib.decodeL (A ++ 47 :: B) = Lib.decodeL A := by
  rw [Lib.decodeL_N, Lib.decodeL_N]
  match A, h with
  | [a], _ => simp [Lib.decodeN]
  | [a, b], _ => simp [Lib.decodeN]
  | [a, b, c], _ => simp [Lib.decodeN]
  | a :: b :: c :: d :: t, _ => simp [Lib.decodeN]
theorem drop_slash (A B : List UInt8) {k : Nat} (h : k ≤ A.length) : (A ++ 47 :: B).drop k = A.drop k ++ 47 :: B := List.drop_append_of_le_length h
theorem valid_slash (B : List UInt8) : ∀ (n : Nat) (A : List UInt8), A.length ≤ n → Lib.validD (A ++ 47 :: B) = (Lib.validD A && Lib.validD B)
  | _, [], _ => by
    rw [List.nil_append, Lib.validD_cons 47 B (by decide), Lib.validD_nil, Bool.true_and]
  | 0, _ :: _, h => by simp at h
  | n + 1, a :: A, h => by
    have hw := Lib.decodeL_width (a :: A)
    have hle := Lib.decodeL_le (a :: A) (by simp)
    have hd := dec_slash (a :: A) B (by simp)
    rw [Lib.validD_step _ (by simp), Lib.validD_step (a :: A) (by simp), hd, drop_slash _ _ hle]
    split
    · rfl
    · exact valid_slash B n _ (by rw [List.length_drop]; simp at h ⊢; omega)
theorem runes_slash (B : List UInt8) : ∀ (n : Nat) (A : List UInt8), A.length ≤ n → Ut.runes (A ++ 47 :: B) = Ut.runes A ++ 47 :: Ut.runes B
  | _, [], _ => runes_cons 47 B (by decide)
  | 0, _ :: _, h => by simp at h
  | n + 1, a :: A, h => by
    have hw := Lib.decodeL_width (a :: A)
    have hle := Lib.decodeL_le (a :: A) (by simp)
    have hd := dec_slash (a :: A) B (by simp)
    rw [Ut.runes_step _ (by simp), Ut.runes_step (a :: A) (by simp), hd, drop_slash _ _ hle, runes_slash B n _ (by rw [List.length_drop]; simp at h ⊢; omega)]
    rfl
theorem between_slash (B : List UInt8) : ∀ A : List UInt8, between 47 (A ++ 47 :: B) = between 47 A ++ between 47 B
  | [] => by
    simp [between]
  | a :: A => by
    have ih := between_slash B A
    obtain ⟨x, xs, hx⟩ := List.exists_cons_of_ne_nil (between_ne 47 A)
    rw [List.cons_append, between, between, ih, hx]
    split
    · rfl
    · rfl
/-- A name that is called just so. -/
structure NmOk (s : Nm) : Prop where
  len : 1 ≤ s.length ∧ s.length ≤ 60
  valid : Lib.validD s = true
  runes : (Ut.runes s).all Ut.okRune = true
  wild : (s.any fun c => ([37, 42] : List UInt8).contains c) = false
  parts : [] ∉ between 47 s
  head : nmHead ((between 47 s).headD []) = (between 47 s).headD []
theorem nmOk_of {s : Nm} (h : nameB s = some s) : NmOk s := by
  unfold nameB at h
  split at h
  · rename_i hc
    obtain ⟨c1, c2, c3⟩ := hc
    unfold Ut.rightB at c1
    simp only [Bool.and_eq_true, decide_eq_true_eq] at c1
    refine ⟨⟨c1.1.1.1, c1.1.1.2⟩, c1.1.2, c1.2, c2, c3, ?_⟩
    have h1 := Option.some.inj h
    have h2 := join_between 47 s
    obtain ⟨x, xs, hx⟩ := List.exists_cons_of_ne_nil (between_ne 47 s)
    rw [hx] at h1 h2 ⊢
    rw [List.headD_cons, List.tail_cons, Lib.join_cons] at h1
    rw [Lib.join_cons] at h2
    rw [List.headD_cons]
    exact (List.append_inj (h1.trans h2.symm) (nmHead_len x)).1
  · cases h
theorem NmOk.name {s : Nm} (h : NmOk s) : nameB s = some s := by
  unfold nameB
  have c1 : Ut.rightB s = true := by
    unfold Ut.rightB
    simp only [Bool.and_eq_true, decide_eq_true_eq]
    exact ⟨⟨h.len, h.valid⟩, h.runes⟩
  rw [if_pos ⟨c1, h.wild, h.parts⟩, h.head]
  have h2 := join_between 47 s
  obtain ⟨x, xs, hx⟩ := List.exists_cons_of_ne_nil (between_ne 47 s)
  rw [hx] at h2 ⊢
  rw [List.headD_cons, List.tail_cons, h2]
theorem headD_app {a b : List Nm} (h : a ≠ []) : (a ++ b).headD [] = a.headD [] := by
  obtain ⟨x, xs, rfl⟩ := List.exists_cons_of_ne_nil h
  rfl
theorem name_ahead {A B : Nm} (h : nameB (A ++ 47 :: B) = some (A ++ 47 :: B)) : nameB A = some A := by
  obtain ⟨h1, h2, h3, h4, h5, h6⟩ := nmOk_of h
  rw [valid_slash B _ A (Nat.le_refl _), Bool.and_eq_true] at h2
  rw [runes_slash B _ A (Nat.le_refl _), List.all_append, Bool.and_eq_true] at h3
  rw [List.any_append] at h4
  rw [between_slash] at h5 h6
  rw [headD_app (between_ne 47 A)] at h6
  have h7 : [] ∉ between 47 A := fun hm => h5 (List.mem_append.2 (Or.inl hm))
  refine NmOk.name ⟨⟨?_, ?_⟩, h2.1, h3.1, (Bool.or_eq_false_iff.1 h4).1, h7, h6⟩
  · cases A with
    | nil => exact absurd (by rw [between]; exact List.mem_singleton.2 rfl) h7
    | cons => simp
  · have := h1.2
    rw [List.length_append] at this
    omega
theorem name_behind {T N B : Nm} (hT : nameB T = some T) (hN : nameB (N ++ 47 :: B) = some (N ++ 47 :: B)) (hl : (T ++ 47 :: B).length ≤ 60) : nameB (T ++ 47 :: B) = some (T ++ 47 :: B) := by
  obtain ⟨t1, t2, t3, t4, t5, t6⟩ := nmOk_of hT
  obtain ⟨h1, h2, h3, h4, h5, h6⟩ := nmOk_of hN
  rw [valid_slash B _ N (Nat.le_refl _), Bool.and_eq_true] at h2
  rw [runes_slash B _ N (Nat.le_refl _), List.all_append, Bool.and_eq_true] at h3
  rw [List.any_append] at h4
  rw [between_slash] at h5
  refine NmOk.name ⟨⟨?_, hl⟩, ?_, ?_, ?_, ?_, ?_⟩
  · rw [List.length_append]
    omega
  · rw [valid_slash B _ T (Nat.le_refl _), t2, h2.2]
    rfl
  · rw [runes_slash B _ T (Nat.le_refl _), List.all_append, t3, h3.2]
    rfl
  · rw [List.any_append, t4, (Bool.or_eq_false_iff.1 h4).2]
    rfl
  · rw [between_slash]
    intro hm
    rcases List.mem_append.1 hm with hm | hm
    · exact t5 hm
    · exact h5 (List.mem_append.2 (Or.inr hm))
  · rw [between_slash, headD_app (between_ne 47 T)]
    exact t6
/-- What stands ahead of a / in a name. -/
theorem cut_at {n : Nm} {i : Nat} (h : n[i]? = some 47) : n = n.take i ++ 47 :: n.drop (i + 1) := by
  obtain ⟨hi, he⟩ := List.getElem?_eq_some_iff.1 h
  rw [← he, ← List.drop_eq_getElem_cons hi, List.take_append_drop]
theorem name_take {n : Nm} {i : Nat} (h : nameB n = some n) (hi : n[i]? = some 47) : nameB (n.take i) = some (n.take i) := by
  refine name_ahead (B := n.drop (i + 1)) ?_
  rw [← cut_at hi]
  exact h
end Go.Proofs.YtdmplfflmdanlaaGreatDoor
