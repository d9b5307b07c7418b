/-
  A letter that a reader of package archive reads, and rows of them, and more.
-/
import Derived.Test.YtdmplfflmdanlaaGreatDoorMHsSave
namespace Go.Proofs.YtdmplfflmdanlaaGreatDoor
open Go.RowKit Go.Proofs.Aid Go.Proofs.Bx

/-- What stands while a letter is read: the reader, the letter's cells, those of the answer. -/
structure LtI (w : World) (rb lb : Nat) (s : Nm) (cs : Array Value) (W : World) : Prop where
  rd : Rdr rb s W
  env : RdE W
  but : But w.heap.size rb w W
  cells : W.heap[lb]? = some (.cells cs 71 (0, 0))
  res : W.heap[w.heap.size]? = some (.cells #[.int .i64 0, .slice none 0 0, .int .i64 0, .string ⟨#[]⟩] 71 (0, 0))
  low : rb < w.heap.size ∧ w.heap.size < lb
  glob : 0 < w.heap.size ∧ 6 < w.heap.size ∧ 7 < w.heap.size
theorem LtI.call {w W W' : World} {rb lb : Nat} {s s' : Nm} {cs : Array Value} (h : LtI w rb lb s cs W) (hr : Rdr rb s' W') (hb : But W.heap.size rb W W') : LtI w rb lb s' cs W' where
  rd := hr
  env := h.env.but h.rd hb
  but := h.but.trans (hb.less h.but.size)
  cells := (hb.block lb (Array.getElem?_eq_some_iff.1 h.cells).1 (by have := h.low; omega)).trans h.cells
  res := (hb.block _ (Array.getElem?_eq_some_iff.1 h.res).1 (by have := h.low; omega)).trans h.res
  low := h.low
  glob := h.glob
theorem LtI.set {w W : World} {rb lb : Nat} {s : Nm} {cs : Array Value} (h : LtI w rb lb s cs W) (i : Nat) (v : Value) : LtI w rb lb s (cs.setIfInBounds i v) (W.setCell ⟨lb, i, none⟩ v) := by
  have hb : But W.heap.size lb W (W.setCell ⟨lb, i, none⟩ v) := (to_but (Below.refl _ _)).setB i v
  have hl := h.low
  have hlow : Below w.heap.size W (W.setCell ⟨lb, i, none⟩ v) := hb.below h.but.size (by omega)
  obtain ⟨R, h1, h2⟩ := h.rd
  exact ⟨⟨R, h1, (hb.block rb (Array.getElem?_eq_some_iff.1 h2).1 (by omega)).trans h2⟩, h.env.low hlow h.glob, h.but.trans (to_but hlow), rd_set v h.cells, (hb.block _ (Array.getElem?_eq_some_iff.1 h.res).1 (by omega)).trans h.res, h.low, h.glob⟩
theorem LtI.start {w : World} {rb : Nat} {s : Nm} (hr : Rdr rb s w) (hE : RdE w) : LtI w rb (w.alloc (.cells #[.int .i64 0, .slice none 0 0, .int .i64 0, .string ⟨#[]⟩] 71)).heap.size s #[.int .i64 0, .slice none 0 0, .int .i64 0, .string ⟨#[]⟩] ((w.alloc (.cells #[.int .i64 0, .slice none 0 0, .int .i64 0, .string ⟨#[]⟩] 71)).alloc (.cells #[.int .i64 0, .slice none 0 0, .int .i64 0, .string ⟨#[]⟩] 71)) := by
  have e1 := heap_alloc_new w (.cells #[.int .i64 0, .slice none 0 0, .int .i64 0, .string ⟨#[]⟩] 71)
  obtain ⟨W1, hW1⟩ : ∃ W, w.alloc (.cells #[.int .i64 0, .slice none 0 0, .int .i64 0, .string ⟨#[]⟩] 71) = W := ⟨_, rfl⟩
  have b1 : Below w.heap.size w W1 := by rw [← hW1]; exact (Below.refl _ _).alloc (Nat.le_refl _) _
  have z1 : W1.heap.size = w.heap.size + 1 := by rw [← hW1]; simp
  rw [hW1] at e1 ⊢
  have b2 : Below W1.heap.size W1 (W1.alloc (.cells #[.int .i64 0, .slice none 0 0, .int .i64 0, .string ⟨#[]⟩] 71)) := (Below.refl _ _).alloc (Nat.le_refl _) _
  have b12 := b1.trans (b2.mono b1.size)
  exact ⟨hr.below b12, hE.below b12, to_but b12, heap_alloc_new _ _, (b2.block _ (by omega)).trans e1, ⟨hr.lt, by omega⟩, hE.lt⟩
theorem LtI.facts {w W : World} {rb lb : Nat} {s : Nm} {a b c d : Value} (h : LtI w rb lb s #[a, b, c, d] W) : (W.cell? ⟨lb, 0, none⟩ = some a ∧ W.cell? ⟨lb, 1, none⟩ = some b ∧ W.cell? ⟨lb, 2, none⟩ = some c ∧ W.cell? ⟨lb, 3, none⟩ = some d) ∧ W.frozen? ⟨lb, 0, none⟩ = false ∧ W.frozen? ⟨lb, 1, none⟩ = false ∧ W.frozen? ⟨lb, 2, none⟩ = false ∧ W.frozen? ⟨lb, 3, none⟩ = false :=
  ⟨⟨rd_cell h.cells rfl, rd_cell h.cells rfl, rd_cell h.cells rfl, rd_cell h.cells rfl⟩, rd_free h.cells 0, rd_free h.cells 1, rd_free h.cells 2, rd_free h.cells 3⟩
theorem readRow_len {α : Type} {one : Nm → α × Nm} (h : ∀ s, (one s).2.length ≤ s.length) (most : Nat) (s : Nm) : (readRowS most one s).2.length ≤ s.length := by
  have key : ∀ k s, (rowS one k s).2.length ≤ s.length := by
    intro k
    induction k with
    | zero => intro s; exact Nat.le_refl _
    | succ k ih => intro s; rw [rowS_succ]; exact Nat.le_trans (ih _) (h s)
  exact Nat.le_trans (key _ _) (until_len 59 s)
theorem rletter_len (s : Nm) : (letterS s).2.length ≤ s.length := by
  unfold letterS
  simp only
  exact Nat.le_trans (atext_len _).1 (Nat.le_trans (until_len _ _) (Nat.le_trans (readRow_len (fun s => (atext_len s).1) _ _) (until_len _ _)))
set_option maxHeartbeats 8000000 in
set_option maxRecDepth 100000 in
theorem rletter_is (rb : Nat) (s : Nm) (w : World) (h : Rdr rb s w) (hE : RdE w) (hs : s.length ≤ 1000000000) :
    Calls Tryz.prog 52 #[.pointer (some ⟨rb, 0, none⟩)] w fun e w' => (∃ fa fc, e = .returned (.agg #[.int .i64 (letterS s).1.uid, .slice fa (letterS s).1.flags.length fc, .int .i64 (letterS s).1.day, .string ⟨(letterS s).1.text.toArray⟩]) ∧ NRow w' w.heap.size (.slice fa (letterS s).1.flags.length fc) (letterS s).1.flags) ∧ Rdr rb (letterS s).2 w' ∧ But w.heap.size rb w w' := by
  have hL : letterS s = (⟨(untilS 59 s).1, (readRowS 12 textS (untilS 59 s).2).1, (untilS 59 (readRowS 12 textS (untilS 59 s).2).2).1, (textS (untilS 59 (readRowS 12 textS (untilS 59 s).2).2).2).1⟩, (textS (untilS 59 (readRowS 12 textS (untilS 59 s).2).2).2).2) := rfl
  have l1 := until_len 59 s
  have l2 := readRow_len (fun s => (atext_len s).1) 12 (untilS 59 s).2
  have l3 := until_len 59 (readRowS 12 textS (untilS 59 s).2).2
  have l4 := (atext_len (untilS 59 (readRowS 12 textS (untilS 59 s).2).2).2).1
  have cN := fun W (hr : Rdr rb s W) (he : RdE W) => rnumber_is rb s W hr he hs
  have cR := fun W (hr : Rdr rb (untilS 59 s).2 W) (he : RdE W) => rtexts_is rb 12 _ W hr he (by omega) (by omega)
  have cD := fun W (hr : Rdr rb (readRowS 12 textS (untilS 59 s).2).2 W) (he : RdE W) => rnumber_is rb _ W hr he (by omega)
  have cT := fun W (hr : Rdr rb (untilS 59 (readRowS 12 textS (untilS 59 s).2).2).2 W) (he : RdE W) => rtext_call rb _ W hr he (by omega)
  rw [hL]
  obtain ⟨U, hU⟩ : ∃ x, (untilS 59 s).1 = x := ⟨_, rfl⟩
  obtain ⟨s1, hs1⟩ : ∃ x, (untilS 59 s).2 = x := ⟨_, rfl⟩
  rw [hU, hs1] at cN
  rw [hs1] at cR cD cT
  obtain ⟨FL, hFL⟩ : ∃ x, (readRowS 12 textS s1).1 = x := ⟨_, rfl⟩
  obtain ⟨s2, hs2⟩ : ∃ x, (readRowS 12 textS s1).2 = x := ⟨_, rfl⟩
  rw [hFL, hs2] at cR
  rw [hs2] at cD cT
  obtain ⟨Dy, hDy⟩ : ∃ x, (untilS 59 s2).1 = x := ⟨_, rfl⟩
  obtain ⟨s3, hs3⟩ : ∃ x, (untilS 59 s2).2 = x := ⟨_, rfl⟩
  rw [hDy, hs3] at cD
  rw [hs3] at cT
  obtain ⟨TX, hTX⟩ : ∃ x, (textS s3).1 = x := ⟨_, rfl⟩
  obtain ⟨s4, hs4⟩ : ∃ x, (textS s3).2 = x := ⟨_, rfl⟩
  rw [hTX, hs4] at cT
  simp only [hU, hs1, hFL, hs2, hDy, hs3, hTX, hs4]
  have HST : Hid (LtI w rb _ s _ _) := LtI.start h hE
  clear hL l1 l2 l3 l4 hU hs1 hFL hs2 hDy hs3 hTX hs4 hs
  obtain ⟨W1, hW1⟩ : ∃ W, w.alloc (.cells #[.int .i64 0, .slice none 0 0, .int .i64 0, .string ⟨#[]⟩] 71) = W := ⟨_, rfl⟩
  rw [hW1] at HST
  obtain ⟨lb, hlb⟩ : ∃ n, W1.heap.size = n := ⟨_, rfl⟩
  rw [hlb] at HST
  obtain ⟨W2, hW2⟩ : ∃ W, W1.alloc (.cells #[.int .i64 0, .slice none 0 0, .int .i64 0, .string ⟨#[]⟩] 71) = W := ⟨_, rfl⟩
  rw [hW2] at HST
  clear h hE
  go_enter Tryz.func52, Tryz.ntmps52
  go_wp2_with fail
  refine (cN W2 HST.out.rd HST.out.env).mono ?_
  rintro e w3 ⟨rfl, h3, k3⟩
  have H3 : Hid _ := HST.out.call h3 k3
  obtain ⟨⟨c0, c1, c2, c3⟩, f0, f1, f2, f3⟩ := H3.out.facts
  have H4 : Hid (LtI w rb lb s1 #[.int .i64 U, .slice none 0 0, .int .i64 0, .string ⟨#[]⟩] (w3.setCell ⟨lb, 0, none⟩ (.int .i64 U))) := H3.out.set 0 _
  obtain ⟨W4, hW4⟩ : ∃ W, w3.setCell ⟨lb, 0, none⟩ (.int .i64 U) = W := ⟨_, rfl⟩
  rw [hW4] at H4
  clear cN h3 k3 HST H3 hW2 hlb hW1
  go_wp2_with fail
  refine (cR W4 H4.out.rd H4.out.env).mono ?_
  rintro e w5 ⟨⟨fv, rfl, hn5⟩, h5, k5⟩
  obtain ⟨fa, fc, rfl⟩ := row_form hn5
  have H5 : Hid _ := H4.out.call h5 k5
  clear c0 c1 c2 c3 f0 f1 f2 f3
  obtain ⟨⟨c0, c1, c2, c3⟩, f0, f1, f2, f3⟩ := H5.out.facts
  obtain ⟨FN, hFN⟩ : ∃ n, FL.length = n := ⟨_, rfl⟩
  have HN5 : Hid (NRow w5 w.heap.size (.slice fa FL.length fc) FL ∧ FL.length = FN) := ⟨⟨hn5.1, hn5.2.imp id fun ⟨g, cap, cur, q1, q2, r⟩ => ⟨g, cap, cur, q1, Nat.le_trans H4.out.but.size q2, r⟩⟩, hFN⟩
  rw [hFN]
  have H6 : Hid (LtI w rb lb s2 #[.int .i64 U, .slice fa FN fc, .int .i64 0, .string ⟨#[]⟩] (w5.setCell ⟨lb, 1, none⟩ (.slice fa FN fc))) := H5.out.set 1 _
  have HN6 : Hid (NRow (w5.setCell ⟨lb, 1, none⟩ (.slice fa FN fc)) w.heap.size (.slice fa FL.length fc) FL) := by
    refine own_same HN5.out.1 fun q hq => Below.heap_setCell _ _ _ _ fun e => ?_
    obtain ⟨cs, fz, hh⟩ := own_kind HN5.out.1 hq
    rw [e] at hh
    have := H5.out.cells
    rw [hh] at this
    injection this with this
    injection this with _ q2 _
    exact absurd q2 (by decide)
  obtain ⟨W6, hW6⟩ : ∃ W, w5.setCell ⟨lb, 1, none⟩ (.slice fa FN fc) = W := ⟨_, rfl⟩
  rw [hW6] at H6 HN6
  clear cR h5 k5 hn5 H4 H5 hFN hW4
  go_wp2_with fail
  refine (cD W6 H6.out.rd H6.out.env).mono ?_
  rintro e w7 ⟨rfl, h7, k7⟩
  have HN7 : Hid (NRow w7 w.heap.size (.slice fa FL.length fc) FL) := own_oth HN6.out (rd_oth H6.out.rd k7) (by decide)
  have H7 : Hid _ := H6.out.call h7 k7
  clear c0 c1 c2 c3 f0 f1 f2 f3
  obtain ⟨⟨c0, c1, c2, c3⟩, f0, f1, f2, f3⟩ := H7.out.facts
  have H8 : Hid (LtI w rb lb s3 #[.int .i64 U, .slice fa FN fc, .int .i64 Dy, .string ⟨#[]⟩] (w7.setCell ⟨lb, 2, none⟩ (.int .i64 Dy))) := H7.out.set 2 _
  have HN8 : Hid (NRow (w7.setCell ⟨lb, 2, none⟩ (.int .i64 Dy)) w.heap.size (.slice fa FL.length fc) FL) := by
    refine own_same HN7.out fun q hq => Below.heap_setCell _ _ _ _ fun e => ?_
    obtain ⟨cs, fz, hh⟩ := own_kind HN7.out hq
    rw [e] at hh
    have := H7.out.cells
    rw [hh] at this
    injection this with this
    injection this with _ q2 _
    exact absurd q2 (by decide)
  obtain ⟨W8, hW8⟩ : ∃ W, w7.setCell ⟨lb, 2, none⟩ (.int .i64 Dy) = W := ⟨_, rfl⟩
  rw [hW8] at H8 HN8
  clear cD h7 k7 H6 H7 HN6 HN7 hW6
  go_wp2_with fail
  refine (cT W8 H8.out.rd H8.out.env).mono ?_
  rintro e w9 ⟨⟨t, rfl, ht⟩, h9, k9⟩
  have HN9 : Hid (NRow w9 w.heap.size (.slice fa FL.length fc) FL) := own_oth HN8.out (rd_oth H8.out.rd k9) (by decide)
  have H9 : Hid _ := H8.out.call h9 k9
  clear c0 c1 c2 c3 f0 f1 f2 f3
  obtain ⟨⟨c0, c1, c2, c3⟩, f0, f1, f2, f3⟩ := H9.out.facts
  have H10 : Hid (LtI w rb lb s4 #[.int .i64 U, .slice fa FN fc, .int .i64 Dy, .string t] (w9.setCell ⟨lb, 3, none⟩ (.string t))) := H9.out.set 3 _
  have HN10 : Hid (NRow (w9.setCell ⟨lb, 3, none⟩ (.string t)) w.heap.size (.slice fa FL.length fc) FL) := by
    refine own_same HN9.out fun q hq => Below.heap_setCell _ _ _ _ fun e => ?_
    obtain ⟨cs, fz, hh⟩ := own_kind HN9.out hq
    rw [e] at hh
    have := H9.out.cells
    rw [hh] at this
    injection this with this
    injection this with _ q2 _
    exact absurd q2 (by decide)
  obtain ⟨W10, hW10⟩ : ∃ W, w9.setCell ⟨lb, 3, none⟩ (.string t) = W := ⟨_, rfl⟩
  rw [hW10] at H10 HN10
  have hh10 := H10.out.res
  obtain ⟨⟨b0, b1, b2, b3⟩, _⟩ := H10.out.facts
  obtain ⟨⟨s0, s1', s2', s3'⟩, ⟨g0, g1, g2, g3⟩, u⟩ := four_facts hh10 (.int .i64 U) (.slice fa FN fc) (.int .i64 Dy) (.string t)
  have hbut : But W10.heap.size w.heap.size W10 ((((W10.setCell ⟨w.heap.size, 0, none⟩ (.int .i64 U)).setCell ⟨w.heap.size, 1, none⟩ (.slice fa FN fc)).setCell ⟨w.heap.size, 2, none⟩ (.int .i64 Dy)).setCell ⟨w.heap.size, 3, none⟩ (.string t)) := ((((to_but (Below.refl _ _)).setB 0 _).setB 1 _).setB 2 _).setB 3 _
  obtain ⟨W11, hW11⟩ : ∃ W, ((((W10.setCell ⟨w.heap.size, 0, none⟩ (.int .i64 U)).setCell ⟨w.heap.size, 1, none⟩ (.slice fa FN fc)).setCell ⟨w.heap.size, 2, none⟩ (.int .i64 Dy)).setCell ⟨w.heap.size, 3, none⟩ (.string t)) = W := ⟨_, rfl⟩
  rw [hW11] at u hbut
  have u0 : W11.cell? ⟨w.heap.size, 0, none⟩ = some (.int .i64 U) := rd_cell u rfl
  have u1 : W11.cell? ⟨w.heap.size, 1, none⟩ = some (.slice fa FN fc) := rd_cell u rfl
  have u2 : W11.cell? ⟨w.heap.size, 2, none⟩ = some (.int .i64 Dy) := rd_cell u rfl
  have u3 : W11.cell? ⟨w.heap.size, 3, none⟩ = some (.string t) := rd_cell u rfl
  have HF : Hid ((NRow W11 w.heap.size (.slice fa FL.length fc) FL ∧ (⟨TX.toArray⟩ : ByteArray) = t ∧ FL.length = FN) ∧ Rdr rb s4 W11 ∧ But w.heap.size rb w W11) := by
    refine ⟨⟨own_same HN10.out fun q hq => hbut.block q (HN10.out.lt q hq).2 fun e => ?_, ?_, HN5.out.2⟩, ?_, H10.out.but.trans (to_but (hbut.below H10.out.but.size (Nat.le_refl _)))⟩
    · obtain ⟨cs, fz, hh⟩ := own_kind HN10.out hq
      rw [e, hh10] at hh
      injection hh with hh
      injection hh with _ q2 _
      exact absurd q2 (by decide)
    · rw [← ht]
    · obtain ⟨R, r1, r2⟩ := H10.out.rd
      exact ⟨R, r1, (hbut.block rb (Array.getElem?_eq_some_iff.1 r2).1 (by have := H10.out.low; omega)).trans r2⟩
  have HTX : Hid (Value.string ⟨TX.toArray⟩ = .string t) := by show _ = _; rw [HF.out.1.2.1]
  subst hW11
  clear cT h9 k9 H8 H9 H10 HN8 HN9 HN10 hh10 u hbut ht hW8
  go_wp2_with fail
  refine bodyPost_ret (v := .agg #[.int .i64 U, .slice fa FN fc, .int .i64 Dy, .string t]) (by simp [results, Tryz.results52, go_sem, u0, u1, u2, u3]) rfl ⟨⟨fa, fc, ?_, HF.out.1.1⟩, HF.out.2⟩
  rw [HTX.out, HF.out.1.2.2]
end Go.Proofs.YtdmplfflmdanlaaGreatDoor
namespace Go.Proofs.YtdmplfflmdanlaaGreatDoor
open Go.RowKit Go.Proofs.Aid Go.Proofs.Bx

theorem LNew.lower {w : World} {base base' : Nat} {v : Value} {l : List Lt} (h : LNew w base v l) (hb : base' ≤ base) : LNew w base' v l := by
  obtain ⟨rows, h1, r⟩ := h
  exact ⟨rows, own_lower h1 hb, r⟩
/-- A row of boxes of the call's own, their letters too. -/
def BNew (w : World) (base : Nat) (v : Value) (L : List Bxd) : Prop := ∃ rows : List (List Value), w.ownsRow base 66 3 v L.length rows.flatten ∧ rows.length = L.length ∧ (∀ (j : Nat) x xs, L[j]? = some x → rows[j]? = some xs → ∃ lv, xs = [.int .i64 x.v, .int .i64 x.n, lv] ∧ LNew w base lv x.ls) ∧ ∀ xs ∈ rows, xs.length = 3
theorem BNew.nil (w : World) (base : Nat) : BNew w base (.slice none 0 0) [] := ⟨[], World.ownsRow_nil _ _ _ _, rfl, fun j x xs h => (by simp at h), fun xs h => (by cases h)⟩
theorem BNew.oth {e : TypeId} {w w' : World} {base : Nat} {v : Value} {L : List Bxd} (h : BNew w base v L) (hk : Oth e w w') (h1 : 66 ≠ e) (h2 : 71 ≠ e) (h3 : 9 ≠ e) : BNew w' base v L := by
  obtain ⟨rows, r1, r2, r3, r4⟩ := h
  refine ⟨rows, own_oth r1 hk h1, r2, fun j x xs hj hx => ?_, r4⟩
  obtain ⟨lv, e1, e2⟩ := r3 j x xs hj hx
  exact ⟨lv, e1, e2.oth hk h2 h3⟩
theorem BNew.below {w w' : World} {base : Nat} {v : Value} {L : List Bxd} (h : BNew w base v L) (hk : Below w.heap.size w w') : BNew w' base v L := h.oth (e := 108) (oth_below hk) (by decide) (by decide) (by decide)
theorem BNew.form {w : World} {base : Nat} {v : Value} {L : List Bxd} (h : BNew w base v L) : ∃ a c, v = .slice a L.length c := by
  obtain ⟨rows, h1, _⟩ := h
  exact row_form h1
theorem BNew.lt {w : World} {base : Nat} {v : Value} {L : List Bxd} (h : BNew w base v L) {q : Nat} (hq : v.ownBlock = some q) : base ≤ q ∧ q < w.heap.size := by
  obtain ⟨rows, h1, _⟩ := h
  exact h1.lt q hq
theorem BNew.lower {w : World} {base base' : Nat} {v : Value} {L : List Bxd} (h : BNew w base v L) (hb : base' ≤ base) : BNew w base' v L := by
  obtain ⟨rows, r1, r2, r3, r4⟩ := h
  refine ⟨rows, own_lower r1 hb, r2, fun j x xs hj hx => ?_, r4⟩
  obtain ⟨lv, e1, e2⟩ := r3 j x xs hj hx
  exact ⟨lv, e1, e2.lower hb⟩
theorem BNew.bxr {w : World} {base : Nat} {v : Value} {L : List Bxd} (h : BNew w base v L) : Bxr w v L := by
  obtain ⟨rows, h1, h2, h3, h4⟩ := h
  rcases h1.2 with ⟨e1, e2⟩ | ⟨g, cap, cur, rfl, hg, hh, _⟩
  · exact ⟨none, 0, by rw [e1, e2], Or.inl (List.eq_nil_of_length_eq_zero e2)⟩
  · refine ⟨_, cap, rfl, Or.inr ⟨g, 0, rfl, fun j x hj => ?_⟩⟩
    have hjl : j < L.length := (List.getElem?_eq_some_iff.1 hj).1
    have hjr : rows[j]? = some (rows[j]'(by omega)) := List.getElem?_eq_getElem (by omega)
    obtain ⟨lv, hx, hs⟩ := h3 j x _ hj hjr
    have hc : ∀ i u, i < 3 → (rows[j]'(by omega))[i]? = some u → w.cell? ⟨g, j * 3 + i, none⟩ = some u := fun i u hi hu => by
      rw [h1.cellAt (j * 3 + i) (by omega), bflat3_get h4 hjr hi]
      exact hu
    rw [Nat.zero_add]
    refine ⟨?_, hc 1 (.int .i64 x.n) (by omega) (by rw [hx]; rfl), lv, hc 2 lv (by omega) (by rw [hx]; rfl), hs.lts⟩
    have := hc 0 (.int .i64 x.v) (by omega) (by rw [hx]; rfl)
    rwa [Nat.add_zero] at this
/-- One box more. -/
theorem bnew_push {w : World} {base : Nat} {va : Option Addr} {ca : Nat} {L : List Bxd} (h : BNew w base (.slice va L.length ca) L) (hL : L.length ≤ 1000) (x : Bxd) (la : Option Addr) (lc : Nat) (hx : LNew w base (.slice la x.ls.length lc) x.ls) (hbase : base ≤ w.heap.size) :
    ∃ g cap W, (Builtin.append_ #[24, 24] 24 #[.slice va L.length ca, .slice (some ⟨w.heap.size, 0, none⟩) 1 1]).run Tryz.prog (w.alloc (.cells #[.int .i64 x.v, .int .i64 x.n, .slice la x.ls.length lc] 66)) = .ok (.slice (some ⟨g, 0, none⟩) (L.length + 1) cap) W ∧
      BNew W base (.slice (some ⟨g, 0, none⟩) (L.length + 1) cap) (L ++ [x]) ∧ Below base w W ∧ Oth 66 w W := by
  obtain ⟨W1, hW1⟩ : ∃ W, w.alloc (.cells #[.int .i64 x.v, .int .i64 x.n, .slice la x.ls.length lc] 66) = W := ⟨_, rfl⟩
  have b1 : Below w.heap.size w W1 := by rw [← hW1]; exact (Below.refl _ _).alloc (Nat.le_refl _) _
  have hnews := World.news_of_block (heap_alloc_new w (.cells #[.int .i64 x.v, .int .i64 x.n, .slice la x.ls.length lc] 66))
  rw [hW1] at hnews ⊢
  have hx1 := hx.below b1
  obtain ⟨rows, r1, r2, r3, r4⟩ := h.below b1
  obtain ⟨j0, hj, hz, hs, hby⟩ := info_parts Tryz.infoBx
  obtain ⟨g9, cap9, W9, hap, hown9, hg9, hor9, hlt9⟩ := run_append_lies (P := Tryz.prog) W1 24 24 base 66 j0 (.agg #[.int .i64 0, .int .i64 0, .slice none 0 0]) 3 40 Tryz.underlying24 hj hz hs hby rfl (by decide) (.slice va L.length ca) L.length _ r1 ⟨w.heap.size, 0, none⟩ 1 1 [.int .i64 x.v, .int .i64 x.n, .slice la x.ls.length lc] rfl hnews (by simp [Value.oneCell']) (by decide) (by unfold maxLen; omega) (by omega) (Nat.le_trans hbase b1.size) _ rfl
  have ho : Oth 66 W1 W9 := app_oth r1 fun q hq hne => hg9.block q hq fun e => hne e.symm
  refine ⟨g9, cap9, W9, hap, ⟨rows ++ [[.int .i64 x.v, .int .i64 x.n, .slice la x.ls.length lc]], ?_, by simp [r2], fun j y ys hj hy => ?_, fun ys hy => ?_⟩, (b1.mono hbase).trans ⟨hg9.os, hg9.tape, hg9.output, hg9.size, fun q hq => hg9.block q (Nat.lt_of_lt_of_le hq (Nat.le_trans hbase b1.size)) fun e => by have := (r1.lt q e.symm).1; omega⟩, oth_trans (oth_below b1) ho⟩
  · rw [List.length_append, List.flatten_append, List.flatten_cons, List.flatten_nil, List.append_nil]
    exact hown9
  · by_cases hjl : j < L.length
    · rw [List.getElem?_append_left hjl] at hj
      rw [List.getElem?_append_left (by omega)] at hy
      obtain ⟨lv, e1, e2⟩ := r3 j y ys hj hy
      exact ⟨lv, e1, e2.oth ho (by decide) (by decide)⟩
    · have : j < (L ++ [x]).length := (List.getElem?_eq_some_iff.1 hj).1
      obtain rfl : j = L.length := by simp at this; omega
      rw [List.getElem?_append_right (Nat.le_refl _), Nat.sub_self] at hj
      rw [List.getElem?_append_right (by omega), r2, Nat.sub_self] at hy
      obtain rfl : x = y := by simpa using hj
      obtain rfl := Option.some.inj hy
      exact ⟨_, rfl, hx1.oth ho (by decide) (by decide)⟩
  · rcases List.mem_append.1 hy with h | h
    · exact r4 ys h
    · rw [List.mem_singleton.1 h]; rfl
/-- What is read of a box, whatever is read of its letters. -/
def BoxR (One : Int → Nm → List Lt → Nm → Prop) (s : Nm) (x : Bxd) (s' : Nm) : Prop := x.v = (untilS 59 s).1 ∧ x.n = (untilS 59 (untilS 59 s).2).1 ∧ One x.v (untilS 59 (untilS 59 s).2).2 x.ls s'
/-- So many, one behind the other. -/
def RowR (R : Nm → Bxd → Nm → Prop) : Nat → Nm → List Bxd → Nm → Prop
  | 0, s, L, s' => L = [] ∧ s' = s
  | k + 1, s, L, s'' => ∃ L0 x s', L = L0 ++ [x] ∧ RowR R k s L0 s' ∧ R s' x s''
theorem RowR.len {R : Nm → Bxd → Nm → Prop} : ∀ {k : Nat} {s : Nm} {L : List Bxd} {s' : Nm}, RowR R k s L s' → L.length = k
  | 0, _, _, _, h => by rw [h.1]; rfl
  | k + 1, _, _, _, h => by
    obtain ⟨L0, x, s', rfl, h1, _⟩ := h
    rw [List.length_append, h1.len]
    rfl
theorem rowS_snoc {α : Type} (f : Nm → α × Nm) : ∀ (k : Nat) (s : Nm), rowS f (k + 1) s = ((rowS f k s).1 ++ [(f (rowS f k s).2).1], (f (rowS f k s).2).2)
  | 0, s => rfl
  | k + 1, s => by
    rw [rowS_succ f (k + 1), rowS_snoc f k (f s).2, rowS_succ f k s]
    rfl
theorem RowR.fun {R : Nm → Bxd → Nm → Prop} {f : Nm → Bxd × Nm} (hf : ∀ s x s', R s x s' → (x, s') = f s) : ∀ {k : Nat} {s : Nm} {L : List Bxd} {s' : Nm}, RowR R k s L s' → (L, s') = rowS f k s
  | 0, s, L, s', h => by rw [h.1, h.2]; rfl
  | k + 1, s, L, s'', h => by
    obtain ⟨L0, x, s', rfl, h1, h2⟩ := h
    rw [rowS_snoc, ← h1.fun hf, ← hf _ _ _ h2]
/-- What is read of a house. -/
def HouseR (One : Int → Nm → List Lt → Nm → Prop) (s : Nm) (S : Svd) (s' : Nm) : Prop :=
  S.next = (untilS 59 s).1 ∧ S.wants = (readRowS 60 textS (untilS 59 s).2).1 ∧ S.names = (readRowS 30 textS (readRowS 60 textS (untilS 59 s).2).2).1 ∧ RowR (BoxR One) S.names.length (readRowS 30 textS (readRowS 60 textS (untilS 59 s).2).2).2 S.boxes s'
theorem houseR_fun {s : Nm} {S : Svd} {s' : Nm} (h : HouseR (fun _ s l s' => (l, s') = readRowS 60 letterS s) s S s') : (S, s') = houseS s := by
  obtain ⟨h1, h2, h3, h4⟩ := h
  have h5 := h4.fun (f := boxS) fun s x s' ⟨q1, q2, q3⟩ => by
    obtain ⟨xv, xn, xl⟩ := x
    simp only at q1 q2 q3
    unfold boxS
    simp only
    rw [← q3, q1, q2]
  obtain ⟨SN, SB, SW, SX⟩ := S
  simp only at h1 h2 h3 h5
  unfold houseS
  simp only
  rw [← h1, ← h2, ← h3, ← h5]
/-- What a closure reads of a box's letters. -/
def Reads (f : FuncId) (caps : List Value) (One : Int → Nm → List Lt → Nm → Prop) (rb : Nat) (w : World) : Prop :=
  ∀ (v : Int) (s : Nm) (W : World), 0 ≤ v → But w.heap.size rb w W → Rdr rb s W → RdE W → s.length ≤ 1000000000 → Calls Tryz.prog f (Value.int .i64 v :: caps).toArray W fun e w' => ∃ ls s', One v s ls s' ∧ (∃ la lc, e = .returned (.slice la ls.length lc) ∧ LNew w' W.heap.size (.slice la ls.length lc) ls) ∧ Rdr rb s' w' ∧ But W.heap.size rb W w'
/-- What stands while a house is read. -/
structure HoI (w : World) (rb sb : Nat) (s : Nm) (nx : Int) (nv bv wv : Value) (N W : List Nm) (L : List Bxd) (wr : World) : Prop where
  rd : Rdr rb s wr
  env : RdE wr
  but : But w.heap.size rb w wr
  cells : wr.heap[sb]? = some (.cells #[nv, bv, wv, .int .i64 nx] 26 (0, 0))
  res : wr.heap[w.heap.size]? = some (.cells #[.slice none 0 0, .slice none 0 0, .slice none 0 0, .int .i64 0] 26 (0, 0))
  names : NRow wr w.heap.size nv N
  wants : NRow wr w.heap.size wv W
  boxes : BNew wr w.heap.size bv L
  low : rb < w.heap.size ∧ w.heap.size < sb
  glob : 0 < w.heap.size ∧ 6 < w.heap.size ∧ 7 < w.heap.size
theorem HoI.call {w wr w' : World} {rb sb : Nat} {s s' : Nm} {nx : Int} {nv bv wv : Value} {N W : List Nm} {L : List Bxd} (h : HoI w rb sb s nx nv bv wv N W L wr) (hr : Rdr rb s' w') (hb : But wr.heap.size rb wr w') : HoI w rb sb s' nx nv bv wv N W L w' := by
  have ho := rd_oth h.rd hb
  exact ⟨hr, h.env.but h.rd hb, h.but.trans (hb.less h.but.size), (hb.block sb (Array.getElem?_eq_some_iff.1 h.cells).1 (by have := h.low; omega)).trans h.cells, (hb.block _ (Array.getElem?_eq_some_iff.1 h.res).1 (by have := h.low; omega)).trans h.res, own_oth h.names ho (by decide), own_oth h.wants ho (by decide), h.boxes.oth ho (by decide) (by decide) (by decide), h.low, h.glob⟩
theorem HoI.oth {e : TypeId} {w wr w' : World} {rb sb : Nat} {s : Nm} {nx : Int} {nv bv bv' wv : Value} {N W : List Nm} {L L' : List Bxd} (h : HoI w rb sb s nx nv bv wv N W L wr) (hb : Below w.heap.size wr w') (ho : Oth e wr w') (h1 : 108 ≠ e) (h2 : 26 ≠ e) (h3 : 9 ≠ e) (hB : BNew w' w.heap.size bv' L') :
    HoI w rb sb s nx nv bv' wv N W L' (w'.setCell ⟨sb, 1, none⟩ bv') := by
  have hc : w'.heap[sb]? = some (.cells #[nv, bv, wv, .int .i64 nx] 26 (0, 0)) := oth_cells ho h.cells h2
  have hlow := h.low
  have hb2 : But w'.heap.size sb w' (w'.setCell ⟨sb, 1, none⟩ bv') := (to_but (Below.refl _ _)).setB 1 bv'
  have ho2 : Oth 26 w' (w'.setCell ⟨sb, 1, none⟩ bv') := fun j o hj _ hn => by
    refine (hb2.block j (Array.getElem?_eq_some_iff.1 hj).1 fun e => ?_).trans hj
    rw [e, hc] at hj
    exact hn _ _ (Option.some.inj hj).symm
  have hB2 : Below w.heap.size w' (w'.setCell ⟨sb, 1, none⟩ bv') := hb2.below (Nat.le_trans h.but.size hb.size) (by omega)
  obtain ⟨R, r1, r2⟩ := h.rd
  exact ⟨⟨R, r1, oth_cells ho2 (oth_cells ho r2 h1) (by decide)⟩, (h.env.low hb h.glob).low hB2 h.glob, h.but.trans (to_but (hb.trans hB2)), rd_set (i := 1) bv' hc, (hb2.block _ (by have := h.but.size; have := hb.size; have := (Array.getElem?_eq_some_iff.1 h.res).1; omega) (by omega)).trans (oth_cells ho h.res h2), own_oth (own_oth h.names ho h3) ho2 (by decide), own_oth (own_oth h.wants ho h3) ho2 (by decide), hB.oth ho2 (by decide) (by decide) (by decide), h.low, h.glob⟩
/-- What stands while a box is read. -/
structure BxI (wr : World) (rb bb : Nat) (s : Nm) (cs : Array Value) (W : World) : Prop where
  rd : Rdr rb s W
  env : RdE W
  but : But wr.heap.size rb wr W
  cells : W.heap[bb]? = some (.cells cs 66 (0, 0))
  low : rb < wr.heap.size ∧ wr.heap.size ≤ bb
  glob : 0 < wr.heap.size ∧ 6 < wr.heap.size ∧ 7 < wr.heap.size
theorem BxI.start {w : World} {rb : Nat} {s : Nm} (hr : Rdr rb s w) (hE : RdE w) : BxI w rb w.heap.size s #[.int .i64 0, .int .i64 0, .slice none 0 0] (w.alloc (.cells #[.int .i64 0, .int .i64 0, .slice none 0 0] 66)) := by
  have b1 : Below w.heap.size w (w.alloc (.cells #[.int .i64 0, .int .i64 0, .slice none 0 0] 66)) := (Below.refl _ _).alloc (Nat.le_refl _) _
  exact ⟨hr.below b1, hE.below b1, to_but b1, heap_alloc_new _ _, ⟨hr.lt, Nat.le_refl _⟩, hE.lt⟩
theorem BxI.call {wr W W' : World} {rb bb : Nat} {s s' : Nm} {cs : Array Value} (h : BxI wr rb bb s cs W) (hr : Rdr rb s' W') (hb : But W.heap.size rb W W') : BxI wr rb bb s' cs W' where
  rd := hr
  env := h.env.but h.rd hb
  but := h.but.trans (hb.less h.but.size)
  cells := (hb.block bb (Array.getElem?_eq_some_iff.1 h.cells).1 (by have := h.low; omega)).trans h.cells
  low := h.low
  glob := h.glob
theorem BxI.set {wr W : World} {rb bb : Nat} {s : Nm} {cs : Array Value} (h : BxI wr rb bb s cs W) (i : Nat) (v : Value) : BxI wr rb bb s (cs.setIfInBounds i v) (W.setCell ⟨bb, i, none⟩ v) := by
  have hb : But W.heap.size bb W (W.setCell ⟨bb, i, none⟩ v) := (to_but (Below.refl _ _)).setB i v
  have hl := h.low
  have hlow : Below wr.heap.size W (W.setCell ⟨bb, i, none⟩ v) := hb.below h.but.size (by omega)
  obtain ⟨R, h1, h2⟩ := h.rd
  exact ⟨⟨R, h1, (hb.block rb (Array.getElem?_eq_some_iff.1 h2).1 (by omega)).trans h2⟩, h.env.low hlow h.glob, h.but.trans (to_but hlow), rd_set v h.cells, h.low, h.glob⟩
theorem box3_facts {W : World} {R : Nat} {a0 a1 a2 : Value} {t : TypeId} (hh : W.heap[R]? = some (.cells #[a0, a1, a2] t (0, 0))) : (W.cell? ⟨R, 0, none⟩ = some a0 ∧ W.cell? ⟨R, 1, none⟩ = some a1 ∧ W.cell? ⟨R, 2, none⟩ = some a2) ∧ W.frozen? ⟨R, 0, none⟩ = false ∧ W.frozen? ⟨R, 1, none⟩ = false ∧ W.frozen? ⟨R, 2, none⟩ = false :=
  ⟨⟨rd_cell hh rfl, rd_cell hh rfl, rd_cell hh rfl⟩, rd_free hh 0, rd_free hh 1, rd_free hh 2⟩
/-- Letters stay while a box's cells are turned. -/
theorem lnew_set {W : World} {base bb i : Nat} {v : Value} {l : List Lt} {cs : Array Value} {u : Value} (h : LNew W base v l) (hc : W.heap[bb]? = some (.cells cs 66 (0, 0))) : LNew (W.setCell ⟨bb, i, none⟩ u) base v l := by
  refine h.oth (e := 66) (fun j o hj _ hn => (Below.heap_setCell _ _ _ _ fun e => ?_).trans hj) (by decide) (by decide)
  rw [e, hc] at hj
  exact hn _ _ (Option.some.inj hj).symm
end Go.Proofs.YtdmplfflmdanlaaGreatDoor
