/-
  A letter that is handed in, opened: a struct of a number, texts, a number and a text. Of no program.
  Letters and deeds that are handed in, opened.
-/
import Derived.Test.YtgpcnacpefficaaGreatDoorLaw
import Derived.Lib.SmallJoins
import Derived.Test.YtgpcnacpefficaaGreatDoorBpPlMem
namespace Go.Proofs.Law
open Go.RowKit Go.ChangeShapes Go.WideShapes Go.Deep

variable {H : Type} {enc : TypeId × Value → H} {P : Program}

theorem open_tgs {t e : TypeId} {W : World} {fuel : Nat} {v : Value} {x : DataW H × List MemPlace} (ht : P.underlying t = some (.slice e)) (he : P.underlying e = some .string) (hc : P.cellsOf e = 1)
    (h : DataW.trod enc P W 0 (fun _ => true) true fuel t [v] = some x) : ∃ l, Tg W v l := by
  rcases open_strings ht he hc h with ⟨hcs, _⟩ | ⟨a', len, cap, ss, hcs, _, hl, hm, hs, _, hcell, hwz⟩
  · simp only [List.cons.injEq, and_true] at hcs
    subst hcs
    exact ⟨[], none, 0, rfl, Nat.le_refl _, fun _ => rfl, Or.inl rfl⟩
  · simp only [List.cons.injEq, and_true] at hcs
    subst hcs
    simp only [if_true] at hs
    refine ⟨ss.take len, some a', cap, by rw [List.length_take]; congr 1; omega, by rw [List.length_take]; omega, fun e => (by cases e), ?_⟩
    by_cases h0 : ss.take len = []
    · exact Or.inl h0
    · right
      obtain ⟨b, o, spot⟩ := a'
      have hpos : 0 < ss.length := by
        rcases Nat.eq_zero_or_pos ss.length with h1 | h1
        · exact absurd (by rw [List.eq_nil_of_length_eq_zero h1]; simp) h0
        · exact h1
      have hspot : spot = none := by simpa [Addr.add] using World.cell?_spot (hcell 0 hpos)
      subst hspot
      refine ⟨b, o, rfl, fun j s hj => ?_⟩
      have hj1 : j < len := by
        have := (List.getElem?_eq_some_iff.1 hj).1
        rw [List.length_take] at this; omega
      rw [List.getElem?_take_of_lt hj1] at hj
      have := hcell j (List.getElem?_eq_some_iff.1 hj).1
      rw [List.getD_eq_getElem?_getD, hj, Addr.add_lit] at this
      simpa using this
theorem open_letter {t e : TypeId} {f0 f1 f2 f3 : Field} {W : World} {base : Nat} {r : Reach} {v : Value} {d : DataW H} {ps : List MemPlace} (ht : P.underlying t = some (.struct #[f0, f1, f2, f3])) (hone : Deep.oneCellFields P #[f0, f1, f2, f3] = true) (hC : P.cellsOf t = 4)
    (u0 : P.underlying f0.type = some (.int .i64)) (u1 : P.underlying f1.type = some (.slice e)) (he : P.underlying e = some .string) (hc : P.cellsOf e = 1) (u2 : P.underlying f2.type = some (.int .i64)) (u3 : P.underlying f3.type = some .string)
    (hv : Value.okWide P W r base t v) (h : DataW.Trod enc P W 0 (fun _ => true) true t v d ps) :
    ∃ (uid day : Int) (tb : ByteArray) (fa : Option Addr) (fc : Nat) (l : List ByteArray), v = .agg #[.int .i64 uid, .slice fa l.length fc, .int .i64 day, .string tb] ∧ Tg W (.slice fa l.length fc) l := by
  obtain ⟨v0, v1, v2, v3, y0, y1, y2, y3, n, rfl, _, _, h0, h1, h2, h3⟩ := Joins.open_agg4 ht hone hC hv h
  obtain ⟨uid, e0, _⟩ := DataW.trod_int u0 h0
  obtain ⟨l, ht1⟩ := open_tgs u1 he hc h1
  obtain ⟨day, e2, _⟩ := DataW.trod_int u2 h2
  obtain ⟨tb, e3, _⟩ := DataW.trod_string u3 h3
  simp only [List.cons.injEq, and_true] at e0 e2 e3
  subst e0 e2 e3
  have h1' := ht1
  obtain ⟨a, c, rfl, _⟩ := ht1
  exact ⟨uid, day, tb, a, c, l, rfl, h1'⟩
end Go.Proofs.Law
namespace Go.Proofs.YtgpcnacpefficaaGreatDoor
open Go.RowKit Go.ChangeShapes Go.WideShapes Go.Deep Go.Proofs.Law Go.Proofs.Bx

theorem tg_sl {W : World} {v : Value} {l : List ByteArray} (h : Law.Tg W v l) : Sl W v (l.map fun s => s.data.toList) := by
  obtain ⟨a, c, rfl, hcp, hn, hd⟩ := h
  refine ⟨a, c, by simp, ⟨hn, by simpa using hcp⟩, ?_⟩
  rcases hd with rfl | ⟨b, o, rfl, hat⟩
  · exact Or.inl rfl
  · refine Or.inr ⟨b, o, rfl, fun j t hj => ?_⟩
    rw [List.getElem?_map, Option.map_eq_some_iff] at hj
    obtain ⟨s, hs, rfl⟩ := hj
    rw [hat j s hs]
variable {H : Type} {enc : TypeId × Value → H} {P : Program}
theorem open_posts6 {t e te : TypeId} {f0 f1 f2 f3 f4 f5 : Field} {W : World} (ht : P.underlying t = some (.slice e)) (he : P.underlying e = some (.struct #[f0, f1, f2, f3, f4, f5])) (ce : P.cellsOf e = 6) (o0 : f0.offset = 0) (o1 : f1.offset = 1) (o2 : f2.offset = 2) (o3 : f3.offset = 3) (o4 : f4.offset = 4) (o5 : f5.offset = 5)
    (c0 : P.cellsOf f0.type = 1) (c1 : P.cellsOf f1.type = 1) (c2 : P.cellsOf f2.type = 1) (c3 : P.cellsOf f3.type = 1) (c4 : P.cellsOf f4.type = 1) (c5 : P.cellsOf f5.type = 1) (u0 : P.underlying f0.type = some (.int .i64)) (u1 : P.underlying f1.type = some (.int .i64)) (u2 : P.underlying f2.type = some (.int .i64)) (u3 : P.underlying f3.type = some (.slice te)) (ute : P.underlying te = some .string) (cte : P.cellsOf te = 1) (u4 : P.underlying f4.type = some .string) (u5 : P.underlying f5.type = some .bool)
    (v : Value) (x : DataW H × List MemPlace) (fuel : Nat) (h : DataW.trod enc P W 0 (fun _ => true) true fuel t [v] = some x) : ∃ L, Pos W v L := by
  rcases open_slice ht h with ⟨hcs, rfl⟩ | ⟨a, len, cap, m, n, D, Pl, hcs, hb, hl, hm, hmm, rfl, hx⟩
  · simp only [List.cons.injEq, and_true] at hcs
    subst hcs
    exact ⟨[], none, 0, rfl, Or.inl rfl⟩
  · simp only [List.cons.injEq, and_true] at hcs
    subst hcs
    simp only [if_true] at hmm
    subst hmm
    have each : ∀ i, ∃ q : Po, i < len → ∃ fv, W.cell? (a.add (i * 6)) = some (.int .i64 q.what) ∧ W.cell? (a.add (i * 6 + 1)) = some (.int .i64 q.uid) ∧ W.cell? (a.add (i * 6 + 2)) = some (.int .i64 q.n) ∧ W.cell? (a.add (i * 6 + 3)) = some fv ∧ Sl W fv q.flags ∧ W.cell? (a.add (i * 6 + 4)) = some (.string q.text) ∧ W.cell? (a.add (i * 6 + 5)) = some (.bool q.long) := by
      intro i
      by_cases hi : i < len
      · obtain ⟨cs', h1, h2⟩ := hx i (by omega)
        rw [ce] at h1
        obtain ⟨_, hlen, hcell⟩ := World.cells?_some h1
        obtain ⟨xs, k, hk, hxy, _, hxl, hf⟩ := DataW.trod_struct he h2
        match xs, hxl, cs', hlen with
        | [y0, y1, y2, y3, y4, y5], _, [v0, v1, v2, v3, v4, v5], _ =>
          have g0 := hf 0 f0 rfl
          have g1 := hf 1 f1 rfl
          have g2 := hf 2 f2 rfl
          have g3 := hf 3 f3 rfl
          have g4 := hf 4 f4 rfl
          have g5 := hf 5 f5 rfl
          simp [o0, o1, o2, o3, o4, o5, c0, c1, c2, c3, c4, c5] at g0 g1 g2 g3 g4 g5
          have e0 := hcell 0 (by omega)
          have e1 := hcell 1 (by omega)
          have e2 := hcell 2 (by omega)
          have e3 := hcell 3 (by omega)
          have e4 := hcell 4 (by omega)
          have e5 := hcell 5 (by omega)
          rw [add_add] at e0 e1 e2 e3 e4 e5
          obtain ⟨z0, hz0, _, _⟩ := DataW.trod_int u0 g0
          obtain ⟨z1, hz1, _, _⟩ := DataW.trod_int u1 g1
          obtain ⟨z2, hz2, _, _⟩ := DataW.trod_int u2 g2
          obtain ⟨fl, hfl⟩ := open_tgs u3 ute cte g3
          obtain ⟨s, hs, _, _⟩ := DataW.trod_string u4 g4
          obtain ⟨bl, hbl, _, _⟩ := DataW.trod_bool u5 g5
          simp only [List.cons.injEq, and_true] at hz0 hz1 hz2 hs hbl
          subst hz0 hz1 hz2 hs hbl
          exact ⟨⟨z0, z1, z2, fl.map fun s => s.data.toList, s, bl⟩, fun _ => ⟨v3, by simpa using e0, by simpa using e1, by simpa using e2, by simpa using e3, tg_sl hfl, by simpa using e4, by simpa using e5⟩⟩
      · exact ⟨⟨0, 0, 0, [], ⟨#[]⟩, false⟩, fun h => absurd h hi⟩
    let q : Nat → Po := fun i => (each i).choose
    have hq : ∀ i, i < len → ∃ fv, W.cell? (a.add (i * 6)) = some (.int .i64 (q i).what) ∧ W.cell? (a.add (i * 6 + 1)) = some (.int .i64 (q i).uid) ∧ W.cell? (a.add (i * 6 + 2)) = some (.int .i64 (q i).n) ∧ W.cell? (a.add (i * 6 + 3)) = some fv ∧ Sl W fv (q i).flags ∧ W.cell? (a.add (i * 6 + 4)) = some (.string (q i).text) ∧ W.cell? (a.add (i * 6 + 5)) = some (.bool (q i).long) := fun i => (each i).choose_spec
    refine ⟨(List.range len).map q, some a, m, by simp, ?_⟩
    by_cases h0 : len = 0
    · left; rw [h0]; rfl
    · right
      obtain ⟨b, o, spot⟩ := a
      have hspot : spot = none := by
        obtain ⟨_, h1, _⟩ := hq 0 (by omega)
        simpa [Addr.add] using World.cell?_spot h1
      subst hspot
      refine ⟨b, o, rfl, fun j y hj => ?_⟩
      rw [List.getElem?_map, Option.map_eq_some_iff] at hj
      obtain ⟨i, hi, rfl⟩ := hj
      obtain ⟨hlt, he2⟩ := List.getElem?_eq_some_iff.1 hi
      simp at he2 hlt
      subst he2
      obtain ⟨fv, k0, k1, k2, k3, k4, k5, k6⟩ := hq j (by omega)
      rw [Addr.add_lit] at k0 k1 k2 k3 k5 k6
      exact ⟨k0, k1, k2, ⟨fv, k3, k4⟩, k5, k6⟩
theorem open_letters {t e te : TypeId} {f0 f1 f2 f3 : Field} {W : World} (ht : P.underlying t = some (.slice e)) (he : P.underlying e = some (.struct #[f0, f1, f2, f3])) (ce : P.cellsOf e = 4) (o0 : f0.offset = 0) (o1 : f1.offset = 1) (o2 : f2.offset = 2) (o3 : f3.offset = 3)
    (c0 : P.cellsOf f0.type = 1) (c1 : P.cellsOf f1.type = 1) (c2 : P.cellsOf f2.type = 1) (c3 : P.cellsOf f3.type = 1) (u0 : P.underlying f0.type = some (.int .i64)) (u1 : P.underlying f1.type = some (.slice te)) (ute : P.underlying te = some .string) (cte : P.cellsOf te = 1) (u2 : P.underlying f2.type = some (.int .i64)) (u3 : P.underlying f3.type = some .string)
    (v : Value) (x : DataW H × List MemPlace) (fuel : Nat) (h : DataW.trod enc P W 0 (fun _ => true) true fuel t [v] = some x) : ∃ L, Lts W v L := by
  rcases open_slice ht h with ⟨hcs, rfl⟩ | ⟨a, len, cap, m, n, D, Pl, hcs, hb, hl, hm, hmm, rfl, hx⟩
  · simp only [List.cons.injEq, and_true] at hcs
    subst hcs
    exact ⟨[], Lts.nil _⟩
  · simp only [List.cons.injEq, and_true] at hcs
    subst hcs
    simp only [if_true] at hmm
    subst hmm
    have each : ∀ i, ∃ q : Lt, i < len → ∃ fv, W.cell? (a.add (i * 4)) = some (.int .i64 q.uid) ∧ W.cell? (a.add (i * 4 + 1)) = some fv ∧ Sl W fv q.flags ∧ W.cell? (a.add (i * 4 + 2)) = some (.int .i64 q.day) ∧ W.cell? (a.add (i * 4 + 3)) = some (.string ⟨q.text.toArray⟩) := by
      intro i
      by_cases hi : i < len
      · obtain ⟨cs', h1, h2⟩ := hx i (by omega)
        rw [ce] at h1
        obtain ⟨_, hlen, hcell⟩ := World.cells?_some h1
        obtain ⟨xs, k, hk, hxy, _, hxl, hf⟩ := DataW.trod_struct he h2
        match xs, hxl, cs', hlen with
        | [y0, y1, y2, y3], _, [v0, v1, v2, v3], _ =>
          have g0 := hf 0 f0 rfl
          have g1 := hf 1 f1 rfl
          have g2 := hf 2 f2 rfl
          have g3 := hf 3 f3 rfl
          simp [o0, o1, o2, o3, c0, c1, c2, c3] at g0 g1 g2 g3
          have e0 := hcell 0 (by omega)
          have e1 := hcell 1 (by omega)
          have e2 := hcell 2 (by omega)
          have e3 := hcell 3 (by omega)
          rw [add_add] at e0 e1 e2 e3
          obtain ⟨z0, hz0, _, _⟩ := DataW.trod_int u0 g0
          obtain ⟨fl, hfl⟩ := open_tgs u1 ute cte g1
          obtain ⟨z2, hz2, _, _⟩ := DataW.trod_int u2 g2
          obtain ⟨s, hs, _, _⟩ := DataW.trod_string u3 g3
          simp only [List.cons.injEq, and_true] at hz0 hz2 hs
          subst hz0 hz2 hs
          exact ⟨⟨z0, fl.map fun s => s.data.toList, z2, s.data.toList⟩, fun _ => ⟨v1, by simpa using e0, by simpa using e1, tg_sl hfl, by simpa using e2, by simpa using e3⟩⟩
      · exact ⟨⟨0, [], 0, []⟩, fun h => absurd h hi⟩
    let q : Nat → Lt := fun i => (each i).choose
    have hq : ∀ i, i < len → ∃ fv, W.cell? (a.add (i * 4)) = some (.int .i64 (q i).uid) ∧ W.cell? (a.add (i * 4 + 1)) = some fv ∧ Sl W fv (q i).flags ∧ W.cell? (a.add (i * 4 + 2)) = some (.int .i64 (q i).day) ∧ W.cell? (a.add (i * 4 + 3)) = some (.string ⟨(q i).text.toArray⟩) := fun i hi => (each i).choose_spec hi
    refine ⟨(List.range len).map q, some a, m, by simp, ⟨fun e => (by cases e), by simpa using hl, by unfold maxLen at hm; omega⟩, ?_⟩
    by_cases h0 : len = 0
    · left; rw [h0]; rfl
    · right
      obtain ⟨b, o, spot⟩ := a
      have hspot : spot = none := by
        obtain ⟨_, h1, _⟩ := hq 0 (by omega)
        simpa [Addr.add] using World.cell?_spot h1
      subst hspot
      refine ⟨b, o, rfl, fun j y hj => ?_⟩
      rw [List.getElem?_map, Option.map_eq_some_iff] at hj
      obtain ⟨i, hi, rfl⟩ := hj
      obtain ⟨hlt, he2⟩ := List.getElem?_eq_some_iff.1 hi
      simp at he2 hlt
      subst he2
      obtain ⟨fv, k0, k1, k2, k3, k4⟩ := hq j (by omega)
      rw [Addr.add_lit] at k0 k1 k3 k4
      exact ⟨k0, ⟨fv, k1, k2⟩, k3, k4⟩
end Go.Proofs.YtgpcnacpefficaaGreatDoor
