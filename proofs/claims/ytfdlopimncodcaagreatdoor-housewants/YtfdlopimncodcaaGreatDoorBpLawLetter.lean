/-
  A letter that is handed in, opened: a struct of a number, texts, a num, and more.
-/
import Derived.Test.YtfdlopimncodcaaGreatDoorLaw
import Derived.Lib.SmallJoins
import Derived.Test.YtfdlopimncodcaaGreatDoorMHwSmall
namespace Go.Proofs.Law
open Go.RowKit Go.ChangeShapes Go.WideShapes Go.Deep

variable {H : Type} {enc : TypeId × Value → H} {P : Program}

theorem open_tgs {t e : TypeId} {W : World} {fuel : Nat} {v : Value} {x : DataW H × List MemPlace} (ht : P.underlying t = some (.slice e)) (he : P.underlying e = some .string) (hc : P.cellsOf e = 1)
    (h : DataW.trod enc P W 0 (fun _ => true) true fuel t [v] = some x) : ∃ l, Tg W v l := by
  rcases open_strings ht he hc h with ⟨hcs, _⟩ | ⟨a', len, cap, ss, hcs, _, hl, hm, hs, _, hcell, hwz⟩
  · simp only [List.cons.injEq, and_true] at hcs
    subst hcs
    exact ⟨[], none, 0, rfl, Nat.le_refl _, fun _ => rfl, Or.inl rfl⟩
  · simp only [List.cons.injEq, and_true] at hcs
    subst hcs
    simp only [if_true] at hs
    refine ⟨ss.take len, some a', cap, by rw [List.length_take]; congr 1; omega, by rw [List.length_take]; omega, fun e => (by cases e), ?_⟩
    by_cases h0 : ss.take len = []
    · exact Or.inl h0
    · right
      obtain ⟨b, o, spot⟩ := a'
      have hpos : 0 < ss.length := by
        rcases Nat.eq_zero_or_pos ss.length with h1 | h1
        · exact absurd (by rw [List.eq_nil_of_length_eq_zero h1]; simp) h0
        · exact h1
      have hspot : spot = none := by simpa [Addr.add] using World.cell?_spot (hcell 0 hpos)
      subst hspot
      refine ⟨b, o, rfl, fun j s hj => ?_⟩
      have hj1 : j < len := by
        have := (List.getElem?_eq_some_iff.1 hj).1
        rw [List.length_take] at this; omega
      rw [List.getElem?_take_of_lt hj1] at hj
      have := hcell j (List.getElem?_eq_some_iff.1 hj).1
      rw [List.getD_eq_getElem?_getD, hj, Addr.add_lit] at this
      simpa using this
theorem open_letter {t e : TypeId} {f0 f1 f2 f3 : Field} {W : World} {base : Nat} {r : Reach} {v : Value} {d : DataW H} {ps : List MemPlace} (ht : P.underlying t = some (.struct #[f0, f1, f2, f3])) (hone : Deep.oneCellFields P #[f0, f1, f2, f3] = true) (hC : P.cellsOf t = 4)
    (u0 : P.underlying f0.type = some (.int .i64)) (u1 : P.underlying f1.type = some (.slice e)) (he : P.underlying e = some .string) (hc : P.cellsOf e = 1) (u2 : P.underlying f2.type = some (.int .i64)) (u3 : P.underlying f3.type = some .string)
    (hv : Value.okWide P W r base t v) (h : DataW.Trod enc P W 0 (fun _ => true) true t v d ps) :
    ∃ (uid day : Int) (tb : ByteArray) (fa : Option Addr) (fc : Nat) (l : List ByteArray), v = .agg #[.int .i64 uid, .slice fa l.length fc, .int .i64 day, .string tb] ∧ Tg W (.slice fa l.length fc) l := by
  obtain ⟨v0, v1, v2, v3, y0, y1, y2, y3, n, rfl, _, _, h0, h1, h2, h3⟩ := Joins.open_agg4 ht hone hC hv h
  obtain ⟨uid, e0, _⟩ := DataW.trod_int u0 h0
  obtain ⟨l, ht1⟩ := open_tgs u1 he hc h1
  obtain ⟨day, e2, _⟩ := DataW.trod_int u2 h2
  obtain ⟨tb, e3, _⟩ := DataW.trod_string u3 h3
  simp only [List.cons.injEq, and_true] at e0 e2 e3
  subst e0 e2 e3
  have h1' := ht1
  obtain ⟨a, c, rfl, _⟩ := ht1
  exact ⟨uid, day, tb, a, c, l, rfl, h1'⟩
end Go.Proofs.Law
namespace Go.Proofs.YtfdlopimncodcaaGreatDoor
open Go.RowKit Go.ChangeShapes Go.WideShapes Go.Deep Go.Proofs.Law

variable {H : Type} {enc : TypeId × Value → H} {P : Program}
theorem open_deeds {t e : TypeId} {f0 f1 f2 f3 : Field} {W : World} (ht : P.underlying t = some (.slice e)) (he : P.underlying e = some (.struct #[f0, f1, f2, f3])) (ce : P.cellsOf e = 4) (o0 : f0.offset = 0) (o1 : f1.offset = 1) (o2 : f2.offset = 2) (o3 : f3.offset = 3)
    (c0 : P.cellsOf f0.type = 1) (c1 : P.cellsOf f1.type = 1) (c2 : P.cellsOf f2.type = 1) (c3 : P.cellsOf f3.type = 1) (u0 : P.underlying f0.type = some (.int .i64)) (u1 : P.underlying f1.type = some .string) (u2 : P.underlying f2.type = some .string) (u3 : P.underlying f3.type = some .bool)
    (v : Value) (x : DataW H × List MemPlace) (fuel : Nat) (h : DataW.trod enc P W 0 (fun _ => true) true fuel t [v] = some x) : ∃ L, Dds W v L := by
  rcases open_slice ht h with ⟨hcs, rfl⟩ | ⟨a, len, cap, m, n, D, Pl, hcs, hb, hl, hm, hmm, rfl, hx⟩
  · simp only [List.cons.injEq, and_true] at hcs
    subst hcs
    exact ⟨[], none, 0, rfl, Or.inl rfl⟩
  · simp only [List.cons.injEq, and_true] at hcs
    subst hcs
    simp only [if_true] at hmm
    subst hmm
    have each : ∀ i, ∃ q : Dd, i < len → W.cell? (a.add (i * 4)) = some (.int .i64 q.what) ∧ W.cell? (a.add (i * 4 + 1)) = some (.string q.s) ∧ W.cell? (a.add (i * 4 + 2)) = some (.string q.t) ∧ W.cell? (a.add (i * 4 + 3)) = some (.bool q.yes) := by
      intro i
      by_cases hi : i < len
      · obtain ⟨cs', h1, h2⟩ := hx i (by omega)
        rw [ce] at h1
        obtain ⟨_, hlen, hcell⟩ := World.cells?_some h1
        obtain ⟨xs, k, hk, hxy, _, hxl, hf⟩ := DataW.trod_struct he h2
        match xs, hxl, cs', hlen with
        | [y0, y1, y2, y3], _, [v0, v1, v2, v3], _ =>
          have g0 := hf 0 f0 rfl
          have g1 := hf 1 f1 rfl
          have g2 := hf 2 f2 rfl
          have g3 := hf 3 f3 rfl
          simp [o0, o1, o2, o3, c0, c1, c2, c3] at g0 g1 g2 g3
          have e0 := hcell 0 (by omega)
          have e1 := hcell 1 (by omega)
          have e2 := hcell 2 (by omega)
          have e3 := hcell 3 (by omega)
          rw [add_add] at e0 e1 e2 e3
          obtain ⟨z0, hz0, _, _⟩ := DataW.trod_int u0 g0
          obtain ⟨s, hs, _, _⟩ := DataW.trod_string u1 g1
          obtain ⟨s2, hs2, _, _⟩ := DataW.trod_string u2 g2
          obtain ⟨bl, hbl, _, _⟩ := DataW.trod_bool u3 g3
          simp only [List.cons.injEq, and_true] at hz0 hs hs2 hbl
          subst hz0 hs hs2 hbl
          exact ⟨⟨z0, s, s2, bl⟩, fun _ => ⟨by simpa using e0, by simpa using e1, by simpa using e2, by simpa using e3⟩⟩
      · exact ⟨⟨0, ⟨#[]⟩, ⟨#[]⟩, false⟩, fun h => absurd h hi⟩
    let q : Nat → Dd := fun i => (each i).choose
    have hq : ∀ i, i < len → W.cell? (a.add (i * 4)) = some (.int .i64 (q i).what) ∧ W.cell? (a.add (i * 4 + 1)) = some (.string (q i).s) ∧ W.cell? (a.add (i * 4 + 2)) = some (.string (q i).t) ∧ W.cell? (a.add (i * 4 + 3)) = some (.bool (q i).yes) := fun i => (each i).choose_spec
    refine ⟨(List.range len).map q, some a, m, by simp, ?_⟩
    by_cases h0 : len = 0
    · left; rw [h0]; rfl
    · right
      obtain ⟨b, o, spot⟩ := a
      have hspot : spot = none := by
        obtain ⟨h1, _⟩ := hq 0 (by omega)
        simpa [Addr.add] using World.cell?_spot h1
      subst hspot
      refine ⟨b, o, rfl, fun j y hj => ?_⟩
      rw [List.getElem?_map, Option.map_eq_some_iff] at hj
      obtain ⟨i, hi, rfl⟩ := hj
      obtain ⟨hlt, he2⟩ := List.getElem?_eq_some_iff.1 hi
      simp at he2 hlt
      subst he2
      obtain ⟨k0, k1, k2, k3⟩ := hq j (by omega)
      rw [Addr.add_lit] at k0 k1 k2 k3
      exact ⟨k0, k1, k2, k3⟩
end Go.Proofs.YtfdlopimncodcaaGreatDoor
