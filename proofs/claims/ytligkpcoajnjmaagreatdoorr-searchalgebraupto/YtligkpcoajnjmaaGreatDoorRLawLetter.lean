/-
  A letter that is handed in, opened: a struct of a number, texts, a number and a text. Of no program.
-/
import Derived.Test.YtligkpcoajnjmaaGreatDoorRLaw
import Derived.Lib.SmallJoins
namespace Go.Proofs.Law
open Go.RowKit Go.ChangeShapes Go.WideShapes Go.Deep

variable {H : Type} {enc : TypeId × Value → H} {P : Program}

theorem open_tgs {t e : TypeId} {W : World} {fuel : Nat} {v : Value} {x : DataW H × List MemPlace} (ht : P.underlying t = some (.slice e)) (he : P.underlying e = some .string) (hc : P.cellsOf e = 1)
    (h : DataW.trod enc P W 0 (fun _ => true) true fuel t [v] = some x) : ∃ l, Tg W v l := by
  rcases open_strings ht he hc h with ⟨hcs, _⟩ | ⟨a', len, cap, ss, hcs, _, hl, hm, hs, _, hcell, hwz⟩
  · simp only [List.cons.injEq, and_true] at hcs
    subst hcs
    exact ⟨[], none, 0, rfl, Nat.le_refl _, fun _ => rfl, Or.inl rfl⟩
  · simp only [List.cons.injEq, and_true] at hcs
    subst hcs
    simp only [if_true] at hs
    refine ⟨ss.take len, some a', cap, by rw [List.length_take]; congr 1; omega, by rw [List.length_take]; omega, fun e => (by cases e), ?_⟩
    by_cases h0 : ss.take len = []
    · exact Or.inl h0
    · right
      obtain ⟨b, o, spot⟩ := a'
      have hpos : 0 < ss.length := by
        rcases Nat.eq_zero_or_pos ss.length with h1 | h1
        · exact absurd (by rw [List.eq_nil_of_length_eq_zero h1]; simp) h0
        · exact h1
      have hspot : spot = none := by simpa [Addr.add] using World.cell?_spot (hcell 0 hpos)
      subst hspot
      refine ⟨b, o, rfl, fun j s hj => ?_⟩
      have hj1 : j < len := by
        have := (List.getElem?_eq_some_iff.1 hj).1
        rw [List.length_take] at this; omega
      rw [List.getElem?_take_of_lt hj1] at hj
      have := hcell j (List.getElem?_eq_some_iff.1 hj).1
      rw [List.getD_eq_getElem?_getD, hj, Addr.add_lit] at this
      simpa using this
theorem open_letter {t e : TypeId} {f0 f1 f2 f3 : Field} {W : World} {base : Nat} {r : Reach} {v : Value} {d : DataW H} {ps : List MemPlace} (ht : P.underlying t = some (.struct #[f0, f1, f2, f3])) (hone : Deep.oneCellFields P #[f0, f1, f2, f3] = true) (hC : P.cellsOf t = 4)
    (u0 : P.underlying f0.type = some (.int .i64)) (u1 : P.underlying f1.type = some (.slice e)) (he : P.underlying e = some .string) (hc : P.cellsOf e = 1) (u2 : P.underlying f2.type = some (.int .i64)) (u3 : P.underlying f3.type = some .string)
    (hv : Value.okWide P W r base t v) (h : DataW.Trod enc P W 0 (fun _ => true) true t v d ps) :
    ∃ (uid day : Int) (tb : ByteArray) (fa : Option Addr) (fc : Nat) (l : List ByteArray), v = .agg #[.int .i64 uid, .slice fa l.length fc, .int .i64 day, .string tb] ∧ Tg W (.slice fa l.length fc) l := by
  obtain ⟨v0, v1, v2, v3, y0, y1, y2, y3, n, rfl, _, _, h0, h1, h2, h3⟩ := Joins.open_agg4 ht hone hC hv h
  obtain ⟨uid, e0, _⟩ := DataW.trod_int u0 h0
  obtain ⟨l, ht1⟩ := open_tgs u1 he hc h1
  obtain ⟨day, e2, _⟩ := DataW.trod_int u2 h2
  obtain ⟨tb, e3, _⟩ := DataW.trod_string u3 h3
  simp only [List.cons.injEq, and_true] at e0 e2 e3
  subst e0 e2 e3
  have h1' := ht1
  obtain ⟨a, c, rfl, _⟩ := ht1
  exact ⟨uid, day, tb, a, c, l, rfl, h1'⟩
end Go.Proofs.Law
