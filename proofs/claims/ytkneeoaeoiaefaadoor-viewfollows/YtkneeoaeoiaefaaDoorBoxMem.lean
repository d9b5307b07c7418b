/-
  Messages in memory; a box.
-/
import Derived.Test.YtkneeoaeoiaefaaDoorBoxSpec
import Derived.Test.YtkneeoaeoiaefaaDoorFlagsSl
import Derived.Test.YtkneeoaeoiaefaaDoorButAid
namespace Go.Proofs.YtkneeoaeoiaefaaDoor
open Go.RowKit Go.Proofs.Aid Go.Proofs.Bx

/-- A message lies at four cells. -/
def LtAt (w : World) (b o : Nat) (x : Lt) : Prop :=
  w.cell? ⟨b, o, none⟩ = some (.int .i64 x.uid) ∧ (∃ fv, w.cell? ⟨b, o + 1, none⟩ = some fv ∧ Sl w fv x.flags) ∧ w.cell? ⟨b, o + 2, none⟩ = some (.int .i64 x.day) ∧ w.cell? ⟨b, o + 3, none⟩ = some (.string ⟨x.text.toArray⟩)
theorem LtAt.below {w w' : World} {b o B : Nat} {x : Lt} (h : LtAt w b o x) (hb : Below B w w') (hB : w.heap.size ≤ B) : LtAt w' b o x := by
  obtain ⟨h1, ⟨fv, h2, h3⟩, h4, h5⟩ := h
  have hlt : b < B := Nat.lt_of_lt_of_le (World.block_lt_of_cell? _ _ h1) hB
  exact ⟨(hb.cell (p := ⟨b, _, none⟩) hlt).trans h1, ⟨fv, (hb.cell (p := ⟨b, _, none⟩) hlt).trans h2, h3.below hb hB⟩, (hb.cell (p := ⟨b, _, none⟩) hlt).trans h4, (hb.cell (p := ⟨b, _, none⟩) hlt).trans h5⟩
/-- A slice of messages. -/
def Lts (w : World) (v : Value) (l : List Lt) : Prop :=
  ∃ a c, v = .slice a l.length c ∧ ((a = none → c = 0) ∧ l.length ≤ c ∧ c ≤ 9223372036854775807) ∧ (l = [] ∨ ∃ b o, a = some ⟨b, o, none⟩ ∧ ∀ (j : Nat) x, l[j]? = some x → LtAt w b (o + j * 4) x)
theorem Lts.below {w w' : World} {v : Value} {B : Nat} {l : List Lt} (h : Lts w v l) (hb : Below B w w') (hB : w.heap.size ≤ B) : Lts w' v l := by
  obtain ⟨a, c, h1, h0, h2⟩ := h
  refine ⟨a, c, h1, h0, ?_⟩
  rcases h2 with h2 | ⟨b, o, h3, h4⟩
  · exact Or.inl h2
  · exact Or.inr ⟨b, o, h3, fun j x hj => (h4 j x hj).below hb hB⟩
theorem Lts.nil (w : World) : Lts w (.slice none 0 0) [] := ⟨none, 0, rfl, ⟨fun _ => rfl, Nat.le_refl _, by decide⟩, Or.inl rfl⟩
/-- A box in memory: its own number, the next one's, messages. -/
def BoxAt (w : World) (bb : Nat) (v n : Int) (l : List Lt) : Prop := ∃ lv, w.heap[bb]? = some (.cells #[.int .i64 v, .int .i64 n, lv] 28 (0, 0)) ∧ Lts w lv l
/-- What turns nothing but block b, below base; what was laid anew stays as it is. -/
theorem BoxAt.below {w w' : World} {bb B : Nat} {v n : Int} {l : List Lt} (h : BoxAt w bb v n l) (hb : Below B w w') (hB : w.heap.size ≤ B) : BoxAt w' bb v n l := by
  obtain ⟨lv, h1, h2⟩ := h
  exact ⟨lv, (hb.block bb (Nat.lt_of_lt_of_le (Array.getElem?_eq_some_iff.1 h1).1 hB)).trans h1, h2.below hb hB⟩
theorem BoxAt.lt {w : World} {bb : Nat} {v n : Int} {l : List Lt} (h : BoxAt w bb v n l) : bb < w.heap.size := by
  obtain ⟨lv, h1, _⟩ := h
  exact (Array.getElem?_eq_some_iff.1 h1).1
end Go.Proofs.YtkneeoaeoiaefaaDoor
