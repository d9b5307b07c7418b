/-
  A slice of texts in memory.
-/
import Derived.Test.YtkneeoaeoiaefaaDoorSeqBase
import Derived.Test.YtkneeoaeoiaefaaDoorFlagsSpec
namespace Go.Proofs.YtkneeoaeoiaefaaDoor
open Go.RowKit Go.Proofs.Aid Go.Proofs.Fl Go.Sort Go.Lib

/-- A slice of texts. -/
def Sl (w : World) (v : Value) (l : List Tx) : Prop :=
  ∃ a c, v = .slice a l.length c ∧ ((a = none → c = 0) ∧ l.length ≤ c) ∧ (l = [] ∨ ∃ b o, a = some ⟨b, o, none⟩ ∧ ∀ (j : Nat) t, l[j]? = some t → w.cell? ⟨b, o + j, none⟩ = some (encStr t))
theorem Sl.below {w w' : World} {v : Value} {B : Nat} {l : List Tx} (h : Sl w v l) (hb : Below B w w') (hB : w.heap.size ≤ B) : Sl w' v l := by
  obtain ⟨a, c, h1, h0, h2⟩ := h
  refine ⟨a, c, h1, h0, ?_⟩
  rcases h2 with h2 | ⟨b, o, h3, h4⟩
  · exact Or.inl h2
  · refine Or.inr ⟨b, o, h3, fun j z hj => ?_⟩
    have h5 := h4 j z hj
    have hlt := World.block_lt_of_cell? _ _ h5
    exact (hb.cell (p := ⟨b, _, none⟩) (Nat.lt_of_lt_of_le hlt hB)).trans h5
end Go.Proofs.YtkneeoaeoiaefaaDoor
