/-
  Parts in memory: six cells each, those in it in a row of their own.
-/
import Derived.Test.YtgbbkdflnlagaaaGreatDoorMimeSpec
import Derived.Test.YtgbbkdflnlagaaaGreatDoorHeadReader
namespace Go.Proofs.YtgbbkdflnlagaaaGreatDoor
open Go.RowKit Go.Proofs.Aid Go.Proofs.Hd Go.Proofs.Sq

/-- Six values are a part; what lies in it is read in blocks of Ok alone. -/
inductive Six (w : World) (Ok : Nat → Prop) : Mm.Pt → List Value → Prop
  | mk (tb bb : ByteArray) (lo hi n : Nat) (ps : List Mm.Pt) (a : Option Addr) (c : Nat) (rows : Nat → List Value)
    (hk : ∀ j p, ps[j]? = some p → Six w Ok p (rows j))
    (ha : ps = [] ∨ ∃ b o, a = some ⟨b, o, none⟩ ∧ Ok b ∧ ∀ j p, ps[j]? = some p → ∀ i x, (rows j)[i]? = some x → w.cell? ⟨b, o + j * 6 + i, none⟩ = some x) :
    Six w Ok (.mk tb.data.toList bb.data.toList lo hi n ps) [.string tb, .string bb, .int .i64 (lo : Int), .int .i64 (hi : Int), .int .i64 (n : Int), .slice a ps.length c]
theorem Six.length {w : World} {Ok : Nat → Prop} {p : Mm.Pt} {xs : List Value} (h : Six w Ok p xs) : xs.length = 6 := by cases h; rfl
theorem Six.kept {w w' : World} {Ok Ok' : Nat → Prop} {p : Mm.Pt} {xs : List Value} (h : Six w Ok p xs) (hO : ∀ k, Ok k → k < w.heap.size → Ok' k ∧ w'.heap[k]? = w.heap[k]?) : Six w' Ok' p xs := by
  induction h with
  | mk tb bb lo hi n ps a c rows hk ha ih =>
    refine Six.mk tb bb lo hi n ps a c rows ih ?_
    rcases ha with ha | ⟨b, o, h1, h2, h3⟩
    · exact Or.inl ha
    · cases ps with
      | nil => exact Or.inl rfl
      | cons p ps =>
        have hl := (hk 0 p rfl).length
        have hc := h3 0 p rfl 0 _ (List.getElem?_eq_getElem (by omega))
        have hb : b < w.heap.size := World.block_lt_of_cell? _ _ hc
        have h9 := hO b h2 hb
        exact Or.inr ⟨b, o, h1, h9.1, fun j q hj i x hx => (World.cell?_of_block h9.2).trans (h3 j q hj i x hx)⟩
theorem Six.under {w w' : World} {Ok : Nat → Prop} {p : Mm.Pt} {xs : List Value} (h : Six w Ok p xs) (hb : Below w.heap.size w w') : Six w' Ok p xs := h.kept fun k hk hlt => ⟨hk, hb.block k hlt⟩
end Go.Proofs.YtgbbkdflnlagaaaGreatDoor
