/-
  Slices of ranges as the program has them, and what a row of two cells an element is. Of package seq.
-/
import Derived.Test.YtfdlopimncodcaaGreatDoorProg
import Derived.Test.YtfdlopimncodcaaGreatDoorBpBoxSpec
import Derived.Test.YtfdlopimncodcaaGreatDoorSeqSpec
namespace Go.Proofs.YtfdlopimncodcaaGreatDoor
open Go.RowKit Go.Proofs.Aid Go.Proofs.Sq

theorem below_drewN {B : Nat} {a w : World} (h : Below B a w) (n : Nat) : Below B a (w.drewN n) := ⟨h.os, h.tape, h.output, h.size, h.block⟩
/-- Ranges lie there. -/
def RgAt (w : World) (b o : Nat) (l : List (Int × Int)) : Prop :=
  ∀ (j : Nat) r, l[j]? = some r → w.cell? ⟨b, o + j * 2, none⟩ = some (.int .i64 r.1) ∧ w.cell? ⟨b, o + j * 2 + 1, none⟩ = some (.int .i64 r.2)
/-- A slice of ranges. -/
def Rg (w : World) (v : Value) (l : List (Int × Int)) : Prop :=
  ∃ a c, v = .slice a l.length c ∧ (l = [] ∨ ∃ b o, a = some ⟨b, o, none⟩ ∧ RgAt w b o l)
theorem RgAt.below {w w' : World} {b o B : Nat} {l : List (Int × Int)} (h : RgAt w b o l) (hb : Below B w w') (hB : w.heap.size ≤ B) : RgAt w' b o l := by
  intro j r hj
  obtain ⟨h1, h2⟩ := h j r hj
  have hlt := World.block_lt_of_cell? _ _ h1
  have hlt2 : b < B := Nat.lt_of_lt_of_le hlt hB
  exact ⟨(hb.cell (p := ⟨b, _, none⟩) hlt2).trans h1, (hb.cell (p := ⟨b, _, none⟩) hlt2).trans h2⟩
theorem Rg.below {w w' : World} {v : Value} {B : Nat} {l : List (Int × Int)} (h : Rg w v l) (hb : Below B w w') (hB : w.heap.size ≤ B) : Rg w' v l := by
  obtain ⟨a, c, h1, h2⟩ := h
  refine ⟨a, c, h1, ?_⟩
  rcases h2 with h2 | ⟨b, o, h3, h4⟩
  · exact Or.inl h2
  · exact Or.inr ⟨b, o, h3, h4.below hb hB⟩
theorem row_below {w w' : World} {base n e size B : Nat} {v : Value} {xs : List Value} (hb : Below B w w') (hB : w.heap.size ≤ B) (h : w.ownsRow base e size v n xs) : w'.ownsRow base e size v n xs := by
  refine ⟨h.1, ?_⟩
  rcases h.2 with h2 | ⟨g, cap, cur, hv, hg, hh, r⟩
  · exact Or.inl h2
  · exact Or.inr ⟨g, cap, cur, hv, hg, (hb.block g (Nat.lt_of_lt_of_le (Array.getElem?_eq_some_iff.1 hh).1 hB)).trans hh, r⟩
theorem row_form {w : World} {base n e size : Nat} {v : Value} {xs : List Value} (h : w.ownsRow base e size v n xs) : ∃ a c, v = .slice a n c := by
  rcases h.2 with ⟨h1, h2⟩ | ⟨g, cap, cur, hv, _⟩
  · exact ⟨none, 0, by rw [h1, h2]⟩
  · exact ⟨_, _, hv⟩
/-- The cells of ranges. -/
def cellsR (l : List (Int × Int)) : List Value := l.flatMap fun r => [.int .i64 r.1, .int .i64 r.2]
theorem cellsR_append (a b : List (Int × Int)) : cellsR (a ++ b) = cellsR a ++ cellsR b := by simp [cellsR]
theorem cellsR_length (a : List (Int × Int)) : (cellsR a).length = a.length * 2 := by
  induction a with
  | nil => rfl
  | cons r rs ih => simp [cellsR] at ih ⊢; omega
theorem cellsR_get : ∀ (l : List (Int × Int)) (j : Nat) r, l[j]? = some r → (cellsR l)[j * 2]? = some (.int .i64 r.1) ∧ (cellsR l)[j * 2 + 1]? = some (.int .i64 r.2)
  | [], j, r, h => by simp at h
  | x :: l, 0, r, h => by
    obtain rfl : x = r := by simpa using h
    simp [cellsR]
  | x :: l, j + 1, r, h => by
    have := cellsR_get l j r (by simpa using h)
    rw [show (j + 1) * 2 = j * 2 + 2 by omega]
    simpa [cellsR] using this
/-- A row of ranges is a slice of ranges. -/
theorem rg_of_row {w : World} {base e : Nat} {v : Value} {l : List (Int × Int)} (h : w.ownsRow base e 2 v l.length (cellsR l)) : Rg w v l := by
  rcases h.2 with ⟨h1, h2⟩ | ⟨g, cap, cur, hv, _, hh, _, _, hsz, htk⟩
  · exact ⟨none, 0, by rw [h1, h2], Or.inl (List.eq_nil_of_length_eq_zero h2)⟩
  · refine ⟨_, cap, hv, Or.inr ⟨g, 0, rfl, ?_⟩⟩
    intro j r hj
    obtain ⟨h1, h2⟩ := cellsR_get l j r hj
    have hlt : j < l.length := (List.getElem?_eq_some_iff.1 hj).1
    rw [← htk] at h1 h2
    rw [List.getElem?_take_of_lt (by omega)] at h1
    rw [List.getElem?_take_of_lt (by omega)] at h2
    simp only [World.cell?, hh, Nat.zero_add]
    constructor
    · simpa using h1
    · simpa using h2
end Go.Proofs.YtfdlopimncodcaaGreatDoor
