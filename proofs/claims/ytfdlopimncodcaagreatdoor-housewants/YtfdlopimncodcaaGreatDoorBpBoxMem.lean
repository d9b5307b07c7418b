/-
  Messages in memory; a box, and more.
-/
import Derived.Test.YtfdlopimncodcaaGreatDoorBpBoxSpec
import Derived.Test.YtfdlopimncodcaaGreatDoorBpFlagsSl
import Derived.Deep.QuietTactic
import Derived.BigQuiet
import Derived.Deep.RegionWith
import Derived.Shelf.Abstract
namespace Go.Proofs.YtfdlopimncodcaaGreatDoor
open Go.RowKit Go.Proofs.Aid Go.Proofs.Bx

/-- A message lies at four cells. -/
def LtAt (w : World) (b o : Nat) (x : Lt) : Prop :=
  w.cell? ⟨b, o, none⟩ = some (.int .i64 x.uid) ∧ (∃ fv, w.cell? ⟨b, o + 1, none⟩ = some fv ∧ Sl w fv x.flags) ∧ w.cell? ⟨b, o + 2, none⟩ = some (.int .i64 x.day) ∧ w.cell? ⟨b, o + 3, none⟩ = some (.string ⟨x.text.toArray⟩)
theorem LtAt.below {w w' : World} {b o B : Nat} {x : Lt} (h : LtAt w b o x) (hb : Below B w w') (hB : w.heap.size ≤ B) : LtAt w' b o x := by
  obtain ⟨h1, ⟨fv, h2, h3⟩, h4, h5⟩ := h
  have hlt : b < B := Nat.lt_of_lt_of_le (World.block_lt_of_cell? _ _ h1) hB
  exact ⟨(hb.cell (p := ⟨b, _, none⟩) hlt).trans h1, ⟨fv, (hb.cell (p := ⟨b, _, none⟩) hlt).trans h2, h3.below hb hB⟩, (hb.cell (p := ⟨b, _, none⟩) hlt).trans h4, (hb.cell (p := ⟨b, _, none⟩) hlt).trans h5⟩
/-- A slice of messages. -/
def Lts (w : World) (v : Value) (l : List Lt) : Prop :=
  ∃ a c, v = .slice a l.length c ∧ ((a = none → c = 0) ∧ l.length ≤ c ∧ c ≤ 9223372036854775807) ∧ (l = [] ∨ ∃ b o, a = some ⟨b, o, none⟩ ∧ ∀ (j : Nat) x, l[j]? = some x → LtAt w b (o + j * 4) x)
theorem Lts.below {w w' : World} {v : Value} {B : Nat} {l : List Lt} (h : Lts w v l) (hb : Below B w w') (hB : w.heap.size ≤ B) : Lts w' v l := by
  obtain ⟨a, c, h1, h0, h2⟩ := h
  refine ⟨a, c, h1, h0, ?_⟩
  rcases h2 with h2 | ⟨b, o, h3, h4⟩
  · exact Or.inl h2
  · exact Or.inr ⟨b, o, h3, fun j x hj => (h4 j x hj).below hb hB⟩
theorem Lts.nil (w : World) : Lts w (.slice none 0 0) [] := ⟨none, 0, rfl, ⟨fun _ => rfl, Nat.le_refl _, by decide⟩, Or.inl rfl⟩
/-- A box in memory: its own number, the next one's, messages. -/
def BoxAt (w : World) (bb : Nat) (v n : Int) (l : List Lt) : Prop := ∃ lv, w.heap[bb]? = some (.cells #[.int .i64 v, .int .i64 n, lv] 72 (0, 0)) ∧ Lts w lv l
/-- What turns nothing but block b, below base; what was laid anew stays as it is. -/
theorem BoxAt.below {w w' : World} {bb B : Nat} {v n : Int} {l : List Lt} (h : BoxAt w bb v n l) (hb : Below B w w') (hB : w.heap.size ≤ B) : BoxAt w' bb v n l := by
  obtain ⟨lv, h1, h2⟩ := h
  exact ⟨lv, (hb.block bb (Nat.lt_of_lt_of_le (Array.getElem?_eq_some_iff.1 h1).1 hB)).trans h1, h2.below hb hB⟩
/-- A box whose messages lie in a row that was laid at B or behind it. -/
def BoxNew (B : Nat) (w : World) (bb : Nat) (v n : Int) (l : List Lt) : Prop := ∃ lv, w.heap[bb]? = some (.cells #[.int .i64 v, .int .i64 n, lv] 72 (0, 0)) ∧ Lts w lv l ∧ ∀ q, lv.ownBlock = some q → B ≤ q
theorem BoxNew.at {B : Nat} {w : World} {bb : Nat} {v n : Int} {l : List Lt} (h : BoxNew B w bb v n l) : BoxAt w bb v n l := by
  obtain ⟨lv, h1, h2, _⟩ := h
  exact ⟨lv, h1, h2⟩
theorem BoxAt.lt {w : World} {bb : Nat} {v n : Int} {l : List Lt} (h : BoxAt w bb v n l) : bb < w.heap.size := by
  obtain ⟨lv, h1, _⟩ := h
  exact (Array.getElem?_eq_some_iff.1 h1).1
end Go.Proofs.YtfdlopimncodcaaGreatDoor
-- PRUNED
/-
  Where a message stands in a box: cmp.Compare of numbers, slices.BinarySearchFunc over messages, Find.
-/
namespace Go.Proofs.YtfdlopimncodcaaGreatDoor
open Go.RowKit Go.Proofs.Aid Go.Proofs.Bx

def cmpI (a b : Int) : Int := if a < b then -1 else if b < a then 1 else 0
theorem isNaN_int (a : Int) (w : World) : Calls Tryz.prog 224 #[.int .i64 a] w fun e w' => e = .returned (.bool false) ∧ w' = w := by
  go_enter Tryz.func224, Tryz.ntmps224
  go_wp2_with fail
  go_ret
  exact ⟨by simp, rfl⟩
set_option maxHeartbeats 1000000 in
theorem compare_int (a b : Int) (w : World) : Calls Tryz.prog 203 #[.int .i64 a, .int .i64 b] w fun e w' => e = .returned (.int .i64 (cmpI a b)) ∧ w' = w := by
  have c1 := fun W => isNaN_int a W
  have c2 := fun W => isNaN_int b W
  unfold cmpI
  by_cases h1 : a < b
  · rw [if_pos h1]
    have d1 : decide (a < b) = true := decide_eq_true h1
    go_enter Tryz.func203, Tryz.ntmps203
    go_wp2_with fail
    refine (c1 _).mono ?_
    rintro e w1 ⟨rfl, hw⟩
    obtain rfl : w = w1 := hw.symm
    go_wp2_with fail
    refine (c2 _).mono ?_
    rintro e w1 ⟨rfl, hw⟩
    obtain rfl : w = w1 := hw.symm
    go_wp2_with fail
    go_ret
    exact ⟨rfl, rfl⟩
  · rw [if_neg h1]
    have d1 : decide (a < b) = false := decide_eq_false h1
    by_cases h2 : b < a
    · rw [if_pos h2]
      have d2 : decide (b < a) = true := decide_eq_true h2
      go_enter Tryz.func203, Tryz.ntmps203
      go_wp2_with fail
      refine (c1 _).mono ?_
      rintro e w1 ⟨rfl, hw⟩
      obtain rfl : w = w1 := hw.symm
      go_wp2_with fail
      refine (c2 _).mono ?_
      rintro e w1 ⟨rfl, hw⟩
      obtain rfl : w = w1 := hw.symm
      go_wp2_with fail
      go_ret
      exact ⟨rfl, rfl⟩
    · rw [if_neg h2]
      have d2 : decide (b < a) = false := decide_eq_false h2
      go_enter Tryz.func203, Tryz.ntmps203
      go_wp2_with fail
      refine (c1 _).mono ?_
      rintro e w1 ⟨rfl, hw⟩
      obtain rfl : w = w1 := hw.symm
      go_wp2_with fail
      refine (c2 _).mono ?_
      rintro e w1 ⟨rfl, hw⟩
      obtain rfl : w = w1 := hw.symm
      go_wp2_with fail
      go_ret
      exact ⟨rfl, rfl⟩
theorem cmpI_neg (a b : Int) : cmpI a b < 0 ↔ a < b := by unfold cmpI; split <;> (try split) <;> omega
theorem cmpI_zero (a b : Int) : cmpI a b = 0 ↔ a = b := by unfold cmpI; split <;> (try split) <;> omega
end Go.Proofs.YtfdlopimncodcaaGreatDoor
