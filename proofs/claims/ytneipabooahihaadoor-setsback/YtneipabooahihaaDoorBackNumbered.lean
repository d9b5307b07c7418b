/-
  What letterboxkeep.numbered does: it is true.
-/
import Derived.Test.YtneipabooahihaaDoorSeqParse
import Derived.Test.YtneipabooahihaaDoorSeqHas
import Derived.Test.YtneipabooahihaaDoorSeqOf
namespace Go.Proofs.YtneipabooahihaaDoor
open Go.RowKit Go.Proofs.Aid Go.Proofs.Sq

theorem numbered_read : readSet [50, 58, 51, 44, 55, 58, 42] = .ok [(2, 3), (7, 0)] := by
  have h : between 44 [50, 58, 51, 44, 55, 58, 42] = [[50, 58, 51], [55, 58, 42]] := by decide
  have h1 : rangeOf [50, 58, 51] = some (2, 3) := by decide
  have h2 : rangeOf [55, 58, 42] = some (7, 0) := by decide
  unfold readSet
  rw [h]
  simp [readFrom, h1, h2]
theorem ig_new (w : World) (zs : List Int) (t : TypeId) : Ig (w.alloc (.cells (zs.map (Value.int .i64)).toArray t)) (.slice (some ⟨w.heap.size, 0, none⟩) zs.length zs.length) zs := by
  refine ⟨_, _, rfl, Or.inr ⟨_, _, rfl, fun j z hj => ?_⟩⟩
  have := World.news_of_block (heap_alloc_new w (.cells (zs.map (Value.int .i64)).toArray t)) j (.int .i64 z) (by simp [hj])
  simpa [Addr.add_lit] using this
set_option maxHeartbeats 1000000 in
set_option maxRecDepth 100000 in
theorem numbered_any (m : Int) (w : World) (hm : w.cell? ⟨3, 0, none⟩ = some (.int .i64 m)) :
    Calls Tryd.prog 15 #[] w fun e w' => e = .returned (.bool true) ∧ Below w.heap.size w w' := by
  have cP := parse_any ⟨#[50, 58, 51, 44, 55, 58, 42]⟩ m w (by decide) hm
  rw [show (⟨#[50, 58, 51, 44, 55, 58, 42]⟩ : ByteArray).data.toList = [50, 58, 51, 44, 55, 58, 42] from rfl, numbered_read] at cP
  go_enter Tryd.func15, Tryd.ntmps15
  go_wp2_with fail
  refine cP.mono ?_
  rintro e w1 ⟨hb1, ⟨h, _⟩ | ⟨h, _⟩ | ⟨l, v, hl, hle, rfl, hrow⟩⟩
  · cases h
  · cases h
  cases hl
  have hrg : Rg w1 v [(2, 3), (7, 0)] := rg_of_row hrow
  have c3 := fun W (hb : Below w1.heap.size w1 W) => has_any v [(2, 3), (7, 0)] 3 9 W (hrg.below hb (Nat.le_refl _)) (by decide)
  have c8 := fun W (hb : Below w1.heap.size w1 W) => has_any v [(2, 3), (7, 0)] 8 9 W (hrg.below hb (Nat.le_refl _)) (by decide)
  have c4 := fun W (hb : Below w1.heap.size w1 W) => has_any v [(2, 3), (7, 0)] 4 9 W (hrg.below hb (Nat.le_refl _)) (by decide)
  rw [show hasSet 3 9 [(2, 3), (7, 0)] = true by decide] at c3
  rw [show hasSet 8 9 [(2, 3), (7, 0)] = true by decide] at c8
  rw [show hasSet 4 9 [(2, 3), (7, 0)] = false by decide] at c4
  obtain ⟨va, vc, rfl⟩ := row_form hrow
  go_wp2_with fail
  refine (c3 _ (Below.refl _ _)).mono ?_
  rintro e w2 ⟨rfl, hb2⟩
  go_wp2_with fail
  refine (c8 _ hb2).mono ?_
  rintro e w3 ⟨rfl, hb3⟩
  have hb13 := hb2.trans (hb3.mono hb2.size)
  go_wp2_with fail
  refine (c4 _ hb13).mono ?_
  rintro e w4 ⟨rfl, hb4⟩
  have hb14 := hb13.trans (hb4.mono hb13.size)
  have cO := of_any _ [1, 2, 5] _ (ig_new w4 [1, 2, 5] 3) (by decide) (by decide) (by decide)
  rw [show ofL [1, 2, 5] = [(1, 2), (5, 5)] by decide] at cO
  go_wp2_with fail
  refine cO.mono ?_
  rintro e w5 ⟨⟨v5, rfl, hrow5⟩, hb5⟩
  obtain ⟨va5, vc5, rfl⟩ := row_form hrow5
  go_wp2
  go_ret
  refine ⟨rfl, ?_⟩
  have hbA := hb1.trans (hb14.mono hb1.size)
  have hbB := hbA.alloc hbA.size (.cells ([1, 2, 5].map (Value.int .i64)).toArray 3)
  exact hbB.trans (hb5.mono hbB.size)
end Go.Proofs.YtneipabooahihaaDoor
