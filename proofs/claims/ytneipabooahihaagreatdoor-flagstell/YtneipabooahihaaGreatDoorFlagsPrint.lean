/-
  flags.Print.
-/
import Derived.Test.YtneipabooahihaaGreatDoorFlagsSet
import Derived.Test.YtneipabooahihaaGreatDoorJoinShelf
namespace Go.Proofs.YtneipabooahihaaGreatDoor
open Go.RowKit Go.Proofs.Aid Go.Proofs.Fl Go.Sort Go.Lib

/-- How flags are written. -/
def printed (l : List Tx) : Tx := 40 :: (Lib.join l [32] ++ [41])
theorem join_txs (v : Value) (l : List Tx) (w : World) (h : Sl w v l) (hl : l.length ≤ 1000) (hj : (Lib.join l [32]).length ≤ 1000000) :
    Calls Tryz.prog 60 #[v, .string ⟨#[32]⟩] w fun e w' => e = .returned (.string ⟨(Lib.join l [32]).toArray⟩) ∧ Below w.heap.size w w' := by
  obtain ⟨a, c, rfl, h0, ha⟩ := h
  have hc := h0.2
  rcases ha with rfl | ⟨b, o, rfl, hat⟩
  · refine (Tryz.strings_Join_none a c ⟨#[32]⟩ w).mono ?_
    rintro e w' ⟨rfl, rfl⟩
    exact ⟨rfl, Below.refl _ _⟩
  · have hm : (bas l).map (·.data.toList) = l := by simp [bas, Function.comp_def]
    by_cases hz : l = []
    · subst hz
      refine (Tryz.strings_Join_none _ c ⟨#[32]⟩ w).mono ?_
      rintro e w' ⟨rfl, rfl⟩
      exact ⟨rfl, Below.refl _ _⟩
    have hblk : b < w.heap.size := by
      have : 0 < l.length := List.length_pos_iff.2 hz
      exact World.block_lt_of_cell? _ _ (hat 0 _ (List.getElem?_eq_getElem this))
    have := Tryz.strings_Join b o c (bas l) ⟨#[32]⟩ w (fun j x hj => by
      unfold bas at hj
      rw [List.getElem?_map, Option.map_eq_some_iff] at hj
      obtain ⟨t, ht, rfl⟩ := hj
      exact hat j t ht) hblk (by rw [bas_length]; omega) (by rw [bas_length]; exact hc) (by rw [hm]; exact Nat.le_trans hj (by decide))
    rw [hm, bas_length] at this
    exact this
theorem print_txs (v : Value) (l : List Tx) (w : World) (h : Sl w v l) (hl : l.length ≤ 1000) (hj : (Lib.join l [32]).length ≤ 1000000) :
    Calls Tryz.prog 27 #[v] w fun e w' => (∃ s : ByteArray, e = .returned (.string s) ∧ s.data.toList = printed l) ∧ Below w.heap.size w w' := by
  have cJ := join_txs v l w h hl hj
  obtain ⟨t, ht⟩ : ∃ t : ByteArray, ⟨(Lib.join l [32]).toArray⟩ = t := ⟨_, rfl⟩
  have htl : t.data.toList = Lib.join l [32] := by rw [← ht]
  have hts : t.size ≤ 1000000 := by rw [← ht]; simpa [ByteArray.size] using hj
  have HT : Hid (t.data.toList = Lib.join l [32]) := htl
  rw [ht] at cJ
  clear ht htl h
  go_enter Tryz.func27, Tryz.ntmps27
  go_wp2_with fail
  refine cJ.mono ?_
  rintro e w1 ⟨rfl, hb1⟩
  go_wp2_with fail
  go_ret
  refine ⟨⟨_, rfl, ?_⟩, hb1⟩
  unfold printed
  rw [← HT.out]
  simp
end Go.Proofs.YtneipabooahihaaGreatDoor
