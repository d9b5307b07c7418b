/-
  slices.Sort, slices.Compact and slices.BinarySearch at a row of numbers that the call owns.
-/
import Derived.Test.YtneipabooahihaaDoorBackShelf
import Derived.Test.YtneipabooahihaaDoorSeqOf
import Derived.Lib.OwnBridge
import Derived.Lib.RowBridge
import Derived.Lib.AppendIntMem
namespace Go.Proofs.YtneipabooahihaaDoor
open Go.RowKit Go.Proofs.Aid Go.Proofs.Sq Go.Sort Go.Lib

def srt (zs : List Int) : List Int := zs.mergeSort fun x y => decide (x ≤ y)
theorem srt_length (zs : List Int) : (srt zs).length = zs.length := by simp [srt, List.length_mergeSort]
theorem srt_sorted (zs : List Int) : (srt zs).Pairwise (· ≤ ·) := by
  have h := List.pairwise_mergeSort (le := fun x y : Int => decide (x ≤ y)) (fun a b c h1 h2 => by simp only [decide_eq_true_eq] at h1 h2 ⊢; omega) (fun a b => by simp only [Bool.or_eq_true, decide_eq_true_eq]; omega) zs
  exact h.imp (fun h => by simpa using h)
theorem srt_mem (zs : List Int) (z : Int) : z ∈ srt zs ↔ z ∈ zs := List.mem_mergeSort
/-- Of sorted numbers those that stay rise. -/
theorem compact_rises (zs : List Int) (h : zs.Pairwise (· ≤ ·)) : (Lib.compact zs).Pairwise (· < ·) := by
  unfold Lib.compact Lib.compactUpTo
  rw [List.pairwise_map]
  have hle : ∀ i j, i ≤ j → j < zs.length → zs.toArray[i]! ≤ zs.toArray[j]! := by
    intro i j hij hj
    have hi : i < zs.length := by omega
    simp only [List.getElem!_toArray]
    rw [getElem!_pos zs i hi, getElem!_pos zs j hj]
    rcases Nat.lt_or_eq_of_le hij with h1 | rfl
    · exact List.pairwise_iff_getElem.1 h i j hi hj h1
    · exact Int.le_refl _
  have hr : ((List.range zs.length).filter (Lib.keeps zs.toArray)).Pairwise (· < ·) := List.Pairwise.filter _ List.pairwise_lt_range
  refine List.Pairwise.imp_of_mem ?_ hr
  intro i j hi hj hij
  rw [List.mem_filter, List.mem_range] at hi hj
  have hk : zs.toArray[j]! ≠ zs.toArray[j - 1]! := by
    have := hj.2
    unfold Lib.keeps at this
    rw [decide_eq_true_eq] at this
    rcases this with h0 | h0
    · omega
    · exact h0
  have h1 := hle i (j - 1) (by omega) (by omega)
  have h2 := hle (j - 1) j (by omega) hj.1
  omega
theorem compact_mem (zs : List Int) (z : Int) (h : z ∈ Lib.compact zs) : z ∈ zs := by
  unfold Lib.compact Lib.compactUpTo at h
  obtain ⟨j, hj, rfl⟩ := List.mem_map.1 h
  rw [List.mem_filter, List.mem_range] at hj
  simp only [List.getElem!_toArray]
  rw [getElem!_pos zs j hj.1]
  exact List.getElem_mem _
theorem rising_of : ∀ (l : List Int) (b : Int), (∀ z ∈ l, b < z) → l.Pairwise (· < ·) → rising b l = true
  | [], _, _, _ => rfl
  | z :: l, b, h, hp => by
    rw [List.pairwise_cons] at hp
    simp only [rising, Bool.and_eq_true, decide_eq_true_eq]
    exact ⟨h z (by simp), rising_of l z hp.1 hp.2⟩
abbrev ints (zs : List Int) : List Value := zs.map (Value.int .i64)

theorem below_grow2 {B : Nat} {w0 w : World} (h : Below B w0 w) (hB : B ≤ w.heap.size) (os : Array Obj) : Below B w0 (grow w os) := by
  have := Lib.below_grow B w hB 0 os
  exact h.trans this
theorem row_grow {w : World} {base e size n : Nat} {v : Value} {xs : List Value} (h : w.ownsRow base e size v n xs) (os : Array Obj) : (grow w os).ownsRow base e size v n xs :=
  row_below (B := w.heap.size) (Lib.below_grow w.heap.size w (Nat.le_refl _) 0 os) (Nat.le_refl _) h

theorem sort_row (base : Nat) (v : Value) (zs : List Int) (w : World) (h : w.ownsRow base 3 1 v zs.length (ints zs)) (hB : base ≤ w.heap.size) (hl : zs.length ≤ 1000) :
    Calls Tryd.prog 22 #[v] w fun e w' => e = .returned (.tuple #[]) ∧ w'.ownsRow base 3 1 v (srt zs).length (ints (srt zs)) ∧ Below base w w' := by
  by_cases hv : v = .slice none 0 0
  · subst hv
    have hz : zs = [] := by
      rcases h.2 with ⟨_, h2⟩ | ⟨g, cap, cur, h2, _⟩
      · exact List.eq_nil_of_length_eq_zero h2
      · cases h2
    subst hz
    refine (AnyM.slices_Sort_int_none Tryd.laysSlM5_f22 none 0 w).mono ?_
    rintro e w' ⟨rfl, rfl⟩
    exact ⟨rfl, by rw [show srt [] = [] by simp [srt]]; exact World.ownsRow_nil _ _ _ _, Below.refl _ _⟩
  · obtain ⟨g, cap, rfl, hg, hlt, hc, hm, _, hH⟩ := Lib.holds_of_ownsRow h hv
    refine (Tryd.slices_Sort_int g 0 cap zs w hH hlt (by omega)).mono ?_
    rintro e w' ⟨rfl, n, os, rfl⟩
    have h1 := Lib.ownsRow_putRow (q := n) (ys := srt zs) (k := zs.length) h (srt_length zs) (Nat.le_refl _)
    rw [List.take_of_length_le (by rw [srt_length]; exact Nat.le_refl _)] at h1
    refine ⟨rfl, ?_, below_grow2 (Lib.below_putRow (Below.refl _ _) hg) (by simp [putRow, mapBlock, Sort.ahead]; exact hB) os⟩
    rw [srt_length]
    exact row_grow h1 os
theorem compact_row (base : Nat) (v : Value) (zs : List Int) (w : World) (h : w.ownsRow base 3 1 v zs.length (ints zs)) (hl : zs.length ≤ 1000) :
    Calls Tryd.prog 23 #[v] w fun e w' => (∃ v', e = .returned v' ∧ w'.ownsRow base 3 1 v' (Lib.compact zs).length (ints (Lib.compact zs))) ∧ Below base w w' := by
  by_cases hv : v = .slice none 0 0
  · subst hv
    have hz : zs = [] := by
      rcases h.2 with ⟨_, h2⟩ | ⟨g, cap, cur, h2, _⟩
      · exact List.eq_nil_of_length_eq_zero h2
      · cases h2
    subst hz
    refine (Tryd.slices_Compact_int_empty none 0 w).mono ?_
    rintro e w' ⟨rfl, rfl⟩
    exact ⟨⟨_, rfl, World.ownsRow_nil _ _ _ _⟩, Below.refl _ _⟩
  · obtain ⟨g, cap, rfl, hg, hlt, hc, hm, _, hH⟩ := Lib.holds_of_ownsRow h hv
    refine (Tryd.slices_Compact_int g 0 cap zs w hH (by omega) hc).mono ?_
    rintro e w' ⟨rfl, q, rfl⟩
    have hcl := Lib.compact_length_le zs
    have h1 := Lib.ownsRow_putRow (q := q) (ys := Lib.compact zs ++ List.replicate (zs.length - (Lib.compact zs).length) 0) (k := (Lib.compact zs).length) h (by simp; omega) hcl
    rw [List.take_left] at h1
    exact ⟨⟨_, rfl, h1⟩, Lib.below_putRow (Below.refl _ _) hg⟩
set_option maxHeartbeats 1000000 in
set_option maxRecDepth 100000 in
theorem search_nil (x : Int) (w : World) : Calls Tryd.prog 25 #[.slice none 0 0, .int .i64 x] w fun e w' => (∃ i, e = .returned (.tuple #[i, .bool false])) ∧ Below w.heap.size w w' := by
  go_enter Tryd.func25, Tryd.ntmps25
  go_wp2
  go_loopw [7, 8] (fun i j wr => i = .int .i64 0 ∧ j = .int .i64 0 ∧ wr = w) (fun _ _ _ => 0)
  case atStart => exact ⟨rfl, rfl, rfl⟩
  case round =>
    obtain ⟨rfl, rfl, rfl⟩ := hrel
    go_wp2
    go_ret2
    exact ⟨⟨_, rfl⟩, Below.refl _ _⟩
theorem search_row (base : Nat) (v : Value) (zs : List Int) (x : Int) (w : World) (h : w.ownsRow base 3 1 v zs.length (ints zs)) (hl : zs.length ≤ 1000) (hs : zs.Pairwise (· ≤ ·)) :
    Calls Tryd.prog 25 #[v, .int .i64 x] w fun e w' => (∃ i, e = .returned (.tuple #[i, .bool (zs.contains x)])) ∧ Below w.heap.size w w' := by
  by_cases hv : v = .slice none 0 0
  · subst hv
    have hz : zs = [] := by
      rcases h.2 with ⟨_, h2⟩ | ⟨g, cap, cur, h2, _⟩
      · exact List.eq_nil_of_length_eq_zero h2
      · cases h2
    subst hz
    exact search_nil x w
  · obtain ⟨g, cap, rfl, hg, hlt, hc, hm, _, hH⟩ := Lib.holds_of_ownsRow h hv
    refine (Tryd.slices_BinarySearch_int g 0 zs.length cap zs x w (Nat.le_refl _) (by omega) (fun j hj => ?_) (by rw [List.take_length]; exact hs)).mono ?_
    · have := (hH j (by simpa using hj)).1
      rw [this]
      simp [List.getD_eq_getElem?_getD, getElem!_pos, hj]
    · rintro e w' ⟨rfl, q, rfl⟩
      rw [List.take_length]
      exact ⟨⟨_, rfl⟩, below_drewN (Below.refl _ _) _⟩
end Go.Proofs.YtneipabooahihaaDoor
