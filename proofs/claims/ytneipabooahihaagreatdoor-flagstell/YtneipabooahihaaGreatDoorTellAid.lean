/-
  What FlagsTell holds against each other, in one word each.
-/
import Derived.Test.YtneipabooahihaaGreatDoorRefSet
import Derived.Test.YtneipabooahihaaGreatDoorRefLists
import Derived.Test.YtneipabooahihaaGreatDoorRefSame
import Derived.Test.YtneipabooahihaaGreatDoorLawTexts
import Derived.Test.YtneipabooahihaaGreatDoorBare
import Derived.Test.YtneipabooahihaaGreatDoorFlagsPrint
import Derived.Test.YtneipabooahihaaGreatDoorFlagsNot
namespace Go.Proofs.YtneipabooahihaaGreatDoor
open Go.RowKit Go.Proofs.Aid Go.Proofs.Fl Go.Sort Go.Lib

/-- The error that a number tells. -/
def ErrIs (v : Value) (n : Int) : Prop := (n = 0 ∧ v = .nilIface) ∨ (n ≠ 0 ∧ v = .iface 24 (.int .i64 n))
theorem bare_is (v : Value) (n : Int) (w : World) (h : ErrIs v n) (hg : ErrType w) : Calls Tryz.prog 7 #[v, .int .i64 n] w fun ev w' => ev = .returned (.bool true) ∧ Below w.heap.size w w' := by
  rcases h with ⟨rfl, rfl⟩ | ⟨_, rfl⟩
  · exact bare_nil 0 w
  · have := bare_err n n w hg
    rw [show (n == n) = true by simp] at this
    exact this
theorem fname_err {s : Tx} (h : (fname s).2 ≠ 0) : (fname s).1 = [] := by
  unfold fname at h ⊢
  split at h
  · next h1 =>
    rw [if_pos h1]
    split at h
    · exact absurd rfl h
    · rfl
  · next h1 =>
    rw [if_neg h1]
    split at h
    · next h2 => rw [if_pos h2]
    · next h2 =>
      rw [if_neg h2]
      split at h
      · next h3 => rw [if_pos h3]
      · exact absurd rfl h
theorem fname_empty {s : Tx} (h : (fname s).1 = []) : (fname s).2 ≠ 0 := by
  intro h0
  have h1 := fname_own s h0
  rw [h] at h1
  exact absurd h1 (by unfold Own fname; decide)
theorem setOf_err {l : List Tx} (h : (setOf l).2 ≠ 0) : (setOf l).1 = [] := by
  unfold Fl.setOf at h ⊢
  split at h
  · next h1 => rw [if_pos h1]
  · next h1 =>
    rw [if_neg h1]
    split at h
    · next h2 => rw [if_pos h2]
    · exact absurd rfl h
theorem setOf_good (l : List Tx) : Ord (setOf l).1 ∧ (∀ s ∈ (setOf l).1, Own s) ∧ (setOf l).1.length ≤ 12 := by
  by_cases h : (setOf l).2 = 0
  · exact setOf_own h
  · rw [setOf_err h]
    exact ⟨List.Pairwise.nil, by simp, by simp⟩
theorem name_is (s n : ByteArray) (w : World) (hs : s.size ≤ 1000000) (hg : SysAt w) (hn : n.data.toList = (fname s.data.toList).1) :
    Calls Tryz.prog 19 #[.string s] w fun e w' => (∃ v, e = .returned (.tuple #[.string n, v]) ∧ ErrIs v (fname s.data.toList).2) ∧ ∃ q, w' = w.drewN q := by
  refine (name_any s w hs hg (fun W => Tryz.strings_HasPrefix s ⟨#[92]⟩ W)).mono ?_
  rintro e w' ⟨⟨h0, m, hm, rfl⟩ | ⟨h0, rfl⟩, q, rfl⟩
  · obtain rfl : m = n := ba_eq (by rw [hm, hn])
    exact ⟨⟨_, rfl, Or.inl ⟨h0, rfl⟩⟩, q, rfl⟩
  · obtain rfl : n = ⟨#[]⟩ := ba_eq (by rw [hn, fname_err h0])
    exact ⟨⟨_, rfl, Or.inr ⟨h0, rfl⟩⟩, q, rfl⟩
theorem set_is (v : Value) (l : List Tx) (w : World) (h : Sl w v l) (hl : l.length ≤ 400) (hs : ∀ t ∈ l, t.length ≤ 1000000) (hg : SysAt w) :
    Calls Tryz.prog 21 #[v] w fun e w' => (∃ v' u, e = .returned (.tuple #[v', u]) ∧ Sl w' v' (setOf l).1 ∧ ErrIs u (setOf l).2) ∧ Below w.heap.size w w' := by
  refine (set_any v l w h hl hs hg).mono ?_
  rintro e w' ⟨⟨h0, v', rfl, hv⟩ | ⟨h0, rfl⟩, hb⟩
  · exact ⟨⟨_, _, rfl, hv, Or.inl ⟨h0, rfl⟩⟩, hb⟩
  · exact ⟨⟨_, _, rfl, by rw [setOf_err h0]; exact ⟨none, 0, rfl, ⟨fun _ => rfl, Nat.le_refl _⟩, Or.inl rfl⟩, Or.inr ⟨h0, rfl⟩⟩, hb⟩
theorem same_is (va vb : Value) (x : List Tx) (w : World) (ha : Sl w va x) (hb : Sl w vb x) (hx : x.length ≤ 1000) :
    Calls Tryz.prog 22 #[va, vb] w fun e w' => e = .returned (.bool true) ∧ Below w.heap.size w w' := by
  refine (same_texts va vb x x w ha hb hx hx).mono ?_
  rintro e w' ⟨rfl, q, rfl⟩
  exact ⟨by simp, below_drewN (Below.refl _ _) q⟩
theorem not_is {x y : List Tx} (h : Ord x) : order (without x (order y)) = without x y := by
  have e : without x (order y) = without x y := by
    unfold without
    refine List.filter_congr fun z _ => ?_
    congr 1
    rw [Bool.eq_iff_iff]
    simp [order_mem]
  rw [e]
  exact order_of_ord (ord_filter h _)
theorem own_short {s : Tx} (h : Own s) : s.length ≤ 20 := by
  unfold Own fname at h
  split at h
  · next h1 =>
    cases hf : five.find? (sameL s) with
    | none => rw [hf] at h; simp at h
    | some n =>
      rw [hf] at h
      have hn : n = s := congrArg Prod.fst h
      have hm := List.mem_of_find?_eq_some hf
      rw [← hn]
      have : n = five[0] ∨ n = five[1] ∨ n = five[2] ∨ n = five[3] ∨ n = five[4] := by simpa [five] using hm
      rcases this with rfl | rfl | rfl | rfl | rfl <;> decide
  · split at h
    · have := congrArg Prod.snd h; simp at this
    · split at h
      · have := congrArg Prod.snd h; simp at this
      · omega
theorem tail_len : ∀ (r : List Tx), (∀ s ∈ r, s.length ≤ 20) → (joinTail [32] r).length ≤ 21 * r.length
  | [], _ => by simp [joinTail]
  | x :: r, h => by
    have h1 := tail_len r (fun s hs => h s (List.mem_cons_of_mem _ hs))
    have h2 := h x List.mem_cons_self
    have e : joinTail [32] (x :: r) = 32 :: (x ++ joinTail [32] r) := by simp [joinTail]
    rw [e]
    simp only [List.length_cons, List.length_append]
    omega
theorem join_short {l : List Tx} (h : ∀ s ∈ l, Own s) (hl : l.length ≤ 12) : (Lib.join l [32]).length ≤ 1000000 := by
  cases l with
  | nil => rw [Lib.join_nil]; simp
  | cons x r =>
    rw [Lib.join_cons, List.length_append]
    have h1 := own_short (h x List.mem_cons_self)
    have h2 := tail_len r (fun s hs => own_short (h s (List.mem_cons_of_mem _ hs)))
    simp only [List.length_cons] at hl
    omega
/-- What Has says, in the document's words. -/
theorem has_is (l : List Tx) (s : Tx) : hasF l s = (decide ((fname s).1 ≠ []) && l.contains (fname s).1) := by
  unfold hasF
  congr 1
  rw [Bool.eq_iff_iff, decide_eq_true_eq, decide_eq_true_eq]
  exact ⟨fun h0 h1 => fname_empty h1 h0, fun h => Classical.byContradiction fun h0 => h (fname_err h0)⟩
end Go.Proofs.YtneipabooahihaaGreatDoor
