/-
  The document's answer on flags in order: how often each text was said, as a map reads. Of no program.
-/
import Derived.Test.YtneipabooahihaaGreatDoorFlagsLaws
import Derived.Maps.OwnSet
namespace Go.Proofs.Fl
open Go.Maps

/-- The map tells how often each text was said. -/
def Cnt (D : DataW Unit) (m : List Tx) (n : Nat) : Prop :=
  IsMap D ∧ ∀ t : Tx, ∃ c : Int, D.atKey (.string t) (.lit (.int .i64 0)) = .lit (.int .i64 c) ∧ 0 ≤ c ∧ c ≤ n ∧ (0 < c ↔ t ∈ m) ∧ (Maps.has D (.string t) = true ↔ t ∈ m)
theorem cnt_start : Cnt (.map []) [] 0 := ⟨isMap_empty, fun t => ⟨0, rfl, by omega, by omega, by simp, by simp [Maps.has]⟩⟩
theorem str_ne {a b : Tx} (h : a ≠ b) : (Lit.string a) ≠ .string b := fun e => h (by cases e; rfl)
theorem cnt_put {D : DataW Unit} {m : List Tx} {n : Nat} {t : Tx} {c : Int} (h : Cnt D m n) (hc : D.atKey (.string t) (.lit (.int .i64 0)) = .lit (.int .i64 c)) : Cnt (D.put (.string t) (.lit (.int .i64 (c + 1)))) (m ++ [t]) (n + 1) := by
  obtain ⟨h1, h2⟩ := h
  refine ⟨h1.put _ _, fun u => ?_⟩
  by_cases hu : u = t
  · subst hu
    obtain ⟨c', e1, e2, e3, e4, e5⟩ := h2 u
    obtain rfl : c = c' := by rw [hc] at e1; cases e1; rfl
    refine ⟨c + 1, atKey_put_same h1 (by first | trivial | simp [WideAt.IsKeyLit] | decide) _ _, by omega, by omega, ?_, ?_⟩
    · simp; omega
    · rw [has_put_same h1 (by first | trivial | simp [WideAt.IsKeyLit] | decide)]; simp
  · obtain ⟨c', e1, e2, e3, e4, e5⟩ := h2 u
    refine ⟨c', by rw [atKey_put_other (str_ne hu)]; exact e1, e2, by omega, ?_, ?_⟩
    · rw [e4]; simp [hu]
    · rw [has_put_other (str_ne hu), e5]; simp [hu]
theorem cnt_del {D : DataW Unit} {m : List Tx} {n : Nat} {t : Tx} (h : Cnt D m n) : Cnt (D.del (.string t)) (m.filter fun u => decide (u ≠ t)) n := by
  obtain ⟨h1, h2⟩ := h
  refine ⟨h1.del _, fun u => ?_⟩
  by_cases hu : u = t
  · subst hu
    refine ⟨0, atKey_del_same _, by omega, by omega, by simp, ?_⟩
    rw [has_del_same]; simp
  · obtain ⟨c', e1, e2, e3, e4, e5⟩ := h2 u
    refine ⟨c', by rw [atKey_del_other (str_ne hu)]; exact e1, e2, e3, ?_, ?_⟩
    · rw [e4]; simp [hu]
    · rw [has_del_other (str_ne hu), e5]; simp [hu]
theorem rank_other {x : Tx} (h : x ∉ five) : rank x = 5 := by unfold rank; rw [List.idxOf_eq_length h]; rfl
theorem rank_five {x : Tx} (h : x ∈ five) : rank x < 5 := by
  have := List.idxOf_lt_length_of_mem h
  exact this
theorem five_ord : Ord five := by unfold Fl.Ord; decide
/-- First those of the five, then the others, byte by byte. -/
theorem ord_parts {l ss : List Tx} (hnd : ss.Nodup) (hm : ∀ x, x ∈ ss ↔ x ∈ l ∧ x ∉ five) : (five.filter fun t => decide (t ∈ l)) ++ (ss.mergeSort fun x y => decide (x ≤ y)) = order l := by
  have hmem : ∀ x, x ∈ (ss.mergeSort fun x y => decide (x ≤ y)) ↔ x ∈ l ∧ x ∉ five := fun x => by rw [List.mem_mergeSort]; exact hm x
  refine ord_eq ?_ (order_ord l) fun x => ?_
  · unfold Fl.Ord
    rw [List.pairwise_append]
    refine ⟨ord_filter five_ord _, ?_, ?_⟩
    · have hp := List.pairwise_mergeSort (le := fun x y : Tx => decide (x ≤ y)) (fun a b c h1 h2 => by
        simp only [decide_eq_true_eq] at h1 h2 ⊢; exact List.le_trans h1 h2) (fun a b => by
        simp only [Bool.or_eq_true, decide_eq_true_eq]; exact List.le_total a b) ss
      have hn : (ss.mergeSort fun x y => decide (x ≤ y)).Nodup := (List.mergeSort_perm ss _).nodup_iff.2 hnd
      refine List.Pairwise.imp_of_mem ?_ (List.Pairwise.and hp hn)
      intro a b ha hb hab
      have h1 := rank_other ((hmem a).1 ha).2
      have h2 := rank_other ((hmem b).1 hb).2
      unfold flt
      rw [h1, h2]
      have hle : a ≤ b := by simpa using hab.1
      have hne : a ≠ b := hab.2
      have hlt : a < b := by
        by_cases h : a < b
        · exact h
        · exact absurd (tx_total h (List.not_lt.2 hle)) hne
      simp [hlt]
    · intro a ha b hb
      have h1 := rank_five (List.mem_filter.1 ha).1
      have h2 := rank_other ((hmem b).1 hb).2
      unfold flt
      rw [h2]
      simp [h1]
  · rw [List.mem_append, hmem, order_mem, List.mem_filter, decide_eq_true_eq]
    by_cases hx : x ∈ five <;> simp [hx]
end Go.Proofs.Fl
