/-
  All boxes' names, in order.
-/
import Derived.Test.YtfdlopimncodcaaGreatDoorMHsBuild
import Derived.Test.YtfdlopimncodcaaGreatDoorKeysShelf
namespace Go.Proofs.YtfdlopimncodcaaGreatDoor
open Go.RowKit Go.Proofs.Aid

def namesB (l : Bxs) : List Nm := l.map Prod.fst
theorem names_sorted {l : Bxs} (h : SortedB l) : (namesB l).mergeSort leB = namesB l := by
  refine List.mergeSort_of_pairwise ?_
  unfold namesB
  rw [List.pairwise_map]
  refine h.imp fun {a b} hab => ?_
  simp only [leB, decide_eq_true_eq]
  exact List.not_lt.1 fun hba => List.lt_irrefl _ (List.lt_trans hab hba)
set_option maxHeartbeats 4000000 in
set_option maxRecDepth 100000 in
theorem names_is (hb mb : Nat) (l : Bxs) (nx : Int) (wv : Value) (w : World) (h : HsAt w hb mb l nx wv) (hl : l.length ≤ 1000) :
    Calls Tryz.prog 18 #[.pointer (some ⟨hb, 0, none⟩)] w fun e w' => (∃ v, e = .returned v ∧ NRow w' w.heap.size v (namesB l)) ∧ Below w.heap.size w w' := by
  obtain ⟨hso, D, hown, hD⟩ := id h.2
  have hz := mp_size hso hown hD
  have hpm := mp_keys hso hown hD
  have c0 := h.cell.1
  have HFIN : Hid (∀ (w1 w' : World) (v : Value) (ss : List (List UInt8)), w1 = w.alloc (.cells #[.map (some mb)] 78) → ss.Perm (strKeys D) → w'.ownsRow w1.heap.size 9 1 v ss.length ((ss.mergeSort (fun x y => decide (x ≤ y))).map encStr) → Below w1.heap.size w1 w' → NRow w' w.heap.size v (namesB l) ∧ Below w.heap.size w w') := fun w1 w' v ss e hS hrow hb' => by
    subst e
    have e1 : (ss.mergeSort fun x y => decide (x ≤ y)) = namesB l := by
      have := mergeSort_of_perm (hS.trans hpm.symm)
      rw [show (l.map Prod.fst) = namesB l from rfl, names_sorted hso] at this
      exact this
    have e2 : ss.length = (namesB l).length := by
      rw [(hS.trans hpm.symm).length_eq]
      rfl
    rw [e1, e2] at hrow
    exact ⟨ownsRow_base_a hrow (by simp), ((Below.refl _ w).alloc (Nat.le_refl _) _).trans (hb'.mono (by simp))⟩
  have hmax : Maps.size D ≤ maxLen := by rw [hz]; unfold maxLen; omega
  have hbytes : Maps.size D * 16 ≤ 140737488355328 := by rw [hz]; omega
  have cS := Tryz.slices_Sorted_keys_65_66 mb l.length D ptrElem w hown hmax hbytes
  have cK := Tryz.maps_Keys_66 (some mb) w
  have hfK : Fence.wide.fn 66 := trivial
  have hfS : Fence.wide.fn 65 := trivial
  clear h hown hD hz hpm hso hmax hbytes
  refine (callsIn_wide (n := 6)).1 ?_
  refine callsIn_of_wp Tryz.func18 rfl trivial ?_ rfl
  simp only [Tryz.ntmps18, List.size_toArray, List.length_cons, List.length_nil, Nat.reduceAdd, Nat.reduceSub, Array.replicate_succ, Array.replicate_zero, List.push_toArray, List.append_toArray, List.nil_append, List.cons_append]
  gi_wp2_with (first
    | (gi_at_call 66; refine cK.mono ?_; rintro e w1 ⟨rfl, rfl⟩)
    | (gi_at_call 65; refine cS.mono ?_; rintro e w' ⟨v, ss, rfl, hS, hrow, hnil, hb'⟩))
  go_ret
  obtain ⟨q1, q2⟩ := HFIN.out _ _ _ _ rfl hS hrow hb'
  exact ⟨⟨v, rfl, q1⟩, q2⟩
end Go.Proofs.YtfdlopimncodcaaGreatDoor
