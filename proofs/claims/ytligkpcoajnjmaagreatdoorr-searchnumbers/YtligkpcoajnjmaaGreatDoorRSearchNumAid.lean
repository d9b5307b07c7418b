/-
  What SearchNumbers' walk goes by besides.
-/
import Derived.Test.YtligkpcoajnjmaaGreatDoorRNu38
import Derived.Test.YtligkpcoajnjmaaGreatDoorRNu39
import Derived.Test.YtligkpcoajnjmaaGreatDoorRNu40
import Derived.Test.YtligkpcoajnjmaaGreatDoorRNu22
import Derived.Deep.RegionHeld3
namespace Go.Proofs.YtligkpcoajnjmaaGreatDoorR
open Go.RowKit Go.Proofs.Aid Go.Proofs.Sq Go.Proofs.Hd

theorem nitoa_is (n : Int) (w : World) (h0 : -9223372036854775808 ≤ n) (h1 : n ≤ 9223372036854775807) (htab : Lib.TabIs Tryz.prog w "internal/strconv.uint64pow10" .u64 Lib.pow10Tab) :
    Calls Tryz.prog 17 #[.int .i64 n] w fun e w' => e = .returned (.string ⟨(Lib.itoa n).toArray⟩) ∧ Below w.heap.size w w' := by
  refine (Tryz.strconv_Itoa n h0 h1 w htab).mono ?_
  rintro e w' ⟨rfl, k, os, rfl⟩
  exact ⟨rfl, Lib.below_grow w.heap.size w (Nat.le_refl _) k os⟩
theorem nwrap_nonneg (a : Int) : 0 ≤ IntKind.u64.wrap a := by
  have e1 : IntKind.u64.bits = 64 := rfl
  unfold IntKind.wrap
  rw [e1]
  simp only [IntKind.signed]
  first | omega | (simp; omega) | (split <;> omega)
theorem nurem (n : Int) (k : Nat) (hk : 0 < k) : ∃ A : Nat, (IntKind.u64.wrap n).tmod (k : Int) = (A : Int) ∧ A < k := by
  have h0 : 0 ≤ IntKind.u64.wrap n := nwrap_nonneg n
  rw [Int.tmod_eq_emod_of_nonneg h0]
  have h1 := Int.emod_nonneg (IntKind.u64.wrap n) (show (k : Int) ≠ 0 by omega)
  have h2 := Int.emod_lt_of_pos (IntKind.u64.wrap n) (show (0 : Int) < (k : Int) by omega)
  exact ⟨(IntKind.u64.wrap n % (k : Int)).toNat, by omega, by omega⟩
theorem npick_is (a : Int) (w : World) : Calls Tryz.prog 15 #[.int .i64 a, .int .i64 1000] w fun e w' => (∃ r : Nat, r < 1000 ∧ e = .returned (.int .i64 (r : Int))) ∧ w' = w := by
  obtain ⟨A, hA, hA2⟩ := nurem a 1000 (by omega)
  rw [show ((1000 : Nat) : Int) = 1000 from rfl] at hA
  have q : IntKind.u64.wrap 1000 = 1000 := by decide
  go_enter Tryz.func15, Tryz.ntmps15
  go_wp2_with fail
  go_ret
  exact ⟨⟨A, hA2, rfl⟩, rfl⟩
theorem wrote_short (l : List (Int × Int)) (h : rightR l = true) : (wrote l).length ≤ 10000 := by
  obtain ⟨⟨h1, h2⟩, h3⟩ := (rightR_iff l).1 h
  have hf : ∀ (l : List (Int × Int)), (∀ x ∈ l, (0 ≤ x.1 ∧ x.1 ≤ 2147483647) ∧ (0 ≤ x.2 ∧ x.2 ≤ 2147483647)) → (l.flatMap fun r => 44 :: wroteR r).length ≤ 22 * l.length := by
    intro l
    induction l with
    | nil => intro _; simp
    | cons r rs ih =>
      intro h
      have := wroteR_length (h r (by simp))
      have := ih (fun x hx => h x (by simp [hx]))
      simp only [List.flatMap_cons, List.length_append, List.length_cons]
      omega
  cases l with
  | nil => simp [wrote]
  | cons r rs =>
    rw [wrote, wroteFrom_eq, List.length_append]
    have := wroteR_length (h3 r (by simp))
    have := hf rs (fun x hx => h3 x (by simp [hx]))
    simp only [List.length_cons] at h2
    omega
theorem nb_alloc {w W : World} (h : Below w.heap.size w W) (o : Obj) : Below w.heap.size w (W.alloc o) := h.alloc h.size o
theorem four_boxes (w : World) (c1 c2 c3 c4 : Array Value) (t1 t2 t3 t4 : TypeId) : ∃ W4, (((w.alloc (.cells c1 t1)).alloc (.cells c2 t2)).alloc (.cells c3 t3)).alloc (.cells c4 t4) = W4 ∧ W4.heap.size = w.heap.size + 4 ∧ W4.heap[w.heap.size]? = some (.cells c1 t1 (0, 0)) ∧ W4.heap[w.heap.size + 1]? = some (.cells c2 t2 (0, 0)) ∧ W4.heap[w.heap.size + 2]? = some (.cells c3 t3 (0, 0)) ∧ W4.heap[w.heap.size + 3]? = some (.cells c4 t4 (0, 0)) ∧ Below w.heap.size w W4 := by
  obtain ⟨W2, h2, z2, e1, e2, b2⟩ := two_boxes w c1 c2 t1 t2
  obtain ⟨W4, h4, z4, e3, e4, b4⟩ := two_boxes W2 c3 c4 t3 t4
  refine ⟨W4, by rw [h2, h4], by omega, (b4.block _ (by omega)).trans e1, (b4.block _ (by omega)).trans e2, by rw [z2] at e3; exact e3, by rw [z2] at e4; exact e4, b2.trans (b4.mono (by omega))⟩
end Go.Proofs.YtligkpcoajnjmaaGreatDoorR
