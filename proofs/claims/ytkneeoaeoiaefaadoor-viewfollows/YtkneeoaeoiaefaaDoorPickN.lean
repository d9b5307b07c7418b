/-
  The statements' pick.
-/
import Derived.Test.YtkneeoaeoiaefaaDoorSeqBase
import Derived.Test.YtkneeoaeoiaefaaDoorFlagsSpec
namespace Go.Proofs.YtkneeoaeoiaefaaDoor
open Go.RowKit Go.Proofs.Aid Go.Sort Go.Lib

theorem wrap_u64_nonneg (a : Int) : 0 ≤ IntKind.u64.wrap a := by
  have e1 : IntKind.u64.bits = 64 := rfl
  unfold IntKind.wrap
  rw [e1]
  simp only [IntKind.signed]
  first | omega | (simp; omega) | (split <;> omega)
theorem wrap64_low {x : Int} (h0 : 0 ≤ x) (h1 : x < 1000000) : wrap64 x = x := by unfold wrap64; omega
theorem pick_n (a : Int) (n : Nat) (h0 : 0 < n) (h1 : n ≤ 1000) (w : World) : Calls Tryd.prog 7 #[.int .i64 a, .int .i64 (n : Int)] w fun e w' => (∃ r : Nat, r < n ∧ e = .returned (.int .i64 (r : Int))) ∧ w' = w := by
  have hw : IntKind.u64.wrap (n : Int) = (n : Int) := by
    have e1 : IntKind.u64.bits = 64 := rfl
    unfold IntKind.wrap
    rw [e1]
    simp only [IntKind.signed]
    first | omega | (simp; omega) | (split <;> omega)
  have hz : ((n : Int) == 0) = false := by simp; omega
  go_enter Tryd.func7, Tryd.ntmps7
  go_wp2
  go_ret
  refine ⟨?_, rfl⟩
  have h2 : 0 ≤ IntKind.u64.wrap a := wrap_u64_nonneg a
  have h3 : (IntKind.u64.wrap a).tmod n = (IntKind.u64.wrap a) % n := Int.tmod_eq_emod_of_nonneg h2
  have h4 : 0 ≤ IntKind.u64.wrap a % (n : Int) := Int.emod_nonneg _ (by omega)
  have h5 : IntKind.u64.wrap a % (n : Int) < n := Int.emod_lt_of_pos _ (by omega)
  refine ⟨((IntKind.u64.wrap a) % (n : Int)).toNat, by omega, ?_⟩
  have h6 : wrap64 ((IntKind.u64.wrap a).tmod n) = (((IntKind.u64.wrap a) % (n : Int)).toNat : Int) := by
    rw [h3, wrap64_low h4 (by omega)]; omega
  rw [← h6]
  rfl

end Go.Proofs.YtkneeoaeoiaefaaDoor
