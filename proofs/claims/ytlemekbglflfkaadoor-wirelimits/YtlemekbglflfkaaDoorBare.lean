/-
  Which error an error is: api.Tell, plain.Place, and the statements' 'bare'.
-/
import Derived.Test.YtlemekbglflfkaaDoorAs
namespace Go.Proofs.YtlemekbglflfkaaDoor
open Go.RowKit Go.Extern.Stop Go.Stop Go.Extern Go.Proofs.Aid

set_option maxHeartbeats 1000000 in
set_option maxRecDepth 100000 in
theorem tell_err (n : Int) (w : World) (hg : ErrType w) : Calls Tryd.prog 65 #[.iface 24 (.int .i64 n)] w fun e w' => e = .returned (.int .i64 n) ∧ Below w.heap.size w w' := by
  have hgA : ErrType (w.alloc (.cells #[.int .i64 0] 24)) := hg.below ((Below.refl _ _).alloc (Nat.le_refl _) _)
  have htA : (w.alloc (.cells #[.int .i64 0] 24)).cell? ⟨w.heap.size, 0, none⟩ = some (.int .i64 0) := by simp
  have hfA : (w.alloc (.cells #[.int .i64 0] 24)).frozen? ⟨w.heap.size, 0, none⟩ = false := by simp
  have cA := as_hit n ⟨w.heap.size, 0, none⟩ (.int .i64 0) _ hgA htA hfA
  clear hgA htA hfA hg
  go_enter Tryd.func65, Tryd.ntmps65
  go_wp2_with (go_at_call 80; refine cA.mono ?_; rintro e w' ⟨rfl, rfl⟩)
  go_ret
  refine ⟨rfl, ?_⟩
  repeat (first | exact Below.refl _ _ | refine Below.alloc ?_ (by simp; omega) _ | refine Below.alloc ?_ (by simp) _)
theorem tell_nil (w : World) : Calls Tryd.prog 65 #[.nilIface] w fun e w' => e = .returned (.int .i64 0) ∧ w' = w := by
  go_enter Tryd.func65, Tryd.ntmps65
  go_wp2
  go_ret
  exact ⟨rfl, rfl⟩
theorem place_nil (w : World) : Calls Tryd.prog 42 #[.nilIface] w fun e w' => e = .returned (.tuple #[.int .i64 0, .int .i64 (-1)]) ∧ w' = w := by
  go_enter Tryd.func42, Tryd.ntmps42
  go_wp2_with (go_at_call 65; refine (tell_nil _).mono ?_; rintro e w' ⟨rfl, rfl⟩)
  refine wp_loop_rounds 1 ?_
  rw [rounds_succ]
  go_wp2
  go_ret2
  exact ⟨rfl, rfl⟩
theorem Tryd.assert60 (v : Value) (w : World) : (Instr.typeAssert (.iface 24 v) 28 80 true).run Tryd.prog w = .ok (.tuple #[.pointer none, .bool false]) w := by kernel_rfl
theorem Tryd.assert63 (v : Value) (w : World) : (Instr.typeAssert (.iface 24 v) 28 96 true).run Tryd.prog w = .ok (.tuple #[.nilIface, .bool false]) w :=
  run_typeAssert_lacksB Tryd.underlying96 (by kernel_rfl) (by kernel_rfl) v 28 w
set_option maxHeartbeats 1000000 in
set_option maxRecDepth 100000 in
theorem place_err (n : Int) (w : World) (hg : ErrType w) : Calls Tryd.prog 42 #[.iface 24 (.int .i64 n)] w fun e w' => e = .returned (.tuple #[.int .i64 n, .int .i64 (-1)]) ∧ Below w.heap.size w w' := by
  have cT := tell_err n w hg
  have a60 := Tryd.assert60
  have a63 := Tryd.assert63
  clear hg
  go_enter Tryd.func42, Tryd.ntmps42
  go_wp2_with (go_at_call 65; refine cT.mono ?_; rintro e w1 ⟨rfl, hb1⟩)
  refine wp_loop_rounds 1 ?_
  rw [rounds_succ]
  go_wp2
  go_ret2
  exact ⟨rfl, by assumption⟩

theorem bareFault (e : Int) (w : World) : Calls Tryd.prog 24 #[.int .i64 e] w fun ev w' => ev = .returned (.agg #[.int .i64 e, .int .i64 (-1)]) ∧ Below w.heap.size w w' := by
  go_enter Tryd.func24, Tryd.ntmps24
  go_wp2
  exact bodyPost_ret (v := .agg #[.int .i64 e, .int .i64 (-1)]) (by simp [results, Tryd.results24, go_sem]) rfl ⟨rfl, (Below.refl _ _).alloc (Nat.le_refl _) _⟩

set_option maxHeartbeats 1000000 in
set_option maxRecDepth 100000 in
/-- The statements' 'is': an error of which Place tells n and q is the one with e and p, if they are the same. -/
theorem is_of (v : Value) (n q e p : Int) (w : World) (cP : ∀ w1, Below w.heap.size w w1 → Calls Tryd.prog 42 #[v] w1 fun ev w' => ev = .returned (.tuple #[.int .i64 n, .int .i64 q]) ∧ Below w1.heap.size w1 w') :
    Calls Tryd.prog 23 #[v, .agg #[.int .i64 e, .int .i64 p]] w fun ev w' => ev = .returned (.bool (n == e && q == p)) ∧ Below w.heap.size w w' := by
  have hbA : Below w.heap.size w (w.alloc (.cells #[.int .i64 e, .int .i64 p] 59)) := (Below.refl _ _).alloc (Nat.le_refl _) _
  have cP1 := cP _ hbA
  clear cP
  have c0 : (w.alloc (.cells #[.int .i64 e, .int .i64 p] 59)).cell? ⟨w.heap.size, 0, none⟩ = some (.int .i64 e) := by simp
  have c1 : (w.alloc (.cells #[.int .i64 e, .int .i64 p] 59)).cell? ⟨w.heap.size, 1, none⟩ = some (.int .i64 p) := by simp
  rcases hne : (n == e) with _ | _
  · rw [Bool.false_and]
    go_enter Tryd.func23, Tryd.ntmps23
    go_wp2_with (go_at_call 42; refine cP1.mono ?_; rintro ev w2 ⟨rfl, hb2⟩; have d0 := (hb2.cell (p := ⟨w.heap.size, 0, none⟩) (by simp)).trans c0; have d1 := (hb2.cell (p := ⟨w.heap.size, 1, none⟩) (by simp)).trans c1)
    go_ret
    exact ⟨rfl, hbA.trans (hb2.mono hbA.size)⟩
  · obtain rfl : n = e := by simpa using hne
    rw [Bool.true_and]
    clear hne
    rcases hnq : (q == p) with _ | _
    all_goals
      go_enter Tryd.func23, Tryd.ntmps23
      go_wp2_with (go_at_call 42; refine cP1.mono ?_; rintro ev w2 ⟨rfl, hb2⟩; have d0 := (hb2.cell (p := ⟨w.heap.size, 0, none⟩) (by simp)).trans c0; have d1 := (hb2.cell (p := ⟨w.heap.size, 1, none⟩) (by simp)).trans c1)
      go_ret
      exact ⟨rfl, hbA.trans (hb2.mono hbA.size)⟩

set_option maxHeartbeats 1000000 in
set_option maxRecDepth 100000 in
theorem bare_of (v : Value) (n e : Int) (w : World) (cP : ∀ w1, Below w.heap.size w w1 → Calls Tryd.prog 42 #[v] w1 fun ev w' => ev = .returned (.tuple #[.int .i64 n, .int .i64 (-1)]) ∧ Below w1.heap.size w1 w') :
    Calls Tryd.prog 11 #[v, .int .i64 e] w fun ev w' => ev = .returned (.bool (n == e)) ∧ Below w.heap.size w w' := by
  have cF := bareFault e w
  have cI : ∀ w1, Below w.heap.size w w1 → Calls Tryd.prog 23 #[v, .agg #[.int .i64 e, .int .i64 (-1)]] w1 fun ev w' => ev = .returned (.bool (n == e)) ∧ Below w1.heap.size w1 w' := by
    intro w1 hb
    refine (is_of v n (-1) e (-1) w1 (fun w2 hb2 => cP w2 (hb.trans (hb2.mono hb.size)))).mono ?_
    rintro ev w' ⟨rfl, hb'⟩
    exact ⟨by simp, hb'⟩
  clear cP
  go_enter Tryd.func11, Tryd.ntmps11
  go_wp2_with (first | (go_at_call 24; refine cF.mono ?_; rintro ev w1 ⟨rfl, hb1⟩) | (go_at_call 23; refine (cI _ hb1).mono ?_; rintro ev w2 ⟨rfl, hb2⟩))
  go_ret
  exact ⟨rfl, hb1.trans (hb2.mono hb1.size)⟩
theorem bare_nil (e : Int) (w : World) : Calls Tryd.prog 11 #[.nilIface, .int .i64 e] w fun ev w' => ev = .returned (.bool ((0 : Int) == e)) ∧ Below w.heap.size w w' :=
  bare_of .nilIface 0 e w (fun w1 _ => (place_nil w1).mono (by rintro ev w' ⟨rfl, rfl⟩; exact ⟨rfl, Below.refl _ _⟩))
theorem bare_err (n e : Int) (w : World) (hg : ErrType w) : Calls Tryd.prog 11 #[.iface 24 (.int .i64 n), .int .i64 e] w fun ev w' => ev = .returned (.bool (n == e)) ∧ Below w.heap.size w w' :=
  bare_of (.iface 24 (.int .i64 n)) n e w (fun w1 hb => place_err n w1 (hg.below hb))
end Go.Proofs.YtlemekbglflfkaaDoor
