/-
  What errors.As answers at an error with a place and a target for an error number; what api.Tell and plain.Place tell of one.
-/
import Derived.Test.YtohpfhpkimmmbaaGreatDoorBare
import Derived.Test.YtohpfhpkimmmbaaGreatDoorSeqBase
namespace Go.Proofs.YtohpfhpkimmmbaaGreatDoor
open Go.RowKit Go.Extern.Stop Go.Stop Go.Extern Go.Proofs.Aid Go.Proofs.Sq

theorem Tryz.typeOfAt (v : Value) (w : World) : (ReflectliteType.typeOf #[.iface 124 v]).run Tryz.prog w = .ok (.iface 303 (.agg #[.pointer (some ⟨11, 124, none⟩)])) w := by kernel_rfl
theorem Tryz.assignableAt (w : World) : (ReflectliteType.relation "AssignableTo" ReflectliteType.assignableTo #[.agg #[.pointer (some ⟨11, 124, none⟩)], .iface 303 (.agg #[.pointer (some ⟨11, 24, none⟩)])]).run Tryz.prog w = .ok (.bool false) w := by kernel_rfl
theorem Tryz.noAsAt (v : Value) (xT : TypeId) (w : World) : (Instr.typeAssert (.iface 124 v) xT 308 true).run Tryz.prog w = .ok (.tuple #[.nilIface, .bool false]) w :=
  run_typeAssert_lacksB Tryz.underlying308 (by kernel_rfl) (by kernel_rfl) v xT w
theorem Tryz.hasUnwrapAt (v : Value) (xT : TypeId) (w : World) : (Instr.typeAssert (.iface 124 v) xT 182 true).run Tryz.prog w = .ok (.tuple #[.iface 124 v, .bool true]) w :=
  run_typeAssert_hasB Tryz.underlying182 (by kernel_rfl) v xT w
theorem Tryz.methodUnwrapAt (v : Value) (w : World) : (Go.method 480 124 v "Unwrap").run Tryz.prog w = .ok (296, v) w := by kernel_rfl
theorem Tryz.isAt (v : Value) (xT : TypeId) (w : World) : (Instr.typeAssert (.iface 124 v) xT 124 true).run Tryz.prog w = .ok (.tuple #[v, .bool true]) w := by kernel_rfl
theorem unwrap_at (q : Nat) (n : Int) (w : World) (hq : w.cell? ⟨q, 0, none⟩ = some (.int .i64 n)) : Calls Tryz.prog 296 #[.pointer (some ⟨q, 0, none⟩)] w fun e w' => e = .returned (.iface 24 (.int .i64 n)) ∧ w' = w := by
  go_enter Tryz.func296, Tryz.ntmps296
  go_wp2
  go_ret
  exact ⟨rfl, rfl⟩
set_option maxHeartbeats 4000000 in
set_option maxRecDepth 100000 in
theorem as_at (q : Nat) (n : Int) (t : Addr) (old : Value) (w : World) (hq : w.cell? ⟨q, 0, none⟩ = some (.int .i64 n)) (hg : ErrType w) (ht0 : w.cell? t = some old) (hf0 : w.frozen? t = false) :
    Calls Tryz.prog 167 #[.iface 124 (.pointer (some ⟨q, 0, none⟩)), .iface 207 (.pointer (some t))] w fun ev w' => ev = .returned (.bool true) ∧ w' = ((((w.alloc (.cells #[.pointer (some t)] 207)).alloc (.cells #[.pointer (some ⟨11, 207, none⟩), .pointer (some ⟨w.heap.size, 0, none⟩), .int .u64 150] 257)).alloc (.cells #[.pointer (some ⟨11, 207, none⟩), .pointer (some ⟨w.heap.size, 0, none⟩), .int .u64 150] 257)).alloc (.cells #[.int .i64 n] 24)).setCell t (.int .i64 n) := by
  have h36 := @run_callFunc_extern Tryz.prog 218 _ (fun args => ReflectliteValue.unpack (args.getD 0 (.tuple #[]))) Tryz.func218 (by kernel_rfl) (by kernel_rfl) (by kernel_rfl) (by kernel_rfl)
  have h37 := @run_callFunc_extern Tryz.prog 219 _ (ReflectliteValue.methodAny (ReflectliteValue.valueError "reflectlite.Value.Type" 0) (fun t _ _ _ => ReflectliteType.toType t)) Tryz.func219 (by kernel_rfl) (by kernel_rfl) (by kernel_rfl) (by kernel_rfl)
  have h38 := @run_callFunc_extern Tryz.prog 220 _ (ReflectliteValue.method (ReflectliteValue.valueError "reflectlite.Value.IsNil" 0) ReflectliteValue.isNil) Tryz.func220 (by kernel_rfl) (by kernel_rfl) (by kernel_rfl) (by kernel_rfl)
  have h57 := @run_callFunc_extern Tryz.prog 291 _ (ReflectliteType.abiMethod fun t => do pure (.int .u8 (← Rtype.kind t))) Tryz.func291 (by kernel_rfl) (by kernel_rfl) (by kernel_rfl) (by kernel_rfl)
  have h69 := @run_callFunc_extern Tryz.prog 318 _ (ReflectliteType.method ReflectliteType.elem) Tryz.func318 (by kernel_rfl) (by kernel_rfl) (by kernel_rfl) (by kernel_rfl)
  have h70 := @run_callFunc_extern Tryz.prog 319 _ (ReflectliteType.relation "Implements" ReflectliteType.implements_) Tryz.func319 (by kernel_rfl) (by kernel_rfl) (by kernel_rfl) (by kernel_rfl)
  have h40 := @run_callFunc_extern Tryz.prog 248 _ ReflectliteType.typeOf Tryz.func248 (by kernel_rfl) (by kernel_rfl) (by kernel_rfl) (by kernel_rfl)
  have h67 := @run_callFunc_extern Tryz.prog 316 _ (ReflectliteType.relation "AssignableTo" ReflectliteType.assignableTo) Tryz.func316 (by kernel_rfl) (by kernel_rfl) (by kernel_rfl) (by kernel_rfl)
  have h41 := @run_callFunc_extern Tryz.prog 249 _ (ReflectliteValue.method (ReflectliteValue.valueError "reflectlite.Value.Elem" 0) ReflectliteValue.elem) Tryz.func249 (by kernel_rfl) (by kernel_rfl) (by kernel_rfl) (by kernel_rfl)
  have h42 := @run_callFunc_extern Tryz.prog 250 _ ReflectliteValue.set Tryz.func250 (by kernel_rfl) (by kernel_rfl) (by kernel_rfl) (by kernel_rfl)
  have tO := Tryz.typeOf22
  have tA := Tryz.typeOfAt
  have aA := Tryz.assignableAt
  have nA := Tryz.noAsAt
  have hU := Tryz.hasUnwrapAt
  have mU := Tryz.methodUnwrapAt
  have hql : q < w.heap.size := World.block_lt_of_cell? w ⟨q, 0, none⟩ hq
  have mA := Tryz.methodAssignableTo
  have a22 := Tryz.assignable22
  have v22 := Tryz.valueOf22
  have f36 := Tryz.valueOf70
  have f37 := Tryz.type70
  have mK := Tryz.methodKind
  have mE := Tryz.methodElem
  have mI := Tryz.methodImplements
  have k70 := Tryz.kind70
  have k22 := Tryz.kind22
  have e70 := Tryz.elem70
  have i22 := Tryz.implements22
  have hlt := hg.lt
  unfold ErrType at hg
  have n8 := Tryz.isNil70 ⟨w.heap.size, 0, none⟩ t ((w.alloc (.cells #[.pointer (some t)] 207)).alloc (.cells #[.pointer (some ⟨11, 207, none⟩), .pointer (some ⟨w.heap.size, 0, none⟩), .int .u64 150] 257)) (by simp)
  have hg2 : ((w.alloc (.cells #[.pointer (some t)] 207)).alloc (.cells #[.pointer (some ⟨11, 207, none⟩), .pointer (some ⟨w.heap.size, 0, none⟩), .int .u64 150] 257)).cell? ⟨3, 0, none⟩ = some (.iface 303 (.agg #[.pointer (some ⟨11, 28, none⟩)])) := by
    rw [World.cell?_alloc_lt _ _ ⟨3, 0, none⟩ (by simp; omega), World.cell?_alloc_lt _ _ ⟨3, 0, none⟩ hlt]; exact hg
  have htl : t.block < w.heap.size := World.block_lt_of_cell? w t ht0
  have el := Tryz.elemV70 ⟨w.heap.size, 0, none⟩ t (((w.alloc (.cells #[.pointer (some t)] 207)).alloc (.cells #[.pointer (some ⟨11, 207, none⟩), .pointer (some ⟨w.heap.size, 0, none⟩), .int .u64 150] 257)).alloc (.cells #[.pointer (some ⟨11, 207, none⟩), .pointer (some ⟨w.heap.size, 0, none⟩), .int .u64 150] 257)) (by rw [World.cell?_alloc_lt _ _ ⟨w.heap.size, 0, none⟩ (by simp; omega)]; simp)
  have st := Tryz.set22 t ⟨w.heap.size + 1 + 1 + 1, 0, none⟩ n old ((((w.alloc (.cells #[.pointer (some t)] 207)).alloc (.cells #[.pointer (some ⟨11, 207, none⟩), .pointer (some ⟨w.heap.size, 0, none⟩), .int .u64 150] 257)).alloc (.cells #[.pointer (some ⟨11, 207, none⟩), .pointer (some ⟨w.heap.size, 0, none⟩), .int .u64 150] 257)).alloc (.cells #[.int .i64 n] 24))
    (by rw [World.cell?_alloc_at _ _ _ _ (by simp)]; rfl)
    (by rw [World.cell?_alloc_lt _ _ t (by simp; omega), World.cell?_alloc_lt _ _ t (by simp; omega), World.cell?_alloc_lt _ _ t (by simp; omega), World.cell?_alloc_lt _ _ t htl]; exact ht0)
    (by rw [World.frozen?_alloc_old _ _ t (by simp; omega), World.frozen?_alloc_old _ _ t (by simp; omega), World.frozen?_alloc_old _ _ t (by simp; omega), World.frozen?_alloc_old _ _ t (Nat.ne_of_lt htl)]; exact hf0)
  have hq3 : (((w.alloc (.cells #[.pointer (some t)] 207)).alloc (.cells #[.pointer (some ⟨11, 207, none⟩), .pointer (some ⟨w.heap.size, 0, none⟩), .int .u64 150] 257)).alloc (.cells #[.pointer (some ⟨11, 207, none⟩), .pointer (some ⟨w.heap.size, 0, none⟩), .int .u64 150] 257)).cell? ⟨q, 0, none⟩ = some (.int .i64 n) := by
    rw [World.cell?_alloc_lt _ _ ⟨q, 0, none⟩ (by simp; omega), World.cell?_alloc_lt _ _ ⟨q, 0, none⟩ (by simp; omega), World.cell?_alloc_lt _ _ ⟨q, 0, none⟩ hql]; exact hq
  go_enter Tryz.func167, Tryz.ntmps167
  go_wp2
  refine wp_loop_rounds 2 ?_
  rw [rounds_succ]
  go_wp2_with fail
  refine (unwrap_at q n _ hq3).mono ?_
  rintro e w' ⟨rfl, rfl⟩
  go_wp2_with fail
  rw [rounds_succ]
  go_wp2
  go_ret
  exact ⟨rfl, rfl⟩
set_option maxHeartbeats 1000000 in
set_option maxRecDepth 100000 in
theorem tell_at (q : Nat) (n : Int) (w : World) (hq : w.cell? ⟨q, 0, none⟩ = some (.int .i64 n)) (hg : ErrType w) : Calls Tryz.prog 135 #[.iface 124 (.pointer (some ⟨q, 0, none⟩))] w fun e w' => e = .returned (.int .i64 n) ∧ Below w.heap.size w w' := by
  have hgA : ErrType (w.alloc (.cells #[.int .i64 0] 24)) := hg.below ((Below.refl _ _).alloc (Nat.le_refl _) _)
  have htA : (w.alloc (.cells #[.int .i64 0] 24)).cell? ⟨w.heap.size, 0, none⟩ = some (.int .i64 0) := by simp
  have hfA : (w.alloc (.cells #[.int .i64 0] 24)).frozen? ⟨w.heap.size, 0, none⟩ = false := by simp
  have hqA : (w.alloc (.cells #[.int .i64 0] 24)).cell? ⟨q, 0, none⟩ = some (.int .i64 n) := by rw [World.cell?_alloc_lt _ _ ⟨q, 0, none⟩ (World.block_lt_of_cell? _ _ hq)]; exact hq
  have cA := as_at q n ⟨w.heap.size, 0, none⟩ (.int .i64 0) _ hqA hgA htA hfA
  clear hgA htA hfA hqA hg hq
  go_enter Tryz.func135, Tryz.ntmps135
  go_wp2_with (go_at_call 167; refine cA.mono ?_; rintro e w' ⟨rfl, rfl⟩)
  go_ret
  refine ⟨rfl, ?_⟩
  repeat (first | exact Below.refl _ _ | refine Below.alloc ?_ (by simp; omega) _ | refine Below.alloc ?_ (by simp) _)
set_option maxHeartbeats 1000000 in
set_option maxRecDepth 100000 in
theorem place_at (q : Nat) (n k : Int) (w : World) (hq : w.cell? ⟨q, 0, none⟩ = some (.int .i64 n)) (hk : w.cell? ⟨q, 1, none⟩ = some (.int .i64 k)) (hg : ErrType w) : Calls Tryz.prog 94 #[.iface 124 (.pointer (some ⟨q, 0, none⟩))] w fun e w' => e = .returned (.tuple #[.int .i64 n, .int .i64 k]) ∧ Below w.heap.size w w' := by
  have cT := tell_at q n w hq hg
  have aA := Tryz.isAt
  have hql : q < w.heap.size := World.block_lt_of_cell? w ⟨q, 0, none⟩ hq
  clear hg hq
  go_enter Tryz.func94, Tryz.ntmps94
  go_wp2_with (go_at_call 135; refine cT.mono ?_; rintro e w1 ⟨rfl, hb1⟩; have d1 := (hb1.cell (p := ⟨q, 1, none⟩) hql).trans hk)
  refine wp_loop_rounds 1 ?_
  rw [rounds_succ]
  go_wp2_with fail
  go_region
  all_goals
    go_wp2_with fail
    go_ret2
    exact ⟨rfl, below_drewN hb1 _⟩
theorem is_at (q : Nat) (n k e p : Int) (w : World) (hq : w.cell? ⟨q, 0, none⟩ = some (.int .i64 n)) (hk : w.cell? ⟨q, 1, none⟩ = some (.int .i64 k)) (hg : ErrType w) : Calls Tryz.prog 37 #[.iface 124 (.pointer (some ⟨q, 0, none⟩)), .agg #[.int .i64 e, .int .i64 p]] w fun ev w' => ev = .returned (.bool (n == e && k == p)) ∧ Below w.heap.size w w' :=
  is_of _ n k e p w (fun w1 hb => place_at q n k w1 ((hb.cell (World.block_lt_of_cell? _ _ hq)).trans hq) ((hb.cell (World.block_lt_of_cell? _ _ hk)).trans hk) (hg.below hb))
theorem is_nil (e p : Int) (w : World) : Calls Tryz.prog 37 #[.nilIface, .agg #[.int .i64 e, .int .i64 p]] w fun ev w' => ev = .returned (.bool ((0 : Int) == e && (-1 : Int) == p)) ∧ Below w.heap.size w w' :=
  is_of .nilIface 0 (-1) e p w (fun w1 _ => (place_nil w1).mono (by rintro ev w' ⟨rfl, rfl⟩; exact ⟨rfl, Below.refl _ _⟩))
end Go.Proofs.YtohpfhpkimmmbaaGreatDoor
