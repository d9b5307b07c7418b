/-
  What errors.As answers at an error number and a target for one.
  Which error an error is: api.Tell, plain.Place, and the statements' 'bare'.
  What the small functions of package search do: check, told, measure.
-/
import Derived.Test.YtligkpcoajnjmaaGreatDoorRAl05
import Derived.Test.YtligkpcoajnjmaaGreatDoorRAl02
namespace Go.Proofs.YtligkpcoajnjmaaGreatDoorR
open Go.RowKit Go.Extern.Stop Go.Stop Go.Extern Go.Proofs.Aid

theorem Tryz.set22 (ta b : Addr) (n : Int) (old : Value) (W : World) (hb : W.cell? b = some (.int .i64 n)) (ht : W.cell? ta = some old) (hf : W.frozen? ta = false) :
    (ReflectliteValue.set #[.agg #[.pointer (some ⟨11, 53, none⟩), .pointer (some ta), .int .u64 386], .agg #[.pointer (some ⟨11, 53, none⟩), .pointer (some b), .int .u64 130]]).run Tryz.prog W
      = .ok (.tuple #[]) (W.setCell ta (.int .i64 n)) := by
  show (Bind.bind (ReflectliteValue.parts (.agg #[.pointer (some ⟨11, 53, none⟩), .pointer (some ta), .int .u64 386])) (fun _ => Bind.bind (ReflectliteValue.parts (.agg #[.pointer (some ⟨11, 53, none⟩), .pointer (some b), .int .u64 130])) (fun _ => _))).run Tryz.prog W = _
  simp only [Sem.run_bind, Tryz.parts22a, Tryz.parts22, Result.andThen]
  simp [ReflectliteValue.flagAddr, loadVar, isAgg, underlying, Tryz.underlying53, hb, Result.andThen, Tryz.direct22, storeVar, Value.cells, storeCells, Addr.add]
  rw [run_store Tryz.prog W ta _ _ (by rfl)]
  simp [ht, hf]
/-- The variable errors.errorType holds the type error. -/
def ErrType (w : World) : Prop := w.cell? ⟨3, 0, none⟩ = some (.iface 299 (.agg #[.pointer (some ⟨11, 35, none⟩)]))
theorem ErrType.lt {w : World} (h : ErrType w) : 3 < w.heap.size := World.block_lt_of_cell? w ⟨3, 0, none⟩ h
theorem ErrType.below {w w' : World} (h : ErrType w) (hb : Below w.heap.size w w') : ErrType w' := by
  have := hb.cell (p := ⟨3, 0, none⟩) h.lt
  exact this.trans h

set_option maxHeartbeats 4000000 in
set_option maxRecDepth 100000 in
theorem as_hit (n : Int) (t : Addr) (old : Value) (w : World) (hg : ErrType w) (ht0 : w.cell? t = some old) (hf0 : w.frozen? t = false) :
    Calls Tryz.prog 188 #[.iface 53 (.int .i64 n), .iface 233 (.pointer (some t))] w fun ev w' => ev = .returned (.bool true) ∧ w' = ((((w.alloc (.cells #[.pointer (some t)] 233)).alloc (.cells #[.pointer (some ⟨11, 233, none⟩), .pointer (some ⟨w.heap.size, 0, none⟩), .int .u64 150] 267)).alloc (.cells #[.pointer (some ⟨11, 233, none⟩), .pointer (some ⟨w.heap.size, 0, none⟩), .int .u64 150] 267)).alloc (.cells #[.int .i64 n] 53)).setCell t (.int .i64 n) := by
  have h36 := @run_callFunc_extern Tryz.prog 219 _ (fun args => ReflectliteValue.unpack (args.getD 0 (.tuple #[]))) Tryz.func219 (by kernel_rfl) (by kernel_rfl) (by kernel_rfl) (by kernel_rfl)
  have h37 := @run_callFunc_extern Tryz.prog 220 _ (ReflectliteValue.methodAny (ReflectliteValue.valueError "reflectlite.Value.Type" 0) (fun t _ _ _ => ReflectliteType.toType t)) Tryz.func220 (by kernel_rfl) (by kernel_rfl) (by kernel_rfl) (by kernel_rfl)
  have h38 := @run_callFunc_extern Tryz.prog 221 _ (ReflectliteValue.method (ReflectliteValue.valueError "reflectlite.Value.IsNil" 0) ReflectliteValue.isNil) Tryz.func221 (by kernel_rfl) (by kernel_rfl) (by kernel_rfl) (by kernel_rfl)
  have h57 := @run_callFunc_extern Tryz.prog 339 _ (ReflectliteType.abiMethod fun t => do pure (.int .u8 (← Rtype.kind t))) Tryz.func339 (by kernel_rfl) (by kernel_rfl) (by kernel_rfl) (by kernel_rfl)
  have h69 := @run_callFunc_extern Tryz.prog 355 _ (ReflectliteType.method ReflectliteType.elem) Tryz.func355 (by kernel_rfl) (by kernel_rfl) (by kernel_rfl) (by kernel_rfl)
  have h70 := @run_callFunc_extern Tryz.prog 356 _ (ReflectliteType.relation "Implements" ReflectliteType.implements_) Tryz.func356 (by kernel_rfl) (by kernel_rfl) (by kernel_rfl) (by kernel_rfl)
  have h40 := @run_callFunc_extern Tryz.prog 252 _ ReflectliteType.typeOf Tryz.func252 (by kernel_rfl) (by kernel_rfl) (by kernel_rfl) (by kernel_rfl)
  have h67 := @run_callFunc_extern Tryz.prog 353 _ (ReflectliteType.relation "AssignableTo" ReflectliteType.assignableTo) Tryz.func353 (by kernel_rfl) (by kernel_rfl) (by kernel_rfl) (by kernel_rfl)
  have h41 := @run_callFunc_extern Tryz.prog 253 _ (ReflectliteValue.method (ReflectliteValue.valueError "reflectlite.Value.Elem" 0) ReflectliteValue.elem) Tryz.func253 (by kernel_rfl) (by kernel_rfl) (by kernel_rfl) (by kernel_rfl)
  have h42 := @run_callFunc_extern Tryz.prog 254 _ ReflectliteValue.set Tryz.func254 (by kernel_rfl) (by kernel_rfl) (by kernel_rfl) (by kernel_rfl)
  have tO := Tryz.typeOf22
  have mA := Tryz.methodAssignableTo
  have a22 := Tryz.assignable22
  have v22 := Tryz.valueOf22
  have f36 := Tryz.valueOf70
  have f37 := Tryz.type70
  have mK := Tryz.methodKind
  have mE := Tryz.methodElem
  have mI := Tryz.methodImplements
  have k70 := Tryz.kind70
  have k22 := Tryz.kind22
  have e70 := Tryz.elem70
  have i22 := Tryz.implements22
  have hlt := hg.lt
  unfold ErrType at hg
  have n8 := Tryz.isNil70 ⟨w.heap.size, 0, none⟩ t ((w.alloc (.cells #[.pointer (some t)] 233)).alloc (.cells #[.pointer (some ⟨11, 233, none⟩), .pointer (some ⟨w.heap.size, 0, none⟩), .int .u64 150] 267)) (by simp)
  have hg2 : ((w.alloc (.cells #[.pointer (some t)] 233)).alloc (.cells #[.pointer (some ⟨11, 233, none⟩), .pointer (some ⟨w.heap.size, 0, none⟩), .int .u64 150] 267)).cell? ⟨3, 0, none⟩ = some (.iface 299 (.agg #[.pointer (some ⟨11, 35, none⟩)])) := by
    rw [World.cell?_alloc_lt _ _ ⟨3, 0, none⟩ (by simp; omega), World.cell?_alloc_lt _ _ ⟨3, 0, none⟩ hlt]; exact hg
  have htl : t.block < w.heap.size := World.block_lt_of_cell? w t ht0
  have el := Tryz.elemV70 ⟨w.heap.size, 0, none⟩ t (((w.alloc (.cells #[.pointer (some t)] 233)).alloc (.cells #[.pointer (some ⟨11, 233, none⟩), .pointer (some ⟨w.heap.size, 0, none⟩), .int .u64 150] 267)).alloc (.cells #[.pointer (some ⟨11, 233, none⟩), .pointer (some ⟨w.heap.size, 0, none⟩), .int .u64 150] 267)) (by rw [World.cell?_alloc_lt _ _ ⟨w.heap.size, 0, none⟩ (by simp; omega)]; simp)
  have st := Tryz.set22 t ⟨w.heap.size + 1 + 1 + 1, 0, none⟩ n old ((((w.alloc (.cells #[.pointer (some t)] 233)).alloc (.cells #[.pointer (some ⟨11, 233, none⟩), .pointer (some ⟨w.heap.size, 0, none⟩), .int .u64 150] 267)).alloc (.cells #[.pointer (some ⟨11, 233, none⟩), .pointer (some ⟨w.heap.size, 0, none⟩), .int .u64 150] 267)).alloc (.cells #[.int .i64 n] 53))
    (by rw [World.cell?_alloc_at _ _ _ _ (by simp)]; rfl)
    (by rw [World.cell?_alloc_lt _ _ t (by simp; omega), World.cell?_alloc_lt _ _ t (by simp; omega), World.cell?_alloc_lt _ _ t (by simp; omega), World.cell?_alloc_lt _ _ t htl]; exact ht0)
    (by rw [World.frozen?_alloc_old _ _ t (by simp; omega), World.frozen?_alloc_old _ _ t (by simp; omega), World.frozen?_alloc_old _ _ t (by simp; omega), World.frozen?_alloc_old _ _ t (Nat.ne_of_lt htl)]; exact hf0)
  go_enter Tryz.func188, Tryz.ntmps188
  go_wp2
  refine wp_loop_rounds 1 ?_
  rw [rounds_succ]
  go_wp2
  go_ret
  exact ⟨rfl, rfl⟩
end Go.Proofs.YtligkpcoajnjmaaGreatDoorR
namespace Go.Proofs.YtligkpcoajnjmaaGreatDoorR
open Go.RowKit Go.Extern.Stop Go.Stop Go.Extern Go.Proofs.Aid

set_option maxHeartbeats 1000000 in
set_option maxRecDepth 100000 in
theorem tell_err (n : Int) (w : World) (hg : ErrType w) : Calls Tryz.prog 125 #[.iface 53 (.int .i64 n)] w fun e w' => e = .returned (.int .i64 n) ∧ Below w.heap.size w w' := by
  have hgA : ErrType (w.alloc (.cells #[.int .i64 0] 53)) := hg.below ((Below.refl _ _).alloc (Nat.le_refl _) _)
  have htA : (w.alloc (.cells #[.int .i64 0] 53)).cell? ⟨w.heap.size, 0, none⟩ = some (.int .i64 0) := by simp
  have hfA : (w.alloc (.cells #[.int .i64 0] 53)).frozen? ⟨w.heap.size, 0, none⟩ = false := by simp
  have cA := as_hit n ⟨w.heap.size, 0, none⟩ (.int .i64 0) _ hgA htA hfA
  clear hgA htA hfA hg
  go_enter Tryz.func125, Tryz.ntmps125
  go_wp2_with (go_at_call 188; refine cA.mono ?_; rintro e w' ⟨rfl, rfl⟩)
  go_ret
  refine ⟨rfl, ?_⟩
  repeat (first | exact Below.refl _ _ | refine Below.alloc ?_ (by simp; omega) _ | refine Below.alloc ?_ (by simp) _)
theorem tell_nil (w : World) : Calls Tryz.prog 125 #[.nilIface] w fun e w' => e = .returned (.int .i64 0) ∧ w' = w := by
  go_enter Tryz.func125, Tryz.ntmps125
  go_wp2
  go_ret
  exact ⟨rfl, rfl⟩
theorem place_nil (w : World) : Calls Tryz.prog 68 #[.nilIface] w fun e w' => e = .returned (.tuple #[.int .i64 0, .int .i64 (-1)]) ∧ w' = w := by
  go_enter Tryz.func68, Tryz.ntmps68
  go_wp2_with (go_at_call 125; refine (tell_nil _).mono ?_; rintro e w' ⟨rfl, rfl⟩)
  refine wp_loop_rounds 1 ?_
  rw [rounds_succ]
  go_wp2
  go_ret2
  exact ⟨rfl, rfl⟩
theorem Tryz.assert60 (v : Value) (w : World) : (Instr.typeAssert (.iface 53 v) 35 179 true).run Tryz.prog w = .ok (.tuple #[.pointer none, .bool false]) w := by kernel_rfl
theorem Tryz.assert63 (v : Value) (w : World) : (Instr.typeAssert (.iface 53 v) 35 184 true).run Tryz.prog w = .ok (.tuple #[.nilIface, .bool false]) w :=
  run_typeAssert_lacksB Tryz.underlying184 (by kernel_rfl) (by kernel_rfl) v 35 w
set_option maxHeartbeats 1000000 in
set_option maxRecDepth 100000 in
theorem place_err (n : Int) (w : World) (hg : ErrType w) : Calls Tryz.prog 68 #[.iface 53 (.int .i64 n)] w fun e w' => e = .returned (.tuple #[.int .i64 n, .int .i64 (-1)]) ∧ Below w.heap.size w w' := by
  have cT := tell_err n w hg
  have a60 := Tryz.assert60
  have a63 := Tryz.assert63
  clear hg
  go_enter Tryz.func68, Tryz.ntmps68
  go_wp2_with (go_at_call 125; refine cT.mono ?_; rintro e w1 ⟨rfl, hb1⟩)
  refine wp_loop_rounds 1 ?_
  rw [rounds_succ]
  go_wp2
  go_ret2
  exact ⟨rfl, by assumption⟩

theorem bareFault (e : Int) (w : World) : Calls Tryz.prog 56 #[.int .i64 e] w fun ev w' => ev = .returned (.agg #[.int .i64 e, .int .i64 (-1)]) ∧ Below w.heap.size w w' := by
  go_enter Tryz.func56, Tryz.ntmps56
  go_wp2
  exact bodyPost_ret (v := .agg #[.int .i64 e, .int .i64 (-1)]) (by simp [results, Tryz.results56, go_sem]) rfl ⟨rfl, (Below.refl _ _).alloc (Nat.le_refl _) _⟩

set_option maxHeartbeats 1000000 in
set_option maxRecDepth 100000 in
/-- The statements' 'is': an error of which Place tells n and q is the one with e and p, if they are the same. -/
theorem is_of (v : Value) (n q e p : Int) (w : World) (cP : ∀ w1, Below w.heap.size w w1 → Calls Tryz.prog 68 #[v] w1 fun ev w' => ev = .returned (.tuple #[.int .i64 n, .int .i64 q]) ∧ Below w1.heap.size w1 w') :
    Calls Tryz.prog 24 #[v, .agg #[.int .i64 e, .int .i64 p]] w fun ev w' => ev = .returned (.bool (n == e && q == p)) ∧ Below w.heap.size w w' := by
  have hbA : Below w.heap.size w (w.alloc (.cells #[.int .i64 e, .int .i64 p] 62)) := (Below.refl _ _).alloc (Nat.le_refl _) _
  have cP1 := cP _ hbA
  clear cP
  have c0 : (w.alloc (.cells #[.int .i64 e, .int .i64 p] 62)).cell? ⟨w.heap.size, 0, none⟩ = some (.int .i64 e) := by simp
  have c1 : (w.alloc (.cells #[.int .i64 e, .int .i64 p] 62)).cell? ⟨w.heap.size, 1, none⟩ = some (.int .i64 p) := by simp
  rcases hne : (n == e) with _ | _
  · rw [Bool.false_and]
    go_enter Tryz.func24, Tryz.ntmps24
    go_wp2_with (go_at_call 68; refine cP1.mono ?_; rintro ev w2 ⟨rfl, hb2⟩; have d0 := (hb2.cell (p := ⟨w.heap.size, 0, none⟩) (by simp)).trans c0; have d1 := (hb2.cell (p := ⟨w.heap.size, 1, none⟩) (by simp)).trans c1)
    go_ret
    exact ⟨rfl, hbA.trans (hb2.mono hbA.size)⟩
  · obtain rfl : n = e := by simpa using hne
    rw [Bool.true_and]
    clear hne
    rcases hnq : (q == p) with _ | _
    all_goals
      go_enter Tryz.func24, Tryz.ntmps24
      go_wp2_with (go_at_call 68; refine cP1.mono ?_; rintro ev w2 ⟨rfl, hb2⟩; have d0 := (hb2.cell (p := ⟨w.heap.size, 0, none⟩) (by simp)).trans c0; have d1 := (hb2.cell (p := ⟨w.heap.size, 1, none⟩) (by simp)).trans c1)
      go_ret
      exact ⟨rfl, hbA.trans (hb2.mono hbA.size)⟩

set_option maxHeartbeats 1000000 in
set_option maxRecDepth 100000 in
theorem bare_of (v : Value) (n e : Int) (w : World) (cP : ∀ w1, Below w.heap.size w w1 → Calls Tryz.prog 68 #[v] w1 fun ev w' => ev = .returned (.tuple #[.int .i64 n, .int .i64 (-1)]) ∧ Below w1.heap.size w1 w') :
    Calls Tryz.prog 21 #[v, .int .i64 e] w fun ev w' => ev = .returned (.bool (n == e)) ∧ Below w.heap.size w w' := by
  have cF := bareFault e w
  have cI : ∀ w1, Below w.heap.size w w1 → Calls Tryz.prog 24 #[v, .agg #[.int .i64 e, .int .i64 (-1)]] w1 fun ev w' => ev = .returned (.bool (n == e)) ∧ Below w1.heap.size w1 w' := by
    intro w1 hb
    refine (is_of v n (-1) e (-1) w1 (fun w2 hb2 => cP w2 (hb.trans (hb2.mono hb.size)))).mono ?_
    rintro ev w' ⟨rfl, hb'⟩
    exact ⟨by simp, hb'⟩
  clear cP
  go_enter Tryz.func21, Tryz.ntmps21
  go_wp2_with (first | (go_at_call 56; refine cF.mono ?_; rintro ev w1 ⟨rfl, hb1⟩) | (go_at_call 24; refine (cI _ hb1).mono ?_; rintro ev w2 ⟨rfl, hb2⟩))
  go_ret
  exact ⟨rfl, hb1.trans (hb2.mono hb1.size)⟩
theorem bare_nil (e : Int) (w : World) : Calls Tryz.prog 21 #[.nilIface, .int .i64 e] w fun ev w' => ev = .returned (.bool ((0 : Int) == e)) ∧ Below w.heap.size w w' :=
  bare_of .nilIface 0 e w (fun w1 _ => (place_nil w1).mono (by rintro ev w' ⟨rfl, rfl⟩; exact ⟨rfl, Below.refl _ _⟩))
theorem bare_err (n e : Int) (w : World) (hg : ErrType w) : Calls Tryz.prog 21 #[.iface 53 (.int .i64 n), .int .i64 e] w fun ev w' => ev = .returned (.bool (n == e)) ∧ Below w.heap.size w w' :=
  bare_of (.iface 53 (.int .i64 n)) n e w (fun w1 hb => place_err n w1 (hg.below hb))
end Go.Proofs.YtligkpcoajnjmaaGreatDoorR
namespace Go.Proofs.YtligkpcoajnjmaaGreatDoorR
open Go.RowKit Go.Proofs.Aid Go.Proofs.Sq

set_option maxHeartbeats 2000000 in
theorem check_err (n : Int) (w : World) (hg : ErrType w) : Calls Tryz.prog 201 #[.iface 53 (.int .i64 n)] w fun e w' => e = thrown n ∧ Below w.heap.size w w' := by
  have cT := tell_err n w hg
  go_enter Tryz.func201, Tryz.ntmps201
  go_wp2_with fail
  refine cT.mono ?_
  rintro e w1 ⟨rfl, hb⟩
  go_wp2_with fail
  exact ⟨rfl, rfl, hb⟩
theorem Tryz.assertErrno (n : Int) (w : World) : (Instr.typeAssert (.iface 53 (.int .i64 n)) 20 53 true).run Tryz.prog w = .ok (.tuple #[.int .i64 n, .bool true]) w := by kernel_rfl
set_option maxHeartbeats 2000000 in
theorem told_nil (w : World) : Calls Tryz.prog 42 #[.nilIface] w fun e w' => e = .returned .nilIface ∧ w' = w := by
  go_enter Tryz.func42, Tryz.ntmps42
  go_wp2_with fail
  go_ret
  exact ⟨rfl, rfl⟩
set_option maxHeartbeats 2000000 in
theorem told_err (n : Int) (w : World) : Calls Tryz.prog 42 #[.iface 53 (.int .i64 n)] w fun e w' => e = .returned (.iface 53 (.int .i64 n)) ∧ w' = w := by
  have ha := Tryz.assertErrno n
  go_enter Tryz.func42, Tryz.ntmps42
  go_wp2_with fail
  go_ret
  exact ⟨rfl, rfl⟩
theorem meas_of (s : ByteArray) (h : Sr.wMeas.contains s.data.toList = true) : s = ⟨#[76, 65, 82, 71, 69, 82]⟩ ∨ s = ⟨#[83, 77, 65, 76, 76, 69, 82]⟩ ∨ s = ⟨#[66, 69, 70, 79, 82, 69]⟩ ∨ s = ⟨#[79, 78]⟩ ∨ s = ⟨#[83, 73, 78, 67, 69]⟩ := by
  have h1 : s.data.toList ∈ Sr.wMeas := by simpa using h
  simp only [Sr.wMeas, List.mem_cons, List.not_mem_nil, or_false] at h1
  rcases h1 with h1 | h1 | h1 | h1 | h1
  · exact Or.inl (text_ext h1)
  · exact Or.inr (Or.inl (text_ext h1))
  · exact Or.inr (Or.inr (Or.inl (text_ext h1)))
  · exact Or.inr (Or.inr (Or.inr (Or.inl (text_ext h1))))
  · exact Or.inr (Or.inr (Or.inr (Or.inr (text_ext h1))))
set_option maxHeartbeats 2000000 in
theorem measure_is (s : ByteArray) (w : World) (h : Sr.wMeas.contains s.data.toList = true) : Calls Tryz.prog 155 #[.string s] w fun e w' => e = .returned (.int .i64 (6 + (Sr.wMeas.idxOf s.data.toList : Int))) ∧ w' = w := by
  rcases meas_of s h with rfl | rfl | rfl | rfl | rfl
  all_goals
    clear h
    go_enter Tryz.func155, Tryz.ntmps155
    go_wp2_with fail
    go_ret
    exact ⟨rfl, rfl⟩
end Go.Proofs.YtligkpcoajnjmaaGreatDoorR
