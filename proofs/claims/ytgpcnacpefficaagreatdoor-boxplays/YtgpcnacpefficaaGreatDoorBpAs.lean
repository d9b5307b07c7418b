/-
  What errors.As answers at an error number and a target for one.
  Which error an error is: api.Tell, plain.Place, and the statements' 'bare'.
  Errors against numbers; what a set of flags is when there is none.
-/
import Derived.Test.YtgpcnacpefficaaGreatDoorBpRefSet
import Derived.Test.YtgpcnacpefficaaGreatDoorBpBoxSpec
import Derived.Test.YtgpcnacpefficaaGreatDoorBpLawTexts
import Derived.Test.YtgpcnacpefficaaGreatDoorBpRefMap
import Derived.Test.YtgpcnacpefficaaGreatDoorBpFlagsNot
namespace Go.Proofs.YtgpcnacpefficaaGreatDoor
open Go.RowKit Go.Extern.Stop Go.Stop Go.Extern Go.Proofs.Aid

theorem Tryz.set22 (ta b : Addr) (n : Int) (old : Value) (W : World) (hb : W.cell? b = some (.int .i64 n)) (ht : W.cell? ta = some old) (hf : W.frozen? ta = false) :
    (ReflectliteValue.set #[.agg #[.pointer (some ⟨2, 55, none⟩), .pointer (some ta), .int .u64 386], .agg #[.pointer (some ⟨2, 55, none⟩), .pointer (some b), .int .u64 130]]).run Tryz.prog W
      = .ok (.tuple #[]) (W.setCell ta (.int .i64 n)) := by
  show (Bind.bind (ReflectliteValue.parts (.agg #[.pointer (some ⟨2, 55, none⟩), .pointer (some ta), .int .u64 386])) (fun _ => Bind.bind (ReflectliteValue.parts (.agg #[.pointer (some ⟨2, 55, none⟩), .pointer (some b), .int .u64 130])) (fun _ => _))).run Tryz.prog W = _
  simp only [Sem.run_bind, Tryz.parts22a, Tryz.parts22, Result.andThen]
  simp [ReflectliteValue.flagAddr, loadVar, isAgg, underlying, Tryz.underlying55, hb, Result.andThen, Tryz.direct22, storeVar, Value.cells, storeCells, Addr.add]
  rw [run_store Tryz.prog W ta _ _ (by rfl)]
  simp [ht, hf]
/-- The variable errors.errorType holds the type error. -/
def ErrType (w : World) : Prop := w.cell? ⟨1, 0, none⟩ = some (.iface 185 (.agg #[.pointer (some ⟨2, 68, none⟩)]))
theorem ErrType.lt {w : World} (h : ErrType w) : 1 < w.heap.size := World.block_lt_of_cell? w ⟨1, 0, none⟩ h
theorem ErrType.below {w w' : World} (h : ErrType w) (hb : Below w.heap.size w w') : ErrType w' := by
  have := hb.cell (p := ⟨1, 0, none⟩) h.lt
  exact this.trans h

set_option maxHeartbeats 4000000 in
set_option maxRecDepth 100000 in
theorem as_hit (n : Int) (t : Addr) (old : Value) (w : World) (hg : ErrType w) (ht0 : w.cell? t = some old) (hf0 : w.frozen? t = false) :
    Calls Tryz.prog 96 #[.iface 55 (.int .i64 n), .iface 144 (.pointer (some t))] w fun ev w' => ev = .returned (.bool true) ∧ w' = ((((w.alloc (.cells #[.pointer (some t)] 144)).alloc (.cells #[.pointer (some ⟨2, 144, none⟩), .pointer (some ⟨w.heap.size, 0, none⟩), .int .u64 150] 167)).alloc (.cells #[.pointer (some ⟨2, 144, none⟩), .pointer (some ⟨w.heap.size, 0, none⟩), .int .u64 150] 167)).alloc (.cells #[.int .i64 n] 55)).setCell t (.int .i64 n) := by
  have h36 := @run_callFunc_extern Tryz.prog 119 _ (fun args => ReflectliteValue.unpack (args.getD 0 (.tuple #[]))) Tryz.func119 (by kernel_rfl) (by kernel_rfl) (by kernel_rfl) (by kernel_rfl)
  have h37 := @run_callFunc_extern Tryz.prog 120 _ (ReflectliteValue.methodAny (ReflectliteValue.valueError "reflectlite.Value.Type" 0) (fun t _ _ _ => ReflectliteType.toType t)) Tryz.func120 (by kernel_rfl) (by kernel_rfl) (by kernel_rfl) (by kernel_rfl)
  have h38 := @run_callFunc_extern Tryz.prog 121 _ (ReflectliteValue.method (ReflectliteValue.valueError "reflectlite.Value.IsNil" 0) ReflectliteValue.isNil) Tryz.func121 (by kernel_rfl) (by kernel_rfl) (by kernel_rfl) (by kernel_rfl)
  have h57 := @run_callFunc_extern Tryz.prog 150 _ (ReflectliteType.abiMethod fun t => do pure (.int .u8 (← Rtype.kind t))) Tryz.func150 (by kernel_rfl) (by kernel_rfl) (by kernel_rfl) (by kernel_rfl)
  have h69 := @run_callFunc_extern Tryz.prog 162 _ (ReflectliteType.method ReflectliteType.elem) Tryz.func162 (by kernel_rfl) (by kernel_rfl) (by kernel_rfl) (by kernel_rfl)
  have h70 := @run_callFunc_extern Tryz.prog 163 _ (ReflectliteType.relation "Implements" ReflectliteType.implements_) Tryz.func163 (by kernel_rfl) (by kernel_rfl) (by kernel_rfl) (by kernel_rfl)
  have h40 := @run_callFunc_extern Tryz.prog 131 _ ReflectliteType.typeOf Tryz.func131 (by kernel_rfl) (by kernel_rfl) (by kernel_rfl) (by kernel_rfl)
  have h67 := @run_callFunc_extern Tryz.prog 160 _ (ReflectliteType.relation "AssignableTo" ReflectliteType.assignableTo) Tryz.func160 (by kernel_rfl) (by kernel_rfl) (by kernel_rfl) (by kernel_rfl)
  have h41 := @run_callFunc_extern Tryz.prog 132 _ (ReflectliteValue.method (ReflectliteValue.valueError "reflectlite.Value.Elem" 0) ReflectliteValue.elem) Tryz.func132 (by kernel_rfl) (by kernel_rfl) (by kernel_rfl) (by kernel_rfl)
  have h42 := @run_callFunc_extern Tryz.prog 133 _ ReflectliteValue.set Tryz.func133 (by kernel_rfl) (by kernel_rfl) (by kernel_rfl) (by kernel_rfl)
  have tO := Tryz.typeOf22
  have mA := Tryz.methodAssignableTo
  have a22 := Tryz.assignable22
  have v22 := Tryz.valueOf22
  have f36 := Tryz.valueOf70
  have f37 := Tryz.type70
  have mK := Tryz.methodKind
  have mE := Tryz.methodElem
  have mI := Tryz.methodImplements
  have k70 := Tryz.kind70
  have k22 := Tryz.kind22
  have e70 := Tryz.elem70
  have i22 := Tryz.implements22
  have hlt := hg.lt
  unfold ErrType at hg
  have n8 := Tryz.isNil70 ⟨w.heap.size, 0, none⟩ t ((w.alloc (.cells #[.pointer (some t)] 144)).alloc (.cells #[.pointer (some ⟨2, 144, none⟩), .pointer (some ⟨w.heap.size, 0, none⟩), .int .u64 150] 167)) (by simp)
  have hg2 : ((w.alloc (.cells #[.pointer (some t)] 144)).alloc (.cells #[.pointer (some ⟨2, 144, none⟩), .pointer (some ⟨w.heap.size, 0, none⟩), .int .u64 150] 167)).cell? ⟨1, 0, none⟩ = some (.iface 185 (.agg #[.pointer (some ⟨2, 68, none⟩)])) := by
    rw [World.cell?_alloc_lt _ _ ⟨1, 0, none⟩ (by simp; omega), World.cell?_alloc_lt _ _ ⟨1, 0, none⟩ hlt]; exact hg
  have htl : t.block < w.heap.size := World.block_lt_of_cell? w t ht0
  have el := Tryz.elemV70 ⟨w.heap.size, 0, none⟩ t (((w.alloc (.cells #[.pointer (some t)] 144)).alloc (.cells #[.pointer (some ⟨2, 144, none⟩), .pointer (some ⟨w.heap.size, 0, none⟩), .int .u64 150] 167)).alloc (.cells #[.pointer (some ⟨2, 144, none⟩), .pointer (some ⟨w.heap.size, 0, none⟩), .int .u64 150] 167)) (by rw [World.cell?_alloc_lt _ _ ⟨w.heap.size, 0, none⟩ (by simp; omega)]; simp)
  have st := Tryz.set22 t ⟨w.heap.size + 1 + 1 + 1, 0, none⟩ n old ((((w.alloc (.cells #[.pointer (some t)] 144)).alloc (.cells #[.pointer (some ⟨2, 144, none⟩), .pointer (some ⟨w.heap.size, 0, none⟩), .int .u64 150] 167)).alloc (.cells #[.pointer (some ⟨2, 144, none⟩), .pointer (some ⟨w.heap.size, 0, none⟩), .int .u64 150] 167)).alloc (.cells #[.int .i64 n] 55))
    (by rw [World.cell?_alloc_at _ _ _ _ (by simp)]; rfl)
    (by rw [World.cell?_alloc_lt _ _ t (by simp; omega), World.cell?_alloc_lt _ _ t (by simp; omega), World.cell?_alloc_lt _ _ t (by simp; omega), World.cell?_alloc_lt _ _ t htl]; exact ht0)
    (by rw [World.frozen?_alloc_old _ _ t (by simp; omega), World.frozen?_alloc_old _ _ t (by simp; omega), World.frozen?_alloc_old _ _ t (by simp; omega), World.frozen?_alloc_old _ _ t (Nat.ne_of_lt htl)]; exact hf0)
  go_enter Tryz.func96, Tryz.ntmps96
  go_wp2
  refine wp_loop_rounds 1 ?_
  rw [rounds_succ]
  go_wp2
  go_ret
  exact ⟨rfl, rfl⟩
end Go.Proofs.YtgpcnacpefficaaGreatDoor
namespace Go.Proofs.YtgpcnacpefficaaGreatDoor
open Go.RowKit Go.Extern.Stop Go.Stop Go.Extern Go.Proofs.Aid

set_option maxHeartbeats 1000000 in
set_option maxRecDepth 100000 in
theorem tell_err (n : Int) (w : World) (hg : ErrType w) : Calls Tryz.prog 80 #[.iface 55 (.int .i64 n)] w fun e w' => e = .returned (.int .i64 n) ∧ Below w.heap.size w w' := by
  have hgA : ErrType (w.alloc (.cells #[.int .i64 0] 55)) := hg.below ((Below.refl _ _).alloc (Nat.le_refl _) _)
  have htA : (w.alloc (.cells #[.int .i64 0] 55)).cell? ⟨w.heap.size, 0, none⟩ = some (.int .i64 0) := by simp
  have hfA : (w.alloc (.cells #[.int .i64 0] 55)).frozen? ⟨w.heap.size, 0, none⟩ = false := by simp
  have cA := as_hit n ⟨w.heap.size, 0, none⟩ (.int .i64 0) _ hgA htA hfA
  clear hgA htA hfA hg
  go_enter Tryz.func80, Tryz.ntmps80
  go_wp2_with (go_at_call 96; refine cA.mono ?_; rintro e w' ⟨rfl, rfl⟩)
  go_ret
  refine ⟨rfl, ?_⟩
  repeat (first | exact Below.refl _ _ | refine Below.alloc ?_ (by simp; omega) _ | refine Below.alloc ?_ (by simp) _)
theorem tell_nil (w : World) : Calls Tryz.prog 80 #[.nilIface] w fun e w' => e = .returned (.int .i64 0) ∧ w' = w := by
  go_enter Tryz.func80, Tryz.ntmps80
  go_wp2
  go_ret
  exact ⟨rfl, rfl⟩
theorem place_nil (w : World) : Calls Tryz.prog 65 #[.nilIface] w fun e w' => e = .returned (.tuple #[.int .i64 0, .int .i64 (-1)]) ∧ w' = w := by
  go_enter Tryz.func65, Tryz.ntmps65
  go_wp2_with (go_at_call 80; refine (tell_nil _).mono ?_; rintro e w' ⟨rfl, rfl⟩)
  refine wp_loop_rounds 1 ?_
  rw [rounds_succ]
  go_wp2
  go_ret2
  exact ⟨rfl, rfl⟩
theorem Tryz.assert60 (v : Value) (w : World) : (Instr.typeAssert (.iface 55 v) 68 126 true).run Tryz.prog w = .ok (.tuple #[.pointer none, .bool false]) w := by kernel_rfl
theorem Tryz.assert63 (v : Value) (w : World) : (Instr.typeAssert (.iface 55 v) 68 129 true).run Tryz.prog w = .ok (.tuple #[.nilIface, .bool false]) w :=
  run_typeAssert_lacksB Tryz.underlying129 (by kernel_rfl) (by kernel_rfl) v 68 w
set_option maxHeartbeats 1000000 in
set_option maxRecDepth 100000 in
theorem place_err (n : Int) (w : World) (hg : ErrType w) : Calls Tryz.prog 65 #[.iface 55 (.int .i64 n)] w fun e w' => e = .returned (.tuple #[.int .i64 n, .int .i64 (-1)]) ∧ Below w.heap.size w w' := by
  have cT := tell_err n w hg
  have a60 := Tryz.assert60
  have a63 := Tryz.assert63
  clear hg
  go_enter Tryz.func65, Tryz.ntmps65
  go_wp2_with (go_at_call 80; refine cT.mono ?_; rintro e w1 ⟨rfl, hb1⟩)
  refine wp_loop_rounds 1 ?_
  rw [rounds_succ]
  go_wp2
  go_ret2
  exact ⟨rfl, by assumption⟩

theorem bareFault (e : Int) (w : World) : Calls Tryz.prog 48 #[.int .i64 e] w fun ev w' => ev = .returned (.agg #[.int .i64 e, .int .i64 (-1)]) ∧ Below w.heap.size w w' := by
  go_enter Tryz.func48, Tryz.ntmps48
  go_wp2
  exact bodyPost_ret (v := .agg #[.int .i64 e, .int .i64 (-1)]) (by simp [results, Tryz.results48, go_sem]) rfl ⟨rfl, (Below.refl _ _).alloc (Nat.le_refl _) _⟩

set_option maxHeartbeats 1000000 in
set_option maxRecDepth 100000 in
/-- The statements' 'is': an error of which Place tells n and q is the one with e and p, if they are the same. -/
theorem is_of (v : Value) (n q e p : Int) (w : World) (cP : ∀ w1, Below w.heap.size w w1 → Calls Tryz.prog 65 #[v] w1 fun ev w' => ev = .returned (.tuple #[.int .i64 n, .int .i64 q]) ∧ Below w1.heap.size w1 w') :
    Calls Tryz.prog 47 #[v, .agg #[.int .i64 e, .int .i64 p]] w fun ev w' => ev = .returned (.bool (n == e && q == p)) ∧ Below w.heap.size w w' := by
  have hbA : Below w.heap.size w (w.alloc (.cells #[.int .i64 e, .int .i64 p] 96)) := (Below.refl _ _).alloc (Nat.le_refl _) _
  have cP1 := cP _ hbA
  clear cP
  have c0 : (w.alloc (.cells #[.int .i64 e, .int .i64 p] 96)).cell? ⟨w.heap.size, 0, none⟩ = some (.int .i64 e) := by simp
  have c1 : (w.alloc (.cells #[.int .i64 e, .int .i64 p] 96)).cell? ⟨w.heap.size, 1, none⟩ = some (.int .i64 p) := by simp
  rcases hne : (n == e) with _ | _
  · rw [Bool.false_and]
    go_enter Tryz.func47, Tryz.ntmps47
    go_wp2_with (go_at_call 65; refine cP1.mono ?_; rintro ev w2 ⟨rfl, hb2⟩; have d0 := (hb2.cell (p := ⟨w.heap.size, 0, none⟩) (by simp)).trans c0; have d1 := (hb2.cell (p := ⟨w.heap.size, 1, none⟩) (by simp)).trans c1)
    go_ret
    exact ⟨rfl, hbA.trans (hb2.mono hbA.size)⟩
  · obtain rfl : n = e := by simpa using hne
    rw [Bool.true_and]
    clear hne
    rcases hnq : (q == p) with _ | _
    all_goals
      go_enter Tryz.func47, Tryz.ntmps47
      go_wp2_with (go_at_call 65; refine cP1.mono ?_; rintro ev w2 ⟨rfl, hb2⟩; have d0 := (hb2.cell (p := ⟨w.heap.size, 0, none⟩) (by simp)).trans c0; have d1 := (hb2.cell (p := ⟨w.heap.size, 1, none⟩) (by simp)).trans c1)
      go_ret
      exact ⟨rfl, hbA.trans (hb2.mono hbA.size)⟩

set_option maxHeartbeats 1000000 in
set_option maxRecDepth 100000 in
theorem bare_of (v : Value) (n e : Int) (w : World) (cP : ∀ w1, Below w.heap.size w w1 → Calls Tryz.prog 65 #[v] w1 fun ev w' => ev = .returned (.tuple #[.int .i64 n, .int .i64 (-1)]) ∧ Below w1.heap.size w1 w') :
    Calls Tryz.prog 24 #[v, .int .i64 e] w fun ev w' => ev = .returned (.bool (n == e)) ∧ Below w.heap.size w w' := by
  have cF := bareFault e w
  have cI : ∀ w1, Below w.heap.size w w1 → Calls Tryz.prog 47 #[v, .agg #[.int .i64 e, .int .i64 (-1)]] w1 fun ev w' => ev = .returned (.bool (n == e)) ∧ Below w1.heap.size w1 w' := by
    intro w1 hb
    refine (is_of v n (-1) e (-1) w1 (fun w2 hb2 => cP w2 (hb.trans (hb2.mono hb.size)))).mono ?_
    rintro ev w' ⟨rfl, hb'⟩
    exact ⟨by simp, hb'⟩
  clear cP
  go_enter Tryz.func24, Tryz.ntmps24
  go_wp2_with (first | (go_at_call 48; refine cF.mono ?_; rintro ev w1 ⟨rfl, hb1⟩) | (go_at_call 47; refine (cI _ hb1).mono ?_; rintro ev w2 ⟨rfl, hb2⟩))
  go_ret
  exact ⟨rfl, hb1.trans (hb2.mono hb1.size)⟩
theorem bare_nil (e : Int) (w : World) : Calls Tryz.prog 24 #[.nilIface, .int .i64 e] w fun ev w' => ev = .returned (.bool ((0 : Int) == e)) ∧ Below w.heap.size w w' :=
  bare_of .nilIface 0 e w (fun w1 _ => (place_nil w1).mono (by rintro ev w' ⟨rfl, rfl⟩; exact ⟨rfl, Below.refl _ _⟩))
theorem bare_err (n e : Int) (w : World) (hg : ErrType w) : Calls Tryz.prog 24 #[.iface 55 (.int .i64 n), .int .i64 e] w fun ev w' => ev = .returned (.bool (n == e)) ∧ Below w.heap.size w w' :=
  bare_of (.iface 55 (.int .i64 n)) n e w (fun w1 hb => place_err n w1 (hg.below hb))
end Go.Proofs.YtgpcnacpefficaaGreatDoor
namespace Go.Proofs.YtgpcnacpefficaaGreatDoor
open Go.RowKit Go.Proofs.Aid Go.Proofs.Fl Go.Sort Go.Lib

/-- The error that a number tells. -/
def ErrIs (v : Value) (n : Int) : Prop := (n = 0 ∧ v = .nilIface) ∨ (n ≠ 0 ∧ v = .iface 55 (.int .i64 n))
theorem bare_is (v : Value) (n : Int) (w : World) (h : ErrIs v n) (hg : ErrType w) : Calls Tryz.prog 24 #[v, .int .i64 n] w fun ev w' => ev = .returned (.bool true) ∧ Below w.heap.size w w' := by
  rcases h with ⟨rfl, rfl⟩ | ⟨_, rfl⟩
  · exact bare_nil 0 w
  · have := bare_err n n w hg
    rw [show (n == n) = true by simp] at this
    exact this
theorem fname_err {s : Tx} (h : (fname s).2 ≠ 0) : (fname s).1 = [] := by
  unfold fname at h ⊢
  split at h
  · next h1 =>
    rw [if_pos h1]
    split at h
    · exact absurd rfl h
    · rfl
  · next h1 =>
    rw [if_neg h1]
    split at h
    · next h2 => rw [if_pos h2]
    · next h2 =>
      rw [if_neg h2]
      split at h
      · next h3 => rw [if_pos h3]
      · exact absurd rfl h
theorem fname_empty {s : Tx} (h : (fname s).1 = []) : (fname s).2 ≠ 0 := by
  intro h0
  have h1 := fname_own s h0
  rw [h] at h1
  exact absurd h1 (by unfold Own fname; decide)
theorem setOf_err {l : List Tx} (h : (setOf l).2 ≠ 0) : (setOf l).1 = [] := by
  unfold Fl.setOf at h ⊢
  split at h
  · next h1 => rw [if_pos h1]
  · next h1 =>
    rw [if_neg h1]
    split at h
    · next h2 => rw [if_pos h2]
    · exact absurd rfl h
theorem setOf_good (l : List Tx) : Ord (setOf l).1 ∧ (∀ s ∈ (setOf l).1, Own s) ∧ (setOf l).1.length ≤ 12 := by
  by_cases h : (setOf l).2 = 0
  · exact setOf_own h
  · rw [setOf_err h]
    exact ⟨List.Pairwise.nil, by simp, by simp⟩
theorem set_is (v : Value) (l : List Tx) (w : World) (h : Sl w v l) (hl : l.length ≤ 400) (hs : ∀ t ∈ l, t.length ≤ 1000000) (hg : SysAt w) :
    Calls Tryz.prog 40 #[v] w fun e w' => (∃ v' u, e = .returned (.tuple #[v', u]) ∧ Sl w' v' (setOf l).1 ∧ ErrIs u (setOf l).2) ∧ Below w.heap.size w w' := by
  refine (set_any v l w h hl hs hg).mono ?_
  rintro e w' ⟨⟨h0, v', rfl, hv⟩ | ⟨h0, rfl⟩, hb⟩
  · exact ⟨⟨_, _, rfl, hv, Or.inl ⟨h0, rfl⟩⟩, hb⟩
  · exact ⟨⟨_, _, rfl, by rw [setOf_err h0]; exact ⟨none, 0, rfl, ⟨fun _ => rfl, Nat.le_refl _⟩, Or.inl rfl⟩, Or.inr ⟨h0, rfl⟩⟩, hb⟩
theorem same_is (va vb : Value) (x : List Tx) (w : World) (ha : Sl w va x) (hb : Sl w vb x) (hx : x.length ≤ 1000) :
    Calls Tryz.prog 36 #[va, vb] w fun e w' => e = .returned (.bool true) ∧ Below w.heap.size w w' := by
  refine (same_texts va vb x x w ha hb hx hx).mono ?_
  rintro e w' ⟨rfl, q, rfl⟩
  exact ⟨by simp, below_drewN (Below.refl _ _) q⟩
theorem not_is {x y : List Tx} (h : Ord x) : order (without x (order y)) = without x y := by
  have e : without x (order y) = without x y := by
    unfold without
    refine List.filter_congr fun z _ => ?_
    congr 1
    rw [Bool.eq_iff_iff]
    simp [order_mem]
  rw [e]
  exact order_of_ord (ord_filter h _)
theorem own_short {s : Tx} (h : Own s) : s.length ≤ 20 := by
  unfold Own fname at h
  split at h
  · next h1 =>
    cases hf : five.find? (sameL s) with
    | none => rw [hf] at h; simp at h
    | some n =>
      rw [hf] at h
      have hn : n = s := congrArg Prod.fst h
      have hm := List.mem_of_find?_eq_some hf
      rw [← hn]
      have : n = five[0] ∨ n = five[1] ∨ n = five[2] ∨ n = five[3] ∨ n = five[4] := by simpa [five] using hm
      rcases this with rfl | rfl | rfl | rfl | rfl <;> decide
  · split at h
    · have := congrArg Prod.snd h; simp at this
    · split at h
      · have := congrArg Prod.snd h; simp at this
      · omega
end Go.Proofs.YtgpcnacpefficaaGreatDoor
