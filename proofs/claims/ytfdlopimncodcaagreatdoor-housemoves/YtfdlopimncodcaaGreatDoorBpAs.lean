/-
  What errors, and more.
-/
import Derived.Test.YtfdlopimncodcaaGreatDoorBpHwList
namespace Go.Proofs.YtfdlopimncodcaaGreatDoor
open Go.RowKit Go.Extern.Stop Go.Stop Go.Extern Go.Proofs.Aid

theorem Tryz.set22 (ta b : Addr) (n : Int) (old : Value) (W : World) (hb : W.cell? b = some (.int .i64 n)) (ht : W.cell? ta = some old) (hf : W.frozen? ta = false) :
    (ReflectliteValue.set #[.agg #[.pointer (some ⟨8, 42, none⟩), .pointer (some ta), .int .u64 386], .agg #[.pointer (some ⟨8, 42, none⟩), .pointer (some b), .int .u64 130]]).run Tryz.prog W
      = .ok (.tuple #[]) (W.setCell ta (.int .i64 n)) := by
  show (Bind.bind (ReflectliteValue.parts (.agg #[.pointer (some ⟨8, 42, none⟩), .pointer (some ta), .int .u64 386])) (fun _ => Bind.bind (ReflectliteValue.parts (.agg #[.pointer (some ⟨8, 42, none⟩), .pointer (some b), .int .u64 130])) (fun _ => _))).run Tryz.prog W = _
  simp only [Sem.run_bind, Tryz.parts22a, Tryz.parts22, Result.andThen]
  simp [ReflectliteValue.flagAddr, loadVar, isAgg, underlying, Tryz.underlying42, hb, Result.andThen, Tryz.direct22, storeVar, Value.cells, storeCells, Addr.add]
  rw [run_store Tryz.prog W ta _ _ (by rfl)]
  simp [ht, hf]
/-- The variable errors.errorType holds the type error. -/
def ErrType (w : World) : Prop := w.cell? ⟨1, 0, none⟩ = some (.iface 202 (.agg #[.pointer (some ⟨8, 38, none⟩)]))
theorem ErrType.lt {w : World} (h : ErrType w) : 1 < w.heap.size := World.block_lt_of_cell? w ⟨1, 0, none⟩ h
theorem ErrType.below {w w' : World} (h : ErrType w) (hb : Below w.heap.size w w') : ErrType w' := by
  have := hb.cell (p := ⟨1, 0, none⟩) h.lt
  exact this.trans h

set_option maxHeartbeats 4000000 in
set_option maxRecDepth 100000 in
theorem as_hit (n : Int) (t : Addr) (old : Value) (w : World) (hg : ErrType w) (ht0 : w.cell? t = some old) (hf0 : w.frozen? t = false) :
    Calls Tryz.prog 86 #[.iface 42 (.int .i64 n), .iface 131 (.pointer (some t))] w fun ev w' => ev = .returned (.bool true) ∧ w' = ((((w.alloc (.cells #[.pointer (some t)] 131)).alloc (.cells #[.pointer (some ⟨8, 131, none⟩), .pointer (some ⟨w.heap.size, 0, none⟩), .int .u64 150] 165)).alloc (.cells #[.pointer (some ⟨8, 131, none⟩), .pointer (some ⟨w.heap.size, 0, none⟩), .int .u64 150] 165)).alloc (.cells #[.int .i64 n] 42)).setCell t (.int .i64 n) := by
  have h36 := @run_callFunc_extern Tryz.prog 128 _ (fun args => ReflectliteValue.unpack (args.getD 0 (.tuple #[]))) Tryz.func128 (by kernel_rfl) (by kernel_rfl) (by kernel_rfl) (by kernel_rfl)
  have h37 := @run_callFunc_extern Tryz.prog 129 _ (ReflectliteValue.methodAny (ReflectliteValue.valueError "reflectlite.Value.Type" 0) (fun t _ _ _ => ReflectliteType.toType t)) Tryz.func129 (by kernel_rfl) (by kernel_rfl) (by kernel_rfl) (by kernel_rfl)
  have h38 := @run_callFunc_extern Tryz.prog 130 _ (ReflectliteValue.method (ReflectliteValue.valueError "reflectlite.Value.IsNil" 0) ReflectliteValue.isNil) Tryz.func130 (by kernel_rfl) (by kernel_rfl) (by kernel_rfl) (by kernel_rfl)
  have h57 := @run_callFunc_extern Tryz.prog 246 _ (ReflectliteType.abiMethod fun t => do pure (.int .u8 (← Rtype.kind t))) Tryz.func246 (by kernel_rfl) (by kernel_rfl) (by kernel_rfl) (by kernel_rfl)
  have h69 := @run_callFunc_extern Tryz.prog 262 _ (ReflectliteType.method ReflectliteType.elem) Tryz.func262 (by kernel_rfl) (by kernel_rfl) (by kernel_rfl) (by kernel_rfl)
  have h70 := @run_callFunc_extern Tryz.prog 263 _ (ReflectliteType.relation "Implements" ReflectliteType.implements_) Tryz.func263 (by kernel_rfl) (by kernel_rfl) (by kernel_rfl) (by kernel_rfl)
  have h40 := @run_callFunc_extern Tryz.prog 160 _ ReflectliteType.typeOf Tryz.func160 (by kernel_rfl) (by kernel_rfl) (by kernel_rfl) (by kernel_rfl)
  have h67 := @run_callFunc_extern Tryz.prog 260 _ (ReflectliteType.relation "AssignableTo" ReflectliteType.assignableTo) Tryz.func260 (by kernel_rfl) (by kernel_rfl) (by kernel_rfl) (by kernel_rfl)
  have h41 := @run_callFunc_extern Tryz.prog 161 _ (ReflectliteValue.method (ReflectliteValue.valueError "reflectlite.Value.Elem" 0) ReflectliteValue.elem) Tryz.func161 (by kernel_rfl) (by kernel_rfl) (by kernel_rfl) (by kernel_rfl)
  have h42 := @run_callFunc_extern Tryz.prog 162 _ ReflectliteValue.set Tryz.func162 (by kernel_rfl) (by kernel_rfl) (by kernel_rfl) (by kernel_rfl)
  have tO := Tryz.typeOf22
  have mA := Tryz.methodAssignableTo
  have a22 := Tryz.assignable22
  have v22 := Tryz.valueOf22
  have f36 := Tryz.valueOf70
  have f37 := Tryz.type70
  have mK := Tryz.methodKind
  have mE := Tryz.methodElem
  have mI := Tryz.methodImplements
  have k70 := Tryz.kind70
  have k22 := Tryz.kind22
  have e70 := Tryz.elem70
  have i22 := Tryz.implements22
  have hlt := hg.lt
  unfold ErrType at hg
  have n8 := Tryz.isNil70 ⟨w.heap.size, 0, none⟩ t ((w.alloc (.cells #[.pointer (some t)] 131)).alloc (.cells #[.pointer (some ⟨8, 131, none⟩), .pointer (some ⟨w.heap.size, 0, none⟩), .int .u64 150] 165)) (by simp)
  have hg2 : ((w.alloc (.cells #[.pointer (some t)] 131)).alloc (.cells #[.pointer (some ⟨8, 131, none⟩), .pointer (some ⟨w.heap.size, 0, none⟩), .int .u64 150] 165)).cell? ⟨1, 0, none⟩ = some (.iface 202 (.agg #[.pointer (some ⟨8, 38, none⟩)])) := by
    rw [World.cell?_alloc_lt _ _ ⟨1, 0, none⟩ (by simp; omega), World.cell?_alloc_lt _ _ ⟨1, 0, none⟩ hlt]; exact hg
  have htl : t.block < w.heap.size := World.block_lt_of_cell? w t ht0
  have el := Tryz.elemV70 ⟨w.heap.size, 0, none⟩ t (((w.alloc (.cells #[.pointer (some t)] 131)).alloc (.cells #[.pointer (some ⟨8, 131, none⟩), .pointer (some ⟨w.heap.size, 0, none⟩), .int .u64 150] 165)).alloc (.cells #[.pointer (some ⟨8, 131, none⟩), .pointer (some ⟨w.heap.size, 0, none⟩), .int .u64 150] 165)) (by rw [World.cell?_alloc_lt _ _ ⟨w.heap.size, 0, none⟩ (by simp; omega)]; simp)
  have st := Tryz.set22 t ⟨w.heap.size + 1 + 1 + 1, 0, none⟩ n old ((((w.alloc (.cells #[.pointer (some t)] 131)).alloc (.cells #[.pointer (some ⟨8, 131, none⟩), .pointer (some ⟨w.heap.size, 0, none⟩), .int .u64 150] 165)).alloc (.cells #[.pointer (some ⟨8, 131, none⟩), .pointer (some ⟨w.heap.size, 0, none⟩), .int .u64 150] 165)).alloc (.cells #[.int .i64 n] 42))
    (by rw [World.cell?_alloc_at _ _ _ _ (by simp)]; rfl)
    (by rw [World.cell?_alloc_lt _ _ t (by simp; omega), World.cell?_alloc_lt _ _ t (by simp; omega), World.cell?_alloc_lt _ _ t (by simp; omega), World.cell?_alloc_lt _ _ t htl]; exact ht0)
    (by rw [World.frozen?_alloc_old _ _ t (by simp; omega), World.frozen?_alloc_old _ _ t (by simp; omega), World.frozen?_alloc_old _ _ t (by simp; omega), World.frozen?_alloc_old _ _ t (Nat.ne_of_lt htl)]; exact hf0)
  go_enter Tryz.func86, Tryz.ntmps86
  go_wp2
  refine wp_loop_rounds 1 ?_
  rw [rounds_succ]
  go_wp2
  go_ret
  exact ⟨rfl, rfl⟩
end Go.Proofs.YtfdlopimncodcaaGreatDoor
namespace Go.Proofs.YtfdlopimncodcaaGreatDoor
open Go.RowKit Go.Extern.Stop Go.Stop Go.Extern Go.Proofs.Aid

set_option maxHeartbeats 1000000 in
set_option maxRecDepth 100000 in
theorem tell_err (n : Int) (w : World) (hg : ErrType w) : Calls Tryz.prog 35 #[.iface 42 (.int .i64 n)] w fun e w' => e = .returned (.int .i64 n) ∧ Below w.heap.size w w' := by
  have hgA : ErrType (w.alloc (.cells #[.int .i64 0] 42)) := hg.below ((Below.refl _ _).alloc (Nat.le_refl _) _)
  have htA : (w.alloc (.cells #[.int .i64 0] 42)).cell? ⟨w.heap.size, 0, none⟩ = some (.int .i64 0) := by simp
  have hfA : (w.alloc (.cells #[.int .i64 0] 42)).frozen? ⟨w.heap.size, 0, none⟩ = false := by simp
  have cA := as_hit n ⟨w.heap.size, 0, none⟩ (.int .i64 0) _ hgA htA hfA
  clear hgA htA hfA hg
  go_enter Tryz.func35, Tryz.ntmps35
  go_wp2_with (go_at_call 86; refine cA.mono ?_; rintro e w' ⟨rfl, rfl⟩)
  go_ret
  refine ⟨rfl, ?_⟩
  repeat (first | exact Below.refl _ _ | refine Below.alloc ?_ (by simp; omega) _ | refine Below.alloc ?_ (by simp) _)
theorem tell_nil (w : World) : Calls Tryz.prog 35 #[.nilIface] w fun e w' => e = .returned (.int .i64 0) ∧ w' = w := by
  go_enter Tryz.func35, Tryz.ntmps35
  go_wp2
  go_ret
  exact ⟨rfl, rfl⟩
theorem place_nil (w : World) : Calls Tryz.prog 116 #[.nilIface] w fun e w' => e = .returned (.tuple #[.int .i64 0, .int .i64 (-1)]) ∧ w' = w := by
  go_enter Tryz.func116, Tryz.ntmps116
  go_wp2_with (go_at_call 35; refine (tell_nil _).mono ?_; rintro e w' ⟨rfl, rfl⟩)
  refine wp_loop_rounds 1 ?_
  rw [rounds_succ]
  go_wp2
  go_ret2
  exact ⟨rfl, rfl⟩
theorem Tryz.assert60 (v : Value) (w : World) : (Instr.typeAssert (.iface 42 v) 38 190 true).run Tryz.prog w = .ok (.tuple #[.pointer none, .bool false]) w := by kernel_rfl
theorem Tryz.assert63 (v : Value) (w : World) : (Instr.typeAssert (.iface 42 v) 38 193 true).run Tryz.prog w = .ok (.tuple #[.nilIface, .bool false]) w :=
  run_typeAssert_lacksB Tryz.underlying193 (by kernel_rfl) (by kernel_rfl) v 38 w
set_option maxHeartbeats 1000000 in
set_option maxRecDepth 100000 in
theorem place_err (n : Int) (w : World) (hg : ErrType w) : Calls Tryz.prog 116 #[.iface 42 (.int .i64 n)] w fun e w' => e = .returned (.tuple #[.int .i64 n, .int .i64 (-1)]) ∧ Below w.heap.size w w' := by
  have cT := tell_err n w hg
  have a60 := Tryz.assert60
  have a63 := Tryz.assert63
  clear hg
  go_enter Tryz.func116, Tryz.ntmps116
  go_wp2_with (go_at_call 35; refine cT.mono ?_; rintro e w1 ⟨rfl, hb1⟩)
  refine wp_loop_rounds 1 ?_
  rw [rounds_succ]
  go_wp2
  go_ret2
  exact ⟨rfl, by assumption⟩

theorem bareFault (e : Int) (w : World) : Calls Tryz.prog 64 #[.int .i64 e] w fun ev w' => ev = .returned (.agg #[.int .i64 e, .int .i64 (-1)]) ∧ Below w.heap.size w w' := by
  go_enter Tryz.func64, Tryz.ntmps64
  go_wp2
  exact bodyPost_ret (v := .agg #[.int .i64 e, .int .i64 (-1)]) (by simp [results, Tryz.results64, go_sem]) rfl ⟨rfl, (Below.refl _ _).alloc (Nat.le_refl _) _⟩

set_option maxHeartbeats 1000000 in
set_option maxRecDepth 100000 in
/-- The statements' 'is': an error of which Place tells n and q is the one with e and p, if they are the same. -/
theorem is_of (v : Value) (n q e p : Int) (w : World) (cP : ∀ w1, Below w.heap.size w w1 → Calls Tryz.prog 116 #[v] w1 fun ev w' => ev = .returned (.tuple #[.int .i64 n, .int .i64 q]) ∧ Below w1.heap.size w1 w') :
    Calls Tryz.prog 63 #[v, .agg #[.int .i64 e, .int .i64 p]] w fun ev w' => ev = .returned (.bool (n == e && q == p)) ∧ Below w.heap.size w w' := by
  have hbA : Below w.heap.size w (w.alloc (.cells #[.int .i64 e, .int .i64 p] 110)) := (Below.refl _ _).alloc (Nat.le_refl _) _
  have cP1 := cP _ hbA
  clear cP
  have c0 : (w.alloc (.cells #[.int .i64 e, .int .i64 p] 110)).cell? ⟨w.heap.size, 0, none⟩ = some (.int .i64 e) := by simp
  have c1 : (w.alloc (.cells #[.int .i64 e, .int .i64 p] 110)).cell? ⟨w.heap.size, 1, none⟩ = some (.int .i64 p) := by simp
  rcases hne : (n == e) with _ | _
  · rw [Bool.false_and]
    go_enter Tryz.func63, Tryz.ntmps63
    go_wp2_with (go_at_call 116; refine cP1.mono ?_; rintro ev w2 ⟨rfl, hb2⟩; have d0 := (hb2.cell (p := ⟨w.heap.size, 0, none⟩) (by simp)).trans c0; have d1 := (hb2.cell (p := ⟨w.heap.size, 1, none⟩) (by simp)).trans c1)
    go_ret
    exact ⟨rfl, hbA.trans (hb2.mono hbA.size)⟩
  · obtain rfl : n = e := by simpa using hne
    rw [Bool.true_and]
    clear hne
    rcases hnq : (q == p) with _ | _
    all_goals
      go_enter Tryz.func63, Tryz.ntmps63
      go_wp2_with (go_at_call 116; refine cP1.mono ?_; rintro ev w2 ⟨rfl, hb2⟩; have d0 := (hb2.cell (p := ⟨w.heap.size, 0, none⟩) (by simp)).trans c0; have d1 := (hb2.cell (p := ⟨w.heap.size, 1, none⟩) (by simp)).trans c1)
      go_ret
      exact ⟨rfl, hbA.trans (hb2.mono hbA.size)⟩

set_option maxHeartbeats 1000000 in
set_option maxRecDepth 100000 in
theorem bare_of (v : Value) (n e : Int) (w : World) (cP : ∀ w1, Below w.heap.size w w1 → Calls Tryz.prog 116 #[v] w1 fun ev w' => ev = .returned (.tuple #[.int .i64 n, .int .i64 (-1)]) ∧ Below w1.heap.size w1 w') :
    Calls Tryz.prog 16 #[v, .int .i64 e] w fun ev w' => ev = .returned (.bool (n == e)) ∧ Below w.heap.size w w' := by
  have cF := bareFault e w
  have cI : ∀ w1, Below w.heap.size w w1 → Calls Tryz.prog 63 #[v, .agg #[.int .i64 e, .int .i64 (-1)]] w1 fun ev w' => ev = .returned (.bool (n == e)) ∧ Below w1.heap.size w1 w' := by
    intro w1 hb
    refine (is_of v n (-1) e (-1) w1 (fun w2 hb2 => cP w2 (hb.trans (hb2.mono hb.size)))).mono ?_
    rintro ev w' ⟨rfl, hb'⟩
    exact ⟨by simp, hb'⟩
  clear cP
  go_enter Tryz.func16, Tryz.ntmps16
  go_wp2_with (first | (go_at_call 64; refine cF.mono ?_; rintro ev w1 ⟨rfl, hb1⟩) | (go_at_call 63; refine (cI _ hb1).mono ?_; rintro ev w2 ⟨rfl, hb2⟩))
  go_ret
  exact ⟨rfl, hb1.trans (hb2.mono hb1.size)⟩
theorem bare_nil (e : Int) (w : World) : Calls Tryz.prog 16 #[.nilIface, .int .i64 e] w fun ev w' => ev = .returned (.bool ((0 : Int) == e)) ∧ Below w.heap.size w w' :=
  bare_of .nilIface 0 e w (fun w1 _ => (place_nil w1).mono (by rintro ev w' ⟨rfl, rfl⟩; exact ⟨rfl, Below.refl _ _⟩))
theorem bare_err (n e : Int) (w : World) (hg : ErrType w) : Calls Tryz.prog 16 #[.iface 42 (.int .i64 n), .int .i64 e] w fun ev w' => ev = .returned (.bool (n == e)) ∧ Below w.heap.size w w' :=
  bare_of (.iface 42 (.int .i64 n)) n e w (fun w1 hb => place_err n w1 (hg.below hb))
end Go.Proofs.YtfdlopimncodcaaGreatDoor
namespace Go.Proofs.YtfdlopimncodcaaGreatDoor
open Go.RowKit Go.Proofs.Aid

/-- What houses read of the program's variables. -/
def HEnv (w : World) : Prop := NEnv w ∧ ErrType w ∧ 8 ≤ w.heap.size
theorem HEnv.below {w w' : World} (h : HEnv w) (hb : Below w.heap.size w w') : HEnv w' := ⟨h.1.below hb, h.2.1.below hb, Nat.le_trans h.2.2 hb.size⟩
theorem nm_ab : nameB [97, 47, 98] = some [97, 47, 98] := by kernel_rfl
theorem nm_a : nameB [97] = some [97] := by kernel_rfl
theorem nm_c : nameB [99] = some [99] := by kernel_rfl
theorem mt_c : matchB [99, 37] [99] = true := by kernel_rfl
theorem mt_cb : matchB [37] [99, 47, 98] = false := by kernel_rfl
theorem hs_1 (a : Nat) : hasB [(inboxN, a)] [97, 47, 98] = false ∧ lackB [(inboxN, a)] [97, 47, 98] = [[97]] := ⟨by kernel_rfl, by kernel_rfl⟩
theorem hs_2 (a b c : Nat) : putAll [(inboxN, a)] [([97], b), ([97, 47, 98], c)] = [(inboxN, a), ([97], b), ([97, 47, 98], c)] := by kernel_rfl
theorem hs_3 (a b c : Nat) : hasB [(inboxN, a), ([97], b), ([97, 47, 98], c)] [97] = true ∧ withinB [(inboxN, a), ([97], b), ([97, 47, 98], c)] [97] = [[97, 47, 98]] ∧ hasB [(inboxN, a), ([97], b), ([97, 47, 98], c)] [99] = false ∧ lackB [(inboxN, a), ([97], b), ([97, 47, 98], c)] [99] = [] := ⟨by kernel_rfl, by kernel_rfl, by kernel_rfl, by kernel_rfl⟩
theorem hs_4 (a b c : Nat) : ((mvNames [(inboxN, a), ([97], b), ([97, 47, 98], c)] [97]).any fun x => decide (60 < (calledB [99] [97] x).length)) = false := by kernel_rfl
theorem hs_5 (a b c : Nat) : mvAll [99] [97] (mvNames [(inboxN, a), ([97], b), ([97, 47, 98], c)] [97]) [(inboxN, a), ([97], b), ([97, 47, 98], c)] = [(inboxN, a), ([99], b), ([99, 47, 98], c)] := by kernel_rfl
/-- Names of a row, held against three names that were just laid. -/
theorem nequal3 {w : World} {base : Nat} {v : Value} {a b c : Nm} (h : NRow w base v [a, b, c]) (bk : Nat) (hbk : w.heap[bk]? = some (.cells #[encStr a, encStr b, encStr c] 9 (0, 0))) :
    Calls Tryz.prog 28 #[v, .slice (some ⟨bk, 0, none⟩) 3 3] w fun e w' => e = .returned (.bool true) ∧ Below w.heap.size w w' := by
  obtain ⟨g, cap, rfl, _⟩ := nrow_at h (j := 0) (x := a) rfl
  have hc : ∀ j, j < ([⟨a.toArray⟩, ⟨b.toArray⟩, ⟨c.toArray⟩] : List ByteArray).length → w.cell? ⟨g, 0 + j, none⟩ = some (.string (([⟨a.toArray⟩, ⟨b.toArray⟩, ⟨c.toArray⟩] : List ByteArray).getD j ByteArray.empty)) := fun j hj => by
    have hj3 : j < 3 := hj
    have key : ∀ (x : Nm), [a, b, c][j]? = some x → w.cell? ⟨g, 0 + j, none⟩ = some (.string ⟨x.toArray⟩) := fun x hx => by
      obtain ⟨g', cap', e1, e2⟩ := nrow_at h hx
      injection e1 with e1 _ _
      injection e1 with e1
      injection e1 with e1 _ _
      subst e1
      rw [Nat.zero_add]
      exact e2
    match j, hj3 with
    | 0, _ => exact key a rfl
    | 1, _ => exact key b rfl
    | 2, _ => exact key c rfl
  have hd : ∀ j, j < ([⟨a.toArray⟩, ⟨b.toArray⟩, ⟨c.toArray⟩] : List ByteArray).length → w.cell? ⟨bk, 0 + j, none⟩ = some (.string (([⟨a.toArray⟩, ⟨b.toArray⟩, ⟨c.toArray⟩] : List ByteArray).getD j ByteArray.empty)) := fun j hj => by
    have hj3 : j < 3 := hj
    match j, hj3 with
    | 0, _ => exact rd_cell hbk rfl
    | 1, _ => exact rd_cell hbk rfl
    | 2, _ => exact rd_cell hbk rfl
  have := Tryz.slices_Equal_string g 0 3 cap bk 0 3 3 [⟨a.toArray⟩, ⟨b.toArray⟩, ⟨c.toArray⟩] [⟨a.toArray⟩, ⟨b.toArray⟩, ⟨c.toArray⟩] w (Nat.le_refl 3) (Nat.le_refl 3) (by decide) (by decide) hc hd
  rw [decide_eq_true rfl] at this
  refine this.mono ?_
  rintro e w' ⟨rfl, q, rfl⟩
  exact ⟨rfl, below_drewN (Below.refl _ _) q⟩
theorem two_fst {ps : Bxs} {a b : Nm} (h : ps.map Prod.fst = [a, b]) : ∃ x y, ps = [(a, x), (b, y)] := by
  match ps, h with
  | [(p, x), (q, y)], h =>
    simp only [List.map_cons, List.map_nil, List.cons.injEq, and_true] at h
    exact ⟨x, y, by rw [h.1, h.2]⟩
set_option maxHeartbeats 8000000 in
set_option maxRecDepth 100000 in
theorem housed_is (w : World) (hE : HEnv w) :
    Calls Tryz.prog 25 #[] w fun e w' => e = .returned (.bool true) ∧ Below w.heap.size w w' := by
  obtain ⟨H, hH⟩ : ∃ k, w.heap.size = k := ⟨_, rfl⟩
  have cN := new_is w
  have HE : Hid (HEnv w ∧ w.heap.size = H) := ⟨hE, hH⟩
  rw [hH] at cN ⊢
  clear hE hH
  go_enter Tryz.func25, Tryz.ntmps25
  go_wp2_with fail
  refine cN.mono ?_
  rintro e w1 ⟨rfl, h1, _, hb1⟩
  have hG : 8 ≤ H := by rw [← HE.out.2]; exact HE.out.1.2.2
  have env1 := HE.out.1.below (by rw [HE.out.2]; exact hb1)
  have cC := create_is nameB (H + 1) H [(inboxN, H + 2)] 2 (.slice none 0 0) ⟨#[97, 47, 98]⟩ w1 (nameC env1.1) h1 (by decide) (by simp) (by decide)
  have HB1 : Hid (Below H w w1 ∧ HEnv w1) := ⟨hb1, env1⟩
  clear cN h1 hb1 env1
  go_wp2_with fail
  refine cC.mono ?_
  rintro e w2 hc
  obtain ⟨b, c, rfl, hk2, h2⟩ : ∃ b c, e = .returned .nilIface ∧ HK (H + 1) H w1 w2 ∧ HsAt w2 (H + 1) H [(inboxN, H + 2), ([97], b), ([97, 47, 98], c)] 4 (.slice none 0 0) := by
    have e0 : nameB (⟨#[97, 47, 98]⟩ : ByteArray).data.toList = some [97, 47, 98] := nm_ab
    rcases hc with ⟨c1, _⟩ | ⟨r, c1, c2, _⟩ | ⟨r, c1, _, c3, _⟩ | ⟨r, ps, c1, _, _, c4, c5, c6, c7⟩
    · rw [e0] at c1
      cases c1
    · rw [e0] at c1
      obtain rfl := Option.some.inj c1
      rw [(hs_1 _).1] at c2
      cases c2
    · rw [e0] at c1
      obtain rfl := Option.some.inj c1
      rw [(hs_1 _).2] at c3
      exact absurd c3 (by simp)
    · rw [e0] at c1
      obtain rfl := Option.some.inj c1
      have c61 := c6.1
      rw [(hs_1 _).2] at c61 c7
      obtain ⟨x, y, rfl⟩ := two_fst c61
      rw [hs_2] at c7
      exact ⟨x, y, c4, c5, c7⟩
  have hb2 : Below H w1 w2 := hk2.below (by rw [← HE.out.2]; exact (by have := HB1.out.1.size; exact this)) (by omega) (Nat.le_refl _)
  have cM := names_is (H + 1) H _ 4 (.slice none 0 0) w2 h2 (by simp)
  have HB2 : Hid (Below H w w2 ∧ NEnv w2 ∧ ErrType w2 ∧ HsAt w2 (H + 1) H [(inboxN, H + 2), ([97], b), ([97, 47, 98], c)] 4 (.slice none 0 0)) := by
    refine ⟨HB1.out.1.trans hb2, HB1.out.2.1.low (hb2.mono hG), ?_, h2⟩
    have := hb2.cell (p := ⟨1, 0, none⟩) (by show 1 < H; omega)
    exact this.trans HB1.out.2.2.1
  clear cC hc hk2 h2 hb2 HB1
  go_wp2_with fail
  refine cM.mono ?_
  rintro e w3 ⟨⟨v3, rfl, hrow3⟩, hb3⟩
  obtain ⟨va, vc, rfl⟩ : ∃ a c, v3 = .slice a 3 c := row_form hrow3
  have h3 := HB2.out.2.2.2.below hb3 (Nat.le_refl _)
  have cD := delete_is nameB (H + 1) H _ 4 (.slice none 0 0) ⟨#[97]⟩ w3 (nameC (HB2.out.2.1.below hb3)) h3 (by decide) (by simp)
  have HB3 : Hid (Below H w w3 ∧ NEnv w3 ∧ ErrType w3 ∧ HsAt w3 (H + 1) H [(inboxN, H + 2), ([97], b), ([97, 47, 98], c)] 4 (.slice none 0 0)) := ⟨HB2.out.1.trans (hb3.mono (by have := HB2.out.1.size; have := HE.out.2; omega)), HB2.out.2.1.below hb3, HB2.out.2.2.1.below hb3, h3⟩
  clear cM hrow3 hb3 h3 HB2
  go_wp2_with fail
  refine cD.mono ?_
  rintro e w4 hd
  obtain ⟨rfl, hb4⟩ : e = .returned (errN 6) ∧ Below w3.heap.size w3 w4 := by
    have e0 : nameB (⟨#[97]⟩ : ByteArray).data.toList = some [97] := nm_a
    rcases hd with ⟨c1, _⟩ | ⟨r, c1, c2, _⟩ | ⟨r, _, _, _, c4, c5⟩ | ⟨r, c1, _, _, c4, _⟩
    · rw [e0] at c1
      cases c1
    · rw [e0] at c1
      obtain rfl := Option.some.inj c1
      rw [(hs_3 _ _ _).1] at c2
      cases c2
    · exact ⟨c4, c5⟩
    · rw [e0] at c1
      obtain rfl := Option.some.inj c1
      rw [(hs_3 _ _ _).2.1] at c4
      cases c4
  have cT := tell_err 6 w4 (HB3.out.2.2.1.below hb4)
  have HB4 : Hid (Below H w w4 ∧ NEnv w4 ∧ HsAt w4 (H + 1) H [(inboxN, H + 2), ([97], b), ([97, 47, 98], c)] 4 (.slice none 0 0)) := ⟨HB3.out.1.trans (hb4.mono (by have := HB3.out.1.size; have := HE.out.2; omega)), HB3.out.2.1.below hb4, HB3.out.2.2.2.below hb4 (Nat.le_refl _)⟩
  clear cD hd hb4 HB3
  go_wp2_with fail
  refine cT.mono ?_
  rintro e w5 ⟨rfl, hb5⟩
  have h5 := HB4.out.2.2.below hb5 (Nat.le_refl _)
  have hz5 : H ≤ w5.heap.size := by have h1 := HB4.out.1.size; have h2 := HE.out.2; have h3 := hb5.size; omega
  have cR := rename_is nameB (H + 1) H _ 4 (.slice none 0 0) ⟨#[97]⟩ ⟨#[99]⟩ [97] [99] w5 (nameC (HB4.out.2.1.below hb5)) h5 (by omega) (by decide) (by decide) (by simp) (by simp [inboxN]) (by decide) nm_a (hs_3 _ _ _).1 nm_c (hs_3 _ _ _).2.2.1 (by decide)
  have HB5 : Hid (Below H w w5) := HB4.out.1.trans (hb5.mono (by have := HB4.out.1.size; have := HE.out.2; omega))
  clear cT hb5 h5 HB4
  go_wp2_with fail
  refine cR.mono ?_
  rintro e w6 hr
  obtain ⟨rfl, hk6, h6⟩ : e = .returned .nilIface ∧ HK (H + 1) H w5 w6 ∧ HsAt w6 (H + 1) H [(inboxN, H + 2), ([99], b), ([99, 47, 98], c)] 4 (.slice none 0 0) := by
    rcases hr with ⟨c1, _⟩ | ⟨_, c2, _⟩ | ⟨_, _, c3, _⟩ | ⟨_, _, _, c4, c5, ps, c6, c7⟩
    · exact absurd c1 (by decide)
    · rw [hs_4] at c2
      cases c2
    · rw [(hs_3 _ _ _).2.2.2] at c3
      exact absurd c3 (by simp)
    · have c61 := c6.1
      rw [(hs_3 _ _ _).2.2.2] at c61 c7
      obtain rfl : ps = [] := List.map_eq_nil_iff.1 c61
      rw [show putAll [(inboxN, H + 2), ([97], b), ([97, 47, 98], c)] [] = [(inboxN, H + 2), ([97], b), ([97, 47, 98], c)] from rfl, hs_5] at c7
      exact ⟨c4, c5, c7⟩
  have hb6 : Below H w5 w6 := hk6.below hz5 (by omega) (Nat.le_refl _)
  have cM2 := names_is (H + 1) H _ 4 (.slice none 0 0) w6 h6 (by simp)
  have HB6 : Hid (Below H w w6) := HB5.out.trans hb6
  clear cR hr hk6 h6 hb6 HB5
  go_wp2_with fail
  refine cM2.mono ?_
  rintro e w7 ⟨⟨v7, rfl, hrow7⟩, hb7⟩
  obtain ⟨ua, uc, rfl⟩ : ∃ a c, v7 = .slice a 3 c := row_form hrow7
  have b8 : Below w7.heap.size w7 (w7.alloc (.cells #[.string ⟨#[73, 78, 66, 79, 88]⟩, .string ⟨#[99]⟩, .string ⟨#[99, 47, 98]⟩] 9)) := (Below.refl _ _).alloc (Nat.le_refl _) _
  have e8 := heap_alloc_new w7 (.cells #[.string ⟨#[73, 78, 66, 79, 88]⟩, .string ⟨#[99]⟩, .string ⟨#[99, 47, 98]⟩] 9)
  obtain ⟨W8, hW8⟩ : ∃ W, w7.alloc (.cells #[.string ⟨#[73, 78, 66, 79, 88]⟩, .string ⟨#[99]⟩, .string ⟨#[99, 47, 98]⟩] 9) = W := ⟨_, rfl⟩
  rw [hW8] at b8 e8
  have cQ := nequal3 (hrow7.below b8 (Nat.le_refl _)) w7.heap.size e8
  have HB8 : Hid (Below H w W8) := HB6.out.trans ((hb7.trans (b8.mono hb7.size)).mono (by have := HB6.out.size; have := HE.out.2; omega))
  clear cM2 hrow7 hb7 b8 e8 HB6
  go_wp2_with fail
  refine cQ.mono ?_
  rintro e w9 ⟨rfl, hb9⟩
  have cX := match_is ⟨#[99, 37]⟩ ⟨#[99]⟩ w9 (by decide) (by decide)
  rw [show matchB (⟨#[99, 37]⟩ : ByteArray).data.toList (⟨#[99]⟩ : ByteArray).data.toList = true from mt_c] at cX
  have HB9 : Hid (Below H w w9) := HB8.out.trans (hb9.mono (by have := HB8.out.size; have := HE.out.2; omega))
  clear cQ hb9 HB8
  go_wp2_with fail
  refine cX.mono ?_
  rintro e w10 ⟨rfl, hb10⟩
  have cY := match_is ⟨#[37]⟩ ⟨#[99, 47, 98]⟩ w10 (by decide) (by decide)
  rw [show matchB (⟨#[37]⟩ : ByteArray).data.toList (⟨#[99, 47, 98]⟩ : ByteArray).data.toList = false from mt_cb] at cY
  have HB10 : Hid (Below H w w10) := HB9.out.trans (hb10.mono (by have := HB9.out.size; have := HE.out.2; omega))
  clear cX hb10 HB9
  go_wp2_with fail
  refine cY.mono ?_
  rintro e w11 ⟨rfl, hb11⟩
  have HB11 : Hid (Below H w w11) := HB10.out.trans (hb11.mono (by have := HB10.out.size; have := HE.out.2; omega))
  clear cY hb11 HB10
  go_wp2_with fail
  go_ret
  exact ⟨rfl, HB11.out⟩
end Go.Proofs.YtfdlopimncodcaaGreatDoor
