/-
  Parts of commands, and the reader of them, in memory, and more.
-/
import Derived.Test.YtogigccbnohjjaaGreatDoorBpWireTx
import Derived.Test.YtogigccbnohjjaaGreatDoorBpHeadAny2
import Derived.LaidEql
import Derived.Stop.Asserts
import Derived.RowKitTokens
namespace Go.Proofs.YtogigccbnohjjaaGreatDoor
open Go.RowKit Go.Proofs.Aid Go.Proofs.Sq
set_option maxHeartbeats 2000000
set_option maxRecDepth 100000
def RdS (w : World) (rb : Nat) (v : Value) (c : Nat) : Prop := w.heap[rb]? = some (.cells #[v, .int .i64 (c : Int)] 60 (0, 0))
def thrown (e : Int) : Ending := .panicked [{ v := .iface 33 (.int .i64 e), recovered := false }]
theorem word_bad (rb c B : Nat) (l : List Sr.Ar) (v : Value) (Ok : Nat → Prop) (w : World) (hr : RdS w rb v c) (hl : Ags w Ok B l v) (h : Sr.wordF l c = .bad 3) :
  Calls Tryz.prog 64 #[.pointer (some ⟨rb, 0, none⟩)] w fun e w' => e = thrown 3 ∧ w' = w := by
 have p0 : w.cell? ⟨rb, 0, none⟩ = some v := rd_cell hr rfl
 cases l with
 | nil =>
  obtain ⟨a, cc, rfl⟩ := hl.nil
  go_enter Tryz.func64, Tryz.ntmps64
  go_wp2_with fail
  exact ⟨rfl, rfl, rfl⟩
 | cons x l =>
  have hk : x.kind = 3 := by
   rw [Sr.wordF] at h
   split at h
   ·assumption
   ·cases h
  obtain ⟨b, o, C, tb, lv, rfl, hC, hC2, _, _, _, _, c1, c2, c3, _⟩ := hl.head
  rw [hk] at c1
  obtain ⟨L, hL⟩ : ∃ L, l.length = L := ⟨_, rfl⟩
  rw [hL] at hC p0
  have i1 : (((L : Int) + 1) == 0) = false := by simp; omega
  clear hl h hk hL
  go_enter Tryz.func64, Tryz.ntmps64
  go_wp2_with fail
  exact ⟨rfl, rfl, rfl⟩
theorem word_ok (rb c B : Nat) (x : Sr.Ar) (l : List Sr.Ar) (v : Value) (Ok : Nat → Prop) (w : World) (hr : RdS w rb v c) (hl : Ags w Ok B (x :: l) v) (hO : ∀ k, Ok k → k ≠ rb) (hk : x.kind ≠ 3) :
  Calls Tryz.prog 64 #[.pointer (some ⟨rb, 0, none⟩)] w fun e w' => ∃ (tb : ByteArray) (v' : Value), tb.data.toList = x.text ∧ tb.size ≤ B ∧ e = .returned (.string tb) ∧ RdS w' rb v' c ∧ Ags w' Ok B l v' ∧ But w.heap.size rb w w' := by
 have p0 : w.cell? ⟨rb, 0, none⟩ = some v := rd_cell hr rfl
 have f0 : w.frozen? ⟨rb, 0, none⟩ = false := rd_free hr 0
 obtain ⟨b, o, C, tb, lv, rfl, hC, hC2, _, htb, hsz, _, c1, c2, c3, hrest⟩ := hl.head
 have hkb : (x.kind == 3) = false := by simpa using hk
 obtain ⟨K, hK⟩ : ∃ K, x.kind = K := ⟨_, rfl⟩
 rw [hK] at c1 hkb
 have HR : Hid (∀ v', RdS (w.setCell ⟨rb, 0, none⟩ v') rb v' c) := fun v' => by
  show _ = _
  exact rd_set (i := 0) v' hr
 have HA : Hid (∀ v', Ags (w.setCell ⟨rb, 0, none⟩ v') Ok B l (.slice (if C = 0 then some ⟨b, o, none⟩ else some ⟨b, o + 3, none⟩) l.length C)) := fun v' => hrest.kept fun k hk _ => ⟨hk, Below.heap_setCell _ _ _ _ (hO k hk)⟩
 have HT : Hid (tb.data.toList = x.text ∧ tb.size ≤ B) := ⟨htb, hsz⟩
 obtain ⟨L, hL⟩ : ∃ L, l.length = L := ⟨_, rfl⟩
 rw [hL] at hC p0 HA
 have i1 : (((L : Int) + 1) == 0) = false := by simp; omega
 have i2 : (1 : Int) ≤ (L : Int) + 1 := by omega
 have i3 : (L : Int) + 1 ≤ (C : Int) + 1 := by omega
 clear hl hrest hk hL hK hr htb hsz
 go_enter Tryz.func64, Tryz.ntmps64
 rcases Nat.eq_zero_or_pos C with hC0 | hC0
 ·subst hC0
  obtain rfl : L = 0 := by omega
  have hA := HA.out (.slice (some ⟨b, o, none⟩) 0 0)
  rw [if_pos rfl] at hA
  have HA2 : Hid (Ags (w.setCell ⟨rb, 0, none⟩ (.slice (some ⟨b, o, none⟩) 0 0)) Ok B l (.slice (some ⟨b, o, none⟩) 0 0)) := hA
  clear hA HA
  go_wp2_with fail
  go_ret
  exact ⟨tb, _, HT.out.1, HT.out.2, rfl, HR.out _, HA2.out, (to_but (Below.refl _ w)).setB 0 _⟩
 ·have hC1 : ¬ C = 0 := by omega
  have hA := HA.out (.slice (some ⟨b, o + 3, none⟩) L C)
  rw [if_neg hC1] at hA
  have HA2 : Hid (Ags (w.setCell ⟨rb, 0, none⟩ (.slice (some ⟨b, o + 3, none⟩) L C)) Ok B l (.slice (some ⟨b, o + 3, none⟩) L C)) := hA
  clear hA HA
  go_wp2_with fail
  go_ret
  exact ⟨tb, _, HT.out.1, HT.out.2, rfl, HR.out _, HA2.out, (to_but (Below.refl _ w)).setB 0 _⟩
theorem check_nil (w : World) : Calls Tryz.prog 94 #[.nilIface] w fun e w' => e = .returned (.tuple #[]) ∧ w' = w := by
 go_enter Tryz.func94, Tryz.ntmps94
 go_wp2_with fail
 first
  | go_end0
  | refine bodyPost_ret (results_none rfl _ _ _) rfl ?_
 exact ⟨rfl, rfl⟩
end Go.Proofs.YtogigccbnohjjaaGreatDoor
namespace Go.Proofs.YtogigccbnohjjaaGreatDoor
open Go.RowKit Go.Extern.Stop Go.Stop Go.Extern
theorem Tryz.valueOf70 (t : Addr) (w : World) : (ReflectliteValue.unpack (.iface 146 (.pointer (some t)))).run Tryz.prog w
  = .ok (.agg #[.pointer (some ⟨11, 146, none⟩), .pointer (some ⟨w.heap.size, 0, none⟩), .int .u64 150]) (w.alloc (.cells #[.pointer (some t)] 146)) := by kernel_rfl
theorem Tryz.type70 (a : Addr) (w : World) : (ReflectliteValue.methodAny (ReflectliteValue.valueError "reflectlite.Value.Type" 0) (fun t _ _ _ => ReflectliteType.toType t) #[.agg #[.pointer (some ⟨11, 146, none⟩), .pointer (some a), .int .u64 150]]).run Tryz.prog w
  = .ok (.iface 193 (.agg #[.pointer (some ⟨11, 146, none⟩)])) w := by kernel_rfl
theorem Tryz.methodKind (h : Value) (w : World) : (Go.method 377 193 (.agg #[h]) "Kind").run Tryz.prog w = .ok (202, h) w := by kernel_rfl
theorem Tryz.kind70 (w : World) : ((ReflectliteType.abiMethod fun t => (fun a : Nat => Value.int IntKind.u8 (a : Int)) <$> Rtype.kind t) #[.pointer (some ⟨11, 146, none⟩)]).run Tryz.prog w = .ok (.int .u8 22) w := by kernel_rfl
theorem Tryz.kind22 (w : World) : ((ReflectliteType.abiMethod fun t => (fun a : Nat => Value.int IntKind.u8 (a : Int)) <$> Rtype.kind t) #[.pointer (some ⟨11, 33, none⟩)]).run Tryz.prog w = .ok (.int .u8 2) w := by kernel_rfl
theorem Tryz.parts70 (a : Addr) (w : World) : (ReflectliteValue.parts (.agg #[.pointer (some ⟨11, 146, none⟩), .pointer (some a), .int .u64 150])).run Tryz.prog w = .ok (some (146, a, 150)) w := by kernel_rfl
theorem Tryz.isNil70 (a p : Addr) (W : World) (ha : W.cell? a = some (.pointer (some p))) :
  (ReflectliteValue.method (ReflectliteValue.valueError "reflectlite.Value.IsNil" 0) ReflectliteValue.isNil #[.agg #[.pointer (some ⟨11, 146, none⟩), .pointer (some a), .int .u64 150]]).run Tryz.prog W = .ok (.bool false) W := by
 show (Bind.bind (ReflectliteValue.parts (.agg #[.pointer (some ⟨11, 146, none⟩), .pointer (some a), .int .u64 150])) _).run Tryz.prog W = _
 simp only [Sem.run_bind, Tryz.parts70, Result.andThen]
 simp [ReflectliteValue.isNil, loadVar, isAgg, underlying, Tryz.underlying146, ha, Result.andThen]
theorem Tryz.methodElem (h : Value) (w : World) : (Go.method 377 193 (.agg #[h]) "Elem").run Tryz.prog w = .ok (217, .agg #[h]) w := by kernel_rfl
theorem Tryz.methodAssignableTo (h : Value) (w : World) : (Go.method 377 193 (.agg #[h]) "AssignableTo").run Tryz.prog w = .ok (215, .agg #[h]) w := by kernel_rfl
theorem Tryz.elem70 (w : World) : (ReflectliteType.method ReflectliteType.elem #[.agg #[.pointer (some ⟨11, 146, none⟩)]]).run Tryz.prog w = .ok (.iface 193 (.agg #[.pointer (some ⟨11, 33, none⟩)])) w := by kernel_rfl
theorem Tryz.methodImplements (h : Value) (w : World) : (Go.method 377 193 (.agg #[h]) "Implements").run Tryz.prog w = .ok (218, .agg #[h]) w := by kernel_rfl
theorem Tryz.implements22 (w : World) : (ReflectliteType.relation "Implements" ReflectliteType.implements_ #[.agg #[.pointer (some ⟨11, 33, none⟩)], .iface 193 (.agg #[.pointer (some ⟨11, 37, none⟩)])]).run Tryz.prog w = .ok (.bool true) w := by kernel_rfl
theorem Tryz.typeOf22 (v : Value) (w : World) : (ReflectliteType.typeOf #[.iface 33 v]).run Tryz.prog w = .ok (.iface 193 (.agg #[.pointer (some ⟨11, 33, none⟩)])) w := by kernel_rfl
theorem Tryz.assignable22 (w : World) : (ReflectliteType.relation "AssignableTo" ReflectliteType.assignableTo #[.agg #[.pointer (some ⟨11, 33, none⟩)], .iface 193 (.agg #[.pointer (some ⟨11, 33, none⟩)])]).run Tryz.prog w = .ok (.bool true) w := by kernel_rfl
theorem Tryz.valueOf22 (n : Int) (w : World) : (ReflectliteValue.unpack (.iface 33 (.int .i64 n))).run Tryz.prog w
  = .ok (.agg #[.pointer (some ⟨11, 33, none⟩), .pointer (some ⟨w.heap.size, 0, none⟩), .int .u64 130]) (w.alloc (.cells #[.int .i64 n] 33)) := by kernel_rfl
theorem Tryz.elemOf70 (w : World) : (Rtype.elem? 146).run Tryz.prog w = .ok (some 33) w := by kernel_rfl
theorem Tryz.mk22 (p : Addr) (w : World) : (ReflectliteValue.mk 33 p ReflectliteValue.flagAddr).run Tryz.prog w = .ok (.agg #[.pointer (some ⟨11, 33, none⟩), .pointer (some p), .int .u64 386]) w := by kernel_rfl
theorem Tryz.elemV70 (a p : Addr) (W : World) (ha : W.cell? a = some (.pointer (some p))) :
  (ReflectliteValue.method (ReflectliteValue.valueError "reflectlite.Value.Elem" 0) ReflectliteValue.elem #[.agg #[.pointer (some ⟨11, 146, none⟩), .pointer (some a), .int .u64 150]]).run Tryz.prog W
   = .ok (.agg #[.pointer (some ⟨11, 33, none⟩), .pointer (some p), .int .u64 386]) W := by
 show (Bind.bind (ReflectliteValue.parts (.agg #[.pointer (some ⟨11, 146, none⟩), .pointer (some a), .int .u64 150])) _).run Tryz.prog W = _
 simp only [Sem.run_bind, Tryz.parts70, Result.andThen]
 simp [ReflectliteValue.elem, loadVar, isAgg, underlying, Tryz.underlying146, ha, Result.andThen, Tryz.elemOf70, Tryz.mk22]
theorem Tryz.parts22a (a : Addr) (w : World) : (ReflectliteValue.parts (.agg #[.pointer (some ⟨11, 33, none⟩), .pointer (some a), .int .u64 386])).run Tryz.prog w = .ok (some (33, a, 386)) w := by kernel_rfl
theorem Tryz.parts22 (a : Addr) (w : World) : (ReflectliteValue.parts (.agg #[.pointer (some ⟨11, 33, none⟩), .pointer (some a), .int .u64 130])).run Tryz.prog w = .ok (some (33, a, 130)) w := by kernel_rfl
theorem Tryz.direct22 (w : World) : (Rtype.directlyAssignable 33 33).run Tryz.prog w = .ok true w := by kernel_rfl
end Go.Proofs.YtogigccbnohjjaaGreatDoor
namespace Go.Proofs.YtogigccbnohjjaaGreatDoor
open Go.RowKit Go.Extern.Stop Go.Stop Go.Extern Go.Proofs.Aid
set_option maxHeartbeats 4000000
set_option maxRecDepth 100000
theorem Tryz.set22 (ta b : Addr) (n : Int) (old : Value) (W : World) (hb : W.cell? b = some (.int .i64 n)) (ht : W.cell? ta = some old) (hf : W.frozen? ta = false) :
  (ReflectliteValue.set #[.agg #[.pointer (some ⟨11, 33, none⟩), .pointer (some ta), .int .u64 386], .agg #[.pointer (some ⟨11, 33, none⟩), .pointer (some b), .int .u64 130]]).run Tryz.prog W
   = .ok (.tuple #[]) (W.setCell ta (.int .i64 n)) := by
 show (Bind.bind (ReflectliteValue.parts (.agg #[.pointer (some ⟨11, 33, none⟩), .pointer (some ta), .int .u64 386])) (fun _ => Bind.bind (ReflectliteValue.parts (.agg #[.pointer (some ⟨11, 33, none⟩), .pointer (some b), .int .u64 130])) (fun _ => _))).run Tryz.prog W = _
 simp only [Sem.run_bind, Tryz.parts22a, Tryz.parts22, Result.andThen]
 simp [ReflectliteValue.flagAddr, loadVar, isAgg, underlying, Tryz.underlying33, hb, Result.andThen, Tryz.direct22, storeVar, Value.cells, storeCells, Addr.add]
 rw [run_store Tryz.prog W ta _ _ (by rfl)]
 simp [ht, hf]
def ErrType (w : World) : Prop := w.cell? ⟨2, 0, none⟩ = some (.iface 193 (.agg #[.pointer (some ⟨11, 37, none⟩)]))
theorem ErrType.lt {w : World} (h : ErrType w) : 2 < w.heap.size := World.block_lt_of_cell? w ⟨2, 0, none⟩ h
theorem ErrType.below {w w' : World} (h : ErrType w) (hb : Below w.heap.size w w') : ErrType w' := by
 have := hb.cell (p := ⟨2, 0, none⟩) h.lt
 exact this.trans h
theorem as_hit (n : Int) (t : Addr) (old : Value) (w : World) (hg : ErrType w) (ht0 : w.cell? t = some old) (hf0 : w.frozen? t = false) :
  Calls Tryz.prog 96 #[.iface 33 (.int .i64 n), .iface 146 (.pointer (some t))] w fun ev w' => ev = .returned (.bool true) ∧ w' = ((((w.alloc (.cells #[.pointer (some t)] 146)).alloc (.cells #[.pointer (some ⟨11, 146, none⟩), .pointer (some ⟨w.heap.size, 0, none⟩), .int .u64 150] 166)).alloc (.cells #[.pointer (some ⟨11, 146, none⟩), .pointer (some ⟨w.heap.size, 0, none⟩), .int .u64 150] 166)).alloc (.cells #[.int .i64 n] 33)).setCell t (.int .i64 n) := by
 have h36 := @run_callFunc_extern Tryz.prog 117 _ (fun args => ReflectliteValue.unpack (args.getD 0 (.tuple #[]))) Tryz.func117 (by kernel_rfl) (by kernel_rfl) (by kernel_rfl) (by kernel_rfl)
 have h37 := @run_callFunc_extern Tryz.prog 118 _ (ReflectliteValue.methodAny (ReflectliteValue.valueError "reflectlite.Value.Type" 0) (fun t _ _ _ => ReflectliteType.toType t)) Tryz.func118 (by kernel_rfl) (by kernel_rfl) (by kernel_rfl) (by kernel_rfl)
 have h38 := @run_callFunc_extern Tryz.prog 119 _ (ReflectliteValue.method (ReflectliteValue.valueError "reflectlite.Value.IsNil" 0) ReflectliteValue.isNil) Tryz.func119 (by kernel_rfl) (by kernel_rfl) (by kernel_rfl) (by kernel_rfl)
 have h57 := @run_callFunc_extern Tryz.prog 202 _ (ReflectliteType.abiMethod fun t => do pure (.int .u8 (← Rtype.kind t))) Tryz.func202 (by kernel_rfl) (by kernel_rfl) (by kernel_rfl) (by kernel_rfl)
 have h69 := @run_callFunc_extern Tryz.prog 217 _ (ReflectliteType.method ReflectliteType.elem) Tryz.func217 (by kernel_rfl) (by kernel_rfl) (by kernel_rfl) (by kernel_rfl)
 have h70 := @run_callFunc_extern Tryz.prog 218 _ (ReflectliteType.relation "Implements" ReflectliteType.implements_) Tryz.func218 (by kernel_rfl) (by kernel_rfl) (by kernel_rfl) (by kernel_rfl)
 have h40 := @run_callFunc_extern Tryz.prog 140 _ ReflectliteType.typeOf Tryz.func140 (by kernel_rfl) (by kernel_rfl) (by kernel_rfl) (by kernel_rfl)
 have h67 := @run_callFunc_extern Tryz.prog 215 _ (ReflectliteType.relation "AssignableTo" ReflectliteType.assignableTo) Tryz.func215 (by kernel_rfl) (by kernel_rfl) (by kernel_rfl) (by kernel_rfl)
 have h41 := @run_callFunc_extern Tryz.prog 141 _ (ReflectliteValue.method (ReflectliteValue.valueError "reflectlite.Value.Elem" 0) ReflectliteValue.elem) Tryz.func141 (by kernel_rfl) (by kernel_rfl) (by kernel_rfl) (by kernel_rfl)
 have h42 := @run_callFunc_extern Tryz.prog 142 _ ReflectliteValue.set Tryz.func142 (by kernel_rfl) (by kernel_rfl) (by kernel_rfl) (by kernel_rfl)
 have tO := Tryz.typeOf22
 have mA := Tryz.methodAssignableTo
 have a22 := Tryz.assignable22
 have v22 := Tryz.valueOf22
 have f36 := Tryz.valueOf70
 have f37 := Tryz.type70
 have mK := Tryz.methodKind
 have mE := Tryz.methodElem
 have mI := Tryz.methodImplements
 have k70 := Tryz.kind70
 have k22 := Tryz.kind22
 have e70 := Tryz.elem70
 have i22 := Tryz.implements22
 have hlt := hg.lt
 unfold ErrType at hg
 have n8 := Tryz.isNil70 ⟨w.heap.size, 0, none⟩ t ((w.alloc (.cells #[.pointer (some t)] 146)).alloc (.cells #[.pointer (some ⟨11, 146, none⟩), .pointer (some ⟨w.heap.size, 0, none⟩), .int .u64 150] 166)) (by simp)
 have hg2 : ((w.alloc (.cells #[.pointer (some t)] 146)).alloc (.cells #[.pointer (some ⟨11, 146, none⟩), .pointer (some ⟨w.heap.size, 0, none⟩), .int .u64 150] 166)).cell? ⟨2, 0, none⟩ = some (.iface 193 (.agg #[.pointer (some ⟨11, 37, none⟩)])) := by
  rw [World.cell?_alloc_lt _ _ ⟨2, 0, none⟩ (by simp; omega), World.cell?_alloc_lt _ _ ⟨2, 0, none⟩ hlt]; exact hg
 have htl : t.block < w.heap.size := World.block_lt_of_cell? w t ht0
 have el := Tryz.elemV70 ⟨w.heap.size, 0, none⟩ t (((w.alloc (.cells #[.pointer (some t)] 146)).alloc (.cells #[.pointer (some ⟨11, 146, none⟩), .pointer (some ⟨w.heap.size, 0, none⟩), .int .u64 150] 166)).alloc (.cells #[.pointer (some ⟨11, 146, none⟩), .pointer (some ⟨w.heap.size, 0, none⟩), .int .u64 150] 166)) (by rw [World.cell?_alloc_lt _ _ ⟨w.heap.size, 0, none⟩ (by simp; omega)]; simp)
 have st := Tryz.set22 t ⟨w.heap.size + 1 + 1 + 1, 0, none⟩ n old ((((w.alloc (.cells #[.pointer (some t)] 146)).alloc (.cells #[.pointer (some ⟨11, 146, none⟩), .pointer (some ⟨w.heap.size, 0, none⟩), .int .u64 150] 166)).alloc (.cells #[.pointer (some ⟨11, 146, none⟩), .pointer (some ⟨w.heap.size, 0, none⟩), .int .u64 150] 166)).alloc (.cells #[.int .i64 n] 33))
  (by rw [World.cell?_alloc_at _ _ _ _ (by simp)]; rfl)
  (by rw [World.cell?_alloc_lt _ _ t (by simp; omega), World.cell?_alloc_lt _ _ t (by simp; omega), World.cell?_alloc_lt _ _ t (by simp; omega), World.cell?_alloc_lt _ _ t htl]; exact ht0)
  (by rw [World.frozen?_alloc_old _ _ t (by simp; omega), World.frozen?_alloc_old _ _ t (by simp; omega), World.frozen?_alloc_old _ _ t (by simp; omega), World.frozen?_alloc_old _ _ t (Nat.ne_of_lt htl)]; exact hf0)
 go_enter Tryz.func96, Tryz.ntmps96
 go_wp2
 refine wp_loop_rounds 1 ?_
 rw [rounds_succ]
 go_wp2
 go_ret
 exact ⟨rfl, rfl⟩
end Go.Proofs.YtogigccbnohjjaaGreatDoor
namespace Go.Proofs.YtogigccbnohjjaaGreatDoor
open Go.RowKit Go.Extern.Stop Go.Stop Go.Extern Go.Proofs.Aid
set_option maxHeartbeats 2000000
set_option maxRecDepth 100000
theorem tell_err (n : Int) (w : World) (hg : ErrType w) : Calls Tryz.prog 72 #[.iface 33 (.int .i64 n)] w fun e w' => e = .returned (.int .i64 n) ∧ Below w.heap.size w w' := by
 have hgA : ErrType (w.alloc (.cells #[.int .i64 0] 33)) := hg.below ((Below.refl _ _).alloc (Nat.le_refl _) _)
 have htA : (w.alloc (.cells #[.int .i64 0] 33)).cell? ⟨w.heap.size, 0, none⟩ = some (.int .i64 0) := by simp
 have hfA : (w.alloc (.cells #[.int .i64 0] 33)).frozen? ⟨w.heap.size, 0, none⟩ = false := by simp
 have cA := as_hit n ⟨w.heap.size, 0, none⟩ (.int .i64 0) _ hgA htA hfA
 clear hgA htA hfA hg
 go_enter Tryz.func72, Tryz.ntmps72
 go_wp2_with (go_at_call 96; refine cA.mono ?_; rintro e w' ⟨rfl, rfl⟩)
 go_ret
 refine ⟨rfl, ?_⟩
 repeat (first | exact Below.refl _ _ | refine Below.alloc ?_ (by simp; omega) _ | refine Below.alloc ?_ (by simp) _)
theorem tell_nil (w : World) : Calls Tryz.prog 72 #[.nilIface] w fun e w' => e = .returned (.int .i64 0) ∧ w' = w := by
 go_enter Tryz.func72, Tryz.ntmps72
 go_wp2
 go_ret
 exact ⟨rfl, rfl⟩
theorem place_nil (w : World) : Calls Tryz.prog 39 #[.nilIface] w fun e w' => e = .returned (.tuple #[.int .i64 0, .int .i64 (-1)]) ∧ w' = w := by
 go_enter Tryz.func39, Tryz.ntmps39
 go_wp2_with (go_at_call 72; refine (tell_nil _).mono ?_; rintro e w' ⟨rfl, rfl⟩)
 refine wp_loop_rounds 1 ?_
 rw [rounds_succ]
 go_wp2
 go_ret2
 exact ⟨rfl, rfl⟩
theorem Tryz.assert60 (v : Value) (w : World) : (Instr.typeAssert (.iface 33 v) 37 116 true).run Tryz.prog w = .ok (.tuple #[.pointer none, .bool false]) w := by kernel_rfl
theorem Tryz.assert63 (v : Value) (w : World) : (Instr.typeAssert (.iface 33 v) 37 119 true).run Tryz.prog w = .ok (.tuple #[.nilIface, .bool false]) w :=
 run_typeAssert_lacksB Tryz.underlying119 (by kernel_rfl) (by kernel_rfl) v 37 w
theorem place_err (n : Int) (w : World) (hg : ErrType w) : Calls Tryz.prog 39 #[.iface 33 (.int .i64 n)] w fun e w' => e = .returned (.tuple #[.int .i64 n, .int .i64 (-1)]) ∧ Below w.heap.size w w' := by
 have cT := tell_err n w hg
 have a60 := Tryz.assert60
 have a63 := Tryz.assert63
 clear hg
 go_enter Tryz.func39, Tryz.ntmps39
 go_wp2_with (go_at_call 72; refine cT.mono ?_; rintro e w1 ⟨rfl, hb1⟩)
 refine wp_loop_rounds 1 ?_
 rw [rounds_succ]
 go_wp2
 go_ret2
 exact ⟨rfl, by assumption⟩
theorem bareFault (e : Int) (w : World) : Calls Tryz.prog 19 #[.int .i64 e] w fun ev w' => ev = .returned (.agg #[.int .i64 e, .int .i64 (-1)]) ∧ Below w.heap.size w w' := by
 go_enter Tryz.func19, Tryz.ntmps19
 go_wp2
 exact bodyPost_ret (v := .agg #[.int .i64 e, .int .i64 (-1)]) (by simp [results, Tryz.results19, go_sem]) rfl ⟨rfl, (Below.refl _ _).alloc (Nat.le_refl _) _⟩
theorem is_of (v : Value) (n q e p : Int) (w : World) (cP : ∀ w1, Below w.heap.size w w1 → Calls Tryz.prog 39 #[v] w1 fun ev w' => ev = .returned (.tuple #[.int .i64 n, .int .i64 q]) ∧ Below w1.heap.size w1 w') :
  Calls Tryz.prog 18 #[v, .agg #[.int .i64 e, .int .i64 p]] w fun ev w' => ev = .returned (.bool (n == e && q == p)) ∧ Below w.heap.size w w' := by
 have hbA : Below w.heap.size w (w.alloc (.cells #[.int .i64 e, .int .i64 p] 50)) := (Below.refl _ _).alloc (Nat.le_refl _) _
 have cP1 := cP _ hbA
 clear cP
 have c0 : (w.alloc (.cells #[.int .i64 e, .int .i64 p] 50)).cell? ⟨w.heap.size, 0, none⟩ = some (.int .i64 e) := by simp
 have c1 : (w.alloc (.cells #[.int .i64 e, .int .i64 p] 50)).cell? ⟨w.heap.size, 1, none⟩ = some (.int .i64 p) := by simp
 rcases hne : (n == e) with _ | _
 ·rw [Bool.false_and]
  go_enter Tryz.func18, Tryz.ntmps18
  go_wp2_with (go_at_call 39; refine cP1.mono ?_; rintro ev w2 ⟨rfl, hb2⟩; have d0 := (hb2.cell (p := ⟨w.heap.size, 0, none⟩) (by simp)).trans c0; have d1 := (hb2.cell (p := ⟨w.heap.size, 1, none⟩) (by simp)).trans c1)
  go_ret
  exact ⟨rfl, hbA.trans (hb2.mono hbA.size)⟩
 ·obtain rfl : n = e := by simpa using hne
  rw [Bool.true_and]
  clear hne
  rcases hnq : (q == p) with _ | _
  all_goals
   go_enter Tryz.func18, Tryz.ntmps18
   go_wp2_with (go_at_call 39; refine cP1.mono ?_; rintro ev w2 ⟨rfl, hb2⟩; have d0 := (hb2.cell (p := ⟨w.heap.size, 0, none⟩) (by simp)).trans c0; have d1 := (hb2.cell (p := ⟨w.heap.size, 1, none⟩) (by simp)).trans c1)
   go_ret
   exact ⟨rfl, hbA.trans (hb2.mono hbA.size)⟩
theorem bare_of (v : Value) (n e : Int) (w : World) (cP : ∀ w1, Below w.heap.size w w1 → Calls Tryz.prog 39 #[v] w1 fun ev w' => ev = .returned (.tuple #[.int .i64 n, .int .i64 (-1)]) ∧ Below w1.heap.size w1 w') :
  Calls Tryz.prog 8 #[v, .int .i64 e] w fun ev w' => ev = .returned (.bool (n == e)) ∧ Below w.heap.size w w' := by
 have cF := bareFault e w
 have cI : ∀ w1, Below w.heap.size w w1 → Calls Tryz.prog 18 #[v, .agg #[.int .i64 e, .int .i64 (-1)]] w1 fun ev w' => ev = .returned (.bool (n == e)) ∧ Below w1.heap.size w1 w' := by
  intro w1 hb
  refine (is_of v n (-1) e (-1) w1 (fun w2 hb2 => cP w2 (hb.trans (hb2.mono hb.size)))).mono ?_
  rintro ev w' ⟨rfl, hb'⟩
  exact ⟨by simp, hb'⟩
 clear cP
 go_enter Tryz.func8, Tryz.ntmps8
 go_wp2_with (first | (go_at_call 19; refine cF.mono ?_; rintro ev w1 ⟨rfl, hb1⟩) | (go_at_call 18; refine (cI _ hb1).mono ?_; rintro ev w2 ⟨rfl, hb2⟩))
 go_ret
 exact ⟨rfl, hb1.trans (hb2.mono hb1.size)⟩
theorem bare_nil (e : Int) (w : World) : Calls Tryz.prog 8 #[.nilIface, .int .i64 e] w fun ev w' => ev = .returned (.bool ((0 : Int) == e)) ∧ Below w.heap.size w w' :=
 bare_of .nilIface 0 e w (fun w1 _ => (place_nil w1).mono (by rintro ev w' ⟨rfl, rfl⟩; exact ⟨rfl, Below.refl _ _⟩))
theorem bare_err (n e : Int) (w : World) (hg : ErrType w) : Calls Tryz.prog 8 #[.iface 33 (.int .i64 n), .int .i64 e] w fun ev w' => ev = .returned (.bool (n == e)) ∧ Below w.heap.size w w' :=
 bare_of (.iface 33 (.int .i64 n)) n e w (fun w1 hb => place_err n w1 (hg.below hb))
end Go.Proofs.YtogigccbnohjjaaGreatDoor
namespace Go.Proofs.YtogigccbnohjjaaGreatDoor
open Go.RowKit Go.Proofs.Aid Go.Proofs.Sq
set_option maxHeartbeats 2000000
set_option maxRecDepth 100000
theorem check_err (n : Int) (w : World) (hg : ErrType w) : Calls Tryz.prog 94 #[.iface 33 (.int .i64 n)] w fun e w' => e = thrown n ∧ Below w.heap.size w w' := by
 have cT := tell_err n w hg
 go_enter Tryz.func94, Tryz.ntmps94
 go_wp2_with fail
 refine cT.mono ?_
 rintro e w1 ⟨rfl, hb⟩
 go_wp2_with fail
 exact ⟨rfl, rfl, hb⟩
theorem Tryz.assertErrno (n : Int) (w : World) : (Instr.typeAssert (.iface 33 (.int .i64 n)) 20 33 true).run Tryz.prog w = .ok (.tuple #[.int .i64 n, .bool true]) w := by kernel_rfl
theorem told_nil (w : World) : Calls Tryz.prog 16 #[.nilIface] w fun e w' => e = .returned .nilIface ∧ w' = w := by
 go_enter Tryz.func16, Tryz.ntmps16
 go_wp2_with fail
 go_ret
 exact ⟨rfl, rfl⟩
theorem told_err (n : Int) (w : World) : Calls Tryz.prog 16 #[.iface 33 (.int .i64 n)] w fun e w' => e = .returned (.iface 33 (.int .i64 n)) ∧ w' = w := by
 have ha := Tryz.assertErrno n
 go_enter Tryz.func16, Tryz.ntmps16
 go_wp2_with fail
 go_ret
 exact ⟨rfl, rfl⟩
theorem meas_of (s : ByteArray) (h : Sr.wMeas.contains s.data.toList = true) : s = ⟨#[76, 65, 82, 71, 69, 82]⟩ ∨ s = ⟨#[83, 77, 65, 76, 76, 69, 82]⟩ ∨ s = ⟨#[66, 69, 70, 79, 82, 69]⟩ ∨ s = ⟨#[79, 78]⟩ ∨ s = ⟨#[83, 73, 78, 67, 69]⟩ := by
 have h1 : s.data.toList ∈ Sr.wMeas := by simpa using h
 simp only [Sr.wMeas, List.mem_cons, List.not_mem_nil, or_false] at h1
 rcases h1 with h1 | h1 | h1 | h1 | h1
 ·exact Or.inl (text_ext h1)
 ·exact Or.inr (Or.inl (text_ext h1))
 ·exact Or.inr (Or.inr (Or.inl (text_ext h1)))
 ·exact Or.inr (Or.inr (Or.inr (Or.inl (text_ext h1))))
 ·exact Or.inr (Or.inr (Or.inr (Or.inr (text_ext h1))))
theorem measure_is (s : ByteArray) (w : World) (h : Sr.wMeas.contains s.data.toList = true) : Calls Tryz.prog 69 #[.string s] w fun e w' => e = .returned (.int .i64 (6 + (Sr.wMeas.idxOf s.data.toList : Int))) ∧ w' = w := by
 rcases meas_of s h with rfl | rfl | rfl | rfl | rfl
 all_goals
  clear h
  go_enter Tryz.func69, Tryz.ntmps69
  go_wp2_with fail
  go_ret
  exact ⟨rfl, rfl⟩
end Go.Proofs.YtogigccbnohjjaaGreatDoor
