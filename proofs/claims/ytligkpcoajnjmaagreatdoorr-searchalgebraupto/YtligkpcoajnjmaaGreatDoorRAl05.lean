/-
  What the methods say and join of head.reader do: a reader in memory, with the fields so far and what the last one says.
  Parts of commands, and the reader of them, in memory.
  What errors.As answers at an error number and a target for one: closed facts on the model's entries for internal/reflectlite, and the walk.
-/
import Derived.Test.YtligkpcoajnjmaaGreatDoorRAl03
import Derived.Test.YtligkpcoajnjmaaGreatDoorRAl04
import Derived.Test.YtligkpcoajnjmaaGreatDoorRAl02
import Derived.Deep.Cut
import Derived.Deep.CutRange
import Derived.Deep.DeepCutAuto
import Derived.Deep.CutBlock
import Derived.Test.YtligkpcoajnjmaaGreatDoorRAl01
import Derived.WalkLawsBesides
import Derived.Test.YtligkpcoajnjmaaGreatDoorRProg
import Derived.WalkKit
import Derived.LaidEql
import Derived.Stop.Asserts
import Derived.RowKitTokens
namespace Go.Proofs.YtligkpcoajnjmaaGreatDoorR
open Go.RowKit Go.Proofs.Aid Go.Proofs.Hd

theorem Tryz.infoTx : (Tryz.prog.info? 9).map (fun i => (i.zero, i.size, i.bytes)) = some (some (.string ⟨#[]⟩), 1, 16) := by kernel_rfl
theorem Tryz.infoField : (Tryz.prog.info? 216).map (fun i => (i.zero, i.size, i.bytes)) = some (some (.agg #[.string ⟨#[]⟩, .string ⟨#[]⟩]), 2, 32) := by kernel_rfl
abbrev Fb := ByteArray × ByteArray
def cellsF (l : List Fb) : List Value := l.flatMap fun f => [.string f.1, .string f.2]
theorem cellsF_append (a b : List Fb) : cellsF (a ++ b) = cellsF a ++ cellsF b := by simp [cellsF]
theorem cellsF_length (l : List Fb) : (cellsF l).length = l.length * 2 := by
  induction l with
  | nil => rfl
  | cons f l ih => rw [show cellsF (f :: l) = [.string f.1, .string f.2] ++ cellsF l from rfl, List.length_append, ih]; simp; omega
/-- A reader in block b. -/
structure Rd (base b : Nat) (R : List Fb) (S : List ByteArray) (w : World) : Prop where
  st : ∃ vf vs, w.heap[b]? = some (.cells #[vf, vs] 250 (0, 0)) ∧ w.ownsRow base 216 2 vf R.length (cellsF R) ∧ w.ownsRow base 9 1 vs S.length (S.map Value.string)
theorem Rd.below {base b : Nat} {R : List Fb} {S : List ByteArray} {w w' : World} (h : Rd base b R S w) (hb : Below w.heap.size w w') : Rd base b R S w' := by
  obtain ⟨vf, vs, h1, h2, h3⟩ := h.st
  exact ⟨vf, vs, (hb.block b (Array.getElem?_eq_some_iff.1 h1).1).trans h1, row_below hb (Nat.le_refl _) h2, row_below hb (Nat.le_refl _) h3⟩
set_option maxHeartbeats 2000000 in
set_option maxRecDepth 100000 in
theorem say_is (base b : Nat) (R : List Fb) (S : List ByteArray) (p : ByteArray) (w : World) (h : Rd base b R S w) (hp : p.size ≤ 2000000) (hS : S.length ≤ 100000) (hbw : base ≤ w.heap.size) :
    Calls Tryz.prog 272 #[.pointer (some ⟨b, 0, none⟩), .string p] w fun e w' => e = .returned (.tuple #[]) ∧ Rd base b R (if bare p.data.toList = [] then S else S ++ [⟨(bare p.data.toList).toArray⟩]) w' ∧ But base b w w' := by
  have cB := bare_is' p w hp
  obtain ⟨x, hx⟩ : ∃ x : ByteArray, ⟨(bare p.data.toList).toArray⟩ = x := ⟨_, rfl⟩
  have hxl : x.data.toList = bare p.data.toList := by rw [← hx]
  rw [hx] at cB ⊢
  rw [← hxl]
  clear hx hxl
  obtain ⟨S', hS'⟩ : ∃ S', (if x.data.toList = [] then S else S ++ [x]) = S' := ⟨_, rfl⟩
  rw [hS']
  have HS : Hid ((if x.data.toList = [] then S else S ++ [x]) = S') := hS'
  clear hS'
  go_enter Tryz.func272, Tryz.ntmps272
  go_wp2_with fail
  refine cB.mono ?_
  clear cB
  rintro e w1 ⟨rfl, hb1⟩
  have h1 := h.below hb1
  have hb01 : Below base w w1 := hb1.mono hbw
  have hbs := hb01.size
  clear h hb1
  by_cases hx0 : x.data.toList = []
  · have HE : Hid (S = S') := by have := HS.out; rw [if_pos hx0] at this; exact this
    have f1 : x.toList = [] := by rw [Lib.toList_data]; exact hx0
    have f2 : x.toList.isEmpty = true := by rw [f1]; rfl
    go_wp2_with fail
    go_end0
    exact ⟨rfl, HE.out ▸ h1, to_but hb01⟩
  · have HE : Hid (S ++ [x] = S') := by have := HS.out; rw [if_neg hx0] at this; exact this
    have f1 : ¬ x.toList = [] := by rw [Lib.toList_data]; exact hx0
    have f2 : x.toList.isEmpty = false := by rw [Lib.toList_data]; cases hh : x.data.toList with | nil => exact absurd hh hx0 | cons _ _ => rfl
    obtain ⟨vf, vs, hh, hrf, hrs⟩ := h1.st
    have c1 : w1.cell? ⟨b, 1, none⟩ = some vs := rd_cell hh rfl
    have hbs1 : base ≤ w1.heap.size := Nat.le_trans hbw hbs
    clear h1 hx0
    go_wp2_with (at_builtin; go_must (refine wpList_push rfl (.tmp 13) (.tmp 15) 23 rfl _ base 9 (.string ⟨#[]⟩) 16 Tryz.underlying23 Tryz.infoTx rfl _ _ _ (by rfl) hrs [.string x] _ (by rfl) (by simp) (by simp [Value.oneCell']) (by simp) (by rfl) (by decide) (by simp; omega) hbs1 ?_); intro g2 cap2 w2 hown2 hg2 hlt2; have hk2 := (Kept.refl _ _ _).grown hrs hg2 (Nat.le_refl _) hbs1; have hh2 := hk2.block hh (fun c fz e => by injection e with _ e2 _; exact absurd e2 (by decide)); have c2 : w2.cell? ⟨b, 1, none⟩ = some vs := rd_cell hh2 rfl; have f2 := rd_free hh2 1)
    have hb2 : Below base w w2 := hb01.trans hk2.below
    have hrf2 := kept_row hk2 (by decide) hrf
    have hh3 := rd_set (i := 1) (.slice (some ⟨g2, 0, none⟩) (S.length + 1) cap2) hh2
    have hrf3 := ownsRow_setCell_other hrf2 (a := ⟨b, 1, none⟩) (row_off hrf2 hh2 (by decide)) (.slice (some ⟨g2, 0, none⟩) (S.length + 1) cap2)
    have hrs3 := ownsRow_setCell_other hown2 (a := ⟨b, 1, none⟩) (row_off hown2 hh2 (by decide)) (.slice (some ⟨g2, 0, none⟩) (S.length + 1) cap2)
    go_end0
    refine ⟨rfl, ⟨_, _, hh3, hrf3, ?_⟩, (to_but hb2).setB _ _⟩
    rw [← HE.out, List.length_append, List.map_append]
    exact hrs3
end Go.Proofs.YtligkpcoajnjmaaGreatDoorR
namespace Go.Proofs.YtligkpcoajnjmaaGreatDoorR
open Go.RowKit Go.Proofs.Aid Go.Proofs.Sq

/-- A reader in memory: what is left, and how many it counted. -/
def RdS (w : World) (rb : Nat) (v : Value) (c : Nat) : Prop := w.heap[rb]? = some (.cells #[v, .int .i64 (c : Int)] 100 (0, 0))
def thrown (e : Int) : Ending := .panicked [{ v := .iface 53 (.int .i64 e), recovered := false }]
set_option maxHeartbeats 2000000 in
set_option maxRecDepth 100000 in
theorem word_bad (rb c B : Nat) (l : List Sr.Ar) (v : Value) (Ok : Nat → Prop) (w : World) (hr : RdS w rb v c) (hl : Ags w Ok B l v) (h : Sr.wordF l c = .bad 3) :
    Calls Tryz.prog 151 #[.pointer (some ⟨rb, 0, none⟩)] w fun e w' => e = thrown 3 ∧ w' = w := by
  have p0 : w.cell? ⟨rb, 0, none⟩ = some v := rd_cell hr rfl
  cases l with
  | nil =>
    obtain ⟨a, cc, rfl⟩ := hl.nil
    go_enter Tryz.func151, Tryz.ntmps151
    go_wp2_with fail
    exact ⟨rfl, rfl, rfl⟩
  | cons x l =>
    have hk : x.kind = 3 := by
      rw [Sr.wordF] at h
      split at h
      · assumption
      · cases h
    obtain ⟨b, o, C, tb, lv, rfl, hC, hC2, _, _, _, _, c1, c2, c3, _⟩ := hl.head
    rw [hk] at c1
    obtain ⟨L, hL⟩ : ∃ L, l.length = L := ⟨_, rfl⟩
    rw [hL] at hC p0
    have i1 : (((L : Int) + 1) == 0) = false := by simp; omega
    clear hl h hk hL
    go_enter Tryz.func151, Tryz.ntmps151
    go_wp2_with fail
    exact ⟨rfl, rfl, rfl⟩
set_option maxHeartbeats 2000000 in
set_option maxRecDepth 100000 in
theorem word_ok (rb c B : Nat) (x : Sr.Ar) (l : List Sr.Ar) (v : Value) (Ok : Nat → Prop) (w : World) (hr : RdS w rb v c) (hl : Ags w Ok B (x :: l) v) (hO : ∀ k, Ok k → k ≠ rb) (hk : x.kind ≠ 3) :
    Calls Tryz.prog 151 #[.pointer (some ⟨rb, 0, none⟩)] w fun e w' => ∃ (tb : ByteArray) (v' : Value), tb.data.toList = x.text ∧ tb.size ≤ B ∧ e = .returned (.string tb) ∧ RdS w' rb v' c ∧ Ags w' Ok B l v' ∧ But w.heap.size rb w w' := by
  have p0 : w.cell? ⟨rb, 0, none⟩ = some v := rd_cell hr rfl
  have f0 : w.frozen? ⟨rb, 0, none⟩ = false := rd_free hr 0
  obtain ⟨b, o, C, tb, lv, rfl, hC, hC2, _, htb, hsz, _, c1, c2, c3, hrest⟩ := hl.head
  have hkb : (x.kind == 3) = false := by simpa using hk
  obtain ⟨K, hK⟩ : ∃ K, x.kind = K := ⟨_, rfl⟩
  rw [hK] at c1 hkb
  have HR : Hid (∀ v', RdS (w.setCell ⟨rb, 0, none⟩ v') rb v' c) := fun v' => by
    show _ = _
    exact rd_set (i := 0) v' hr
  have HA : Hid (∀ v', Ags (w.setCell ⟨rb, 0, none⟩ v') Ok B l (.slice (if C = 0 then some ⟨b, o, none⟩ else some ⟨b, o + 3, none⟩) l.length C)) := fun v' => hrest.kept fun k hk _ => ⟨hk, Below.heap_setCell _ _ _ _ (hO k hk)⟩
  have HT : Hid (tb.data.toList = x.text ∧ tb.size ≤ B) := ⟨htb, hsz⟩
  obtain ⟨L, hL⟩ : ∃ L, l.length = L := ⟨_, rfl⟩
  rw [hL] at hC p0 HA
  have i1 : (((L : Int) + 1) == 0) = false := by simp; omega
  have i2 : (1 : Int) ≤ (L : Int) + 1 := by omega
  have i3 : (L : Int) + 1 ≤ (C : Int) + 1 := by omega
  clear hl hrest hk hL hK hr htb hsz
  go_enter Tryz.func151, Tryz.ntmps151
  rcases Nat.eq_zero_or_pos C with hC0 | hC0
  · subst hC0
    obtain rfl : L = 0 := by omega
    have hA := HA.out (.slice (some ⟨b, o, none⟩) 0 0)
    rw [if_pos rfl] at hA
    have HA2 : Hid (Ags (w.setCell ⟨rb, 0, none⟩ (.slice (some ⟨b, o, none⟩) 0 0)) Ok B l (.slice (some ⟨b, o, none⟩) 0 0)) := hA
    clear hA HA
    go_wp2_with fail
    go_ret
    exact ⟨tb, _, HT.out.1, HT.out.2, rfl, HR.out _, HA2.out, (to_but (Below.refl _ w)).setB 0 _⟩
  · have hC1 : ¬ C = 0 := by omega
    have hA := HA.out (.slice (some ⟨b, o + 3, none⟩) L C)
    rw [if_neg hC1] at hA
    have HA2 : Hid (Ags (w.setCell ⟨rb, 0, none⟩ (.slice (some ⟨b, o + 3, none⟩) L C)) Ok B l (.slice (some ⟨b, o + 3, none⟩) L C)) := hA
    clear hA HA
    go_wp2_with fail
    go_ret
    exact ⟨tb, _, HT.out.1, HT.out.2, rfl, HR.out _, HA2.out, (to_but (Below.refl _ w)).setB 0 _⟩
set_option maxHeartbeats 2000000 in
theorem check_nil (w : World) : Calls Tryz.prog 201 #[.nilIface] w fun e w' => e = .returned (.tuple #[]) ∧ w' = w := by
  go_enter Tryz.func201, Tryz.ntmps201
  go_wp2_with fail
  first
    | go_end0
    | refine bodyPost_ret (results_none rfl _ _ _) rfl ?_
  exact ⟨rfl, rfl⟩
end Go.Proofs.YtligkpcoajnjmaaGreatDoorR
namespace Go.Proofs.YtligkpcoajnjmaaGreatDoorR
open Go.RowKit Go.Extern.Stop Go.Stop Go.Extern

theorem as_nil (t : Value) (w : World) :
    Calls Tryz.prog 188 #[.nilIface, t] w fun e w' => e = .returned (.bool false) ∧ w' = w := by
  go_enter Tryz.func188, Tryz.ntmps188
  go_wp2
  go_ret
  exact ⟨rfl, rfl⟩

theorem Tryz.valueOf70 (t : Addr) (w : World) : (ReflectliteValue.unpack (.iface 233 (.pointer (some t)))).run Tryz.prog w
    = .ok (.agg #[.pointer (some ⟨11, 233, none⟩), .pointer (some ⟨w.heap.size, 0, none⟩), .int .u64 150]) (w.alloc (.cells #[.pointer (some t)] 233)) := by kernel_rfl
theorem Tryz.type70 (a : Addr) (w : World) : (ReflectliteValue.methodAny (ReflectliteValue.valueError "reflectlite.Value.Type" 0) (fun t _ _ _ => ReflectliteType.toType t) #[.agg #[.pointer (some ⟨11, 233, none⟩), .pointer (some a), .int .u64 150]]).run Tryz.prog w
    = .ok (.iface 299 (.agg #[.pointer (some ⟨11, 233, none⟩)])) w := by kernel_rfl
theorem Tryz.methodKind (h : Value) (w : World) : (Go.method 494 299 (.agg #[h]) "Kind").run Tryz.prog w = .ok (339, h) w := by kernel_rfl
theorem Tryz.kind70 (w : World) : ((ReflectliteType.abiMethod fun t => (fun a : Nat => Value.int IntKind.u8 (a : Int)) <$> Rtype.kind t) #[.pointer (some ⟨11, 233, none⟩)]).run Tryz.prog w = .ok (.int .u8 22) w := by kernel_rfl
theorem Tryz.kind22 (w : World) : ((ReflectliteType.abiMethod fun t => (fun a : Nat => Value.int IntKind.u8 (a : Int)) <$> Rtype.kind t) #[.pointer (some ⟨11, 53, none⟩)]).run Tryz.prog w = .ok (.int .u8 2) w := by kernel_rfl
theorem Tryz.parts70 (a : Addr) (w : World) : (ReflectliteValue.parts (.agg #[.pointer (some ⟨11, 233, none⟩), .pointer (some a), .int .u64 150])).run Tryz.prog w = .ok (some (233, a, 150)) w := by kernel_rfl
theorem Tryz.isNil70 (a p : Addr) (W : World) (ha : W.cell? a = some (.pointer (some p))) :
    (ReflectliteValue.method (ReflectliteValue.valueError "reflectlite.Value.IsNil" 0) ReflectliteValue.isNil #[.agg #[.pointer (some ⟨11, 233, none⟩), .pointer (some a), .int .u64 150]]).run Tryz.prog W = .ok (.bool false) W := by
  show (Bind.bind (ReflectliteValue.parts (.agg #[.pointer (some ⟨11, 233, none⟩), .pointer (some a), .int .u64 150])) _).run Tryz.prog W = _
  simp only [Sem.run_bind, Tryz.parts70, Result.andThen]
  simp [ReflectliteValue.isNil, loadVar, isAgg, underlying, Tryz.underlying233, ha, Result.andThen]
theorem Tryz.methodElem (h : Value) (w : World) : (Go.method 494 299 (.agg #[h]) "Elem").run Tryz.prog w = .ok (355, .agg #[h]) w := by kernel_rfl
theorem Tryz.methodAssignableTo (h : Value) (w : World) : (Go.method 494 299 (.agg #[h]) "AssignableTo").run Tryz.prog w = .ok (353, .agg #[h]) w := by kernel_rfl
theorem Tryz.elem70 (w : World) : (ReflectliteType.method ReflectliteType.elem #[.agg #[.pointer (some ⟨11, 233, none⟩)]]).run Tryz.prog w = .ok (.iface 299 (.agg #[.pointer (some ⟨11, 53, none⟩)])) w := by kernel_rfl
theorem Tryz.methodImplements (h : Value) (w : World) : (Go.method 494 299 (.agg #[h]) "Implements").run Tryz.prog w = .ok (356, .agg #[h]) w := by kernel_rfl
theorem Tryz.implements22 (w : World) : (ReflectliteType.relation "Implements" ReflectliteType.implements_ #[.agg #[.pointer (some ⟨11, 53, none⟩)], .iface 299 (.agg #[.pointer (some ⟨11, 35, none⟩)])]).run Tryz.prog w = .ok (.bool true) w := by kernel_rfl
theorem Tryz.typeOf22 (v : Value) (w : World) : (ReflectliteType.typeOf #[.iface 53 v]).run Tryz.prog w = .ok (.iface 299 (.agg #[.pointer (some ⟨11, 53, none⟩)])) w := by kernel_rfl
theorem Tryz.assignable22 (w : World) : (ReflectliteType.relation "AssignableTo" ReflectliteType.assignableTo #[.agg #[.pointer (some ⟨11, 53, none⟩)], .iface 299 (.agg #[.pointer (some ⟨11, 53, none⟩)])]).run Tryz.prog w = .ok (.bool true) w := by kernel_rfl
theorem Tryz.valueOf22 (n : Int) (w : World) : (ReflectliteValue.unpack (.iface 53 (.int .i64 n))).run Tryz.prog w
    = .ok (.agg #[.pointer (some ⟨11, 53, none⟩), .pointer (some ⟨w.heap.size, 0, none⟩), .int .u64 130]) (w.alloc (.cells #[.int .i64 n] 53)) := by kernel_rfl
theorem Tryz.elemOf70 (w : World) : (Rtype.elem? 233).run Tryz.prog w = .ok (some 53) w := by kernel_rfl
theorem Tryz.mk22 (p : Addr) (w : World) : (ReflectliteValue.mk 53 p ReflectliteValue.flagAddr).run Tryz.prog w = .ok (.agg #[.pointer (some ⟨11, 53, none⟩), .pointer (some p), .int .u64 386]) w := by kernel_rfl
theorem Tryz.elemV70 (a p : Addr) (W : World) (ha : W.cell? a = some (.pointer (some p))) :
    (ReflectliteValue.method (ReflectliteValue.valueError "reflectlite.Value.Elem" 0) ReflectliteValue.elem #[.agg #[.pointer (some ⟨11, 233, none⟩), .pointer (some a), .int .u64 150]]).run Tryz.prog W
      = .ok (.agg #[.pointer (some ⟨11, 53, none⟩), .pointer (some p), .int .u64 386]) W := by
  show (Bind.bind (ReflectliteValue.parts (.agg #[.pointer (some ⟨11, 233, none⟩), .pointer (some a), .int .u64 150])) _).run Tryz.prog W = _
  simp only [Sem.run_bind, Tryz.parts70, Result.andThen]
  simp [ReflectliteValue.elem, loadVar, isAgg, underlying, Tryz.underlying233, ha, Result.andThen, Tryz.elemOf70, Tryz.mk22]
theorem Tryz.parts22a (a : Addr) (w : World) : (ReflectliteValue.parts (.agg #[.pointer (some ⟨11, 53, none⟩), .pointer (some a), .int .u64 386])).run Tryz.prog w = .ok (some (53, a, 386)) w := by kernel_rfl
theorem Tryz.parts22 (a : Addr) (w : World) : (ReflectliteValue.parts (.agg #[.pointer (some ⟨11, 53, none⟩), .pointer (some a), .int .u64 130])).run Tryz.prog w = .ok (some (53, a, 130)) w := by kernel_rfl
theorem Tryz.direct22 (w : World) : (Rtype.directlyAssignable 53 53).run Tryz.prog w = .ok true w := by kernel_rfl
end Go.Proofs.YtligkpcoajnjmaaGreatDoorR
