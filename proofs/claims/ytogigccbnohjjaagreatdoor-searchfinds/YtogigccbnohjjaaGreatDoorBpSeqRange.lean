/-
  What seq, and more.
-/
import Derived.Test.YtogigccbnohjjaaGreatDoorBpSfParts
import Derived.Laws.ResultCell
import Derived.RangeFuncNested
import Derived.RangeFuncBound
import Derived.RangeFuncCalls
import Derived.RangeFuncLeaves
import Derived.Shelf.Abstract
import Derived.Shelf.RegionOpen
import Derived.OwnWalkIn
import Derived.TacticsInMore
import Derived.LoopNIn
import Derived.LoopIn
import Derived.RangeFuncBox
import Derived.Maps.AppendAt
import Derived.Laws.OwnMore
namespace Go.Proofs.YtogigccbnohjjaaGreatDoor
open Go.RowKit Go.Proofs.Aid Go.Proofs.Sq
set_option maxHeartbeats 2000000
set_option maxRecDepth 100000
theorem cut_call (c : UInt8) (s : ByteArray) (m : Int) (w : World) (hs : s.size ≤ 2000000) (hm : w.cell? ⟨1, 0, none⟩ = some (.int .i64 m)) :
  Calls Tryz.prog 138 #[.string s, .string ⟨#[c]⟩] w fun e w' => e = .returned (.tuple #[.string ⟨(cutAt c s.data.toList).1.toArray⟩, .string ⟨(cutAt c s.data.toList).2.1.toArray⟩, .bool (cutAt c s.data.toList).2.2]) ∧ ∃ n, w' = w.drewN n := by
 refine (Tryz.strings_Cut s ⟨#[c]⟩ m w (by omega) hm).mono ?_
 rintro e w' ⟨rfl, n, rfl⟩
 rw [show Lib.cut s.data.toList (⟨#[c]⟩ : ByteArray).data.toList = cutAt c s.data.toList from cut_eq c _]
 exact ⟨rfl, n, rfl⟩
theorem two_below (w : World) (o : Obj) (n : Nat) (a b : Value) : Below w.heap.size w ((((w.alloc o).drewN n).setCell ⟨w.heap.size, 0, none⟩ a).setCell ⟨w.heap.size, 1, none⟩ b) :=
 ((below_drewN ((Below.refl _ _).alloc (Nat.le_refl _) _) _).setCell (p := ⟨w.heap.size, 0, none⟩) (Nat.le_refl _) _).setCell (p := ⟨w.heap.size, 1, none⟩) (Nat.le_refl _) _
theorem range_any (s : ByteArray) (m : Int) (w : World) (hs : s.size ≤ 2000000) (hm : w.cell? ⟨1, 0, none⟩ = some (.int .i64 m)) :
  Calls Tryz.prog 116 #[.string s] w fun e w' => ((∃ r : Nat × Nat, rangeOf s.data.toList = some r ∧ r.1 ≤ 2147483647 ∧ r.2 ≤ 2147483647 ∧ e = .returned (.tuple #[.agg #[.int .i64 (r.1 : Int), .int .i64 (r.2 : Int)], .bool true])) ∨ (rangeOf s.data.toList = none ∧ e = .returned (.tuple #[.agg #[.int .i64 0, .int .i64 0], .bool false]))) ∧ Below w.heap.size w w' ∧ w'.heap.size = w.heap.size + 1 := by
 have cC := fun w1 hm1 => cut_call 58 s m w1 hs hm1
 obtain ⟨ANS, hANS⟩ : ∃ ANS, rangeOf s.data.toList = ANS := ⟨_, rfl⟩
 rw [hANS]
 unfold rangeOf at hANS
 have hl := cutAt_length 58 s.data.toList
 rw [← Lib.size_eq] at hl
 generalize (cutAt 58 s.data.toList) = C at cC hANS hl
 obtain ⟨l1, l2, two⟩ := C
 simp only at cC hANS hl
 obtain ⟨s1, h1⟩ : ∃ s1 : ByteArray, s1 = ⟨l1.toArray⟩ := ⟨_, rfl⟩
 obtain ⟨s2, h2⟩ : ∃ s2 : ByteArray, s2 = ⟨l2.toArray⟩ := ⟨_, rfl⟩
 rw [← h1, ← h2] at cC
 have e1 : s1.data.toList = l1 := by rw [h1]
 have e2 : s2.data.toList = l2 := by rw [h2]
 have z1 : s1.size ≤ 2000000 := by rw [Lib.size_eq, e1]; omega
 have z2 : s2.size ≤ 2000000 := by rw [Lib.size_eq, e2]; omega
 clear h1 h2 hl
 have c1 := fun w1 => number_any s1 w1 z1
 have c2 := fun w1 => number_any s2 w1 z2
 rw [e1] at c1
 rw [e2] at c2
 clear z1 z2 e1 e2
 have hmA : ∀ (o : Obj), (w.alloc o).cell? ⟨1, 0, none⟩ = some (.int .i64 m) := fun o => by
  rw [World.cell?_alloc_old _ _ _ (Nat.ne_of_lt (World.block_lt_of_cell? _ _ hm))]; exact hm
 have cC' := fun o => cC (w.alloc o) (hmA o)
 clear cC
 go_enter Tryz.func116, Tryz.ntmps116
 go_wp2_with fail
 refine (cC' _).mono ?_
 rintro e w1 ⟨rfl, n, rfl⟩
 go_wp2_with fail
 refine (c1 _).mono ?_
 rintro e w1 ⟨⟨a, hn1, ha, rfl⟩ | ⟨hn1, rfl⟩, rfl⟩
 ·rw [hn1, Option.bind_some] at hANS
  cases two
  ·have HA : Hid (some (a, a) = ANS) := by show some (a, a) = ANS; simpa using hANS
   clear hANS
   go_wp2
   (try simp only [Exit.inBlock, Exit.then])
   refine bodyPost_ret (v := .tuple #[.agg #[.int .i64 (a : Int), .int .i64 (a : Int)], .bool true]) ?_ rfl ⟨Or.inl ⟨(a, a), HA.symm, ha, ha, rfl⟩, ?_, ?_⟩
   ·rw [results_cell_tmp rfl]; go_simp
   ·exact two_below _ _ _ _ _
   ·simp
  ·go_wp2_with fail
   refine (c2 _).mono ?_
   rintro e w1 ⟨⟨b, hn2, hb, rfl⟩ | ⟨hn2, rfl⟩, rfl⟩
   ·have HA : Hid (some (a, b) = ANS) := by show some (a, b) = ANS; simpa [hn2] using hANS
    clear hANS
    go_wp2
    (try simp only [Exit.inBlock, Exit.then])
    refine bodyPost_ret (v := .tuple #[.agg #[.int .i64 (a : Int), .int .i64 (b : Int)], .bool true]) ?_ rfl ⟨Or.inl ⟨(a, b), HA.symm, ha, hb, rfl⟩, ?_, ?_⟩
    ·rw [results_cell_tmp rfl]; go_simp
    ·exact two_below _ _ _ _ _
    ·simp
   ·have HA : Hid (none = ANS) := by show none = ANS; simpa [hn2] using hANS
    clear hANS
    go_wp2
    (try simp only [Exit.inBlock, Exit.then])
    refine bodyPost_ret (v := .tuple #[.agg #[.int .i64 0, .int .i64 0], .bool false]) ?_ rfl ⟨Or.inr ⟨HA.symm, rfl⟩, ?_, ?_⟩
    ·rw [results_cell_tmp rfl]; go_simp
    ·exact two_below _ _ _ _ _
    ·simp
 ·have HA : Hid (none = ANS) := by show none = ANS; simpa [hn1] using hANS
  clear hANS
  go_wp2
  (try simp only [Exit.inBlock, Exit.then])
  refine bodyPost_ret (v := .tuple #[.agg #[.int .i64 0, .int .i64 0], .bool false]) ?_ rfl ⟨Or.inr ⟨HA.symm, rfl⟩, ?_, ?_⟩
  ·rw [results_cell_tmp rfl]; go_simp
  ·exact two_below _ _ _ _ _
  ·simp
end Go.Proofs.YtogigccbnohjjaaGreatDoor
namespace Go.Proofs.YtogigccbnohjjaaGreatDoor
open Go.RowKit Go.Proofs.Aid Go.Proofs.Sq
set_option maxHeartbeats 2000000
set_option maxRecDepth 100000
attribute [local go_sem] Oper.semAt_some
abbrev Pc := { x : ByteArray // x.size ≤ 2000000 }
def Pc.l (x : Pc) : List UInt8 := x.1.data.toList
def leftP : Value → Value → Nat
 | .string t, .bool true => t.size + 1
 | _, _ => 0
theorem grown_drewN (W : World) (n : Nat) : W.grownBy (W.drewN n) none := ⟨rfl, rfl, rfl, Nat.le_refl _, fun _ _ _ => rfl⟩
theorem pieces1_in (n : Nat) (hn : 1 ≤ n) (l Bn n₀ : Nat) (s : ByteArray) (hs : s.size ≤ 2000000) (m : Int) (J Jx : List Pc → World → Prop) (W : World)
  (hJ : AbidesFrom W.heap.size J)
  (hY : ∀ pre x W1, J pre W1 → pre.length < (between 44 s.data.toList).length → YieldAt Fence.wide (n - 1) Tryz.prog l #[.string x.1] W1 fun e W' =>
   (e = .returned (.bool true) ∧ J (pre ++ [x]) W' ∧ Below n₀ W1 W') ∨ (e = .returned (.bool false) ∧ Jx (pre ++ [x]) W'))
  (hBn : W.cell? ⟨Bn, 0, none⟩ = some (.string s)) (hm : W.cell? ⟨1, 0, none⟩ = some (.int .i64 m)) (hg : 1 < n₀) (h0 : J [] W) :
  CallsIn Fence.wide n Tryz.prog 137 #[.func (.yield l) #[] #[], .pointer (some ⟨Bn, 0, none⟩)] W fun e W' => (∃ v, e = .returned v) ∧
   ((∃ ys : List Pc, ys.map Pc.l = between 44 s.data.toList ∧ J ys W') ∨ (∃ pre : List Pc, pre.map Pc.l <+: between 44 s.data.toList ∧ Jx pre W')) := by
 obtain ⟨PS, hPS⟩ : ∃ PS, between 44 s.data.toList = PS := ⟨_, rfl⟩
 rw [hPS] at hY ⊢
 refine callsIn_of_wp Tryz.func137 rfl trivial ?_ rfl
 simp only [Tryz.ntmps137, List.size_toArray, List.length_cons, List.length_nil, Nat.reduceAdd, Nat.reduceSub, Array.replicate_succ, Array.replicate_zero, List.push_toArray, List.append_toArray, List.nil_append, List.cons_append]
 gi_wp2
 gi_loopw [3, 4] (fun rv mv wr => ∃ (pre : List Pc) (t : ByteArray) (more : Bool), rv = .string t ∧ mv = .bool more ∧ t.size ≤ 2000000 ∧ pre.map Pc.l ++ (if more then between 44 t.data.toList else []) = PS ∧ J pre wr ∧ wr.cell? ⟨1, 0, none⟩ = some (.int .i64 m))
  (fun rv mv _ => leftP rv mv)
 case atStart => exact ⟨[], s, true, rfl, rfl, hs, by simpa using hPS, h0, hm⟩
 case round =>
  obtain ⟨pre, t, more, rfl, rfl, ht, hps, hJs, hmr⟩ := hrel
  clear hPS hBn hm h0
  cases more
  ·have HP : Hid (pre.map Pc.l = PS) := by show _ = PS; simpa using hps
   clear hps
   gi_wp2
   go_end0
   exact ⟨⟨_, rfl⟩, .inl ⟨pre, HP, hJs⟩⟩
  ·rw [if_pos rfl] at hps
   have cC := cut_call 44 t m wr ht hmr
   have hlen := cutAt_length 44 t.data.toList
   rw [← Lib.size_eq] at hlen
   have hcase : ((cutAt 44 t.data.toList).2.2 = false ∧ pre.map Pc.l ++ [(cutAt 44 t.data.toList).1] = PS) ∨ ((cutAt 44 t.data.toList).2.2 = true ∧ (cutAt 44 t.data.toList).2.1.length + 1 ≤ t.size ∧ pre.map Pc.l ++ [(cutAt 44 t.data.toList).1] ++ between 44 (cutAt 44 t.data.toList).2.1 = PS) := by
    cases hb : (cutAt 44 t.data.toList).2.2
    ·obtain ⟨e1, _, e3⟩ := cutAt_miss hb
     exact Or.inl ⟨rfl, by rw [e1, ← hps, e3]⟩
    ·obtain ⟨e1, e2⟩ := cutAt_hit hb
     refine Or.inr ⟨rfl, ?_, ?_⟩
     ·have := congrArg List.length e1
      rw [← Lib.size_eq] at this
      simp at this; omega
     ·rw [← hps, e2]; simp
   clear hps
   generalize cutAt 44 t.data.toList = C at cC hlen hcase
   obtain ⟨l1, l2, b⟩ := C
   simp only at cC hlen hcase
   obtain ⟨s1, h1⟩ : ∃ s1 : ByteArray, s1 = ⟨l1.toArray⟩ := ⟨_, rfl⟩
   obtain ⟨s2, h2⟩ : ∃ s2 : ByteArray, s2 = ⟨l2.toArray⟩ := ⟨_, rfl⟩
   rw [← h1, ← h2] at cC
   have e1 : l1 = s1.data.toList := by rw [h1]
   have e2 : l2 = s2.data.toList := by rw [h2]
   rw [e1, e2, ← Lib.size_eq] at hcase
   rw [e1, e2, ← Lib.size_eq, ← Lib.size_eq] at hlen
   clear h1 h2 e1 e2
   gi_wp2_with fail
   refine ⟨trivial, ?_⟩
   refine (callsIn_wide.2 cC).mono ?_
   rintro e w1 ⟨rfl, n', rfl⟩
   have hs1 : s1.size ≤ 2000000 := by omega
   have hlt : pre.length < PS.length := by
    rcases hcase with ⟨_, h⟩ | ⟨_, _, h⟩ <;> (rw [← h]; simp; try omega)
   obtain ⟨fn, tmps, assign, body, hy, hR⟩ := hY pre ⟨s1, hs1⟩ (wr.drewN n') (hJ _ _ _ none hJs (grown_drewN _ _) (by intro r e; cases e)) hlt
   dsimp only at hy
   have HC : Hid ((b = false ∧ (pre ++ [(⟨s1, hs1⟩ : Pc)]).map Pc.l = PS) ∨ (b = true ∧ s2.size + 1 ≤ t.size ∧ (pre ++ [(⟨s1, hs1⟩ : Pc)]).map Pc.l ++ between 44 s2.data.toList = PS)) := by
    rcases hcase with ⟨h1, h2⟩ | ⟨h1, h2, h3⟩
    ·exact Or.inl ⟨h1, by rw [← h2]; simp [Pc.l]⟩
    ·exact Or.inr ⟨h1, h2, by rw [← h3]; simp [Pc.l]⟩
   clear hcase
   gi_wp2
   refine hR.mono ?_
   rintro e W3 (⟨rfl, hJ3, hk3⟩ | ⟨rfl, hJx3⟩)
   ·have hm3 : W3.cell? ⟨1, 0, none⟩ = some (.int .i64 m) := (hk3.cell (p := ⟨1, 0, none⟩) hg).trans (by simpa using hmr)
    gi_wp2
    go_roundw
    case rel =>
     rcases (show _ ∨ _ from HC) with ⟨rfl, h2⟩ | ⟨rfl, h2, h3⟩
     ·exact ⟨_, s2, false, rfl, rfl, by omega, by simpa using h2, hJ3, hm3⟩
     ·exact ⟨_, s2, true, rfl, rfl, by omega, by simpa using h3, hJ3, hm3⟩
    case measure =>
     rcases (show _ ∨ _ from HC) with ⟨rfl, h2⟩ | ⟨rfl, h2, h3⟩
     ·simp [leftP]
     ·simp [leftP]; omega
   ·gi_wp2
    refine bodyPost_ret (results_none rfl _ _ _) rfl ?_
    refine ⟨⟨_, rfl⟩, .inr ⟨_, ?_, hJx3⟩⟩
    rcases (show _ ∨ _ from HC) with ⟨rfl, h2⟩ | ⟨rfl, h2, h3⟩
    ·exact ⟨[], by simpa using h2⟩
    ·exact ⟨_, h3⟩
theorem pieces_any (s : ByteArray) (w : World) : Calls Tryz.prog 115 #[.string s] w fun e w' => e = .returned (.func (.func 137) #[] #[.pointer (some ⟨w.heap.size, 0, none⟩)]) ∧ w' = w.alloc (.cells #[.string s] 9) := by
 go_enter Tryz.func115, Tryz.ntmps115
 go_wp2
 go_ret
 exact ⟨rfl, rfl⟩
theorem pieces_stops (n : Nat) (hn : 1 ≤ n) (Bn n₀ : Nat) (s : ByteArray) (hs : s.size ≤ 2000000) (m : Int) (w : World) (hBn : Bn < w.heap.size) (hn₀ : n₀ ≤ w.heap.size)
  (hc : w.cell? ⟨Bn, 0, none⟩ = some (.string s)) (hm : w.cell? ⟨1, 0, none⟩ = some (.int .i64 m)) (hg : 1 < n₀) :
  SeqStopsK Fence.wide n Tryz.prog 137 #[.pointer (some ⟨Bn, 0, none⟩)] (fun x : Pc => #[Value.string x.1]) (Below n₀) (fun ys => ys.map Pc.l = between 44 s.data.toList) (fun pre => pre.map Pc.l <+: between 44 s.data.toList) (between 44 s.data.toList).length w :=
 fun l J Jx W hW hJ _ hY h0 => pieces1_in n hn l Bn n₀ s hs m J Jx W hJ hY ((hW.cell (p := ⟨Bn, 0, none⟩) hBn).trans hc) ((hW.cell (p := ⟨1, 0, none⟩) (Nat.lt_of_lt_of_le hg hn₀)).trans hm) hg h0
end Go.Proofs.YtogigccbnohjjaaGreatDoor
namespace Go.Proofs.YtogigccbnohjjaaGreatDoor
open Go.RowKit Go.Proofs.Aid Go.Proofs.Sq
set_option maxHeartbeats 2000000
set_option maxRecDepth 100000
attribute [local go_sem] Oper.semAt_some
def intR (r : Nat × Nat) : Int × Int := ((r.1 : Int), (r.2 : Int))
theorem keeps_below {W W' : World} (h : Below W.heap.size W W') : KeepsOthers W W' :=
 ⟨h.size, fun k _ hk _ => (h.block k (Array.getElem?_eq_some_iff.1 hk).1).trans hk⟩
theorem boxed_below {W W' : World} {B t : Nat} {v : Value} (hb : Below W.heap.size W W') (h : Boxed W B t v) : Boxed W' B t v := (hb.block B h.lt).trans h
theorem boxed_turn {A W : World} {row : Option Nat} {B t : Nat} {v : Value} (h : Boxed A B t v) (hg : A.grownBy W row) (hr : ∀ r, row = some r → ∃ o : Obj, A.heap[r]? = some o ∧ o.isCells = false) : Boxed W B t v :=
 h.kept hg fun e' => by
  obtain ⟨o, ho, hc⟩ := hr B e'.symm
  rw [show A.heap[B]? = _ from h] at ho; cases ho; cases hc
theorem row_turn {A W : World} {row : Option Nat} {base e size n : Nat} {v : Value} {xs : List Value} (h : A.ownsRow base e size v n xs) (hg : A.grownBy W row) (hr : ∀ r, row = some r → ∃ o : Obj, A.heap[r]? = some o ∧ o.isCells = false) : W.ownsRow base e size v n xs := by
 refine h.kept hg ?_
 rcases h.2 with ⟨rfl, _⟩ | ⟨g, cap, cur, rfl, _, hgb, _⟩
 ·exact .inl rfl
 ·refine .inr fun e' => ?_
  obtain ⟨o, ho, hc⟩ := hr g (by simpa [Value.ownBlock] using e'.symm)
  rw [hgb] at ho; cases ho; cases hc
theorem Tryz.infoRange : (Tryz.prog.info? 96).map (fun i => (i.zero, i.size, i.bytes)) = some (some (.agg #[.int .i64 0, .int .i64 0]), 2, 16) := by kernel_rfl
def ParseI (w : World) (pre : List Pc) (W : World) : Prop :=
 (∃ (acc : List (Nat × Nat)) (v : Value), Boxed W (w.heap.size + 1 + 1) 29 v ∧ W.ownsRow w.heap.size 96 2 v acc.length (cellsR (acc.map intR)) ∧ (∀ rest, readFrom [] (pre.map Pc.l ++ rest) = readFrom acc rest) ∧ acc.length ≤ 20 ∧
  Boxed W w.heap.size 29 (.slice none 0 0) ∧ Boxed W (w.heap.size + 1) 37 .nilIface)
def ParseX (w : World) (c : Code) (pre : List Pc) (W : World) : Prop :=
 ∃ e, c = .ret ∧ ((e = 3 ∧ ∀ rest, readFrom [] (pre.map Pc.l ++ rest) = .form) ∨ (e = 4 ∧ ∀ rest, readFrom [] (pre.map Pc.l ++ rest) = .limit)) ∧
  Boxed W w.heap.size 29 (.slice none 0 0) ∧ Boxed W (w.heap.size + 1) 37 (.iface 33 (.int .i64 e))
theorem parseI_own (w : World) : Own (ParseI w) := by
 rintro s A W row ⟨acc, v, h1, h2, h3, h4, h5, h6⟩ hg hr
 exact ⟨acc, v, boxed_turn h1 hg hr, row_turn h2 hg hr, h3, h4, boxed_turn h5 hg hr, boxed_turn h6 hg hr⟩
theorem parseX_own (w : World) (c : Code) : Own (ParseX w c) := by
 rintro s A W row ⟨e, h1, h2, h5, h6⟩ hg hr
 exact ⟨e, h1, h2, boxed_turn h5 hg hr, boxed_turn h6 hg hr⟩
theorem form_row {w : World} {base n e size : Nat} {v : Value} {xs : List Value} (h : w.ownsRow base e size v n xs) : ∃ a c, v = .slice a n c := row_form h
theorem box_other {W : World} {B b t : Nat} {v : Value} (h : Boxed W B t v) (hne : B ≠ b) (u : Value) : Boxed (W.setCell ⟨b, 0, none⟩ u) B t v :=
 h.kept (grownBy_setCell' W b u) (fun e => hne (by cases e; rfl))
theorem fail_boxes {w1 : World} {H t t' : Nat} {x y : Value} (h0 : Boxed w1 H t x) (h1 : Boxed w1 (H + 1) t' y) (o : Obj) (e : Value) :
  Boxed (((w1.alloc o).setCell ⟨H, 0, none⟩ (.slice none 0 0)).setCell ⟨H + 1, 0, none⟩ e) H t (.slice none 0 0) ∧ Boxed (((w1.alloc o).setCell ⟨H, 0, none⟩ (.slice none 0 0)).setCell ⟨H + 1, 0, none⟩ e) (H + 1) t' e :=
 ⟨box_other ((h0.alloc o).set _) (Nat.ne_of_lt (Nat.lt_succ_self _)) _, (box_other (h1.alloc o) (Nat.ne_of_gt (Nat.lt_succ_self _)) _).set _⟩
theorem fail_keeps {W w1 : World} {H : Nat} (hb : Below W.heap.size W w1) (o : Obj) (u e : Value) : KeepsOthers W (((w1.alloc o).setCell ⟨H, 0, none⟩ u).setCell ⟨H + 1, 0, none⟩ e) :=
 (((keeps_below hb).trans (KeepsOthers.alloc _ _)).trans (KeepsOthers.setCell _ _ _)).trans (KeepsOthers.setCell _ _ _)
theorem fail_below {w W w1 : World} (hB : Below w.heap.size w W) (hb : Below W.heap.size W w1) (o : Obj) (u e : Value) : Below w.heap.size w (((w1.alloc o).setCell ⟨w.heap.size, 0, none⟩ u).setCell ⟨w.heap.size + 1, 0, none⟩ e) :=
 (((hB.trans (hb.mono hB.size)).alloc (Nat.le_trans hB.size hb.size) o).setCell (p := ⟨w.heap.size, 0, none⟩) (Nat.le_refl _) u).setCell (p := ⟨w.heap.size + 1, 0, none⟩) (Nat.le_succ _) e
theorem limit_read {pre : List Pc} {x : Pc} {acc : List (Nat × Nat)} {r : Nat × Nat} (h : ∀ rest, readFrom [] (pre.map Pc.l ++ rest) = readFrom acc rest) (hr : rangeOf x.1.data.toList = some r) (h20 : acc.length = 20) : ∀ rest, readFrom [] ((pre ++ [x]).map Pc.l ++ rest) = .limit := by
 intro rest
 rw [List.map_append, List.append_assoc, h]
 show readFrom acc (x.1.data.toList :: rest) = _
 rw [readFrom, hr]
 exact if_pos h20
theorem ok_read {pre : List Pc} {x : Pc} {acc : List (Nat × Nat)} {r : Nat × Nat} (h : ∀ rest, readFrom [] (pre.map Pc.l ++ rest) = readFrom acc rest) (hr : rangeOf x.1.data.toList = some r) (h20 : ¬ acc.length = 20) : ∀ rest, readFrom [] ((pre ++ [x]).map Pc.l ++ rest) = readFrom (acc ++ [r]) rest := by
 intro rest
 rw [List.map_append, List.append_assoc, h]
 show readFrom acc (x.1.data.toList :: rest) = _
 rw [readFrom, hr]
 exact if_neg h20
theorem form_read {pre : List Pc} {x : Pc} {acc : List (Nat × Nat)} (h : ∀ rest, readFrom [] (pre.map Pc.l ++ rest) = readFrom acc rest) (hr : rangeOf x.1.data.toList = none) : ∀ rest, readFrom [] ((pre ++ [x]).map Pc.l ++ rest) = .form := by
 intro rest
 rw [List.map_append, List.append_assoc, h]
 show readFrom acc (x.1.data.toList :: rest) = _
 rw [readFrom, hr]
theorem parse_in (s : ByteArray) (m : Int) (w : World) (hs : s.size ≤ 2000000) (hm : w.cell? ⟨1, 0, none⟩ = some (.int .i64 m)) :
  CallsIn Fence.wide 3 Tryz.prog 95 #[.string s] w fun e w' => Below w.heap.size w w' ∧
   ((readSet s.data.toList = .form ∧ e = .returned (.tuple #[.slice none 0 0, .iface 33 (.int .i64 3)])) ∨
   (readSet s.data.toList = .limit ∧ e = .returned (.tuple #[.slice none 0 0, .iface 33 (.int .i64 4)])) ∨
   ∃ (l : List (Nat × Nat)) (v : Value), readSet s.data.toList = .ok l ∧ l.length ≤ 20 ∧ e = .returned (.tuple #[v, .nilIface]) ∧ w'.ownsRow w.heap.size 96 2 v l.length (cellsR (l.map intR))) := by
 have hglt : 1 < w.heap.size := World.block_lt_of_cell? _ _ hm
 obtain ⟨i0, hi, hz0, hz1, hz2⟩ := info_parts Tryz.infoRange
 refine callsIn_of_wp_marks Tryz.func95 rfl trivial ?_ rfl
 simp only [Tryz.ntmps95, List.size_toArray, List.length_cons, List.length_nil, Nat.reduceAdd, Nat.reduceSub, Array.replicate_succ, Array.replicate_zero, List.push_toArray, List.append_toArray, List.nil_append, List.cons_append]
 gi_wp2_with fail
 refine ⟨trivial, ?_⟩
 refine (callsIn_wide.2 (pieces_any s _)).mono ?_
 rintro e w' ⟨rfl, rfl⟩
 gi_wp2_with fail
 obtain ⟨W0, hW0⟩ : ∃ W0, (((w.alloc (.cells #[.slice none 0 0] 29)).alloc (.cells #[.nilIface] 37)).alloc (.cells #[.slice none 0 0] 29)).alloc (.cells #[.string s] 9) = W0 := ⟨_, rfl⟩
 have hsz : W0.heap.size = w.heap.size + 4 := by rw [← hW0]; simp
 have b0 : Boxed W0 w.heap.size 29 (.slice none 0 0) := by rw [← hW0]; exact (((Boxed.new w _ _).alloc _).alloc _).alloc _
 have b1 : Boxed W0 (w.heap.size + 1) 37 .nilIface := by
  have := Boxed.new (w.alloc (.cells #[.slice none 0 0] 29)) 37 .nilIface
  rw [World.size_alloc] at this
  rw [← hW0]; exact (this.alloc _).alloc _
 have b2 : Boxed W0 (w.heap.size + 1 + 1) 29 (.slice none 0 0) := by
  have := Boxed.new ((w.alloc (.cells #[.slice none 0 0] 29)).alloc (.cells #[.nilIface] 37)) 29 (.slice none 0 0)
  rw [World.size_alloc, World.size_alloc] at this
  rw [← hW0]; exact this.alloc _
 have b3 : Boxed W0 (w.heap.size + 1 + 1 + 1) 9 (.string s) := by
  have := Boxed.new (((w.alloc (.cells #[.slice none 0 0] 29)).alloc (.cells #[.nilIface] 37)).alloc (.cells #[.slice none 0 0] 29)) 9 (.string s)
  rw [World.size_alloc, World.size_alloc, World.size_alloc] at this
  rw [← hW0]; exact this
 have hB0 : Below w.heap.size w W0 := by rw [← hW0]; exact ((((Below.refl _ w).alloc (Nat.le_refl _) _).alloc (by simp) _).alloc (by simp; omega) _).alloc (by simp; omega) _
 have hm0 : W0.cell? ⟨1, 0, none⟩ = some (.int .i64 m) := (hB0.cell (p := ⟨1, 0, none⟩) hglt).trans hm
 rw [hW0]
 refine wpIn_rangeFunc_ownF rfl (by decide) (gf := 137) (lb := #[.pointer (some ⟨w.heap.size + 1 + 1 + 1, 0, none⟩)]) rfl trivial (enters_of Tryz.func137 (by kernel_rfl) rfl)
  (pieces_stops _ (by decide) (w.heap.size + 1 + 1 + 1) w.heap.size s hs m W0 (by omega) (by omega) b3.cell hm0 hglt) belowK_t (belowK_b (by omega)) (Below.refl _ _) (fun _ => rfl)
  (fun pre W => ParseI w pre W ∧ Below w.heap.size w W) (fun c pre W => ParseX w c pre W ∧ Below w.heap.size w W)
  (OwnFrom.and (Own.from (parseI_own w) _) (ownFrom_below (Nat.le_refl _) (by omega)))
  (fun c => OwnFrom.and (Own.from (parseX_own w c) _) (ownFrom_below (Nat.le_refl _) (by omega)))
  ⟨⟨[], _, b2, World.ownsRow_nil _ _ _ _, fun _ => rfl, by simp, b0, b1⟩, hB0⟩
  (fun x => { tmps := #[.string s, undef, .pointer (some ⟨w.heap.size, 0, none⟩), .pointer (some ⟨w.heap.size + 1, 0, none⟩), .pointer (some ⟨w.heap.size + 1 + 1, 0, none⟩), .string x.1, undef, undef, .string s, .func (.func 137) #[] #[.pointer (some ⟨w.heap.size + 1 + 1 + 1, 0, none⟩)], .string x.1, undef, undef, undef, undef, undef, undef, undef, undef, undef, undef, undef, undef, undef, undef, undef, undef, undef], defers := [] }) ?assign ?body ?done ?stop
 case assign =>
  intro l x W K hK
  gi_wp2
  exact hK
 case body =>
  rintro l pre x W ⟨⟨acc, v, hv, hrow, hread, hacc, h0, h1⟩, hB⟩ _
  have hmW : W.cell? ⟨1, 0, none⟩ = some (.int .i64 m) := (hB.cell (p := ⟨1, 0, none⟩) hglt).trans hm
  have cR := range_any x.1 m W x.2 hmW
  gi_wp2_with fail
  refine ⟨trivial, ?_⟩
  refine (CallsIn.inRound l (callsIn_wide.2 cR)).mono ?_
  rintro e w1 ⟨⟨r, hr, ha, hb, rfl⟩ | ⟨hr, rfl⟩, hb1, hz1'⟩
  ·have hf := form_row hrow
   obtain ⟨va, vc, rfl⟩ := hf
   have k0 := boxed_below hb1 h0
   have k1 := boxed_below hb1 h1
   have k2 := boxed_below hb1 hv
   have krow := row_below hb1 (Nat.le_refl _) hrow
   obtain ⟨a, b⟩ := r
   simp only at ha hb
   by_cases h20 : acc.length = 20
   ·have HR : Hid (∀ rest, readFrom [] ((pre ++ [x]).map Pc.l ++ rest) = .limit) := limit_read hread hr h20
    have q0c := fun o => (k0.alloc o).cell
    have q0f := fun o => (k0.alloc o).frozen
    have q1c := fun o u => (box_other (k1.alloc o) (Nat.ne_of_gt (Nat.lt_succ_self _)) u).cell
    have q1f := fun o u => (box_other (k1.alloc o) (Nat.ne_of_gt (Nat.lt_succ_self _)) u).frozen
    have q2c := fun o => (k2.alloc o).cell
    clear hread hr
    gi_wp2
    exact ⟨fail_keeps hb1 _ _ _, ⟨4, rfl, Or.inr ⟨rfl, HR⟩, (fail_boxes k0 k1 _ _).1, (fail_boxes k0 k1 _ _).2⟩, fail_below hB hb1 _ _ _⟩
   ·have HR : Hid (∀ rest, readFrom [] ((pre ++ [x]).map Pc.l ++ rest) = readFrom (acc ++ [(a, b)]) rest) := ok_read hread hr h20
    have q2c := fun o => (k2.alloc o).cell
    clear hread hr
    have hnews : ∀ (j : Nat) (u : Value), [Value.int .i64 (a : Int), Value.int .i64 (b : Int)][j]? = some u → ((w1.alloc (.cells #[.int .i64 (a : Int), .int .i64 (b : Int)] 96)).alloc (.cells #[.int .i64 (a : Int), .int .i64 (b : Int)] 96)).cell? (Addr.add ⟨W.heap.size + 1 + 1, 0, none⟩ j) = some u := by
     have := World.news_of_block (heap_alloc_new (w1.alloc (.cells #[.int .i64 (a : Int), .int .i64 (b : Int)] 96)) (.cells #[.int .i64 (a : Int), .int .i64 (b : Int)] 96))
     rw [World.size_alloc, hz1'] at this
     exact this
    have hs1 := hb1.size
    have hs2 := hB.size
    gi_wp2_with (gi_at_builtin; refine wpListIn_append_own _ rfl _ _ 29 rfl w.heap.size 96 i0 (.agg #[.int .i64 0, .int .i64 0]) 2 16 Tryz.underlying29 hi hz0 hz1 hz2 rfl (by decide) _ _ _ rfl ((krow.alloc _).alloc _) ⟨W.heap.size + 1 + 1, 0, none⟩ 1 1 [.int .i64 (a : Int), .int .i64 (b : Int)] rfl rfl hnews (by simp [Value.oneCell']) (by unfold maxLen; omega) (by omega) (by simp; omega) ?_; intro v' w3 hown' hgrow _; obtain ⟨g', cap', rfl⟩ := ownsRow_succ hown'; obtain ⟨hv1, hv2, hr2, hk2, hb2⟩ := (k2.alloc _).appended (by decide) (krow.alloc _) (by simp; omega) (by omega) hown' hgrow; have hc1 := hv1.cell; have hf1 := hv1.frozen)
    have hW3 : Below W.heap.size W (w1.alloc (.cells #[.int .i64 (a : Int), .int .i64 (b : Int)] 96)) := hb1.alloc hb1.size _
    have hBn : Below w.heap.size W (w3.setCell ⟨w.heap.size + 1 + 1, 0, none⟩ (.slice (some ⟨g', 0, none⟩) (acc.length + 1) cap')) := (hW3.mono hs2).trans hb2
    have z0 : Boxed w3 w.heap.size 29 (.slice none 0 0) := ((k0.alloc _).alloc _).kept hgrow (k0.not_row (by decide) krow)
    have z1 : Boxed w3 (w.heap.size + 1) 37 .nilIface := ((k1.alloc _).alloc _).kept hgrow (k1.not_row (by decide) krow)
    refine ⟨(keeps_below hW3).trans hk2, hBn, ⟨acc ++ [(a, b)], _, hv2, ?_, HR, by simp; omega, box_other z0 (by omega) _, box_other z1 (by omega) _⟩, hB.trans hBn⟩
    rw [List.map_append, cellsR_append]
    have e2 : cellsR ([(a, b)].map intR) = [Value.int .i64 (a : Int), Value.int .i64 (b : Int)] := rfl
    rw [e2]
    simpa using hr2
  ·have HR : Hid (∀ rest, readFrom [] ((pre ++ [x]).map Pc.l ++ rest) = .form) := form_read hread hr
   have k0 := boxed_below hb1 h0
   have k1 := boxed_below hb1 h1
   have q0c := fun o => (k0.alloc o).cell
   have q0f := fun o => (k0.alloc o).frozen
   have q1c := fun o u => (box_other (k1.alloc o) (Nat.ne_of_gt (Nat.lt_succ_self _)) u).cell
   have q1f := fun o u => (box_other (k1.alloc o) (Nat.ne_of_gt (Nat.lt_succ_self _)) u).frozen
   clear hread hr
   gi_wp2
   exact ⟨fail_keeps hb1 _ _ _, ⟨3, rfl, Or.inl ⟨rfl, HR⟩, (fail_boxes k0 k1 _ _).1, (fail_boxes k0 k1 _ _).2⟩, fail_below hB hb1 _ _ _⟩
 case done =>
  rintro D ys W hD hys ⟨⟨acc, v, hv, hrow, hread, hacc, h0, h1⟩, hB⟩ hK
  obtain ⟨va, vc, rfl⟩ := row_form hrow
  have hres : readSet s.data.toList = .ok acc := by
   unfold readSet
   rw [← hys]
   simpa [readFrom] using hread []
  have c2 := hv.cell
  have f0 := h0.frozen
  have c0 := h0.cell
  have c1 := fun u => (box_other h1 (Nat.ne_of_gt (Nat.lt_succ_self w.heap.size)) u).cell
  have f1 := fun u => (box_other h1 (Nat.ne_of_gt (Nat.lt_succ_self w.heap.size)) u).frozen
  clear hread
  gi_wp2
  have hK' := ((KeepsOthers.setCell W ⟨w.heap.size, 0, none⟩ (.slice va acc.length vc)).trans (KeepsOthers.setCell _ ⟨w.heap.size + 1, 0, none⟩ .nilIface)).same D _ hK rfl
  refine ⟨by simp, .inl ⟨_, _, rfl, run_takeDeferred hK', ?_⟩⟩
  have z0 : Boxed ((W.setCell ⟨w.heap.size, 0, none⟩ (.slice va acc.length vc)).setCell ⟨w.heap.size + 1, 0, none⟩ .nilIface) w.heap.size 29 (.slice va acc.length vc) := box_other (h0.set _) (by omega) _
  have z1 : Boxed ((W.setCell ⟨w.heap.size, 0, none⟩ (.slice va acc.length vc)).setCell ⟨w.heap.size + 1, 0, none⟩ .nilIface) (w.heap.size + 1) 37 .nilIface := (box_other h1 (by omega) _).set _
  have zr : ((W.setCell ⟨w.heap.size, 0, none⟩ (.slice va acc.length vc)).setCell ⟨w.heap.size + 1, 0, none⟩ .nilIface).ownsRow w.heap.size 96 2 (.slice va acc.length vc) acc.length (cellsR (acc.map intR)) := by
   have r1 := hrow.kept (grownBy_setCell' W w.heap.size (.slice va acc.length vc)) (.inr (h0.not_row (by decide) hrow).symm)
   exact r1.kept (grownBy_setCell' _ (w.heap.size + 1) .nilIface) (.inr ((box_other h1 (by omega) _).not_row (by decide) r1).symm)
  have zb : Below w.heap.size w ((W.setCell ⟨w.heap.size, 0, none⟩ (.slice va acc.length vc)).setCell ⟨w.heap.size + 1, 0, none⟩ .nilIface) := (hB.setCell (p := ⟨w.heap.size, 0, none⟩) (Nat.le_refl _) _).setCell (p := ⟨w.heap.size + 1, 0, none⟩) (Nat.le_succ _) _
  have q0 := (boxed_turn z0 (grownBy_putObj' _ D (.deferred none)) (fun r e => by cases e; exact ⟨_, hK', rfl⟩)).cell
  have q1 := (boxed_turn z1 (grownBy_putObj' _ D (.deferred none)) (fun r e => by cases e; exact ⟨_, hK', rfl⟩)).cell
  refine ⟨.tuple #[.slice va acc.length vc, .nilIface], ?_, zb.trans (belowK_b (w := w) (Nat.le_refl _) _ D _ _ (by omega) hK' rfl rfl), .inr (.inr ⟨acc, _, hres, hacc, rfl, ownsRow_putObj zr _ hK' rfl⟩)⟩
  simp [results, Tryz.f95, go_sem, q0, q1]
 case stop =>
  rintro D c pre W hD hpre ⟨⟨e, rfl, he, h0, h1⟩, hB⟩ hK
  obtain ⟨rest, hrest⟩ := hpre
  gi_wp2
  refine ⟨by simp, .inl ⟨_, _, rfl, run_takeDeferred hK, ?_⟩⟩
  have q0 := (boxed_turn h0 (grownBy_putObj' _ D (.deferred none)) (fun r e => by cases e; exact ⟨_, hK, rfl⟩)).cell
  have q1 := (boxed_turn h1 (grownBy_putObj' _ D (.deferred none)) (fun r e => by cases e; exact ⟨_, hK, rfl⟩)).cell
  refine ⟨.tuple #[.slice none 0 0, .iface 33 (.int .i64 e)], ?_, hB.trans (belowK_b (w := w) (Nat.le_refl _) _ D _ _ (by omega) hK rfl rfl), ?_⟩
  ·simp [results, Tryz.f95, go_sem, q0, q1]
  ·unfold readSet
   rw [← hrest]
   rcases he with ⟨rfl, h⟩ | ⟨rfl, h⟩
   ·exact .inl ⟨h _, rfl⟩
   ·exact .inr (.inl ⟨h _, rfl⟩)
theorem parse_any (s : ByteArray) (m : Int) (w : World) (hs : s.size ≤ 2000000) (hm : w.cell? ⟨1, 0, none⟩ = some (.int .i64 m)) :
  Calls Tryz.prog 95 #[.string s] w fun e w' => Below w.heap.size w w' ∧
   ((readSet s.data.toList = .form ∧ e = .returned (.tuple #[.slice none 0 0, .iface 33 (.int .i64 3)])) ∨
   (readSet s.data.toList = .limit ∧ e = .returned (.tuple #[.slice none 0 0, .iface 33 (.int .i64 4)])) ∨
   ∃ (l : List (Nat × Nat)) (v : Value), readSet s.data.toList = .ok l ∧ l.length ≤ 20 ∧ e = .returned (.tuple #[v, .nilIface]) ∧ w'.ownsRow w.heap.size 96 2 v l.length (cellsR (l.map intR))) :=
 callsIn_wide.1 (parse_in s m w hs hm)
end Go.Proofs.YtogigccbnohjjaaGreatDoor
namespace Go.Proofs.YtogigccbnohjjaaGreatDoor
open Go.RowKit Go.Proofs.Aid Go.Proofs.Sq
theorem Tryz.infoRange2 : (Tryz.prog.info? 96).map (fun i => (i.zero, i.size, i.bytes)) = some (some (.agg #[.int .i64 0, .int .i64 0]), 2, 16) := by kernel_rfl
end Go.Proofs.YtogigccbnohjjaaGreatDoor
namespace Go.Proofs.YtogigccbnohjjaaGreatDoor
open Go.RowKit Go.Proofs.Aid Go.Proofs.Sq
set_option maxHeartbeats 2000000
set_option maxRecDepth 100000
theorem sts_of_row {w : World} {base e : Nat} {v : Value} {l : List (Nat × Nat)} (h : w.ownsRow base e 2 v l.length (cellsR (l.map intR))) : StS w (fun q => base ≤ q) v l := by
 have hr : Rg w v (l.map intR) := rg_of_row (by rw [List.length_map]; exact h)
 obtain ⟨a, c, hv, hr⟩ := hr
 rw [List.length_map] at hv
 refine ⟨a, c, hv, ?_⟩
 rcases hr with hr | ⟨b, o, ha, hat⟩
 ·exact Or.inl (by simpa using hr)
 ·rcases h.2 with ⟨h1, h2⟩ | ⟨g, cap, cur, h1, h2, _⟩
  ·exact Or.inl (List.eq_nil_of_length_eq_zero h2)
  ·have h3 := h1.symm.trans hv
   injection h3 with h3 _ _
   rw [ha] at h3
   injection h3 with h3
   injection h3 with h3 _ _
   exact Or.inr ⟨b, o, ha, by rw [← h3]; exact h2, fun j x hj => hat j (intR x) (by rw [List.getElem?_map, hj]; rfl)⟩
theorem set_is (s : ByteArray) (m : Int) (w : World) (hs : s.size ≤ 2000000) (hm : w.cell? ⟨1, 0, none⟩ = some (.int .i64 m)) (hg : ErrType w) :
  Calls Tryz.prog 71 #[.string s] w fun e w' => ((readSet s.data.toList = .form ∧ e = thrown 3) ∨ (readSet s.data.toList = .limit ∧ e = thrown 4) ∨ ∃ (l : List (Nat × Nat)) (v : Value), readSet s.data.toList = .ok l ∧ e = .returned v ∧ StS w' (fun q => w.heap.size ≤ q) v l) ∧ Below w.heap.size w w' := by
 have cP := parse_any s m w hs hm
 go_enter Tryz.func71, Tryz.ntmps71
 go_wp2_with fail
 refine cP.mono ?_
 rintro e w1 ⟨hb, h⟩
 have HB : Hid (Below w.heap.size w w1) := hb
 clear hb cP
 rcases h with ⟨h1, rfl⟩ | ⟨h1, rfl⟩ | ⟨l, v, h1, h2, rfl, h3⟩
 ·have H1 : Hid (readSet s.data.toList = .form) := h1
  clear h1
  have cC := check_err 3 w1 (hg.below HB.out)
  unfold thrown at cC
  go_wp2_with fail
  refine cC.mono ?_
  rintro e w2 ⟨rfl, hb2⟩
  go_wp2_with fail
  exact ⟨rfl, Or.inl ⟨H1.out, rfl⟩, HB.out.trans (hb2.mono HB.out.size)⟩
 ·have H1 : Hid (readSet s.data.toList = .limit) := h1
  clear h1
  have cC := check_err 4 w1 (hg.below HB.out)
  unfold thrown at cC
  go_wp2_with fail
  refine cC.mono ?_
  rintro e w2 ⟨rfl, hb2⟩
  go_wp2_with fail
  exact ⟨rfl, Or.inr (Or.inl ⟨H1.out, rfl⟩), HB.out.trans (hb2.mono HB.out.size)⟩
 ·have H1 : Hid (readSet s.data.toList = .ok l) := h1
  have H3 : Hid (StS w1 (fun q => w.heap.size ≤ q) v l) := sts_of_row h3
  clear h1 h3 h2
  have cC := check_nil w1
  go_wp2_with fail
  refine cC.mono ?_
  rintro e w2 ⟨rfl, hw2⟩
  obtain rfl : w1 = w2 := hw2.symm
  go_wp2_with fail
  go_ret
  exact ⟨Or.inr (Or.inr ⟨l, v, H1.out, rfl, H3.out⟩), HB.out⟩
end Go.Proofs.YtogigccbnohjjaaGreatDoor
