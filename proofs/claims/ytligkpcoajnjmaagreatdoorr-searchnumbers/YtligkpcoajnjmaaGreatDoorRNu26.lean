/-
  What seq.readRange does.
  What seq.pieces does: the function that it gives hands on what stands between the commas.
-/
import Derived.Test.YtligkpcoajnjmaaGreatDoorRNu25
import Derived.Laws.ResultCell
import Derived.RangeFuncNested
import Derived.RangeFuncBound
import Derived.RangeFuncCalls
import Derived.RangeFuncLeaves
import Derived.Shelf.Abstract
import Derived.Shelf.RegionOpen
import Derived.WalkKit
import Derived.OwnWalkIn
import Derived.TacticsInMore
import Derived.LoopNIn
import Derived.LoopIn
namespace Go.Proofs.YtligkpcoajnjmaaGreatDoorR
open Go.RowKit Go.Proofs.Aid Go.Proofs.Sq

theorem cut_call (c : UInt8) (s : ByteArray) (m : Int) (w : World) (hs : s.size ≤ 1000000) (hm : w.cell? ⟨1, 0, none⟩ = some (.int .i64 m)) :
    Calls Tryz.prog 53 #[.string s, .string ⟨#[c]⟩] w fun e w' => e = .returned (.tuple #[.string ⟨(cutAt c s.data.toList).1.toArray⟩, .string ⟨(cutAt c s.data.toList).2.1.toArray⟩, .bool (cutAt c s.data.toList).2.2]) ∧ ∃ n, w' = w.drewN n := by
  refine (Tryz.strings_Cut s ⟨#[c]⟩ m w (by omega) hm).mono ?_
  rintro e w' ⟨rfl, n, rfl⟩
  rw [show Lib.cut s.data.toList (⟨#[c]⟩ : ByteArray).data.toList = cutAt c s.data.toList from cut_eq c _]
  exact ⟨rfl, n, rfl⟩
theorem two_below (w : World) (o : Obj) (n : Nat) (a b : Value) : Below w.heap.size w ((((w.alloc o).drewN n).setCell ⟨w.heap.size, 0, none⟩ a).setCell ⟨w.heap.size, 1, none⟩ b) :=
  ((below_drewN ((Below.refl _ _).alloc (Nat.le_refl _) _) _).setCell (p := ⟨w.heap.size, 0, none⟩) (Nat.le_refl _) _).setCell (p := ⟨w.heap.size, 1, none⟩) (Nat.le_refl _) _
set_option maxHeartbeats 1000000 in
set_option maxRecDepth 100000 in
theorem range_any (s : ByteArray) (m : Int) (w : World) (hs : s.size ≤ 1000000) (hm : w.cell? ⟨1, 0, none⟩ = some (.int .i64 m)) :
    Calls Tryz.prog 239 #[.string s] w fun e w' => ((∃ r : Nat × Nat, rangeOf s.data.toList = some r ∧ r.1 ≤ 2147483647 ∧ r.2 ≤ 2147483647 ∧ e = .returned (.tuple #[.agg #[.int .i64 (r.1 : Int), .int .i64 (r.2 : Int)], .bool true])) ∨ (rangeOf s.data.toList = none ∧ e = .returned (.tuple #[.agg #[.int .i64 0, .int .i64 0], .bool false]))) ∧ Below w.heap.size w w' ∧ w'.heap.size = w.heap.size + 1 := by
  have cC := fun w1 hm1 => cut_call 58 s m w1 hs hm1
  obtain ⟨ANS, hANS⟩ : ∃ ANS, rangeOf s.data.toList = ANS := ⟨_, rfl⟩
  rw [hANS]
  unfold rangeOf at hANS
  have hl := cutAt_length 58 s.data.toList
  rw [← Lib.size_eq] at hl
  generalize (cutAt 58 s.data.toList) = C at cC hANS hl
  obtain ⟨l1, l2, two⟩ := C
  simp only at cC hANS hl
  obtain ⟨s1, h1⟩ : ∃ s1 : ByteArray, s1 = ⟨l1.toArray⟩ := ⟨_, rfl⟩
  obtain ⟨s2, h2⟩ : ∃ s2 : ByteArray, s2 = ⟨l2.toArray⟩ := ⟨_, rfl⟩
  rw [← h1, ← h2] at cC
  have e1 : s1.data.toList = l1 := by rw [h1]
  have e2 : s2.data.toList = l2 := by rw [h2]
  have z1 : s1.size ≤ 1000000 := by rw [Lib.size_eq, e1]; omega
  have z2 : s2.size ≤ 1000000 := by rw [Lib.size_eq, e2]; omega
  clear h1 h2 hl
  have c1 := fun w1 => number_any s1 w1 z1
  have c2 := fun w1 => number_any s2 w1 z2
  rw [e1] at c1
  rw [e2] at c2
  clear z1 z2 e1 e2
  have hmA : ∀ (o : Obj), (w.alloc o).cell? ⟨1, 0, none⟩ = some (.int .i64 m) := fun o => by
    rw [World.cell?_alloc_old _ _ _ (Nat.ne_of_lt (World.block_lt_of_cell? _ _ hm))]; exact hm
  have cC' := fun o => cC (w.alloc o) (hmA o)
  clear cC
  go_enter Tryz.func239, Tryz.ntmps239
  go_wp2_with fail
  refine (cC' _).mono ?_
  rintro e w1 ⟨rfl, n, rfl⟩
  go_wp2_with fail
  refine (c1 _).mono ?_
  rintro e w1 ⟨⟨a, hn1, ha, rfl⟩ | ⟨hn1, rfl⟩, rfl⟩
  · rw [hn1, Option.bind_some] at hANS
    cases two
    · have HA : Hid (some (a, a) = ANS) := by show some (a, a) = ANS; simpa using hANS
      clear hANS
      go_wp2
      (try simp only [Exit.inBlock, Exit.then])
      refine bodyPost_ret (v := .tuple #[.agg #[.int .i64 (a : Int), .int .i64 (a : Int)], .bool true]) ?_ rfl ⟨Or.inl ⟨(a, a), HA.symm, ha, ha, rfl⟩, ?_, ?_⟩
      · rw [results_cell_tmp rfl]; go_simp
      · exact two_below _ _ _ _ _
      · simp
    · go_wp2_with fail
      refine (c2 _).mono ?_
      rintro e w1 ⟨⟨b, hn2, hb, rfl⟩ | ⟨hn2, rfl⟩, rfl⟩
      · have HA : Hid (some (a, b) = ANS) := by show some (a, b) = ANS; simpa [hn2] using hANS
        clear hANS
        go_wp2
        (try simp only [Exit.inBlock, Exit.then])
        refine bodyPost_ret (v := .tuple #[.agg #[.int .i64 (a : Int), .int .i64 (b : Int)], .bool true]) ?_ rfl ⟨Or.inl ⟨(a, b), HA.symm, ha, hb, rfl⟩, ?_, ?_⟩
        · rw [results_cell_tmp rfl]; go_simp
        · exact two_below _ _ _ _ _
        · simp
      · have HA : Hid (none = ANS) := by show none = ANS; simpa [hn2] using hANS
        clear hANS
        go_wp2
        (try simp only [Exit.inBlock, Exit.then])
        refine bodyPost_ret (v := .tuple #[.agg #[.int .i64 0, .int .i64 0], .bool false]) ?_ rfl ⟨Or.inr ⟨HA.symm, rfl⟩, ?_, ?_⟩
        · rw [results_cell_tmp rfl]; go_simp
        · exact two_below _ _ _ _ _
        · simp
  · have HA : Hid (none = ANS) := by show none = ANS; simpa [hn1] using hANS
    clear hANS
    go_wp2
    (try simp only [Exit.inBlock, Exit.then])
    refine bodyPost_ret (v := .tuple #[.agg #[.int .i64 0, .int .i64 0], .bool false]) ?_ rfl ⟨Or.inr ⟨HA.symm, rfl⟩, ?_, ?_⟩
    · rw [results_cell_tmp rfl]; go_simp
    · exact two_below _ _ _ _ _
    · simp
end Go.Proofs.YtligkpcoajnjmaaGreatDoorR
namespace Go.Proofs.YtligkpcoajnjmaaGreatDoorR
open Go.RowKit Go.Proofs.Aid Go.Proofs.Sq
attribute [local go_sem] Oper.semAt_some

/-- A piece of a text. -/
abbrev Pc := { x : ByteArray // x.size ≤ 1000000 }
def Pc.l (x : Pc) : List UInt8 := x.1.data.toList
def leftP : Value → Value → Nat
  | .string t, .bool true => t.size + 1
  | _, _ => 0
theorem grown_drewN (W : World) (n : Nat) : W.grownBy (W.drewN n) none := ⟨rfl, rfl, rfl, Nat.le_refl _, fun _ _ _ => rfl⟩

set_option maxRecDepth 100000 in
set_option maxHeartbeats 2000000 in
theorem pieces1_in (n : Nat) (hn : 1 ≤ n) (l Bn n₀ : Nat) (s : ByteArray) (hs : s.size ≤ 1000000) (m : Int) (J Jx : List Pc → World → Prop) (W : World)
    (hJ : AbidesFrom W.heap.size J)
    (hY : ∀ pre x W1, J pre W1 → pre.length < (between 44 s.data.toList).length → YieldAt Fence.wide (n - 1) Tryz.prog l #[.string x.1] W1 fun e W' =>
      (e = .returned (.bool true) ∧ J (pre ++ [x]) W' ∧ Below n₀ W1 W') ∨ (e = .returned (.bool false) ∧ Jx (pre ++ [x]) W'))
    (hBn : W.cell? ⟨Bn, 0, none⟩ = some (.string s)) (hm : W.cell? ⟨1, 0, none⟩ = some (.int .i64 m)) (hg : 1 < n₀) (h0 : J [] W) :
    CallsIn Fence.wide n Tryz.prog 268 #[.func (.yield l) #[] #[], .pointer (some ⟨Bn, 0, none⟩)] W fun e W' => (∃ v, e = .returned v) ∧
      ((∃ ys : List Pc, ys.map Pc.l = between 44 s.data.toList ∧ J ys W') ∨ (∃ pre : List Pc, pre.map Pc.l <+: between 44 s.data.toList ∧ Jx pre W')) := by
  obtain ⟨PS, hPS⟩ : ∃ PS, between 44 s.data.toList = PS := ⟨_, rfl⟩
  rw [hPS] at hY ⊢
  refine callsIn_of_wp Tryz.func268 rfl trivial ?_ rfl
  simp only [Tryz.ntmps268, List.size_toArray, List.length_cons, List.length_nil, Nat.reduceAdd, Nat.reduceSub, Array.replicate_succ, Array.replicate_zero, List.push_toArray, List.append_toArray, List.nil_append, List.cons_append]
  gi_wp2
  gi_loopw [3, 4] (fun rv mv wr => ∃ (pre : List Pc) (t : ByteArray) (more : Bool), rv = .string t ∧ mv = .bool more ∧ t.size ≤ 1000000 ∧ pre.map Pc.l ++ (if more then between 44 t.data.toList else []) = PS ∧ J pre wr ∧ wr.cell? ⟨1, 0, none⟩ = some (.int .i64 m))
    (fun rv mv _ => leftP rv mv)
  case atStart => exact ⟨[], s, true, rfl, rfl, hs, by simpa using hPS, h0, hm⟩
  case round =>
    obtain ⟨pre, t, more, rfl, rfl, ht, hps, hJs, hmr⟩ := hrel
    clear hPS hBn hm h0
    cases more
    · have HP : Hid (pre.map Pc.l = PS) := by show _ = PS; simpa using hps
      clear hps
      gi_wp2
      go_end0
      exact ⟨⟨_, rfl⟩, .inl ⟨pre, HP, hJs⟩⟩
    · rw [if_pos rfl] at hps
      have cC := cut_call 44 t m wr ht hmr
      have hlen := cutAt_length 44 t.data.toList
      rw [← Lib.size_eq] at hlen
      have hcase : ((cutAt 44 t.data.toList).2.2 = false ∧ pre.map Pc.l ++ [(cutAt 44 t.data.toList).1] = PS) ∨ ((cutAt 44 t.data.toList).2.2 = true ∧ (cutAt 44 t.data.toList).2.1.length + 1 ≤ t.size ∧ pre.map Pc.l ++ [(cutAt 44 t.data.toList).1] ++ between 44 (cutAt 44 t.data.toList).2.1 = PS) := by
        cases hb : (cutAt 44 t.data.toList).2.2
        · obtain ⟨e1, _, e3⟩ := cutAt_miss hb
          exact Or.inl ⟨rfl, by rw [e1, ← hps, e3]⟩
        · obtain ⟨e1, e2⟩ := cutAt_hit hb
          refine Or.inr ⟨rfl, ?_, ?_⟩
          · have := congrArg List.length e1
            rw [← Lib.size_eq] at this
            simp at this; omega
          · rw [← hps, e2]; simp
      clear hps
      generalize cutAt 44 t.data.toList = C at cC hlen hcase
      obtain ⟨l1, l2, b⟩ := C
      simp only at cC hlen hcase
      obtain ⟨s1, h1⟩ : ∃ s1 : ByteArray, s1 = ⟨l1.toArray⟩ := ⟨_, rfl⟩
      obtain ⟨s2, h2⟩ : ∃ s2 : ByteArray, s2 = ⟨l2.toArray⟩ := ⟨_, rfl⟩
      rw [← h1, ← h2] at cC
      have e1 : l1 = s1.data.toList := by rw [h1]
      have e2 : l2 = s2.data.toList := by rw [h2]
      rw [e1, e2, ← Lib.size_eq] at hcase
      rw [e1, e2, ← Lib.size_eq, ← Lib.size_eq] at hlen
      clear h1 h2 e1 e2
      gi_wp2_with fail
      refine ⟨trivial, ?_⟩
      refine (callsIn_wide.2 cC).mono ?_
      rintro e w1 ⟨rfl, n', rfl⟩
      have hs1 : s1.size ≤ 1000000 := by omega
      have hlt : pre.length < PS.length := by
        rcases hcase with ⟨_, h⟩ | ⟨_, _, h⟩ <;> (rw [← h]; simp; try omega)
      obtain ⟨fn, tmps, assign, body, hy, hR⟩ := hY pre ⟨s1, hs1⟩ (wr.drewN n') (hJ _ _ _ none hJs (grown_drewN _ _) (by intro r e; cases e)) hlt
      dsimp only at hy
      have HC : Hid ((b = false ∧ (pre ++ [(⟨s1, hs1⟩ : Pc)]).map Pc.l = PS) ∨ (b = true ∧ s2.size + 1 ≤ t.size ∧ (pre ++ [(⟨s1, hs1⟩ : Pc)]).map Pc.l ++ between 44 s2.data.toList = PS)) := by
        rcases hcase with ⟨h1, h2⟩ | ⟨h1, h2, h3⟩
        · exact Or.inl ⟨h1, by rw [← h2]; simp [Pc.l]⟩
        · exact Or.inr ⟨h1, h2, by rw [← h3]; simp [Pc.l]⟩
      clear hcase
      gi_wp2
      refine hR.mono ?_
      rintro e W3 (⟨rfl, hJ3, hk3⟩ | ⟨rfl, hJx3⟩)
      · have hm3 : W3.cell? ⟨1, 0, none⟩ = some (.int .i64 m) := (hk3.cell (p := ⟨1, 0, none⟩) hg).trans (by simpa using hmr)
        gi_wp2
        go_roundw
        case rel =>
          rcases (show _ ∨ _ from HC) with ⟨rfl, h2⟩ | ⟨rfl, h2, h3⟩
          · exact ⟨_, s2, false, rfl, rfl, by omega, by simpa using h2, hJ3, hm3⟩
          · exact ⟨_, s2, true, rfl, rfl, by omega, by simpa using h3, hJ3, hm3⟩
        case measure =>
          rcases (show _ ∨ _ from HC) with ⟨rfl, h2⟩ | ⟨rfl, h2, h3⟩
          · simp [leftP]
          · simp [leftP]; omega
      · gi_wp2
        refine bodyPost_ret (results_none rfl _ _ _) rfl ?_
        refine ⟨⟨_, rfl⟩, .inr ⟨_, ?_, hJx3⟩⟩
        rcases (show _ ∨ _ from HC) with ⟨rfl, h2⟩ | ⟨rfl, h2, h3⟩
        · exact ⟨[], by simpa using h2⟩
        · exact ⟨_, h3⟩
theorem pieces_any (s : ByteArray) (w : World) : Calls Tryz.prog 238 #[.string s] w fun e w' => e = .returned (.func (.func 268) #[] #[.pointer (some ⟨w.heap.size, 0, none⟩)]) ∧ w' = w.alloc (.cells #[.string s] 9) := by
  go_enter Tryz.func238, Tryz.ntmps238
  go_wp2
  go_ret
  exact ⟨rfl, rfl⟩
theorem pieces_stops (n : Nat) (hn : 1 ≤ n) (Bn n₀ : Nat) (s : ByteArray) (hs : s.size ≤ 1000000) (m : Int) (w : World) (hBn : Bn < w.heap.size) (hn₀ : n₀ ≤ w.heap.size)
    (hc : w.cell? ⟨Bn, 0, none⟩ = some (.string s)) (hm : w.cell? ⟨1, 0, none⟩ = some (.int .i64 m)) (hg : 1 < n₀) :
    SeqStopsK Fence.wide n Tryz.prog 268 #[.pointer (some ⟨Bn, 0, none⟩)] (fun x : Pc => #[Value.string x.1]) (Below n₀) (fun ys => ys.map Pc.l = between 44 s.data.toList) (fun pre => pre.map Pc.l <+: between 44 s.data.toList) (between 44 s.data.toList).length w :=
  fun l J Jx W hW hJ _ hY h0 => pieces1_in n hn l Bn n₀ s hs m J Jx W hJ hY ((hW.cell (p := ⟨Bn, 0, none⟩) hBn).trans hc) ((hW.cell (p := ⟨1, 0, none⟩) (Nat.lt_of_lt_of_le hg hn₀)).trans hm) hg h0
end Go.Proofs.YtligkpcoajnjmaaGreatDoorR
