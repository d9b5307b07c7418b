/-
  What seq.pieces does: the function that it gives hands on what stands between the commas.
-/
import Derived.RangeFuncNested
import Derived.RangeFuncBound
import Derived.RangeFuncCalls
import Derived.RangeFuncLeaves
import Derived.Shelf.Abstract
import Derived.Shelf.RegionOpen
import Derived.WalkKit
import Derived.OwnWalkIn
import Derived.TacticsInMore
import Derived.LoopNIn
import Derived.LoopIn
import Derived.Test.YtefgpafoajoofaaGreatDoorSeqRange
namespace Go.Proofs.YtefgpafoajoofaaGreatDoor
open Go.RowKit Go.Proofs.Aid Go.Proofs.Sq
attribute [local go_sem] Oper.semAt_some

/-- A piece of a text. -/
abbrev Pc := { x : ByteArray // x.size ≤ 1000000 }
def Pc.l (x : Pc) : List UInt8 := x.1.data.toList
def leftP : Value → Value → Nat
  | .string t, .bool true => t.size + 1
  | _, _ => 0
theorem grown_drewN (W : World) (n : Nat) : W.grownBy (W.drewN n) none := ⟨rfl, rfl, rfl, Nat.le_refl _, fun _ _ _ => rfl⟩

set_option maxRecDepth 100000 in
set_option maxHeartbeats 2000000 in
theorem pieces1_in (n : Nat) (hn : 1 ≤ n) (l Bn n₀ : Nat) (s : ByteArray) (hs : s.size ≤ 1000000) (m : Int) (J Jx : List Pc → World → Prop) (W : World)
    (hJ : AbidesFrom W.heap.size J)
    (hY : ∀ pre x W1, J pre W1 → pre.length < (between 44 s.data.toList).length → YieldAt Fence.wide (n - 1) Tryz.prog l #[.string x.1] W1 fun e W' =>
      (e = .returned (.bool true) ∧ J (pre ++ [x]) W' ∧ Below n₀ W1 W') ∨ (e = .returned (.bool false) ∧ Jx (pre ++ [x]) W'))
    (hBn : W.cell? ⟨Bn, 0, none⟩ = some (.string s)) (hm : W.cell? ⟨2, 0, none⟩ = some (.int .i64 m)) (hg : 2 < n₀) (h0 : J [] W) :
    CallsIn Fence.wide n Tryz.prog 96 #[.func (.yield l) #[] #[], .pointer (some ⟨Bn, 0, none⟩)] W fun e W' => (∃ v, e = .returned v) ∧
      ((∃ ys : List Pc, ys.map Pc.l = between 44 s.data.toList ∧ J ys W') ∨ (∃ pre : List Pc, pre.map Pc.l <+: between 44 s.data.toList ∧ Jx pre W')) := by
  obtain ⟨PS, hPS⟩ : ∃ PS, between 44 s.data.toList = PS := ⟨_, rfl⟩
  rw [hPS] at hY ⊢
  refine callsIn_of_wp Tryz.func96 rfl trivial ?_ rfl
  simp only [Tryz.ntmps96, List.size_toArray, List.length_cons, List.length_nil, Nat.reduceAdd, Nat.reduceSub, Array.replicate_succ, Array.replicate_zero, List.push_toArray, List.append_toArray, List.nil_append, List.cons_append]
  gi_wp2
  gi_loopw [3, 4] (fun rv mv wr => ∃ (pre : List Pc) (t : ByteArray) (more : Bool), rv = .string t ∧ mv = .bool more ∧ t.size ≤ 1000000 ∧ pre.map Pc.l ++ (if more then between 44 t.data.toList else []) = PS ∧ J pre wr ∧ wr.cell? ⟨2, 0, none⟩ = some (.int .i64 m))
    (fun rv mv _ => leftP rv mv)
  case atStart => exact ⟨[], s, true, rfl, rfl, hs, by simpa using hPS, h0, hm⟩
  case round =>
    obtain ⟨pre, t, more, rfl, rfl, ht, hps, hJs, hmr⟩ := hrel
    clear hPS hBn hm h0
    cases more
    · have HP : Hid (pre.map Pc.l = PS) := by show _ = PS; simpa using hps
      clear hps
      gi_wp2
      go_end0
      exact ⟨⟨_, rfl⟩, .inl ⟨pre, HP, hJs⟩⟩
    · rw [if_pos rfl] at hps
      have cC := cut_call 44 t m wr ht hmr
      have hlen := cutAt_length 44 t.data.toList
      rw [← Lib.size_eq] at hlen
      have hcase : ((cutAt 44 t.data.toList).2.2 = false ∧ pre.map Pc.l ++ [(cutAt 44 t.data.toList).1] = PS) ∨ ((cutAt 44 t.data.toList).2.2 = true ∧ (cutAt 44 t.data.toList).2.1.length + 1 ≤ t.size ∧ pre.map Pc.l ++ [(cutAt 44 t.data.toList).1] ++ between 44 (cutAt 44 t.data.toList).2.1 = PS) := by
        cases hb : (cutAt 44 t.data.toList).2.2
        · obtain ⟨e1, _, e3⟩ := cutAt_miss hb
          exact Or.inl ⟨rfl, by rw [e1, ← hps, e3]⟩
        · obtain ⟨e1, e2⟩ := cutAt_hit hb
          refine Or.inr ⟨rfl, ?_, ?_⟩
          · have := congrArg List.length e1
            rw [← Lib.size_eq] at this
            simp at this; omega
          · rw [← hps, e2]; simp
      clear hps
      generalize cutAt 44 t.data.toList = C at cC hlen hcase
      obtain ⟨l1, l2, b⟩ := C
      simp only at cC hlen hcase
      obtain ⟨s1, h1⟩ : ∃ s1 : ByteArray, s1 = ⟨l1.toArray⟩ := ⟨_, rfl⟩
      obtain ⟨s2, h2⟩ : ∃ s2 : ByteArray, s2 = ⟨l2.toArray⟩ := ⟨_, rfl⟩
      rw [← h1, ← h2] at cC
      have e1 : l1 = s1.data.toList := by rw [h1]
      have e2 : l2 = s2.data.toList := by rw [h2]
      rw [e1, e2, ← Lib.size_eq] at hcase
      rw [e1, e2, ← Lib.size_eq, ← Lib.size_eq] at hlen
      clear h1 h2 e1 e2
      gi_wp2_with fail
      refine ⟨trivial, ?_⟩
      refine (callsIn_wide.2 cC).mono ?_
      rintro e w1 ⟨rfl, n', rfl⟩
      have hs1 : s1.size ≤ 1000000 := by omega
      have hlt : pre.length < PS.length := by
        rcases hcase with ⟨_, h⟩ | ⟨_, _, h⟩ <;> (rw [← h]; simp; try omega)
      obtain ⟨fn, tmps, assign, body, hy, hR⟩ := hY pre ⟨s1, hs1⟩ (wr.drewN n') (hJ _ _ _ none hJs (grown_drewN _ _) (by intro r e; cases e)) hlt
      dsimp only at hy
      have HC : Hid ((b = false ∧ (pre ++ [(⟨s1, hs1⟩ : Pc)]).map Pc.l = PS) ∨ (b = true ∧ s2.size + 1 ≤ t.size ∧ (pre ++ [(⟨s1, hs1⟩ : Pc)]).map Pc.l ++ between 44 s2.data.toList = PS)) := by
        rcases hcase with ⟨h1, h2⟩ | ⟨h1, h2, h3⟩
        · exact Or.inl ⟨h1, by rw [← h2]; simp [Pc.l]⟩
        · exact Or.inr ⟨h1, h2, by rw [← h3]; simp [Pc.l]⟩
      clear hcase
      gi_wp2
      refine hR.mono ?_
      rintro e W3 (⟨rfl, hJ3, hk3⟩ | ⟨rfl, hJx3⟩)
      · have hm3 : W3.cell? ⟨2, 0, none⟩ = some (.int .i64 m) := (hk3.cell (p := ⟨2, 0, none⟩) hg).trans (by simpa using hmr)
        gi_wp2
        go_roundw
        case rel =>
          rcases (show _ ∨ _ from HC) with ⟨rfl, h2⟩ | ⟨rfl, h2, h3⟩
          · exact ⟨_, s2, false, rfl, rfl, by omega, by simpa using h2, hJ3, hm3⟩
          · exact ⟨_, s2, true, rfl, rfl, by omega, by simpa using h3, hJ3, hm3⟩
        case measure =>
          rcases (show _ ∨ _ from HC) with ⟨rfl, h2⟩ | ⟨rfl, h2, h3⟩
          · simp [leftP]
          · simp [leftP]; omega
      · gi_wp2
        refine bodyPost_ret (results_none rfl _ _ _) rfl ?_
        refine ⟨⟨_, rfl⟩, .inr ⟨_, ?_, hJx3⟩⟩
        rcases (show _ ∨ _ from HC) with ⟨rfl, h2⟩ | ⟨rfl, h2, h3⟩
        · exact ⟨[], by simpa using h2⟩
        · exact ⟨_, h3⟩
theorem pieces_any (s : ByteArray) (w : World) : Calls Tryz.prog 53 #[.string s] w fun e w' => e = .returned (.func (.func 96) #[] #[.pointer (some ⟨w.heap.size, 0, none⟩)]) ∧ w' = w.alloc (.cells #[.string s] 9) := by
  go_enter Tryz.func53, Tryz.ntmps53
  go_wp2
  go_ret
  exact ⟨rfl, rfl⟩
theorem pieces_stops (n : Nat) (hn : 1 ≤ n) (Bn n₀ : Nat) (s : ByteArray) (hs : s.size ≤ 1000000) (m : Int) (w : World) (hBn : Bn < w.heap.size) (hn₀ : n₀ ≤ w.heap.size)
    (hc : w.cell? ⟨Bn, 0, none⟩ = some (.string s)) (hm : w.cell? ⟨2, 0, none⟩ = some (.int .i64 m)) (hg : 2 < n₀) :
    SeqStopsK Fence.wide n Tryz.prog 96 #[.pointer (some ⟨Bn, 0, none⟩)] (fun x : Pc => #[Value.string x.1]) (Below n₀) (fun ys => ys.map Pc.l = between 44 s.data.toList) (fun pre => pre.map Pc.l <+: between 44 s.data.toList) (between 44 s.data.toList).length w :=
  fun l J Jx W hW hJ _ hY h0 => pieces1_in n hn l Bn n₀ s hs m J Jx W hJ hY ((hW.cell (p := ⟨Bn, 0, none⟩) hBn).trans hc) ((hW.cell (p := ⟨2, 0, none⟩) (Nat.lt_of_lt_of_le hg hn₀)).trans hm) hg h0
end Go.Proofs.YtefgpafoajoofaaGreatDoor
