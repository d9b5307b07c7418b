/-
  slices.Backward over sights: what it hands on.
-/
import Derived.RangeFuncNested
import Derived.RangeFuncBound
import Derived.RangeFuncCalls
import Derived.RangeFuncLeaves
import Derived.RangeFuncBox
import Derived.Shelf.Abstract
import Derived.Shelf.RegionOpen
import Derived.WalkKit
import Derived.OwnWalkIn
import Derived.TacticsInMore
import Derived.LoopNIn
import Derived.LoopIn
import Derived.Test.YtkneeoaeoiaefaaDoorTurnRangeK
import Derived.Test.YtkneeoaeoiaefaaDoorViewMem
namespace Go.Proofs.YtkneeoaeoiaefaaDoor
open Go.RowKit Go.Proofs.Aid Go.Proofs.Bx
attribute [local go_sem] Oper.semAt_some

/-- A sight, and where it stands. -/
structure Bk0 where
  i : Nat
  u : Int
  fa : Option Addr
  fn : Nat
  fc : Nat
abbrev Bk := { x : Bk0 // x.i < 1000 }
def Bk.key (x : Bk) : Nat × Int := (x.1.i, x.1.u)
def Bk.enc (x : Bk) : Array Value := #[.int .i64 (x.1.i : Int), .agg #[.int .i64 x.1.u, .slice x.1.fa x.1.fn x.1.fc]]
/-- All from the k-th on, the last one first. -/
def bk (S : List Sg) (k : Nat) : List (Nat × Int) := (S.zipIdx.drop k).reverse.map fun x => (x.2, x.1.uid)
theorem bk_next {S : List Sg} {k : Nat} {s : Sg} (h : S[k]? = some s) : bk S k = bk S (k + 1) ++ [(k, s.uid)] := by
  have hk := (List.getElem?_eq_some_iff.1 h).1
  unfold bk
  rw [List.drop_eq_getElem_cons (by simpa using hk), List.reverse_cons, List.map_append]
  have : (S.zipIdx)[k]'(by simpa using hk) = (s, k) := by
    rw [List.getElem_zipIdx, (List.getElem?_eq_some_iff.1 h).2]; simp
  rw [this]
  rfl
theorem bk_end (S : List Sg) : bk S S.length = [] := by
  unfold bk
  rw [List.drop_of_length_le (by simp)]
  rfl
theorem bk_len (S : List Sg) (k : Nat) : (bk S k).length = S.length - k := by
  unfold bk
  rw [List.length_map, List.length_reverse, List.length_drop, List.length_zipIdx]
/-- A row of sights, as far as its own block tells. -/
def SgR (w : World) (v : Value) (S : List Sg) : Prop := ∃ a c, v = .slice a S.length c ∧ ∀ j x, S[j]? = some x → ∃ g fa fn fc, a = some ⟨g, 0, none⟩ ∧ w.cell? ⟨g, j * 2, none⟩ = some (.int .i64 x.uid) ∧ w.cell? ⟨g, j * 2 + 1, none⟩ = some (.slice fa fn fc)
theorem Sgs.row {w : World} {v : Value} {S : List Sg} (h : Sgs w v S) : SgR w v S := by
  obtain ⟨a, c, rfl⟩ := sgs_form h
  refine ⟨a, c, rfl, fun j x hj => ?_⟩
  obtain ⟨g, c2, fv, e0, _, q0, q1, hsf⟩ := sgs_at h hj
  injection e0 with e0 _ _
  obtain ⟨fa, fc, rfl, _⟩ := hsf
  exact ⟨g, fa, _, fc, e0, q0, q1⟩
theorem SgR.same {w w' : World} {v : Value} {S : List Sg} (h : SgR w v S) (hk : ∀ q, v.ownBlock = some q → w'.heap[q]? = w.heap[q]?) : SgR w' v S := by
  obtain ⟨a, c, rfl, h1⟩ := h
  refine ⟨a, c, rfl, fun j x hj => ?_⟩
  obtain ⟨g, fa, fn, fc, rfl, q0, q1⟩ := h1 j x hj
  have e := hk g rfl
  exact ⟨g, fa, fn, fc, rfl, (World.cell?_of_block (a := ⟨g, _, none⟩) e).trans q0, (World.cell?_of_block (a := ⟨g, _, none⟩) e).trans q1⟩
theorem backward_is (v : Value) (hv : ∃ a n c, v = .slice a n c) (w : World) : Calls Tryd.prog 39 #[v] w fun e w' =>
    e = .returned (.func (.func 47) #[] #[.pointer (some ⟨w.heap.size, 0, none⟩)]) ∧ w' = w.alloc (.cells #[v] 67) := by
  obtain ⟨a, n, c, rfl⟩ := hv
  go_enter Tryd.func39, Tryd.ntmps39
  go_wp2
  go_ret
  exact ⟨rfl, rfl⟩
set_option maxRecDepth 100000 in
set_option maxHeartbeats 2000000 in
theorem back_in (n : Nat) (hn : 1 ≤ n) (l SB N c : Nat) (a : Option Addr) (S : List Sg) (Kp : Nat → Prop) (J Jx : List Bk → World → Prop) (W : World) (hN : S.length = N) (hS : N ≤ 900) (hSg : SgR W (.slice a N c) S) (bS : W.heap[SB]? = some (.cells #[.slice a N c] 67 (0, 0)))
    (hKp : Kp SB ∧ ∀ q, (Value.slice a N c).ownBlock = some q → Kp q)
    (hY : ∀ pre x W1, J pre W1 → pre.length < N → YieldAt Fence.wide (n - 1) Tryd.prog l (Bk.enc x) W1 fun e W' =>
      (e = .returned (.bool true) ∧ J (pre ++ [x]) W' ∧ ∀ k, Kp k → W'.heap[k]? = W1.heap[k]?) ∨ (e = .returned (.bool false) ∧ Jx (pre ++ [x]) W')) (h0 : J [] W) :
    CallsIn Fence.wide n Tryd.prog 47 #[.func (.yield l) #[] #[], .pointer (some ⟨SB, 0, none⟩)] W fun e W' => (∃ v, e = .returned v) ∧
      ((∃ ys : List Bk, ys.map Bk.key = bk S 0 ∧ J ys W') ∨ (∃ pre : List Bk, True ∧ Jx pre W')) := by
  have HSG : Hid (SgR W (.slice a N c) S ∧ S.length = N) := ⟨hSg, hN⟩
  have cS : W.cell? ⟨SB, 0, none⟩ = some (.slice a N c) := rd_cell bS rfl
  have HKP : Hid (Kp SB ∧ ∀ q, (Value.slice a N c).ownBlock = some q → Kp q) := hKp
  clear hSg hN hKp
  refine callsIn_of_wp Tryd.func47 rfl trivial ?_ rfl
  simp only [Tryd.ntmps47, List.size_toArray, List.length_cons, List.length_nil, Nat.reduceAdd, Nat.reduceSub, Array.replicate_succ, Array.replicate_zero, List.push_toArray, List.append_toArray, List.nil_append, List.cons_append]
  gi_wp2
  gi_loopw [3] (fun iv wr => ∃ (k : Nat) (pre : List Bk), iv = .int .i64 ((k : Int) - 1) ∧ k ≤ N ∧ Hid (pre.map Bk.key = bk S k) ∧ Hid (J pre wr) ∧ Hid (∀ q, Kp q → wr.heap[q]? = W.heap[q]?)) (fun iv _ => ((intOf iv) + 1).toNat)
  case atStart => exact ⟨N, [], rfl, Nat.le_refl _, by show _ = _; rw [← HSG.out.2, bk_end]; rfl, h0, fun _ _ => rfl⟩
  case round =>
    obtain ⟨k, pre, rfl, hk, HP, HJ, HK⟩ := hrel
    have qS : wr.cell? ⟨SB, 0, none⟩ = some (.slice a N c) := (World.cell?_of_block (a := ⟨SB, 0, none⟩) (HK.out SB HKP.out.1)).trans cS
    clear h0 bS
    by_cases hk0 : k = 0
    · subst hk0
      gi_wp2
      go_end0
      exact ⟨⟨_, rfl⟩, .inl ⟨pre, HP.out, HJ.out⟩⟩
    · obtain ⟨k1, rfl⟩ : ∃ k1, k = k1 + 1 := ⟨k - 1, by omega⟩
      have hkl : k1 < S.length := by rw [HSG.out.2]; omega
      obtain ⟨s, hs⟩ : ∃ s, S[k1] = s := ⟨_, rfl⟩
      have hsk : S[k1]? = some s := by rw [List.getElem?_eq_getElem hkl, hs]
      obtain ⟨a', c', ea, hro⟩ := HSG.out.1
      rw [HSG.out.2] at ea
      injection ea with ea _ ec
      subst ea
      subst ec
      obtain ⟨g2, fa, FLs, fc, rfl, q0, q1⟩ := hro k1 s hsk
      have hgk := HK.out g2 (HKP.out.2 g2 rfl)
      replace q0 := (World.cell?_of_block (a := ⟨g2, _, none⟩) hgk).trans q0
      replace q1 := (World.cell?_of_block (a := ⟨g2, _, none⟩) hgk).trans q1
      obtain ⟨U, hU⟩ : ∃ u, s.uid = u := ⟨_, rfl⟩
      rw [hU] at q0
      have HE : Hid ((pre ++ [(⟨⟨k1, U, fa, FLs, fc⟩, by show k1 < 1000; omega⟩ : Bk)]).map Bk.key = bk S k1) := by
        show _ = _
        rw [bk_next hsk, List.map_append, HP.out, hU]
        rfl
      have hpl : pre.length < N := by
        have := congrArg List.length HP.out
        rw [List.length_map, bk_len, HSG.out.2] at this
        omega
      obtain ⟨fn, tmps, assign, body, hy, hR⟩ := hY pre ⟨⟨k1, U, fa, FLs, fc⟩, by show k1 < 1000; omega⟩ wr HJ.out hpl
      dsimp only [Bk.enc] at hy
      have hi1 : ((k1 + 1 : Nat) : Int) - 1 = (k1 : Int) := by omega
      rw [hi1]
      clear hs hsk hU hro hi1
      gi_wp2
      refine hR.mono ?_
      rintro e W3 (⟨rfl, hJ3, hk3⟩ | ⟨rfl, hJx3⟩)
      · gi_wp2
        go_roundw
        case rel => exact ⟨k1, _, rfl, by omega, HE.out, hJ3, fun q hq => (hk3 q hq).trans (HK.out q hq)⟩
        case measure => simp [intOf]
      · gi_wp2
        refine bodyPost_ret (results_none rfl _ _ _) rfl ?_
        exact ⟨⟨_, rfl⟩, .inr ⟨_, trivial, hJx3⟩⟩
end Go.Proofs.YtkneeoaeoiaefaaDoor
