/-
  slices.Backward over sights: what it hands on.
  As TurnRangeK, where a round's own variable lies in a block that is laid anew each time. (Of no program.)
  A function that is stored. Of no program.
-/
import Derived.RangeFuncNested
import Derived.RangeFuncBound
import Derived.RangeFuncCalls
import Derived.RangeFuncLeaves
import Derived.RangeFuncBox
import Derived.Shelf.Abstract
import Derived.Shelf.RegionOpen
import Derived.WalkKit
import Derived.OwnWalkIn
import Derived.TacticsInMore
import Derived.LoopNIn
import Derived.LoopIn
import Derived.Test.YtgpcnacpefficaaGreatDoorBpTurnRange
import Derived.Test.YtgpcnacpefficaaGreatDoorMViewMem
import Derived.Test.YtgpcnacpefficaaGreatDoorBpBoxSpec
namespace Go.Proofs.YtgpcnacpefficaaGreatDoor
open Go.RowKit Go.Proofs.Aid Go.Proofs.Bx
attribute [local go_sem] Oper.semAt_some

/-- A sight, and where it stands. -/
structure Bk0 where
  i : Nat
  u : Int
  fa : Option Addr
  fn : Nat
  fc : Nat
abbrev Bk := { x : Bk0 // x.i < 1000 }
def Bk.key (x : Bk) : Nat × Int := (x.1.i, x.1.u)
def Bk.enc (x : Bk) : Array Value := #[.int .i64 (x.1.i : Int), .agg #[.int .i64 x.1.u, .slice x.1.fa x.1.fn x.1.fc]]
/-- All from the k-th on, the last one first. -/
def bk (S : List Sg) (k : Nat) : List (Nat × Int) := (S.zipIdx.drop k).reverse.map fun x => (x.2, x.1.uid)
theorem bk_next {S : List Sg} {k : Nat} {s : Sg} (h : S[k]? = some s) : bk S k = bk S (k + 1) ++ [(k, s.uid)] := by
  have hk := (List.getElem?_eq_some_iff.1 h).1
  unfold bk
  rw [List.drop_eq_getElem_cons (by simpa using hk), List.reverse_cons, List.map_append]
  have : (S.zipIdx)[k]'(by simpa using hk) = (s, k) := by
    rw [List.getElem_zipIdx, (List.getElem?_eq_some_iff.1 h).2]; simp
  rw [this]
  rfl
theorem bk_end (S : List Sg) : bk S S.length = [] := by
  unfold bk
  rw [List.drop_of_length_le (by simp)]
  rfl
theorem bk_len (S : List Sg) (k : Nat) : (bk S k).length = S.length - k := by
  unfold bk
  rw [List.length_map, List.length_reverse, List.length_drop, List.length_zipIdx]
/-- A row of sights, as far as its own block tells. -/
def SgR (w : World) (v : Value) (S : List Sg) : Prop := ∃ a c, v = .slice a S.length c ∧ ∀ j x, S[j]? = some x → ∃ g fa fn fc, a = some ⟨g, 0, none⟩ ∧ w.cell? ⟨g, j * 2, none⟩ = some (.int .i64 x.uid) ∧ w.cell? ⟨g, j * 2 + 1, none⟩ = some (.slice fa fn fc)
theorem Sgs.row {w : World} {v : Value} {S : List Sg} (h : Sgs w v S) : SgR w v S := by
  obtain ⟨a, c, rfl⟩ := sgs_form h
  refine ⟨a, c, rfl, fun j x hj => ?_⟩
  obtain ⟨g, c2, fv, e0, _, q0, q1, hsf⟩ := sgs_at h hj
  injection e0 with e0 _ _
  obtain ⟨fa, fc, rfl, _⟩ := hsf
  exact ⟨g, fa, _, fc, e0, q0, q1⟩
theorem SgR.same {w w' : World} {v : Value} {S : List Sg} (h : SgR w v S) (hk : ∀ q, v.ownBlock = some q → w'.heap[q]? = w.heap[q]?) : SgR w' v S := by
  obtain ⟨a, c, rfl, h1⟩ := h
  refine ⟨a, c, rfl, fun j x hj => ?_⟩
  obtain ⟨g, fa, fn, fc, rfl, q0, q1⟩ := h1 j x hj
  have e := hk g rfl
  exact ⟨g, fa, fn, fc, rfl, (World.cell?_of_block (a := ⟨g, _, none⟩) e).trans q0, (World.cell?_of_block (a := ⟨g, _, none⟩) e).trans q1⟩
theorem backward_is (v : Value) (hv : ∃ a n c, v = .slice a n c) (w : World) : Calls Tryz.prog 71 #[v] w fun e w' =>
    e = .returned (.func (.func 86) #[] #[.pointer (some ⟨w.heap.size, 0, none⟩)]) ∧ w' = w.alloc (.cells #[v] 60) := by
  obtain ⟨a, n, c, rfl⟩ := hv
  go_enter Tryz.func71, Tryz.ntmps71
  go_wp2
  go_ret
  exact ⟨rfl, rfl⟩
set_option maxRecDepth 100000 in
set_option maxHeartbeats 2000000 in
theorem back_in (n : Nat) (hn : 1 ≤ n) (l SB N c : Nat) (a : Option Addr) (S : List Sg) (Kp : Nat → Prop) (J Jx : List Bk → World → Prop) (W : World) (hN : S.length = N) (hS : N ≤ 900) (hSg : SgR W (.slice a N c) S) (bS : W.heap[SB]? = some (.cells #[.slice a N c] 60 (0, 0)))
    (hKp : Kp SB ∧ ∀ q, (Value.slice a N c).ownBlock = some q → Kp q)
    (hY : ∀ pre x W1, J pre W1 → pre.length < N → YieldAt Fence.wide (n - 1) Tryz.prog l (Bk.enc x) W1 fun e W' =>
      (e = .returned (.bool true) ∧ J (pre ++ [x]) W' ∧ ∀ k, Kp k → W'.heap[k]? = W1.heap[k]?) ∨ (e = .returned (.bool false) ∧ Jx (pre ++ [x]) W')) (h0 : J [] W) :
    CallsIn Fence.wide n Tryz.prog 86 #[.func (.yield l) #[] #[], .pointer (some ⟨SB, 0, none⟩)] W fun e W' => (∃ v, e = .returned v) ∧
      ((∃ ys : List Bk, ys.map Bk.key = bk S 0 ∧ J ys W') ∨ (∃ pre : List Bk, True ∧ Jx pre W')) := by
  have HSG : Hid (SgR W (.slice a N c) S ∧ S.length = N) := ⟨hSg, hN⟩
  have cS : W.cell? ⟨SB, 0, none⟩ = some (.slice a N c) := rd_cell bS rfl
  have HKP : Hid (Kp SB ∧ ∀ q, (Value.slice a N c).ownBlock = some q → Kp q) := hKp
  clear hSg hN hKp
  refine callsIn_of_wp Tryz.func86 rfl trivial ?_ rfl
  simp only [Tryz.ntmps86, List.size_toArray, List.length_cons, List.length_nil, Nat.reduceAdd, Nat.reduceSub, Array.replicate_succ, Array.replicate_zero, List.push_toArray, List.append_toArray, List.nil_append, List.cons_append]
  gi_wp2
  gi_loopw [3] (fun iv wr => ∃ (k : Nat) (pre : List Bk), iv = .int .i64 ((k : Int) - 1) ∧ k ≤ N ∧ Hid (pre.map Bk.key = bk S k) ∧ Hid (J pre wr) ∧ Hid (∀ q, Kp q → wr.heap[q]? = W.heap[q]?)) (fun iv _ => ((intOf iv) + 1).toNat)
  case atStart => exact ⟨N, [], rfl, Nat.le_refl _, by show _ = _; rw [← HSG.out.2, bk_end]; rfl, h0, fun _ _ => rfl⟩
  case round =>
    obtain ⟨k, pre, rfl, hk, HP, HJ, HK⟩ := hrel
    have qS : wr.cell? ⟨SB, 0, none⟩ = some (.slice a N c) := (World.cell?_of_block (a := ⟨SB, 0, none⟩) (HK.out SB HKP.out.1)).trans cS
    clear h0 bS
    by_cases hk0 : k = 0
    · subst hk0
      gi_wp2
      go_end0
      exact ⟨⟨_, rfl⟩, .inl ⟨pre, HP.out, HJ.out⟩⟩
    · obtain ⟨k1, rfl⟩ : ∃ k1, k = k1 + 1 := ⟨k - 1, by omega⟩
      have hkl : k1 < S.length := by rw [HSG.out.2]; omega
      obtain ⟨s, hs⟩ : ∃ s, S[k1] = s := ⟨_, rfl⟩
      have hsk : S[k1]? = some s := by rw [List.getElem?_eq_getElem hkl, hs]
      obtain ⟨a', c', ea, hro⟩ := HSG.out.1
      rw [HSG.out.2] at ea
      injection ea with ea _ ec
      subst ea
      subst ec
      obtain ⟨g2, fa, FLs, fc, rfl, q0, q1⟩ := hro k1 s hsk
      have hgk := HK.out g2 (HKP.out.2 g2 rfl)
      replace q0 := (World.cell?_of_block (a := ⟨g2, _, none⟩) hgk).trans q0
      replace q1 := (World.cell?_of_block (a := ⟨g2, _, none⟩) hgk).trans q1
      obtain ⟨U, hU⟩ : ∃ u, s.uid = u := ⟨_, rfl⟩
      rw [hU] at q0
      have HE : Hid ((pre ++ [(⟨⟨k1, U, fa, FLs, fc⟩, by show k1 < 1000; omega⟩ : Bk)]).map Bk.key = bk S k1) := by
        show _ = _
        rw [bk_next hsk, List.map_append, HP.out, hU]
        rfl
      have hpl : pre.length < N := by
        have := congrArg List.length HP.out
        rw [List.length_map, bk_len, HSG.out.2] at this
        omega
      obtain ⟨fn, tmps, assign, body, hy, hR⟩ := hY pre ⟨⟨k1, U, fa, FLs, fc⟩, by show k1 < 1000; omega⟩ wr HJ.out hpl
      dsimp only [Bk.enc] at hy
      have hi1 : ((k1 + 1 : Nat) : Int) - 1 = (k1 : Int) := by omega
      rw [hi1]
      clear hs hsk hU hro hi1
      gi_wp2
      refine hR.mono ?_
      rintro e W3 (⟨rfl, hJ3, hk3⟩ | ⟨rfl, hJx3⟩)
      · gi_wp2
        go_roundw
        case rel => exact ⟨k1, _, rfl, by omega, HE.out, hJ3, fun q hq => (hk3 q hq).trans (HK.out q hq)⟩
        case measure => simp [intOf]
      · gi_wp2
        refine bodyPost_ret (results_none rfl _ _ _) rfl ?_
        exact ⟨⟨_, rfl⟩, .inr ⟨_, trivial, hJx3⟩⟩
end Go.Proofs.YtgpcnacpefficaaGreatDoor
namespace Go.Proofs.Aid
open Go Go.RowKit

theorem wpIn_range_turnA {α : Type} {F : Fence} {n : Nat} {P : Program} {g : Operand} {ps : Array Tmp} {assign body : Code} {Q : Exit → Act → World → Prop} {a : Act} {w : World} {b : Nat} (hb : b < w.heap.size) {Kp : Nat → Prop} (hKp : ∀ k, Kp k → k < w.heap.size)
    (hro : F.round = none) (h1 : 1 ≤ n) {gf : Nat} {lb : Array Value} (hg : a.eval g = .func (.func gf) #[] lb) (hFg : F.fn gf) (eg : ∀ args w, (callFunc gf args).run P w = .ok (.enter gf args) w)
    {encs : α → Array Value} {S Sp : List α → Prop} {N : Nat} (hseq : HandsK F (n - 1) P gf lb encs b Kp S Sp N w) (hps : ∀ x, (encs x).size = ps.size)
    (I Ix : List α → World → Prop) (hI : Bears b w.heap.size I) (hIx : Bears b w.heap.size Ix) (h0 : I [] w) (a₁ : α → Nat → Act) (ob : α → Obj)
    (hassign : ∀ (l : Nat) (x : α) (W : World) (K : Act → World → Prop), K (a₁ x W.heap.size) (W.alloc (ob x)) →
      assign.wpIn (F.inRound l) (n - 1 - 1) P (Exit.then K (fun _ _ _ => False)) { tmps := (ps.zip (encs x)).foldl (fun t (p, v) => t.setIfInBounds p v) a.tmps, defers := [] } W)
    (hbody : ∀ (l : Nat) (pre : List α) (x : α) (B : Nat) (W : World), w.heap.size ≤ B → W.heap.size = B + 1 → W.heap[B]? = some (ob x) → I pre W → pre.length < N → body.wpIn (F.inRound l) (n - 1 - 1) P (leftByK Kp I Ix (pre ++ [x]) W) (a₁ x B) W)
    (hdone : ∀ (D : Nat) (xs : List α) (W : World), w.heap.size ≤ D → S xs → I xs W → W.heap[D]? = some (.deferred (some [])) → Q .normal { a with defers := { target := .collected D, args := #[] } :: a.defers } W)
    (hstop : ∀ (D : Nat) (pre : List α) (W : World), w.heap.size ≤ D → Sp pre → Ix pre W → W.heap[D]? = some (.deferred (some [])) → Code.ret.wpIn F n P Q { a with defers := { target := .collected D, args := #[] } :: a.defers } W) :
    (Code.rangeFunc g ps assign body).wpIn F n P Q a w := by
  refine wpIn_rangeFunc fun fn hfn => ?_
  rw [hro]
  let H := w.heap.size
  let R : LoopState → Option Code → Loop := fun st pe => { state := st, pending := pe, fn, tmps := a.tmps, params := ps, assign, body, defers := H }
  let W1 : World := (w.alloc (.deferred (some []))).alloc (.loop (R .ready none))
  have lW1 : W1.heap[H + 1]? = some (.loop (R .ready none)) := by
    have := World.alloc_heap_new (w.alloc (.deferred (some []))) (.loop (R .ready none))
    rwa [World.size_alloc] at this
  have dW1 : W1.heap[H]? = some (.deferred (some [])) :=
    ((World.grownBy_alloc (w.alloc (.deferred (some []))) (.loop (R .ready none)) none).block H (by simp [H]) (by simp)).trans (World.alloc_heap_new w _)
  have iW1 : I [] W1 := hI _ _ _ (hI _ _ _ h0 (turns_alloc _ _ _ _)) (turns_alloc _ _ _ _)
  have bW1 : Below H w W1 := ((Below.refl _ w).alloc (Nat.le_refl _) _).alloc (by simp) _
  refine ⟨H + 1, [{ target := .collected H, args := #[] }], W1, { target := .fn (.func gf) lb, args := #[.func (.yield (H + 1)) #[] #[]] }, W1, gf, #[.func (.yield (H + 1)) #[] #[]] ++ lb, W1,
    run_enterLoop_outer _ _ _ _ _, ?_, ?_, ?_, fun _ => h1, ?_⟩
  · simp only [resolve, hg]
    simp [go_sem]
  · intro f' hf'
    simp [Target.leads] at hf'
    exact hf' ▸ hFg
  · simp [invoke, go_sem, eg]
  refine (hseq (H + 1) (fun pre W => I pre W ∧ W.heap[H + 1]? = some (.loop (R .ready none)) ∧ W.heap[H]? = some (.deferred (some [])))
    (fun pre W => Ix pre W ∧ W.heap[H + 1]? = some (.loop (R .done (some .ret))) ∧ W.heap[H]? = some (.deferred (some []))) W1 (fun k hk => bW1.block k (hKp k hk)) ?_ ?_ ⟨iW1, lW1, dW1⟩).mono ?_
  · rintro s A B ⟨hi, hl, hd⟩ hgr
    have far : ∀ {k : Nat} {o : Obj}, A.heap[k]? = some o → H ≤ k → B.heap[k]? = some o := fun hk hle =>
      (hgr.block _ (Array.getElem?_eq_some_iff.1 hk).1 (by intro e; cases e; exact absurd hb (Nat.not_lt.2 hle))).trans hk
    exact ⟨hI _ _ _ hi (turns_own hgr), far hl (by omega), far hd (Nat.le_refl _)⟩
  · rintro pre x W ⟨hi, hl, hd⟩ hlen
    have hlt : H + 1 < W.heap.size := (Array.getElem?_eq_some_iff.1 hl).1
    have bA : Below W.heap.size W (W.alloc (ob x)) := (Below.refl _ W).alloc (Nat.le_refl _) _
    have hlA : (W.alloc (ob x)).heap[H + 1]? = some (.loop (R .ready none)) := (bA.block _ hlt).trans hl
    have hdA : (W.alloc (ob x)).heap[H]? = some (.deferred (some [])) := (bA.block _ (by omega)).trans hd
    have hiA : I pre (W.alloc (ob x)) := hI _ _ _ hi (turns_alloc _ _ _ _)
    have hltA : H + 1 < (W.alloc (ob x)).heap.size := by simp; omega
    refine ⟨fn, _, assign, body, run_yield hl (hps x), roundIn_of_wpIn hfn (hassign _ x W _ ⟨_, run_beginRound hlA rfl, ?_⟩)⟩
    let W2 : World := (W.alloc (ob x)).putObj (H + 1) (.loop { R .ready none with state := .busy })
    have l2 : W2.heap[H + 1]? = some (.loop { R .ready none with state := .busy }) := World.putObj_heap_same hltA
    have d2 : W2.heap[H]? = some (.deferred (some [])) := (World.putObj_heap_other (by omega)).trans hdA
    have s2 : W2.heap.size = W.heap.size + 1 := World.putObj_size.trans (by simp)
    have o2 : W2.heap[W.heap.size]? = some (ob x) := (World.putObj_heap_other (by omega)).trans (World.alloc_heap_new W _)
    refine wpIn_mono (hbody _ pre x W.heap.size W2 (by omega) s2 o2 (hI _ _ _ hiA (turns_put hlA rfl (by omega) _)) hlen) ?_
    rintro e a3 W3 hp
    cases e with
    | normal =>
      obtain ⟨hsz, hfar, hkp, hi3⟩ := hp
      have l3 : W3.heap[H + 1]? = _ := hfar (H + 1) _ l2 rfl
      have d3 : W3.heap[H]? = _ := hfar H _ d2 rfl
      refine ⟨_, _, run_endRound none l3, .inl ⟨rfl, ⟨hI _ _ _ hi3 (turns_put l3 rfl (by omega) _), World.putObj_heap_same (Array.getElem?_eq_some_iff.1 l3).1, (World.putObj_heap_other (by omega)).trans d3⟩, ?_⟩⟩
      intro k hk
      have hkH : k < H := hKp k hk
      rw [World.putObj_heap_other (by omega), hkp k hk]
      exact (World.putObj_heap_other (by omega)).trans (bA.block k (by omega))
    | ret =>
      obtain ⟨hfar, hi3⟩ := hp
      have l3 : W3.heap[H + 1]? = _ := hfar (H + 1) _ l2 rfl
      have d3 : W3.heap[H]? = _ := hfar H _ d2 rfl
      exact ⟨_, _, run_endRound (some .ret) l3, .inr ⟨rfl, hIx _ _ _ hi3 (turns_put l3 rfl (by omega) _), World.putObj_heap_same (Array.getElem?_eq_some_iff.1 l3).1, (World.putObj_heap_other (by omega)).trans d3⟩⟩
    | exit _ => exact hp.elim
    | goto _ => exact hp.elim
    | panic _ => exact hp.elim
    | outgrown => exact hp.elim
  · rintro e W2 ⟨⟨v, rfl⟩, ⟨xs, hS, hi, hl, hd⟩ | ⟨pre, hS, hi, hl, hd⟩⟩
    · exact ⟨none, _, run_endLoop hl (by simp [R]), hdone _ xs _ (Nat.le_refl _) hS (hI _ _ _ hi (turns_put hl rfl (by omega) _)) ((World.putObj_heap_other (by omega)).trans hd)⟩
    · exact ⟨some .ret, _, run_endLoop hl (by simp [R]), hstop _ pre _ (Nat.le_refl _) hS (hIx _ _ _ hi (turns_put hl rfl (by omega) _)) ((World.putObj_heap_other (by omega)).trans hd)⟩
end Go.Proofs.Aid
namespace Go.Proofs.YtgpcnacpefficaaGreatDoor
open Go.RowKit Go.Proofs.Aid

theorem run_store_func (P : Program) (w : World) (a : Addr) (f : Nat) (bs : Array Value) (old : Value) (h : w.cell? a = some old) (hf : w.frozen? a = false) : (store a (.func (.func f) #[] bs)).run P w = .ok () (w.setCell a (.func (.func f) #[] bs)) := by
  rw [run_store P w a _ _ rfl, h, hf]
  rfl
end Go.Proofs.YtgpcnacpefficaaGreatDoor
