/-
  A range over a function that stores into one block of its own between the rounds (strings.SplitSeq's does): what it asks of the loop's body, and the statement's law. (Of no program.)
  A range over a function that stores into one block of its own between the rounds, where the rounds store into blocks of the caller's, too: as TurnRange, but the function wants some blocks alone as it left them. (Of no program.)
-/
import Derived.RangeFuncBox
import Derived.RangeFuncBound
import Derived.RangeFuncCalls
import Derived.RangeFuncLeaves
import Derived.Below
namespace Go.Proofs.Aid
open Go Go.RowKit

/-- From one world to another one turns: block b, or one block from 'base' on that is no cells. -/
def Turns (b base : Nat) (A B : World) : Prop :=
  ∃ row, A.grownBy B row ∧ ∀ r, row = some r → r = b ∨ (base ≤ r ∧ ∃ o : Obj, A.heap[r]? = some o ∧ o.isCells = false)
def Bears {α : Type} (b base : Nat) (J : List α → World → Prop) : Prop := ∀ s A B, J s A → Turns b base A B → J s B
theorem turns_alloc (b base : Nat) (A : World) (o : Obj) : Turns b base A (A.alloc o) := ⟨none, World.grownBy_alloc A o none, fun _ e => by cases e⟩
theorem turns_put {b base : Nat} {A : World} {r : Nat} {o : Obj} (h : A.heap[r]? = some o) (ho : o.isCells = false) (hr : base ≤ r) (o' : Obj) : Turns b base A (A.putObj r o') :=
  ⟨some r, ⟨rfl, rfl, rfl, by simp, fun k _ hk => World.putObj_heap_other (fun e => hk (by rw [e]))⟩, fun q e => by cases e; exact .inr ⟨hr, o, h, ho⟩⟩
theorem turns_own {b base : Nat} {A B : World} (h : A.grownBy B (some b)) : Turns b base A B := ⟨some b, h, fun _ e => by cases e; exact .inl rfl⟩
theorem below_put {base r : Nat} (A : World) (o : Obj) (h : base ≤ r) : Below base A (A.putObj r o) := ⟨rfl, rfl, rfl, by simp, fun k hk => World.putObj_heap_other (by omega)⟩

/-- What a function hands on, one call of yield each: xs with S, if no round says stop; pre with Sp, if one does. Between the rounds it turns block b alone; it wants all below 'base' as it left it. -/
def Hands {α : Type} (F : Fence) (n : Nat) (P : Program) (gf : Nat) (lb : Array Value) (encs : α → Array Value) (b base : Nat) (S Sp : List α → Prop) (N : Nat) (w : World) : Prop :=
  ∀ (l : Nat) (J Jx : List α → World → Prop) (W : World), Below base w W → (∀ s A B, J s A → A.grownBy B (some b) → J s B) →
    (∀ pre x W1, J pre W1 → pre.length < N → YieldAt F (n - 1) P l (encs x) W1 fun e W' =>
      (e = .returned (.bool true) ∧ J (pre ++ [x]) W' ∧ Below base W1 W') ∨ (e = .returned (.bool false) ∧ Jx (pre ++ [x]) W')) →
    J [] W → CallsIn F n P gf (#[.func (.yield l) #[] #[]] ++ lb) W fun e W' => (∃ v, e = .returned v) ∧ ((∃ ys, S ys ∧ J ys W') ∨ ∃ pre, Sp pre ∧ Jx pre W')

/-- How a round's body is left: at its end, with nothing turned that lay; or by 'return', with nothing turned from 'base' on. -/
def leftBy {α : Type} (base : Nat) (I Ix : List α → World → Prop) (xs : List α) (W : World) : Exit → Act → World → Prop
  | .normal, _, W' => Below W.heap.size W W' ∧ I xs W'
  | .ret, _, W' => (∀ k, base ≤ k → k < W.heap.size → W'.heap[k]? = W.heap[k]?) ∧ Ix xs W'
  | _, _, _ => False

theorem wpIn_range_turn {α : Type} {F : Fence} {n : Nat} {P : Program} {g : Operand} {ps : Array Tmp} {assign body : Code} {Q : Exit → Act → World → Prop} {a : Act} {w : World} {b : Nat} (hb : b < w.heap.size)
    (hro : F.round = none) (h1 : 1 ≤ n) {gf : Nat} {lb : Array Value} (hg : a.eval g = .func (.func gf) #[] lb) (hFg : F.fn gf) (eg : ∀ args w, (callFunc gf args).run P w = .ok (.enter gf args) w)
    {encs : α → Array Value} {S Sp : List α → Prop} {N : Nat} (hseq : Hands F (n - 1) P gf lb encs b w.heap.size S Sp N w) (hps : ∀ x, (encs x).size = ps.size)
    (I Ix : List α → World → Prop) (hI : Bears b w.heap.size I) (hIx : Bears b w.heap.size Ix) (h0 : I [] w) (a₁ : α → Act)
    (hassign : ∀ (l : Nat) (x : α) (W : World) (K : Act → World → Prop), K (a₁ x) W →
      assign.wpIn (F.inRound l) (n - 1 - 1) P (Exit.then K (fun _ _ _ => False)) { tmps := (ps.zip (encs x)).foldl (fun t (p, v) => t.setIfInBounds p v) a.tmps, defers := [] } W)
    (hbody : ∀ (l : Nat) (pre : List α) (x : α) (W : World), w.heap.size ≤ W.heap.size → I pre W → pre.length < N → body.wpIn (F.inRound l) (n - 1 - 1) P (leftBy w.heap.size I Ix (pre ++ [x]) W) (a₁ x) W)
    (hdone : ∀ (D : Nat) (xs : List α) (W : World), w.heap.size ≤ D → S xs → I xs W → W.heap[D]? = some (.deferred (some [])) → Q .normal { a with defers := { target := .collected D, args := #[] } :: a.defers } W)
    (hstop : ∀ (D : Nat) (pre : List α) (W : World), w.heap.size ≤ D → Sp pre → Ix pre W → W.heap[D]? = some (.deferred (some [])) → Code.ret.wpIn F n P Q { a with defers := { target := .collected D, args := #[] } :: a.defers } W) :
    (Code.rangeFunc g ps assign body).wpIn F n P Q a w := by
  refine wpIn_rangeFunc fun fn hfn => ?_
  rw [hro]
  let H := w.heap.size
  let R : LoopState → Option Code → Loop := fun st pe => { state := st, pending := pe, fn, tmps := a.tmps, params := ps, assign, body, defers := H }
  let W1 : World := (w.alloc (.deferred (some []))).alloc (.loop (R .ready none))
  have lW1 : W1.heap[H + 1]? = some (.loop (R .ready none)) := by
    have := World.alloc_heap_new (w.alloc (.deferred (some []))) (.loop (R .ready none))
    rwa [World.size_alloc] at this
  have dW1 : W1.heap[H]? = some (.deferred (some [])) :=
    ((World.grownBy_alloc (w.alloc (.deferred (some []))) (.loop (R .ready none)) none).block H (by simp [H]) (by simp)).trans (World.alloc_heap_new w _)
  have iW1 : I [] W1 := hI _ _ _ (hI _ _ _ h0 (turns_alloc _ _ _ _)) (turns_alloc _ _ _ _)
  have bW1 : Below H w W1 := ((Below.refl _ w).alloc (Nat.le_refl _) _).alloc (by simp) _
  refine ⟨H + 1, [{ target := .collected H, args := #[] }], W1, { target := .fn (.func gf) lb, args := #[.func (.yield (H + 1)) #[] #[]] }, W1, gf, #[.func (.yield (H + 1)) #[] #[]] ++ lb, W1,
    run_enterLoop_outer _ _ _ _ _, ?_, ?_, ?_, fun _ => h1, ?_⟩
  · simp only [resolve, hg]
    simp [go_sem]
  · intro f' hf'
    simp [Target.leads] at hf'
    exact hf' ▸ hFg
  · simp [invoke, go_sem, eg]
  refine (hseq (H + 1) (fun pre W => I pre W ∧ W.heap[H + 1]? = some (.loop (R .ready none)) ∧ W.heap[H]? = some (.deferred (some [])))
    (fun pre W => Ix pre W ∧ W.heap[H + 1]? = some (.loop (R .done (some .ret))) ∧ W.heap[H]? = some (.deferred (some []))) W1 bW1 ?_ ?_ ⟨iW1, lW1, dW1⟩).mono ?_
  · rintro s A B ⟨hi, hl, hd⟩ hgr
    have far : ∀ {k : Nat} {o : Obj}, A.heap[k]? = some o → H ≤ k → B.heap[k]? = some o := fun hk hle =>
      (hgr.block _ (Array.getElem?_eq_some_iff.1 hk).1 (by intro e; cases e; exact absurd hb (Nat.not_lt.2 hle))).trans hk
    exact ⟨hI _ _ _ hi (turns_own hgr), far hl (by omega), far hd (Nat.le_refl _)⟩
  · rintro pre x W ⟨hi, hl, hd⟩ hlen
    have hlt : H + 1 < W.heap.size := (Array.getElem?_eq_some_iff.1 hl).1
    refine ⟨fn, _, assign, body, run_yield hl (hps x), roundIn_of_wpIn hfn (hassign _ x W _ ⟨_, run_beginRound hl rfl, ?_⟩)⟩
    let W2 : World := W.putObj (H + 1) (.loop { R .ready none with state := .busy })
    have l2 : W2.heap[H + 1]? = some (.loop { R .ready none with state := .busy }) := World.putObj_heap_same hlt
    have d2 : W2.heap[H]? = some (.deferred (some [])) := (World.putObj_heap_other (by omega)).trans hd
    have s2 : W2.heap.size = W.heap.size := World.putObj_size
    refine wpIn_mono (hbody _ pre x W2 (by rw [s2]; omega) (hI _ _ _ hi (turns_put hl rfl (by omega) _)) hlen) ?_
    rintro e a3 W3 hp
    cases e with
    | normal =>
      obtain ⟨hbl, hi3⟩ := hp
      have l3 : W3.heap[H + 1]? = _ := (hbl.block (H + 1) (by omega)).trans l2
      have d3 : W3.heap[H]? = _ := (hbl.block H (by omega)).trans d2
      refine ⟨_, _, run_endRound none l3, .inl ⟨rfl, ⟨hI _ _ _ hi3 (turns_put l3 rfl (by omega) _), World.putObj_heap_same (Array.getElem?_eq_some_iff.1 l3).1, (World.putObj_heap_other (by omega)).trans d3⟩, ?_⟩⟩
      exact ((below_put W _ (by omega)).trans (hbl.mono (by omega))).trans (below_put W3 _ (by omega))
    | ret =>
      obtain ⟨hfar, hi3⟩ := hp
      have l3 : W3.heap[H + 1]? = _ := (hfar (H + 1) (Nat.le_succ _) (by omega)).trans l2
      have d3 : W3.heap[H]? = _ := (hfar H (Nat.le_refl _) (by omega)).trans d2
      exact ⟨_, _, run_endRound (some .ret) l3, .inr ⟨rfl, hIx _ _ _ hi3 (turns_put l3 rfl (by omega) _), World.putObj_heap_same (Array.getElem?_eq_some_iff.1 l3).1, (World.putObj_heap_other (by omega)).trans d3⟩⟩
    | exit _ => exact hp.elim
    | goto _ => exact hp.elim
    | panic _ => exact hp.elim
    | outgrown => exact hp.elim
  · rintro e W2 ⟨⟨v, rfl⟩, ⟨xs, hS, hi, hl, hd⟩ | ⟨pre, hS, hi, hl, hd⟩⟩
    · exact ⟨none, _, run_endLoop hl (by simp [R]), hdone _ xs _ (Nat.le_refl _) hS (hI _ _ _ hi (turns_put hl rfl (by omega) _)) ((World.putObj_heap_other (by omega)).trans hd)⟩
    · exact ⟨some .ret, _, run_endLoop hl (by simp [R]), hstop _ pre _ (Nat.le_refl _) hS (hIx _ _ _ hi (turns_put hl rfl (by omega) _)) ((World.putObj_heap_other (by omega)).trans hd)⟩
end Go.Proofs.Aid
namespace Go.Proofs.Aid
open Go Go.RowKit

/-- What a function hands on, one call of yield each: xs with S, if no round says stop; pre with Sp, if one does. Between the rounds it turns block b alone; it wants the blocks of Kp as it left them. -/
def HandsK {α : Type} (F : Fence) (n : Nat) (P : Program) (gf : Nat) (lb : Array Value) (encs : α → Array Value) (b : Nat) (Kp : Nat → Prop) (S Sp : List α → Prop) (N : Nat) (w : World) : Prop :=
  ∀ (l : Nat) (J Jx : List α → World → Prop) (W : World), (∀ k, Kp k → W.heap[k]? = w.heap[k]?) → (∀ s A B, J s A → A.grownBy B (some b) → J s B) →
    (∀ pre x W1, J pre W1 → pre.length < N → YieldAt F (n - 1) P l (encs x) W1 fun e W' =>
      (e = .returned (.bool true) ∧ J (pre ++ [x]) W' ∧ ∀ k, Kp k → W'.heap[k]? = W1.heap[k]?) ∨ (e = .returned (.bool false) ∧ Jx (pre ++ [x]) W')) →
    J [] W → CallsIn F n P gf (#[.func (.yield l) #[] #[]] ++ lb) W fun e W' => (∃ v, e = .returned v) ∧ ((∃ ys, S ys ∧ J ys W') ∨ ∃ pre, Sp pre ∧ Jx pre W')

/-- How a round's body is left: at its end, with nothing turned that is no cells, and nothing in Kp; or by 'return', with nothing turned that is no cells. -/
def leftByK {α : Type} (Kp : Nat → Prop) (I Ix : List α → World → Prop) (xs : List α) (W : World) : Exit → Act → World → Prop
  | .normal, _, W' => W.heap.size ≤ W'.heap.size ∧ (∀ (k : Nat) (o : Obj), W.heap[k]? = some o → o.isCells = false → W'.heap[k]? = some o) ∧ (∀ k, Kp k → W'.heap[k]? = W.heap[k]?) ∧ I xs W'
  | .ret, _, W' => (∀ (k : Nat) (o : Obj), W.heap[k]? = some o → o.isCells = false → W'.heap[k]? = some o) ∧ Ix xs W'
  | _, _, _ => False

theorem wpIn_range_turnK {α : Type} {F : Fence} {n : Nat} {P : Program} {g : Operand} {ps : Array Tmp} {assign body : Code} {Q : Exit → Act → World → Prop} {a : Act} {w : World} {b : Nat} (hb : b < w.heap.size) {Kp : Nat → Prop} (hKp : ∀ k, Kp k → k < w.heap.size)
    (hro : F.round = none) (h1 : 1 ≤ n) {gf : Nat} {lb : Array Value} (hg : a.eval g = .func (.func gf) #[] lb) (hFg : F.fn gf) (eg : ∀ args w, (callFunc gf args).run P w = .ok (.enter gf args) w)
    {encs : α → Array Value} {S Sp : List α → Prop} {N : Nat} (hseq : HandsK F (n - 1) P gf lb encs b Kp S Sp N w) (hps : ∀ x, (encs x).size = ps.size)
    (I Ix : List α → World → Prop) (hI : Bears b w.heap.size I) (hIx : Bears b w.heap.size Ix) (h0 : I [] w) (a₁ : α → Act)
    (hassign : ∀ (l : Nat) (x : α) (W : World) (K : Act → World → Prop), K (a₁ x) W →
      assign.wpIn (F.inRound l) (n - 1 - 1) P (Exit.then K (fun _ _ _ => False)) { tmps := (ps.zip (encs x)).foldl (fun t (p, v) => t.setIfInBounds p v) a.tmps, defers := [] } W)
    (hbody : ∀ (l : Nat) (pre : List α) (x : α) (W : World), w.heap.size ≤ W.heap.size → I pre W → pre.length < N → body.wpIn (F.inRound l) (n - 1 - 1) P (leftByK Kp I Ix (pre ++ [x]) W) (a₁ x) W)
    (hdone : ∀ (D : Nat) (xs : List α) (W : World), w.heap.size ≤ D → S xs → I xs W → W.heap[D]? = some (.deferred (some [])) → Q .normal { a with defers := { target := .collected D, args := #[] } :: a.defers } W)
    (hstop : ∀ (D : Nat) (pre : List α) (W : World), w.heap.size ≤ D → Sp pre → Ix pre W → W.heap[D]? = some (.deferred (some [])) → Code.ret.wpIn F n P Q { a with defers := { target := .collected D, args := #[] } :: a.defers } W) :
    (Code.rangeFunc g ps assign body).wpIn F n P Q a w := by
  refine wpIn_rangeFunc fun fn hfn => ?_
  rw [hro]
  let H := w.heap.size
  let R : LoopState → Option Code → Loop := fun st pe => { state := st, pending := pe, fn, tmps := a.tmps, params := ps, assign, body, defers := H }
  let W1 : World := (w.alloc (.deferred (some []))).alloc (.loop (R .ready none))
  have lW1 : W1.heap[H + 1]? = some (.loop (R .ready none)) := by
    have := World.alloc_heap_new (w.alloc (.deferred (some []))) (.loop (R .ready none))
    rwa [World.size_alloc] at this
  have dW1 : W1.heap[H]? = some (.deferred (some [])) :=
    ((World.grownBy_alloc (w.alloc (.deferred (some []))) (.loop (R .ready none)) none).block H (by simp [H]) (by simp)).trans (World.alloc_heap_new w _)
  have iW1 : I [] W1 := hI _ _ _ (hI _ _ _ h0 (turns_alloc _ _ _ _)) (turns_alloc _ _ _ _)
  have bW1 : Below H w W1 := ((Below.refl _ w).alloc (Nat.le_refl _) _).alloc (by simp) _
  refine ⟨H + 1, [{ target := .collected H, args := #[] }], W1, { target := .fn (.func gf) lb, args := #[.func (.yield (H + 1)) #[] #[]] }, W1, gf, #[.func (.yield (H + 1)) #[] #[]] ++ lb, W1,
    run_enterLoop_outer _ _ _ _ _, ?_, ?_, ?_, fun _ => h1, ?_⟩
  · simp only [resolve, hg]
    simp [go_sem]
  · intro f' hf'
    simp [Target.leads] at hf'
    exact hf' ▸ hFg
  · simp [invoke, go_sem, eg]
  refine (hseq (H + 1) (fun pre W => I pre W ∧ W.heap[H + 1]? = some (.loop (R .ready none)) ∧ W.heap[H]? = some (.deferred (some [])))
    (fun pre W => Ix pre W ∧ W.heap[H + 1]? = some (.loop (R .done (some .ret))) ∧ W.heap[H]? = some (.deferred (some []))) W1 (fun k hk => bW1.block k (hKp k hk)) ?_ ?_ ⟨iW1, lW1, dW1⟩).mono ?_
  · rintro s A B ⟨hi, hl, hd⟩ hgr
    have far : ∀ {k : Nat} {o : Obj}, A.heap[k]? = some o → H ≤ k → B.heap[k]? = some o := fun hk hle =>
      (hgr.block _ (Array.getElem?_eq_some_iff.1 hk).1 (by intro e; cases e; exact absurd hb (Nat.not_lt.2 hle))).trans hk
    exact ⟨hI _ _ _ hi (turns_own hgr), far hl (by omega), far hd (Nat.le_refl _)⟩
  · rintro pre x W ⟨hi, hl, hd⟩ hlen
    have hlt : H + 1 < W.heap.size := (Array.getElem?_eq_some_iff.1 hl).1
    refine ⟨fn, _, assign, body, run_yield hl (hps x), roundIn_of_wpIn hfn (hassign _ x W _ ⟨_, run_beginRound hl rfl, ?_⟩)⟩
    let W2 : World := W.putObj (H + 1) (.loop { R .ready none with state := .busy })
    have l2 : W2.heap[H + 1]? = some (.loop { R .ready none with state := .busy }) := World.putObj_heap_same hlt
    have d2 : W2.heap[H]? = some (.deferred (some [])) := (World.putObj_heap_other (by omega)).trans hd
    have s2 : W2.heap.size = W.heap.size := World.putObj_size
    refine wpIn_mono (hbody _ pre x W2 (by rw [s2]; omega) (hI _ _ _ hi (turns_put hl rfl (by omega) _)) hlen) ?_
    rintro e a3 W3 hp
    cases e with
    | normal =>
      obtain ⟨hsz, hfar, hkp, hi3⟩ := hp
      have l3 : W3.heap[H + 1]? = _ := hfar (H + 1) _ l2 rfl
      have d3 : W3.heap[H]? = _ := hfar H _ d2 rfl
      refine ⟨_, _, run_endRound none l3, .inl ⟨rfl, ⟨hI _ _ _ hi3 (turns_put l3 rfl (by omega) _), World.putObj_heap_same (Array.getElem?_eq_some_iff.1 l3).1, (World.putObj_heap_other (by omega)).trans d3⟩, ?_⟩⟩
      intro k hk
      have hkH : k < H := hKp k hk
      rw [World.putObj_heap_other (by omega), hkp k hk]
      exact World.putObj_heap_other (by omega)
    | ret =>
      obtain ⟨hfar, hi3⟩ := hp
      have l3 : W3.heap[H + 1]? = _ := hfar (H + 1) _ l2 rfl
      have d3 : W3.heap[H]? = _ := hfar H _ d2 rfl
      exact ⟨_, _, run_endRound (some .ret) l3, .inr ⟨rfl, hIx _ _ _ hi3 (turns_put l3 rfl (by omega) _), World.putObj_heap_same (Array.getElem?_eq_some_iff.1 l3).1, (World.putObj_heap_other (by omega)).trans d3⟩⟩
    | exit _ => exact hp.elim
    | goto _ => exact hp.elim
    | panic _ => exact hp.elim
    | outgrown => exact hp.elim
  · rintro e W2 ⟨⟨v, rfl⟩, ⟨xs, hS, hi, hl, hd⟩ | ⟨pre, hS, hi, hl, hd⟩⟩
    · exact ⟨none, _, run_endLoop hl (by simp [R]), hdone _ xs _ (Nat.le_refl _) hS (hI _ _ _ hi (turns_put hl rfl (by omega) _)) ((World.putObj_heap_other (by omega)).trans hd)⟩
    · exact ⟨some .ret, _, run_endLoop hl (by simp [R]), hstop _ pre _ (Nat.le_refl _) hS (hIx _ _ _ hi (turns_put hl rfl (by omega) _)) ((World.putObj_heap_other (by omega)).trans hd)⟩
end Go.Proofs.Aid
