/-
  A box, the document's box, a view and the document's view, side by side in memory.
  Whether texts are the same, as the document tells: letterboxref.Same.
-/
import Derived.Test.YtgpcnacpefficaaGreatDoorBpRbNews
import Derived.Test.YtgpcnacpefficaaGreatDoorMRbFlag
import Derived.Test.YtgpcnacpefficaaGreatDoorMKnowIs
import Derived.Test.YtgpcnacpefficaaGreatDoorBpRefMap
namespace Go.Proofs.YtgpcnacpefficaaGreatDoor
open Go.RowKit Go.Proofs.Aid Go.Proofs.Bx

/-- No text is changed. -/
def Strs (w w' : World) : Prop := ∀ p s, w.cell? p = some (.string s) → w'.cell? p = some (.string s)
theorem Lts.fr {w w' : World} {v : Value} {l : List Lt} (h : Lts w v l) (hs : Strs w w') (hq : ∀ q, v.ownBlock = some q → l ≠ [] → w'.heap[q]? = w.heap[q]?) : Lts w' v l := by
  obtain ⟨a, c, rfl, h0, h2⟩ := h
  refine ⟨a, c, rfl, h0, ?_⟩
  by_cases hl : l = []
  · exact Or.inl hl
  rcases h2 with h2 | ⟨b, o, rfl, h4⟩
  · exact Or.inl h2
  · have e := hq b rfl hl
    have ec : ∀ i, w'.cell? ⟨b, i, none⟩ = w.cell? ⟨b, i, none⟩ := fun i => World.cell?_of_block (a := ⟨b, i, none⟩) e
    refine Or.inr ⟨b, o, rfl, fun j x hj => ?_⟩
    obtain ⟨q0, ⟨fv, q1, q2⟩, q3, q4⟩ := h4 j x hj
    exact ⟨(ec _).trans q0, ⟨fv, (ec _).trans q1, q2.strs hs⟩, (ec _).trans q3, (ec _).trans q4⟩
/-- Where messages lie there is a text. -/
theorem Lts.str {w : World} {v : Value} {l : List Lt} (h : Lts w v l) (hl : l ≠ []) {q : Nat} (hq : v.ownBlock = some q) : ¬ NoStr w q ∧ q < w.heap.size := by
  obtain ⟨a, c, rfl, h0, h2⟩ := h
  rcases h2 with h2 | ⟨b, o, rfl, h4⟩
  · exact absurd h2 hl
  · obtain rfl : b = q := by simpa [Value.ownBlock] using hq
    cases l with
    | nil => exact absurd rfl hl
    | cons x l =>
      obtain ⟨_, _, _, q4⟩ := h4 0 x rfl
      exact ⟨fun hn => hn _ _ q4, World.block_lt_of_cell? _ _ q4⟩
theorem Sgs.fr {w w' : World} {v : Value} {S : List Sg} (h : Sgs w v S) (hs : Strs w w') (hq : ∀ q, v.ownBlock = some q → w'.heap[q]? = w.heap[q]?) : Sgs w' v S := by
  obtain ⟨rows, h1, h2, h3, h4, h5⟩ := h
  exact ⟨rows, own_same h1 hq, h2, fun j x xs a b => by obtain ⟨fv, e1, e2, e3⟩ := h3 j x xs a b; exact ⟨fv, e1, e2.strs hs, e3⟩, h4, fun g hg => (h5 g hg).same (hq g hg)⟩
theorem LOwn.fr {w w' : World} {base : Nat} {v : Value} {l : List Lt} (h : LOwn w w base v l) (hs : Strs w w') (hq : ∀ q, v.ownBlock = some q → w'.heap[q]? = w.heap[q]?) : LOwn w' w' base v l :=
  (h.same fun q _ _ e => hq q e).now fun _ _ h' => h'.strs hs
theorem but_strs {w w' : World} {kk B : Nat} (hb : But B kk w w') (hB : w.heap.size ≤ B) (hn : NoStr w kk) : Strs w w' := fun p s hp => by
  have hne : p.block ≠ kk := fun e => by
    obtain ⟨b, o, sp⟩ := p
    obtain rfl : b = kk := e
    cases sp with
    | none => exact hn _ _ hp
    | some x =>
      unfold World.cell? at hp
      split at hp
      · simp at hp
      · cases hp
  exact (hb.cell (Nat.lt_of_lt_of_le (World.block_lt_of_cell? _ _ hp) hB) hne).trans hp
/-- All that is there: w0 is where the play began. -/
structure PS (w0 w : World) (bb wb vb ub : Nat) (K : List (Nat × Array Value)) (pt : TypeId) (vv n n2 : Int) (l l2 : List Lt) (S S2 : List Sg) (lv lw sv uv : Value) : Prop where
  base : Below w0.heap.size w0 w
  kb : w0.heap.size ≤ bb ∧ w0.heap.size ≤ wb ∧ w0.heap.size ≤ vb ∧ w0.heap.size ≤ ub
  ks : ∀ q, sv.ownBlock = some q → w0.heap.size ≤ q
  ku : ∀ q, uv.ownBlock = some q → w0.heap.size ≤ q
  box : w.heap[bb]? = some (.cells #[.int .i64 vv, .int .i64 n, lv] 28 (0, 0))
  lts : Lts w lv l
  rbox : RBox w wb vv n2 lw l2
  view : ViewAt w vb sv S
  rview : RView w ub uv S2
  sep : ∀ q, uv.ownBlock = some q → (l ≠ [] → lv.ownBlock ≠ some q) ∧ (l2 ≠ [] → lw.ownBlock ≠ some q)
  post : ∀ q pc, (q, pc) ∈ K → w.heap[q]? = some (.cells pc pt (0, 0))
  ptag : pt ≠ 28 ∧ pt ≠ 26 ∧ pt ≠ 62 ∧ pt ≠ 49 ∧ pt ≠ 51 ∧ pt ≠ 86
theorem tag_ne {w : World} {a b : Nat} {x y : Array Value} {s t : TypeId} {f g : Nat × Nat} (h1 : w.heap[a]? = some (.cells x s f)) (h2 : w.heap[b]? = some (.cells y t g)) (hne : s ≠ t) : a ≠ b := fun e => by
  subst e
  rw [h1] at h2
  injection h2 with h2
  injection h2 with _ h2 _
  exact hne h2
theorem lt_blk {w : World} {a : Nat} {x : Obj} (h : w.heap[a]? = some x) : a < w.heap.size := (Array.getElem?_eq_some_iff.1 h).1
theorem PS.boxAt {w0 w : World} {bb wb vb ub : Nat} {K : List (Nat × Array Value)} {pt : TypeId} {vv n n2 : Int} {l l2 : List Lt} {S S2 : List Sg} {lv lw sv uv : Value} (h : PS w0 w bb wb vb ub K pt vv n n2 l l2 S S2 lv lw sv uv) : BoxAt w bb vv n l := ⟨lv, h.box, h.lts⟩
/-- A view's block holds no text. -/
theorem noStr_one {w : World} {ub : Nat} {uv : Value} {t : TypeId} (h : w.heap[ub]? = some (.cells #[uv] t (0, 0))) (hv : ∃ a n c, uv = .slice a n c) : NoStr w ub := by
  obtain ⟨a, n, c, rfl⟩ := hv
  intro i s hc
  simp only [World.cell?, h] at hc
  match i, hc with
  | 0, hc => simp at hc
  | i + 1, hc => simp at hc
theorem Lts.form {w : World} {v : Value} {l : List Lt} (h : Lts w v l) : ∃ a n c, v = .slice a n c := by
  obtain ⟨a, c, h, _⟩ := h
  exact ⟨_, _, _, h⟩
variable {w0 w w' : World} {bb wb vb ub : Nat} {K : List (Nat × Array Value)} {pt : TypeId} {vv n n2 : Int} {l l2 : List Lt} {S S2 : List Sg} {lv lw sv uv : Value}
theorem PS.below (h : PS w0 w bb wb vb ub K pt vv n n2 l l2 S S2 lv lw sv uv) (hb : Below w.heap.size w w') : PS w0 w' bb wb vb ub K pt vv n n2 l l2 S S2 lv lw sv uv :=
  ⟨h.base.trans (hb.mono h.base.size), h.kb, h.ks, h.ku, (hb.block bb (lt_blk h.box)).trans h.box, h.lts.below hb (Nat.le_refl _), h.rbox.below hb (Nat.le_refl _), h.view.below hb,
    ⟨(hb.block ub (lt_blk h.rview.1)).trans h.rview.1, h.rview.2.fr (fun _ _ hp => (hb.cell (World.block_lt_of_cell? _ _ hp)).trans hp) fun q hq => hb.block q (h.rview.2.blk hq).2⟩, h.sep, fun q pc hq => (hb.block q (lt_blk (h.post q pc hq))).trans (h.post q pc hq), h.ptag⟩
/-- One block more is kept, or fewer. -/
theorem PS.keeps (h : PS w0 w bb wb vb ub K pt vv n n2 l l2 S S2 lv lw sv uv) {K' : List (Nat × Array Value)} (hK : ∀ q pc, (q, pc) ∈ K' → w.heap[q]? = some (.cells pc pt (0, 0))) : PS w0 w bb wb vb ub K' pt vv n n2 l l2 S S2 lv lw sv uv := ⟨h.base, h.kb, h.ks, h.ku, h.box, h.lts, h.rbox, h.view, h.rview, h.sep, hK, h.ptag⟩
/-- The program's box is another one. -/
theorem PS.toBox (h : PS w0 w bb wb vb ub K pt vv n n2 l l2 S S2 lv lw sv uv) {n' : Int} {l' : List Lt} (hn : BoxNew w.heap.size w' bb vv n' l') (hb : But w.heap.size bb w w') : ∃ lv', PS w0 w' bb wb vb ub K pt vv n' n2 l' l2 S S2 lv' lw sv uv := by
  obtain ⟨lv', b1, b2, b3⟩ := hn
  have hns : NoStr w bb := noStr_box h.box h.lts.form
  have hst := but_strs hb (Nat.le_refl _) hns
  have blk : ∀ q, q < w.heap.size → q ≠ bb → w'.heap[q]? = w.heap[q]? := fun q hq hne => hb.block q hq hne
  have hw : wb ≠ bb := tag_ne h.rbox.1 h.box (by decide)
  have hv : vb ≠ bb := tag_ne h.view.1 h.box (by decide)
  have hu : ub ≠ bb := tag_ne h.rview.1 h.box (by decide)
  refine ⟨lv', ⟨h.base.os ▸ hb.os, h.base.tape ▸ hb.tape, h.base.output ▸ hb.output, Nat.le_trans h.base.size hb.size, fun q hq => (blk q (Nat.lt_of_lt_of_le hq h.base.size) (by have := h.kb.1; omega)).trans (h.base.block q hq)⟩, h.kb, h.ks, h.ku, b1, b2, ⟨(blk wb h.rbox.lt hw).trans h.rbox.1, h.rbox.2.fr hst fun q hq hl => blk q (h.rbox.2.str hl hq).2 fun e => (h.rbox.2.str hl hq).1 (e ▸ hns)⟩, ⟨(blk vb h.view.lt hv).trans h.view.1, h.view.2.fr hst fun q hq => blk q (h.view.2.lt hq) fun e => ?_⟩, ⟨(blk ub (lt_blk h.rview.1) hu).trans h.rview.1, h.rview.2.fr hst fun q hq => blk q (h.rview.2.blk hq).2 fun e => ?_⟩, fun q hq => ⟨fun _ e => ?_, (h.sep q hq).2⟩, fun q pc hq => (blk q (lt_blk (h.post q pc hq)) (tag_ne (h.post q pc hq) h.box h.ptag.1)).trans (h.post q pc hq), h.ptag⟩
  · obtain ⟨rows, r1, _⟩ := h.view.2
    exact row_off r1 h.box (by decide) (e ▸ hq)
  · obtain ⟨rows, r1, _⟩ := h.rview.2
    exact row_off r1 h.box (by decide) (e ▸ hq)
  · have := b3 q e
    have := (h.rview.2.blk hq).2
    omega
/-- The document's box is another one. -/
theorem PS.toRBox (h : PS w0 w bb wb vb ub K pt vv n n2 l l2 S S2 lv lw sv uv) {n' : Int} {l' : List Lt} (hn : RBoxNew w.heap.size w' wb vv n' l') (hb : But w.heap.size wb w w') : ∃ lw', PS w0 w' bb wb vb ub K pt vv n n' l l' S S2 lv lw' sv uv := by
  obtain ⟨lw', b1, b3⟩ := hn
  have hns : NoStr w wb := noStr_box h.rbox.1 h.rbox.2.form
  have hst := but_strs hb (Nat.le_refl _) hns
  have blk : ∀ q, q < w.heap.size → q ≠ wb → w'.heap[q]? = w.heap[q]? := fun q hq hne => hb.block q hq hne
  have hw : bb ≠ wb := tag_ne h.box h.rbox.1 (by decide)
  have hv : vb ≠ wb := tag_ne h.view.1 h.rbox.1 (by decide)
  have hu : ub ≠ wb := tag_ne h.rview.1 h.rbox.1 (by decide)
  refine ⟨lw', ⟨h.base.os ▸ hb.os, h.base.tape ▸ hb.tape, h.base.output ▸ hb.output, Nat.le_trans h.base.size hb.size, fun q hq => (blk q (Nat.lt_of_lt_of_le hq h.base.size) (by have := h.kb.2.1; omega)).trans (h.base.block q hq)⟩, h.kb, h.ks, h.ku, (blk bb (lt_blk h.box) hw).trans h.box, h.lts.fr hst fun q hq hl => blk q (h.lts.str hl hq).2 fun e => (h.lts.str hl hq).1 (e ▸ hns), b1, ⟨(blk vb h.view.lt hv).trans h.view.1, h.view.2.fr hst fun q hq => blk q (h.view.2.lt hq) fun e => ?_⟩, ⟨(blk ub (lt_blk h.rview.1) hu).trans h.rview.1, h.rview.2.fr hst fun q hq => blk q (h.rview.2.blk hq).2 fun e => ?_⟩, fun q hq => ⟨(h.sep q hq).1, fun _ e => ?_⟩, fun q pc hq => (blk q (lt_blk (h.post q pc hq)) (tag_ne (h.post q pc hq) h.rbox.1 h.ptag.2.1)).trans (h.post q pc hq), h.ptag⟩
  · obtain ⟨rows, r1, _⟩ := h.view.2
    exact row_off r1 h.rbox.1 (by decide) (e ▸ hq)
  · obtain ⟨rows, r1, _⟩ := h.rview.2
    exact row_off r1 h.rbox.1 (by decide) (e ▸ hq)
  · have := b3 q e
    have := (h.rview.2.blk hq).2
    omega
/-- The program's view is another one. -/
theorem PS.toView (h : PS w0 w bb wb vb ub K pt vv n n2 l l2 S S2 lv lw sv uv) {S' : List Sg} (hn : VNext w vb sv w' S') : ∃ sv', PS w0 w' bb wb vb ub K pt vv n n2 l l2 S' S2 lv lw sv' uv := by
  obtain ⟨sv', v1, k, near⟩ := hn
  have hst : Strs w w' := fun p s hp => by
    obtain ⟨b, o, sp⟩ := p
    cases sp with
    | none =>
      have hlt := World.block_lt_of_cell? _ _ hp
      have e := k.texts h.view hlt fun hn => hn o s hp
      exact (World.cell?_of_block (a := ⟨b, o, none⟩) e).trans hp
    | some x =>
      unfold World.cell? at hp
      split at hp
      · simp at hp
      · cases hp
  have hv1 : ∀ {q : Nat} {arr : Array Value} {t : TypeId}, w.heap[q]? = some (.cells arr t (0, 0)) → t ≠ 62 → t ≠ 86 → w'.heap[q]? = some (.cells arr t (0, 0)) := fun {q arr t} hq h1 h2 => (k.block q (lt_blk hq) (tag_ne hq h.view.1 h1) (by
    obtain ⟨rows, r1, _⟩ := h.view.2
    exact row_off r1 hq (Ne.symm h2))).trans hq
  have hlt : ∀ {q : Nat}, q < w.heap.size → ¬ NoStr w q → w'.heap[q]? = w.heap[q]? := fun hq hn => k.texts h.view hq hn
  refine ⟨sv', ⟨h.base.os ▸ k.os, h.base.tape ▸ k.tape, h.base.output ▸ k.output, Nat.le_trans h.base.size k.size, fun q hq => (k.block q (Nat.lt_of_lt_of_le hq h.base.size) (by have := h.kb.2.2.1; omega) fun e => by have := h.ks q e; omega).trans (h.base.block q hq)⟩, h.kb, fun q hq => ?_, h.ku, hv1 h.box (by decide) (by decide), h.lts.fr hst fun q hq hl => hlt (h.lts.str hl hq).2 (h.lts.str hl hq).1, ⟨hv1 h.rbox.1 (by decide) (by decide), h.rbox.2.fr hst fun q hq hl => hlt (h.rbox.2.str hl hq).2 (h.rbox.2.str hl hq).1⟩, v1, ⟨hv1 h.rview.1 (by decide) (by decide), h.rview.2.fr hst fun q hq => ?_⟩, h.sep, fun q pc hq => hv1 (h.post q pc hq) h.ptag.2.2.1 h.ptag.2.2.2.2.2, h.ptag⟩
  · rcases near q hq with h1 | h1
    · exact h.ks q h1
    · exact Nat.le_trans h.base.size h1
  · have hql := (h.rview.2.blk hq).2
    obtain ⟨rows, r1, _⟩ := h.rview.2
    obtain ⟨rows', r2, _⟩ := h.view.2
    refine k.block q hql (fun e => ?_) (own_apart r1 (own_lower r2 (Nat.zero_le _)) (by decide) hq)
    exact row_off r1 h.view.1 (by decide) (e ▸ hq)
/-- The document's view is another one, its row new. -/
theorem PS.toRView (h : PS w0 w bb wb vb ub K pt vv n n2 l l2 S S2 lv lw sv uv) {S' : List Sg} {uv' : Value} (hn : RView w' ub uv' S') (hf : ∀ q, uv'.ownBlock = some q → w.heap.size ≤ q) (hb : But w.heap.size ub w w') : PS w0 w' bb wb vb ub K pt vv n n2 l l2 S S' lv lw sv uv' := by
  have hns : NoStr w ub := noStr_one h.rview.1 (by obtain ⟨a, c, e⟩ := h.rview.2.form; exact ⟨_, _, _, e⟩)
  have hst := but_strs hb (Nat.le_refl _) hns
  have blk : ∀ q, q < w.heap.size → q ≠ ub → w'.heap[q]? = w.heap[q]? := fun q hq hne => hb.block q hq hne
  have h1 : bb ≠ ub := tag_ne h.box h.rview.1 (by decide)
  have h2 : wb ≠ ub := tag_ne h.rbox.1 h.rview.1 (by decide)
  have h3 : vb ≠ ub := tag_ne h.view.1 h.rview.1 (by decide)
  refine ⟨⟨h.base.os ▸ hb.os, h.base.tape ▸ hb.tape, h.base.output ▸ hb.output, Nat.le_trans h.base.size hb.size, fun q hq => (blk q (Nat.lt_of_lt_of_le hq h.base.size) (by have := h.kb.2.2.2; omega)).trans (h.base.block q hq)⟩, h.kb, h.ks, fun q hq => Nat.le_trans h.base.size (hf q hq), (blk bb (lt_blk h.box) h1).trans h.box, h.lts.fr hst fun q hq hl => blk q (h.lts.str hl hq).2 fun e => (h.lts.str hl hq).1 (e ▸ hns), ⟨(blk wb h.rbox.lt h2).trans h.rbox.1, h.rbox.2.fr hst fun q hq hl => blk q (h.rbox.2.str hl hq).2 fun e => (h.rbox.2.str hl hq).1 (e ▸ hns)⟩, ⟨(blk vb h.view.lt h3).trans h.view.1, h.view.2.fr hst fun q hq => blk q (h.view.2.lt hq) fun e => ?_⟩, hn, fun q hq => ⟨fun hl e => ?_, fun hl e => ?_⟩, fun q pc hq => (blk q (lt_blk (h.post q pc hq)) (tag_ne (h.post q pc hq) h.rview.1 h.ptag.2.2.2.1)).trans (h.post q pc hq), h.ptag⟩
  · obtain ⟨rows, r1, _⟩ := h.view.2
    exact row_off r1 h.rview.1 (by decide) (e ▸ hq)
  · have := hf q hq
    have := (h.lts.str hl e).2
    omega
  · have := hf q hq
    have := (h.rbox.2.str hl e).2
    omega
/-- The document's view knows other flags. -/
theorem PS.toKnow (h : PS w0 w bb wb vb ub K pt vv n n2 l l2 S S2 lv lw sv uv) {S' : List Sg} (hn : RView w' ub uv S') (k : UKeep uv w w') : PS w0 w' bb wb vb ub K pt vv n n2 l l2 S S' lv lw sv uv := by
  have hoff : ∀ {q : Nat} {arr : Array Value} {t : TypeId}, w.heap[q]? = some (.cells arr t (0, 0)) → t ≠ 51 → w'.heap[q]? = some (.cells arr t (0, 0)) := fun {q arr t} hq h1 => (k.block q (by
    obtain ⟨rows, r1, _⟩ := h.rview.2
    exact row_off r1 hq (Ne.symm h1))).trans hq
  refine ⟨⟨h.base.os ▸ k.os, h.base.tape ▸ k.tape, h.base.output ▸ k.output, by rw [k.size]; exact h.base.size, fun q hq => (k.block q fun e => by have := h.ku q e; omega).trans (h.base.block q hq)⟩, h.kb, h.ks, h.ku, hoff h.box (by decide), h.lts.fr k.strs fun q hq hl => k.block q fun e => (h.sep q e).1 hl hq, ⟨hoff h.rbox.1 (by decide), h.rbox.2.fr k.strs fun q hq hl => k.block q fun e => (h.sep q e).2 hl hq⟩, ⟨hoff h.view.1 (by decide), h.view.2.fr k.strs fun q hq => k.block q ?_⟩, hn, h.sep, fun q pc hq => hoff (h.post q pc hq) h.ptag.2.2.2.2.1, h.ptag⟩
  obtain ⟨rows, r1, _⟩ := h.rview.2
  obtain ⟨rows', r2, _⟩ := h.view.2
  exact own_apart r2 (own_lower r1 (Nat.zero_le _)) (by decide) hq
end Go.Proofs.YtgpcnacpefficaaGreatDoor
namespace Go.Proofs.YtgpcnacpefficaaGreatDoor
open Go.RowKit Go.Proofs.Aid Go.Proofs.Fl Go.Sort Go.Lib

set_option maxHeartbeats 1000000 in
set_option maxRecDepth 100000 in
theorem rsame_is (va vb : Value) (x y : List Tx) (w : World) (ha : Sl w va x) (hb : Sl w vb y) (hx : x.length ≤ 1000) (hy : y.length ≤ 1000) :
    Calls Tryz.prog 18 #[va, vb] w fun e w' => e = .returned (.bool (decide (x = y))) ∧ ∃ q, w' = w.drewN q := by
  obtain ⟨a0, c0, rfl, _, ha⟩ := ha
  obtain ⟨a1, c1, rfl, _, hb⟩ := hb
  obtain ⟨R, hR⟩ : ∃ R, decide (x = y) = R := ⟨_, rfl⟩
  rw [hR]
  by_cases hl : x.length = y.length
  · have HR : Hid (decide (x = y) = R) := hR
    obtain ⟨n, hn⟩ : ∃ n, x.length = n := ⟨_, rfl⟩
    have hm : y.length = n := by omega
    rw [hn] at hx ⊢
    rw [hm]
    have HN : Hid (x.length = n ∧ y.length = n) := ⟨hn, hm⟩
    clear hl hR hn hm hy
    go_enter Tryz.func18, Tryz.ntmps18
    go_wp2
    go_loopw [13] (fun i wr => ∃ k q : Nat, i = .int .i64 (k : Int) ∧ k ≤ n ∧ Hid (x.take k = y.take k) ∧ Hid (wr = w.drewN q)) (fun i _ => n - (intOf i).toNat)
    case atStart => exact ⟨0, 0, rfl, Nat.zero_le _, rfl, rfl⟩
    case round =>
      obtain ⟨k, q, rfl, hk, HK, HQ⟩ := hrel
      obtain ⟨hn, hm⟩ := HN.out
      by_cases hlt : k < n
      · rcases ha with rfl | ⟨b, o, rfl, hat⟩
        · simp at hn; omega
        rcases hb with rfl | ⟨b', o', rfl, hbt⟩
        · simp at hm; omega
        have hkx : k < x.length := by omega
        have hky : k < y.length := by omega
        have d1 := hat k _ (List.getElem?_eq_getElem hkx)
        have d2 := hbt k _ (List.getElem?_eq_getElem hky)
        obtain ⟨u, hu⟩ : ∃ u : ByteArray, ⟨x[k].toArray⟩ = u := ⟨_, rfl⟩
        obtain ⟨t, ht⟩ : ∃ t : ByteArray, ⟨y[k].toArray⟩ = t := ⟨_, rfl⟩
        have e1 : wr.cell? ⟨b, o + k, none⟩ = some (.string u) := by rw [HQ.out, ← hu]; exact d1
        have e2 : wr.cell? ⟨b', o' + k, none⟩ = some (.string t) := by rw [HQ.out, ← ht]; exact d2
        have HU : Hid (u.data.toList = x[k]) := by show u.data.toList = _; rw [← hu]
        have HT : Hid (t.data.toList = y[k]) := by show t.data.toList = _; rw [← ht]
        clear hat hbt d1 d2 hu ht hn hm
        by_cases hq : u = t
        · subst hq
          have HS : Hid (x.take (k + 1) = y.take (k + 1)) := take_eq_succ hkx hky HK.out (HU.out.symm.trans HT.out)
          go_wp2
          go_quiet (fail)
          go_wp2
          go_roundw
          case rel => exact ⟨k + 1, _, by go_num, by omega, HS.out, by show _ = _; rw [HQ.out, World.drewN_drewN]⟩
          case measure => simp [intOf]; omega
        · have hne : (u.toList == t.toList) = false := by
            rw [Lib.toList_data, Lib.toList_data, beq_eq_false_iff_ne]
            exact fun h => hq (ba_eq h)
          have HC : Hid (R = false) := by
            show R = false
            rw [← HR.out, decide_eq_false_iff_not]
            rintro rfl
            exact hq (ba_eq (HU.out.trans HT.out.symm))
          clear hq
          go_wp2
          go_quiet (fail)
          go_wp2
          go_ret
          exact ⟨by rw [HC.out]; rfl, _, by rw [HQ.out, World.drewN_drewN]⟩
      · have HC : Hid (R = true) := by
          show R = true
          rw [← HR.out, decide_eq_true_eq]
          have := HK.out
          rw [List.take_of_length_le (by omega), List.take_of_length_le (by omega)] at this
          exact this
        clear ha hb hn hm
        go_wp2
        go_ret
        exact ⟨by rw [HC.out]; rfl, q, HQ.out⟩
  · have hne : R = false := by rw [← hR, decide_eq_false_iff_not]; rintro rfl; exact hl rfl
    subst hne
    have h' : ((x.length : Int) == (y.length : Int)) = false := by rw [beq_eq_false_iff_ne]; omega
    clear hR ha hb
    go_enter Tryz.func18, Tryz.ntmps18
    go_wp2
    go_ret
    exact ⟨rfl, 0, rfl⟩
end Go.Proofs.YtgpcnacpefficaaGreatDoor
