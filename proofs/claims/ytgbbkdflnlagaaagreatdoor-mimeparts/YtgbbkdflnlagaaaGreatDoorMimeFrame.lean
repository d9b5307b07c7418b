/-
  Frames: what is left as it was, but for some blocks. Of no program.
-/
import Derived.Test.YtgbbkdflnlagaaaGreatDoorHeadReader
import Derived.Test.YtgbbkdflnlagaaaGreatDoorTurnRangeK
namespace Go.Proofs.YtgbbkdflnlagaaaGreatDoor
open Go.RowKit Go.Proofs.Aid

/-- Below base nothing but blocks of X is changed. -/
structure Frm (base : Nat) (X : Nat → Prop) (w w' : World) : Prop where
  os : w'.os = w.os
  tape : w'.tape = w.tape
  output : w'.output = w.output
  size : w.heap.size ≤ w'.heap.size
  block : ∀ k, k < base → ¬ X k → w'.heap[k]? = w.heap[k]?
theorem Frm.refl (base : Nat) (X : Nat → Prop) (w : World) : Frm base X w w := ⟨rfl, rfl, rfl, Nat.le_refl _, fun _ _ _ => rfl⟩
theorem frm_below {base B : Nat} {X : Nat → Prop} {w w' : World} (h : Below B w w') (hb : base ≤ B) : Frm base X w w' := ⟨h.os, h.tape, h.output, h.size, fun k hk _ => h.block k (by omega)⟩
theorem Frm.trans {base : Nat} {X : Nat → Prop} {w w' w'' : World} (h : Frm base X w w') (k : Frm base X w' w'') : Frm base X w w'' :=
  ⟨k.os.trans h.os, k.tape.trans h.tape, k.output.trans h.output, Nat.le_trans h.size k.size, fun j hj hb => (k.block j hj hb).trans (h.block j hj hb)⟩
theorem frm_set {base b i : Nat} {X : Nat → Prop} (w : World) (v : Value) (h : X b ∨ base ≤ b) : Frm base X w (w.setCell ⟨b, i, none⟩ v) :=
  ⟨rfl, rfl, rfl, by simp, fun k hk hx => Below.heap_setCell _ _ _ _ (fun e => h.elim (fun h => hx (by rw [show k = b from e]; exact h)) (fun h => by have e' : k = b := e; omega))⟩
theorem frm_grown {base : Nat} {X : Nat → Prop} {w w' : World} {row : Option Nat} (h : w.grownBy w' row) (hs : base ≤ w.heap.size) (hr : ∀ r, row = some r → X r ∨ base ≤ r) : Frm base X w w' :=
  ⟨h.os, h.tape, h.output, h.size, fun k hk hx => h.block k (by omega) (fun e => (hr k e.symm).elim hx (fun h => by omega))⟩
theorem Frm.below {base B : Nat} {X : Nat → Prop} {w w' : World} (h : Frm base X w w') (h1 : B ≤ base) (h2 : ∀ k, X k → B ≤ k) : Below B w w' :=
  ⟨h.os, h.tape, h.output, h.size, fun k hk => h.block k (by omega) (fun hx => by have := h2 k hx; omega)⟩
theorem Frm.box {base b t : Nat} {X : Nat → Prop} {w w' : World} {v : Value} (h : Frm base X w w') (hb : Boxed w b t v) (hlt : b < base) (hx : ¬ X b) : Boxed w' b t v := (h.block b hlt hx).trans hb
/-- A row is what it was where its block is. -/
theorem own_same {e : TypeId} {base size n : Nat} {w w' : World} {v : Value} {xs : List Value} (h : w.ownsRow base e size v n xs) (hk : ∀ g, v.ownBlock = some g → w'.heap[g]? = w.heap[g]?) : w'.ownsRow base e size v n xs := by
  refine ⟨h.1, ?_⟩
  rcases h.2 with h2 | ⟨g, cap, cur, rfl, h4, hh, r⟩
  · exact Or.inl h2
  · exact Or.inr ⟨g, cap, cur, rfl, h4, (hk g rfl).trans hh, r⟩
/-- A row's block is cells. -/
theorem own_cells {e : TypeId} {base size n g : Nat} {w : World} {v : Value} {xs : List Value} (h : w.ownsRow base e size v n xs) (hg : v.ownBlock = some g) : ∃ arr fz, w.heap[g]? = some (.cells arr e fz) := by
  rcases h.2 with ⟨rfl, _⟩ | ⟨g', cap, cur, rfl, _, hh, _⟩
  · simp [Value.ownBlock] at hg
  · simp [Value.ownBlock] at hg
    subst hg
    exact ⟨_, _, hh⟩
theorem push_box (W : World) (t : TypeId) (v : Value) : ∃ W', W.alloc (.cells #[v] t) = W' ∧ W'.heap.size = W.heap.size + 1 ∧ Boxed W' W.heap.size t v ∧ Below W.heap.size W W' :=
  ⟨_, rfl, by simp, Boxed.new W t v, (Below.refl _ W).alloc (Nat.le_refl _) _⟩
end Go.Proofs.YtgbbkdflnlagaaaGreatDoor
