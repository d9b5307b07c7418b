/-
  A slice of texts in memory, and more.
-/
import Derived.Test.YtfdlopimncodcaaGreatDoorMSeqBase
import Derived.Test.YtfdlopimncodcaaGreatDoorFlagsSpec
import Derived.Deep.Cut
import Derived.Deep.CutRange
import Derived.Deep.DeepCutAuto
import Derived.Deep.CutBlock
namespace Go.Proofs.YtfdlopimncodcaaGreatDoor
open Go.RowKit Go.Proofs.Aid Go.Proofs.Fl Go.Sort Go.Lib

/-- A slice of texts. -/
def Sl (w : World) (v : Value) (l : List Tx) : Prop :=
  ∃ a c, v = .slice a l.length c ∧ ((a = none → c = 0) ∧ l.length ≤ c) ∧ (l = [] ∨ ∃ b o, a = some ⟨b, o, none⟩ ∧ ∀ (j : Nat) t, l[j]? = some t → w.cell? ⟨b, o + j, none⟩ = some (encStr t))
theorem Sl.below {w w' : World} {v : Value} {B : Nat} {l : List Tx} (h : Sl w v l) (hb : Below B w w') (hB : w.heap.size ≤ B) : Sl w' v l := by
  obtain ⟨a, c, h1, h0, h2⟩ := h
  refine ⟨a, c, h1, h0, ?_⟩
  rcases h2 with h2 | ⟨b, o, h3, h4⟩
  · exact Or.inl h2
  · refine Or.inr ⟨b, o, h3, fun j z hj => ?_⟩
    have h5 := h4 j z hj
    have hlt := World.block_lt_of_cell? _ _ h5
    exact (hb.cell (p := ⟨b, _, none⟩) (Nat.lt_of_lt_of_le hlt hB)).trans h5
end Go.Proofs.YtfdlopimncodcaaGreatDoor
namespace Go.Proofs.YtfdlopimncodcaaGreatDoor
open Go.RowKit Go.Proofs.Aid

/-- A row of another type stays what it was. -/
theorem kept_row {e e' : TypeId} {B base size : Nat} {w w' : World} (h : Kept e B w w') (hne : e' ≠ e) {v : Value} {n : Nat} {xs : List Value} (hown : w.ownsRow base e' size v n xs) : w'.ownsRow base e' size v n xs := by
  refine ⟨hown.1, ?_⟩
  rcases hown.2 with h2 | ⟨g, cap, cur, hv, hg, hh, r⟩
  · exact Or.inl h2
  · exact Or.inr ⟨g, cap, cur, hv, hg, h.others g _ hh (by simp) (fun c fz he => hne (by cases he; rfl)), r⟩
theorem row_off {e t : TypeId} {base size n b : Nat} {w : World} {v : Value} {xs : List Value} {arr : Array Value} {fz : Nat × Nat} (h : w.ownsRow base e size v n xs) (hh : w.heap[b]? = some (.cells arr t fz)) (hne : e ≠ t) : v.ownBlock ≠ some b := fun e1 => by
  rcases h.2 with ⟨rfl, _⟩ | ⟨g, cap, cur, rfl, _, hg, _⟩
  · simp [Value.ownBlock] at e1
  · simp [Value.ownBlock] at e1
    subst e1
    rw [hg] at hh
    injection hh with hh
    injection hh with _ e2 _
    exact hne e2
/-- Below base nothing but block b is changed. -/
structure But (base b : Nat) (w w' : World) : Prop where
  os : w'.os = w.os
  tape : w'.tape = w.tape
  output : w'.output = w.output
  size : w.heap.size ≤ w'.heap.size
  block : ∀ k, k < base → k ≠ b → w'.heap[k]? = w.heap[k]?
theorem to_but {base b : Nat} {w w' : World} (h : Below base w w') : But base b w w' := ⟨h.os, h.tape, h.output, h.size, fun k hk _ => h.block k hk⟩
theorem But.trans {base b : Nat} {w w' w'' : World} (h : But base b w w') (k : But base b w' w'') : But base b w w'' :=
  ⟨k.os.trans h.os, k.tape.trans h.tape, k.output.trans h.output, Nat.le_trans h.size k.size, fun j hj hb => (k.block j hj hb).trans (h.block j hj hb)⟩
theorem But.setB {base b : Nat} {w w' : World} (h : But base b w w') (i : Nat) (x : Value) : But base b w (w'.setCell ⟨b, i, none⟩ x) :=
  ⟨h.os, h.tape, h.output, by simpa using h.size, fun k hk hb => (Below.heap_setCell _ _ _ _ hb).trans (h.block k hk hb)⟩
theorem But.cell {base b : Nat} {w w' : World} (h : But base b w w') {p : Addr} (hp : p.block < base) (hb : p.block ≠ b) : w'.cell? p = w.cell? p := World.cell?_of_block (w := w) (h.block p.block hp hb)
theorem But.below {base b B : Nat} {w w' : World} (h : But base b w w') (h1 : B ≤ base) (h2 : B ≤ b) : Below B w w' := ⟨h.os, h.tape, h.output, h.size, fun k hk => h.block k (Nat.lt_of_lt_of_le hk h1) (by omega)⟩
theorem rd_cell {W : World} {b j : Nat} {arr : Array Value} {t : TypeId} {v : Value} (hh : W.heap[b]? = some (.cells arr t (0, 0))) (hv : arr[j]? = some v) : W.cell? ⟨b, j, none⟩ = some v := by simp [World.cell?, hh, hv]
theorem rd_free {W : World} {b : Nat} {arr : Array Value} {t : TypeId} (hh : W.heap[b]? = some (.cells arr t (0, 0))) (j : Nat) : W.frozen? ⟨b, j, none⟩ = false := by simp [World.frozen?, hh]
theorem rd_set {W : World} {b i : Nat} {arr : Array Value} {t : TypeId} (x : Value) (hh : W.heap[b]? = some (.cells arr t (0, 0))) : (W.setCell ⟨b, i, none⟩ x).heap[b]? = some (.cells (arr.setIfInBounds i x) t (0, 0)) := by
  rw [setCell_eq_setRow W b i arr t (0, 0) x hh]
  exact setRow_heap _ _ _ _ _ _ hh
theorem But.less {base base' b : Nat} {w w' : World} (h : But base b w w') (hb : base' ≤ base) : But base' b w w' := ⟨h.os, h.tape, h.output, h.size, fun k hk hn => h.block k (Nat.lt_of_lt_of_le hk hb) hn⟩
theorem row_some {w : World} {base e size n : Nat} {v : Value} {xs : List Value} (h : w.ownsRow base e size v n xs) (hn : n ≠ 0) : ∃ g cap, v = .slice (some ⟨g, 0, none⟩) n cap := by
  rcases h.2 with ⟨_, h2⟩ | ⟨g, cap, cur, hv, _⟩
  · exact absurd h2 hn
  · exact ⟨g, cap, hv⟩
theorem own_same {e : TypeId} {base size n : Nat} {w w' : World} {v : Value} {xs : List Value} (h : w.ownsRow base e size v n xs) (hk : ∀ g, v.ownBlock = some g → w'.heap[g]? = w.heap[g]?) : w'.ownsRow base e size v n xs := by
  refine ⟨h.1, ?_⟩
  rcases h.2 with h2 | ⟨g, cap, cur, rfl, h4, hh, r⟩
  · exact Or.inl h2
  · exact Or.inr ⟨g, cap, cur, rfl, h4, (hk g rfl).trans hh, r⟩
end Go.Proofs.YtfdlopimncodcaaGreatDoor
