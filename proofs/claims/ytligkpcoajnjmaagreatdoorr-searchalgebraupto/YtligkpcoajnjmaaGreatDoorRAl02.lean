/-
  Small laws for walks: appending to a row that the call owns, what such a row's growth leaves as it was. Of no program.
  Slices of ranges as the program has them, and what a row of two cells an element is. Of package seq.
  A block of the caller's that a call turns, and no other; cells of a block. Of no program.
-/
import Derived.WalkKit
import Derived.WalkSpells
import Derived.WalkLawsBesides
import Derived.Deep.AppendLies
import Derived.Lib.OthersKept
import Derived.Test.YtligkpcoajnjmaaGreatDoorRProg
import Derived.Test.YtligkpcoajnjmaaGreatDoorRAl00
import Derived.Deep.Cut
import Derived.Deep.CutRange
import Derived.Deep.DeepCutAuto
import Derived.Deep.CutBlock
namespace Go.Proofs.Aid
open Go.RowKit

/-- What a function that appends to a row of type e leaves as it was: all below B, and every block that is no row of e. -/
structure Kept (e : TypeId) (B : Nat) (w w' : World) : Prop where
  below : Below B w w'
  others : Lib.OthersKept e none w w'

theorem Kept.refl (e : TypeId) (B : Nat) (w : World) : Kept e B w w := ⟨Below.refl _ _, Lib.OthersKept.refl _ _ _⟩
theorem Kept.trans {e : TypeId} {B : Nat} {a b c : World} (h : Kept e B a b) (k : Kept e B b c) : Kept e B a c := ⟨h.below.trans k.below, h.others.trans k.others⟩
theorem Kept.mono {e : TypeId} {B B' : Nat} {a b : World} (h : Kept e B a b) (hb : B' ≤ B) : Kept e B' a b := ⟨h.below.mono hb, h.others⟩
theorem Kept.size {e : TypeId} {B : Nat} {a b : World} (h : Kept e B a b) : a.heap.size ≤ b.heap.size := h.below.size
theorem Kept.alloc {e : TypeId} {B : Nat} {a w : World} (h : Kept e B a w) (hB : B ≤ w.heap.size) (o : Obj) : Kept e B a (w.alloc o) := ⟨h.below.alloc hB o, h.others.alloc o⟩
theorem row_kind {w : World} {B : Nat} {e : TypeId} {v : Value} {n : Nat} {xs : List Value} (h : w.ownsRow B e 1 v n xs) : ∀ g, v.ownBlock = some g → ∃ c fz, w.heap[g]? = some (.cells c e fz) := by
  intro g hg
  rcases h.2 with ⟨rfl, _⟩ | ⟨g', cap, cur, rfl, _, hgg, _⟩
  · simp [Value.ownBlock] at hg
  · simp [Value.ownBlock] at hg
    subst hg
    exact ⟨cur, _, hgg⟩
theorem Kept.grown {e : TypeId} {B base : Nat} {a w w' : World} {v : Value} {n : Nat} {xs : List Value} (h : Kept e B a w) (hown : w.ownsRow base e 1 v n xs) (hg : w.grownBy w' v.ownBlock) (hB : B ≤ base) (hBw : B ≤ w.heap.size) : Kept e B a w' :=
  ⟨h.below.grown hg hBw (fun k hk => Nat.le_trans hB (hown.lt k hk).1), h.others.grown hg (row_kind hown)⟩
/-- A row of another type stays what it was. -/
theorem Kept.row {e e' : TypeId} {B base : Nat} {w w' : World} (h : Kept e B w w') (hne : e' ≠ e) {v : Value} {n : Nat} {xs : List Value} (hown : w.ownsRow base e' 1 v n xs) : w'.ownsRow base e' 1 v n xs := by
  refine ⟨hown.1, ?_⟩
  rcases hown.2 with h2 | ⟨g, cap, cur, hv, hg, hh, r⟩
  · exact Or.inl h2
  · exact Or.inr ⟨g, cap, cur, hv, hg, h.others g _ hh (by simp) (fun c fz he => hne (by cases he; rfl)), r⟩
/-- A block that is no row of e. -/
theorem Kept.block {e : TypeId} {B : Nat} {w w' : World} (h : Kept e B w w') {k : Nat} {o : Obj} (hk : w.heap[k]? = some o) (ho : ∀ c fz, o ≠ .cells c e fz) : w'.heap[k]? = some o := h.others k o hk (by simp) ho
theorem Kept.one {e t : TypeId} {B : Nat} {w w' : World} (h : Kept e B w w') {k : Nat} {v : Value} (hk : w.heap[k]? = some (.cells #[v] t (0, 0))) (hne : t ≠ e) : w'.heap[k]? = some (.cells #[v] t (0, 0)) :=
  h.block hk (fun c fz he => hne (by cases he; rfl))
theorem Kept.iter {e : TypeId} {B : Nat} {w w' : World} (h : Kept e B w w') {k : Nat} {s : ByteArray} {pos : Nat} (hk : w.heap[k]? = some (.stringIter s pos)) : w'.heap[k]? = some (.stringIter s pos) :=
  h.block hk (fun c fz he => by cases he)
theorem grownBy_of_alloc {w w' : World} {o : Obj} {row : Option Nat} (h : (w.alloc o).grownBy w' row) : w.grownBy w' row :=
  ⟨h.os, h.tape, h.output, by have := h.size; simp at this; omega, fun k hk hne => (h.block k (by simp; omega) hne).trans (Below.heap_alloc w o k hk)⟩

section
variable {P : Program}
/-- 'append(out, a, b, ..)': what is appended lies in the block that was just laid. -/
theorem wpList_push {ops : Array Oper} {rest : List Oper} {o : Oper} {a : Act} {Q : Exit → Act → World → Prop} {W : World} (hgd : o.guard = none) (s x : Operand) (t : TypeId)
    (ho : o.op = .call { callee := .builtin .append, args := #[s, x], argTypes := #[t, t] })
    (w : World) (base : Nat) (e : TypeId) (z : Value) (bytes : Nat) (ht : P.underlying t = some (.slice e)) (hinfo : (P.info? e).map (fun i => (i.zero, i.size, i.bytes)) = some (some z, 1, bytes)) (hzs : z.cells.size = 1)
    (v : Value) (n : Nat) (xs : List Value) (hs : a.eval s = v) (hown : w.ownsRow base e 1 v n xs) (news : List Value)
    (H : Nat) (hx : a.eval x = .slice (some ⟨H, 0, none⟩) news.length news.length) (hH : w.heap.size = H) (h1 : ∀ u ∈ news, u.oneCell' = true) (hm : 0 < news.length)
    (hW : W = w.alloc (.cells news.toArray e)) (hb : bytes ≤ 64) (hlen : n + news.length ≤ 1000000) (hbase : base ≤ w.heap.size)
    (h : ∀ g cap w', w'.ownsRow base e 1 (.slice (some ⟨g, 0, none⟩) (n + news.length) cap) (n + news.length) (xs ++ news) → w.grownBy w' v.ownBlock → g < w'.heap.size → wpList P ops Q rest (a.put o.dst (.slice (some ⟨g, 0, none⟩) (n + news.length) cap)) w') :
    wpList P ops Q (o :: rest) a W := by
  subst hW
  subst hH
  obtain ⟨i0, hi, hz0, hz1, hz2⟩ := info_parts hinfo
  refine wpList_append_lies _ hgd s x t ho base e i0 z 1 bytes ht hi hz0 hz1 hz2 hzs (by decide) v n xs hs (hown.alloc _) ⟨w.heap.size, 0, none⟩ news.length news.length news hx (by simp) ?_ h1 hm ?_ ?_ ?_ _ rfl ?_
  · have := World.news_of_block (heap_alloc_new w (.cells news.toArray e))
    simpa using this
  · unfold maxLen; omega
  · exact Nat.le_trans (Nat.mul_le_mul hlen hb) (by decide)
  · simp; omega
  · intro g cap w' h2 h3 _ h5
    exact h g cap w' h2 (grownBy_of_alloc h3) h5
end

end Go.Proofs.Aid
namespace Go.Proofs.YtligkpcoajnjmaaGreatDoorR
open Go.RowKit Go.Proofs.Aid Go.Proofs.Sq

theorem below_drewN {B : Nat} {a w : World} (h : Below B a w) (n : Nat) : Below B a (w.drewN n) := ⟨h.os, h.tape, h.output, h.size, h.block⟩
/-- Ranges lie there. -/
def RgAt (w : World) (b o : Nat) (l : List (Int × Int)) : Prop :=
  ∀ (j : Nat) r, l[j]? = some r → w.cell? ⟨b, o + j * 2, none⟩ = some (.int .i64 r.1) ∧ w.cell? ⟨b, o + j * 2 + 1, none⟩ = some (.int .i64 r.2)
/-- A slice of ranges. -/
def Rg (w : World) (v : Value) (l : List (Int × Int)) : Prop :=
  ∃ a c, v = .slice a l.length c ∧ (l = [] ∨ ∃ b o, a = some ⟨b, o, none⟩ ∧ RgAt w b o l)
theorem RgAt.below {w w' : World} {b o B : Nat} {l : List (Int × Int)} (h : RgAt w b o l) (hb : Below B w w') (hB : w.heap.size ≤ B) : RgAt w' b o l := by
  intro j r hj
  obtain ⟨h1, h2⟩ := h j r hj
  have hlt := World.block_lt_of_cell? _ _ h1
  have hlt2 : b < B := Nat.lt_of_lt_of_le hlt hB
  exact ⟨(hb.cell (p := ⟨b, _, none⟩) hlt2).trans h1, (hb.cell (p := ⟨b, _, none⟩) hlt2).trans h2⟩
theorem Rg.below {w w' : World} {v : Value} {B : Nat} {l : List (Int × Int)} (h : Rg w v l) (hb : Below B w w') (hB : w.heap.size ≤ B) : Rg w' v l := by
  obtain ⟨a, c, h1, h2⟩ := h
  refine ⟨a, c, h1, ?_⟩
  rcases h2 with h2 | ⟨b, o, h3, h4⟩
  · exact Or.inl h2
  · exact Or.inr ⟨b, o, h3, h4.below hb hB⟩
theorem row_below {w w' : World} {base n e size B : Nat} {v : Value} {xs : List Value} (hb : Below B w w') (hB : w.heap.size ≤ B) (h : w.ownsRow base e size v n xs) : w'.ownsRow base e size v n xs := by
  refine ⟨h.1, ?_⟩
  rcases h.2 with h2 | ⟨g, cap, cur, hv, hg, hh, r⟩
  · exact Or.inl h2
  · exact Or.inr ⟨g, cap, cur, hv, hg, (hb.block g (Nat.lt_of_lt_of_le (Array.getElem?_eq_some_iff.1 hh).1 hB)).trans hh, r⟩
theorem row_form {w : World} {base n e size : Nat} {v : Value} {xs : List Value} (h : w.ownsRow base e size v n xs) : ∃ a c, v = .slice a n c := by
  rcases h.2 with ⟨h1, h2⟩ | ⟨g, cap, cur, hv, _⟩
  · exact ⟨none, 0, by rw [h1, h2]⟩
  · exact ⟨_, _, hv⟩
/-- The cells of ranges. -/
def cellsR (l : List (Int × Int)) : List Value := l.flatMap fun r => [.int .i64 r.1, .int .i64 r.2]
theorem cellsR_append (a b : List (Int × Int)) : cellsR (a ++ b) = cellsR a ++ cellsR b := by simp [cellsR]
theorem cellsR_length (a : List (Int × Int)) : (cellsR a).length = a.length * 2 := by
  induction a with
  | nil => rfl
  | cons r rs ih => simp [cellsR] at ih ⊢; omega
theorem cellsR_get : ∀ (l : List (Int × Int)) (j : Nat) r, l[j]? = some r → (cellsR l)[j * 2]? = some (.int .i64 r.1) ∧ (cellsR l)[j * 2 + 1]? = some (.int .i64 r.2)
  | [], j, r, h => by simp at h
  | x :: l, 0, r, h => by
    obtain rfl : x = r := by simpa using h
    simp [cellsR]
  | x :: l, j + 1, r, h => by
    have := cellsR_get l j r (by simpa using h)
    rw [show (j + 1) * 2 = j * 2 + 2 by omega]
    simpa [cellsR] using this
/-- A row of ranges is a slice of ranges. -/
theorem rg_of_row {w : World} {base e : Nat} {v : Value} {l : List (Int × Int)} (h : w.ownsRow base e 2 v l.length (cellsR l)) : Rg w v l := by
  rcases h.2 with ⟨h1, h2⟩ | ⟨g, cap, cur, hv, _, hh, _, _, hsz, htk⟩
  · exact ⟨none, 0, by rw [h1, h2], Or.inl (List.eq_nil_of_length_eq_zero h2)⟩
  · refine ⟨_, cap, hv, Or.inr ⟨g, 0, rfl, ?_⟩⟩
    intro j r hj
    obtain ⟨h1, h2⟩ := cellsR_get l j r hj
    have hlt : j < l.length := (List.getElem?_eq_some_iff.1 hj).1
    rw [← htk] at h1 h2
    rw [List.getElem?_take_of_lt (by omega)] at h1
    rw [List.getElem?_take_of_lt (by omega)] at h2
    simp only [World.cell?, hh, Nat.zero_add]
    constructor
    · simpa using h1
    · simpa using h2
end Go.Proofs.YtligkpcoajnjmaaGreatDoorR
namespace Go.Proofs.YtligkpcoajnjmaaGreatDoorR
open Go.RowKit Go.Proofs.Aid

/-- A row of another type stays what it was. -/
theorem kept_row {e e' : TypeId} {B base size : Nat} {w w' : World} (h : Kept e B w w') (hne : e' ≠ e) {v : Value} {n : Nat} {xs : List Value} (hown : w.ownsRow base e' size v n xs) : w'.ownsRow base e' size v n xs := by
  refine ⟨hown.1, ?_⟩
  rcases hown.2 with h2 | ⟨g, cap, cur, hv, hg, hh, r⟩
  · exact Or.inl h2
  · exact Or.inr ⟨g, cap, cur, hv, hg, h.others g _ hh (by simp) (fun c fz he => hne (by cases he; rfl)), r⟩
theorem row_off {e t : TypeId} {base size n b : Nat} {w : World} {v : Value} {xs : List Value} {arr : Array Value} {fz : Nat × Nat} (h : w.ownsRow base e size v n xs) (hh : w.heap[b]? = some (.cells arr t fz)) (hne : e ≠ t) : v.ownBlock ≠ some b := fun e1 => by
  rcases h.2 with ⟨rfl, _⟩ | ⟨g, cap, cur, rfl, _, hg, _⟩
  · simp [Value.ownBlock] at e1
  · simp [Value.ownBlock] at e1
    subst e1
    rw [hg] at hh
    injection hh with hh
    injection hh with _ e2 _
    exact hne e2
/-- Below base nothing but block b is changed. -/
structure But (base b : Nat) (w w' : World) : Prop where
  os : w'.os = w.os
  tape : w'.tape = w.tape
  output : w'.output = w.output
  size : w.heap.size ≤ w'.heap.size
  block : ∀ k, k < base → k ≠ b → w'.heap[k]? = w.heap[k]?
theorem to_but {base b : Nat} {w w' : World} (h : Below base w w') : But base b w w' := ⟨h.os, h.tape, h.output, h.size, fun k hk _ => h.block k hk⟩
theorem But.trans {base b : Nat} {w w' w'' : World} (h : But base b w w') (k : But base b w' w'') : But base b w w'' :=
  ⟨k.os.trans h.os, k.tape.trans h.tape, k.output.trans h.output, Nat.le_trans h.size k.size, fun j hj hb => (k.block j hj hb).trans (h.block j hj hb)⟩
theorem But.setB {base b : Nat} {w w' : World} (h : But base b w w') (i : Nat) (x : Value) : But base b w (w'.setCell ⟨b, i, none⟩ x) :=
  ⟨h.os, h.tape, h.output, by simpa using h.size, fun k hk hb => (Below.heap_setCell _ _ _ _ hb).trans (h.block k hk hb)⟩
theorem But.cell {base b : Nat} {w w' : World} (h : But base b w w') {p : Addr} (hp : p.block < base) (hb : p.block ≠ b) : w'.cell? p = w.cell? p := World.cell?_of_block (w := w) (h.block p.block hp hb)
theorem But.below {base b B : Nat} {w w' : World} (h : But base b w w') (h1 : B ≤ base) (h2 : B ≤ b) : Below B w w' := ⟨h.os, h.tape, h.output, h.size, fun k hk => h.block k (Nat.lt_of_lt_of_le hk h1) (by omega)⟩
theorem rd_cell {W : World} {b j : Nat} {arr : Array Value} {t : TypeId} {v : Value} (hh : W.heap[b]? = some (.cells arr t (0, 0))) (hv : arr[j]? = some v) : W.cell? ⟨b, j, none⟩ = some v := by simp [World.cell?, hh, hv]
theorem rd_free {W : World} {b : Nat} {arr : Array Value} {t : TypeId} (hh : W.heap[b]? = some (.cells arr t (0, 0))) (j : Nat) : W.frozen? ⟨b, j, none⟩ = false := by simp [World.frozen?, hh]
theorem rd_set {W : World} {b i : Nat} {arr : Array Value} {t : TypeId} (x : Value) (hh : W.heap[b]? = some (.cells arr t (0, 0))) : (W.setCell ⟨b, i, none⟩ x).heap[b]? = some (.cells (arr.setIfInBounds i x) t (0, 0)) := by
  rw [setCell_eq_setRow W b i arr t (0, 0) x hh]
  exact setRow_heap _ _ _ _ _ _ hh
theorem But.less {base base' b : Nat} {w w' : World} (h : But base b w w') (hb : base' ≤ base) : But base' b w w' := ⟨h.os, h.tape, h.output, h.size, fun k hk hn => h.block k (Nat.lt_of_lt_of_le hk hb) hn⟩
theorem row_some {w : World} {base e size n : Nat} {v : Value} {xs : List Value} (h : w.ownsRow base e size v n xs) (hn : n ≠ 0) : ∃ g cap, v = .slice (some ⟨g, 0, none⟩) n cap := by
  rcases h.2 with ⟨_, h2⟩ | ⟨g, cap, cur, hv, _⟩
  · exact absurd h2 hn
  · exact ⟨g, cap, hv⟩
theorem own_same {e : TypeId} {base size n : Nat} {w w' : World} {v : Value} {xs : List Value} (h : w.ownsRow base e size v n xs) (hk : ∀ g, v.ownBlock = some g → w'.heap[g]? = w.heap[g]?) : w'.ownsRow base e size v n xs := by
  refine ⟨h.1, ?_⟩
  rcases h.2 with h2 | ⟨g, cap, cur, rfl, h4, hh, r⟩
  · exact Or.inl h2
  · exact Or.inr ⟨g, cap, cur, rfl, h4, (hk g rfl).trans hh, r⟩
end Go.Proofs.YtligkpcoajnjmaaGreatDoorR
