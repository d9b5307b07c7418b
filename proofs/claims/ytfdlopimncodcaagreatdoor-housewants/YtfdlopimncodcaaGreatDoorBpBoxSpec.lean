/-
  Messages in boxes, plain mathematics: which rise, where one stands, and more.
-/
import Derived.Test.YtfdlopimncodcaaGreatDoorSeqSpec
import Derived.WalkKit
import Derived.WalkSpells
import Derived.WalkLawsBesides
import Derived.Deep.AppendLies
import Derived.Lib.OthersKept
namespace Go.Proofs.Bx
abbrev Tx := List UInt8

/-- A message: its number, flags, day, text. -/
structure Lt where
  uid : Int
  flags : List Tx
  day : Int
  text : Tx
/-- Numbers rise. -/
def Rise (l : List Lt) : Prop := l.Pairwise fun a b => a.uid < b.uid
/-- How many have less. -/
def findI (l : List Lt) (u : Int) : Nat := (l.takeWhile fun x => decide (x.uid < u)).length
/-- Whether there is one of that number. -/
def findB (l : List Lt) (u : Int) : Bool := l.any fun x => x.uid == u
theorem rise_at {l : List Lt} (h : Rise l) {i j : Nat} (hi : i < l.length) (hj : j < l.length) (hij : i < j) : l[i].uid < l[j].uid := List.pairwise_iff_getElem.1 h i j hi hj hij
theorem find_at : ∀ {l : List Lt} {u : Int} {i : Nat}, (∀ t (h : t < l.length), t < i → l[t].uid < u) → i ≤ l.length → (∀ h : i < l.length, u ≤ l[i].uid) → findI l u = i
  | [], u, i, _, hi, _ => by
    have : i = 0 := by simpa using hi
    subst this
    rfl
  | x :: l, u, 0, _, _, h2 => by
    have := h2 (by simp)
    unfold findI
    rw [List.takeWhile_cons_of_neg (by simpa using this)]
    rfl
  | x :: l, u, i + 1, h1, hi, h2 => by
    have h0 := h1 0 (by simp) (by omega)
    unfold findI
    rw [List.takeWhile_cons_of_pos (by simpa using h0), List.length_cons]
    have := find_at (l := l) (u := u) (i := i) (fun t h ht => by have := h1 (t + 1) (by simp; omega) (by omega); simpa using this) (by simpa using hi) (fun h => by have := h2 (by simp; omega); simpa using this)
    unfold findI at this
    rw [this]
theorem find_some {l : List Lt} {u : Int} (hr : Rise l) {i : Nat} (h1 : ∀ t (h : t < l.length), t < i → l[t].uid < u) (hi : i < l.length) : findB l u = decide (l[i].uid = u) ∨ l[i].uid < u := by
  by_cases h3 : l[i].uid < u
  · exact Or.inr h3
  · left
    by_cases h4 : l[i].uid = u
    · rw [decide_eq_true h4]
      unfold findB
      rw [List.any_eq_true]
      exact ⟨l[i], List.getElem_mem hi, by simpa using h4⟩
    · rw [decide_eq_false h4]
      unfold findB
      rw [← Bool.not_eq_true, List.any_eq_true]
      rintro ⟨x, hx, he⟩
      obtain ⟨j, hj, rfl⟩ := List.mem_iff_getElem.1 hx
      have he : l[j].uid = u := by simpa using he
      rcases Nat.lt_trichotomy j i with h | h | h
      · have := h1 j hj h; omega
      · subst h; exact h4 he
      · have := rise_at hr hi hj h; omega
theorem find_none {l : List Lt} {u : Int} (h1 : ∀ t (h : t < l.length), l[t].uid < u) : findB l u = false := by
  unfold findB
  rw [← Bool.not_eq_true, List.any_eq_true]
  rintro ⟨x, hx, he⟩
  obtain ⟨j, hj, rfl⟩ := List.mem_iff_getElem.1 hx
  have he : l[j].uid = u := by simpa using he
  have := h1 j hj
  omega
theorem below_mid {l : List Lt} {u : Int} {m : Nat} (hr : Rise l) (hm : m < l.length) (h : l[m].uid < u) : ∀ t (h : t < l.length), t < m + 1 → l[t].uid < u := fun t ht hlt => by
  rcases Nat.lt_or_ge t m with h1 | h1
  · have := rise_at hr ht hm h1; omega
  · obtain rfl : t = m := by omega
    exact h
theorem find_true {l : List Lt} {u : Int} (hr : Rise l) (h : findB l u = true) : ∃ x, l[findI l u]? = some x ∧ x.uid = u := by
  unfold findB at h
  rw [List.any_eq_true] at h
  obtain ⟨x, hx, he⟩ := h
  obtain ⟨j, hj, rfl⟩ := List.mem_iff_getElem.1 hx
  have he : l[j].uid = u := by simpa using he
  have hi : findI l u = j := find_at (fun t ht hlt => by have := rise_at hr ht hj hlt; omega) (by omega) (fun _ => by omega)
  exact ⟨l[j], by rw [hi]; exact List.getElem?_eq_getElem hj, he⟩
end Go.Proofs.Bx
namespace Go.Proofs.Aid
open Go.RowKit

/-- What a function that appends to a row of type e leaves as it was: all below B, and every block that is no row of e. -/
structure Kept (e : TypeId) (B : Nat) (w w' : World) : Prop where
  below : Below B w w'
  others : Lib.OthersKept e none w w'

theorem Kept.refl (e : TypeId) (B : Nat) (w : World) : Kept e B w w := ⟨Below.refl _ _, Lib.OthersKept.refl _ _ _⟩
theorem Kept.trans {e : TypeId} {B : Nat} {a b c : World} (h : Kept e B a b) (k : Kept e B b c) : Kept e B a c := ⟨h.below.trans k.below, h.others.trans k.others⟩
theorem Kept.mono {e : TypeId} {B B' : Nat} {a b : World} (h : Kept e B a b) (hb : B' ≤ B) : Kept e B' a b := ⟨h.below.mono hb, h.others⟩
theorem Kept.size {e : TypeId} {B : Nat} {a b : World} (h : Kept e B a b) : a.heap.size ≤ b.heap.size := h.below.size
theorem Kept.alloc {e : TypeId} {B : Nat} {a w : World} (h : Kept e B a w) (hB : B ≤ w.heap.size) (o : Obj) : Kept e B a (w.alloc o) := ⟨h.below.alloc hB o, h.others.alloc o⟩
theorem row_kind {w : World} {B : Nat} {e : TypeId} {v : Value} {n : Nat} {xs : List Value} (h : w.ownsRow B e 1 v n xs) : ∀ g, v.ownBlock = some g → ∃ c fz, w.heap[g]? = some (.cells c e fz) := by
  intro g hg
  rcases h.2 with ⟨rfl, _⟩ | ⟨g', cap, cur, rfl, _, hgg, _⟩
  · simp [Value.ownBlock] at hg
  · simp [Value.ownBlock] at hg
    subst hg
    exact ⟨cur, _, hgg⟩
theorem Kept.grown {e : TypeId} {B base : Nat} {a w w' : World} {v : Value} {n : Nat} {xs : List Value} (h : Kept e B a w) (hown : w.ownsRow base e 1 v n xs) (hg : w.grownBy w' v.ownBlock) (hB : B ≤ base) (hBw : B ≤ w.heap.size) : Kept e B a w' :=
  ⟨h.below.grown hg hBw (fun k hk => Nat.le_trans hB (hown.lt k hk).1), h.others.grown hg (row_kind hown)⟩
/-- A row of another type stays what it was. -/
theorem Kept.row {e e' : TypeId} {B base : Nat} {w w' : World} (h : Kept e B w w') (hne : e' ≠ e) {v : Value} {n : Nat} {xs : List Value} (hown : w.ownsRow base e' 1 v n xs) : w'.ownsRow base e' 1 v n xs := by
  refine ⟨hown.1, ?_⟩
  rcases hown.2 with h2 | ⟨g, cap, cur, hv, hg, hh, r⟩
  · exact Or.inl h2
  · exact Or.inr ⟨g, cap, cur, hv, hg, h.others g _ hh (by simp) (fun c fz he => hne (by cases he; rfl)), r⟩
/-- A block that is no row of e. -/
theorem Kept.block {e : TypeId} {B : Nat} {w w' : World} (h : Kept e B w w') {k : Nat} {o : Obj} (hk : w.heap[k]? = some o) (ho : ∀ c fz, o ≠ .cells c e fz) : w'.heap[k]? = some o := h.others k o hk (by simp) ho
theorem Kept.one {e t : TypeId} {B : Nat} {w w' : World} (h : Kept e B w w') {k : Nat} {v : Value} (hk : w.heap[k]? = some (.cells #[v] t (0, 0))) (hne : t ≠ e) : w'.heap[k]? = some (.cells #[v] t (0, 0)) :=
  h.block hk (fun c fz he => hne (by cases he; rfl))
theorem Kept.iter {e : TypeId} {B : Nat} {w w' : World} (h : Kept e B w w') {k : Nat} {s : ByteArray} {pos : Nat} (hk : w.heap[k]? = some (.stringIter s pos)) : w'.heap[k]? = some (.stringIter s pos) :=
  h.block hk (fun c fz he => by cases he)
theorem grownBy_of_alloc {w w' : World} {o : Obj} {row : Option Nat} (h : (w.alloc o).grownBy w' row) : w.grownBy w' row :=
  ⟨h.os, h.tape, h.output, by have := h.size; simp at this; omega, fun k hk hne => (h.block k (by simp; omega) hne).trans (Below.heap_alloc w o k hk)⟩

section
variable {P : Program}
/-- 'append(out, a, b, ..)': what is appended lies in the block that was just laid. -/
theorem wpList_push {ops : Array Oper} {rest : List Oper} {o : Oper} {a : Act} {Q : Exit → Act → World → Prop} {W : World} (hgd : o.guard = none) (s x : Operand) (t : TypeId)
    (ho : o.op = .call { callee := .builtin .append, args := #[s, x], argTypes := #[t, t] })
    (w : World) (base : Nat) (e : TypeId) (z : Value) (bytes : Nat) (ht : P.underlying t = some (.slice e)) (hinfo : (P.info? e).map (fun i => (i.zero, i.size, i.bytes)) = some (some z, 1, bytes)) (hzs : z.cells.size = 1)
    (v : Value) (n : Nat) (xs : List Value) (hs : a.eval s = v) (hown : w.ownsRow base e 1 v n xs) (news : List Value)
    (H : Nat) (hx : a.eval x = .slice (some ⟨H, 0, none⟩) news.length news.length) (hH : w.heap.size = H) (h1 : ∀ u ∈ news, u.oneCell' = true) (hm : 0 < news.length)
    (hW : W = w.alloc (.cells news.toArray e)) (hb : bytes ≤ 64) (hlen : n + news.length ≤ 1000000) (hbase : base ≤ w.heap.size)
    (h : ∀ g cap w', w'.ownsRow base e 1 (.slice (some ⟨g, 0, none⟩) (n + news.length) cap) (n + news.length) (xs ++ news) → w.grownBy w' v.ownBlock → g < w'.heap.size → wpList P ops Q rest (a.put o.dst (.slice (some ⟨g, 0, none⟩) (n + news.length) cap)) w') :
    wpList P ops Q (o :: rest) a W := by
  subst hW
  subst hH
  obtain ⟨i0, hi, hz0, hz1, hz2⟩ := info_parts hinfo
  refine wpList_append_lies _ hgd s x t ho base e i0 z 1 bytes ht hi hz0 hz1 hz2 hzs (by decide) v n xs hs (hown.alloc _) ⟨w.heap.size, 0, none⟩ news.length news.length news hx (by simp) ?_ h1 hm ?_ ?_ ?_ _ rfl ?_
  · have := World.news_of_block (heap_alloc_new w (.cells news.toArray e))
    simpa using this
  · unfold maxLen; omega
  · exact Nat.le_trans (Nat.mul_le_mul hlen hb) (by decide)
  · simp; omega
  · intro g cap w' h2 h3 _ h5
    exact h g cap w' h2 (grownBy_of_alloc h3) h5
end

end Go.Proofs.Aid
