/-
  Small laws for walks: appending to a row that the call owns, what such, and more.
-/
import Derived.Test.YtfdlopimncodcaaGreatDoorProg
import Derived.WalkKit
import Derived.WalkSpells
import Derived.WalkLawsBesides
import Derived.Deep.AppendLies
import Derived.Lib.OthersKept
import Derived.Lib.ItoaNum
import Derived.Lib.Split
import Derived.Deep.Cut
import Derived.Deep.CutRange
import Derived.Deep.DeepCutAuto
import Derived.Deep.CutBlock
import Derived.Maps.OwnSet
import Derived.Sort.KeysCollected
namespace Go.Proofs.Aid
open Go.RowKit
theorem row_kind {w : World} {B : Nat} {e : TypeId} {v : Value} {n : Nat} {xs : List Value} (h : w.ownsRow B e 1 v n xs) : ∀ g, v.ownBlock = some g → ∃ c fz, w.heap[g]? = some (.cells c e fz) := by
  intro g hg
  rcases h.2 with ⟨rfl, _⟩ | ⟨g', cap, cur, rfl, _, hgg, _⟩
  · simp [Value.ownBlock] at hg
  · simp [Value.ownBlock] at hg
    subst hg
    exact ⟨cur, _, hgg⟩
theorem grownBy_of_alloc {w w' : World} {o : Obj} {row : Option Nat} (h : (w.alloc o).grownBy w' row) : w.grownBy w' row :=
  ⟨h.os, h.tape, h.output, by have := h.size; simp at this; omega, fun k hk hne => (h.block k (by simp; omega) hne).trans (Below.heap_alloc w o k hk)⟩
section
variable {P : Program}
theorem wpList_push {ops : Array Oper} {rest : List Oper} {o : Oper} {a : Act} {Q : Exit → Act → World → Prop} {W : World} (hgd : o.guard = none) (s x : Operand) (t : TypeId)
    (ho : o.op = .call { callee := .builtin .append, args := #[s, x], argTypes := #[t, t] })
    (w : World) (base : Nat) (e : TypeId) (z : Value) (bytes : Nat) (ht : P.underlying t = some (.slice e)) (hinfo : (P.info? e).map (fun i => (i.zero, i.size, i.bytes)) = some (some z, 1, bytes)) (hzs : z.cells.size = 1)
    (v : Value) (n : Nat) (xs : List Value) (hs : a.eval s = v) (hown : w.ownsRow base e 1 v n xs) (news : List Value)
    (H : Nat) (hx : a.eval x = .slice (some ⟨H, 0, none⟩) news.length news.length) (hH : w.heap.size = H) (h1 : ∀ u ∈ news, u.oneCell' = true) (hm : 0 < news.length)
    (hW : W = w.alloc (.cells news.toArray e)) (hb : bytes ≤ 64) (hlen : n + news.length ≤ 1000000) (hbase : base ≤ w.heap.size)
    (h : ∀ g cap w', w'.ownsRow base e 1 (.slice (some ⟨g, 0, none⟩) (n + news.length) cap) (n + news.length) (xs ++ news) → w.grownBy w' v.ownBlock → g < w'.heap.size → wpList P ops Q rest (a.put o.dst (.slice (some ⟨g, 0, none⟩) (n + news.length) cap)) w') :
    wpList P ops Q (o :: rest) a W := by
  subst hW
  subst hH
  obtain ⟨i0, hi, hz0, hz1, hz2⟩ := info_parts hinfo
  refine wpList_append_lies _ hgd s x t ho base e i0 z 1 bytes ht hi hz0 hz1 hz2 hzs (by decide) v n xs hs (hown.alloc _) ⟨w.heap.size, 0, none⟩ news.length news.length news hx (by simp) ?_ h1 hm ?_ ?_ ?_ _ rfl ?_
  · have := World.news_of_block (heap_alloc_new w (.cells news.toArray e))
    simpa using this
  · unfold maxLen; omega
  · exact Nat.le_trans (Nat.mul_le_mul hlen hb) (by decide)
  · simp; omega
  · intro g cap w' h2 h3 _ h5
    exact h g cap w' h2 (grownBy_of_alloc h3) h5
end
end Go.Proofs.Aid
namespace Go.Proofs.Sq
open Go
def cutAt (c : UInt8) : List UInt8 → List UInt8 × List UInt8 × Bool
  | [] => ([], [], false)
  | b :: r => if b = c then ([], r, true) else (b :: (cutAt c r).1, (cutAt c r).2)
def between (c : UInt8) : List UInt8 → List (List UInt8)
  | [] => [[]]
  | b :: r => if b = c then [] :: between c r else (b :: (between c r).headD []) :: (between c r).tail
theorem index_one_cons (c b : UInt8) (r : List UInt8) : Lib.index (b :: r) [c] = if b = c then 0 else if Lib.index r [c] = -1 then -1 else Lib.index r [c] + 1 := by
  rw [Lib.index]
  simp only [List.isPrefixOf, Bool.and_true, beq_iff_eq]
  by_cases h : b = c
  · subst h; simp
  · rw [if_neg (fun e => h e.symm), if_neg h]
theorem cut_eq (c : UInt8) : ∀ l : List UInt8, Lib.cut l [c] = cutAt c l
  | [] => by simp [Lib.cut, Lib.index, cutAt]
  | b :: r => by
    have ih := cut_eq c r
    have hge := Lib.index_ge r [c]
    unfold Lib.cut at ih ⊢
    rw [index_one_cons, cutAt]
    by_cases h : b = c
    · rw [if_pos h, if_pos h]; simp
    · rw [if_neg h, if_neg h]
      by_cases h1 : Lib.index r [c] = -1
      · rw [if_pos h1, if_neg (by decide), ← ih, h1, if_neg (by decide)]
      · rw [if_neg h1, if_pos (by omega), ← ih, if_pos (by omega)]
        have e : (Lib.index r [c] + 1).toNat = (Lib.index r [c]).toNat + 1 := by omega
        rw [e]
        simp only [List.take_succ_cons, List.length_cons, List.length_nil, Nat.zero_add, List.drop_succ_cons]
theorem cutAt_miss {c : UInt8} : ∀ {l : List UInt8}, (cutAt c l).2.2 = false → (cutAt c l).1 = l ∧ (cutAt c l).2.1 = [] ∧ between c l = [l]
  | [], _ => ⟨rfl, rfl, rfl⟩
  | b :: r, h => by
    rw [cutAt] at h ⊢
    by_cases hb : b = c
    · rw [if_pos hb] at h; cases h
    · rw [if_neg hb] at h ⊢
      obtain ⟨h1, h2, h3⟩ := cutAt_miss (l := r) h
      refine ⟨by simp [h1], h2, ?_⟩
      rw [between, if_neg hb, h3]; rfl
theorem between_ne (c : UInt8) (l : List UInt8) : between c l ≠ [] := by
  cases l with
  | nil => simp [between]
  | cons b r => rw [between]; split <;> simp
theorem cutAt_hit {c : UInt8} : ∀ {l : List UInt8}, (cutAt c l).2.2 = true → l = (cutAt c l).1 ++ c :: (cutAt c l).2.1 ∧ between c l = (cutAt c l).1 :: between c (cutAt c l).2.1
  | [], h => by cases h
  | b :: r, h => by
    rw [cutAt] at h ⊢
    by_cases hb : b = c
    · rw [if_pos hb]
      refine ⟨by simp [hb], ?_⟩
      rw [between, if_pos hb]
    · rw [if_neg hb] at h ⊢
      obtain ⟨h1, h2⟩ := cutAt_hit (l := r) h
      refine ⟨?_, ?_⟩
      · show b :: r = b :: (cutAt c r).1 ++ c :: (cutAt c r).2.1
        rw [List.cons_append, ← h1]
      · rw [between, if_neg hb, h2]; rfl
theorem cutAt_append {c : UInt8} : ∀ {a : List UInt8} (b : List UInt8), c ∉ a → cutAt c (a ++ c :: b) = (a, b, true)
  | [], b, _ => by simp [cutAt]
  | x :: a, b, h => by
    have h1 : x ≠ c := fun e => h (by simp [e])
    have h2 : c ∉ a := fun e => h (by simp [e])
    rw [List.cons_append, cutAt, if_neg h1, cutAt_append b h2]
theorem cutAt_none {c : UInt8} : ∀ {a : List UInt8}, c ∉ a → cutAt c a = (a, [], false)
  | [], _ => rfl
  | x :: a, h => by
    have h1 : x ≠ c := fun e => h (by simp [e])
    have h2 : c ∉ a := fun e => h (by simp [e])
    rw [cutAt, if_neg h1, cutAt_none h2]
/-! Digits that are written are read. -/
theorem between_append {c : UInt8} : ∀ {a : List UInt8} (b : List UInt8), c ∉ a → between c (a ++ c :: b) = a :: between c b := by
  intro a b h
  have e := cutAt_append b h
  have := (cutAt_hit (c := c) (l := a ++ c :: b) (by rw [e])).2
  rw [e] at this
  exact this
theorem between_none {c : UInt8} {a : List UInt8} (h : c ∉ a) : between c a = [a] := (cutAt_miss (by rw [cutAt_none h])).2.2
/-! The least set of some numbers. -/
end Go.Proofs.Sq
namespace Go.Proofs.YtfdlopimncodcaaGreatDoor
open Go.RowKit Go.Proofs.Aid Go.Proofs.Sq
theorem below_drewN {B : Nat} {a w : World} (h : Below B a w) (n : Nat) : Below B a (w.drewN n) := ⟨h.os, h.tape, h.output, h.size, h.block⟩
theorem row_below {w w' : World} {base n e size B : Nat} {v : Value} {xs : List Value} (hb : Below B w w') (hB : w.heap.size ≤ B) (h : w.ownsRow base e size v n xs) : w'.ownsRow base e size v n xs := by
  refine ⟨h.1, ?_⟩
  rcases h.2 with h2 | ⟨g, cap, cur, hv, hg, hh, r⟩
  · exact Or.inl h2
  · exact Or.inr ⟨g, cap, cur, hv, hg, (hb.block g (Nat.lt_of_lt_of_le (Array.getElem?_eq_some_iff.1 hh).1 hB)).trans hh, r⟩
theorem row_form {w : World} {base n e size : Nat} {v : Value} {xs : List Value} (h : w.ownsRow base e size v n xs) : ∃ a c, v = .slice a n c := by
  rcases h.2 with ⟨h1, h2⟩ | ⟨g, cap, cur, hv, _⟩
  · exact ⟨none, 0, by rw [h1, h2]⟩
  · exact ⟨_, _, hv⟩
end Go.Proofs.YtfdlopimncodcaaGreatDoor
namespace Go.Proofs.YtfdlopimncodcaaGreatDoor
open Go.RowKit Go.Proofs.Aid
structure But (base b : Nat) (w w' : World) : Prop where
  os : w'.os = w.os
  tape : w'.tape = w.tape
  output : w'.output = w.output
  size : w.heap.size ≤ w'.heap.size
  block : ∀ k, k < base → k ≠ b → w'.heap[k]? = w.heap[k]?
theorem to_but {base b : Nat} {w w' : World} (h : Below base w w') : But base b w w' := ⟨h.os, h.tape, h.output, h.size, fun k hk _ => h.block k hk⟩
theorem But.trans {base b : Nat} {w w' w'' : World} (h : But base b w w') (k : But base b w' w'') : But base b w w'' :=
  ⟨k.os.trans h.os, k.tape.trans h.tape, k.output.trans h.output, Nat.le_trans h.size k.size, fun j hj hb => (k.block j hj hb).trans (h.block j hj hb)⟩
theorem But.setB {base b : Nat} {w w' : World} (h : But base b w w') (i : Nat) (x : Value) : But base b w (w'.setCell ⟨b, i, none⟩ x) :=
  ⟨h.os, h.tape, h.output, by simpa using h.size, fun k hk hb => (Below.heap_setCell _ _ _ _ hb).trans (h.block k hk hb)⟩
theorem But.cell {base b : Nat} {w w' : World} (h : But base b w w') {p : Addr} (hp : p.block < base) (hb : p.block ≠ b) : w'.cell? p = w.cell? p := World.cell?_of_block (w := w) (h.block p.block hp hb)
theorem But.below {base b B : Nat} {w w' : World} (h : But base b w w') (h1 : B ≤ base) (h2 : B ≤ b) : Below B w w' := ⟨h.os, h.tape, h.output, h.size, fun k hk => h.block k (Nat.lt_of_lt_of_le hk h1) (by omega)⟩
theorem rd_cell {W : World} {b j : Nat} {arr : Array Value} {t : TypeId} {v : Value} (hh : W.heap[b]? = some (.cells arr t (0, 0))) (hv : arr[j]? = some v) : W.cell? ⟨b, j, none⟩ = some v := by simp [World.cell?, hh, hv]
theorem rd_free {W : World} {b : Nat} {arr : Array Value} {t : TypeId} (hh : W.heap[b]? = some (.cells arr t (0, 0))) (j : Nat) : W.frozen? ⟨b, j, none⟩ = false := by simp [World.frozen?, hh]
theorem rd_set {W : World} {b i : Nat} {arr : Array Value} {t : TypeId} (x : Value) (hh : W.heap[b]? = some (.cells arr t (0, 0))) : (W.setCell ⟨b, i, none⟩ x).heap[b]? = some (.cells (arr.setIfInBounds i x) t (0, 0)) := by
  rw [setCell_eq_setRow W b i arr t (0, 0) x hh]
  exact setRow_heap _ _ _ _ _ _ hh
theorem But.less {base base' b : Nat} {w w' : World} (h : But base b w w') (hb : base' ≤ base) : But base' b w w' := ⟨h.os, h.tape, h.output, h.size, fun k hk hn => h.block k (Nat.lt_of_lt_of_le hk hb) hn⟩
theorem row_some {w : World} {base e size n : Nat} {v : Value} {xs : List Value} (h : w.ownsRow base e size v n xs) (hn : n ≠ 0) : ∃ g cap, v = .slice (some ⟨g, 0, none⟩) n cap := by
  rcases h.2 with ⟨_, h2⟩ | ⟨g, cap, cur, hv, _⟩
  · exact absurd h2 hn
  · exact ⟨g, cap, hv⟩
theorem own_same {e : TypeId} {base size n : Nat} {w w' : World} {v : Value} {xs : List Value} (h : w.ownsRow base e size v n xs) (hk : ∀ g, v.ownBlock = some g → w'.heap[g]? = w.heap[g]?) : w'.ownsRow base e size v n xs := by
  refine ⟨h.1, ?_⟩
  rcases h.2 with h2 | ⟨g, cap, cur, rfl, h4, hh, r⟩
  · exact Or.inl h2
  · exact Or.inr ⟨g, cap, cur, rfl, h4, (hk g rfl).trans hh, r⟩
end Go.Proofs.YtfdlopimncodcaaGreatDoor
namespace Go.Proofs.YtfdlopimncodcaaGreatDoor
open Go.RowKit Go.Proofs.Aid
open Go.Maps (Keyed string_keyed IsMap isMap_empty atKey_put_same atKey_put_other atKey_del_same atKey_del_other has_put_same has_put_other has_del_same has_del_other has_true_of_atKey)
abbrev Nm := List UInt8
abbrev Bxs := List (Nm × Nat)
def ptrElem : Value → Option (DataW Unit × List MemPlace)
  | .pointer none => some (.lit (.int .i64 (-1)), [])
  | .pointer (some ⟨b, 0, none⟩) => some (.lit (.int .i64 (b : Int)), [])
  | _ => none
theorem ptrElem_inv {v : Value} {b : Nat} {ps : List MemPlace} (h : ptrElem v = some (.lit (.int .i64 (b : Int)), ps)) : v = .pointer (some ⟨b, 0, none⟩) := by
  unfold ptrElem at h
  split at h
  · simp only [Option.some.injEq, Prod.mk.injEq, DataW.lit.injEq, Lit.int.injEq] at h
    omega
  · simp only [Option.some.injEq, Prod.mk.injEq, DataW.lit.injEq, Lit.int.injEq] at h
    rename_i c
    obtain rfl : c = b := by omega
    rfl
  · cases h
theorem ptrElem_none {v : Value} {ps : List MemPlace} (h : ptrElem v = some (.lit (.int .i64 (-1)), ps)) : v = .pointer none := by
  unfold ptrElem at h
  split at h
  · rfl
  · simp only [Option.some.injEq, Prod.mk.injEq, DataW.lit.injEq, Lit.int.injEq] at h
    omega
  · cases h
def SortedB (l : Bxs) : Prop := l.Pairwise fun a b => a.1 < b.1
def hasB (l : Bxs) (n : Nm) : Bool := l.any fun p => p.1 == n
def putB (n : Nm) (b : Nat) : Bxs → Bxs
  | [] => [(n, b)]
  | p :: l => if n < p.1 then (n, b) :: p :: l else if n = p.1 then (n, b) :: l else p :: putB n b l
def delB (l : Bxs) (n : Nm) : Bxs := l.filter fun p => decide (p.1 ≠ n)
theorem nm_lt_of {a b : Nm} (h1 : ¬ a < b) (h2 : ¬ a = b) : b < a := by
  by_cases h : b < a
  · exact h
  · exact absurd (List.le_antisymm (List.not_lt.1 h) (List.not_lt.1 h1)) h2
theorem nm_ne {a b : Nm} (h : a < b) : a ≠ b := fun e => List.lt_irrefl b (e ▸ h)
theorem hasB_true {l : Bxs} {n : Nm} : hasB l n = true ↔ ∃ b, (n, b) ∈ l := by
  unfold hasB
  rw [List.any_eq_true]
  constructor
  · rintro ⟨⟨m, b⟩, h1, h2⟩
    obtain rfl : m = n := by simpa using h2
    exact ⟨b, h1⟩
  · rintro ⟨b, h⟩
    exact ⟨_, h, by simp⟩
theorem hasB_false {l : Bxs} {n : Nm} : hasB l n = false ↔ ∀ b, (n, b) ∉ l := by
  rw [← Bool.not_eq_true, hasB_true]
  simp
theorem mem_putB {n : Nm} {b : Nat} : ∀ {l : Bxs}, SortedB l → ∀ {m : Nm} {c : Nat}, (m, c) ∈ putB n b l ↔ (m = n ∧ c = b) ∨ (m ≠ n ∧ (m, c) ∈ l)
  | [], _, m, c => by simp [putB]
  | p :: l, h, m, c => by
    obtain ⟨h1, h2⟩ := List.pairwise_cons.1 h
    unfold putB
    split
    · rename_i hlt
      constructor
      · intro hm
        rcases List.mem_cons.1 hm with hm | hm2
        · exact Or.inl (by simpa using hm)
        · refine Or.inr ⟨fun e => ?_, hm2⟩
          rcases List.mem_cons.1 hm2 with hm3 | hm3
          · rw [← hm3] at hlt
            exact List.lt_irrefl n (by rw [e] at hlt; exact hlt)
          · have h4 : n < m := List.lt_trans hlt (h1 _ hm3)
            rw [e] at h4
            exact List.lt_irrefl n h4
      · rintro (⟨rfl, rfl⟩ | ⟨_, hm⟩)
        · exact List.mem_cons_self
        · exact List.mem_cons_of_mem _ hm
    · split
      · rename_i hlt he
        constructor
        · intro hm
          rcases List.mem_cons.1 hm with hm | hm2
          · exact Or.inl (by simpa using hm)
          · refine Or.inr ⟨fun e => ?_, List.mem_cons_of_mem _ hm2⟩
            have h4 : p.1 < m := h1 _ hm2
            rw [← he, e] at h4
            exact List.lt_irrefl n h4
        · rintro (⟨rfl, rfl⟩ | ⟨hne, hm⟩)
          · exact List.mem_cons_self
          · rcases List.mem_cons.1 hm with hm | hm
            · exact absurd (by rw [he, ← hm]) hne
            · exact List.mem_cons_of_mem _ hm
      · rename_i hlt hne
        rw [List.mem_cons, mem_putB h2, List.mem_cons]
        constructor
        · rintro (hm | hm | ⟨hm1, hm2⟩)
          · exact Or.inr ⟨fun e => hne (by rw [← hm]; exact e.symm), Or.inl hm⟩
          · exact Or.inl hm
          · exact Or.inr ⟨hm1, Or.inr hm2⟩
        · rintro (hm | ⟨hm1, hm | hm2⟩)
          · exact Or.inr (Or.inl hm)
          · exact Or.inl hm
          · exact Or.inr (Or.inr ⟨hm1, hm2⟩)
theorem sorted_putB {n : Nm} {b : Nat} : ∀ {l : Bxs}, SortedB l → SortedB (putB n b l)
  | [], _ => by simp [putB, SortedB]
  | p :: l, h => by
    obtain ⟨h1, h2⟩ := List.pairwise_cons.1 h
    unfold putB
    split
    · rename_i hlt
      refine List.pairwise_cons.2 ⟨fun q hq => ?_, h⟩
      rcases List.mem_cons.1 hq with rfl | hq
      · exact hlt
      · exact List.lt_trans hlt (h1 _ hq)
    · split
      · rename_i hlt he
        refine List.pairwise_cons.2 ⟨fun q hq => ?_, h2⟩
        show n < q.1
        rw [he]
        exact h1 _ hq
      · rename_i hlt hne
        refine List.pairwise_cons.2 ⟨fun q hq => ?_, sorted_putB h2⟩
        obtain ⟨m, c⟩ := q
        rcases (mem_putB h2).1 hq with ⟨rfl, _⟩ | ⟨_, hq⟩
        · exact nm_lt_of hlt hne
        · exact h1 _ hq
theorem sorted_delB {l : Bxs} (h : SortedB l) (n : Nm) : SortedB (delB l n) := List.Pairwise.filter _ h
theorem mem_delB {l : Bxs} {n m : Nm} {c : Nat} : (m, c) ∈ delB l n ↔ m ≠ n ∧ (m, c) ∈ l := by
  unfold delB
  rw [List.mem_filter]
  simp [and_comm]
theorem sorted_one : ∀ {l : Bxs}, SortedB l → ∀ {n : Nm} {a b : Nat}, (n, a) ∈ l → (n, b) ∈ l → a = b
  | [], _, _, _, _, ha, _ => absurd ha List.not_mem_nil
  | p :: l, h, n, a, b, ha, hb => by
    obtain ⟨h1, h2⟩ := List.pairwise_cons.1 h
    rcases List.mem_cons.1 ha with ha | ha
    · rcases List.mem_cons.1 hb with hb | hb
      · rw [← ha] at hb
        simpa using hb.symm
      · have h4 : p.1 < n := h1 _ hb
        rw [← ha] at h4
        exact absurd h4 (List.lt_irrefl n)
    · rcases List.mem_cons.1 hb with hb | hb
      · have h4 : p.1 < n := h1 _ ha
        rw [← hb] at h4
        exact absurd h4 (List.lt_irrefl n)
      · exact sorted_one h2 ha hb
theorem lawN : Keyed Tryz.prog 9 := string_keyed Tryz.underlying9
def MpD (l : Bxs) (D : DataW Unit) : Prop := ∀ t : Nm, (∀ b : Nat, (t, b) ∈ l → ∀ z, D.atKey (.string t) z = .lit (.int .i64 (b : Int))) ∧ (hasB l t = false → Maps.has D (.string t) = false)
def Mp (w : World) (mb : Nat) (l : Bxs) : Prop := SortedB l ∧ ∃ D : DataW Unit, w.ownsMap Tryz.prog 9 ptrElem mb l.length D ∧ MpD l D
theorem MpD.has {l : Bxs} {D : DataW Unit} (h : MpD l D) (t : Nm) : Maps.has D (.string t) = hasB l t := by
  cases hb : hasB l t with
  | false => exact (h t).2 hb
  | true =>
    obtain ⟨b, hm⟩ := hasB_true.1 hb
    exact has_true_of_atKey ((h t).1 b hm)
theorem keys_nodup {l : Bxs} (h : SortedB l) : (l.map Prod.fst).Nodup := List.pairwise_map.2 (h.imp fun {_ _} hp => nm_ne hp)
theorem mp_keys {w : World} {mb n : Nat} {l : Bxs} {D : DataW Unit} (hs : SortedB l) (h : w.ownsMap Tryz.prog 9 ptrElem mb n D) (hD : MpD l D) : (l.map Prod.fst).Perm (strKeys D) := by
  obtain ⟨es, e1, hk⟩ := h.keysOf
  obtain ⟨es', e2, hp, _⟩ := h.entries lawN
  subst e1
  cases e2
  refine perm_strKeys hp (fun p hp' => ?_) (keys_nodup hs) fun x => ?_
  · obtain ⟨v, hv⟩ := hk p hp'
    obtain ⟨x, _, hx, _⟩ := Maps.keyOf_str Tryz.underlying9 hv
    exact ⟨x, hx⟩
  · rw [hD.has x, hasB_true, List.mem_map]
    constructor
    · rintro ⟨⟨m, b⟩, hm, rfl⟩
      exact ⟨b, hm⟩
    · rintro ⟨b, hm⟩
      exact ⟨_, hm, rfl⟩
theorem mp_size {w : World} {mb n : Nat} {l : Bxs} {D : DataW Unit} (hs : SortedB l) (h : w.ownsMap Tryz.prog 9 ptrElem mb n D) (hD : MpD l D) : Maps.size D = l.length := by
  have hp := (mp_keys hs h hD).length_eq
  obtain ⟨es, rfl⟩ := h.isMap
  rw [List.length_map] at hp
  rw [hp]
  show es.length = (es.map fun p => strOf p.1).length
  rw [List.length_map]
theorem mp_mk {w : World} {mb n : Nat} {l : Bxs} {D : DataW Unit} (hs : SortedB l) (h : w.ownsMap Tryz.prog 9 ptrElem mb n D) (hD : MpD l D) : Mp w mb l := by
  have hz := mp_size hs h hD
  refine ⟨hs, D, ?_, hD⟩
  obtain ⟨es, clock, hb, F, hsz, rfl⟩ := h
  refine ⟨es, clock, hb, F, ?_, rfl⟩
  have : Maps.size (DataW.map ((es.toList.map (WideElems.rg Tryz.prog 9 ptrElem)).foldr DataW.insert [])) = es.size := by simp [Maps.size, length_sorted]
  omega
theorem mp_new (w : World) : Mp (w.alloc (.map #[] 0)) w.heap.size [] := ⟨List.Pairwise.nil, .map [], World.ownsMap_made _ _ _ _, fun _ => ⟨fun _ h => absurd h List.not_mem_nil, fun _ => rfl⟩⟩
theorem mp_make (w : World) : (Instr.makeMap 78 none).run Tryz.prog w = .ok (.map (some w.heap.size)) (w.alloc (.map #[] 0)) := by kernel_rfl
theorem Mp.lt {w : World} {mb : Nat} {l : Bxs} (h : Mp w mb l) : mb < w.heap.size := by
  obtain ⟨_, D, h1, _⟩ := h
  exact h1.lt
theorem Mp.sorted {w : World} {mb : Nat} {l : Bxs} (h : Mp w mb l) : SortedB l := h.1
theorem Mp.same {w w' : World} {mb : Nat} {l : Bxs} (h : Mp w mb l) (hb : w'.heap[mb]? = w.heap[mb]?) : Mp w' mb l := by
  obtain ⟨hs, D, ⟨es, clock, h1, r⟩, hD⟩ := h
  exact ⟨hs, D, ⟨es, clock, hb.trans h1, r⟩, hD⟩
theorem keyN {s : ByteArray} (h : s.size ≤ 1000000) : keyOf Tryz.prog 9 (.string s) = some (.string s.data.toList) := Go.WideMaps.keyOf_string_mk Tryz.underlying9 (by unfold maxLen; omega)
theorem zero_ptr (w : World) : (zeroValue 65).run Tryz.prog w = .ok (.pointer none) w := by kernel_rfl
theorem mp_ok {w : World} {mb : Nat} {l : Bxs} (h : Mp w mb l) (s : ByteArray) (hs : s.size ≤ 1000000) :
    ∃ v, (Instr.lookup 78 (.map (some mb)) (.string s) true).run Tryz.prog w = .ok (.tuple #[v, .bool (hasB l s.data.toList)]) w := by
  obtain ⟨_, D, h1, hD⟩ := h
  obtain ⟨v, ps, hr, _⟩ := h1.look_ok lawN Tryz.underlying78 (zero_ptr w) (zd := .lit (.int .i64 (-1))) (zp := []) rfl (keyN hs)
  rw [hD.has] at hr
  exact ⟨v, hr⟩
theorem mp_look {w : World} {mb : Nat} {l : Bxs} (h : Mp w mb l) (s : ByteArray) (hs : s.size ≤ 1000000) {b : Nat} (hb : (s.data.toList, b) ∈ l) :
    (Instr.lookup 78 (.map (some mb)) (.string s) false).run Tryz.prog w = .ok (.pointer (some ⟨b, 0, none⟩)) w := by
  obtain ⟨_, D, h1, hD⟩ := h
  obtain ⟨v, ps, hr, hv⟩ := h1.lookup lawN Tryz.underlying78 (zero_ptr w) (zd := .lit (.int .i64 (-1))) (zp := []) rfl (keyN hs)
  rw [(hD _).1 b hb] at hv
  rw [ptrElem_inv hv] at hr
  exact hr
theorem turned_but {w w' : World} {mb : Nat} (h : w.mapTurned w' mb) : But w.heap.size mb w w' := by
  have h5 := h.grown
  exact ⟨h5.os, h5.tape, h5.output, h5.size, fun q hq hne => h5.block q hq (fun e => hne (Option.some.inj e))⟩
theorem turned_size {w w' : World} {mb : Nat} (h : w.mapTurned w' mb) : w'.heap.size = w.heap.size := by
  obtain ⟨es, clock, es', clock', hb, rfl⟩ := h
  simp [ChangeMaps.setBlock]
theorem keyLit (t : Nm) : WideAt.IsKeyLit (.string t) := by first | trivial | simp [WideAt.IsKeyLit] | decide
theorem str_ne' {a b : Nm} (h : a ≠ b) : (Lit.string a) ≠ .string b := fun e => h (by cases e; rfl)
theorem mp_put {w : World} {mb : Nat} {l : Bxs} (h : Mp w mb l) (s : ByteArray) (hs : s.size ≤ 1000000) (hl : l.length ≤ 1000000) (b : Nat) :
    ∃ w', (Instr.mapUpdate 78 (.map (some mb)) (.string s) (.pointer (some ⟨b, 0, none⟩))).run Tryz.prog w = .ok () w' ∧ Mp w' mb (putB s.data.toList b l) ∧ w.mapTurned w' mb := by
  obtain ⟨hso, D, h1, hD⟩ := h
  obtain ⟨w', hr, h2, h3⟩ := h1.store lawN Tryz.underlying78 (by unfold maxLen; omega) (keyN hs) (val := .pointer (some ⟨b, 0, none⟩)) (d := .lit (.int .i64 (b : Int))) (ps := []) rfl
  refine ⟨w', hr, mp_mk (sorted_putB hso) h2 (fun t => ⟨fun c hc z => ?_, fun hn => ?_⟩), h3⟩
  · rcases (mem_putB hso).1 hc with ⟨rfl, rfl⟩ | ⟨hne, hm⟩
    · exact atKey_put_same h1.isMap (keyLit _) _ _
    · rw [atKey_put_other (str_ne' hne)]
      exact (hD t).1 c hm z
  · have hne : t ≠ s.data.toList := fun e => (hasB_false.1 hn) b ((mem_putB hso).2 (Or.inl ⟨e, rfl⟩))
    rw [has_put_other (str_ne' hne), hD.has]
    exact hasB_false.2 fun c hc => (hasB_false.1 hn) c ((mem_putB hso).2 (Or.inr ⟨hne, hc⟩))
theorem mp_del {w : World} {mb : Nat} {l : Bxs} (h : Mp w mb l) (s : ByteArray) (hs : s.size ≤ 1000000) (ty : TypeId) :
    ∃ w', (Builtin.delete_ #[78, 9] ty #[.map (some mb), .string s]).run Tryz.prog w = .ok (.tuple #[]) w' ∧ Mp w' mb (delB l s.data.toList) ∧ w.mapTurned w' mb := by
  obtain ⟨hso, D, h1, hD⟩ := h
  obtain ⟨w', hr, h2, h3⟩ := h1.drop lawN Tryz.underlying78 (keyN hs) ty
  refine ⟨w', hr, mp_mk (sorted_delB hso _) h2 (fun t => ⟨fun c hc z => ?_, fun hn => ?_⟩), h3⟩
  · obtain ⟨hne, hm⟩ := mem_delB.1 hc
    rw [atKey_del_other (str_ne' hne)]
    exact (hD t).1 c hm z
  · by_cases hne : t = s.data.toList
    · rw [hne]
      exact has_del_same
    · rw [has_del_other (str_ne' hne), hD.has]
      exact hasB_false.2 fun c hc => (hasB_false.1 hn) c (mem_delB.2 ⟨hne, hc⟩)
theorem mp_len {w : World} {mb : Nat} {l : Bxs} (h : Mp w mb l) (ty : TypeId) : (Builtin.len_ #[78] ty #[.map (some mb)]).run Tryz.prog w = .ok (.int .i64 (l.length : Int)) w := by
  obtain ⟨hso, D, h1, hD⟩ := h
  have := h1.len Tryz.underlying78 ty
  rw [mp_size hso h1 hD] at this
  exact this
end Go.Proofs.YtfdlopimncodcaaGreatDoor
