/-
  Small laws for walks: appending to a row that the call owns, what such, and more.
-/
import Derived.Test.YtdmplfflmdanlaaGreatDoorProg
import Derived.WalkKit
import Derived.WalkSpells
import Derived.WalkLawsBesides
import Derived.Deep.AppendLies
import Derived.Lib.OthersKept
import Derived.Lib.ItoaNum
import Derived.Lib.Split
import Derived.Deep.Cut
import Derived.Deep.CutRange
import Derived.Deep.DeepCutAuto
import Derived.Deep.CutBlock
namespace Go.Proofs.Aid
open Go.RowKit

theorem row_kind {w : World} {B : Nat} {e : TypeId} {v : Value} {n : Nat} {xs : List Value} (h : w.ownsRow B e 1 v n xs) : ∀ g, v.ownBlock = some g → ∃ c fz, w.heap[g]? = some (.cells c e fz) := by
  intro g hg
  rcases h.2 with ⟨rfl, _⟩ | ⟨g', cap, cur, rfl, _, hgg, _⟩
  · simp [Value.ownBlock] at hg
  · simp [Value.ownBlock] at hg
    subst hg
    exact ⟨cur, _, hgg⟩
theorem grownBy_of_alloc {w w' : World} {o : Obj} {row : Option Nat} (h : (w.alloc o).grownBy w' row) : w.grownBy w' row :=
  ⟨h.os, h.tape, h.output, by have := h.size; simp at this; omega, fun k hk hne => (h.block k (by simp; omega) hne).trans (Below.heap_alloc w o k hk)⟩

section
variable {P : Program}
/-- 'append(out, a, b, ..)': what is appended lies in the block that was just laid. -/
theorem wpList_push {ops : Array Oper} {rest : List Oper} {o : Oper} {a : Act} {Q : Exit → Act → World → Prop} {W : World} (hgd : o.guard = none) (s x : Operand) (t : TypeId)
    (ho : o.op = .call { callee := .builtin .append, args := #[s, x], argTypes := #[t, t] })
    (w : World) (base : Nat) (e : TypeId) (z : Value) (bytes : Nat) (ht : P.underlying t = some (.slice e)) (hinfo : (P.info? e).map (fun i => (i.zero, i.size, i.bytes)) = some (some z, 1, bytes)) (hzs : z.cells.size = 1)
    (v : Value) (n : Nat) (xs : List Value) (hs : a.eval s = v) (hown : w.ownsRow base e 1 v n xs) (news : List Value)
    (H : Nat) (hx : a.eval x = .slice (some ⟨H, 0, none⟩) news.length news.length) (hH : w.heap.size = H) (h1 : ∀ u ∈ news, u.oneCell' = true) (hm : 0 < news.length)
    (hW : W = w.alloc (.cells news.toArray e)) (hb : bytes ≤ 64) (hlen : n + news.length ≤ 1000000) (hbase : base ≤ w.heap.size)
    (h : ∀ g cap w', w'.ownsRow base e 1 (.slice (some ⟨g, 0, none⟩) (n + news.length) cap) (n + news.length) (xs ++ news) → w.grownBy w' v.ownBlock → g < w'.heap.size → wpList P ops Q rest (a.put o.dst (.slice (some ⟨g, 0, none⟩) (n + news.length) cap)) w') :
    wpList P ops Q (o :: rest) a W := by
  subst hW
  subst hH
  obtain ⟨i0, hi, hz0, hz1, hz2⟩ := info_parts hinfo
  refine wpList_append_lies _ hgd s x t ho base e i0 z 1 bytes ht hi hz0 hz1 hz2 hzs (by decide) v n xs hs (hown.alloc _) ⟨w.heap.size, 0, none⟩ news.length news.length news hx (by simp) ?_ h1 hm ?_ ?_ ?_ _ rfl ?_
  · have := World.news_of_block (heap_alloc_new w (.cells news.toArray e))
    simpa using this
  · unfold maxLen; omega
  · exact Nat.le_trans (Nat.mul_le_mul hlen hb) (by decide)
  · simp; omega
  · intro g cap w' h2 h3 _ h5
    exact h g cap w' h2 (grownBy_of_alloc h3) h5
end

end Go.Proofs.Aid
namespace Go.Proofs.Sq
open Go

/-- A text, cut at its first c. -/
def cutAt (c : UInt8) : List UInt8 → List UInt8 × List UInt8 × Bool
  | [] => ([], [], false)
  | b :: r => if b = c then ([], r, true) else (b :: (cutAt c r).1, (cutAt c r).2)
/-- What stands between the c's of a text. -/
def between (c : UInt8) : List UInt8 → List (List UInt8)
  | [] => [[]]
  | b :: r => if b = c then [] :: between c r else (b :: (between c r).headD []) :: (between c r).tail

theorem index_one_cons (c b : UInt8) (r : List UInt8) : Lib.index (b :: r) [c] = if b = c then 0 else if Lib.index r [c] = -1 then -1 else Lib.index r [c] + 1 := by
  rw [Lib.index]
  simp only [List.isPrefixOf, Bool.and_true, beq_iff_eq]
  by_cases h : b = c
  · subst h; simp
  · rw [if_neg (fun e => h e.symm), if_neg h]
theorem cut_eq (c : UInt8) : ∀ l : List UInt8, Lib.cut l [c] = cutAt c l
  | [] => by simp [Lib.cut, Lib.index, cutAt]
  | b :: r => by
    have ih := cut_eq c r
    have hge := Lib.index_ge r [c]
    unfold Lib.cut at ih ⊢
    rw [index_one_cons, cutAt]
    by_cases h : b = c
    · rw [if_pos h, if_pos h]; simp
    · rw [if_neg h, if_neg h]
      by_cases h1 : Lib.index r [c] = -1
      · rw [if_pos h1, if_neg (by decide), ← ih, h1, if_neg (by decide)]
      · rw [if_neg h1, if_pos (by omega), ← ih, if_pos (by omega)]
        have e : (Lib.index r [c] + 1).toNat = (Lib.index r [c]).toNat + 1 := by omega
        rw [e]
        simp only [List.take_succ_cons, List.length_cons, List.length_nil, Nat.zero_add, List.drop_succ_cons]
theorem cutAt_miss {c : UInt8} : ∀ {l : List UInt8}, (cutAt c l).2.2 = false → (cutAt c l).1 = l ∧ (cutAt c l).2.1 = [] ∧ between c l = [l]
  | [], _ => ⟨rfl, rfl, rfl⟩
  | b :: r, h => by
    rw [cutAt] at h ⊢
    by_cases hb : b = c
    · rw [if_pos hb] at h; cases h
    · rw [if_neg hb] at h ⊢
      obtain ⟨h1, h2, h3⟩ := cutAt_miss (l := r) h
      refine ⟨by simp [h1], h2, ?_⟩
      rw [between, if_neg hb, h3]; rfl
theorem between_ne (c : UInt8) (l : List UInt8) : between c l ≠ [] := by
  cases l with
  | nil => simp [between]
  | cons b r => rw [between]; split <;> simp
theorem cutAt_hit {c : UInt8} : ∀ {l : List UInt8}, (cutAt c l).2.2 = true → l = (cutAt c l).1 ++ c :: (cutAt c l).2.1 ∧ between c l = (cutAt c l).1 :: between c (cutAt c l).2.1
  | [], h => by cases h
  | b :: r, h => by
    rw [cutAt] at h ⊢
    by_cases hb : b = c
    · rw [if_pos hb]
      refine ⟨by simp [hb], ?_⟩
      rw [between, if_pos hb]
    · rw [if_neg hb] at h ⊢
      obtain ⟨h1, h2⟩ := cutAt_hit (l := r) h
      refine ⟨?_, ?_⟩
      · show b :: r = b :: (cutAt c r).1 ++ c :: (cutAt c r).2.1
        rw [List.cons_append, ← h1]
      · rw [between, if_neg hb, h2]; rfl
theorem cutAt_append {c : UInt8} : ∀ {a : List UInt8} (b : List UInt8), c ∉ a → cutAt c (a ++ c :: b) = (a, b, true)
  | [], b, _ => by simp [cutAt]
  | x :: a, b, h => by
    have h1 : x ≠ c := fun e => h (by simp [e])
    have h2 : c ∉ a := fun e => h (by simp [e])
    rw [List.cons_append, cutAt, if_neg h1, cutAt_append b h2]
theorem cutAt_none {c : UInt8} : ∀ {a : List UInt8}, c ∉ a → cutAt c a = (a, [], false)
  | [], _ => rfl
  | x :: a, h => by
    have h1 : x ≠ c := fun e => h (by simp [e])
    have h2 : c ∉ a := fun e => h (by simp [e])
    rw [cutAt, if_neg h1, cutAt_none h2]
/-- A digit's number. -/
def digit? (c : UInt8) : Option Nat := if 48 ≤ c.toNat ∧ c.toNat ≤ 57 then some (c.toNat - 48) else none
/-- Digits, behind those that make acc. -/
def digitsFrom (acc : Nat) : List UInt8 → Option Nat
  | [] => some acc
  | c :: r => (digit? c).bind fun d => if acc * 10 + d ≤ 2147483647 then digitsFrom (acc * 10 + d) r else none
/-! Digits that are written are read. -/
theorem digit_of (k : Nat) (h : k < 10) : digit? (UInt8.ofNat (48 + k)) = some k := by
  have : (UInt8.ofNat (48 + k)).toNat = 48 + k := by simp [UInt8.toNat_ofNat']; omega
  unfold digit?
  rw [this, if_pos (by omega)]
  simp
theorem digitsFrom_append (a b : List UInt8) : ∀ acc, digitsFrom acc (a ++ b) = (digitsFrom acc a).bind fun n => digitsFrom n b := by
  induction a with
  | nil => intro acc; rfl
  | cons c r ih =>
    intro acc
    simp only [List.cons_append, digitsFrom]
    cases digit? c with
    | none => rfl
    | some d =>
      simp only [Option.bind_some]
      split
      · exact ih _
      · rfl
theorem digits_back (n : Nat) (h : n ≤ 2147483647) : digitsFrom 0 (Lib.decDigits n) = some n := by
  induction n using Nat.strongRecOn with
  | _ n ih =>
    by_cases h1 : n < 10
    · rw [Lib.decDigits, dif_pos h1]
      simp only [digitsFrom, digit_of n h1, Option.bind_some, Nat.zero_mul, Nat.zero_add]
      rw [if_pos h]
    · rw [Lib.decDigits, dif_neg h1, digitsFrom_append, ih (n / 10) (by omega) (by omega)]
      simp only [Option.bind_some, digitsFrom, digit_of (n % 10) (by omega)]
      rw [show n / 10 * 10 + n % 10 = n by omega, if_pos h]
theorem decDigits_mem (n : Nat) : ∀ c ∈ Lib.decDigits n, 48 ≤ c.toNat ∧ c.toNat ≤ 57 := by
  induction n using Nat.strongRecOn with
  | _ n ih =>
    have hd : ∀ k, k < 10 → (UInt8.ofNat (48 + k)).toNat = 48 + k := fun k hk => by simp [UInt8.toNat_ofNat']; omega
    intro c hc
    by_cases h1 : n < 10
    · rw [Lib.decDigits, dif_pos h1] at hc
      obtain rfl := List.mem_singleton.1 hc
      rw [hd n h1]; omega
    · rw [Lib.decDigits, dif_neg h1] at hc
      rcases List.mem_append.1 hc with h | h
      · exact ih (n / 10) (by omega) c h
      · obtain rfl := List.mem_singleton.1 h
        rw [hd _ (by omega)]; omega
theorem decDigits_ne (n : Nat) : Lib.decDigits n ≠ [] := by
  intro h
  have h1 := Lib.decDigits_length n
  have h2 := Lib.nDigits_pos n
  rw [h] at h1
  simp at h1; omega
theorem between_append {c : UInt8} : ∀ {a : List UInt8} (b : List UInt8), c ∉ a → between c (a ++ c :: b) = a :: between c b := by
  intro a b h
  have e := cutAt_append b h
  have := (cutAt_hit (c := c) (l := a ++ c :: b) (by rw [e])).2
  rw [e] at this
  exact this
theorem between_none {c : UInt8} {a : List UInt8} (h : c ∉ a) : between c a = [a] := (cutAt_miss (by rw [cutAt_none h])).2.2
/-! The least set of some numbers. -/
end Go.Proofs.Sq
namespace Go.Proofs.YtdmplfflmdanlaaGreatDoor
open Go.RowKit Go.Proofs.Aid Go.Proofs.Sq

theorem below_drewN {B : Nat} {a w : World} (h : Below B a w) (n : Nat) : Below B a (w.drewN n) := ⟨h.os, h.tape, h.output, h.size, h.block⟩
theorem row_below {w w' : World} {base n e size B : Nat} {v : Value} {xs : List Value} (hb : Below B w w') (hB : w.heap.size ≤ B) (h : w.ownsRow base e size v n xs) : w'.ownsRow base e size v n xs := by
  refine ⟨h.1, ?_⟩
  rcases h.2 with h2 | ⟨g, cap, cur, hv, hg, hh, r⟩
  · exact Or.inl h2
  · exact Or.inr ⟨g, cap, cur, hv, hg, (hb.block g (Nat.lt_of_lt_of_le (Array.getElem?_eq_some_iff.1 hh).1 hB)).trans hh, r⟩
theorem row_form {w : World} {base n e size : Nat} {v : Value} {xs : List Value} (h : w.ownsRow base e size v n xs) : ∃ a c, v = .slice a n c := by
  rcases h.2 with ⟨h1, h2⟩ | ⟨g, cap, cur, hv, _⟩
  · exact ⟨none, 0, by rw [h1, h2]⟩
  · exact ⟨_, _, hv⟩
end Go.Proofs.YtdmplfflmdanlaaGreatDoor
namespace Go.Proofs.YtdmplfflmdanlaaGreatDoor
open Go.RowKit Go.Proofs.Aid

/-- Below base nothing but block b is changed. -/
structure But (base b : Nat) (w w' : World) : Prop where
  os : w'.os = w.os
  tape : w'.tape = w.tape
  output : w'.output = w.output
  size : w.heap.size ≤ w'.heap.size
  block : ∀ k, k < base → k ≠ b → w'.heap[k]? = w.heap[k]?
theorem to_but {base b : Nat} {w w' : World} (h : Below base w w') : But base b w w' := ⟨h.os, h.tape, h.output, h.size, fun k hk _ => h.block k hk⟩
theorem But.trans {base b : Nat} {w w' w'' : World} (h : But base b w w') (k : But base b w' w'') : But base b w w'' :=
  ⟨k.os.trans h.os, k.tape.trans h.tape, k.output.trans h.output, Nat.le_trans h.size k.size, fun j hj hb => (k.block j hj hb).trans (h.block j hj hb)⟩
theorem But.setB {base b : Nat} {w w' : World} (h : But base b w w') (i : Nat) (x : Value) : But base b w (w'.setCell ⟨b, i, none⟩ x) :=
  ⟨h.os, h.tape, h.output, by simpa using h.size, fun k hk hb => (Below.heap_setCell _ _ _ _ hb).trans (h.block k hk hb)⟩
theorem But.cell {base b : Nat} {w w' : World} (h : But base b w w') {p : Addr} (hp : p.block < base) (hb : p.block ≠ b) : w'.cell? p = w.cell? p := World.cell?_of_block (w := w) (h.block p.block hp hb)
theorem But.below {base b B : Nat} {w w' : World} (h : But base b w w') (h1 : B ≤ base) (h2 : B ≤ b) : Below B w w' := ⟨h.os, h.tape, h.output, h.size, fun k hk => h.block k (Nat.lt_of_lt_of_le hk h1) (by omega)⟩
theorem rd_cell {W : World} {b j : Nat} {arr : Array Value} {t : TypeId} {v : Value} (hh : W.heap[b]? = some (.cells arr t (0, 0))) (hv : arr[j]? = some v) : W.cell? ⟨b, j, none⟩ = some v := by simp [World.cell?, hh, hv]
theorem rd_free {W : World} {b : Nat} {arr : Array Value} {t : TypeId} (hh : W.heap[b]? = some (.cells arr t (0, 0))) (j : Nat) : W.frozen? ⟨b, j, none⟩ = false := by simp [World.frozen?, hh]
theorem rd_set {W : World} {b i : Nat} {arr : Array Value} {t : TypeId} (x : Value) (hh : W.heap[b]? = some (.cells arr t (0, 0))) : (W.setCell ⟨b, i, none⟩ x).heap[b]? = some (.cells (arr.setIfInBounds i x) t (0, 0)) := by
  rw [setCell_eq_setRow W b i arr t (0, 0) x hh]
  exact setRow_heap _ _ _ _ _ _ hh
theorem But.less {base base' b : Nat} {w w' : World} (h : But base b w w') (hb : base' ≤ base) : But base' b w w' := ⟨h.os, h.tape, h.output, h.size, fun k hk hn => h.block k (Nat.lt_of_lt_of_le hk hb) hn⟩
theorem row_some {w : World} {base e size n : Nat} {v : Value} {xs : List Value} (h : w.ownsRow base e size v n xs) (hn : n ≠ 0) : ∃ g cap, v = .slice (some ⟨g, 0, none⟩) n cap := by
  rcases h.2 with ⟨_, h2⟩ | ⟨g, cap, cur, hv, _⟩
  · exact absurd h2 hn
  · exact ⟨g, cap, hv⟩
theorem own_same {e : TypeId} {base size n : Nat} {w w' : World} {v : Value} {xs : List Value} (h : w.ownsRow base e size v n xs) (hk : ∀ g, v.ownBlock = some g → w'.heap[g]? = w.heap[g]?) : w'.ownsRow base e size v n xs := by
  refine ⟨h.1, ?_⟩
  rcases h.2 with h2 | ⟨g, cap, cur, rfl, h4, hh, r⟩
  · exact Or.inl h2
  · exact Or.inr ⟨g, cap, cur, rfl, h4, (hk g rfl).trans hh, r⟩
end Go.Proofs.YtdmplfflmdanlaaGreatDoor
