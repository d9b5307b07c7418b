/-
  Small laws for walks: appending to a row that the call owns, what such, and more.
-/
import Derived.WalkKit
import Derived.WalkSpells
import Derived.WalkLawsBesides
import Derived.Deep.AppendLies
import Derived.Lib.OthersKept
import Derived.Lib.ItoaNum
import Derived.Lib.Split
namespace Go.Proofs.Aid
open Go.RowKit

/-- What a function that appends to a row of type e leaves as it was: all below B, and every block that is no row of e. -/
structure Kept (e : TypeId) (B : Nat) (w w' : World) : Prop where
  below : Below B w w'
  others : Lib.OthersKept e none w w'

theorem Kept.refl (e : TypeId) (B : Nat) (w : World) : Kept e B w w := ⟨Below.refl _ _, Lib.OthersKept.refl _ _ _⟩
theorem Kept.trans {e : TypeId} {B : Nat} {a b c : World} (h : Kept e B a b) (k : Kept e B b c) : Kept e B a c := ⟨h.below.trans k.below, h.others.trans k.others⟩
theorem Kept.mono {e : TypeId} {B B' : Nat} {a b : World} (h : Kept e B a b) (hb : B' ≤ B) : Kept e B' a b := ⟨h.below.mono hb, h.others⟩
theorem Kept.size {e : TypeId} {B : Nat} {a b : World} (h : Kept e B a b) : a.heap.size ≤ b.heap.size := h.below.size
theorem Kept.alloc {e : TypeId} {B : Nat} {a w : World} (h : Kept e B a w) (hB : B ≤ w.heap.size) (o : Obj) : Kept e B a (w.alloc o) := ⟨h.below.alloc hB o, h.others.alloc o⟩
theorem row_kind {w : World} {B : Nat} {e : TypeId} {v : Value} {n : Nat} {xs : List Value} (h : w.ownsRow B e 1 v n xs) : ∀ g, v.ownBlock = some g → ∃ c fz, w.heap[g]? = some (.cells c e fz) := by
  intro g hg
  rcases h.2 with ⟨rfl, _⟩ | ⟨g', cap, cur, rfl, _, hgg, _⟩
  · simp [Value.ownBlock] at hg
  · simp [Value.ownBlock] at hg
    subst hg
    exact ⟨cur, _, hgg⟩
theorem Kept.grown {e : TypeId} {B base : Nat} {a w w' : World} {v : Value} {n : Nat} {xs : List Value} (h : Kept e B a w) (hown : w.ownsRow base e 1 v n xs) (hg : w.grownBy w' v.ownBlock) (hB : B ≤ base) (hBw : B ≤ w.heap.size) : Kept e B a w' :=
  ⟨h.below.grown hg hBw (fun k hk => Nat.le_trans hB (hown.lt k hk).1), h.others.grown hg (row_kind hown)⟩
/-- A row of another type stays what it was. -/
theorem Kept.row {e e' : TypeId} {B base : Nat} {w w' : World} (h : Kept e B w w') (hne : e' ≠ e) {v : Value} {n : Nat} {xs : List Value} (hown : w.ownsRow base e' 1 v n xs) : w'.ownsRow base e' 1 v n xs := by
  refine ⟨hown.1, ?_⟩
  rcases hown.2 with h2 | ⟨g, cap, cur, hv, hg, hh, r⟩
  · exact Or.inl h2
  · exact Or.inr ⟨g, cap, cur, hv, hg, h.others g _ hh (by simp) (fun c fz he => hne (by cases he; rfl)), r⟩
/-- A block that is no row of e. -/
theorem Kept.block {e : TypeId} {B : Nat} {w w' : World} (h : Kept e B w w') {k : Nat} {o : Obj} (hk : w.heap[k]? = some o) (ho : ∀ c fz, o ≠ .cells c e fz) : w'.heap[k]? = some o := h.others k o hk (by simp) ho
theorem Kept.one {e t : TypeId} {B : Nat} {w w' : World} (h : Kept e B w w') {k : Nat} {v : Value} (hk : w.heap[k]? = some (.cells #[v] t (0, 0))) (hne : t ≠ e) : w'.heap[k]? = some (.cells #[v] t (0, 0)) :=
  h.block hk (fun c fz he => hne (by cases he; rfl))
theorem Kept.iter {e : TypeId} {B : Nat} {w w' : World} (h : Kept e B w w') {k : Nat} {s : ByteArray} {pos : Nat} (hk : w.heap[k]? = some (.stringIter s pos)) : w'.heap[k]? = some (.stringIter s pos) :=
  h.block hk (fun c fz he => by cases he)
theorem grownBy_of_alloc {w w' : World} {o : Obj} {row : Option Nat} (h : (w.alloc o).grownBy w' row) : w.grownBy w' row :=
  ⟨h.os, h.tape, h.output, by have := h.size; simp at this; omega, fun k hk hne => (h.block k (by simp; omega) hne).trans (Below.heap_alloc w o k hk)⟩

section
variable {P : Program}
/-- 'append(out, a, b, ..)': what is appended lies in the block that was just laid. -/
theorem wpList_push {ops : Array Oper} {rest : List Oper} {o : Oper} {a : Act} {Q : Exit → Act → World → Prop} {W : World} (hgd : o.guard = none) (s x : Operand) (t : TypeId)
    (ho : o.op = .call { callee := .builtin .append, args := #[s, x], argTypes := #[t, t] })
    (w : World) (base : Nat) (e : TypeId) (z : Value) (bytes : Nat) (ht : P.underlying t = some (.slice e)) (hinfo : (P.info? e).map (fun i => (i.zero, i.size, i.bytes)) = some (some z, 1, bytes)) (hzs : z.cells.size = 1)
    (v : Value) (n : Nat) (xs : List Value) (hs : a.eval s = v) (hown : w.ownsRow base e 1 v n xs) (news : List Value)
    (H : Nat) (hx : a.eval x = .slice (some ⟨H, 0, none⟩) news.length news.length) (hH : w.heap.size = H) (h1 : ∀ u ∈ news, u.oneCell' = true) (hm : 0 < news.length)
    (hW : W = w.alloc (.cells news.toArray e)) (hb : bytes ≤ 64) (hlen : n + news.length ≤ 1000000) (hbase : base ≤ w.heap.size)
    (h : ∀ g cap w', w'.ownsRow base e 1 (.slice (some ⟨g, 0, none⟩) (n + news.length) cap) (n + news.length) (xs ++ news) → w.grownBy w' v.ownBlock → g < w'.heap.size → wpList P ops Q rest (a.put o.dst (.slice (some ⟨g, 0, none⟩) (n + news.length) cap)) w') :
    wpList P ops Q (o :: rest) a W := by
  subst hW
  subst hH
  obtain ⟨i0, hi, hz0, hz1, hz2⟩ := info_parts hinfo
  refine wpList_append_lies _ hgd s x t ho base e i0 z 1 bytes ht hi hz0 hz1 hz2 hzs (by decide) v n xs hs (hown.alloc _) ⟨w.heap.size, 0, none⟩ news.length news.length news hx (by simp) ?_ h1 hm ?_ ?_ ?_ _ rfl ?_
  · have := World.news_of_block (heap_alloc_new w (.cells news.toArray e))
    simpa using this
  · unfold maxLen; omega
  · exact Nat.le_trans (Nat.mul_le_mul hlen hb) (by decide)
  · simp; omega
  · intro g cap w' h2 h3 _ h5
    exact h g cap w' h2 (grownBy_of_alloc h3) h5
end

end Go.Proofs.Aid
namespace Go.Proofs.Sq
open Go

/-- A text, cut at its first c. -/
def cutAt (c : UInt8) : List UInt8 → List UInt8 × List UInt8 × Bool
  | [] => ([], [], false)
  | b :: r => if b = c then ([], r, true) else (b :: (cutAt c r).1, (cutAt c r).2)
/-- What stands between the c's of a text. -/
def between (c : UInt8) : List UInt8 → List (List UInt8)
  | [] => [[]]
  | b :: r => if b = c then [] :: between c r else (b :: (between c r).headD []) :: (between c r).tail

theorem index_one_cons (c b : UInt8) (r : List UInt8) : Lib.index (b :: r) [c] = if b = c then 0 else if Lib.index r [c] = -1 then -1 else Lib.index r [c] + 1 := by
  rw [Lib.index]
  simp only [List.isPrefixOf, Bool.and_true, beq_iff_eq]
  by_cases h : b = c
  · subst h; simp
  · rw [if_neg (fun e => h e.symm), if_neg h]
theorem cut_eq (c : UInt8) : ∀ l : List UInt8, Lib.cut l [c] = cutAt c l
  | [] => by simp [Lib.cut, Lib.index, cutAt]
  | b :: r => by
    have ih := cut_eq c r
    have hge := Lib.index_ge r [c]
    unfold Lib.cut at ih ⊢
    rw [index_one_cons, cutAt]
    by_cases h : b = c
    · rw [if_pos h, if_pos h]; simp
    · rw [if_neg h, if_neg h]
      by_cases h1 : Lib.index r [c] = -1
      · rw [if_pos h1, if_neg (by decide), ← ih, h1, if_neg (by decide)]
      · rw [if_neg h1, if_pos (by omega), ← ih, if_pos (by omega)]
        have e : (Lib.index r [c] + 1).toNat = (Lib.index r [c]).toNat + 1 := by omega
        rw [e]
        simp only [List.take_succ_cons, List.length_cons, List.length_nil, Nat.zero_add, List.drop_succ_cons]
theorem cutAt_miss {c : UInt8} : ∀ {l : List UInt8}, (cutAt c l).2.2 = false → (cutAt c l).1 = l ∧ (cutAt c l).2.1 = [] ∧ between c l = [l]
  | [], _ => ⟨rfl, rfl, rfl⟩
  | b :: r, h => by
    rw [cutAt] at h ⊢
    by_cases hb : b = c
    · rw [if_pos hb] at h; cases h
    · rw [if_neg hb] at h ⊢
      obtain ⟨h1, h2, h3⟩ := cutAt_miss (l := r) h
      refine ⟨by simp [h1], h2, ?_⟩
      rw [between, if_neg hb, h3]; rfl
theorem between_ne (c : UInt8) (l : List UInt8) : between c l ≠ [] := by
  cases l with
  | nil => simp [between]
  | cons b r => rw [between]; split <;> simp
theorem cutAt_hit {c : UInt8} : ∀ {l : List UInt8}, (cutAt c l).2.2 = true → l = (cutAt c l).1 ++ c :: (cutAt c l).2.1 ∧ between c l = (cutAt c l).1 :: between c (cutAt c l).2.1
  | [], h => by cases h
  | b :: r, h => by
    rw [cutAt] at h ⊢
    by_cases hb : b = c
    · rw [if_pos hb]
      refine ⟨by simp [hb], ?_⟩
      rw [between, if_pos hb]
    · rw [if_neg hb] at h ⊢
      obtain ⟨h1, h2⟩ := cutAt_hit (l := r) h
      refine ⟨?_, ?_⟩
      · show b :: r = b :: (cutAt c r).1 ++ c :: (cutAt c r).2.1
        rw [List.cons_append, ← h1]
      · rw [between, if_neg hb, h2]; rfl
theorem cutAt_append {c : UInt8} : ∀ {a : List UInt8} (b : List UInt8), c ∉ a → cutAt c (a ++ c :: b) = (a, b, true)
  | [], b, _ => by simp [cutAt]
  | x :: a, b, h => by
    have h1 : x ≠ c := fun e => h (by simp [e])
    have h2 : c ∉ a := fun e => h (by simp [e])
    rw [List.cons_append, cutAt, if_neg h1, cutAt_append b h2]
theorem cutAt_none {c : UInt8} : ∀ {a : List UInt8}, c ∉ a → cutAt c a = (a, [], false)
  | [], _ => rfl
  | x :: a, h => by
    have h1 : x ≠ c := fun e => h (by simp [e])
    have h2 : c ∉ a := fun e => h (by simp [e])
    rw [cutAt, if_neg h1, cutAt_none h2]
theorem cutAt_length (c : UInt8) (l : List UInt8) : (cutAt c l).1.length ≤ l.length ∧ (cutAt c l).2.1.length ≤ l.length := by
  by_cases h : (cutAt c l).2.2 = true
  · have h1 := (cutAt_hit h).1
    have h2 := congrArg List.length h1
    simp at h2
    omega
  · obtain ⟨h1, h2, _⟩ := cutAt_miss (c := c) (l := l) (by simpa using h)
    rw [h1, h2]; simp

/-- A digit's number. -/
def digit? (c : UInt8) : Option Nat := if 48 ≤ c.toNat ∧ c.toNat ≤ 57 then some (c.toNat - 48) else none
/-- Digits, behind those that make acc. -/
def digitsFrom (acc : Nat) : List UInt8 → Option Nat
  | [] => some acc
  | c :: r => (digit? c).bind fun d => if acc * 10 + d ≤ 2147483647 then digitsFrom (acc * 10 + d) r else none
/-- A number of a set: 0 is a star. -/
def numOf (l : List UInt8) : Option Nat := if l = [42] then some 0 else if l = [] ∨ l.head? = some 48 then none else digitsFrom 0 l
/-- One range. -/
def rangeOf (l : List UInt8) : Option (Nat × Nat) :=
  (numOf (cutAt 58 l).1).bind fun a => if (cutAt 58 l).2.2 = false then some (a, a) else (numOf (cutAt 58 l).2.1).bind fun b => some (a, b)

inductive Read where
  | form
  | limit
  | ok (l : List (Nat × Nat))
/-- Ranges, one by one, behind those that are there. -/
def readFrom (acc : List (Nat × Nat)) : List (List UInt8) → Read
  | [] => .ok acc
  | p :: ps => match rangeOf p with
    | none => .form
    | some r => if acc.length = 20 then .limit else readFrom (acc ++ [r]) ps
def readSet (l : List UInt8) : Read := readFrom [] (between 44 l)

/-- May ranges be? -/
def rightR (l : List (Int × Int)) : Bool := decide (1 ≤ l.length ∧ l.length ≤ 20) && l.all fun r => decide (0 ≤ r.1 ∧ r.1 ≤ 2147483647) && decide (0 ≤ r.2 ∧ r.2 ≤ 2147483647)
/-- A number, written. -/
def star (n : Int) : List UInt8 := if n = 0 then [42] else Lib.itoa n
/-- One range, written. -/
def wroteR (r : Int × Int) : List UInt8 := star r.1 ++ (if r.2 = r.1 then [] else 58 :: star r.2)
/-- Ranges, written behind what is there. -/
def wroteFrom (out : List UInt8) : List (Int × Int) → List UInt8
  | [] => out
  | r :: rs => wroteFrom (out ++ 44 :: wroteR r) rs
def wrote : List (Int × Int) → List UInt8
  | [] => []
  | r :: rs => wroteFrom (wroteR r) rs
/-- Is n one of them? -/
def meant (g n : Int) : Int := if n = 0 then g else n
def hasR (n g : Int) (r : Int × Int) : Bool := decide (min (meant g r.1) (meant g r.2) ≤ n ∧ n ≤ max (meant g r.1) (meant g r.2))
def hasSet (n g : Int) (l : List (Int × Int)) : Bool := l.any (hasR n g)

/-! Digits that are written are read. -/
theorem digit_of (k : Nat) (h : k < 10) : digit? (UInt8.ofNat (48 + k)) = some k := by
  have : (UInt8.ofNat (48 + k)).toNat = 48 + k := by simp [UInt8.toNat_ofNat']; omega
  unfold digit?
  rw [this, if_pos (by omega)]
  simp
theorem digitsFrom_append (a b : List UInt8) : ∀ acc, digitsFrom acc (a ++ b) = (digitsFrom acc a).bind fun n => digitsFrom n b := by
  induction a with
  | nil => intro acc; rfl
  | cons c r ih =>
    intro acc
    simp only [List.cons_append, digitsFrom]
    cases digit? c with
    | none => rfl
    | some d =>
      simp only [Option.bind_some]
      split
      · exact ih _
      · rfl
theorem digits_back (n : Nat) (h : n ≤ 2147483647) : digitsFrom 0 (Lib.decDigits n) = some n := by
  induction n using Nat.strongRecOn with
  | _ n ih =>
    by_cases h1 : n < 10
    · rw [Lib.decDigits, dif_pos h1]
      simp only [digitsFrom, digit_of n h1, Option.bind_some, Nat.zero_mul, Nat.zero_add]
      rw [if_pos h]
    · rw [Lib.decDigits, dif_neg h1, digitsFrom_append, ih (n / 10) (by omega) (by omega)]
      simp only [Option.bind_some, digitsFrom, digit_of (n % 10) (by omega)]
      rw [show n / 10 * 10 + n % 10 = n by omega, if_pos h]
theorem decDigits_mem (n : Nat) : ∀ c ∈ Lib.decDigits n, 48 ≤ c.toNat ∧ c.toNat ≤ 57 := by
  induction n using Nat.strongRecOn with
  | _ n ih =>
    have hd : ∀ k, k < 10 → (UInt8.ofNat (48 + k)).toNat = 48 + k := fun k hk => by simp [UInt8.toNat_ofNat']; omega
    intro c hc
    by_cases h1 : n < 10
    · rw [Lib.decDigits, dif_pos h1] at hc
      obtain rfl := List.mem_singleton.1 hc
      rw [hd n h1]; omega
    · rw [Lib.decDigits, dif_neg h1] at hc
      rcases List.mem_append.1 hc with h | h
      · exact ih (n / 10) (by omega) c h
      · obtain rfl := List.mem_singleton.1 h
        rw [hd _ (by omega)]; omega
theorem decDigits_ne (n : Nat) : Lib.decDigits n ≠ [] := by
  intro h
  have h1 := Lib.decDigits_length n
  have h2 := Lib.nDigits_pos n
  rw [h] at h1
  simp at h1; omega
theorem decDigits_head (n : Nat) (h : 0 < n) : (Lib.decDigits n).head? ≠ some 48 := by
  induction n using Nat.strongRecOn with
  | _ n ih =>
    by_cases h1 : n < 10
    · rw [Lib.decDigits, dif_pos h1]
      intro e
      have e1 : UInt8.ofNat (48 + n) = 48 := by simpa using e
      have e2 := congrArg UInt8.toNat e1
      rw [show (UInt8.ofNat (48 + n)).toNat = 48 + n by simp [UInt8.toNat_ofNat']; omega] at e2
      have : (48 : UInt8).toNat = 48 := rfl
      omega
    · rw [Lib.decDigits, dif_neg h1]
      have h2 := ih (n / 10) (by omega) (by omega)
      have h3 := decDigits_ne (n / 10)
      cases hd : Lib.decDigits (n / 10) with
      | nil => exact absurd hd h3
      | cons a b => rw [hd] at h2; simpa using h2
theorem star_mem {n : Int} (h0 : 0 ≤ n) : ∀ c ∈ star n, c ≠ 44 ∧ c ≠ 58 := by
  intro c hc
  unfold star at hc
  split at hc
  · obtain rfl := List.mem_singleton.1 hc; decide
  · rw [Lib.itoa, if_neg (by omega)] at hc
    have := decDigits_mem _ c hc
    constructor
    · rintro rfl; have e : (44 : UInt8).toNat = 44 := rfl; omega
    · rintro rfl; have e : (58 : UInt8).toNat = 58 := rfl; omega
theorem star_back {n : Int} (h0 : 0 ≤ n) (h1 : n ≤ 2147483647) : numOf (star n) = some n.toNat := by
  unfold star
  by_cases h : n = 0
  · rw [if_pos h, h]; rfl
  · rw [if_neg h, Lib.itoa, if_neg (by omega)]
    unfold numOf
    have hne : Lib.decDigits n.toNat ≠ [42] := by
      intro e
      have := decDigits_mem n.toNat 42 (by rw [e]; simp)
      have e : (42 : UInt8).toNat = 42 := rfl
      omega
    rw [if_neg hne, if_neg (by rintro (h2 | h2); exact decDigits_ne _ h2; exact decDigits_head _ (by omega) h2), digits_back _ (by omega)]
theorem wroteR_mem {r : Int × Int} (h1 : 0 ≤ r.1) (h2 : 0 ≤ r.2) : (44 : UInt8) ∉ wroteR r := by
  intro h
  unfold wroteR at h
  rcases List.mem_append.1 h with h | h
  · exact (star_mem h1 _ h).1 rfl
  · split at h
    · cases h
    · rcases List.mem_cons.1 h with h | h
      · cases h
      · exact (star_mem h2 _ h).1 rfl
theorem range_back {r : Int × Int} (h1 : 0 ≤ r.1) (h1' : r.1 ≤ 2147483647) (h2 : 0 ≤ r.2) (h2' : r.2 ≤ 2147483647) : rangeOf (wroteR r) = some (r.1.toNat, r.2.toNat) := by
  unfold rangeOf wroteR
  have hn : (58 : UInt8) ∉ star r.1 := fun h => (star_mem h1 _ h).2 rfl
  by_cases h : r.2 = r.1
  · rw [if_pos h, List.append_nil, cutAt_none hn, h]
    simp only [star_back h1 h1', Option.bind_some, if_pos]
  · rw [if_neg h, cutAt_append _ hn]
    simp only [star_back h1 h1', star_back h2 h2', Option.bind_some, Bool.true_eq_false, if_false]
theorem between_append {c : UInt8} : ∀ {a : List UInt8} (b : List UInt8), c ∉ a → between c (a ++ c :: b) = a :: between c b := by
  intro a b h
  have e := cutAt_append b h
  have := (cutAt_hit (c := c) (l := a ++ c :: b) (by rw [e])).2
  rw [e] at this
  exact this
theorem between_none {c : UInt8} {a : List UInt8} (h : c ∉ a) : between c a = [a] := (cutAt_miss (by rw [cutAt_none h])).2.2
/-- What is written behind what is there. -/
theorem wroteFrom_eq : ∀ (l : List (Int × Int)) (out : List UInt8), wroteFrom out l = out ++ l.flatMap fun r => 44 :: wroteR r
  | [], out => by simp [wroteFrom]
  | r :: rs, out => by rw [wroteFrom, wroteFrom_eq rs]; simp
theorem between_wrote : ∀ (l : List (Int × Int)) (r : Int × Int), (∀ x ∈ r :: l, 0 ≤ x.1 ∧ 0 ≤ x.2) → between 44 (wrote (r :: l)) = (r :: l).map wroteR
  | [], r, h => by
    have := h r (by simp)
    rw [wrote, wroteFrom, between_none (wroteR_mem this.1 this.2)]; rfl
  | r2 :: l, r, h => by
    have h1 := h r (by simp)
    have ih := between_wrote l r2 (fun x hx => h x (by simp only [List.mem_cons] at hx ⊢; exact Or.inr hx))
    rw [wrote, wroteFrom_eq] at ih ⊢
    rw [List.flatMap_cons, List.cons_append, between_append _ (wroteR_mem h1.1 h1.2), ih]; rfl
def natR (r : Int × Int) : Nat × Nat := (r.1.toNat, r.2.toNat)
theorem readFrom_wrote : ∀ (l : List (Int × Int)) (acc : List (Nat × Nat)), (∀ x ∈ l, (0 ≤ x.1 ∧ x.1 ≤ 2147483647) ∧ (0 ≤ x.2 ∧ x.2 ≤ 2147483647)) → acc.length + l.length ≤ 20 → readFrom acc (l.map wroteR) = .ok (acc ++ l.map natR)
  | [], acc, _, _ => by simp [readFrom]
  | r :: rs, acc, h, hl => by
    have h1 := h r (by simp)
    simp only [List.length_cons] at hl
    rw [List.map_cons, readFrom, range_back h1.1.1 h1.1.2 h1.2.1 h1.2.2]
    show (if acc.length = 20 then Read.limit else readFrom (acc ++ [(r.1.toNat, r.2.toNat)]) (rs.map wroteR)) = _
    rw [if_neg (by omega), readFrom_wrote rs _ (fun x hx => h x (by simp [hx])) (by simp; omega)]
    simp [natR]
theorem rightR_iff (l : List (Int × Int)) : rightR l = true ↔ (1 ≤ l.length ∧ l.length ≤ 20) ∧ ∀ x ∈ l, (0 ≤ x.1 ∧ x.1 ≤ 2147483647) ∧ (0 ≤ x.2 ∧ x.2 ≤ 2147483647) := by
  simp only [rightR, Bool.and_eq_true, decide_eq_true_eq, List.all_eq_true]
/-- WHAT A SET IS WRITTEN AS IS THAT SET. -/
theorem read_wrote (l : List (Int × Int)) (h : rightR l = true) : readSet (wrote l) = .ok (l.map natR) := by
  obtain ⟨⟨h1, h2⟩, h3⟩ := (rightR_iff l).1 h
  cases l with
  | nil => simp at h1
  | cons r rs =>
    unfold readSet
    rw [between_wrote rs r (fun x hx => ⟨(h3 x hx).1.1, (h3 x hx).2.1⟩), readFrom_wrote _ _ h3 (by simpa using h2)]
    rfl
theorem nDigits_le {n : Nat} (h : n ≤ 2147483647) : (Lib.decDigits n).length ≤ 10 := by
  rw [Lib.decDigits_length]
  by_cases h0 : n < 10 ^ 9
  · have : ∀ k n, n < 10 ^ k → 1 ≤ k → Lib.nDigits n ≤ k := by
      intro k
      induction k with
      | zero => intro n _ hk; omega
      | succ k ih =>
        intro n hn _
        by_cases h1 : n < 10
        · rw [Lib.nDigits_small h1]; omega
        · rw [Lib.nDigits_big h1]
          rw [Nat.pow_succ] at hn
          by_cases hk : k = 0
          · subst hk; simp at hn; omega
          · have := ih (n / 10) (by omega) (by omega)
            omega
    have := this 9 n h0 (by decide)
    omega
  · exact Nat.le_of_eq (Lib.nDigits_unique 9 n (by omega) (by omega))
theorem star_length {n : Int} (h0 : 0 ≤ n) (h1 : n ≤ 2147483647) : (star n).length ≤ 10 := by
  unfold star
  split
  · simp
  · rw [Lib.itoa, if_neg (by omega)]; exact nDigits_le (by omega)

/-! The least set of some numbers. -/
def ofRun (f t : Int) : List Int → List (Int × Int)
  | [] => [(f, t)]
  | n :: r => if n - 1 = t then ofRun f n r else (f, t) :: ofRun n n r
def ofL : List Int → List (Int × Int)
  | [] => []
  | n :: r => ofRun n n r
/-- Rising, from behind a number on. -/
def rising (b : Int) : List Int → Bool
  | [] => true
  | n :: r => decide (b < n) && rising n r
theorem rising_mem : ∀ {l : List Int} {b : Int}, rising b l = true → ∀ n ∈ l, b < n
  | [], _, _, n, hn => by cases hn
  | m :: r, b, h, n, hn => by
    simp only [rising, Bool.and_eq_true, decide_eq_true_eq] at h
    rcases List.mem_cons.1 hn with rfl | h1
    · exact h.1
    · have := rising_mem h.2 n h1; omega
theorem hasR_one {k g f t : Int} (h1 : 1 ≤ f) (h2 : f ≤ t) : hasR k g (f, t) = decide (f ≤ k ∧ k ≤ t) := by
  have e1 : meant g f = f := if_neg (by omega)
  have e2 : meant g t = t := if_neg (by omega)
  unfold hasR
  rw [e1, e2]
  congr 1
  apply propext
  constructor <;> intro h <;> omega
theorem has_ofRun (k g : Int) : ∀ (r : List Int) (f t : Int), 1 ≤ f → f ≤ t → rising t r = true → (hasSet k g (ofRun f t r) = true ↔ (f ≤ k ∧ k ≤ t) ∨ k ∈ r)
  | [], f, t, h1, h2, _ => by simp [ofRun, hasSet, hasR_one h1 h2]
  | n :: r, f, t, h1, h2, h => by
    simp only [rising, Bool.and_eq_true, decide_eq_true_eq] at h
    rw [ofRun]
    by_cases hn : n - 1 = t
    · rw [if_pos hn, has_ofRun k g r f n h1 (by omega) h.2]
      simp only [List.mem_cons]
      constructor
      · rintro (h3 | h3)
        · by_cases h4 : k ≤ t
          · exact Or.inl ⟨h3.1, h4⟩
          · exact Or.inr (Or.inl (by omega))
        · exact Or.inr (Or.inr h3)
      · rintro (h3 | h3 | h3)
        · exact Or.inl (by omega)
        · exact Or.inl (by omega)
        · exact Or.inr h3
    · rw [if_neg hn]
      have ih := has_ofRun k g r n n (by omega) (Int.le_refl _) h.2
      unfold hasSet at ih ⊢
      rw [List.any_cons, Bool.or_eq_true, ih, hasR_one h1 h2]
      simp only [decide_eq_true_eq, List.mem_cons]
      constructor
      · rintro (h3 | h3 | h3)
        · exact Or.inl h3
        · exact Or.inr (Or.inl (by omega))
        · exact Or.inr (Or.inr h3)
      · rintro (h3 | h3 | h3)
        · exact Or.inl h3
        · exact Or.inr (Or.inl (by omega))
        · exact Or.inr (Or.inr h3)
/-- OF A SET OF NUMBERS JUST THESE ARE ONE OF IT. -/
theorem has_ofL (k g : Int) (l : List Int) (h : rising 0 l = true) : hasSet k g (ofL l) = true ↔ k ∈ l := by
  cases l with
  | nil => simp [ofL, hasSet]
  | cons n r =>
    simp only [rising, Bool.and_eq_true, decide_eq_true_eq] at h
    rw [ofL, has_ofRun k g r n n (by omega) (Int.le_refl _) h.2]
    simp only [List.mem_cons]
    constructor
    · rintro (h3 | h3)
      · exact Or.inl (by omega)
      · exact Or.inr h3
    · rintro (h3 | h3)
      · exact Or.inl (by omega)
      · exact Or.inr h3
theorem ofRun_length : ∀ (r : List Int) (f t : Int), (ofRun f t r).length ≤ r.length + 1
  | [], _, _ => by simp [ofRun]
  | n :: r, f, t => by
    rw [ofRun]
    split
    · have := ofRun_length r f n; simp only [List.length_cons]; omega
    · have := ofRun_length r n n; simp only [List.length_cons]; omega
theorem ofL_length (l : List Int) : (ofL l).length ≤ l.length := by
  cases l with
  | nil => simp [ofL]
  | cons n r => have := ofRun_length r n n; rw [ofL]; simp only [List.length_cons]; omega
theorem hasSet_append (n g : Int) (a b : List (Int × Int)) : hasSet n g (a ++ b) = (hasSet n g a || hasSet n g b) := by simp [hasSet]
end Go.Proofs.Sq
