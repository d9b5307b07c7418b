/-
  Small laws for walks: appending to a row that the call owns, what such, and more.
-/
import Derived.Test.YtogigccbnohjjaaGreatDoorProg
import Derived.WalkKit
import Derived.WalkSpells
import Derived.WalkLawsBesides
import Derived.Deep.AppendLies
import Derived.Lib.OthersKept
import Derived.Lib.ItoaNum
import Derived.Lib.Split
namespace Go.Proofs.Aid
open Go.RowKit
structure Kept (e : TypeId) (B : Nat) (w w' : World) : Prop where
 below : Below B w w'
 others : Lib.OthersKept e none w w'
theorem Kept.refl (e : TypeId) (B : Nat) (w : World) : Kept e B w w := ⟨Below.refl _ _, Lib.OthersKept.refl _ _ _⟩
theorem row_kind {w : World} {B : Nat} {e : TypeId} {v : Value} {n : Nat} {xs : List Value} (h : w.ownsRow B e 1 v n xs) : ∀ g, v.ownBlock = some g → ∃ c fz, w.heap[g]? = some (.cells c e fz) := by
 intro g hg
 rcases h.2 with ⟨rfl, _⟩ | ⟨g', cap, cur, rfl, _, hgg, _⟩
 ·simp [Value.ownBlock] at hg
 ·simp [Value.ownBlock] at hg
  subst hg
  exact ⟨cur, _, hgg⟩
theorem Kept.grown {e : TypeId} {B base : Nat} {a w w' : World} {v : Value} {n : Nat} {xs : List Value} (h : Kept e B a w) (hown : w.ownsRow base e 1 v n xs) (hg : w.grownBy w' v.ownBlock) (hB : B ≤ base) (hBw : B ≤ w.heap.size) : Kept e B a w' :=
 ⟨h.below.grown hg hBw (fun k hk => Nat.le_trans hB (hown.lt k hk).1), h.others.grown hg (row_kind hown)⟩
theorem Kept.block {e : TypeId} {B : Nat} {w w' : World} (h : Kept e B w w') {k : Nat} {o : Obj} (hk : w.heap[k]? = some o) (ho : ∀ c fz, o ≠ .cells c e fz) : w'.heap[k]? = some o := h.others k o hk (by simp) ho
theorem grownBy_of_alloc {w w' : World} {o : Obj} {row : Option Nat} (h : (w.alloc o).grownBy w' row) : w.grownBy w' row :=
 ⟨h.os, h.tape, h.output, by have := h.size; simp at this; omega, fun k hk hne => (h.block k (by simp; omega) hne).trans (Below.heap_alloc w o k hk)⟩
section
variable {P : Program}
theorem wpList_push {ops : Array Oper} {rest : List Oper} {o : Oper} {a : Act} {Q : Exit → Act → World → Prop} {W : World} (hgd : o.guard = none) (s x : Operand) (t : TypeId)
  (ho : o.op = .call { callee := .builtin .append, args := #[s, x], argTypes := #[t, t] })
  (w : World) (base : Nat) (e : TypeId) (z : Value) (bytes : Nat) (ht : P.underlying t = some (.slice e)) (hinfo : (P.info? e).map (fun i => (i.zero, i.size, i.bytes)) = some (some z, 1, bytes)) (hzs : z.cells.size = 1)
  (v : Value) (n : Nat) (xs : List Value) (hs : a.eval s = v) (hown : w.ownsRow base e 1 v n xs) (news : List Value)
  (H : Nat) (hx : a.eval x = .slice (some ⟨H, 0, none⟩) news.length news.length) (hH : w.heap.size = H) (h1 : ∀ u ∈ news, u.oneCell' = true) (hm : 0 < news.length)
  (hW : W = w.alloc (.cells news.toArray e)) (hb : bytes ≤ 64) (hlen : n + news.length ≤ 1000000) (hbase : base ≤ w.heap.size)
  (h : ∀ g cap w', w'.ownsRow base e 1 (.slice (some ⟨g, 0, none⟩) (n + news.length) cap) (n + news.length) (xs ++ news) → w.grownBy w' v.ownBlock → g < w'.heap.size → wpList P ops Q rest (a.put o.dst (.slice (some ⟨g, 0, none⟩) (n + news.length) cap)) w') :
  wpList P ops Q (o :: rest) a W := by
 subst hW
 subst hH
 obtain ⟨i0, hi, hz0, hz1, hz2⟩ := info_parts hinfo
 refine wpList_append_lies _ hgd s x t ho base e i0 z 1 bytes ht hi hz0 hz1 hz2 hzs (by decide) v n xs hs (hown.alloc _) ⟨w.heap.size, 0, none⟩ news.length news.length news hx (by simp) ?_ h1 hm ?_ ?_ ?_ _ rfl ?_
 ·have := World.news_of_block (heap_alloc_new w (.cells news.toArray e))
  simpa using this
 ·unfold maxLen; omega
 ·exact Nat.le_trans (Nat.mul_le_mul hlen hb) (by decide)
 ·simp; omega
 ·intro g cap w' h2 h3 _ h5
  exact h g cap w' h2 (grownBy_of_alloc h3) h5
end
end Go.Proofs.Aid
namespace Go.Proofs.Sq
open Go
def cutAt (c : UInt8) : List UInt8 → List UInt8 × List UInt8 × Bool
 | [] => ([], [], false)
 | b :: r => if b = c then ([], r, true) else (b :: (cutAt c r).1, (cutAt c r).2)
def between (c : UInt8) : List UInt8 → List (List UInt8)
 | [] => [[]]
 | b :: r => if b = c then [] :: between c r else (b :: (between c r).headD []) :: (between c r).tail
theorem index_one_cons (c b : UInt8) (r : List UInt8) : Lib.index (b :: r) [c] = if b = c then 0 else if Lib.index r [c] = -1 then -1 else Lib.index r [c] + 1 := by
 rw [Lib.index]
 simp only [List.isPrefixOf, Bool.and_true, beq_iff_eq]
 by_cases h : b = c
 ·subst h; simp
 ·rw [if_neg (fun e => h e.symm), if_neg h]
theorem cut_eq (c : UInt8) : ∀ l : List UInt8, Lib.cut l [c] = cutAt c l
 | [] => by simp [Lib.cut, Lib.index, cutAt]
 | b :: r => by
  have ih := cut_eq c r
  have hge := Lib.index_ge r [c]
  unfold Lib.cut at ih ⊢
  rw [index_one_cons, cutAt]
  by_cases h : b = c
  ·rw [if_pos h, if_pos h]; simp
  ·rw [if_neg h, if_neg h]
   by_cases h1 : Lib.index r [c] = -1
   ·rw [if_pos h1, if_neg (by decide), ← ih, h1, if_neg (by decide)]
   ·rw [if_neg h1, if_pos (by omega), ← ih, if_pos (by omega)]
    have e : (Lib.index r [c] + 1).toNat = (Lib.index r [c]).toNat + 1 := by omega
    rw [e]
    simp only [List.take_succ_cons, List.length_cons, List.length_nil, Nat.zero_add, List.drop_succ_cons]
theorem cutAt_miss {c : UInt8} : ∀ {l : List UInt8}, (cutAt c l).2.2 = false → (cutAt c l).1 = l ∧ (cutAt c l).2.1 = [] ∧ between c l = [l]
 | [], _ => ⟨rfl, rfl, rfl⟩
 | b :: r, h => by
  rw [cutAt] at h ⊢
  by_cases hb : b = c
  ·rw [if_pos hb] at h; cases h
  ·rw [if_neg hb] at h ⊢
   obtain ⟨h1, h2, h3⟩ := cutAt_miss (l := r) h
   refine ⟨by simp [h1], h2, ?_⟩
   rw [between, if_neg hb, h3]; rfl
theorem between_ne (c : UInt8) (l : List UInt8) : between c l ≠ [] := by
 cases l with
 | nil => simp [between]
 | cons b r => rw [between]; split <;> simp
theorem cutAt_hit {c : UInt8} : ∀ {l : List UInt8}, (cutAt c l).2.2 = true → l = (cutAt c l).1 ++ c :: (cutAt c l).2.1 ∧ between c l = (cutAt c l).1 :: between c (cutAt c l).2.1
 | [], h => by cases h
 | b :: r, h => by
  rw [cutAt] at h ⊢
  by_cases hb : b = c
  ·rw [if_pos hb]
   refine ⟨by simp [hb], ?_⟩
   rw [between, if_pos hb]
  ·rw [if_neg hb] at h ⊢
   obtain ⟨h1, h2⟩ := cutAt_hit (l := r) h
   refine ⟨?_, ?_⟩
   ·show b :: r = b :: (cutAt c r).1 ++ c :: (cutAt c r).2.1
    rw [List.cons_append, ← h1]
   ·rw [between, if_neg hb, h2]; rfl
theorem cutAt_none {c : UInt8} : ∀ {a : List UInt8}, c ∉ a → cutAt c a = (a, [], false)
 | [], _ => rfl
 | x :: a, h => by
  have h1 : x ≠ c := fun e => h (by simp [e])
  have h2 : c ∉ a := fun e => h (by simp [e])
  rw [cutAt, if_neg h1, cutAt_none h2]
theorem cutAt_length (c : UInt8) (l : List UInt8) : (cutAt c l).1.length ≤ l.length ∧ (cutAt c l).2.1.length ≤ l.length := by
 by_cases h : (cutAt c l).2.2 = true
 ·have h1 := (cutAt_hit h).1
  have h2 := congrArg List.length h1
  simp at h2
  omega
 ·obtain ⟨h1, h2, _⟩ := cutAt_miss (c := c) (l := l) (by simpa using h)
  rw [h1, h2]; simp
def digit? (c : UInt8) : Option Nat := if 48 ≤ c.toNat ∧ c.toNat ≤ 57 then some (c.toNat - 48) else none
def digitsFrom (acc : Nat) : List UInt8 → Option Nat
 | [] => some acc
 | c :: r => (digit? c).bind fun d => if acc * 10 + d ≤ 2147483647 then digitsFrom (acc * 10 + d) r else none
def numOf (l : List UInt8) : Option Nat := if l = [42] then some 0 else if l = [] ∨ l.head? = some 48 then none else digitsFrom 0 l
def rangeOf (l : List UInt8) : Option (Nat × Nat) :=
 (numOf (cutAt 58 l).1).bind fun a => if (cutAt 58 l).2.2 = false then some (a, a) else (numOf (cutAt 58 l).2.1).bind fun b => some (a, b)
inductive Read where
 | form
 | limit
 | ok (l : List (Nat × Nat))
def readFrom (acc : List (Nat × Nat)) : List (List UInt8) → Read
 | [] => .ok acc
 | p :: ps => match rangeOf p with
  | none => .form
  | some r => if acc.length = 20 then .limit else readFrom (acc ++ [r]) ps
def readSet (l : List UInt8) : Read := readFrom [] (between 44 l)
def star (n : Int) : List UInt8 := if n = 0 then [42] else Lib.itoa n
def meant (g n : Int) : Int := if n = 0 then g else n
def hasR (n g : Int) (r : Int × Int) : Bool := decide (min (meant g r.1) (meant g r.2) ≤ n ∧ n ≤ max (meant g r.1) (meant g r.2))
def hasSet (n g : Int) (l : List (Int × Int)) : Bool := l.any (hasR n g)
/-! Digits that are written are read. -/
theorem digit_of (k : Nat) (h : k < 10) : digit? (UInt8.ofNat (48 + k)) = some k := by
 have : (UInt8.ofNat (48 + k)).toNat = 48 + k := by simp [UInt8.toNat_ofNat']; omega
 unfold digit?
 rw [this, if_pos (by omega)]
 simp
theorem digitsFrom_append (a b : List UInt8) : ∀ acc, digitsFrom acc (a ++ b) = (digitsFrom acc a).bind fun n => digitsFrom n b := by
 induction a with
 | nil => intro acc; rfl
 | cons c r ih =>
  intro acc
  simp only [List.cons_append, digitsFrom]
  cases digit? c with
  | none => rfl
  | some d =>
   simp only [Option.bind_some]
   split
   ·exact ih _
   ·rfl
theorem digits_back (n : Nat) (h : n ≤ 2147483647) : digitsFrom 0 (Lib.decDigits n) = some n := by
 induction n using Nat.strongRecOn with
 | _ n ih =>
  by_cases h1 : n < 10
  ·rw [Lib.decDigits, dif_pos h1]
   simp only [digitsFrom, digit_of n h1, Option.bind_some, Nat.zero_mul, Nat.zero_add]
   rw [if_pos h]
  ·rw [Lib.decDigits, dif_neg h1, digitsFrom_append, ih (n / 10) (by omega) (by omega)]
   simp only [Option.bind_some, digitsFrom, digit_of (n % 10) (by omega)]
   rw [show n / 10 * 10 + n % 10 = n by omega, if_pos h]
theorem decDigits_mem (n : Nat) : ∀ c ∈ Lib.decDigits n, 48 ≤ c.toNat ∧ c.toNat ≤ 57 := by
 induction n using Nat.strongRecOn with
 | _ n ih =>
  have hd : ∀ k, k < 10 → (UInt8.ofNat (48 + k)).toNat = 48 + k := fun k hk => by simp [UInt8.toNat_ofNat']; omega
  intro c hc
  by_cases h1 : n < 10
  ·rw [Lib.decDigits, dif_pos h1] at hc
   obtain rfl := List.mem_singleton.1 hc
   rw [hd n h1]; omega
  ·rw [Lib.decDigits, dif_neg h1] at hc
   rcases List.mem_append.1 hc with h | h
   ·exact ih (n / 10) (by omega) c h
   ·obtain rfl := List.mem_singleton.1 h
    rw [hd _ (by omega)]; omega
theorem decDigits_ne (n : Nat) : Lib.decDigits n ≠ [] := by
 intro h
 have h1 := Lib.decDigits_length n
 have h2 := Lib.nDigits_pos n
 rw [h] at h1
 simp at h1; omega
theorem decDigits_head (n : Nat) (h : 0 < n) : (Lib.decDigits n).head? ≠ some 48 := by
 induction n using Nat.strongRecOn with
 | _ n ih =>
  by_cases h1 : n < 10
  ·rw [Lib.decDigits, dif_pos h1]
   intro e
   have e1 : UInt8.ofNat (48 + n) = 48 := by simpa using e
   have e2 := congrArg UInt8.toNat e1
   rw [show (UInt8.ofNat (48 + n)).toNat = 48 + n by simp [UInt8.toNat_ofNat']; omega] at e2
   have : (48 : UInt8).toNat = 48 := rfl
   omega
  ·rw [Lib.decDigits, dif_neg h1]
   have h2 := ih (n / 10) (by omega) (by omega)
   have h3 := decDigits_ne (n / 10)
   cases hd : Lib.decDigits (n / 10) with
   | nil => exact absurd hd h3
   | cons a b => rw [hd] at h2; simpa using h2
theorem star_back {n : Int} (h0 : 0 ≤ n) (h1 : n ≤ 2147483647) : numOf (star n) = some n.toNat := by
 unfold star
 by_cases h : n = 0
 ·rw [if_pos h, h]; rfl
 ·rw [if_neg h, Lib.itoa, if_neg (by omega)]
  unfold numOf
  have hne : Lib.decDigits n.toNat ≠ [42] := by
   intro e
   have := decDigits_mem n.toNat 42 (by rw [e]; simp)
   have e : (42 : UInt8).toNat = 42 := rfl
   omega
  rw [if_neg hne, if_neg (by rintro (h2 | h2); exact decDigits_ne _ h2; exact decDigits_head _ (by omega) h2), digits_back _ (by omega)]
theorem between_none {c : UInt8} {a : List UInt8} (h : c ∉ a) : between c a = [a] := (cutAt_miss (by rw [cutAt_none h])).2.2
/-! The least set of some numbers. -/
end Go.Proofs.Sq
namespace Go.Proofs.YtogigccbnohjjaaGreatDoor
open Go.RowKit Go.Proofs.Aid Go.Proofs.Sq
theorem below_drewN {B : Nat} {a w : World} (h : Below B a w) (n : Nat) : Below B a (w.drewN n) := ⟨h.os, h.tape, h.output, h.size, h.block⟩
def RgAt (w : World) (b o : Nat) (l : List (Int × Int)) : Prop :=
 ∀ (j : Nat) r, l[j]? = some r → w.cell? ⟨b, o + j * 2, none⟩ = some (.int .i64 r.1) ∧ w.cell? ⟨b, o + j * 2 + 1, none⟩ = some (.int .i64 r.2)
def Rg (w : World) (v : Value) (l : List (Int × Int)) : Prop :=
 ∃ a c, v = .slice a l.length c ∧ (l = [] ∨ ∃ b o, a = some ⟨b, o, none⟩ ∧ RgAt w b o l)
theorem RgAt.below {w w' : World} {b o B : Nat} {l : List (Int × Int)} (h : RgAt w b o l) (hb : Below B w w') (hB : w.heap.size ≤ B) : RgAt w' b o l := by
 intro j r hj
 obtain ⟨h1, h2⟩ := h j r hj
 have hlt := World.block_lt_of_cell? _ _ h1
 have hlt2 : b < B := Nat.lt_of_lt_of_le hlt hB
 exact ⟨(hb.cell (p := ⟨b, _, none⟩) hlt2).trans h1, (hb.cell (p := ⟨b, _, none⟩) hlt2).trans h2⟩
theorem Rg.below {w w' : World} {v : Value} {B : Nat} {l : List (Int × Int)} (h : Rg w v l) (hb : Below B w w') (hB : w.heap.size ≤ B) : Rg w' v l := by
 obtain ⟨a, c, h1, h2⟩ := h
 refine ⟨a, c, h1, ?_⟩
 rcases h2 with h2 | ⟨b, o, h3, h4⟩
 ·exact Or.inl h2
 ·exact Or.inr ⟨b, o, h3, h4.below hb hB⟩
theorem row_below {w w' : World} {base n e size B : Nat} {v : Value} {xs : List Value} (hb : Below B w w') (hB : w.heap.size ≤ B) (h : w.ownsRow base e size v n xs) : w'.ownsRow base e size v n xs := by
 refine ⟨h.1, ?_⟩
 rcases h.2 with h2 | ⟨g, cap, cur, hv, hg, hh, r⟩
 ·exact Or.inl h2
 ·exact Or.inr ⟨g, cap, cur, hv, hg, (hb.block g (Nat.lt_of_lt_of_le (Array.getElem?_eq_some_iff.1 hh).1 hB)).trans hh, r⟩
theorem row_form {w : World} {base n e size : Nat} {v : Value} {xs : List Value} (h : w.ownsRow base e size v n xs) : ∃ a c, v = .slice a n c := by
 rcases h.2 with ⟨h1, h2⟩ | ⟨g, cap, cur, hv, _⟩
 ·exact ⟨none, 0, by rw [h1, h2]⟩
 ·exact ⟨_, _, hv⟩
def cellsR (l : List (Int × Int)) : List Value := l.flatMap fun r => [.int .i64 r.1, .int .i64 r.2]
theorem cellsR_append (a b : List (Int × Int)) : cellsR (a ++ b) = cellsR a ++ cellsR b := by simp [cellsR]
theorem cellsR_get : ∀ (l : List (Int × Int)) (j : Nat) r, l[j]? = some r → (cellsR l)[j * 2]? = some (.int .i64 r.1) ∧ (cellsR l)[j * 2 + 1]? = some (.int .i64 r.2)
 | [], j, r, h => by simp at h
 | x :: l, 0, r, h => by
  obtain rfl : x = r := by simpa using h
  simp [cellsR]
 | x :: l, j + 1, r, h => by
  have := cellsR_get l j r (by simpa using h)
  rw [show (j + 1) * 2 = j * 2 + 2 by omega]
  simpa [cellsR] using this
theorem rg_of_row {w : World} {base e : Nat} {v : Value} {l : List (Int × Int)} (h : w.ownsRow base e 2 v l.length (cellsR l)) : Rg w v l := by
 rcases h.2 with ⟨h1, h2⟩ | ⟨g, cap, cur, hv, _, hh, _, _, hsz, htk⟩
 ·exact ⟨none, 0, by rw [h1, h2], Or.inl (List.eq_nil_of_length_eq_zero h2)⟩
 ·refine ⟨_, cap, hv, Or.inr ⟨g, 0, rfl, ?_⟩⟩
  intro j r hj
  obtain ⟨h1, h2⟩ := cellsR_get l j r hj
  have hlt : j < l.length := (List.getElem?_eq_some_iff.1 hj).1
  rw [← htk] at h1 h2
  rw [List.getElem?_take_of_lt (by omega)] at h1
  rw [List.getElem?_take_of_lt (by omega)] at h2
  simp only [World.cell?, hh, Nat.zero_add]
  constructor
  ·simpa using h1
  ·simpa using h2
end Go.Proofs.YtogigccbnohjjaaGreatDoor
