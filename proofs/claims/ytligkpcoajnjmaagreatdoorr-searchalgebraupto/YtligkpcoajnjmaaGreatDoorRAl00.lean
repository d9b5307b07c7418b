/-
  Sets of numbers (2.1, 2.2): plain mathematics: what stands between signs, numbers, ranges; what is written is read again.
  Heads of messages, plain mathematics: letters great and small, where a head ends, its pieces. Of no program.
-/
import Derived.Lib.ItoaNum
import Derived.Lib.Split
import Derived.Lib.SplitLaws
import Derived.Lib.IndexMore
namespace Go.Proofs.Sq
open Go

/-- A text, cut at its first c. -/
def cutAt (c : UInt8) : List UInt8 → List UInt8 × List UInt8 × Bool
  | [] => ([], [], false)
  | b :: r => if b = c then ([], r, true) else (b :: (cutAt c r).1, (cutAt c r).2)
/-- What stands between the c's of a text. -/
def between (c : UInt8) : List UInt8 → List (List UInt8)
  | [] => [[]]
  | b :: r => if b = c then [] :: between c r else (b :: (between c r).headD []) :: (between c r).tail

theorem index_one_cons (c b : UInt8) (r : List UInt8) : Lib.index (b :: r) [c] = if b = c then 0 else if Lib.index r [c] = -1 then -1 else Lib.index r [c] + 1 := by
  rw [Lib.index]
  simp only [List.isPrefixOf, Bool.and_true, beq_iff_eq]
  by_cases h : b = c
  · subst h; simp
  · rw [if_neg (fun e => h e.symm), if_neg h]
theorem cut_eq (c : UInt8) : ∀ l : List UInt8, Lib.cut l [c] = cutAt c l
  | [] => by simp [Lib.cut, Lib.index, cutAt]
  | b :: r => by
    have ih := cut_eq c r
    have hge := Lib.index_ge r [c]
    unfold Lib.cut at ih ⊢
    rw [index_one_cons, cutAt]
    by_cases h : b = c
    · rw [if_pos h, if_pos h]; simp
    · rw [if_neg h, if_neg h]
      by_cases h1 : Lib.index r [c] = -1
      · rw [if_pos h1, if_neg (by decide), ← ih, h1, if_neg (by decide)]
      · rw [if_neg h1, if_pos (by omega), ← ih, if_pos (by omega)]
        have e : (Lib.index r [c] + 1).toNat = (Lib.index r [c]).toNat + 1 := by omega
        rw [e]
        simp only [List.take_succ_cons, List.length_cons, List.length_nil, Nat.zero_add, List.drop_succ_cons]
theorem cutAt_miss {c : UInt8} : ∀ {l : List UInt8}, (cutAt c l).2.2 = false → (cutAt c l).1 = l ∧ (cutAt c l).2.1 = [] ∧ between c l = [l]
  | [], _ => ⟨rfl, rfl, rfl⟩
  | b :: r, h => by
    rw [cutAt] at h ⊢
    by_cases hb : b = c
    · rw [if_pos hb] at h; cases h
    · rw [if_neg hb] at h ⊢
      obtain ⟨h1, h2, h3⟩ := cutAt_miss (l := r) h
      refine ⟨by simp [h1], h2, ?_⟩
      rw [between, if_neg hb, h3]; rfl
theorem between_ne (c : UInt8) (l : List UInt8) : between c l ≠ [] := by
  cases l with
  | nil => simp [between]
  | cons b r => rw [between]; split <;> simp
theorem cutAt_hit {c : UInt8} : ∀ {l : List UInt8}, (cutAt c l).2.2 = true → l = (cutAt c l).1 ++ c :: (cutAt c l).2.1 ∧ between c l = (cutAt c l).1 :: between c (cutAt c l).2.1
  | [], h => by cases h
  | b :: r, h => by
    rw [cutAt] at h ⊢
    by_cases hb : b = c
    · rw [if_pos hb]
      refine ⟨by simp [hb], ?_⟩
      rw [between, if_pos hb]
    · rw [if_neg hb] at h ⊢
      obtain ⟨h1, h2⟩ := cutAt_hit (l := r) h
      refine ⟨?_, ?_⟩
      · show b :: r = b :: (cutAt c r).1 ++ c :: (cutAt c r).2.1
        rw [List.cons_append, ← h1]
      · rw [between, if_neg hb, h2]; rfl
theorem cutAt_append {c : UInt8} : ∀ {a : List UInt8} (b : List UInt8), c ∉ a → cutAt c (a ++ c :: b) = (a, b, true)
  | [], b, _ => by simp [cutAt]
  | x :: a, b, h => by
    have h1 : x ≠ c := fun e => h (by simp [e])
    have h2 : c ∉ a := fun e => h (by simp [e])
    rw [List.cons_append, cutAt, if_neg h1, cutAt_append b h2]
theorem cutAt_none {c : UInt8} : ∀ {a : List UInt8}, c ∉ a → cutAt c a = (a, [], false)
  | [], _ => rfl
  | x :: a, h => by
    have h1 : x ≠ c := fun e => h (by simp [e])
    have h2 : c ∉ a := fun e => h (by simp [e])
    rw [cutAt, if_neg h1, cutAt_none h2]
theorem cutAt_length (c : UInt8) (l : List UInt8) : (cutAt c l).1.length ≤ l.length ∧ (cutAt c l).2.1.length ≤ l.length := by
  by_cases h : (cutAt c l).2.2 = true
  · have h1 := (cutAt_hit h).1
    have h2 := congrArg List.length h1
    simp at h2
    omega
  · obtain ⟨h1, h2, _⟩ := cutAt_miss (c := c) (l := l) (by simpa using h)
    rw [h1, h2]; simp

/-- A digit's number. -/
def digit? (c : UInt8) : Option Nat := if 48 ≤ c.toNat ∧ c.toNat ≤ 57 then some (c.toNat - 48) else none
/-- Digits, behind those that make acc. -/
def digitsFrom (acc : Nat) : List UInt8 → Option Nat
  | [] => some acc
  | c :: r => (digit? c).bind fun d => if acc * 10 + d ≤ 2147483647 then digitsFrom (acc * 10 + d) r else none
/-- A number of a set: 0 is a star. -/
def numOf (l : List UInt8) : Option Nat := if l = [42] then some 0 else if l = [] ∨ l.head? = some 48 then none else digitsFrom 0 l
/-- One range. -/
def rangeOf (l : List UInt8) : Option (Nat × Nat) :=
  (numOf (cutAt 58 l).1).bind fun a => if (cutAt 58 l).2.2 = false then some (a, a) else (numOf (cutAt 58 l).2.1).bind fun b => some (a, b)

inductive Read where
  | form
  | limit
  | ok (l : List (Nat × Nat))
/-- Ranges, one by one, behind those that are there. -/
def readFrom (acc : List (Nat × Nat)) : List (List UInt8) → Read
  | [] => .ok acc
  | p :: ps => match rangeOf p with
    | none => .form
    | some r => if acc.length = 20 then .limit else readFrom (acc ++ [r]) ps
def readSet (l : List UInt8) : Read := readFrom [] (between 44 l)

/-- May ranges be? -/
def rightR (l : List (Int × Int)) : Bool := decide (1 ≤ l.length ∧ l.length ≤ 20) && l.all fun r => decide (0 ≤ r.1 ∧ r.1 ≤ 2147483647) && decide (0 ≤ r.2 ∧ r.2 ≤ 2147483647)
/-- A number, written. -/
def star (n : Int) : List UInt8 := if n = 0 then [42] else Lib.itoa n
/-- One range, written. -/
def wroteR (r : Int × Int) : List UInt8 := star r.1 ++ (if r.2 = r.1 then [] else 58 :: star r.2)
/-- Ranges, written behind what is there. -/
def wroteFrom (out : List UInt8) : List (Int × Int) → List UInt8
  | [] => out
  | r :: rs => wroteFrom (out ++ 44 :: wroteR r) rs
def wrote : List (Int × Int) → List UInt8
  | [] => []
  | r :: rs => wroteFrom (wroteR r) rs
/-- Is n one of them? -/
def meant (g n : Int) : Int := if n = 0 then g else n
def hasR (n g : Int) (r : Int × Int) : Bool := decide (min (meant g r.1) (meant g r.2) ≤ n ∧ n ≤ max (meant g r.1) (meant g r.2))
def hasSet (n g : Int) (l : List (Int × Int)) : Bool := l.any (hasR n g)

/-! Digits that are written are read. -/
theorem digit_of (k : Nat) (h : k < 10) : digit? (UInt8.ofNat (48 + k)) = some k := by
  have : (UInt8.ofNat (48 + k)).toNat = 48 + k := by simp [UInt8.toNat_ofNat']; omega
  unfold digit?
  rw [this, if_pos (by omega)]
  simp
theorem digitsFrom_append (a b : List UInt8) : ∀ acc, digitsFrom acc (a ++ b) = (digitsFrom acc a).bind fun n => digitsFrom n b := by
  induction a with
  | nil => intro acc; rfl
  | cons c r ih =>
    intro acc
    simp only [List.cons_append, digitsFrom]
    cases digit? c with
    | none => rfl
    | some d =>
      simp only [Option.bind_some]
      split
      · exact ih _
      · rfl
theorem digits_back (n : Nat) (h : n ≤ 2147483647) : digitsFrom 0 (Lib.decDigits n) = some n := by
  induction n using Nat.strongRecOn with
  | _ n ih =>
    by_cases h1 : n < 10
    · rw [Lib.decDigits, dif_pos h1]
      simp only [digitsFrom, digit_of n h1, Option.bind_some, Nat.zero_mul, Nat.zero_add]
      rw [if_pos h]
    · rw [Lib.decDigits, dif_neg h1, digitsFrom_append, ih (n / 10) (by omega) (by omega)]
      simp only [Option.bind_some, digitsFrom, digit_of (n % 10) (by omega)]
      rw [show n / 10 * 10 + n % 10 = n by omega, if_pos h]
theorem decDigits_mem (n : Nat) : ∀ c ∈ Lib.decDigits n, 48 ≤ c.toNat ∧ c.toNat ≤ 57 := by
  induction n using Nat.strongRecOn with
  | _ n ih =>
    have hd : ∀ k, k < 10 → (UInt8.ofNat (48 + k)).toNat = 48 + k := fun k hk => by simp [UInt8.toNat_ofNat']; omega
    intro c hc
    by_cases h1 : n < 10
    · rw [Lib.decDigits, dif_pos h1] at hc
      obtain rfl := List.mem_singleton.1 hc
      rw [hd n h1]; omega
    · rw [Lib.decDigits, dif_neg h1] at hc
      rcases List.mem_append.1 hc with h | h
      · exact ih (n / 10) (by omega) c h
      · obtain rfl := List.mem_singleton.1 h
        rw [hd _ (by omega)]; omega
theorem decDigits_ne (n : Nat) : Lib.decDigits n ≠ [] := by
  intro h
  have h1 := Lib.decDigits_length n
  have h2 := Lib.nDigits_pos n
  rw [h] at h1
  simp at h1; omega
theorem decDigits_head (n : Nat) (h : 0 < n) : (Lib.decDigits n).head? ≠ some 48 := by
  induction n using Nat.strongRecOn with
  | _ n ih =>
    by_cases h1 : n < 10
    · rw [Lib.decDigits, dif_pos h1]
      intro e
      have e1 : UInt8.ofNat (48 + n) = 48 := by simpa using e
      have e2 := congrArg UInt8.toNat e1
      rw [show (UInt8.ofNat (48 + n)).toNat = 48 + n by simp [UInt8.toNat_ofNat']; omega] at e2
      have : (48 : UInt8).toNat = 48 := rfl
      omega
    · rw [Lib.decDigits, dif_neg h1]
      have h2 := ih (n / 10) (by omega) (by omega)
      have h3 := decDigits_ne (n / 10)
      cases hd : Lib.decDigits (n / 10) with
      | nil => exact absurd hd h3
      | cons a b => rw [hd] at h2; simpa using h2
theorem star_mem {n : Int} (h0 : 0 ≤ n) : ∀ c ∈ star n, c ≠ 44 ∧ c ≠ 58 := by
  intro c hc
  unfold star at hc
  split at hc
  · obtain rfl := List.mem_singleton.1 hc; decide
  · rw [Lib.itoa, if_neg (by omega)] at hc
    have := decDigits_mem _ c hc
    constructor
    · rintro rfl; have e : (44 : UInt8).toNat = 44 := rfl; omega
    · rintro rfl; have e : (58 : UInt8).toNat = 58 := rfl; omega
theorem star_back {n : Int} (h0 : 0 ≤ n) (h1 : n ≤ 2147483647) : numOf (star n) = some n.toNat := by
  unfold star
  by_cases h : n = 0
  · rw [if_pos h, h]; rfl
  · rw [if_neg h, Lib.itoa, if_neg (by omega)]
    unfold numOf
    have hne : Lib.decDigits n.toNat ≠ [42] := by
      intro e
      have := decDigits_mem n.toNat 42 (by rw [e]; simp)
      have e : (42 : UInt8).toNat = 42 := rfl
      omega
    rw [if_neg hne, if_neg (by rintro (h2 | h2); exact decDigits_ne _ h2; exact decDigits_head _ (by omega) h2), digits_back _ (by omega)]
theorem wroteR_mem {r : Int × Int} (h1 : 0 ≤ r.1) (h2 : 0 ≤ r.2) : (44 : UInt8) ∉ wroteR r := by
  intro h
  unfold wroteR at h
  rcases List.mem_append.1 h with h | h
  · exact (star_mem h1 _ h).1 rfl
  · split at h
    · cases h
    · rcases List.mem_cons.1 h with h | h
      · cases h
      · exact (star_mem h2 _ h).1 rfl
theorem range_back {r : Int × Int} (h1 : 0 ≤ r.1) (h1' : r.1 ≤ 2147483647) (h2 : 0 ≤ r.2) (h2' : r.2 ≤ 2147483647) : rangeOf (wroteR r) = some (r.1.toNat, r.2.toNat) := by
  unfold rangeOf wroteR
  have hn : (58 : UInt8) ∉ star r.1 := fun h => (star_mem h1 _ h).2 rfl
  by_cases h : r.2 = r.1
  · rw [if_pos h, List.append_nil, cutAt_none hn, h]
    simp only [star_back h1 h1', Option.bind_some, if_pos]
  · rw [if_neg h, cutAt_append _ hn]
    simp only [star_back h1 h1', star_back h2 h2', Option.bind_some, Bool.true_eq_false, if_false]
theorem between_append {c : UInt8} : ∀ {a : List UInt8} (b : List UInt8), c ∉ a → between c (a ++ c :: b) = a :: between c b := by
  intro a b h
  have e := cutAt_append b h
  have := (cutAt_hit (c := c) (l := a ++ c :: b) (by rw [e])).2
  rw [e] at this
  exact this
theorem between_none {c : UInt8} {a : List UInt8} (h : c ∉ a) : between c a = [a] := (cutAt_miss (by rw [cutAt_none h])).2.2
/-- What is written behind what is there. -/
theorem wroteFrom_eq : ∀ (l : List (Int × Int)) (out : List UInt8), wroteFrom out l = out ++ l.flatMap fun r => 44 :: wroteR r
  | [], out => by simp [wroteFrom]
  | r :: rs, out => by rw [wroteFrom, wroteFrom_eq rs]; simp
theorem between_wrote : ∀ (l : List (Int × Int)) (r : Int × Int), (∀ x ∈ r :: l, 0 ≤ x.1 ∧ 0 ≤ x.2) → between 44 (wrote (r :: l)) = (r :: l).map wroteR
  | [], r, h => by
    have := h r (by simp)
    rw [wrote, wroteFrom, between_none (wroteR_mem this.1 this.2)]; rfl
  | r2 :: l, r, h => by
    have h1 := h r (by simp)
    have ih := between_wrote l r2 (fun x hx => h x (by simp only [List.mem_cons] at hx ⊢; exact Or.inr hx))
    rw [wrote, wroteFrom_eq] at ih ⊢
    rw [List.flatMap_cons, List.cons_append, between_append _ (wroteR_mem h1.1 h1.2), ih]; rfl
def natR (r : Int × Int) : Nat × Nat := (r.1.toNat, r.2.toNat)
theorem readFrom_wrote : ∀ (l : List (Int × Int)) (acc : List (Nat × Nat)), (∀ x ∈ l, (0 ≤ x.1 ∧ x.1 ≤ 2147483647) ∧ (0 ≤ x.2 ∧ x.2 ≤ 2147483647)) → acc.length + l.length ≤ 20 → readFrom acc (l.map wroteR) = .ok (acc ++ l.map natR)
  | [], acc, _, _ => by simp [readFrom]
  | r :: rs, acc, h, hl => by
    have h1 := h r (by simp)
    simp only [List.length_cons] at hl
    rw [List.map_cons, readFrom, range_back h1.1.1 h1.1.2 h1.2.1 h1.2.2]
    show (if acc.length = 20 then Read.limit else readFrom (acc ++ [(r.1.toNat, r.2.toNat)]) (rs.map wroteR)) = _
    rw [if_neg (by omega), readFrom_wrote rs _ (fun x hx => h x (by simp [hx])) (by simp; omega)]
    simp [natR]
theorem rightR_iff (l : List (Int × Int)) : rightR l = true ↔ (1 ≤ l.length ∧ l.length ≤ 20) ∧ ∀ x ∈ l, (0 ≤ x.1 ∧ x.1 ≤ 2147483647) ∧ (0 ≤ x.2 ∧ x.2 ≤ 2147483647) := by
  simp only [rightR, Bool.and_eq_true, decide_eq_true_eq, List.all_eq_true]
/-- WHAT A SET IS WRITTEN AS IS THAT SET. -/
theorem read_wrote (l : List (Int × Int)) (h : rightR l = true) : readSet (wrote l) = .ok (l.map natR) := by
  obtain ⟨⟨h1, h2⟩, h3⟩ := (rightR_iff l).1 h
  cases l with
  | nil => simp at h1
  | cons r rs =>
    unfold readSet
    rw [between_wrote rs r (fun x hx => ⟨(h3 x hx).1.1, (h3 x hx).2.1⟩), readFrom_wrote _ _ h3 (by simpa using h2)]
    rfl
theorem nDigits_le {n : Nat} (h : n ≤ 2147483647) : (Lib.decDigits n).length ≤ 10 := by
  rw [Lib.decDigits_length]
  by_cases h0 : n < 10 ^ 9
  · have : ∀ k n, n < 10 ^ k → 1 ≤ k → Lib.nDigits n ≤ k := by
      intro k
      induction k with
      | zero => intro n _ hk; omega
      | succ k ih =>
        intro n hn _
        by_cases h1 : n < 10
        · rw [Lib.nDigits_small h1]; omega
        · rw [Lib.nDigits_big h1]
          rw [Nat.pow_succ] at hn
          by_cases hk : k = 0
          · subst hk; simp at hn; omega
          · have := ih (n / 10) (by omega) (by omega)
            omega
    have := this 9 n h0 (by decide)
    omega
  · exact Nat.le_of_eq (Lib.nDigits_unique 9 n (by omega) (by omega))
theorem star_length {n : Int} (h0 : 0 ≤ n) (h1 : n ≤ 2147483647) : (star n).length ≤ 10 := by
  unfold star
  split
  · simp
  · rw [Lib.itoa, if_neg (by omega)]; exact nDigits_le (by omega)

/-! The least set of some numbers. -/
def ofRun (f t : Int) : List Int → List (Int × Int)
  | [] => [(f, t)]
  | n :: r => if n - 1 = t then ofRun f n r else (f, t) :: ofRun n n r
def ofL : List Int → List (Int × Int)
  | [] => []
  | n :: r => ofRun n n r
/-- Rising, from behind a number on. -/
def rising (b : Int) : List Int → Bool
  | [] => true
  | n :: r => decide (b < n) && rising n r
theorem rising_mem : ∀ {l : List Int} {b : Int}, rising b l = true → ∀ n ∈ l, b < n
  | [], _, _, n, hn => by cases hn
  | m :: r, b, h, n, hn => by
    simp only [rising, Bool.and_eq_true, decide_eq_true_eq] at h
    rcases List.mem_cons.1 hn with rfl | h1
    · exact h.1
    · have := rising_mem h.2 n h1; omega
theorem hasR_one {k g f t : Int} (h1 : 1 ≤ f) (h2 : f ≤ t) : hasR k g (f, t) = decide (f ≤ k ∧ k ≤ t) := by
  have e1 : meant g f = f := if_neg (by omega)
  have e2 : meant g t = t := if_neg (by omega)
  unfold hasR
  rw [e1, e2]
  congr 1
  apply propext
  constructor <;> intro h <;> omega
theorem has_ofRun (k g : Int) : ∀ (r : List Int) (f t : Int), 1 ≤ f → f ≤ t → rising t r = true → (hasSet k g (ofRun f t r) = true ↔ (f ≤ k ∧ k ≤ t) ∨ k ∈ r)
  | [], f, t, h1, h2, _ => by simp [ofRun, hasSet, hasR_one h1 h2]
  | n :: r, f, t, h1, h2, h => by
    simp only [rising, Bool.and_eq_true, decide_eq_true_eq] at h
    rw [ofRun]
    by_cases hn : n - 1 = t
    · rw [if_pos hn, has_ofRun k g r f n h1 (by omega) h.2]
      simp only [List.mem_cons]
      constructor
      · rintro (h3 | h3)
        · by_cases h4 : k ≤ t
          · exact Or.inl ⟨h3.1, h4⟩
          · exact Or.inr (Or.inl (by omega))
        · exact Or.inr (Or.inr h3)
      · rintro (h3 | h3 | h3)
        · exact Or.inl (by omega)
        · exact Or.inl (by omega)
        · exact Or.inr h3
    · rw [if_neg hn]
      have ih := has_ofRun k g r n n (by omega) (Int.le_refl _) h.2
      unfold hasSet at ih ⊢
      rw [List.any_cons, Bool.or_eq_true, ih, hasR_one h1 h2]
      simp only [decide_eq_true_eq, List.mem_cons]
      constructor
      · rintro (h3 | h3 | h3)
        · exact Or.inl h3
        · exact Or.inr (Or.inl (by omega))
        · exact Or.inr (Or.inr h3)
      · rintro (h3 | h3 | h3)
        · exact Or.inl h3
        · exact Or.inr (Or.inl (by omega))
        · exact Or.inr (Or.inr h3)
/-- OF A SET OF NUMBERS JUST THESE ARE ONE OF IT. -/
theorem has_ofL (k g : Int) (l : List Int) (h : rising 0 l = true) : hasSet k g (ofL l) = true ↔ k ∈ l := by
  cases l with
  | nil => simp [ofL, hasSet]
  | cons n r =>
    simp only [rising, Bool.and_eq_true, decide_eq_true_eq] at h
    rw [ofL, has_ofRun k g r n n (by omega) (Int.le_refl _) h.2]
    simp only [List.mem_cons]
    constructor
    · rintro (h3 | h3)
      · exact Or.inl (by omega)
      · exact Or.inr h3
    · rintro (h3 | h3)
      · exact Or.inl (by omega)
      · exact Or.inr h3
theorem ofRun_length : ∀ (r : List Int) (f t : Int), (ofRun f t r).length ≤ r.length + 1
  | [], _, _ => by simp [ofRun]
  | n :: r, f, t => by
    rw [ofRun]
    split
    · have := ofRun_length r f n; simp only [List.length_cons]; omega
    · have := ofRun_length r n n; simp only [List.length_cons]; omega
theorem ofL_length (l : List Int) : (ofL l).length ≤ l.length := by
  cases l with
  | nil => simp [ofL]
  | cons n r => have := ofRun_length r n n; rw [ofL]; simp only [List.length_cons]; omega
theorem hasSet_append (n g : Int) (a b : List (Int × Int)) : hasSet n g (a ++ b) = (hasSet n g a || hasSet n g b) := by simp [hasSet]
end Go.Proofs.Sq
namespace Go.Proofs.Hd
open Go.Proofs.Sq

abbrev Tx := List UInt8
/-- A letter of A to Z as a small one; of a to z as a great one. -/
def sm (c : UInt8) : UInt8 := if 65 ≤ c.toNat ∧ c.toNat ≤ 90 then c + 32 else c
def gr (c : UInt8) : UInt8 := if 97 ≤ c.toNat ∧ c.toNat ≤ 122 then c - 32 else c
def small (s : Tx) : Tx := s.map sm
def great (s : Tx) : Tx := s.map gr
theorem sm_gr (c : UInt8) : sm (gr c) = sm c := by
  have h : ∀ n : Fin 256, sm (gr (UInt8.ofNat n.val)) = sm (UInt8.ofNat n.val) := by decide +kernel
  have := h ⟨c.toNat, c.toNat_lt⟩
  simpa using this
theorem gr_sm (c : UInt8) : gr (sm c) = gr c := by
  have h : ∀ n : Fin 256, gr (sm (UInt8.ofNat n.val)) = gr (UInt8.ofNat n.val) := by decide +kernel
  have := h ⟨c.toNat, c.toNat_lt⟩
  simpa using this
theorem sm_sm (c : UInt8) : sm (sm c) = sm c := by
  have h : ∀ n : Fin 256, sm (sm (UInt8.ofNat n.val)) = sm (UInt8.ofNat n.val) := by decide +kernel
  have := h ⟨c.toNat, c.toNat_lt⟩
  simpa using this
theorem small_great (s : Tx) : small (great s) = small s := by
  unfold small great; rw [List.map_map]; exact List.map_congr_left fun c _ => sm_gr c
theorem great_small (s : Tx) : great (small s) = great s := by
  unfold small great; rw [List.map_map]; exact List.map_congr_left fun c _ => gr_sm c
theorem small_small (s : Tx) : small (small s) = small s := by
  unfold small; rw [List.map_map]; exact List.map_congr_left fun c _ => sm_sm c
theorem small_length (s : Tx) : (small s).length = s.length := List.length_map ..
theorem great_length (s : Tx) : (great s).length = s.length := List.length_map ..

/-- How long the head is; b: a line begins here. -/
def headLen : Bool → Tx → Nat
  | _, [] => 0
  | _, [_] => 1
  | b, c :: d :: r => if c = 13 ∧ d = 10 then (if b then 2 else 2 + headLen true r) else 1 + headLen false (d :: r)
/-- What stands between the CR LFs. -/
def pieces : Tx → List Tx
  | [] => [[]]
  | [c] => [[c]]
  | c :: d :: r => if c = 13 ∧ d = 10 then [] :: pieces r else (c :: (pieces (d :: r)).headD []) :: (pieces (d :: r)).tail
theorem headLen_le : ∀ (b : Bool) (s : Tx), headLen b s ≤ s.length
  | _, [] => by simp [headLen]
  | _, [_] => by simp [headLen]
  | b, c :: d :: r => by
    have h1 := headLen_le true r
    have h2 := headLen_le false (d :: r)
    rw [headLen]
    simp only [List.length_cons] at h2 ⊢
    split
    · split <;> omega
    · omega
theorem pieces_ne : ∀ (s : Tx), pieces s ≠ []
  | [] => by simp [pieces]
  | [c] => by simp [pieces]
  | c :: d :: r => by rw [pieces]; split <;> simp
theorem index_cons (b : UInt8) (r sub : Tx) : Lib.index (b :: r) sub = if sub.isPrefixOf (b :: r) then 0 else if Lib.index r sub = -1 then -1 else Lib.index r sub + 1 := by
  rw [Lib.index]
  split
  · rfl
  · simp only [beq_iff_eq]
/-- A head ends behind the first empty line. -/
theorem headLen_false : ∀ (s : Tx), headLen false s = if 0 ≤ Lib.index s [13, 10, 13, 10] then (Lib.index s [13, 10, 13, 10]).toNat + 4 else s.length
  | [] => by simp [headLen, Lib.index]
  | [c] => by simp [headLen, Lib.index, List.isPrefixOf]
  | c :: d :: r => by
    have ih := headLen_false (d :: r)
    have ih2 := headLen_false r
    have hg := Lib.index_ge r [13, 10, 13, 10]
    have hg2 := Lib.index_ge (d :: r) [13, 10, 13, 10]
    rw [headLen]
    by_cases h : c = 13 ∧ d = 10
    · obtain ⟨rfl, rfl⟩ := h
      rw [if_pos ⟨rfl, rfl⟩, if_neg (by simp)]
      match r, ih2 with
      | [], _ => simp [headLen, Lib.index, List.isPrefixOf]
      | [e], _ => simp [headLen, Lib.index, List.isPrefixOf]
      | e :: f :: q, ih2 =>
        by_cases h2 : e = 13 ∧ f = 10
        · obtain ⟨rfl, rfl⟩ := h2
          rw [headLen, if_pos ⟨rfl, rfl⟩, if_pos rfl]
          have e0 : Lib.index (13 :: 10 :: 13 :: 10 :: q) [13, 10, 13, 10] = 0 := by rw [index_cons, if_pos (by simp [List.isPrefixOf])]
          rw [e0]
          rfl
        · have e1 : headLen true (e :: f :: q) = headLen false (e :: f :: q) := by rw [headLen, headLen, if_neg h2, if_neg h2]
          have n0 : ([13, 10, 13, 10] : Tx).isPrefixOf (13 :: 10 :: e :: f :: q) = false := by
            cases hp : ([13, 10, 13, 10] : Tx).isPrefixOf (13 :: 10 :: e :: f :: q) with
            | false => rfl
            | true =>
              simp [List.isPrefixOf] at hp
              exact absurd ⟨hp.1.symm, hp.2.symm⟩ h2
          have n1 : ([13, 10, 13, 10] : Tx).isPrefixOf (10 :: e :: f :: q) = false := by simp [List.isPrefixOf]
          rw [e1, ih2, index_cons 13 (10 :: e :: f :: q), n0, index_cons 10 (e :: f :: q), n1]
          simp only [Bool.false_eq_true, if_false]
          generalize Lib.index (e :: f :: q) [13, 10, 13, 10] = z at hg
          by_cases hz : z = -1
          · subst hz; simp; omega
          · have : ¬ z + 1 = -1 := by omega
            rw [if_neg hz, if_neg this, if_pos (by omega), if_pos (by omega)]
            omega
    · rw [if_neg h, ih, index_cons c (d :: r)]
      have n0 : ([13, 10, 13, 10] : Tx).isPrefixOf (c :: d :: r) = false := by
        cases hp : ([13, 10, 13, 10] : Tx).isPrefixOf (c :: d :: r) with
        | false => rfl
        | true =>
          simp [List.isPrefixOf] at hp
          exact absurd ⟨hp.1.symm, hp.2.1.symm⟩ h
      rw [n0]
      simp only [Bool.false_eq_true, if_false]
      generalize Lib.index (d :: r) [13, 10, 13, 10] = z at hg2
      by_cases hz : z = -1
      · subst hz; simp; omega
      · rw [if_neg hz, if_pos (by omega), if_pos (by omega)]
        omega
theorem headLen_true (s : Tx) : headLen true s = if ([13, 10] : Tx).isPrefixOf s then 2 else if 0 ≤ Lib.index s [13, 10, 13, 10] then (Lib.index s [13, 10, 13, 10]).toNat + 4 else s.length := by
  rw [← headLen_false]
  match s with
  | [] => rfl
  | [c] => simp [headLen, List.isPrefixOf]
  | c :: d :: r =>
    by_cases h : c = 13 ∧ d = 10
    · obtain ⟨rfl, rfl⟩ := h
      simp [headLen, List.isPrefixOf]
    · have : ([13, 10] : Tx).isPrefixOf (c :: d :: r) = false := by
        cases hp : ([13, 10] : Tx).isPrefixOf (c :: d :: r) with
        | false => rfl
        | true =>
          simp [List.isPrefixOf] at hp
          exact absurd ⟨hp.1.symm, hp.2.symm⟩ h
      rw [this, headLen, headLen, if_neg h, if_neg h]
      simp
/-- A line, and what stands behind it. -/
theorem headLen_line {p : Tx} (hp : 13 ∉ p) (hne : p ≠ []) (rest : Tx) : headLen true (p ++ 13 :: 10 :: rest) = p.length + 2 + headLen true rest := by
  have hb : ∀ (q : Tx) (b : Bool), 13 ∉ q → headLen false (q ++ 13 :: 10 :: rest) = q.length + 2 + headLen true rest := by
    intro q
    induction q with
    | nil => intro b _; simp [headLen]
    | cons c q ih =>
      intro b hq
      have hc : c ≠ 13 := fun h => hq (by simp [h])
      have h2 := ih b (fun h => hq (List.mem_cons_of_mem _ h))
      have e : headLen false (c :: (q ++ 13 :: 10 :: rest)) = 1 + headLen false (q ++ 13 :: 10 :: rest) := by
        cases hx : q ++ 13 :: 10 :: rest with
        | nil => simp at hx
        | cons d r => rw [headLen, if_neg (fun h => hc h.1)]
      rw [List.cons_append, e, h2, List.length_cons]
      omega
  cases p with
  | nil => exact absurd rfl hne
  | cons c q =>
    have hc : c ≠ 13 := fun h => hp (by simp [h])
    have e : headLen true (c :: (q ++ 13 :: 10 :: rest)) = headLen false (c :: (q ++ 13 :: 10 :: rest)) := by
      cases hx : q ++ 13 :: 10 :: rest with
      | nil => simp at hx
      | cons d r => rw [headLen, headLen, if_neg (fun h => hc h.1), if_neg (fun h => hc h.1)]
    rw [List.cons_append, e, ← List.cons_append, hb _ true hp]
theorem pieces_line {p : Tx} (hp : 13 ∉ p) (rest : Tx) : pieces (p ++ 13 :: 10 :: rest) = p :: pieces rest := by
  induction p with
  | nil => simp [pieces]
  | cons c q ih =>
    have hc : c ≠ 13 := fun h => hp (by simp [h])
    have h2 := ih (fun h => hp (List.mem_cons_of_mem _ h))
    rw [List.cons_append]
    cases hx : q ++ 13 :: 10 :: rest with
    | nil => simp at hx
    | cons d r =>
      rw [pieces, if_neg (fun h => hc h.1), ← hx, h2]
      rfl
/-- A text's pieces by its first CR LF. -/
theorem pieces_index : ∀ (s : Tx), pieces s = if Lib.index s [13, 10] = -1 then [s] else s.take (Lib.index s [13, 10]).toNat :: pieces (s.drop ((Lib.index s [13, 10]).toNat + 2))
  | [] => by simp [pieces, Lib.index]
  | [c] => by simp [pieces, Lib.index, List.isPrefixOf]
  | c :: d :: r => by
    have ih := pieces_index (d :: r)
    have hg := Lib.index_ge (d :: r) [13, 10]
    rw [pieces]
    by_cases h : c = 13 ∧ d = 10
    · obtain ⟨rfl, rfl⟩ := h
      have e0 : Lib.index (13 :: 10 :: r) [13, 10] = 0 := by rw [index_cons, if_pos (by simp [List.isPrefixOf])]
      rw [if_pos ⟨rfl, rfl⟩, e0]
      simp
    · have n0 : ([13, 10] : Tx).isPrefixOf (c :: d :: r) = false := by
        cases hp : ([13, 10] : Tx).isPrefixOf (c :: d :: r) with
        | false => rfl
        | true =>
          simp [List.isPrefixOf] at hp
          exact absurd ⟨hp.1.symm, hp.2.symm⟩ h
      rw [if_neg h, ih, index_cons c (d :: r), n0]
      simp only [Bool.false_eq_true, if_false]
      generalize Lib.index (d :: r) [13, 10] = z at hg
      by_cases hz : z = -1
      · subst hz; simp
      · have hz1 : ¬ z + 1 = -1 := by omega
        rw [if_neg hz, if_neg hz, if_neg hz1]
        have e : (z + 1).toNat = z.toNat + 1 := by omega
        rw [e]
        simp
theorem splitK_pieces : ∀ (k : Nat) (s : Tx), (pieces s).length ≤ k + 1 → Lib.splitK [13, 10] 0 k s = pieces s
  | 0, s, h => by
    rw [pieces_index] at h ⊢
    split at h
    · next h1 => rw [if_pos h1]; rfl
    · next h1 =>
      have := List.length_pos_iff.2 (pieces_ne (s.drop ((Lib.index s [13, 10]).toNat + 2)))
      simp only [List.length_cons] at h
      omega
  | k + 1, s, h => by
    rw [pieces_index] at h ⊢
    rw [Lib.splitK]
    by_cases h1 : Lib.index s [13, 10] = -1
    · rw [if_pos h1, if_pos (beq_iff_eq.2 h1)]
    · rw [if_neg h1] at h ⊢
      rw [if_neg (fun e => h1 (beq_iff_eq.1 e)), splitK_pieces k _ (by simp only [List.length_cons] at h; exact Nat.le_of_succ_le_succ h)]
      rfl
theorem pieces_length : ∀ (s : Tx), ∀ p ∈ pieces s, p.length ≤ s.length
  | [], p, h => by simp [pieces] at h; simp [h]
  | [c], p, h => by simp [pieces] at h; simp [h]
  | c :: d :: r, p, h => by
    have h1 := pieces_length r
    have h2 := pieces_length (d :: r)
    rw [pieces] at h
    split at h
    · rcases List.mem_cons.1 h with rfl | h
      · simp
      · have := h1 p h; simp only [List.length_cons]; omega
    · rcases List.mem_cons.1 h with rfl | h
      · cases hb : pieces (d :: r) with
        | nil => exact absurd hb (pieces_ne _)
        | cons q qs =>
          have := h2 q (by rw [hb]; exact List.mem_cons_self)
          simp only [List.headD_cons, List.length_cons] at this ⊢; omega
      · have := h2 p (List.mem_of_mem_tail h); simp only [List.length_cons] at this ⊢; omega
theorem pieces_count : ∀ (k : Nat) (s : Tx), s.length < k → (pieces s).length = Lib.countFrom [13, 10] k s + 1
  | 0, s, h => absurd h (Nat.not_lt_zero _)
  | k + 1, s, h => by
    rw [pieces_index, Lib.countFrom]
    by_cases h1 : Lib.index s [13, 10] = -1
    · rw [if_pos h1, if_pos (beq_iff_eq.2 h1)]; rfl
    · have hr := Lib.index_room s [13, 10] (by have := Lib.index_ge s [13, 10]; omega)
      have hg := Lib.index_ge s [13, 10]
      have h2 : ([13, 10] : Tx).length = 2 := rfl
      rw [h2] at hr
      have ih := pieces_count k (s.drop ((Lib.index s [13, 10]).toNat + 2)) (by rw [List.length_drop]; omega)
      rw [if_neg h1, if_neg (fun e => h1 (beq_iff_eq.1 e)), List.length_cons, ih]
      show _ = 1 + Lib.countFrom [13, 10] k (s.drop ((Lib.index s [13, 10]).toNat + 2)) + 1
      omega
theorem split_pieces (s : ByteArray) : (Lib.splitB ⟨#[13, 10]⟩ 0 (Lib.countB s ⟨#[13, 10]⟩) s).map (·.data.toList) = pieces s.data.toList := by
  rw [Lib.splitB_data]
  refine splitK_pieces _ _ ?_
  have : Lib.countB s ⟨#[13, 10]⟩ = Lib.count s.data.toList [13, 10] := rfl
  rw [this, Lib.count, pieces_count _ _ (Nat.lt_succ_self _)]
  exact Nat.le_refl _
end Go.Proofs.Hd
