/-
  How a box is called is called so, and more.
-/
import Derived.Test.YtdmplfflmdanlaaGreatDoorMHsName
import Derived.Sort.Walk0
import Derived.Sort.Statements
import Derived.Lib.SlicesCompact
namespace Go.Proofs.YtdmplfflmdanlaaGreatDoor
open Go.RowKit Go.Proofs.Aid Go.Proofs.Sq Go.Proofs.Hd

theorem between_no (c : UInt8) : ∀ (s : List UInt8) (p : List UInt8), p ∈ between c s → c ∉ p
  | [], p, h => by
    rw [between, List.mem_singleton] at h
    rw [h]
    exact List.not_mem_nil
  | b :: r, p, h => by
    have ih := between_no c r
    rw [between] at h
    split at h
    · rcases List.mem_cons.1 h with rfl | h
      · exact List.not_mem_nil
      · exact ih p h
    · rename_i hb
      obtain ⟨x, xs, hx⟩ := List.exists_cons_of_ne_nil (between_ne c r)
      rw [hx, List.headD_cons, List.tail_cons] at h
      rcases List.mem_cons.1 h with rfl | h
      · intro hm
        rcases List.mem_cons.1 hm with hm | hm
        · exact hb hm.symm
        · exact ih x (by rw [hx]; exact List.mem_cons_self) hm
      · exact ih p (by rw [hx]; exact List.mem_cons_of_mem _ h)
theorem between_join (c : UInt8) : ∀ (tl : List (List UInt8)) (x : List UInt8), (∀ p ∈ x :: tl, c ∉ p) → between c (Lib.join (x :: tl) [c]) = x :: tl
  | [], x, h => by
    rw [Lib.join_one]
    exact between_none (h x List.mem_cons_self)
  | y :: ys, x, h => by
    have ih := between_join c ys y fun p hp => h p (List.mem_cons_of_mem _ hp)
    rw [Lib.join_cons] at ih ⊢
    show between c (x ++ (([c] ++ y) ++ Lib.joinTail [c] ys)) = _
    rw [show x ++ (([c] ++ y) ++ Lib.joinTail [c] ys) = x ++ c :: (y ++ Lib.joinTail [c] ys) by simp, between_append _ (h x List.mem_cons_self), ih]
theorem gr_low : ∀ b : UInt8, (gr b).toNat < 128 → b.toNat < 128 := by
  have h : ∀ n : Fin 256, (gr (UInt8.ofNat n.val)).toNat < 128 → (UInt8.ofNat n.val).toNat < 128 := by decide +kernel
  intro b hb
  have := h ⟨b.toNat, b.toNat_lt⟩
  simp only [UInt8.ofNat_toNat] at this
  exact this hb
theorem runes_cons (b : UInt8) (t : List UInt8) (h : b.toNat < 128) : Ut.runes (b :: t) = b.toNat :: Ut.runes t := by
  rw [Ut.runes_step _ (by simp), Lib.decodeL_ascii b t h]
  rfl
theorem right_swap {a R : List UInt8} (b : List UInt8) (hl : a.length = b.length) (ha : ∀ c ∈ a, c.toNat < 128) (hb : ∀ c ∈ b, c.toNat < 128 ∧ Ut.okRune c.toNat = true) (h : Ut.rightB (a ++ R) = true) : Ut.rightB (b ++ R) = true := by
  have strip : ∀ (x : List UInt8), (∀ c ∈ x, c.toNat < 128) → Lib.validD (x ++ R) = Lib.validD R ∧ Ut.runes (x ++ R) = x.map UInt8.toNat ++ Ut.runes R := by
    intro x
    induction x with
    | nil => intro _; exact ⟨rfl, rfl⟩
    | cons c x ih =>
      intro hx
      obtain ⟨h1, h2⟩ := ih fun d hd => hx d (List.mem_cons_of_mem _ hd)
      have hc := hx c List.mem_cons_self
      rw [List.cons_append, Lib.validD_cons c _ hc, runes_cons c _ hc, h1, h2]
      exact ⟨rfl, rfl⟩
  obtain ⟨a1, a2⟩ := strip a ha
  obtain ⟨b1, b2⟩ := strip b fun c hc => (hb c hc).1
  unfold Ut.rightB at h ⊢
  rw [a1, a2, List.length_append, List.all_append] at h
  rw [b1, b2, List.length_append, List.all_append, ← hl]
  simp only [Bool.and_eq_true] at h ⊢
  refine ⟨h.1, ?_, h.2.2⟩
  rw [List.all_map, List.all_eq_true]
  exact fun c hc => (hb c hc).2
theorem nameB_idem {s n : Nm} (h : nameB s = some n) : nameB n = some n := by
  have h0 := h
  unfold nameB at h
  split at h
  · rename_i hc
    obtain rfl := Option.some.inj h
    obtain ⟨c1, c2, c3⟩ := hc
    obtain ⟨p0, tl, hx⟩ := List.exists_cons_of_ne_nil (between_ne 47 s)
    have hj := join_between 47 s
    rw [hx] at hj c3
    rw [hx, List.headD_cons, List.tail_cons] at h0 ⊢
    by_cases hin : great p0 = inboxN
    · have hh : nmHead p0 = inboxN := by unfold nmHead; rw [if_pos hin]
      rw [hh]
      rw [Lib.join_cons] at hj
      have hlen : p0.length = inboxN.length := by
        have := congrArg List.length hin
        unfold great at this
        rw [List.length_map] at this
        exact this
      have hlow : ∀ c ∈ p0, c.toNat < 128 := fun c hc => by
        have hm : gr c ∈ inboxN := by rw [← hin]; exact List.mem_map_of_mem hc
        refine gr_low c ?_
        have : ∀ d ∈ inboxN, d.toNat < 128 := by decide
        exact this _ hm
      have hR : Ut.rightB (inboxN ++ Lib.joinTail [47] tl) = true := right_swap inboxN hlen hlow (by decide) (by rw [hj]; exact c1)
      have hA : ((inboxN ++ Lib.joinTail [47] tl).any fun c => ([37, 42] : List UInt8).contains c) = false := by
        rw [← hj, List.any_append] at c2
        rw [List.any_append]
        have := (Bool.or_eq_false_iff.1 c2).2
        rw [this]
        decide
      have hno : ∀ p ∈ inboxN :: tl, (47 : UInt8) ∉ p := fun p hp => by
        rcases List.mem_cons.1 hp with rfl | hp
        · decide
        · exact between_no 47 s p (by rw [hx]; exact List.mem_cons_of_mem _ hp)
      have hB := between_join 47 tl inboxN hno
      have hne : [] ∉ inboxN :: tl := fun hm => by
        rcases List.mem_cons.1 hm with hm | hm
        · cases hm
        · exact c3 (List.mem_cons_of_mem _ hm)
      unfold nameB
      rw [hB]
      rw [Lib.join_cons] at *
      rw [if_pos ⟨hR, hA, hne⟩, List.headD_cons, List.tail_cons, show nmHead inboxN = inboxN by decide, Lib.join_cons]
    · have hh : nmHead p0 = p0 := by unfold nmHead; rw [if_neg hin]
      rw [hh, hj] at h0 ⊢
      exact h0
  · cases h
end Go.Proofs.YtdmplfflmdanlaaGreatDoor
namespace Go.Proofs.Bx
abbrev Tx := List UInt8

/-- A message: its number, flags, day, text. -/
structure Lt where
  uid : Int
  flags : List Tx
  day : Int
  text : Tx
/-- Numbers rise. -/
def Rise (l : List Lt) : Prop := l.Pairwise fun a b => a.uid < b.uid
end Go.Proofs.Bx
namespace Go.Proofs.Fl
open Go.Sort

abbrev Tx := List UInt8
/-- A letter of A to Z as a small one. -/
def sm (c : UInt8) : UInt8 := if 65 ≤ c.toNat ∧ c.toNat ≤ 90 then c + 32 else c
/-- The system's flags, in their order. -/
def five : List Tx := [[92, 83, 101, 101, 110], [92, 65, 110, 115, 119, 101, 114, 101, 100], [92, 70, 108, 97, 103, 103, 101, 100], [92, 68, 101, 108, 101, 116, 101, 100], [92, 68, 114, 97, 102, 116]]
def sameL (a b : Tx) : Bool := decide (a.map sm = b.map sm)
def kw (c : UInt8) : Bool := decide (97 ≤ (sm c).toNat ∧ (sm c).toNat ≤ 122) || decide (48 ≤ c.toNat ∧ c.toNat ≤ 57) || c == 95 || c == 36
/-- What a flag is called, and the error's number (0: none). -/
def fname (s : Tx) : Tx × Int :=
  if s.head? = some 92 then
    match five.find? (sameL s) with
    | some n => (n, 0)
    | none => ([], 3)
  else if s = [] ∨ s.all kw = false then ([], 3)
  else if 20 < s.length then ([], 4)
  else (s, 0)
def rank (s : Tx) : Nat := five.idxOf s
def flt (a b : Tx) : Bool := decide (rank a < rank b) || (decide (rank a = rank b) && decide (a < b))
def cf (a b : Tx) : Int := if rank a < rank b then -1 else if rank b < rank a then 1 else if a < b then -1 else if b < a then 1 else 0

def ltc (a b : Tx) : Bool := decide (cf a b < 0)
theorem tx_irrefl (a : Tx) : ¬ a < a := List.lt_irrefl a
theorem tx_trans {a b c : Tx} (h : a < b) (k : b < c) : a < c := List.lt_trans h k
theorem tx_total {a b : Tx} (h : ¬ a < b) (k : ¬ b < a) : a = b := List.le_antisymm (List.not_lt.1 k) (List.not_lt.1 h)
theorem cf_neg (a b : Tx) : ltc a b = flt a b := by
  unfold ltc cf flt
  by_cases h1 : rank a < rank b
  · simp [h1]
  · by_cases h2 : rank b < rank a
    · have : ¬ rank a = rank b := by omega
      simp [h1, h2, this]
    · have h3 : rank a = rank b := by omega
      by_cases h4 : a < b
      · simp [h3, h4]
      · by_cases h5 : b < a <;> simp [h3, h4, h5]
theorem cf_zero (a b : Tx) : cf a b = 0 ↔ a = b := by
  unfold cf
  constructor
  · intro h
    by_cases h1 : rank a < rank b
    · simp [h1] at h
    · by_cases h2 : rank b < rank a
      · simp [h1, h2] at h
      · by_cases h4 : a < b
        · simp [h1, h2, h4] at h
        · by_cases h5 : b < a
          · simp [h1, h2, h4, h5] at h
          · exact tx_total h4 h5
  · rintro rfl
    simp [tx_irrefl]
theorem flt_irrefl (a : Tx) : flt a a = false := by simp [flt, tx_irrefl]
theorem flt_trans {a b c : Tx} (h : flt a b = true) (k : flt b c = true) : flt a c = true := by
  unfold flt at *
  simp only [Bool.or_eq_true, Bool.and_eq_true, decide_eq_true_eq] at *
  rcases h with h | ⟨h, h'⟩ <;> rcases k with k | ⟨k, k'⟩
  · exact Or.inl (by omega)
  · exact Or.inl (by omega)
  · exact Or.inl (by omega)
  · exact Or.inr ⟨by omega, tx_trans h' k'⟩
theorem flt_total {a b : Tx} (h : flt a b = false) (k : flt b a = false) : a = b := by
  unfold flt at *
  simp only [Bool.or_eq_false_iff, Bool.and_eq_false_iff, decide_eq_false_iff_not] at *
  obtain ⟨h1, h2⟩ := h
  obtain ⟨k1, k2⟩ := k
  have hr : rank a = rank b := by omega
  exact tx_total (by rcases h2 with h | h; exact absurd hr h; exact h) (by rcases k2 with h | h; exact absurd hr.symm h; exact h)
theorem swo : SWO ltc where
  irrefl x := by rw [cf_neg]; exact flt_irrefl x
  trans x y z h1 h2 := by rw [cf_neg] at *; exact flt_trans h1 h2
  ntrans x y z h1 h2 := by
    rw [cf_neg] at *
    cases hxz : flt x z with
    | false => rfl
    | true =>
      cases hyx : flt y x with
      | true => have := flt_trans hyx hxz; rw [h2] at this; cases this
      | false =>
        have := flt_total h1 hyx
        subst this
        rw [h2] at hxz; cases hxz
theorem tot (x y : Tx) (h1 : ltc x y = false) (h2 : ltc y x = false) : x = y := by rw [cf_neg] at *; exact flt_total h1 h2
/-- In order, each once. -/
def Ord (l : List Tx) : Prop := l.Pairwise fun a b => flt a b = true
theorem ord_eq : ∀ {a b : List Tx}, Ord a → Ord b → (∀ x, x ∈ a ↔ x ∈ b) → a = b
  | [], [], _, _, _ => rfl
  | [], y :: b, _, _, h => absurd ((h y).2 (by simp)) (by simp)
  | x :: a, [], _, _, h => absurd ((h x).1 (by simp)) (by simp)
  | x :: a, y :: b, ha, hb, h => by
    unfold Ord at ha hb
    rw [List.pairwise_cons] at ha hb
    have hxy : x = y := by
      rcases List.mem_cons.1 ((h x).1 (by simp)) with e | e
      · exact e
      · rcases List.mem_cons.1 ((h y).2 (by simp)) with e' | e'
        · exact e'.symm
        · have h1 := hb.1 x e
          have h2 := ha.1 y e'
          have := flt_trans h1 h2
          rw [flt_irrefl] at this; cases this
    subst hxy
    rw [ord_eq ha.2 hb.2 fun z => ?_]
    constructor
    · intro hz
      rcases List.mem_cons.1 ((h z).1 (by simp [hz])) with e | e
      · subst e; have := ha.1 z hz; rw [flt_irrefl] at this; cases this
      · exact e
    · intro hz
      rcases List.mem_cons.1 ((h z).2 (by simp [hz])) with e | e
      · subst e; have := hb.1 z hz; rw [flt_irrefl] at this; cases this
      · exact e
def sorted (l : List Tx) : List Tx := l.mergeSort fun x y => !ltc y x
def order (l : List Tx) : List Tx := Lib.compact (sorted l)
theorem sorted_length (l : List Tx) : (sorted l).length = l.length := by simp [sorted, List.length_mergeSort]
theorem sorted_mem (l : List Tx) (z : Tx) : z ∈ sorted l ↔ z ∈ l := List.mem_mergeSort
theorem sorted_pair (l : List Tx) : (sorted l).Pairwise fun a b => flt b a = false := by
  have h := List.pairwise_mergeSort (le := fun x y : Tx => !ltc y x) (fun a b c h1 h2 => by
    simp only [Bool.not_eq_true', cf_neg] at h1 h2 ⊢
    have := swo.ntrans c b a (by rw [cf_neg]; exact h2) (by rw [cf_neg]; exact h1)
    rw [cf_neg] at this; exact this) (fun a b => by
    simp only [cf_neg, Bool.or_eq_true, Bool.not_eq_true']
    cases h : flt b a with
    | false => exact Or.inl rfl
    | true =>
      cases h2 : flt a b with
      | false => exact Or.inr rfl
      | true => have := flt_trans h h2; rw [flt_irrefl] at this; cases this) l
  exact h.imp (fun h => by simpa [cf_neg] using h)
theorem compact_mem_iff (zs : List Tx) (z : Tx) : z ∈ Lib.compact zs ↔ z ∈ zs := by
  unfold Lib.compact Lib.compactUpTo
  rw [List.mem_map]
  constructor
  · rintro ⟨j, hj, rfl⟩
    rw [List.mem_filter, List.mem_range] at hj
    simp only [List.getElem!_toArray]
    rw [getElem!_pos zs j hj.1]
    exact List.getElem_mem _
  · intro hz
    obtain ⟨i, hi, rfl⟩ := List.getElem_of_mem hz
    -- the least place with that value in a run
    have : ∀ (i : Nat) (hi : i < zs.length), ∃ j, j ∈ (List.range zs.length).filter (Lib.keeps zs.toArray) ∧ zs.toArray[j]! = zs[i] := by
      intro i
      induction i with
      | zero =>
        intro hi
        refine ⟨0, ?_, ?_⟩
        · rw [List.mem_filter, List.mem_range]; exact ⟨hi, by simp [Lib.keeps]⟩
        · simp only [List.getElem!_toArray]; rw [getElem!_pos zs 0 hi]
      | succ i ih =>
        intro hi
        by_cases he : zs[i + 1] = zs[i]'(by omega)
        · obtain ⟨j, hj, e⟩ := ih (by omega)
          exact ⟨j, hj, by rw [e, he]⟩
        · refine ⟨i + 1, ?_, ?_⟩
          · rw [List.mem_filter, List.mem_range]
            refine ⟨hi, ?_⟩
            unfold Lib.keeps
            rw [decide_eq_true_eq]
            right
            simp only [List.getElem!_toArray]
            rw [getElem!_pos zs (i + 1) hi, show i + 1 - 1 = i by omega, getElem!_pos zs i (by omega)]
            exact he
          · simp only [List.getElem!_toArray]; rw [getElem!_pos zs (i + 1) hi]
    exact this i hi
theorem compact_ord (zs : List Tx) (h : zs.Pairwise fun a b => flt b a = false) : Ord (Lib.compact zs) := by
  unfold Lib.compact Lib.compactUpTo Ord
  rw [List.pairwise_map]
  have hle : ∀ i j, i ≤ j → j < zs.length → flt zs.toArray[j]! zs.toArray[i]! = false := by
    intro i j hij hj
    have hi : i < zs.length := by omega
    simp only [List.getElem!_toArray]
    rw [getElem!_pos zs i hi, getElem!_pos zs j hj]
    rcases Nat.lt_or_eq_of_le hij with h1 | rfl
    · exact List.pairwise_iff_getElem.1 h i j hi hj h1
    · exact flt_irrefl _
  have hr : ((List.range zs.length).filter (Lib.keeps zs.toArray)).Pairwise (· < ·) := List.Pairwise.filter _ List.pairwise_lt_range
  refine List.Pairwise.imp_of_mem ?_ hr
  intro i j hi hj hij
  rw [List.mem_filter, List.mem_range] at hi hj
  have hk : zs.toArray[j]! ≠ zs.toArray[j - 1]! := by
    have := hj.2
    unfold Lib.keeps at this
    rw [decide_eq_true_eq] at this
    rcases this with h0 | h0
    · omega
    · exact h0
  have h1 := hle i (j - 1) (by omega) (by omega)
  have h2 := hle (j - 1) j (by omega) hj.1
  cases h3 : flt zs.toArray[i]! zs.toArray[j]! with
  | true => rfl
  | false =>
    have h5 := swo.ntrans _ _ _ ((cf_neg _ _).trans h3) ((cf_neg _ _).trans h2)
    rw [cf_neg] at h5
    have e := flt_total h5 h1
    rw [e] at h3
    exact absurd (flt_total h2 h3) hk
theorem order_ord (l : List Tx) : Ord (order l) := compact_ord _ (sorted_pair l)
theorem order_mem (l : List Tx) (z : Tx) : z ∈ order l ↔ z ∈ l := (compact_mem_iff _ z).trans (sorted_mem l z)
theorem order_of_ord {l : List Tx} (h : Ord l) : order l = l := ord_eq (order_ord l) h (order_mem l)
/-- What is the flags of a list, or the error. -/
def namesOf : List Tx → List Tx × Int
  | [] => ([], 0)
  | s :: l => if (fname s).2 ≠ 0 then ([], (fname s).2) else if (namesOf l).2 ≠ 0 then ([], (namesOf l).2) else ((fname s).1 :: (namesOf l).1, 0)
def setOf (l : List Tx) : List Tx × Int :=
  if (namesOf l).2 ≠ 0 then ([], (namesOf l).2) else if 12 < (order (namesOf l).1).length then ([], 4) else (order (namesOf l).1, 0)
/-- A flag's own name. -/
def Own (s : Tx) : Prop := fname s = (s, 0)
end Go.Proofs.Fl
namespace Go.Proofs.YtdmplfflmdanlaaGreatDoor
open Go.RowKit Go.Proofs.Aid Go.Proofs.Fl Go.Sort Go.Lib

/-- A slice of texts. -/
def Sl (w : World) (v : Value) (l : List Tx) : Prop :=
  ∃ a c, v = .slice a l.length c ∧ ((a = none → c = 0) ∧ l.length ≤ c) ∧ (l = [] ∨ ∃ b o, a = some ⟨b, o, none⟩ ∧ ∀ (j : Nat) t, l[j]? = some t → w.cell? ⟨b, o + j, none⟩ = some (encStr t))
theorem Sl.below {w w' : World} {v : Value} {B : Nat} {l : List Tx} (h : Sl w v l) (hb : Below B w w') (hB : w.heap.size ≤ B) : Sl w' v l := by
  obtain ⟨a, c, h1, h0, h2⟩ := h
  refine ⟨a, c, h1, h0, ?_⟩
  rcases h2 with h2 | ⟨b, o, h3, h4⟩
  · exact Or.inl h2
  · refine Or.inr ⟨b, o, h3, fun j z hj => ?_⟩
    have h5 := h4 j z hj
    have hlt := World.block_lt_of_cell? _ _ h5
    exact (hb.cell (p := ⟨b, _, none⟩) (Nat.lt_of_lt_of_le hlt hB)).trans h5
end Go.Proofs.YtdmplfflmdanlaaGreatDoor
namespace Go.Proofs.YtdmplfflmdanlaaGreatDoor
open Go.RowKit Go.Proofs.Aid Go.Proofs.Bx

/-- A message lies at four cells. -/
def LtAt (w : World) (b o : Nat) (x : Lt) : Prop :=
  w.cell? ⟨b, o, none⟩ = some (.int .i64 x.uid) ∧ (∃ fv, w.cell? ⟨b, o + 1, none⟩ = some fv ∧ Sl w fv x.flags) ∧ w.cell? ⟨b, o + 2, none⟩ = some (.int .i64 x.day) ∧ w.cell? ⟨b, o + 3, none⟩ = some (.string ⟨x.text.toArray⟩)
theorem LtAt.below {w w' : World} {b o B : Nat} {x : Lt} (h : LtAt w b o x) (hb : Below B w w') (hB : w.heap.size ≤ B) : LtAt w' b o x := by
  obtain ⟨h1, ⟨fv, h2, h3⟩, h4, h5⟩ := h
  have hlt : b < B := Nat.lt_of_lt_of_le (World.block_lt_of_cell? _ _ h1) hB
  exact ⟨(hb.cell (p := ⟨b, _, none⟩) hlt).trans h1, ⟨fv, (hb.cell (p := ⟨b, _, none⟩) hlt).trans h2, h3.below hb hB⟩, (hb.cell (p := ⟨b, _, none⟩) hlt).trans h4, (hb.cell (p := ⟨b, _, none⟩) hlt).trans h5⟩
/-- A slice of messages. -/
def Lts (w : World) (v : Value) (l : List Lt) : Prop :=
  ∃ a c, v = .slice a l.length c ∧ ((a = none → c = 0) ∧ l.length ≤ c ∧ c ≤ 9223372036854775807) ∧ (l = [] ∨ ∃ b o, a = some ⟨b, o, none⟩ ∧ ∀ (j : Nat) x, l[j]? = some x → LtAt w b (o + j * 4) x)
theorem Lts.below {w w' : World} {v : Value} {B : Nat} {l : List Lt} (h : Lts w v l) (hb : Below B w w') (hB : w.heap.size ≤ B) : Lts w' v l := by
  obtain ⟨a, c, h1, h0, h2⟩ := h
  refine ⟨a, c, h1, h0, ?_⟩
  rcases h2 with h2 | ⟨b, o, h3, h4⟩
  · exact Or.inl h2
  · exact Or.inr ⟨b, o, h3, fun j x hj => (h4 j x hj).below hb hB⟩
theorem Lts.nil (w : World) : Lts w (.slice none 0 0) [] := ⟨none, 0, rfl, ⟨fun _ => rfl, Nat.le_refl _, by decide⟩, Or.inl rfl⟩
/-- A box in memory: its own number, the next one's, messages. -/
def BoxAt (w : World) (bb : Nat) (v n : Int) (l : List Lt) : Prop := ∃ lv, w.heap[bb]? = some (.cells #[.int .i64 v, .int .i64 n, lv] 66 (0, 0)) ∧ Lts w lv l
/-- What turns nothing but block b, below base; what was laid anew stays as it is. -/
theorem BoxAt.below {w w' : World} {bb B : Nat} {v n : Int} {l : List Lt} (h : BoxAt w bb v n l) (hb : Below B w w') (hB : w.heap.size ≤ B) : BoxAt w' bb v n l := by
  obtain ⟨lv, h1, h2⟩ := h
  exact ⟨lv, (hb.block bb (Nat.lt_of_lt_of_le (Array.getElem?_eq_some_iff.1 h1).1 hB)).trans h1, h2.below hb hB⟩
/-- A box whose messages lie in a row that was laid at B or behind it. -/
def BoxNew (B : Nat) (w : World) (bb : Nat) (v n : Int) (l : List Lt) : Prop := ∃ lv, w.heap[bb]? = some (.cells #[.int .i64 v, .int .i64 n, lv] 66 (0, 0)) ∧ Lts w lv l ∧ ∀ q, lv.ownBlock = some q → B ≤ q
theorem BoxNew.at {B : Nat} {w : World} {bb : Nat} {v n : Int} {l : List Lt} (h : BoxNew B w bb v n l) : BoxAt w bb v n l := by
  obtain ⟨lv, h1, h2, _⟩ := h
  exact ⟨lv, h1, h2⟩
theorem BoxAt.lt {w : World} {bb : Nat} {v n : Int} {l : List Lt} (h : BoxAt w bb v n l) : bb < w.heap.size := by
  obtain ⟨lv, h1, _⟩ := h
  exact (Array.getElem?_eq_some_iff.1 h1).1
end Go.Proofs.YtdmplfflmdanlaaGreatDoor
