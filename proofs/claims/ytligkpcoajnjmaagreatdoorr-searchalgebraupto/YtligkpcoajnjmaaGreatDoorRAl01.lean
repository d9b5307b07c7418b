/-
  What stands at a head: fields, as they are read and written. Of no program.
  Flags, plain mathematics: how one is called, their order, sets of them. Of no program.
  What words look for, and whether a letter is that. Of no program.
-/
import Derived.Test.YtligkpcoajnjmaaGreatDoorRAl00
import Derived.Lib.SlTrimSet
import Derived.Sort.Walk0
import Derived.Sort.Statements
import Derived.Lib.SlicesCompact
import Derived.Lib.RowBridge
namespace Go.Proofs.Hd
open Go.Proofs.Sq

def blk (c : UInt8) : Bool := ([32, 9] : Tx).contains c
/-- A text without blanks and tabs at both ends. -/
def bare (s : Tx) : Tx := Lib.trimS s [32, 9]
/-- A text that has none at its ends. -/
def Trim (s : Tx) : Prop := (∀ c, s.head? = some c → blk c = false) ∧ ∀ c, s.getLast? = some c → blk c = false
theorem trim_nil : Trim [] := ⟨by simp, by simp⟩
theorem dropWhile_of_head {s : Tx} (h : ∀ c, s.head? = some c → blk c = false) : s.dropWhile (([32, 9] : Tx).contains ·) = s := by
  cases s with
  | nil => rfl
  | cons c r => rw [List.dropWhile_cons_of_neg]; have := h c rfl; unfold blk at this; rw [this]; simp
theorem bare_of_trim {s : Tx} (h : Trim s) : bare s = s := by
  have h1 : Lib.trimRightS s [32, 9] = s := by
    rw [Lib.trimRightS, dropWhile_of_head (by simpa using h.2), List.reverse_reverse]
  rw [bare, Lib.trimS, h1, Lib.trimLeftS, dropWhile_of_head h.1]
theorem dropWhile_head (s : Tx) : ∀ c, (s.dropWhile (([32, 9] : Tx).contains ·)).head? = some c → blk c = false := by
  induction s with
  | nil => simp
  | cons b r ih =>
    intro c h
    rw [List.dropWhile_cons] at h
    split at h
    · exact ih c h
    · next hb => simp at h; subst h; unfold blk; simpa using hb
theorem dropWhile_last {s : Tx} (h : ∀ c, s.getLast? = some c → blk c = false) : ∀ c, (s.dropWhile (([32, 9] : Tx).contains ·)).getLast? = some c → blk c = false := by
  induction s with
  | nil => simp
  | cons b r ih =>
    intro c hc
    rw [List.dropWhile_cons] at hc
    split at hc
    · cases r with
      | nil => simp at hc
      | cons d q => exact ih (fun x hx => h x (by rw [List.getLast?_cons_cons]; exact hx)) c hc
    · exact h c hc
theorem bare_trim (s : Tx) : Trim (bare s) := by
  constructor
  · exact dropWhile_head _
  · refine dropWhile_last ?_
    rw [Lib.trimRightS]
    intro c hc
    rw [List.getLast?_reverse] at hc
    exact dropWhile_head _ c hc
theorem bare_mem {s : Tx} {c : UInt8} (h : c ∈ bare s) : c ∈ s := by
  have h1 : c ∈ Lib.trimRightS s [32, 9] := (List.dropWhile_sublist _).subset h
  rw [Lib.trimRightS, List.mem_reverse] at h1
  exact List.mem_reverse.1 ((List.dropWhile_sublist _).subset h1)
theorem bare_length (s : Tx) : (bare s).length ≤ s.length := by
  have h1 : (Lib.trimRightS s [32, 9]).length ≤ s.length := by
    rw [Lib.trimRightS, List.length_reverse]
    exact Nat.le_trans (List.dropWhile_sublist _).length_le (by simp)
  exact Nat.le_trans (List.dropWhile_sublist _).length_le h1
theorem bare_blank {v : Tx} (h : Trim v) {a b : Tx} (ha : ∀ c ∈ a, blk c = true) (hb : ∀ c ∈ b, blk c = true) : bare (a ++ v ++ b) = v := by
  have dw : ∀ (x y : Tx), (∀ c ∈ x, blk c = true) → (x ++ y).dropWhile (([32, 9] : Tx).contains ·) = y.dropWhile (([32, 9] : Tx).contains ·) := by
    intro x
    induction x with
    | nil => intro y _; rfl
    | cons c x ih =>
      intro y hx
      have := hx c List.mem_cons_self
      unfold blk at this
      rw [List.cons_append, List.dropWhile_cons_of_pos this, ih y (fun d hd => hx d (List.mem_cons_of_mem _ hd))]
  have nil_of : ∀ (x : Tx), (∀ c ∈ x, blk c = true) → x.dropWhile (([32, 9] : Tx).contains ·) = [] := by
    intro x hx
    have := dw x [] hx
    simpa using this
  have r1 : Lib.trimRightS (a ++ v ++ b) [32, 9] = (if v = [] then [] else a ++ v) := by
    rw [Lib.trimRightS, List.reverse_append, dw _ _ (fun c hc => hb c (List.mem_reverse.1 hc)), List.reverse_append]
    by_cases hv : v = []
    · subst hv
      rw [if_pos rfl, List.reverse_nil, List.nil_append, nil_of _ (fun c hc => ha c (List.mem_reverse.1 hc))]; rfl
    · rw [if_neg hv, dropWhile_of_head]
      · simp
      · intro c hc
        refine h.2 c ?_
        cases hr : v.reverse with
        | nil => exact absurd (List.reverse_eq_nil_iff.1 hr) hv
        | cons d q =>
          rw [hr] at hc
          simp at hc
          subst hc
          rw [← List.head?_reverse, hr]; rfl
  rw [bare, Lib.trimS, r1]
  by_cases hv : v = []
  · subst hv; rfl
  · rw [if_neg hv, Lib.trimLeftS, dw _ _ ha, dropWhile_of_head h.1]

/-- A value, and more of it behind. -/
def joinV (v b : Tx) : Tx := if b = [] then v else if v = [] then b else v ++ 32 :: b
theorem joinV_trim {v b : Tx} (hv : Trim v) (hb : Trim b) : Trim (joinV v b) := by
  unfold joinV
  split
  · exact hv
  · split
    · exact hb
    · next h1 h2 =>
      constructor
      · intro c hc
        refine hv.1 c ?_
        cases v with
        | nil => exact absurd rfl h2
        | cons d q => simpa using hc
      · intro c hc
        refine hb.2 c ?_
        rw [List.getLast?_append, List.getLast?_cons] at hc
        cases hx : b.getLast? with
        | none => exact absurd (List.getLast?_eq_none_iff.1 hx) h1
        | some d => rw [hx] at hc; simpa using hc
theorem joinV_mem {v b : Tx} {c : UInt8} (h : c ∈ joinV v b) : c ∈ v ∨ c = 32 ∨ c ∈ b := by
  unfold joinV at h
  split at h
  · exact Or.inl h
  · split at h
    · exact Or.inr (Or.inr h)
    · rcases List.mem_append.1 h with h | h
      · exact Or.inl h
      · rcases List.mem_cons.1 h with h | h
        · exact Or.inr (Or.inl h)
        · exact Or.inr (Or.inr h)

abbrev Fd := Tx × Tx
def isBad (c : UInt8) : Bool := ([13, 10, 0] : Tx).contains c
def nameOk (n : Tx) : Bool := decide (n ≠ []) && decide (n.length ≤ 60) && n.all fun c => decide (33 ≤ c.toNat ∧ c.toNat ≤ 126)
/-- What the last field says grows. -/
def onto : List Fd → Tx → List Fd
  | [], _ => []
  | [f], b => [(f.1, joinV f.2 b)]
  | f :: g :: r, b => f :: onto (g :: r) b
def step (l : List Fd) (p : Tx) : Int × List Fd :=
  if p = [] then (0, l)
  else if p.any isBad then (3, [])
  else if blk (p.headD 0) then (if l = [] then (3, []) else (0, onto l (bare p)))
  else if (cutAt 58 p).2.2 = false ∨ nameOk (cutAt 58 p).1 = false then (3, [])
  else if l.length = 40 then (4, [])
  else (0, l ++ [((cutAt 58 p).1, bare (cutAt 58 p).2.1)])
/-- The pieces of a head, one by one: the error and its place (0: none), the fields. -/
def fieldsFrom (i : Nat) (l : List Fd) : List Tx → (Int × Nat) × List Fd
  | [] => ((0, 0), l)
  | p :: ps => if (step l p).1 = 0 then fieldsFrom (i + 1) (step l p).2 ps else (((step l p).1, i), [])
def headOf (s : Tx) : Tx := s.take (headLen true s)
def bodyOf (s : Tx) : Tx := s.drop (headLen true s)
def fieldsOf (s : Tx) : (Int × Nat) × List Fd := fieldsFrom 0 [] (pieces (headOf s))
def lineOf (f : Fd) : Tx := f.1 ++ 58 :: 32 :: f.2
def printed : List Fd → Tx
  | [] => [13, 10]
  | f :: r => lineOf f ++ 13 :: 10 :: printed r
/-- What a field may be. -/
structure Good (f : Fd) : Prop where
  name : nameOk f.1 = true
  colon : 58 ∉ f.1
  clean : ∀ c ∈ f.2, isBad c = false
  trim : Trim f.2
theorem onto_good : ∀ {l : List Fd} {b : Tx}, (∀ f ∈ l, Good f) → (∀ c ∈ b, isBad c = false) → Trim b → ∀ f ∈ onto l b, Good f
  | [], _, _, _, _, f, hf => by simp [onto] at hf
  | [g], b, h, hb, ht, f, hf => by
    have hg := h g List.mem_cons_self
    rw [onto, List.mem_singleton] at hf
    subst hf
    refine ⟨hg.name, hg.colon, fun c hc => ?_, joinV_trim hg.trim ht⟩
    rcases joinV_mem hc with h1 | h1 | h1
    · exact hg.clean c h1
    · subst h1; decide
    · exact hb c h1
  | g :: k :: r, b, h, hb, ht, f, hf => by
    rw [onto] at hf
    rcases List.mem_cons.1 hf with rfl | hf
    · exact h _ List.mem_cons_self
    · exact onto_good (fun x hx => h x (List.mem_cons_of_mem _ hx)) hb ht f hf
theorem onto_length : ∀ (l : List Fd) (b : Tx), (onto l b).length = l.length
  | [], _ => rfl
  | [_], _ => rfl
  | _ :: k :: r, b => by rw [onto, List.length_cons, onto_length (k :: r) b]; rfl
theorem cutAt_parts (c : UInt8) : ∀ (s : Tx), (cutAt c s).2.2 = true → s = (cutAt c s).1 ++ c :: (cutAt c s).2.1 ∧ c ∉ (cutAt c s).1
  | [], h => by simp [cutAt] at h
  | b :: r, h => by
    rw [cutAt] at h ⊢
    split at h
    · next hb => rw [if_pos hb]; subst hb; simp
    · next hb =>
      rw [if_neg hb]
      obtain ⟨h1, h2⟩ := cutAt_parts c r h
      refine ⟨by rw [List.cons_append, ← h1], ?_⟩
      simp only [List.mem_cons, not_or]
      exact ⟨fun e => hb e.symm, h2⟩
theorem cutAt_of {c : UInt8} : ∀ {a : Tx} (b : Tx), c ∉ a → cutAt c (a ++ c :: b) = (a, b, true)
  | [], b, _ => by simp [cutAt]
  | d :: a, b, h => by
    have hd : d ≠ c := fun e => h (by simp [e])
    rw [List.cons_append, cutAt, if_neg hd, cutAt_of b (fun hm => h (List.mem_cons_of_mem _ hm))]
theorem step_good {l : List Fd} {p : Tx} (hl : ∀ f ∈ l, Good f) (hn : l.length ≤ 40) (h0 : (step l p).1 = 0) : (∀ f ∈ (step l p).2, Good f) ∧ (step l p).2.length ≤ 40 := by
  unfold step at h0 ⊢
  split at h0
  · next h1 => rw [if_pos h1]; exact ⟨hl, hn⟩
  · next h1 =>
    rw [if_neg h1]
    split at h0
    · simp at h0
    · next h2 =>
      rw [if_neg h2]
      have hcl : ∀ c ∈ p, isBad c = false := by
        intro c hc
        cases hb : isBad c with
        | false => rfl
        | true => exact absurd (List.any_eq_true.2 ⟨c, hc, hb⟩) h2
      split at h0
      · next h3 =>
        rw [if_pos h3]
        split at h0
        · simp at h0
        · next h4 =>
          rw [if_neg h4]
          exact ⟨onto_good hl (fun c hc => hcl c (bare_mem hc)) (bare_trim p), by rw [onto_length]; exact hn⟩
      · next h3 =>
        rw [if_neg h3]
        split at h0
        · simp at h0
        · next h4 =>
          rw [if_neg h4]
          split at h0
          · simp at h0
          · next h5 =>
            rw [if_neg h5]
            rw [_root_.not_or] at h4
            have hc : (cutAt 58 p).2.2 = true := by simpa using h4.1
            obtain ⟨e1, e2⟩ := cutAt_parts 58 p hc
            refine ⟨fun f hf => ?_, by simp; omega⟩
            rcases List.mem_append.1 hf with hf | hf
            · exact hl f hf
            · obtain rfl := List.mem_singleton.1 hf
              refine ⟨by simpa using h4.2, e2, fun c hc => hcl c ?_, bare_trim _⟩
              rw [e1]
              exact List.mem_append_right _ (List.mem_cons_of_mem _ (bare_mem hc))
theorem fieldsFrom_good : ∀ (ps : List Tx) (i : Nat) (l : List Fd), (∀ f ∈ l, Good f) → l.length ≤ 40 → (∀ f ∈ (fieldsFrom i l ps).2, Good f) ∧ (fieldsFrom i l ps).2.length ≤ 40
  | [], _, _, hl, hn => ⟨hl, hn⟩
  | p :: ps, i, l, hl, hn => by
    rw [fieldsFrom]
    split
    · next h0 => exact fieldsFrom_good ps _ _ (step_good hl hn h0).1 (step_good hl hn h0).2
    · exact ⟨by simp, by simp⟩
theorem fieldsOf_good (s : Tx) : (∀ f ∈ (fieldsOf s).2, Good f) ∧ (fieldsOf s).2.length ≤ 40 := fieldsFrom_good _ _ _ (by simp) (by simp)
theorem name_byte {n : Tx} (h : nameOk n = true) : ∀ c ∈ n, 33 ≤ c.toNat ∧ c.toNat ≤ 126 := by
  unfold nameOk at h
  rw [Bool.and_eq_true, List.all_eq_true] at h
  intro c hc
  simpa using h.2 c hc
theorem name_ne {n : Tx} (h : nameOk n = true) : n ≠ [] ∧ n.length ≤ 60 := by
  unfold nameOk at h
  simp only [Bool.and_eq_true, decide_eq_true_eq] at h
  exact h.1
theorem line_clean {f : Fd} (h : Good f) : ∀ c ∈ lineOf f, isBad c = false := by
  intro c hc
  rcases List.mem_append.1 hc with h1 | h1
  · have := name_byte h.name c h1
    unfold isBad
    simp only [List.contains_eq_mem, List.mem_cons, List.not_mem_nil, or_false, decide_eq_false_iff_not]
    rintro (rfl | rfl | rfl)
    · have : (13 : UInt8).toNat = 13 := rfl; omega
    · have : (10 : UInt8).toNat = 10 := rfl; omega
    · have : (0 : UInt8).toNat = 0 := rfl; omega
  · rcases List.mem_cons.1 h1 with rfl | h1
    · decide
    · rcases List.mem_cons.1 h1 with rfl | h1
      · decide
      · exact h.clean c h1
theorem line_13 {f : Fd} (h : Good f) : 13 ∉ lineOf f := fun hm => by have := line_clean h 13 hm; exact absurd this (by decide)
theorem line_ne (f : Fd) : lineOf f ≠ [] := by unfold lineOf; simp
theorem headLen_printed : ∀ (l : List Fd) (body : Tx), (∀ f ∈ l, Good f) → headLen true (printed l ++ body) = (printed l).length
  | [], body, _ => by simp [printed, headLen]
  | f :: r, body, h => by
    have hf := h f List.mem_cons_self
    have ih := headLen_printed r body (fun x hx => h x (List.mem_cons_of_mem _ hx))
    rw [printed, List.append_assoc, List.cons_append, List.cons_append, headLen_line (line_13 hf) (line_ne f), ih]
    simp only [List.length_append, List.length_cons]
    omega
theorem head_printed {l : List Fd} (body : Tx) (h : ∀ f ∈ l, Good f) : headOf (printed l ++ body) = printed l ∧ bodyOf (printed l ++ body) = body := by
  unfold headOf bodyOf
  rw [headLen_printed l body h]
  simp
theorem pieces_printed : ∀ (l : List Fd), (∀ f ∈ l, Good f) → pieces (printed l) = l.map lineOf ++ [[], []]
  | [], _ => by simp [printed, pieces]
  | f :: r, h => by
    rw [printed, pieces_line (line_13 (h f List.mem_cons_self)), pieces_printed r (fun x hx => h x (List.mem_cons_of_mem _ hx))]
    rfl
theorem step_line {l : List Fd} {f : Fd} (h : Good f) (hl : l.length < 40) : step l (lineOf f) = (0, l ++ [f]) := by
  unfold step
  have hn := name_ne h.name
  have hh : blk ((lineOf f).headD 0) = false := by
    unfold lineOf
    cases hx : f.1 with
    | nil => exact absurd hx hn.1
    | cons c q =>
      have := name_byte h.name c (by rw [hx]; exact List.mem_cons_self)
      show blk c = false
      unfold blk
      simp only [List.contains_eq_mem, List.mem_cons, List.not_mem_nil, or_false, decide_eq_false_iff_not]
      rintro (rfl | rfl)
      · have : (32 : UInt8).toNat = 32 := rfl; omega
      · have : (9 : UInt8).toNat = 9 := rfl; omega
  have hb : (lineOf f).any isBad = false := by
    rw [List.any_eq_false]
    intro c hc
    simp [line_clean h c hc]
  have hcut : cutAt 58 (lineOf f) = (f.1, 32 :: f.2, true) := cutAt_of _ h.colon
  have hbare : bare (32 :: f.2) = f.2 := by
    have := bare_blank h.trim (a := [32]) (b := []) (by decide) (by simp)
    simpa using this
  rw [if_neg (line_ne f), hb, if_neg (by simp), hh, if_neg (by simp), hcut]
  simp only [h.name, hbare]
  rw [if_neg (by simp), if_neg (by omega)]
theorem fieldsFrom_printed : ∀ (l : List Fd) (i : Nat) (acc : List Fd), (∀ f ∈ l, Good f) → acc.length + l.length ≤ 40 → fieldsFrom i acc (l.map lineOf ++ [[], []]) = ((0, 0), acc ++ l)
  | [], i, acc, _, _ => by simp [fieldsFrom, step]
  | f :: r, i, acc, h, hn => by
    have hf := h f List.mem_cons_self
    simp only [List.length_cons] at hn
    rw [List.map_cons, List.cons_append, fieldsFrom, step_line hf (by omega), if_pos rfl, fieldsFrom_printed r _ _ (fun x hx => h x (List.mem_cons_of_mem _ hx)) (by simp; omega)]
    simp
/-- What is written is read again, whatever stands behind it. -/
theorem fields_printed {l : List Fd} (body : Tx) (h : ∀ f ∈ l, Good f) (hn : l.length ≤ 40) : fieldsOf (printed l ++ body) = ((0, 0), l) := by
  unfold fieldsOf
  rw [(head_printed body h).1, pieces_printed l h, fieldsFrom_printed l 0 [] h (by simpa using hn)]
  rfl

/-- What the first field of a name says; those of some names. -/
def getF (l : List Fd) (n : Tx) : Option Tx := (l.find? fun f => decide (small f.1 = small n)).map (·.2)
def onlyF (l : List Fd) (names : List Tx) : List Fd := l.filter fun f => (names.map small).contains (small f.1)
theorem getF_small (l : List Fd) (n : Tx) : getF l (small n) = getF l n := by unfold getF; rw [small_small]
theorem getF_great (l : List Fd) (n : Tx) : getF l (great n) = getF l n := by unfold getF; rw [small_great]
theorem onlyF_small (l : List Fd) (n : Tx) : onlyF l [small n] = onlyF l [n] := by unfold onlyF; simp [small_small]
theorem onlyF_great (l : List Fd) (n : Tx) : onlyF l [great n] = onlyF l [n] := by unfold onlyF; simp [small_great]
theorem getF_only (l : List Fd) (n : Tx) : getF l n = (onlyF l [n]).head?.map (·.2) := by
  unfold getF onlyF
  rw [List.head?_filter]
  congr 2
  funext f
  simp
theorem getF_of_mem {l : List Fd} {f : Fd} {n : Tx} (hf : f ∈ l) (h : small n = small f.1) : (getF l n).isSome = true := by
  unfold getF
  rw [Option.isSome_map, List.find?_isSome]
  exact ⟨f, hf, by simp [h]⟩
theorem getF_first {f : Fd} {r : List Fd} {n : Tx} (h : small n = small f.1) : getF (f :: r) n = some f.2 := by
  unfold getF
  rw [List.find?_cons_of_pos (by simp [h])]
  rfl

/-- What a parameter says. -/
def unq (s : Tx) : Tx := if 2 ≤ s.length ∧ s.head? = some 34 ∧ s.getLast? = some 34 then s.tail.dropLast else s
def isParam (n p : Tx) : Bool := (cutAt 61 p).2.2 && decide (small (bare (cutAt 61 p).1) = small n)
def paramOf (v n : Tx) : Option Tx := ((between 59 v).tail.find? (isParam n)).map fun p => unq (bare (cutAt 61 p).2.1)
theorem between_of {c : UInt8} : ∀ {a : Tx} (b : Tx), c ∉ a → between c (a ++ c :: b) = a :: between c b
  | [], b, _ => by simp [between]
  | d :: a, b, h => by
    have hd : d ≠ c := fun e => h (by simp [e])
    rw [List.cons_append, between, if_neg hd, between_of b (fun hm => h (List.mem_cons_of_mem _ hm))]
    rfl
theorem between_one {c : UInt8} {a : Tx} (h : c ∉ a) : between c a = [a] := between_none h
theorem trim_of_free {v : Tx} (h : ∀ c ∈ v, blk c = false) : Trim v := ⟨fun c hc => h c (List.mem_of_mem_head? hc), fun c hc => h c (List.mem_of_mem_getLast? hc)⟩
/-- A parameter among others, with blanks around. -/
theorem param_among {v : Tx} (h : ∀ c ∈ v, ([59, 34, 61, 32, 9] : Tx).contains c = false) : paramOf ([120, 59, 32, 121, 61, 122, 59, 32, 80, 32, 61, 32] ++ v ++ [32, 59, 113]) [112] = some v := by
  have h59 : (59 : UInt8) ∉ v := fun hm => absurd (h 59 hm) (by decide)
  have h34 : (34 : UInt8) ∉ v := fun hm => absurd (h 34 hm) (by decide)
  have hb : ∀ c ∈ v, blk c = false := by
    intro c hc
    have := h c hc
    unfold blk
    simp only [List.contains_eq_mem, List.mem_cons, List.not_mem_nil, or_false, decide_eq_false_iff_not, _root_.not_or] at this ⊢
    exact ⟨this.2.2.2.1, this.2.2.2.2⟩
  have ht := trim_of_free hb
  have e1 : ([120, 59, 32, 121, 61, 122, 59, 32, 80, 32, 61, 32] ++ v ++ [32, 59, 113] : Tx) = [120] ++ 59 :: ([32, 121, 61, 122] ++ 59 :: (([32, 80, 32, 61, 32] ++ v ++ [32]) ++ 59 :: [113])) := by simp
  have b3 : (59 : UInt8) ∉ ([32, 80, 32, 61, 32] ++ v ++ [32] : Tx) := by simp [h59]
  have hbt : between 59 ([120, 59, 32, 121, 61, 122, 59, 32, 80, 32, 61, 32] ++ v ++ [32, 59, 113]) = [[120], [32, 121, 61, 122], [32, 80, 32, 61, 32] ++ v ++ [32], [113]] := by
    rw [e1, between_of _ (by decide), between_of _ (by decide), between_of _ b3, between_one (by decide)]
  have c3 : cutAt 61 ([32, 80, 32, 61, 32] ++ v ++ [32]) = ([32, 80, 32], [32] ++ v ++ [32], true) := by
    have := cutAt_of (c := 61) (a := [32, 80, 32]) ([32] ++ v ++ [32]) (by decide)
    simpa using this
  have s3 : bare ([32] ++ v ++ [32]) = v := bare_blank ht (by decide) (by decide)
  have n2 : isParam [112] [32, 121, 61, 122] = false := by decide
  have n3 : isParam [112] ([32, 80, 32, 61, 32] ++ v ++ [32]) = true := by
    unfold isParam
    rw [c3]
    show (true && decide (small (bare [32, 80, 32]) = small [112])) = true
    decide
  unfold paramOf
  rw [hbt, List.tail_cons, List.find?_cons_of_neg (by simp [n2]), List.find?_cons_of_pos n3, Option.map_some, c3]
  show some (unq (bare ([32] ++ v ++ [32]))) = some v
  rw [s3]
  unfold unq
  rw [if_neg]
  rintro ⟨_, h1, _⟩
  exact h34 (List.mem_of_mem_head? h1)
/-- A parameter in quotes. -/
theorem param_quoted {v : Tx} (h : ∀ c ∈ v, ([59, 34, 61, 32, 9] : Tx).contains c = false) : paramOf ([120, 59, 32, 112, 61, 34] ++ v ++ [34]) [80] = some v := by
  have h59 : (59 : UInt8) ∉ v := fun hm => absurd (h 59 hm) (by decide)
  have e1 : ([120, 59, 32, 112, 61, 34] ++ v ++ [34] : Tx) = [120] ++ 59 :: ([32, 112, 61, 34] ++ v ++ [34]) := by simp
  have b2 : (59 : UInt8) ∉ ([32, 112, 61, 34] ++ v ++ [34] : Tx) := by simp [h59]
  have hbt : between 59 ([120, 59, 32, 112, 61, 34] ++ v ++ [34]) = [[120], [32, 112, 61, 34] ++ v ++ [34]] := by
    rw [e1, between_of _ (by decide), between_one b2]
  have c2 : cutAt 61 ([32, 112, 61, 34] ++ v ++ [34]) = ([32, 112], [34] ++ v ++ [34], true) := by
    have := cutAt_of (c := 61) (a := [32, 112]) ([34] ++ v ++ [34]) (by decide)
    simpa using this
  have ht : Trim ([34] ++ v ++ [34]) := ⟨fun c hc => by simp at hc; subst hc; decide, fun c hc => by rw [List.getLast?_append] at hc; simp at hc; subst hc; decide⟩
  have n2 : isParam [80] ([32, 112, 61, 34] ++ v ++ [34]) = true := by
    unfold isParam
    rw [c2]
    show (true && decide (small (bare [32, 112]) = small [80])) = true
    decide
  unfold paramOf
  rw [hbt, List.tail_cons, List.find?_cons_of_pos n2, Option.map_some, c2]
  show some (unq (bare ([34] ++ v ++ [34]))) = some v
  rw [bare_of_trim ht]
  unfold unq
  rw [if_pos ⟨by simp, by simp, by rw [List.getLast?_append]; simp⟩]
  simp
/-- What stands ahead of the first semicolon is no parameter. -/
theorem param_first {v : Tx} (h : ∀ c ∈ v, ([59, 34, 61, 32, 9] : Tx).contains c = false) : paramOf ([112, 61] ++ v) [112] = none := by
  have h59 : (59 : UInt8) ∉ v := fun hm => absurd (h 59 hm) (by decide)
  unfold paramOf
  rw [between_one (by simp [h59])]
  rfl
end Go.Proofs.Hd
namespace Go.Proofs.Fl
open Go.Sort

abbrev Tx := List UInt8
/-- A letter of A to Z as a small one. -/
def sm (c : UInt8) : UInt8 := if 65 ≤ c.toNat ∧ c.toNat ≤ 90 then c + 32 else c
/-- The system's flags, in their order. -/
def five : List Tx := [[92, 83, 101, 101, 110], [92, 65, 110, 115, 119, 101, 114, 101, 100], [92, 70, 108, 97, 103, 103, 101, 100], [92, 68, 101, 108, 101, 116, 101, 100], [92, 68, 114, 97, 102, 116]]
def sameL (a b : Tx) : Bool := decide (a.map sm = b.map sm)
def kw (c : UInt8) : Bool := decide (97 ≤ (sm c).toNat ∧ (sm c).toNat ≤ 122) || decide (48 ≤ c.toNat ∧ c.toNat ≤ 57) || c == 95 || c == 36
/-- What a flag is called, and the error's number (0: none). -/
def fname (s : Tx) : Tx × Int :=
  if s.head? = some 92 then
    match five.find? (sameL s) with
    | some n => (n, 0)
    | none => ([], 3)
  else if s = [] ∨ s.all kw = false then ([], 3)
  else if 20 < s.length then ([], 4)
  else (s, 0)
def rank (s : Tx) : Nat := five.idxOf s
theorem rank_le (s : Tx) : rank s ≤ 5 := by
  have : five.idxOf s ≤ five.length := List.idxOf_le_length
  simpa [five, rank] using this
def flt (a b : Tx) : Bool := decide (rank a < rank b) || (decide (rank a = rank b) && decide (a < b))
def cf (a b : Tx) : Int := if rank a < rank b then -1 else if rank b < rank a then 1 else if a < b then -1 else if b < a then 1 else 0

def ltc (a b : Tx) : Bool := decide (cf a b < 0)
theorem tx_irrefl (a : Tx) : ¬ a < a := List.lt_irrefl a
theorem tx_trans {a b c : Tx} (h : a < b) (k : b < c) : a < c := List.lt_trans h k
theorem tx_total {a b : Tx} (h : ¬ a < b) (k : ¬ b < a) : a = b := List.le_antisymm (List.not_lt.1 k) (List.not_lt.1 h)
theorem cf_neg (a b : Tx) : ltc a b = flt a b := by
  unfold ltc cf flt
  by_cases h1 : rank a < rank b
  · simp [h1]
  · by_cases h2 : rank b < rank a
    · have : ¬ rank a = rank b := by omega
      simp [h1, h2, this]
    · have h3 : rank a = rank b := by omega
      by_cases h4 : a < b
      · simp [h3, h4]
      · by_cases h5 : b < a <;> simp [h3, h4, h5]
theorem cf_zero (a b : Tx) : cf a b = 0 ↔ a = b := by
  unfold cf
  constructor
  · intro h
    by_cases h1 : rank a < rank b
    · simp [h1] at h
    · by_cases h2 : rank b < rank a
      · simp [h1, h2] at h
      · by_cases h4 : a < b
        · simp [h1, h2, h4] at h
        · by_cases h5 : b < a
          · simp [h1, h2, h4, h5] at h
          · exact tx_total h4 h5
  · rintro rfl
    simp [tx_irrefl]
theorem flt_irrefl (a : Tx) : flt a a = false := by simp [flt, tx_irrefl]
theorem flt_trans {a b c : Tx} (h : flt a b = true) (k : flt b c = true) : flt a c = true := by
  unfold flt at *
  simp only [Bool.or_eq_true, Bool.and_eq_true, decide_eq_true_eq] at *
  rcases h with h | ⟨h, h'⟩ <;> rcases k with k | ⟨k, k'⟩
  · exact Or.inl (by omega)
  · exact Or.inl (by omega)
  · exact Or.inl (by omega)
  · exact Or.inr ⟨by omega, tx_trans h' k'⟩
theorem flt_total {a b : Tx} (h : flt a b = false) (k : flt b a = false) : a = b := by
  unfold flt at *
  simp only [Bool.or_eq_false_iff, Bool.and_eq_false_iff, decide_eq_false_iff_not] at *
  obtain ⟨h1, h2⟩ := h
  obtain ⟨k1, k2⟩ := k
  have hr : rank a = rank b := by omega
  exact tx_total (by rcases h2 with h | h; exact absurd hr h; exact h) (by rcases k2 with h | h; exact absurd hr.symm h; exact h)
theorem swo : SWO ltc where
  irrefl x := by rw [cf_neg]; exact flt_irrefl x
  trans x y z h1 h2 := by rw [cf_neg] at *; exact flt_trans h1 h2
  ntrans x y z h1 h2 := by
    rw [cf_neg] at *
    cases hxz : flt x z with
    | false => rfl
    | true =>
      cases hyx : flt y x with
      | true => have := flt_trans hyx hxz; rw [h2] at this; cases this
      | false =>
        have := flt_total h1 hyx
        subst this
        rw [h2] at hxz; cases hxz
theorem tot (x y : Tx) (h1 : ltc x y = false) (h2 : ltc y x = false) : x = y := by rw [cf_neg] at *; exact flt_total h1 h2
/-- In order, each once. -/
def Ord (l : List Tx) : Prop := l.Pairwise fun a b => flt a b = true
theorem ord_nodup {l : List Tx} (h : Ord l) : l.Nodup := List.Pairwise.imp (fun {a b} h e => by subst e; rw [flt_irrefl] at h; cases h) h
theorem ord_eq : ∀ {a b : List Tx}, Ord a → Ord b → (∀ x, x ∈ a ↔ x ∈ b) → a = b
  | [], [], _, _, _ => rfl
  | [], y :: b, _, _, h => absurd ((h y).2 (by simp)) (by simp)
  | x :: a, [], _, _, h => absurd ((h x).1 (by simp)) (by simp)
  | x :: a, y :: b, ha, hb, h => by
    unfold Ord at ha hb
    rw [List.pairwise_cons] at ha hb
    have hxy : x = y := by
      rcases List.mem_cons.1 ((h x).1 (by simp)) with e | e
      · exact e
      · rcases List.mem_cons.1 ((h y).2 (by simp)) with e' | e'
        · exact e'.symm
        · have h1 := hb.1 x e
          have h2 := ha.1 y e'
          have := flt_trans h1 h2
          rw [flt_irrefl] at this; cases this
    subst hxy
    rw [ord_eq ha.2 hb.2 fun z => ?_]
    constructor
    · intro hz
      rcases List.mem_cons.1 ((h z).1 (by simp [hz])) with e | e
      · subst e; have := ha.1 z hz; rw [flt_irrefl] at this; cases this
      · exact e
    · intro hz
      rcases List.mem_cons.1 ((h z).2 (by simp [hz])) with e | e
      · subst e; have := hb.1 z hz; rw [flt_irrefl] at this; cases this
      · exact e
def sorted (l : List Tx) : List Tx := l.mergeSort fun x y => !ltc y x
def order (l : List Tx) : List Tx := Lib.compact (sorted l)
theorem sorted_length (l : List Tx) : (sorted l).length = l.length := by simp [sorted, List.length_mergeSort]
theorem sorted_mem (l : List Tx) (z : Tx) : z ∈ sorted l ↔ z ∈ l := List.mem_mergeSort
theorem sorted_pair (l : List Tx) : (sorted l).Pairwise fun a b => flt b a = false := by
  have h := List.pairwise_mergeSort (le := fun x y : Tx => !ltc y x) (fun a b c h1 h2 => by
    simp only [Bool.not_eq_true', cf_neg] at h1 h2 ⊢
    have := swo.ntrans c b a (by rw [cf_neg]; exact h2) (by rw [cf_neg]; exact h1)
    rw [cf_neg] at this; exact this) (fun a b => by
    simp only [cf_neg, Bool.or_eq_true, Bool.not_eq_true']
    cases h : flt b a with
    | false => exact Or.inl rfl
    | true =>
      cases h2 : flt a b with
      | false => exact Or.inr rfl
      | true => have := flt_trans h h2; rw [flt_irrefl] at this; cases this) l
  exact h.imp (fun h => by simpa [cf_neg] using h)
theorem compact_mem_iff (zs : List Tx) (z : Tx) : z ∈ Lib.compact zs ↔ z ∈ zs := by
  unfold Lib.compact Lib.compactUpTo
  rw [List.mem_map]
  constructor
  · rintro ⟨j, hj, rfl⟩
    rw [List.mem_filter, List.mem_range] at hj
    simp only [List.getElem!_toArray]
    rw [getElem!_pos zs j hj.1]
    exact List.getElem_mem _
  · intro hz
    obtain ⟨i, hi, rfl⟩ := List.getElem_of_mem hz
    -- the least place with that value in a run
    have : ∀ (i : Nat) (hi : i < zs.length), ∃ j, j ∈ (List.range zs.length).filter (Lib.keeps zs.toArray) ∧ zs.toArray[j]! = zs[i] := by
      intro i
      induction i with
      | zero =>
        intro hi
        refine ⟨0, ?_, ?_⟩
        · rw [List.mem_filter, List.mem_range]; exact ⟨hi, by simp [Lib.keeps]⟩
        · simp only [List.getElem!_toArray]; rw [getElem!_pos zs 0 hi]
      | succ i ih =>
        intro hi
        by_cases he : zs[i + 1] = zs[i]'(by omega)
        · obtain ⟨j, hj, e⟩ := ih (by omega)
          exact ⟨j, hj, by rw [e, he]⟩
        · refine ⟨i + 1, ?_, ?_⟩
          · rw [List.mem_filter, List.mem_range]
            refine ⟨hi, ?_⟩
            unfold Lib.keeps
            rw [decide_eq_true_eq]
            right
            simp only [List.getElem!_toArray]
            rw [getElem!_pos zs (i + 1) hi, show i + 1 - 1 = i by omega, getElem!_pos zs i (by omega)]
            exact he
          · simp only [List.getElem!_toArray]; rw [getElem!_pos zs (i + 1) hi]
    exact this i hi
theorem compact_ord (zs : List Tx) (h : zs.Pairwise fun a b => flt b a = false) : Ord (Lib.compact zs) := by
  unfold Lib.compact Lib.compactUpTo Ord
  rw [List.pairwise_map]
  have hle : ∀ i j, i ≤ j → j < zs.length → flt zs.toArray[j]! zs.toArray[i]! = false := by
    intro i j hij hj
    have hi : i < zs.length := by omega
    simp only [List.getElem!_toArray]
    rw [getElem!_pos zs i hi, getElem!_pos zs j hj]
    rcases Nat.lt_or_eq_of_le hij with h1 | rfl
    · exact List.pairwise_iff_getElem.1 h i j hi hj h1
    · exact flt_irrefl _
  have hr : ((List.range zs.length).filter (Lib.keeps zs.toArray)).Pairwise (· < ·) := List.Pairwise.filter _ List.pairwise_lt_range
  refine List.Pairwise.imp_of_mem ?_ hr
  intro i j hi hj hij
  rw [List.mem_filter, List.mem_range] at hi hj
  have hk : zs.toArray[j]! ≠ zs.toArray[j - 1]! := by
    have := hj.2
    unfold Lib.keeps at this
    rw [decide_eq_true_eq] at this
    rcases this with h0 | h0
    · omega
    · exact h0
  have h1 := hle i (j - 1) (by omega) (by omega)
  have h2 := hle (j - 1) j (by omega) hj.1
  cases h3 : flt zs.toArray[i]! zs.toArray[j]! with
  | true => rfl
  | false =>
    have h5 := swo.ntrans _ _ _ ((cf_neg _ _).trans h3) ((cf_neg _ _).trans h2)
    rw [cf_neg] at h5
    have e := flt_total h5 h1
    rw [e] at h3
    exact absurd (flt_total h2 h3) hk
theorem order_ord (l : List Tx) : Ord (order l) := compact_ord _ (sorted_pair l)
theorem order_mem (l : List Tx) (z : Tx) : z ∈ order l ↔ z ∈ l := (compact_mem_iff _ z).trans (sorted_mem l z)
/-- In whatever order, and however often. -/
theorem order_congr {a b : List Tx} (h : ∀ z, z ∈ a ↔ z ∈ b) : order a = order b := ord_eq (order_ord a) (order_ord b) fun z => by rw [order_mem, order_mem]; exact h z
theorem order_of_ord {l : List Tx} (h : Ord l) : order l = l := ord_eq (order_ord l) h (order_mem l)
theorem order_length (l : List Tx) : (order l).length ≤ l.length := Nat.le_trans (Lib.compact_length_le _) (by rw [sorted_length]; exact Nat.le_refl _)
def without (a b : List Tx) : List Tx := a.filter fun x => !b.contains x
theorem ord_filter {l : List Tx} (h : Ord l) (p : Tx → Bool) : Ord (l.filter p) := List.Pairwise.filter p h
theorem without_mem (a b : List Tx) (z : Tx) : z ∈ without a b ↔ z ∈ a ∧ z ∉ b := by simp [without]
/-- What is the flags of a list, or the error. -/
def namesOf : List Tx → List Tx × Int
  | [] => ([], 0)
  | s :: l => if (fname s).2 ≠ 0 then ([], (fname s).2) else if (namesOf l).2 ≠ 0 then ([], (namesOf l).2) else ((fname s).1 :: (namesOf l).1, 0)
def setOf (l : List Tx) : List Tx × Int :=
  if (namesOf l).2 ≠ 0 then ([], (namesOf l).2) else if 12 < (order (namesOf l).1).length then ([], 4) else (order (namesOf l).1, 0)
def hasF (l : List Tx) (s : Tx) : Bool := decide ((fname s).2 = 0) && l.contains (fname s).1
/-- A flag's own name. -/
def Own (s : Tx) : Prop := fname s = (s, 0)
theorem fname_own (s : Tx) (h : (fname s).2 = 0) : Own (fname s).1 := by
  unfold fname at h
  unfold Own
  split at h
  · next h1 =>
    cases hf : five.find? (sameL s) with
    | none => rw [hf] at h; simp at h
    | some n =>
      have e : fname s = (n, 0) := by unfold fname; rw [if_pos h1, hf]
      rw [e]
      have hm := List.mem_of_find?_eq_some hf
      have : n = five[0] ∨ n = five[1] ∨ n = five[2] ∨ n = five[3] ∨ n = five[4] := by simpa [five] using hm
      rcases this with rfl | rfl | rfl | rfl | rfl <;> decide
  · next h1 =>
    split at h
    · simp at h
    · next h2 =>
      split at h
      · simp at h
      · next h3 =>
        have e : fname s = (s, 0) := by unfold fname; rw [if_neg h1, if_neg h2, if_neg h3]
        rw [e]; exact e
theorem namesOf_own : ∀ (l : List Tx), (namesOf l).2 = 0 → ∀ s ∈ (namesOf l).1, Own s
  | [], _, s, h => by simp [namesOf] at h
  | t :: l, h0, s, h => by
    rw [namesOf] at h0 h
    by_cases h1 : (fname t).2 = 0
    · by_cases h2 : (namesOf l).2 = 0
      · simp only [h1, h2, ne_eq, not_true_eq_false, if_false] at h
        rcases List.mem_cons.1 h with rfl | h
        · exact fname_own t h1
        · exact namesOf_own l h2 s h
      · simp [h1, h2] at h0
    · simp [h1] at h0
theorem namesOf_mem : ∀ (l : List Tx), (namesOf l).2 = 0 → ∀ z, z ∈ (namesOf l).1 ↔ ∃ s ∈ l, (fname s).1 = z
  | [], _, z => by simp [namesOf]
  | t :: l, h0, z => by
    rw [namesOf] at h0 ⊢
    by_cases h1 : (fname t).2 = 0
    · by_cases h2 : (namesOf l).2 = 0
      · simp only [h1, h2, ne_eq, not_true_eq_false, if_false]
        rw [List.mem_cons, namesOf_mem l h2 z]
        constructor
        · rintro (rfl | ⟨s, hs, rfl⟩)
          · exact ⟨t, by simp, rfl⟩
          · exact ⟨s, by simp [hs], rfl⟩
        · rintro ⟨s, hs, rfl⟩
          rcases List.mem_cons.1 hs with rfl | hs
          · exact Or.inl rfl
          · exact Or.inr ⟨s, hs, rfl⟩
      · simp [h1, h2] at h0
    · simp [h1] at h0
theorem namesOf_ok : ∀ (l : List Tx), (namesOf l).2 = 0 ↔ ∀ s ∈ l, (fname s).2 = 0
  | [] => by simp [namesOf]
  | t :: l => by
    rw [namesOf]
    by_cases h1 : (fname t).2 = 0
    · by_cases h2 : (namesOf l).2 = 0
      · simp only [h1, h2, ne_eq, not_true_eq_false, if_false, true_iff]
        intro s hs
        rcases List.mem_cons.1 hs with rfl | hs
        · exact h1
        · exact (namesOf_ok l).1 h2 s hs
      · simp only [h1, h2, ne_eq, not_true_eq_false, if_false, not_false_eq_true, if_true, false_iff]
        exact fun h => h2 ((namesOf_ok l).2 fun s hs => h s (by simp [hs]))
    · simp only [h1, ne_eq, not_false_eq_true, if_true, false_iff]
      exact fun h => h1 (h t (by simp))
/-- Lists with the same members are one set. -/
theorem setOf_congr {a b : List Tx} (h : ∀ z, z ∈ a ↔ z ∈ b) (h0 : (setOf a).2 = 0) : setOf b = setOf a := by
  have ha : (namesOf a).2 = 0 := by
    by_cases h1 : (namesOf a).2 = 0
    · exact h1
    · unfold setOf at h0; rw [if_pos h1] at h0; exact absurd h0 h1
  have hb : (namesOf b).2 = 0 := (namesOf_ok b).2 fun s hs => (namesOf_ok a).1 ha s ((h s).2 hs)
  have ho : order (namesOf b).1 = order (namesOf a).1 := order_congr fun z => by
    rw [namesOf_mem b hb, namesOf_mem a ha]
    constructor
    · rintro ⟨s, hs, e⟩; exact ⟨s, (h s).2 hs, e⟩
    · rintro ⟨s, hs, e⟩; exact ⟨s, (h s).1 hs, e⟩
  unfold setOf
  simp only [ha, hb, ho]
theorem setOf_own {a : List Tx} (h0 : (setOf a).2 = 0) : Ord (setOf a).1 ∧ (∀ s ∈ (setOf a).1, Own s) ∧ (setOf a).1.length ≤ 12 := by
  have ha : (namesOf a).2 = 0 := by
    by_cases h1 : (namesOf a).2 = 0
    · exact h1
    · unfold setOf at h0; rw [if_pos h1] at h0; exact absurd h0 h1
  have hl : ¬ 12 < (order (namesOf a).1).length := by
    intro hl; unfold setOf at h0; simp [ha, hl] at h0
  have e : setOf a = (order (namesOf a).1, 0) := by unfold setOf; simp [ha, hl]
  rw [e]
  exact ⟨order_ord _, fun s hs => namesOf_own a ha s ((order_mem _ s).1 hs), by show (order _).length ≤ 12; omega⟩
end Go.Proofs.Fl
namespace Go.Proofs.Sr
open Go.Proofs.Sq

abbrev Tx := List UInt8
/-- A part of a command. -/
inductive Ar where
  | mk (kind : Int) (text : Tx) (list : List Ar) : Ar
def Ar.kind : Ar → Int | .mk k _ _ => k
def Ar.text : Ar → Tx | .mk _ t _ => t
def Ar.list : Ar → List Ar | .mk _ _ l => l
/-- What is looked for. -/
inductive Ky where
  | mk (code : Int) (name text : Tx) (n : Int) (set : List (Nat × Nat)) (keys : List Ky) : Ky
def flagK (n : Tx) : Ky := .mk 2 n [] 0 [] []
def notK (k : Ky) : Ky := .mk 13 [] [] 0 [] [k]
def joinK : List Ky → Ky
  | [k] => k
  | ks => .mk 15 [] [] 0 [] ks
/-- What a reader tells: an error; or a value, what is left, and how many were counted. -/
inductive Rs (α : Type) where
  | bad (e : Int) : Rs α
  | ok (a : α) (rest : List Ar) (c : Nat) : Rs α
def Rs.map {α β : Type} (f : α → β) : Rs α → Rs β
  | .bad e => .bad e
  | .ok a r c => .ok (f a) r c
def Rs.then {α β : Type} : Rs α → (α → List Ar → Nat → Rs β) → Rs β
  | .bad e, _ => .bad e
  | .ok a r c, k => k a r c
/-- A word. -/
def wordF (l : List Ar) (c : Nat) : Rs Tx := match l with
  | [] => .bad 3
  | a :: r => if a.kind = 3 then .bad 3 else .ok a.text r c
def numN (s : Tx) : Option Nat := if s = [48] then some 0 else if s = [] ∨ s.head? = some 48 then none else digitsFrom 0 s
def flagF (s : Tx) (l : List Ar) (c : Nat) : Rs Ky := if (Fl.fname s).2 = 0 then .ok (flagK (Fl.fname s).1) l c else .bad (Fl.fname s).2
def numF (s : Tx) (l : List Ar) (c : Nat) : Rs Nat := match numN s with
  | none => .bad 3
  | some n => .ok n l c
def setF (s : Tx) (l : List Ar) (c : Nat) : Rs (List (Nat × Nat)) := match readSet s with
  | .form => .bad 3
  | .limit => .bad 4
  | .ok r => .ok r l c
def wAll : Tx := [65, 76, 76]
def wSys : List Tx := [[83, 69, 69, 78], [65, 78, 83, 87, 69, 82, 69, 68], [70, 76, 65, 71, 71, 69, 68], [68, 69, 76, 69, 84, 69, 68], [68, 82, 65, 70, 84]]
def wUn : List Tx := wSys.map fun s => 85 :: 78 :: s
def wKeyword : Tx := [75, 69, 89, 87, 79, 82, 68]
def wFields : List Tx := [[70, 82, 79, 77], [84, 79], [83, 85, 66, 74, 69, 67, 84], [67, 67]]
def wHeader : Tx := [72, 69, 65, 68, 69, 82]
def wBody : Tx := [66, 79, 68, 89]
def wText : Tx := [84, 69, 88, 84]
def wMeas : List Tx := [[76, 65, 82, 71, 69, 82], [83, 77, 65, 76, 76, 69, 82], [66, 69, 70, 79, 82, 69], [79, 78], [83, 73, 78, 67, 69]]
def wUid : Tx := [85, 73, 68]
def wNot : Tx := [78, 79, 84]
def wOr : Tx := [79, 82]
/-- What a word begins; g reads a KEY that lies one deeper. -/
def wordK (g : List Ar → Nat → Rs Ky) (w : Tx) (l : List Ar) (c : Nat) : Rs Ky :=
  if Hd.great w = wAll then .ok (.mk 1 [] [] 0 [] []) l c
  else if wSys.contains (Hd.great w) then flagF (92 :: Hd.great w) l c
  else if wUn.contains (Hd.great w) then (flagF (92 :: (Hd.great w).drop 2) l c).map notK
  else if Hd.great w = wKeyword then (wordF l c).then fun s l c => flagF s l c
  else if Hd.great w = 85 :: 78 :: wKeyword then ((wordF l c).then fun s l c => flagF s l c).map notK
  else if wFields.contains (Hd.great w) then (wordF l c).map fun s => .mk 3 (Hd.small w) s 0 [] []
  else if Hd.great w = wHeader then (wordF l c).then fun n l c => (wordF l c).map fun s => .mk 3 (Hd.small n) s 0 [] []
  else if Hd.great w = wBody then (wordF l c).map fun s => .mk 4 [] s 0 [] []
  else if Hd.great w = wText then (wordF l c).map fun s => .mk 5 [] s 0 [] []
  else if wMeas.contains (Hd.great w) then (wordF l c).then fun s l c => (numF s l c).map fun (n : Nat) => .mk (6 + (wMeas.idxOf (Hd.great w) : Int)) [] [] (n : Int) [] []
  else if Hd.great w = wUid then (wordF l c).then fun s l c => (setF s l c).map fun r => .mk 11 [] [] 0 r []
  else if Hd.great w = wNot then (g l c).map notK
  else if Hd.great w = wOr then (g l c).then fun a l c => (g l c).map fun b => .mk 14 [] [] 0 [] [a, b]
  else (setF w l c).map fun r => .mk 12 [] [] 0 r []
/-- All KEYS that are left, behind those that are there. -/
def moreF (g : List Ar → Nat → Rs Ky) : Nat → List Ky → List Ar → Nat → Rs (List Ky)
  | _, acc, [], c => .ok acc [] c
  | 0, _, _ :: _, _ => .bad 4
  | n + 1, acc, a :: r, c => (g (a :: r) c).then fun k l c => moreF g n (acc ++ [k]) l c
/-- KEYS, to the end. -/
def keysF (g : List Ar → Nat → Rs Ky) (l : List Ar) (c : Nat) : Rs Ky := ((g l c).then fun k l c => moreF g 61 [k] l c).map joinK
/-- A KEY; so many may lie in one another yet. -/
def keyF : Nat → List Ar → Nat → Rs Ky
  | 0, _, _ => .bad 4
  | f + 1, l, c => if 60 < c + 1 then .bad 4 else match l with
    | [] => .bad 3
    | a :: r => if a.kind = 3 then (keysF (keyF f) a.list (c + 1)).then fun k _ c => .ok k r c else wordK (keyF f) a.text r (c + 1)
def parseK (l : List Ar) : Rs Ky := keysF (keyF 7) l 0

/-- A letter, and where it stands. -/
structure Lt where
  uid : Int
  flags : List Tx
  day : Int
  text : Tx
  which : Int
  many : Int
  greatest : Int
def hasT (text part : Tx) : Bool := Lib.contains (Hd.small text) (Hd.small part)
def fieldT (text name said : Tx) : Bool := decide ((Hd.fieldsOf text).1.1 = 0) && (Hd.onlyF (Hd.fieldsOf text).2 [name]).any fun f => hasT f.2 said
def setI (r : List (Nat × Nat)) : List (Int × Int) := r.map fun x => ((x.1 : Int), (x.2 : Int))
mutual
def holdsK (m : Lt) : Ky → Bool
  | .mk code name text n set keys =>
    if code = 1 then true
    else if code = 2 then m.flags.contains name
    else if code = 3 then fieldT m.text name text
    else if code = 4 then hasT (Hd.bodyOf m.text) text
    else if code = 5 then hasT m.text text
    else if code = 6 then decide (n < (m.text.length : Int))
    else if code = 7 then decide ((m.text.length : Int) < n)
    else if code = 8 then decide (m.day < n)
    else if code = 9 then decide (m.day = n)
    else if code = 10 then decide (n ≤ m.day)
    else if code = 11 then hasSet m.uid m.greatest (setI set)
    else if code = 12 then hasSet m.which m.many (setI set)
    else if code = 13 then notFirst m keys
    else if code = 14 then anyK m keys
    else if code = 15 then allK m keys
    else false
def notFirst (m : Lt) : List Ky → Bool
  | [] => false
  | k :: _ => !holdsK m k
def anyK (m : Lt) : List Ky → Bool
  | [] => false
  | k :: ks => holdsK m k || anyK m ks
def allK (m : Lt) : List Ky → Bool
  | [] => true
  | k :: ks => holdsK m k && allK m ks
end
theorem holds_not (m : Lt) (k : Ky) : holdsK m (notK k) = !holdsK m k := by rw [notK, holdsK]; simp [notFirst]
theorem holds_or (m : Lt) (a b : Ky) : holdsK m (.mk 14 [] [] 0 [] [a, b]) = (holdsK m a || holdsK m b) := by rw [holdsK]; simp [anyK]
theorem holds_and (m : Lt) (a b : Ky) : holdsK m (joinK [a, b]) = (holdsK m a && holdsK m b) := by
  show holdsK m (.mk 15 [] [] 0 [] [a, b]) = _
  rw [holdsK]; simp [allK]
end Go.Proofs.Sr
