/-
  What stands at a head: fields, as they are read and written. Of no program.
-/
import Derived.Test.YtfdlopimncodcaaGreatDoorMHeadSpec
import Derived.Lib.SlTrimSet
namespace Go.Proofs.Hd
open Go.Proofs.Sq

def blk (c : UInt8) : Bool := ([32, 9] : Tx).contains c
/-- A text without blanks and tabs at both ends. -/
def bare (s : Tx) : Tx := Lib.trimS s [32, 9]
/-- A text that has none at its ends. -/
def Trim (s : Tx) : Prop := (∀ c, s.head? = some c → blk c = false) ∧ ∀ c, s.getLast? = some c → blk c = false
theorem trim_nil : Trim [] := ⟨by simp, by simp⟩
theorem dropWhile_of_head {s : Tx} (h : ∀ c, s.head? = some c → blk c = false) : s.dropWhile (([32, 9] : Tx).contains ·) = s := by
  cases s with
  | nil => rfl
  | cons c r => rw [List.dropWhile_cons_of_neg]; have := h c rfl; unfold blk at this; rw [this]; simp
theorem bare_of_trim {s : Tx} (h : Trim s) : bare s = s := by
  have h1 : Lib.trimRightS s [32, 9] = s := by
    rw [Lib.trimRightS, dropWhile_of_head (by simpa using h.2), List.reverse_reverse]
  rw [bare, Lib.trimS, h1, Lib.trimLeftS, dropWhile_of_head h.1]
theorem dropWhile_head (s : Tx) : ∀ c, (s.dropWhile (([32, 9] : Tx).contains ·)).head? = some c → blk c = false := by
  induction s with
  | nil => simp
  | cons b r ih =>
    intro c h
    rw [List.dropWhile_cons] at h
    split at h
    · exact ih c h
    · next hb => simp at h; subst h; unfold blk; simpa using hb
theorem dropWhile_last {s : Tx} (h : ∀ c, s.getLast? = some c → blk c = false) : ∀ c, (s.dropWhile (([32, 9] : Tx).contains ·)).getLast? = some c → blk c = false := by
  induction s with
  | nil => simp
  | cons b r ih =>
    intro c hc
    rw [List.dropWhile_cons] at hc
    split at hc
    · cases r with
      | nil => simp at hc
      | cons d q => exact ih (fun x hx => h x (by rw [List.getLast?_cons_cons]; exact hx)) c hc
    · exact h c hc
theorem bare_trim (s : Tx) : Trim (bare s) := by
  constructor
  · exact dropWhile_head _
  · refine dropWhile_last ?_
    rw [Lib.trimRightS]
    intro c hc
    rw [List.getLast?_reverse] at hc
    exact dropWhile_head _ c hc
theorem bare_mem {s : Tx} {c : UInt8} (h : c ∈ bare s) : c ∈ s := by
  have h1 : c ∈ Lib.trimRightS s [32, 9] := (List.dropWhile_sublist _).subset h
  rw [Lib.trimRightS, List.mem_reverse] at h1
  exact List.mem_reverse.1 ((List.dropWhile_sublist _).subset h1)
theorem bare_length (s : Tx) : (bare s).length ≤ s.length := by
  have h1 : (Lib.trimRightS s [32, 9]).length ≤ s.length := by
    rw [Lib.trimRightS, List.length_reverse]
    exact Nat.le_trans (List.dropWhile_sublist _).length_le (by simp)
  exact Nat.le_trans (List.dropWhile_sublist _).length_le h1
theorem bare_blank {v : Tx} (h : Trim v) {a b : Tx} (ha : ∀ c ∈ a, blk c = true) (hb : ∀ c ∈ b, blk c = true) : bare (a ++ v ++ b) = v := by
  have dw : ∀ (x y : Tx), (∀ c ∈ x, blk c = true) → (x ++ y).dropWhile (([32, 9] : Tx).contains ·) = y.dropWhile (([32, 9] : Tx).contains ·) := by
    intro x
    induction x with
    | nil => intro y _; rfl
    | cons c x ih =>
      intro y hx
      have := hx c List.mem_cons_self
      unfold blk at this
      rw [List.cons_append, List.dropWhile_cons_of_pos this, ih y (fun d hd => hx d (List.mem_cons_of_mem _ hd))]
  have nil_of : ∀ (x : Tx), (∀ c ∈ x, blk c = true) → x.dropWhile (([32, 9] : Tx).contains ·) = [] := by
    intro x hx
    have := dw x [] hx
    simpa using this
  have r1 : Lib.trimRightS (a ++ v ++ b) [32, 9] = (if v = [] then [] else a ++ v) := by
    rw [Lib.trimRightS, List.reverse_append, dw _ _ (fun c hc => hb c (List.mem_reverse.1 hc)), List.reverse_append]
    by_cases hv : v = []
    · subst hv
      rw [if_pos rfl, List.reverse_nil, List.nil_append, nil_of _ (fun c hc => ha c (List.mem_reverse.1 hc))]; rfl
    · rw [if_neg hv, dropWhile_of_head]
      · simp
      · intro c hc
        refine h.2 c ?_
        cases hr : v.reverse with
        | nil => exact absurd (List.reverse_eq_nil_iff.1 hr) hv
        | cons d q =>
          rw [hr] at hc
          simp at hc
          subst hc
          rw [← List.head?_reverse, hr]; rfl
  rw [bare, Lib.trimS, r1]
  by_cases hv : v = []
  · subst hv; rfl
  · rw [if_neg hv, Lib.trimLeftS, dw _ _ ha, dropWhile_of_head h.1]

/-- A value, and more of it behind. -/
def joinV (v b : Tx) : Tx := if b = [] then v else if v = [] then b else v ++ 32 :: b
theorem joinV_trim {v b : Tx} (hv : Trim v) (hb : Trim b) : Trim (joinV v b) := by
  unfold joinV
  split
  · exact hv
  · split
    · exact hb
    · next h1 h2 =>
      constructor
      · intro c hc
        refine hv.1 c ?_
        cases v with
        | nil => exact absurd rfl h2
        | cons d q => simpa using hc
      · intro c hc
        refine hb.2 c ?_
        rw [List.getLast?_append, List.getLast?_cons] at hc
        cases hx : b.getLast? with
        | none => exact absurd (List.getLast?_eq_none_iff.1 hx) h1
        | some d => rw [hx] at hc; simpa using hc
theorem joinV_mem {v b : Tx} {c : UInt8} (h : c ∈ joinV v b) : c ∈ v ∨ c = 32 ∨ c ∈ b := by
  unfold joinV at h
  split at h
  · exact Or.inl h
  · split at h
    · exact Or.inr (Or.inr h)
    · rcases List.mem_append.1 h with h | h
      · exact Or.inl h
      · rcases List.mem_cons.1 h with h | h
        · exact Or.inr (Or.inl h)
        · exact Or.inr (Or.inr h)

abbrev Fd := Tx × Tx
def isBad (c : UInt8) : Bool := ([13, 10, 0] : Tx).contains c
def nameOk (n : Tx) : Bool := decide (n ≠ []) && decide (n.length ≤ 60) && n.all fun c => decide (33 ≤ c.toNat ∧ c.toNat ≤ 126)
/-- What the last field says grows. -/
def onto : List Fd → Tx → List Fd
  | [], _ => []
  | [f], b => [(f.1, joinV f.2 b)]
  | f :: g :: r, b => f :: onto (g :: r) b
def step (l : List Fd) (p : Tx) : Int × List Fd :=
  if p = [] then (0, l)
  else if p.any isBad then (3, [])
  else if blk (p.headD 0) then (if l = [] then (3, []) else (0, onto l (bare p)))
  else if (cutAt 58 p).2.2 = false ∨ nameOk (cutAt 58 p).1 = false then (3, [])
  else if l.length = 40 then (4, [])
  else (0, l ++ [((cutAt 58 p).1, bare (cutAt 58 p).2.1)])
/-- The pieces of a head, one by one: the error and its place (0: none), the fields. -/
def fieldsFrom (i : Nat) (l : List Fd) : List Tx → (Int × Nat) × List Fd
  | [] => ((0, 0), l)
  | p :: ps => if (step l p).1 = 0 then fieldsFrom (i + 1) (step l p).2 ps else (((step l p).1, i), [])
def headOf (s : Tx) : Tx := s.take (headLen true s)
def bodyOf (s : Tx) : Tx := s.drop (headLen true s)
def fieldsOf (s : Tx) : (Int × Nat) × List Fd := fieldsFrom 0 [] (pieces (headOf s))
def lineOf (f : Fd) : Tx := f.1 ++ 58 :: 32 :: f.2
def printed : List Fd → Tx
  | [] => [13, 10]
  | f :: r => lineOf f ++ 13 :: 10 :: printed r
/-- What a field may be. -/
structure Good (f : Fd) : Prop where
  name : nameOk f.1 = true
  colon : 58 ∉ f.1
  clean : ∀ c ∈ f.2, isBad c = false
  trim : Trim f.2
theorem onto_good : ∀ {l : List Fd} {b : Tx}, (∀ f ∈ l, Good f) → (∀ c ∈ b, isBad c = false) → Trim b → ∀ f ∈ onto l b, Good f
  | [], _, _, _, _, f, hf => by simp [onto] at hf
  | [g], b, h, hb, ht, f, hf => by
    have hg := h g List.mem_cons_self
    rw [onto, List.mem_singleton] at hf
    subst hf
    refine ⟨hg.name, hg.colon, fun c hc => ?_, joinV_trim hg.trim ht⟩
    rcases joinV_mem hc with h1 | h1 | h1
    · exact hg.clean c h1
    · subst h1; decide
    · exact hb c h1
  | g :: k :: r, b, h, hb, ht, f, hf => by
    rw [onto] at hf
    rcases List.mem_cons.1 hf with rfl | hf
    · exact h _ List.mem_cons_self
    · exact onto_good (fun x hx => h x (List.mem_cons_of_mem _ hx)) hb ht f hf
theorem onto_length : ∀ (l : List Fd) (b : Tx), (onto l b).length = l.length
  | [], _ => rfl
  | [_], _ => rfl
  | _ :: k :: r, b => by rw [onto, List.length_cons, onto_length (k :: r) b]; rfl
theorem cutAt_parts (c : UInt8) : ∀ (s : Tx), (cutAt c s).2.2 = true → s = (cutAt c s).1 ++ c :: (cutAt c s).2.1 ∧ c ∉ (cutAt c s).1
  | [], h => by simp [cutAt] at h
  | b :: r, h => by
    rw [cutAt] at h ⊢
    split at h
    · next hb => rw [if_pos hb]; subst hb; simp
    · next hb =>
      rw [if_neg hb]
      obtain ⟨h1, h2⟩ := cutAt_parts c r h
      refine ⟨by rw [List.cons_append, ← h1], ?_⟩
      simp only [List.mem_cons, not_or]
      exact ⟨fun e => hb e.symm, h2⟩
theorem cutAt_of {c : UInt8} : ∀ {a : Tx} (b : Tx), c ∉ a → cutAt c (a ++ c :: b) = (a, b, true)
  | [], b, _ => by simp [cutAt]
  | d :: a, b, h => by
    have hd : d ≠ c := fun e => h (by simp [e])
    rw [List.cons_append, cutAt, if_neg hd, cutAt_of b (fun hm => h (List.mem_cons_of_mem _ hm))]
theorem step_good {l : List Fd} {p : Tx} (hl : ∀ f ∈ l, Good f) (hn : l.length ≤ 40) (h0 : (step l p).1 = 0) : (∀ f ∈ (step l p).2, Good f) ∧ (step l p).2.length ≤ 40 := by
  unfold step at h0 ⊢
  split at h0
  · next h1 => rw [if_pos h1]; exact ⟨hl, hn⟩
  · next h1 =>
    rw [if_neg h1]
    split at h0
    · simp at h0
    · next h2 =>
      rw [if_neg h2]
      have hcl : ∀ c ∈ p, isBad c = false := by
        intro c hc
        cases hb : isBad c with
        | false => rfl
        | true => exact absurd (List.any_eq_true.2 ⟨c, hc, hb⟩) h2
      split at h0
      · next h3 =>
        rw [if_pos h3]
        split at h0
        · simp at h0
        · next h4 =>
          rw [if_neg h4]
          exact ⟨onto_good hl (fun c hc => hcl c (bare_mem hc)) (bare_trim p), by rw [onto_length]; exact hn⟩
      · next h3 =>
        rw [if_neg h3]
        split at h0
        · simp at h0
        · next h4 =>
          rw [if_neg h4]
          split at h0
          · simp at h0
          · next h5 =>
            rw [if_neg h5]
            rw [_root_.not_or] at h4
            have hc : (cutAt 58 p).2.2 = true := by simpa using h4.1
            obtain ⟨e1, e2⟩ := cutAt_parts 58 p hc
            refine ⟨fun f hf => ?_, by simp; omega⟩
            rcases List.mem_append.1 hf with hf | hf
            · exact hl f hf
            · obtain rfl := List.mem_singleton.1 hf
              refine ⟨by simpa using h4.2, e2, fun c hc => hcl c ?_, bare_trim _⟩
              rw [e1]
              exact List.mem_append_right _ (List.mem_cons_of_mem _ (bare_mem hc))
theorem fieldsFrom_good : ∀ (ps : List Tx) (i : Nat) (l : List Fd), (∀ f ∈ l, Good f) → l.length ≤ 40 → (∀ f ∈ (fieldsFrom i l ps).2, Good f) ∧ (fieldsFrom i l ps).2.length ≤ 40
  | [], _, _, hl, hn => ⟨hl, hn⟩
  | p :: ps, i, l, hl, hn => by
    rw [fieldsFrom]
    split
    · next h0 => exact fieldsFrom_good ps _ _ (step_good hl hn h0).1 (step_good hl hn h0).2
    · exact ⟨by simp, by simp⟩
theorem fieldsOf_good (s : Tx) : (∀ f ∈ (fieldsOf s).2, Good f) ∧ (fieldsOf s).2.length ≤ 40 := fieldsFrom_good _ _ _ (by simp) (by simp)
theorem name_byte {n : Tx} (h : nameOk n = true) : ∀ c ∈ n, 33 ≤ c.toNat ∧ c.toNat ≤ 126 := by
  unfold nameOk at h
  rw [Bool.and_eq_true, List.all_eq_true] at h
  intro c hc
  simpa using h.2 c hc
theorem name_ne {n : Tx} (h : nameOk n = true) : n ≠ [] ∧ n.length ≤ 60 := by
  unfold nameOk at h
  simp only [Bool.and_eq_true, decide_eq_true_eq] at h
  exact h.1
theorem line_clean {f : Fd} (h : Good f) : ∀ c ∈ lineOf f, isBad c = false := by
  intro c hc
  rcases List.mem_append.1 hc with h1 | h1
  · have := name_byte h.name c h1
    unfold isBad
    simp only [List.contains_eq_mem, List.mem_cons, List.not_mem_nil, or_false, decide_eq_false_iff_not]
    rintro (rfl | rfl | rfl)
    · have : (13 : UInt8).toNat = 13 := rfl; omega
    · have : (10 : UInt8).toNat = 10 := rfl; omega
    · have : (0 : UInt8).toNat = 0 := rfl; omega
  · rcases List.mem_cons.1 h1 with rfl | h1
    · decide
    · rcases List.mem_cons.1 h1 with rfl | h1
      · decide
      · exact h.clean c h1
theorem line_13 {f : Fd} (h : Good f) : 13 ∉ lineOf f := fun hm => by have := line_clean h 13 hm; exact absurd this (by decide)
theorem line_ne (f : Fd) : lineOf f ≠ [] := by unfold lineOf; simp
theorem headLen_printed : ∀ (l : List Fd) (body : Tx), (∀ f ∈ l, Good f) → headLen true (printed l ++ body) = (printed l).length
  | [], body, _ => by simp [printed, headLen]
  | f :: r, body, h => by
    have hf := h f List.mem_cons_self
    have ih := headLen_printed r body (fun x hx => h x (List.mem_cons_of_mem _ hx))
    rw [printed, List.append_assoc, List.cons_append, List.cons_append, headLen_line (line_13 hf) (line_ne f), ih]
    simp only [List.length_append, List.length_cons]
    omega
theorem head_printed {l : List Fd} (body : Tx) (h : ∀ f ∈ l, Good f) : headOf (printed l ++ body) = printed l ∧ bodyOf (printed l ++ body) = body := by
  unfold headOf bodyOf
  rw [headLen_printed l body h]
  simp
theorem pieces_printed : ∀ (l : List Fd), (∀ f ∈ l, Good f) → pieces (printed l) = l.map lineOf ++ [[], []]
  | [], _ => by simp [printed, pieces]
  | f :: r, h => by
    rw [printed, pieces_line (line_13 (h f List.mem_cons_self)), pieces_printed r (fun x hx => h x (List.mem_cons_of_mem _ hx))]
    rfl
theorem step_line {l : List Fd} {f : Fd} (h : Good f) (hl : l.length < 40) : step l (lineOf f) = (0, l ++ [f]) := by
  unfold step
  have hn := name_ne h.name
  have hh : blk ((lineOf f).headD 0) = false := by
    unfold lineOf
    cases hx : f.1 with
    | nil => exact absurd hx hn.1
    | cons c q =>
      have := name_byte h.name c (by rw [hx]; exact List.mem_cons_self)
      show blk c = false
      unfold blk
      simp only [List.contains_eq_mem, List.mem_cons, List.not_mem_nil, or_false, decide_eq_false_iff_not]
      rintro (rfl | rfl)
      · have : (32 : UInt8).toNat = 32 := rfl; omega
      · have : (9 : UInt8).toNat = 9 := rfl; omega
  have hb : (lineOf f).any isBad = false := by
    rw [List.any_eq_false]
    intro c hc
    simp [line_clean h c hc]
  have hcut : cutAt 58 (lineOf f) = (f.1, 32 :: f.2, true) := cutAt_of _ h.colon
  have hbare : bare (32 :: f.2) = f.2 := by
    have := bare_blank h.trim (a := [32]) (b := []) (by decide) (by simp)
    simpa using this
  rw [if_neg (line_ne f), hb, if_neg (by simp), hh, if_neg (by simp), hcut]
  simp only [h.name, hbare]
  rw [if_neg (by simp), if_neg (by omega)]
theorem fieldsFrom_printed : ∀ (l : List Fd) (i : Nat) (acc : List Fd), (∀ f ∈ l, Good f) → acc.length + l.length ≤ 40 → fieldsFrom i acc (l.map lineOf ++ [[], []]) = ((0, 0), acc ++ l)
  | [], i, acc, _, _ => by simp [fieldsFrom, step]
  | f :: r, i, acc, h, hn => by
    have hf := h f List.mem_cons_self
    simp only [List.length_cons] at hn
    rw [List.map_cons, List.cons_append, fieldsFrom, step_line hf (by omega), if_pos rfl, fieldsFrom_printed r _ _ (fun x hx => h x (List.mem_cons_of_mem _ hx)) (by simp; omega)]
    simp
/-- What is written is read again, whatever stands behind it. -/
theorem fields_printed {l : List Fd} (body : Tx) (h : ∀ f ∈ l, Good f) (hn : l.length ≤ 40) : fieldsOf (printed l ++ body) = ((0, 0), l) := by
  unfold fieldsOf
  rw [(head_printed body h).1, pieces_printed l h, fieldsFrom_printed l 0 [] h (by simpa using hn)]
  rfl

/-- What the first field of a name says; those of some names. -/
def getF (l : List Fd) (n : Tx) : Option Tx := (l.find? fun f => decide (small f.1 = small n)).map (·.2)
def onlyF (l : List Fd) (names : List Tx) : List Fd := l.filter fun f => (names.map small).contains (small f.1)
theorem getF_small (l : List Fd) (n : Tx) : getF l (small n) = getF l n := by unfold getF; rw [small_small]
theorem getF_great (l : List Fd) (n : Tx) : getF l (great n) = getF l n := by unfold getF; rw [small_great]
theorem onlyF_small (l : List Fd) (n : Tx) : onlyF l [small n] = onlyF l [n] := by unfold onlyF; simp [small_small]
theorem onlyF_great (l : List Fd) (n : Tx) : onlyF l [great n] = onlyF l [n] := by unfold onlyF; simp [small_great]
theorem getF_only (l : List Fd) (n : Tx) : getF l n = (onlyF l [n]).head?.map (·.2) := by
  unfold getF onlyF
  rw [List.head?_filter]
  congr 2
  funext f
  simp
theorem getF_of_mem {l : List Fd} {f : Fd} {n : Tx} (hf : f ∈ l) (h : small n = small f.1) : (getF l n).isSome = true := by
  unfold getF
  rw [Option.isSome_map, List.find?_isSome]
  exact ⟨f, hf, by simp [h]⟩
theorem getF_first {f : Fd} {r : List Fd} {n : Tx} (h : small n = small f.1) : getF (f :: r) n = some f.2 := by
  unfold getF
  rw [List.find?_cons_of_pos (by simp [h])]
  rfl

/-- What a parameter says. -/
def unq (s : Tx) : Tx := if 2 ≤ s.length ∧ s.head? = some 34 ∧ s.getLast? = some 34 then s.tail.dropLast else s
def isParam (n p : Tx) : Bool := (cutAt 61 p).2.2 && decide (small (bare (cutAt 61 p).1) = small n)
def paramOf (v n : Tx) : Option Tx := ((between 59 v).tail.find? (isParam n)).map fun p => unq (bare (cutAt 61 p).2.1)
theorem between_of {c : UInt8} : ∀ {a : Tx} (b : Tx), c ∉ a → between c (a ++ c :: b) = a :: between c b
  | [], b, _ => by simp [between]
  | d :: a, b, h => by
    have hd : d ≠ c := fun e => h (by simp [e])
    rw [List.cons_append, between, if_neg hd, between_of b (fun hm => h (List.mem_cons_of_mem _ hm))]
    rfl
theorem between_one {c : UInt8} {a : Tx} (h : c ∉ a) : between c a = [a] := between_none h
theorem trim_of_free {v : Tx} (h : ∀ c ∈ v, blk c = false) : Trim v := ⟨fun c hc => h c (List.mem_of_mem_head? hc), fun c hc => h c (List.mem_of_mem_getLast? hc)⟩
/-- A parameter among others, with blanks around. -/
theorem param_among {v : Tx} (h : ∀ c ∈ v, ([59, 34, 61, 32, 9] : Tx).contains c = false) : paramOf ([120, 59, 32, 121, 61, 122, 59, 32, 80, 32, 61, 32] ++ v ++ [32, 59, 113]) [112] = some v := by
  have h59 : (59 : UInt8) ∉ v := fun hm => absurd (h 59 hm) (by decide)
  have h34 : (34 : UInt8) ∉ v := fun hm => absurd (h 34 hm) (by decide)
  have hb : ∀ c ∈ v, blk c = false := by
    intro c hc
    have := h c hc
    unfold blk
    simp only [List.contains_eq_mem, List.mem_cons, List.not_mem_nil, or_false, decide_eq_false_iff_not, _root_.not_or] at this ⊢
    exact ⟨this.2.2.2.1, this.2.2.2.2⟩
  have ht := trim_of_free hb
  have e1 : ([120, 59, 32, 121, 61, 122, 59, 32, 80, 32, 61, 32] ++ v ++ [32, 59, 113] : Tx) = [120] ++ 59 :: ([32, 121, 61, 122] ++ 59 :: (([32, 80, 32, 61, 32] ++ v ++ [32]) ++ 59 :: [113])) := by simp
  have b3 : (59 : UInt8) ∉ ([32, 80, 32, 61, 32] ++ v ++ [32] : Tx) := by simp [h59]
  have hbt : between 59 ([120, 59, 32, 121, 61, 122, 59, 32, 80, 32, 61, 32] ++ v ++ [32, 59, 113]) = [[120], [32, 121, 61, 122], [32, 80, 32, 61, 32] ++ v ++ [32], [113]] := by
    rw [e1, between_of _ (by decide), between_of _ (by decide), between_of _ b3, between_one (by decide)]
  have c3 : cutAt 61 ([32, 80, 32, 61, 32] ++ v ++ [32]) = ([32, 80, 32], [32] ++ v ++ [32], true) := by
    have := cutAt_of (c := 61) (a := [32, 80, 32]) ([32] ++ v ++ [32]) (by decide)
    simpa using this
  have s3 : bare ([32] ++ v ++ [32]) = v := bare_blank ht (by decide) (by decide)
  have n2 : isParam [112] [32, 121, 61, 122] = false := by decide
  have n3 : isParam [112] ([32, 80, 32, 61, 32] ++ v ++ [32]) = true := by
    unfold isParam
    rw [c3]
    show (true && decide (small (bare [32, 80, 32]) = small [112])) = true
    decide
  unfold paramOf
  rw [hbt, List.tail_cons, List.find?_cons_of_neg (by simp [n2]), List.find?_cons_of_pos n3, Option.map_some, c3]
  show some (unq (bare ([32] ++ v ++ [32]))) = some v
  rw [s3]
  unfold unq
  rw [if_neg]
  rintro ⟨_, h1, _⟩
  exact h34 (List.mem_of_mem_head? h1)
/-- A parameter in quotes. -/
theorem param_quoted {v : Tx} (h : ∀ c ∈ v, ([59, 34, 61, 32, 9] : Tx).contains c = false) : paramOf ([120, 59, 32, 112, 61, 34] ++ v ++ [34]) [80] = some v := by
  have h59 : (59 : UInt8) ∉ v := fun hm => absurd (h 59 hm) (by decide)
  have e1 : ([120, 59, 32, 112, 61, 34] ++ v ++ [34] : Tx) = [120] ++ 59 :: ([32, 112, 61, 34] ++ v ++ [34]) := by simp
  have b2 : (59 : UInt8) ∉ ([32, 112, 61, 34] ++ v ++ [34] : Tx) := by simp [h59]
  have hbt : between 59 ([120, 59, 32, 112, 61, 34] ++ v ++ [34]) = [[120], [32, 112, 61, 34] ++ v ++ [34]] := by
    rw [e1, between_of _ (by decide), between_one b2]
  have c2 : cutAt 61 ([32, 112, 61, 34] ++ v ++ [34]) = ([32, 112], [34] ++ v ++ [34], true) := by
    have := cutAt_of (c := 61) (a := [32, 112]) ([34] ++ v ++ [34]) (by decide)
    simpa using this
  have ht : Trim ([34] ++ v ++ [34]) := ⟨fun c hc => by simp at hc; subst hc; decide, fun c hc => by rw [List.getLast?_append] at hc; simp at hc; subst hc; decide⟩
  have n2 : isParam [80] ([32, 112, 61, 34] ++ v ++ [34]) = true := by
    unfold isParam
    rw [c2]
    show (true && decide (small (bare [32, 112]) = small [80])) = true
    decide
  unfold paramOf
  rw [hbt, List.tail_cons, List.find?_cons_of_pos n2, Option.map_some, c2]
  show some (unq (bare ([34] ++ v ++ [34]))) = some v
  rw [bare_of_trim ht]
  unfold unq
  rw [if_pos ⟨by simp, by simp, by rw [List.getLast?_append]; simp⟩]
  simp
/-- What stands ahead of the first semicolon is no parameter. -/
theorem param_first {v : Tx} (h : ∀ c ∈ v, ([59, 34, 61, 32, 9] : Tx).contains c = false) : paramOf ([112, 61] ++ v) [112] = none := by
  have h59 : (59 : UInt8) ∉ v := fun hm => absurd (h 59 hm) (by decide)
  unfold paramOf
  rw [between_one (by simp [h59])]
  rfl
end Go.Proofs.Hd
