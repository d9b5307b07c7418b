/-
  Messages in parts, plain mathematics: what a head says of its body, where parts lie, the tree of parts, which one numbers lead to, how they are written. Of no program.
-/
import Derived.Test.YtgbbkdflnlagaaaGreatDoorHeadFields
namespace Go.Proofs.Mm
open Go.Proofs.Sq Go.Proofs.Hd

/-- text/plain, multipart/, content-type, boundary. -/
def plainT : Tx := [116, 101, 120, 116, 47, 112, 108, 97, 105, 110]
def multiT : Tx := [109, 117, 108, 116, 105, 112, 97, 114, 116, 47]
def ctypeT : Tx := [99, 111, 110, 116, 101, 110, 116, 45, 116, 121, 112, 101]
def bndryT : Tx := [98, 111, 117, 110, 100, 97, 114, 121]
/-- Of what a field says: the type, and the boundary. -/
def kindV (v : Tx) : Tx × Tx :=
  if multiT.isPrefixOf (small (bare (cutAt 59 v).1)) then (small (bare (cutAt 59 v).1), (paramOf v bndryT).getD []) else (small (bare (cutAt 59 v).1), [])
def kindOf (h : Tx) : Tx × Tx :=
  if (fieldsOf h).1.1 = 0 then (match getF (fieldsOf h).2 ctypeT with
    | none => (plainT, [])
    | some v => kindV v) else (plainT, [])
/-- A text without blanks and tabs at its end. -/
def rtrim (l : Tx) : Tx := Lib.trimRightS l [32, 9]
/-- What began is ended. -/
def close : Option Nat → Nat → List (Nat × Nat)
  | none, _ => []
  | some b, e => [(b, max b e)]
/-- Where the parts of a body of n bytes lie: line by line from a place on; one began, perhaps. -/
def spans (n : Nat) (mark : Tx) : Nat → Option Nat → List Tx → List (Nat × Nat)
  | _, beg, [] => close beg n
  | place, beg, line :: ls =>
    if rtrim line = mark then close beg (place - 2) ++ spans n mark (min (place + line.length + 2) n) (some (min (place + line.length + 2) n)) ls
    else if rtrim line = mark ++ [45, 45] then close beg (place - 2)
    else spans n mark (min (place + line.length + 2) n) beg ls
def insideOf (body mark : Tx) : List (Nat × Nat) := spans body.length mark 0 none (pieces body)

inductive Pt where
  | mk (type bnd : Tx) (lo hi lines : Nat) (parts : List Pt) : Pt
def Pt.type : Pt → Tx | .mk t _ _ _ _ _ => t
def Pt.bnd : Pt → Tx | .mk _ b _ _ _ _ => b
def Pt.lo : Pt → Nat | .mk _ _ l _ _ _ => l
def Pt.hi : Pt → Nat | .mk _ _ _ h _ _ => h
def Pt.lines : Pt → Nat | .mk _ _ _ _ n _ => n
def Pt.parts : Pt → List Pt | .mk _ _ _ _ _ ps => ps

def partsF (g : Nat → Nat → Nat → Nat × Option Pt) : List (Nat × Nat) → Nat → Nat × Option (List Pt)
  | [], c => (c, some [])
  | s :: r, c => match g s.1 s.2 c with
    | (c1, none) => (c1, none)
    | (c1, some p) => match partsF g r c1 with
      | (c2, none) => (c2, none)
      | (c2, some ps) => (c2, some (p :: ps))
def textOf (s : Tx) (lo hi : Nat) : Tx := (s.drop lo).take (hi - lo)
/-- What lies from lo to hi of s, as a part, with all that are in it; so many were counted, and so many may lie in one another. -/
def partF (s : Tx) : Nat → Nat → Nat → Nat → Nat × Option Pt
  | 0, _, _, c => (c + 1, none)
  | f + 1, lo, hi, c =>
    if 30 < c + 1 then (c + 1, none) else
    if (kindOf (headOf (textOf s lo hi))).2 = [] then (c + 1, some (.mk (kindOf (headOf (textOf s lo hi))).1 [] (hi - (bodyOf (textOf s lo hi)).length) hi ((bodyOf (textOf s lo hi)).count 10) []))
    else match partsF (partF s f) ((insideOf (bodyOf (textOf s lo hi)) (45 :: 45 :: (kindOf (headOf (textOf s lo hi))).2)).map fun x => (x.1 + (hi - (bodyOf (textOf s lo hi)).length), x.2 + (hi - (bodyOf (textOf s lo hi)).length))) (c + 1) with
      | (c', none) => (c', none)
      | (c', some ps) => (c', some (.mk (kindOf (headOf (textOf s lo hi))).1 (kindOf (headOf (textOf s lo hi))).2 (hi - (bodyOf (textOf s lo hi)).length) hi ((bodyOf (textOf s lo hi)).count 10) ps))
def parseP (s : Tx) : Option Pt := (partF s 7 0 s.length 0).2
/-- The part that numbers lead to. -/
def findP : Pt → List Int → Option Pt
  | p, [] => some p
  | p, n :: r => if p.parts = [] ∧ n = 1 ∧ r = [] then some p else if n < 1 ∨ (p.parts.length : Int) < n then none else match p.parts[(n - 1).toNat]? with
    | none => none
    | some q => findP q r
mutual
/-- Each within the one that it is of, one behind the other. -/
def Inside : Pt → Nat → Nat → Prop
  | .mk _ _ lo hi _ ps, a, b => a ≤ lo ∧ hi ≤ b ∧ lo ≤ hi ∧ Row ps lo hi
def Row : List Pt → Nat → Nat → Prop
  | [], _, _ => True
  | p :: ps, a, b => Inside p a b ∧ Row ps p.hi b
end
mutual
def countP : Pt → Nat
  | .mk _ _ _ _ _ ps => 1 + countPs ps
def countPs : List Pt → Nat
  | [] => 0
  | p :: ps => countP p + countPs ps
end

/-- Spans in a row. -/
def InRow : List (Nat × Nat) → Nat → Nat → Prop
  | [], _, _ => True
  | s :: r, a, b => a ≤ s.1 ∧ s.1 ≤ s.2 ∧ s.2 ≤ b ∧ InRow r s.2 b
theorem InRow.from {l : List (Nat × Nat)} {a a' b : Nat} (h : InRow l a b) (ha : a' ≤ a) : InRow l a' b := by
  cases l with
  | nil => trivial
  | cons s r => exact ⟨Nat.le_trans ha h.1, h.2⟩
theorem InRow.shift : ∀ {l : List (Nat × Nat)} {a b : Nat} (d : Nat), InRow l a b → InRow (l.map fun x => (x.1 + d, x.2 + d)) (a + d) (b + d)
  | [], _, _, _, _ => trivial
  | s :: r, a, b, d, h => by
    refine ⟨?_, ?_, ?_, h.2.2.2.shift d⟩
    · have := h.1; show _ ≤ s.1 + d; omega
    · have := h.2.1; show s.1 + d ≤ s.2 + d; omega
    · have := h.2.2.1; show s.2 + d ≤ _; omega
/-- How long lines are together. -/
def room : List Tx → Nat
  | [] => 0
  | l :: ls => l.length + 2 + room ls
theorem spans_row (n : Nat) (mark : Tx) : ∀ (ls : List Tx) (place : Nat) (beg : Option Nat) (a : Nat), place ≤ n → (∀ b, beg = some b → a ≤ b ∧ b ≤ place) → (beg = none → a ≤ place) → InRow (spans n mark place beg ls) a n
  | [], place, beg, a, hp, hb, hn => by
    cases beg with
    | none => trivial
    | some b =>
      have := hb b rfl
      exact ⟨this.1, Nat.le_max_left _ _, by show max b n ≤ n; omega, trivial⟩
  | line :: ls, place, beg, a, hp, hb, hn => by
    rw [spans]
    have hcl : ∀ e r, e ≤ place → InRow r place n → InRow (close beg e ++ r) a n := by
      intro e r he hr
      cases beg with
      | none => exact InRow.from hr (hn rfl)
      | some b =>
        have := hb b rfl
        exact ⟨this.1, Nat.le_max_left _ _, by show max b e ≤ n; omega, InRow.from hr (by show max b e ≤ place; omega)⟩
    have h1 : min (place + line.length + 2) n ≤ n := Nat.min_le_right _ _
    have h2 : place ≤ min (place + line.length + 2) n := by omega
    split
    · exact hcl _ _ (by omega) (spans_row n mark ls _ _ _ h1 (fun b hb => by cases hb; omega) (fun h => by cases h))
    · split
      · have := hcl (place - 2) [] (by omega) trivial
        rwa [List.append_nil] at this
      · exact spans_row n mark ls _ _ _ h1 (fun b h => by have := hb b h; omega) (fun h => by have := hn h; omega)
theorem inside_row (body mark : Tx) : InRow (insideOf body mark) 0 body.length := spans_row _ _ _ _ _ _ (Nat.zero_le _) (fun _ h => by cases h) (fun _ => Nat.le_refl _)
theorem textOf_length (s : Tx) {lo hi : Nat} (h1 : lo ≤ hi) (h2 : hi ≤ s.length) : (textOf s lo hi).length = hi - lo := by
  unfold textOf
  rw [List.length_take, List.length_drop]; omega
theorem bodyOf_length (t : Tx) : (bodyOf t).length ≤ t.length := by unfold bodyOf; rw [List.length_drop]; omega
theorem partsF_row {g : Nat → Nat → Nat → Nat × Option Pt} {top : Nat} (hg : ∀ lo hi c p, lo ≤ hi → hi ≤ top → (g lo hi c).2 = some p → Inside p lo hi ∧ p.hi = hi) : ∀ (l : List (Nat × Nat)) (c a b : Nat) (ps : List Pt), b ≤ top → InRow l a b → (partsF g l c).2 = some ps → Row ps a b
  | [], c, a, b, ps, _, _, h => by cases h; trivial
  | s :: r, c, a, b, ps, hb, hr, h => by
    rw [partsF] at h
    split at h
    · cases h
    · next c1 p hq =>
      split at h
      · cases h
      · next c2 qs hp2 =>
        cases h
        have := hg s.1 s.2 c p hr.2.1 (Nat.le_trans hr.2.2.1 hb) (by rw [hq])
        refine ⟨?_, ?_⟩
        · obtain ⟨t, bn, lo, hi, n, ks⟩ := p
          obtain ⟨h1, h2, h3, h4⟩ := this.1
          exact ⟨Nat.le_trans hr.1 h1, Nat.le_trans h2 hr.2.2.1, h3, h4⟩
        · rw [this.2]
          exact partsF_row hg r c1 s.2 b qs hb hr.2.2.2 (by rw [hp2])
theorem partF_inside (s : Tx) : ∀ (f lo hi c : Nat) (p : Pt), lo ≤ hi → hi ≤ s.length → (partF s f lo hi c).2 = some p → Inside p lo hi ∧ p.hi = hi
  | 0, lo, hi, c, p, _, _, h => by cases h
  | f + 1, lo, hi, c, p, h1, h2, h => by
    have hbl : (bodyOf (textOf s lo hi)).length ≤ hi - lo := by have := bodyOf_length (textOf s lo hi); rw [textOf_length s h1 h2] at this; exact this
    rw [partF] at h
    split at h
    · cases h
    · split at h
      · cases h
        exact ⟨⟨by omega, Nat.le_refl _, by omega, trivial⟩, rfl⟩
      · split at h
        · cases h
        · next c' ps hps =>
          cases h
          refine ⟨⟨by omega, Nat.le_refl _, by omega, ?_⟩, rfl⟩
          have hrow := (inside_row (bodyOf (textOf s lo hi)) (45 :: 45 :: (kindOf (headOf (textOf s lo hi))).2)).shift (hi - (bodyOf (textOf s lo hi)).length)
          rw [show (bodyOf (textOf s lo hi)).length + (hi - (bodyOf (textOf s lo hi)).length) = hi by omega, Nat.zero_add] at hrow
          exact partsF_row (fun lo hi c p h3 h4 h5 => partF_inside s f lo hi c p h3 h4 h5) _ _ _ _ _ h2 hrow (by rw [hps])
theorem parse_inside {s : Tx} {p : Pt} (h : parseP s = some p) : Inside p 0 s.length := (partF_inside s 7 0 s.length 0 p (Nat.zero_le _) (Nat.le_refl _) h).1
theorem partsF_count {g : Nat → Nat → Nat → Nat × Option Pt} (hg : ∀ lo hi c, c ≤ 30 → (∀ p, (g lo hi c).2 = some p → (g lo hi c).1 = c + countP p ∧ (g lo hi c).1 ≤ 30)) : ∀ (l : List (Nat × Nat)) (c : Nat) (ps : List Pt), c ≤ 30 → (partsF g l c).2 = some ps → (partsF g l c).1 = c + countPs ps ∧ (partsF g l c).1 ≤ 30
  | [], c, ps, hc, h => by cases h; exact ⟨rfl, hc⟩
  | s :: r, c, ps, hc, h => by
    rw [partsF] at h ⊢
    split at h
    · cases h
    · next c1 p hq =>
      have h1 := hg s.1 s.2 c hc p (by rw [hq])
      rw [hq] at h1
      split at h
      · cases h
      · next c2 qs hp2 =>
        cases h
        have h2 := partsF_count hg r c1 qs h1.2 (by rw [hp2])
        rw [hp2] at h2
        refine ⟨?_, h2.2⟩
        have e1 : c1 = c + countP p := h1.1
        have e2 : c2 = c1 + countPs qs := h2.1
        show c2 = c + countPs (p :: qs)
        rw [countPs]; omega
theorem partF_count (s : Tx) : ∀ (f lo hi c : Nat), c ≤ 30 → (∀ p, (partF s f lo hi c).2 = some p → (partF s f lo hi c).1 = c + countP p ∧ (partF s f lo hi c).1 ≤ 30)
  | 0, lo, hi, c, hc, p, h => by cases h
  | f + 1, lo, hi, c, hc, p, h => by
    rw [partF] at h ⊢
    split at h
    · cases h
    · next h30 =>
      rw [if_neg h30]
      split at h
      · next hk =>
        cases h
        rw [if_pos hk]
        exact ⟨by show c + 1 = _; rw [countP, countPs], by show c + 1 ≤ 30; omega⟩
      · next hk =>
        rw [if_neg hk]
        split at h
        · cases h
        · next c' ps hps =>
          cases h
          have h1 := partsF_count (fun lo hi c hc p h => partF_count s f lo hi c hc p h) _ (c + 1) ps (by omega) (by rw [hps])
          rw [hps] at h1
          refine ⟨?_, h1.2⟩
          have : c' = c + 1 + countPs ps := h1.1
          show c' = _
          rw [countP]; omega
theorem parse_count {s : Tx} {p : Pt} (h : parseP s = some p) : countP p ≤ 30 := by
  have := partF_count s 7 0 s.length 0 (by omega) p h
  omega
end Go.Proofs.Mm
