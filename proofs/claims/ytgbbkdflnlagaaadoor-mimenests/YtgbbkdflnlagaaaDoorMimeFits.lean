/-
  The parts of a text are no greater than the text. Of no program.
-/
import Derived.Test.YtgbbkdflnlagaaaDoorMimeTies
import Derived.Test.YtgbbkdflnlagaaaDoorHeadBounds
namespace Go.Proofs.Mm
open Go.Proofs.Sq Go.Proofs.Hd

mutual
/-- Types, places and counts are within a bound. -/
def Fits (B : Nat) : Pt → Prop
  | .mk t _ lo hi n ps => t.length ≤ B ∧ lo ≤ hi ∧ hi ≤ B ∧ n ≤ B ∧ FitsAll B ps
def FitsAll (B : Nat) : List Pt → Prop
  | [] => True
  | p :: ps => Fits B p ∧ FitsAll B ps
end
theorem fitsAll_get {B : Nat} : ∀ {ps : List Pt} {j : Nat} {p : Pt}, FitsAll B ps → ps[j]? = some p → Fits B p
  | [], _, _, _, h => by simp at h
  | q :: ps, 0, p, hf, h => by simp at h; subst h; exact hf.1
  | q :: ps, j + 1, p, hf, h => fitsAll_get hf.2 (by simpa using h)
theorem cut_len1 (c : UInt8) : ∀ s : Tx, (cutAt c s).1.length ≤ s.length
  | [] => by simp [cutAt]
  | b :: r => by
    have ih := cut_len1 c r
    rw [cutAt]
    split
    · simp
    · simp only [List.length_cons]; omega
theorem getF_in {l : List Hd.Fd} {n v : Tx} (h : getF l n = some v) : ∃ f ∈ l, f.2 = v := by
  unfold getF at h
  obtain ⟨f, hf, rfl⟩ := Option.map_eq_some_iff.1 h
  exact ⟨f, List.mem_of_find?_eq_some hf, rfl⟩
theorem kind_len1 (h : Tx) : (kindOf h).1.length ≤ h.length + 11 := by
  have hp : plainT.length = 10 := rfl
  unfold kindOf
  split
  · split
    · show plainT.length ≤ _; omega
    · next v hv =>
      obtain ⟨f, hf, rfl⟩ := getF_in hv
      have h1 := values_short h f hf
      have h2 := bare_length (cutAt 59 f.2).1
      have h3 := cut_len1 59 f.2
      have h4 := small_length (bare (cutAt 59 f.2).1)
      unfold kindV
      split
      · show (small (bare (cutAt 59 f.2).1)).length ≤ _; omega
      · show (small (bare (cutAt 59 f.2).1)).length ≤ _; omega
  · show plainT.length ≤ _; omega
theorem headOf_length (t : Tx) : (headOf t).length ≤ t.length := by unfold headOf; rw [List.length_take]; omega
theorem partsF_fits {g : Nat → Nat → Nat → Nat × Option Pt} {B top : Nat} (hg : ∀ lo hi c p, lo ≤ hi → hi ≤ top → (g lo hi c).2 = some p → Fits B p) : ∀ (l : List (Nat × Nat)) (c a b : Nat) (ps : List Pt), b ≤ top → InRow l a b → (partsF g l c).2 = some ps → FitsAll B ps
  | [], c, a, b, ps, _, _, h => by cases h; trivial
  | s :: r, c, a, b, ps, hb, hr, h => by
    rw [partsF] at h
    split at h
    · cases h
    · next c1 p hq =>
      split at h
      · cases h
      · next c2 qs hp2 =>
        cases h
        exact ⟨hg s.1 s.2 c p hr.2.1 (Nat.le_trans hr.2.2.1 hb) (by rw [hq]), partsF_fits hg r c1 s.2 b qs hb hr.2.2.2 (by rw [hp2])⟩
theorem partF_fits (s : Tx) : ∀ (f lo hi c : Nat) (p : Pt), lo ≤ hi → hi ≤ s.length → (partF s f lo hi c).2 = some p → Fits (s.length + 11) p
  | 0, lo, hi, c, p, _, _, h => by cases h
  | f + 1, lo, hi, c, p, h1, h2, h => by
    have hT : (textOf s lo hi).length ≤ s.length := by rw [textOf_length s h1 h2]; omega
    have hbl : (bodyOf (textOf s lo hi)).length ≤ hi - lo := by have := bodyOf_length (textOf s lo hi); rw [textOf_length s h1 h2] at this; exact this
    have hk := kind_len1 (headOf (textOf s lo hi))
    have hhl := headOf_length (textOf s lo hi)
    have hcn : (bodyOf (textOf s lo hi)).count 10 ≤ hi - lo := Nat.le_trans List.count_le_length hbl
    rw [partF] at h
    split at h
    · cases h
    · split at h
      · cases h
        exact ⟨by omega, by omega, by omega, by omega, trivial⟩
      · split at h
        · cases h
        · next c' ps hps =>
          cases h
          refine ⟨by omega, by omega, by omega, by omega, ?_⟩
          have hrow := (inside_row (bodyOf (textOf s lo hi)) (45 :: 45 :: (kindOf (headOf (textOf s lo hi))).2)).shift (hi - (bodyOf (textOf s lo hi)).length)
          rw [show (bodyOf (textOf s lo hi)).length + (hi - (bodyOf (textOf s lo hi)).length) = hi by omega, Nat.zero_add] at hrow
          exact partsF_fits (fun lo hi c p h3 h4 h5 => partF_fits s f lo hi c p h3 h4 h5) _ _ _ _ _ h2 hrow (by rw [hps])
theorem parse_fits {s : Tx} {p : Pt} (h : parseP s = some p) : Fits (s.length + 11) p := partF_fits s 7 0 s.length 0 p (Nat.zero_le _) (Nat.le_refl _) h
end Go.Proofs.Mm
