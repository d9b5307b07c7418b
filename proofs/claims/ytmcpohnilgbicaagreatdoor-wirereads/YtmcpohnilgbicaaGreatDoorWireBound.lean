/-
  Where a command's reader stands behind a part, and how many it counted. Plain mathematics.
-/
import Derived.Test.YtmcpohnilgbicaaGreatDoorWireCmd
namespace Go.Proofs.YtmcpohnilgbicaaGreatDoor
open Go.Proofs.Hd
open Go.Proofs.Sr (Ar)

theorem took_lt {s : Tx} {p : Nat} {x : UInt8} (h : tookW [x] s p = true) : p < s.length := (List.getElem?_eq_some_iff.1 (took_one.1 h)).1
theorem counted_ok {s : Tx} {p c p' c' : Nat} {t : Tx} (h : countedW s p c = .ok t p' c') : p' ≤ s.length ∧ c' = c := by
  have hcl : (Lib.cut ((s.drop p).drop 1) [125, 13, 10]).2.1.length ≤ s.length := by
    unfold Lib.cut
    split
    · simp only [List.length_drop]; omega
    · simp
  unfold countedW at h
  split at h
  · cases h
  · split at h
    · cases h
    · next n hn =>
      split at h
      · cases h
      · cases h
        exact ⟨by omega, rfl⟩
theorem quoted_ok {s : Tx} {c : Nat} : ∀ (f p : Nat) (acc t : Tx) (p' c' : Nat), quotedW s p c acc f = .ok t p' c' → p' ≤ s.length ∧ c' = c
  | 0, p, acc, t, p', c', h => by rw [quotedW] at h; cases h
  | f + 1, p, acc, t, p', c', h => by
    rw [quotedW] at h
    split at h
    · next h1 => cases h; exact ⟨took_lt h1, rfl⟩
    · split at h
      · split at h
        · cases h
        · exact quoted_ok f _ _ _ _ _ h
      · split at h
        · cases h
        · exact quoted_ok f _ _ _ _ _ h
theorem word_wok {s : Tx} {p c p' c' : Nat} {t : Tx} (hp : p ≤ s.length) (h : wordW s p c = .ok t p' c') : p' ≤ s.length ∧ c' = c := by
  unfold wordW at h
  split at h
  · cases h
  · cases h
    have := wordT_le (s.drop p)
    rw [List.length_drop] at this
    exact ⟨by omega, rfl⟩
theorem then_ok {α β : Type} {R : Wd α} {k : α → Nat → Nat → Wd β} {b : β} {p c : Nat} (h : R.then k = .ok b p c) : ∃ a p1 c1, R = .ok a p1 c1 ∧ k a p1 c1 = .ok b p c := by
  cases R with
  | bad e q => cases h
  | ok a p1 c1 => exact ⟨a, p1, c1, rfl, h⟩
theorem map_ok {α β : Type} {R : Wd α} {f : α → β} {b : β} {p c : Nat} (h : R.map f = .ok b p c) : ∃ a, R = .ok a p c ∧ f a = b := by
  cases R with
  | bad e q => cases h
  | ok a p1 c1 =>
    injection h with h1 h2 h3
    subst h2; subst h3
    exact ⟨a, rfl, h1⟩
theorem blank_wok {s : Tx} (hE : Ends s) {p c p' c' : Nat} {u : Unit} (h : blankW s p c = .ok u p' c') : p' = p + 1 ∧ p' + 2 ≤ s.length ∧ c' = c := by
  unfold blankW at h
  split at h
  · next h1 =>
    have := hE.took h1 (by decide) (by decide)
    cases h
    exact ⟨rfl, this, rfl⟩
  · cases h
theorem more_ok {s : Tx} {g : Nat → Nat → Wd Ar} (hE : Ends s) (hG : ∀ p c a p' c', p + 2 ≤ s.length → g p c = .ok a p' c' → p' ≤ s.length ∧ c < c' ∧ c' ≤ 60) : ∀ (n : Nat) (acc : List Ar) (p c : Nat) (l : List Ar) (p' c' : Nat), c ≤ 60 → moreW g s n acc p c = .ok l p' c' → p' ≤ s.length ∧ c ≤ c' ∧ c' ≤ 60
  | 0, acc, p, c, l, p', c', hc, h => by rw [moreW] at h; cases h
  | n + 1, acc, p, c, l, p', c', hc, h => by
    rw [moreW] at h
    split at h
    · next h1 => cases h; exact ⟨took_lt h1, Nat.le_refl _, hc⟩
    · obtain ⟨u, p1, c1, h1, k1⟩ := then_ok h
      obtain ⟨_, h2, hcc⟩ := blank_wok hE h1
      obtain ⟨a, p2, c2, h3, k2⟩ := then_ok k1
      obtain ⟨i1, i2, i3⟩ := hG _ _ _ _ _ h2 h3
      obtain ⟨j1, j2, j3⟩ := more_ok hE hG n _ _ _ _ _ _ i3 k2
      exact ⟨j1, by omega, j3⟩
theorem list_ok {s : Tx} {g : Nat → Nat → Wd Ar} (hE : Ends s) (hG : ∀ p c a p' c', p + 2 ≤ s.length → g p c = .ok a p' c' → p' ≤ s.length ∧ c < c' ∧ c' ≤ 60) {p c : Nat} {l : List Ar} {p' c' : Nat} (hp : p + 2 ≤ s.length) (hc : c ≤ 60) (h : listW g s p c = .ok l p' c') : p' ≤ s.length ∧ c ≤ c' ∧ c' ≤ 60 := by
  unfold listW at h
  split at h
  · next h1 => cases h; exact ⟨took_lt h1, Nat.le_refl _, hc⟩
  · obtain ⟨a, p1, c1, h1, h⟩ := then_ok h
    obtain ⟨i1, i2, i3⟩ := hG _ _ _ _ _ hp h1
    obtain ⟨j1, j2, j3⟩ := more_ok hE hG _ _ _ _ _ _ _ i3 h
    exact ⟨j1, by omega, j3⟩
theorem arg_ok {s : Tx} (hE : Ends s) : ∀ (f p c : Nat) (a : Ar) (p' c' : Nat), p + 2 ≤ s.length → argW s f p c = .ok a p' c' → p' ≤ s.length ∧ c < c' ∧ c' ≤ 60
  | 0, p, c, a, p', c', hp, h => by rw [argW] at h; cases h
  | f + 1, p, c, a, p', c', hp, h => by
    rw [argW] at h
    split at h
    · cases h
    · next h60 =>
      split at h
      · obtain ⟨t, h, _⟩ := map_ok h
        obtain ⟨h1, rfl⟩ := counted_ok h
        exact ⟨h1, by omega, by omega⟩
      · split at h
        · obtain ⟨t, h, _⟩ := map_ok h
          obtain ⟨h1, rfl⟩ := quoted_ok _ _ _ _ _ _ h
          exact ⟨h1, by omega, by omega⟩
        · split at h
          · next h1 =>
            obtain ⟨t, h, _⟩ := map_ok h
            obtain ⟨j1, j2, j3⟩ := list_ok hE (fun p c a p' c' hp h => arg_ok hE f p c a p' c' hp h) (hE.took h1 (by decide) (by decide)) (by omega) h
            exact ⟨j1, by omega, j3⟩
          · obtain ⟨t, h, _⟩ := map_ok h
            obtain ⟨h1, rfl⟩ := word_wok (by omega) h
            exact ⟨h1, by omega, by omega⟩
end Go.Proofs.YtmcpohnilgbicaaGreatDoor
