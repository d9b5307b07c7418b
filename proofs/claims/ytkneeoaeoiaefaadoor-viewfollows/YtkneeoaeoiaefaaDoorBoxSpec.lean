/-
  Messages in boxes, plain mathematics: which rise, where one stands.
-/
import Derived.Test.YtkneeoaeoiaefaaDoorSeqSpec
namespace Go.Proofs.Bx
abbrev Tx := List UInt8

/-- A message: its number, flags, day, text. -/
structure Lt where
  uid : Int
  flags : List Tx
  day : Int
  text : Tx
/-- Numbers rise. -/
def Rise (l : List Lt) : Prop := l.Pairwise fun a b => a.uid < b.uid
/-- How many have less. -/
def findI (l : List Lt) (u : Int) : Nat := (l.takeWhile fun x => decide (x.uid < u)).length
/-- Whether there is one of that number. -/
def findB (l : List Lt) (u : Int) : Bool := l.any fun x => x.uid == u
theorem rise_at {l : List Lt} (h : Rise l) {i j : Nat} (hi : i < l.length) (hj : j < l.length) (hij : i < j) : l[i].uid < l[j].uid := List.pairwise_iff_getElem.1 h i j hi hj hij
theorem find_at : ∀ {l : List Lt} {u : Int} {i : Nat}, (∀ t (h : t < l.length), t < i → l[t].uid < u) → i ≤ l.length → (∀ h : i < l.length, u ≤ l[i].uid) → findI l u = i
  | [], u, i, _, hi, _ => by
    have : i = 0 := by simpa using hi
    subst this
    rfl
  | x :: l, u, 0, _, _, h2 => by
    have := h2 (by simp)
    unfold findI
    rw [List.takeWhile_cons_of_neg (by simpa using this)]
    rfl
  | x :: l, u, i + 1, h1, hi, h2 => by
    have h0 := h1 0 (by simp) (by omega)
    unfold findI
    rw [List.takeWhile_cons_of_pos (by simpa using h0), List.length_cons]
    have := find_at (l := l) (u := u) (i := i) (fun t h ht => by have := h1 (t + 1) (by simp; omega) (by omega); simpa using this) (by simpa using hi) (fun h => by have := h2 (by simp; omega); simpa using this)
    unfold findI at this
    rw [this]
theorem find_some {l : List Lt} {u : Int} (hr : Rise l) {i : Nat} (h1 : ∀ t (h : t < l.length), t < i → l[t].uid < u) (hi : i < l.length) : findB l u = decide (l[i].uid = u) ∨ l[i].uid < u := by
  by_cases h3 : l[i].uid < u
  · exact Or.inr h3
  · left
    by_cases h4 : l[i].uid = u
    · rw [decide_eq_true h4]
      unfold findB
      rw [List.any_eq_true]
      exact ⟨l[i], List.getElem_mem hi, by simpa using h4⟩
    · rw [decide_eq_false h4]
      unfold findB
      rw [← Bool.not_eq_true, List.any_eq_true]
      rintro ⟨x, hx, he⟩
      obtain ⟨j, hj, rfl⟩ := List.mem_iff_getElem.1 hx
      have he : l[j].uid = u := by simpa using he
      rcases Nat.lt_trichotomy j i with h | h | h
      · have := h1 j hj h; omega
      · subst h; exact h4 he
      · have := rise_at hr hi hj h; omega
theorem find_none {l : List Lt} {u : Int} (h1 : ∀ t (h : t < l.length), l[t].uid < u) : findB l u = false := by
  unfold findB
  rw [← Bool.not_eq_true, List.any_eq_true]
  rintro ⟨x, hx, he⟩
  obtain ⟨j, hj, rfl⟩ := List.mem_iff_getElem.1 hx
  have he : l[j].uid = u := by simpa using he
  have := h1 j hj
  omega
theorem below_mid {l : List Lt} {u : Int} {m : Nat} (hr : Rise l) (hm : m < l.length) (h : l[m].uid < u) : ∀ t (h : t < l.length), t < m + 1 → l[t].uid < u := fun t ht hlt => by
  rcases Nat.lt_or_ge t m with h1 | h1
  · have := rise_at hr ht hm h1; omega
  · obtain rfl : t = m := by omega
    exact h
theorem find_true {l : List Lt} {u : Int} (hr : Rise l) (h : findB l u = true) : ∃ x, l[findI l u]? = some x ∧ x.uid = u := by
  unfold findB at h
  rw [List.any_eq_true] at h
  obtain ⟨x, hx, he⟩ := h
  obtain ⟨j, hj, rfl⟩ := List.mem_iff_getElem.1 hx
  have he : l[j].uid = u := by simpa using he
  have hi : findI l u = j := find_at (fun t ht hlt => by have := rise_at hr ht hj hlt; omega) (by omega) (fun _ => by omega)
  exact ⟨l[j], by rw [hi]; exact List.getElem?_eq_getElem hj, he⟩
end Go.Proofs.Bx
