/-
  What holds of a box whatever is done, plain mathematics.
-/
import Derived.Test.YtgpcnacpefficaaGreatDoorMBoxRight
import Derived.Test.YtgpcnacpefficaaGreatDoorBpRefMap
namespace Go.Proofs.YtgpcnacpefficaaGreatDoor
open Go.Proofs.Bx
open Go.Proofs.Fl (Own Ord setOf namesOf order without fname)

theorem own_len {s : Fl.Tx} (h : Own s) : s.length ≤ 20 := by
  unfold Fl.Own fname at h
  split at h
  · cases hf : Fl.five.find? (Fl.sameL s) with
    | none => rw [hf] at h; simp at h
    | some n =>
      rw [hf] at h
      have hn : n = s := by simpa using h
      have hm := List.mem_of_find?_eq_some hf
      rw [hn] at hm
      have : s = Fl.five[0] ∨ s = Fl.five[1] ∨ s = Fl.five[2] ∨ s = Fl.five[3] ∨ s = Fl.five[4] := by simpa [Fl.five] using hm
      rcases this with rfl | rfl | rfl | rfl | rfl <;> decide
  · split at h
    · simp at h
    · split at h
      · simp at h
      · omega
/-- Flags that are a set. -/
def SetOk (F : List Fl.Tx) : Prop := (∀ s ∈ F, Own s) ∧ Ord F ∧ F.length ≤ 12
theorem namesOf_self : ∀ {x : List Fl.Tx}, (∀ s ∈ x, Own s) → namesOf x = (x, 0)
  | [], _ => rfl
  | s :: x, h => by
    have h1 : fname s = (s, 0) := h s List.mem_cons_self
    have h2 := namesOf_self (x := x) fun t ht => h t (List.mem_cons_of_mem _ ht)
    rw [Fl.namesOf, h1, h2]
    simp
theorem setOk_setOf {F : List Fl.Tx} (h : SetOk F) : setOf F = (F, 0) := by
  unfold Fl.setOf
  rw [namesOf_self h.1, if_neg (by simp), Fl.order_of_ord h.2.1, if_neg (by have := h.2.2; omega)]
theorem setOf_ok {l : List Fl.Tx} (h : (setOf l).2 = 0) : SetOk (setOf l).1 := by
  unfold Fl.setOf at h ⊢
  by_cases h1 : (namesOf l).2 ≠ 0
  · rw [if_pos h1] at h; exact absurd h h1
  · rw [if_neg h1] at h ⊢
    by_cases h2 : 12 < (order (namesOf l).1).length
    · rw [if_pos h2] at h; simp at h
    · rw [if_neg h2]
      refine ⟨fun s hs => Fl.namesOf_own l (by simpa using h1) s ((Fl.order_mem _ s).1 hs), Fl.order_ord _, Nat.le_of_not_lt h2⟩
theorem lim_ok {x : List Fl.Tx} (h1 : ∀ s ∈ x, Own s) (h2 : Ord x) (h : (limF x).2 = 0) : SetOk (limF x).1 := by
  unfold limF at h ⊢
  by_cases hl : 12 < x.length
  · rw [if_pos hl] at h; simp at h
  · rw [if_neg hl]; exact ⟨h1, h2, Nat.le_of_not_lt hl⟩
theorem chg_ok {had set : List Fl.Tx} {what : Int} (h1 : SetOk had) (h2 : SetOk set) (h : (chgF had what set).2 = 0) : SetOk (chgF had what set).1 := by
  unfold chgF at h ⊢
  split at h
  · next e => rw [if_pos e]; exact lim_ok h2.1 h2.2.1 h
  · next e =>
    rw [if_neg e]
    split at h
    · next e1 =>
      rw [if_pos e1]
      exact lim_ok (fun s hs => by
        rcases List.mem_append.1 ((Fl.order_mem _ s).1 hs) with h | h
        · exact h1.1 s h
        · exact h2.1 s h) (Fl.order_ord _) h
    · next e1 =>
      rw [if_neg e1]
      split at h
      · next e2 =>
        rw [if_pos e2]
        exact lim_ok (fun s hs => h1.1 s ((Fl.without_mem _ _ s).1 ((Fl.order_mem _ s).1 hs)).1) (Fl.order_ord _) h
      · simp at h
/-- A message as it may be here. -/
def LtOk (x : Lt) : Prop := SetOk x.flags ∧ (0 ≤ x.day ∧ x.day < 1000) ∧ x.text.length ≤ 300
/-- A box as it may be here. -/
structure BInv (n : Int) (l : List Lt) : Prop where
  rise : Rise l
  uid : ∀ x ∈ l, 1 ≤ x.uid ∧ x.uid < n
  ok : ∀ x ∈ l, LtOk x
  next : 1 ≤ n
theorem okLt_of {x : Lt} (h : LtOk x) : okLt x = true := by
  unfold okLt
  rw [setOk_setOf h.1]
  have h1 := h.2.1
  have h2 := h.2.2
  simp
  exact ⟨⟨h1.1, by omega⟩, by omega⟩
theorem riseB_of {n : Int} : ∀ {l : List Lt} {last : Int}, Rise l → (∀ x ∈ l, last < x.uid ∧ x.uid < n) → (∀ x ∈ l, LtOk x) → riseB n last l = true
  | [], _, _, _, _ => rfl
  | x :: r, last, hr, hu, ho => by
    have h1 := hu x List.mem_cons_self
    unfold Rise at hr
    rw [List.pairwise_cons] at hr
    have h2 := riseB_of (n := n) (l := r) (last := x.uid) hr.2 (fun y hy => ⟨hr.1 y hy, (hu y (List.mem_cons_of_mem _ hy)).2⟩) fun y hy => ho y (List.mem_cons_of_mem _ hy)
    rw [riseB, h2, okLt_of (ho x List.mem_cons_self)]
    simp [h1.1, h1.2]
theorem BInv.right {n : Int} {l : List Lt} (h : BInv n l) (hn : n ≤ 2147483647) (hl : l.length ≤ 60) : rightB 1 n l = true := by
  unfold rightB mayB
  rw [riseB_of h.rise (fun x hx => ⟨by have := (h.uid x hx).1; omega, (h.uid x hx).2⟩) h.ok]
  have := h.next
  simp [this, hn, hl]
/-- One deed at a box: what stays, what is new. -/
structure BStep (n : Int) (l : List Lt) (n' : Int) (l' : List Lt) : Prop where
  inv : BInv n' l'
  up : n ≤ n' ∧ n' ≤ n + 1
  old : ∀ y ∈ l', (∃ x ∈ l, x.uid = y.uid ∧ x.text = y.text) ∨ (y.uid = n ∧ n' = n + 1)
  len : l'.length ≤ l.length + 1
theorem BStep.refl {n : Int} {l : List Lt} (h : BInv n l) : BStep n l n l := ⟨h, ⟨Int.le_refl _, by omega⟩, fun y hy => Or.inl ⟨y, hy, rfl, rfl⟩, by omega⟩
theorem step_append {n : Int} {l : List Lt} (h : BInv n l) {F : List Fl.Tx} {day : Int} {t : Fl.Tx} (hF : SetOk F) (hd : 0 ≤ day ∧ day < 1000) (ht : t.length ≤ 300) : BStep n l (n + 1) (l ++ [⟨n, F, day, t⟩]) := by
  refine ⟨⟨?_, fun x hx => ?_, fun x hx => ?_, by have := h.next; omega⟩, ⟨by omega, by omega⟩, fun y hy => ?_, by simp⟩
  · unfold Rise
    rw [List.pairwise_append]
    refine ⟨h.rise, by simp, fun a ha b hb => ?_⟩
    rw [List.mem_singleton.1 hb]
    exact (h.uid a ha).2
  · rcases List.mem_append.1 hx with h1 | h1
    · have := h.uid x h1; omega
    · rw [List.mem_singleton.1 h1]; have := h.next; exact ⟨this, by show n < n + 1; omega⟩
  · rcases List.mem_append.1 hx with h1 | h1
    · exact h.ok x h1
    · rw [List.mem_singleton.1 h1]; exact ⟨hF, hd, ht⟩
  · rcases List.mem_append.1 hy with h1 | h1
    · exact Or.inl ⟨y, h1, rfl, rfl⟩
    · rw [List.mem_singleton.1 h1]; exact Or.inr ⟨rfl, rfl⟩
theorem step_flag {n : Int} {l : List Lt} (h : BInv n l) {i : Nat} {x : Lt} (hx : l[i]? = some x) {G : List Fl.Tx} (hG : SetOk G) : BStep n l n (l.set i (Lt.withF x G)) := by
  have hi := (List.getElem?_eq_some_iff.1 hx).1
  have hxe := (List.getElem?_eq_some_iff.1 hx).2
  have hxm : x ∈ l := hxe ▸ List.getElem_mem hi
  have hmem : ∀ y ∈ l.set i (Lt.withF x G), y ∈ l ∨ y = Lt.withF x G := fun y hy => List.mem_or_eq_of_mem_set hy
  refine ⟨⟨?_, fun y hy => ?_, fun y hy => ?_, h.next⟩, ⟨Int.le_refl _, by omega⟩, fun y hy => ?_, by simp⟩
  · unfold Rise
    have hm : (l.set i (Lt.withF x G)).map Lt.uid = l.map Lt.uid := by
      rw [List.map_set]
      apply List.ext_getElem?
      intro j
      rw [List.getElem?_set]
      by_cases hj : i = j
      · subst hj
        rw [if_pos rfl, if_pos (by simpa using hi), List.getElem?_map, hx]
        rfl
      · rw [if_neg hj]
    have := h.rise
    unfold Rise at this
    rw [← List.pairwise_map (f := Lt.uid) (R := fun a b => a < b)] at this ⊢
    rw [hm]
    exact this
  · rcases hmem y hy with h1 | rfl
    · exact h.uid y h1
    · exact h.uid x hxm
  · rcases hmem y hy with h1 | rfl
    · exact h.ok y h1
    · exact ⟨hG, (h.ok x hxm).2⟩
  · rcases hmem y hy with h1 | rfl
    · exact Or.inl ⟨y, h1, rfl, rfl⟩
    · exact Or.inl ⟨x, hxm, rfl, rfl⟩
theorem step_stay {n : Int} {l : List Lt} (h : BInv n l) (p : Int → Bool) : BStep n l n (stay p l) := by
  have hm : ∀ y ∈ stay p l, y ∈ l := fun y hy => (List.mem_filter.1 hy).1
  exact ⟨⟨List.Pairwise.filter _ h.rise, fun y hy => h.uid y (hm y hy), fun y hy => h.ok y (hm y hy), h.next⟩, ⟨Int.le_refl _, by omega⟩, fun y hy => Or.inl ⟨y, hm y hy, rfl, rfl⟩, by have := stay_le p l; omega⟩
end Go.Proofs.YtgpcnacpefficaaGreatDoor
