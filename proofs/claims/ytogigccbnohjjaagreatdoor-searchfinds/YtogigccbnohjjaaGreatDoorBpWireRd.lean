/-
  What the small methods of wire, and more.
-/
import Derived.Test.YtogigccbnohjjaaGreatDoorBpWireSpec
import Derived.Shelf.Lays
import Derived.Lib.Replace
import Derived.Lib.CountLaws
import Derived.Lib.IndexLaws
namespace Go.Proofs.YtogigccbnohjjaaGreatDoor
open Go.RowKit Go.Proofs.Aid Go.Proofs.Hd
theorem rest_list (s : ByteArray) (p : Nat) : (s.extract p s.size).data.toList = s.data.toList.drop p := Lib.extract_to_end s p
end Go.Proofs.YtogigccbnohjjaaGreatDoor
namespace Go.Proofs.YtogigccbnohjjaaGreatDoor
open Go.RowKit Go.Proofs.Aid Go.Proofs.Hd
theorem while_len : ∀ {l : Tx} {k : Nat}, (∀ j b, j < k → l[j]? = some b → wordy b = true) → (k = l.length ∨ ∃ b, l[k]? = some b ∧ wordy b = false) → (l.takeWhile wordy).length = k
 | [], k, _, h => by
  rcases h with rfl | ⟨b, hb, _⟩
  ·rfl
  ·simp at hb
 | x :: l, 0, _, h => by
  rcases h with h | ⟨b, hb, hw⟩
  ·simp at h
  ·obtain rfl : x = b := by simpa using hb
   rw [List.takeWhile_cons_of_neg (by simp [hw])]; rfl
 | x :: l, k + 1, h1, h => by
  rw [List.takeWhile_cons_of_pos (h1 0 x (by omega) rfl), List.length_cons]
  rw [while_len (l := l) (k := k) (fun j b hj hb => h1 (j + 1) b (by omega) (by simpa using hb)) (h.imp (fun e => by simpa using e) (fun ⟨b, hb, hw⟩ => ⟨b, by simpa using hb, hw⟩))]
theorem eq_num {c : UInt8} {n : Nat} (hn : n < 256) : (c == UInt8.ofNat n) = decide (c.toNat = n) := by
 by_cases h : c.toNat = n
 ·rw [decide_eq_true h, beq_iff_eq]; subst h; simp
 ·rw [decide_eq_false h, beq_eq_false_iff_ne]
  rintro rfl
  apply h
  rw [UInt8.toNat_ofNat']
  omega
theorem wordy_iff (c : UInt8) : wordy c = (decide (33 ≤ c.toNat) && decide (c.toNat ≤ 126) && !decide (c.toNat = 40) && !decide (c.toNat = 41) && !decide (c.toNat = 123) && !decide (c.toNat = 34)) := by
 unfold wordy
 rw [show (40 : UInt8) = UInt8.ofNat 40 from rfl, show (41 : UInt8) = UInt8.ofNat 41 from rfl, show (123 : UInt8) = UInt8.ofNat 123 from rfl, show (34 : UInt8) = UInt8.ofNat 34 from rfl, eq_num (by decide), eq_num (by decide), eq_num (by decide), eq_num (by decide)]
end Go.Proofs.YtogigccbnohjjaaGreatDoor
namespace Go.Proofs.YtogigccbnohjjaaGreatDoor
open Go.Proofs.Hd
open Go.Proofs.Sr (Ar)
theorem took_lt {s : Tx} {p : Nat} {x : UInt8} (h : tookW [x] s p = true) : p < s.length := (List.getElem?_eq_some_iff.1 (took_one.1 h)).1
theorem counted_ok {s : Tx} {p c p' c' : Nat} {t : Tx} (h : countedW s p c = .ok t p' c') : p' ≤ s.length ∧ c' = c := by
 have hcl : (Lib.cut ((s.drop p).drop 1) [125, 13, 10]).2.1.length ≤ s.length := by
  unfold Lib.cut
  split
  ·simp only [List.length_drop]; omega
  ·simp
 unfold countedW at h
 split at h
 ·cases h
 ·split at h
  ·cases h
  ·next n hn =>
   split at h
   ·cases h
   ·cases h
    exact ⟨by omega, rfl⟩
theorem quoted_ok {s : Tx} {c : Nat} : ∀ (f p : Nat) (acc t : Tx) (p' c' : Nat), quotedW s p c acc f = .ok t p' c' → p' ≤ s.length ∧ c' = c
 | 0, p, acc, t, p', c', h => by rw [quotedW] at h; cases h
 | f + 1, p, acc, t, p', c', h => by
  rw [quotedW] at h
  split at h
  ·next h1 => cases h; exact ⟨took_lt h1, rfl⟩
  ·split at h
   ·split at h
    ·cases h
    ·exact quoted_ok f _ _ _ _ _ h
   ·split at h
    ·cases h
    ·exact quoted_ok f _ _ _ _ _ h
theorem word_wok {s : Tx} {p c p' c' : Nat} {t : Tx} (hp : p ≤ s.length) (h : wordW s p c = .ok t p' c') : p' ≤ s.length ∧ c' = c := by
 unfold wordW at h
 split at h
 ·cases h
 ·cases h
  have := wordT_le (s.drop p)
  rw [List.length_drop] at this
  exact ⟨by omega, rfl⟩
theorem then_ok {α β : Type} {R : Wd α} {k : α → Nat → Nat → Wd β} {b : β} {p c : Nat} (h : R.then k = .ok b p c) : ∃ a p1 c1, R = .ok a p1 c1 ∧ k a p1 c1 = .ok b p c := by
 cases R with
 | bad e q => cases h
 | ok a p1 c1 => exact ⟨a, p1, c1, rfl, h⟩
theorem map_ok {α β : Type} {R : Wd α} {f : α → β} {b : β} {p c : Nat} (h : R.map f = .ok b p c) : ∃ a, R = .ok a p c ∧ f a = b := by
 cases R with
 | bad e q => cases h
 | ok a p1 c1 =>
  injection h with h1 h2 h3
  subst h2; subst h3
  exact ⟨a, rfl, h1⟩
theorem blank_wok {s : Tx} (hE : Ends s) {p c p' c' : Nat} {u : Unit} (h : blankW s p c = .ok u p' c') : p' = p + 1 ∧ p' + 2 ≤ s.length ∧ c' = c := by
 unfold blankW at h
 split at h
 ·next h1 =>
  have := hE.took h1 (by decide) (by decide)
  cases h
  exact ⟨rfl, this, rfl⟩
 ·cases h
theorem more_ok {s : Tx} {g : Nat → Nat → Wd Ar} (hE : Ends s) (hG : ∀ p c a p' c', p + 2 ≤ s.length → g p c = .ok a p' c' → p' ≤ s.length ∧ c < c' ∧ c' ≤ 60) : ∀ (n : Nat) (acc : List Ar) (p c : Nat) (l : List Ar) (p' c' : Nat), c ≤ 60 → moreW g s n acc p c = .ok l p' c' → p' ≤ s.length ∧ c ≤ c' ∧ c' ≤ 60
 | 0, acc, p, c, l, p', c', hc, h => by rw [moreW] at h; cases h
 | n + 1, acc, p, c, l, p', c', hc, h => by
  rw [moreW] at h
  split at h
  ·next h1 => cases h; exact ⟨took_lt h1, Nat.le_refl _, hc⟩
  ·obtain ⟨u, p1, c1, h1, k1⟩ := then_ok h
   obtain ⟨_, h2, hcc⟩ := blank_wok hE h1
   obtain ⟨a, p2, c2, h3, k2⟩ := then_ok k1
   obtain ⟨i1, i2, i3⟩ := hG _ _ _ _ _ h2 h3
   obtain ⟨j1, j2, j3⟩ := more_ok hE hG n _ _ _ _ _ _ i3 k2
   exact ⟨j1, by omega, j3⟩
theorem list_ok {s : Tx} {g : Nat → Nat → Wd Ar} (hE : Ends s) (hG : ∀ p c a p' c', p + 2 ≤ s.length → g p c = .ok a p' c' → p' ≤ s.length ∧ c < c' ∧ c' ≤ 60) {p c : Nat} {l : List Ar} {p' c' : Nat} (hp : p + 2 ≤ s.length) (hc : c ≤ 60) (h : listW g s p c = .ok l p' c') : p' ≤ s.length ∧ c ≤ c' ∧ c' ≤ 60 := by
 unfold listW at h
 split at h
 ·next h1 => cases h; exact ⟨took_lt h1, Nat.le_refl _, hc⟩
 ·obtain ⟨a, p1, c1, h1, h⟩ := then_ok h
  obtain ⟨i1, i2, i3⟩ := hG _ _ _ _ _ hp h1
  obtain ⟨j1, j2, j3⟩ := more_ok hE hG _ _ _ _ _ _ _ i3 h
  exact ⟨j1, by omega, j3⟩
theorem arg_ok {s : Tx} (hE : Ends s) : ∀ (f p c : Nat) (a : Ar) (p' c' : Nat), p + 2 ≤ s.length → argW s f p c = .ok a p' c' → p' ≤ s.length ∧ c < c' ∧ c' ≤ 60
 | 0, p, c, a, p', c', hp, h => by rw [argW] at h; cases h
 | f + 1, p, c, a, p', c', hp, h => by
  rw [argW] at h
  split at h
  ·cases h
  ·next h60 =>
   split at h
   ·obtain ⟨t, h, _⟩ := map_ok h
    obtain ⟨h1, rfl⟩ := counted_ok h
    exact ⟨h1, by omega, by omega⟩
   ·split at h
    ·obtain ⟨t, h, _⟩ := map_ok h
     obtain ⟨h1, rfl⟩ := quoted_ok _ _ _ _ _ _ h
     exact ⟨h1, by omega, by omega⟩
    ·split at h
     ·next h1 =>
      obtain ⟨t, h, _⟩ := map_ok h
      obtain ⟨j1, j2, j3⟩ := list_ok hE (fun p c a p' c' hp h => arg_ok hE f p c a p' c' hp h) (hE.took h1 (by decide) (by decide)) (by omega) h
      exact ⟨j1, by omega, j3⟩
     ·obtain ⟨t, h, _⟩ := map_ok h
      obtain ⟨h1, rfl⟩ := word_wok (by omega) h
      exact ⟨h1, by omega, by omega⟩
end Go.Proofs.YtogigccbnohjjaaGreatDoor
namespace Go.Proofs.YtogigccbnohjjaaGreatDoor
open Go.Proofs.Hd
open Go.Proofs.Sr (Ar)
theorem itoa_digits (n : Nat) : ∀ c ∈ Lib.itoa (n : Int), 48 ≤ c.toNat ∧ c.toNat ≤ 57 := by
 rw [show Lib.itoa (n : Int) = Lib.decDigits n by rw [Lib.itoa, if_neg (by omega), Int.toNat_natCast]]
 exact Sq.decDigits_mem n
end Go.Proofs.YtogigccbnohjjaaGreatDoor
namespace Go.Proofs.YtogigccbnohjjaaGreatDoor
open Go.RowKit Go.Proofs.Hd
def seeW (s : Tx) (p : Nat) : Option UInt8 := if p + 2 < s.length then s[p]? else none
theorem see_some {s : Tx} {p : Nat} {x : UInt8} (h : seeW s p = some x) : p + 2 < s.length ∧ s[p]? = some x := by
 unfold seeW at h
 split at h
 ·exact ⟨by assumption, h⟩
 ·cases h
theorem see_none {s : Tx} {p : Nat} (h : seeW s p = none) : s.length ≤ p + 2 := by
 unfold seeW at h
 split at h
 ·rw [List.getElem?_eq_none_iff] at h; omega
 ·omega
theorem see_took {s : Tx} (hE : Ends s) {p : Nat} {x : UInt8} (h1 : x ≠ 13) (h2 : x ≠ 10) : seeW s p = some x ↔ tookW [x] s p = true := by
 constructor
 ·intro h
  exact took_one.2 (see_some h).2
 ·intro h
  have hx := took_one.1 h
  unfold seeW
  rw [if_pos (hE.ahead hx h1 h2)]
  exact hx
theorem see_not {s : Tx} (hE : Ends s) {p : Nat} {x : UInt8} (h1 : x ≠ 13) (h2 : x ≠ 10) (h : seeW s p ≠ some x) : tookW [x] s p = false := by
 cases hq : tookW [x] s p with
 | false => rfl
 | true => exact absurd ((see_took hE h1 h2).2 hq) h
theorem word_len {s : Tx} (hE : Ends s) {p q : Nat} (hpq : p ≤ q) (hq : q + 2 ≤ s.length) (hw : ∀ j b, p ≤ j → j < q → s[j]? = some b → wordy b = true) (h : ∀ b, seeW s q = some b → wordy b = false) :
  (wordT (s.drop p)).length = q - p := by
 refine while_len (fun j b hj hb => ?_) (Or.inr ?_)
 ·rw [List.getElem?_drop] at hb
  exact hw (p + j) b (by omega) (by omega) hb
 ·have hd : (s.drop p)[q - p]? = s[q]? := by rw [List.getElem?_drop, show p + (q - p) = q by omega]
  cases hs : seeW s q with
  | some b => exact ⟨b, by rw [hd]; exact (see_some hs).2, h b hs⟩
  | none =>
   have := see_none hs
   have hcr := hE.cr
   rw [show s.length - 2 = q by omega] at hcr
   exact ⟨13, by rw [hd]; exact hcr, by decide⟩
theorem word_by {s : Tx} (hE : Ends s) {p q c : Nat} (hpq : p ≤ q) (hq : q + 2 ≤ s.length) (hw : ∀ j b, p ≤ j → j < q → s[j]? = some b → wordy b = true) (h : ∀ b, seeW s q = some b → wordy b = false) :
  wordW s p c = if q = p then .bad 3 p else .ok ((s.drop p).take (q - p)) q c := by
 have hl := word_len hE hpq hq hw h
 have ht := wordT_take (s.drop p)
 rw [hl] at ht
 unfold wordW
 by_cases h0 : q = p
 ·rw [if_pos h0, if_pos (List.eq_nil_of_length_eq_zero (by omega))]
 ·rw [if_neg h0, if_neg (fun e => by rw [e] at hl; simp at hl; omega), hl, ← ht, show p + (q - p) = q by omega]
theorem idx_at : ∀ (e : Nat) (t : Tx), (∀ j, j < e → t[j]? ≠ some 125) → t[e]? = some 125 → ([13, 10] : Tx).isPrefixOf (t.drop (e + 1)) = true → Lib.index t [125, 13, 10] = (e : Int)
 | e, [], _, h, _ => by simp at h
 | 0, x :: t, _, h, hp => by
  obtain rfl : x = 125 := by simpa using h
  have hp' : ([13, 10] : Tx).isPrefixOf t = true := hp
  rw [index_cons, if_pos (by simpa [List.isPrefixOf] using hp')]
  rfl
 | e + 1, x :: t, hn, h, hp => by
  have hx : x ≠ 125 := fun e => hn 0 (by omega) (by rw [e]; rfl)
  have ih := idx_at e t (fun j hj => by have := hn (j + 1) (by omega); simpa using this) (by simpa using h) (by simpa using hp)
  rw [index_cons, if_neg (by simp [List.isPrefixOf, Ne.symm hx]), ih, if_neg (by omega)]
  omega
theorem idx_off : ∀ (e : Nat) (t : Tx), (∀ j, j < e → t[j]? ≠ some 125) → t[e]? = some 125 → ([13, 10] : Tx).isPrefixOf (t.drop (e + 1)) = false → Lib.index t [125, 13, 10] < 0 ∨ ∃ i : Nat, e < i ∧ Lib.index t [125, 13, 10] = (i : Int)
 | e, [], _, h, _ => by simp at h
 | 0, x :: t, _, h, hp => by
  obtain rfl : x = 125 := by simpa using h
  have hp' : ([13, 10] : Tx).isPrefixOf t = false := hp
  have hg := Lib.index_ge t [125, 13, 10]
  rw [index_cons, if_neg (show ¬ ([125, 13, 10] : Tx).isPrefixOf (125 :: t) = true from fun h => by
   have : ([13, 10] : Tx).isPrefixOf t = true := h
   rw [hp'] at this
   cases this)]
  by_cases h1 : Lib.index t [125, 13, 10] = -1
  ·rw [if_pos h1]; exact Or.inl (by decide)
  ·rw [if_neg h1]; exact Or.inr ⟨(Lib.index t [125, 13, 10]).toNat + 1, by omega, by omega⟩
 | e + 1, x :: t, hn, h, hp => by
  have hx : x ≠ 125 := fun e => hn 0 (by omega) (by rw [e]; rfl)
  have ih := idx_off e t (fun j hj => by have := hn (j + 1) (by omega); simpa using this) (by simpa using h) (by simpa using hp)
  have hg := Lib.index_ge t [125, 13, 10]
  rw [index_cons, if_neg (by simp [List.isPrefixOf, Ne.symm hx])]
  rcases ih with ih | ⟨i, h1, h2⟩
  ·rw [if_pos (by omega)]; exact Or.inl (by decide)
  ·rw [if_neg (by omega), h2]; exact Or.inr ⟨i + 1, by omega, by omega⟩
theorem idx_none : ∀ (t : Tx), (∀ j : Nat, t[j]? ≠ some 125) → Lib.index t [125, 13, 10] < 0
 | [], _ => by decide
 | x :: t, hn => by
  have hx : x ≠ 125 := fun e => hn 0 (by rw [e]; rfl)
  have ih := idx_none t fun j => by have := hn (j + 1); simpa using this
  have hg := Lib.index_ge t [125, 13, 10]
  rw [index_cons, if_neg (by simp [List.isPrefixOf, Ne.symm hx]), if_pos (by omega)]
  decide
theorem numW_digits {l : Tx} {n : Nat} (h : numW l = some n) : ∀ c ∈ l, 48 ≤ c.toNat ∧ c.toNat ≤ 57 := by
 cases ha : Lib.atoiAll l with
 | ok z =>
  rw [numW_ok ha] at h
  split at h
  ·next hq =>
   obtain ⟨h0, _, h2⟩ := hq
   have := itoa_digits z.toNat
   rw [Int.toNat_of_nonneg h0, h2] at this
   exact this
  ·cases h
 | «syntax» => rw [numW_syntax ha] at h; cases h
 | range => rw [numW_range ha] at h; cases h
theorem counted_no {s : Tx} {p c : Nat} (h : Lib.indexByte (s.drop p) 125 < 0) : countedW s p c = .bad 3 p := by
 have hg := Lib.indexByte_ge (s.drop p) 125
 have hn := Lib.indexByte_none (show Lib.indexByte (s.drop p) 125 = -1 by omega)
 have hi := idx_none ((s.drop p).drop 1) fun j => by rw [List.getElem?_drop]; exact hn (1 + j)
 unfold countedW Lib.cut
 rw [if_neg (show ¬ 0 ≤ Lib.index ((s.drop p).drop 1) [125, 13, 10] by omega)]
 simp
theorem counted_yes {s : Tx} {p c e : Nat} (h : Lib.indexByte (s.drop p) 125 = ((e + 1 : Nat) : Int)) :
  countedW s p c = match numW ((s.drop (p + 1)).take e) with
   | none => .bad 3 p
   | some n => if ([13, 10] : Tx).isPrefixOf (s.drop (p + e + 2)) = true ∧ n + (p + e + 4) ≤ s.length then .ok ((s.drop (p + e + 4)).take n) (p + e + 4 + n) c else .bad 3 p := by
 obtain ⟨h1, h2⟩ := Lib.indexByte_some h
 have ht : (s.drop p).drop 1 = s.drop (p + 1) := by rw [List.drop_drop]
 have h3 : (s.drop (p + 1))[e]? = some 125 := by rw [List.getElem?_drop] at h1 ⊢; rw [show p + 1 + e = p + (e + 1) by omega]; exact h1
 have h4 : ∀ j, j < e → (s.drop (p + 1))[j]? ≠ some 125 := fun j hj => by
  have := h2 (j + 1) (by omega)
  rw [List.getElem?_drop] at this ⊢
  rw [show p + 1 + j = p + (j + 1) by omega]
  exact this
 have hd : (s.drop (p + 1)).drop (e + 1) = s.drop (p + e + 2) := by rw [List.drop_drop, show p + 1 + (e + 1) = p + e + 2 by omega]
 unfold countedW
 rw [ht]
 cases hp : ([13, 10] : Tx).isPrefixOf (s.drop (p + e + 2)) with
 | true =>
  have hi := idx_at e _ h4 h3 (by rw [hd]; exact hp)
  have hc : Lib.cut (s.drop (p + 1)) [125, 13, 10] = ((s.drop (p + 1)).take e, s.drop (p + e + 4), true) := by
   unfold Lib.cut
   rw [hi, if_pos (by omega), Int.toNat_natCast, List.drop_drop]
   rw [show p + 1 + (e + ([125, 13, 10] : Tx).length) = p + e + 4 by simp; omega]
  rw [hc]
  simp only [Bool.true_eq_false, if_false, true_and]
  have hlen : 2 ≤ (s.drop (p + e + 2)).length := by
   rw [List.isPrefixOf_iff_prefix] at hp
   exact hp.length_le
  rw [List.length_drop] at hlen
  cases hn : numW ((s.drop (p + 1)).take e) with
  | none => rfl
  | some n =>
   simp only [List.length_drop]
   by_cases hb : n + (p + e + 4) ≤ s.length
   ·rw [if_neg (by omega), if_pos hb, show s.length - (s.length - (p + e + 4)) + n = p + e + 4 + n by omega]
   ·rw [if_pos (by omega), if_neg hb]
 | false =>
  have hR : (match numW ((s.drop (p + 1)).take e) with
   | none => Wd.bad 3 p
   | some n => if (false = true) ∧ n + (p + e + 4) ≤ s.length then .ok ((s.drop (p + e + 4)).take n) (p + e + 4 + n) c else .bad 3 p) = .bad 3 p := by
   cases numW ((s.drop (p + 1)).take e) with
   | none => rfl
   | some n => simp
  rw [hR]
  rcases idx_off e _ h4 h3 (by rw [hd]; exact hp) with hi | ⟨i, hi, hx⟩
  ·unfold Lib.cut
   rw [if_neg (show ¬ 0 ≤ Lib.index (s.drop (p + 1)) [125, 13, 10] by omega)]
   simp
  ·have hc1 : (Lib.cut (s.drop (p + 1)) [125, 13, 10]).1 = (s.drop (p + 1)).take i := by
    unfold Lib.cut
    rw [hx, if_pos (by omega), Int.toNat_natCast]
   have hnn : numW ((s.drop (p + 1)).take i) = none := by
    cases hn : numW ((s.drop (p + 1)).take i) with
    | none => rfl
    | some n =>
     exfalso
     have hm : (125 : UInt8) ∈ (s.drop (p + 1)).take i := by
      have : ((s.drop (p + 1)).take i)[e]? = some 125 := by rw [List.getElem?_take_of_lt hi]; exact h3
      exact List.mem_of_getElem? this
     have := numW_digits hn 125 hm
     revert this
     decide
   rw [hc1, hnn]
   split <;> rfl
end Go.Proofs.YtogigccbnohjjaaGreatDoor
namespace Go.Proofs.YtogigccbnohjjaaGreatDoor
open Go.RowKit Go.Proofs.Aid
theorem ref_in (n a b : Int) (w : World) : Calls Tryz.prog 51 #[.int .i64 n, .int .i64 a, .int .i64 b] w fun e w' => e = .returned (.bool (decide (a ≤ n ∧ n ≤ b))) ∧ w' = w := by
 by_cases h0 : a ≤ n
 ·by_cases h1 : n ≤ b
  ·rw [decide_eq_true ⟨h0, h1⟩]
   go_enter Tryz.func51, Tryz.ntmps51
   go_wp2
   go_ret
   exact ⟨by simp, rfl⟩
  ·rw [decide_eq_false (by omega)]
   go_enter Tryz.func51, Tryz.ntmps51
   go_wp2
   go_ret
   exact ⟨by simp, rfl⟩
 ·rw [decide_eq_false (by omega)]
  go_enter Tryz.func51, Tryz.ntmps51
  go_wp2
  go_ret
  exact ⟨rfl, rfl⟩
end Go.Proofs.YtogigccbnohjjaaGreatDoor
