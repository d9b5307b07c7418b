/-
  What a text that is quoted is read as: one part. Plain mathematics.
-/
import Derived.Test.YtmcpohnilgbicaaGreatDoorWireQSpec
namespace Go.Proofs.YtmcpohnilgbicaaGreatDoor
open Go.Proofs.Hd
open Go.Proofs.Sr (Ar)

theorem took_drop {s r : Tx} {p : Nat} {x y : UInt8} (h : s.drop p = x :: r) : tookW [y] s p = (y == x) := by
  unfold tookW
  rw [h]
  simp [List.isPrefixOf]
theorem drop_more {s a r : Tx} {p : Nat} (h : s.drop p = a ++ r) : s.drop (p + a.length) = r := by
  rw [← List.drop_drop, h, List.drop_left]
theorem getD_drop {s r : Tx} {p : Nat} {x : UInt8} (h : s.drop p = x :: r) : s.getD p 0 = x := by
  have : (s.drop p)[0]? = some x := by rw [h]; rfl
  rw [List.getElem?_drop, Nat.add_zero] at this
  rw [List.getD_eq_getElem?_getD, this]; rfl
theorem drop_len {s a : Tx} {p : Nat} (h : s.drop p = a) (hp : p ≤ s.length) : s.length = p + a.length := by
  rw [← h, List.length_drop]; omega
theorem plain_off {c : UInt8} (h : plainB c = true) : offQ false c = false := by
  have h1 : ∀ n : Fin 256, plainB (UInt8.ofNat n.val) = true → offQ false (UInt8.ofNat n.val) = false := by decide +kernel
  have := h1 ⟨c.toNat, c.toNat_lt⟩
  simp only [UInt8.ofNat_toNat] at this
  exact this h
theorem quoted_at {s : Tx} {c : Nat} {r : Tx} : ∀ (u acc : Tx) (f q : Nat), (∀ x ∈ u, plainB x = true) → s.drop q = esc u ++ 34 :: r → u.length < f → quotedW s q c acc f = .ok (acc ++ u) (q + (esc u).length + 1) c
  | u, acc, 0, q, _, _, hf => absurd hf (by omega)
  | [], acc, f + 1, q, _, h, _ => by
    have h : s.drop q = 34 :: r := h
    rw [quotedW, took_drop h, if_pos (by decide), List.append_nil]
    rfl
  | x :: u, acc, f + 1, q, hp, h, hf => by
    have hx := hp x List.mem_cons_self
    have he : esc (x :: u) = (if x = 92 ∨ x = 34 then [92, x] else [x]) ++ esc u := by simp [esc]
    rw [he] at h ⊢
    have hu := fun y hy => hp y (List.mem_cons_of_mem x hy)
    simp only [List.length_cons] at hf
    by_cases h1 : x = 92 ∨ x = 34
    · rw [if_pos h1] at h ⊢
      have h2 : s.drop q = 92 :: (x :: (esc u ++ 34 :: r)) := by rw [h]; simp
      have h3 : s.drop (q + 1) = x :: (esc u ++ 34 :: r) := by
        have := drop_more (a := [92]) (r := x :: (esc u ++ 34 :: r)) h2; exact this
      have h4 : s.drop (q + 2) = esc u ++ 34 :: r := by
        have := drop_more (a := [92, x]) (r := esc u ++ 34 :: r) h2; exact this
      have hoff : offQ true x = false := by rcases h1 with rfl | rfl <;> decide
      rw [quotedW, took_drop h2, if_neg (by decide), took_drop h2, if_pos (by decide), getD_drop h3, hoff, if_neg (by simp), quoted_at u (acc ++ [x]) f (q + 2) hu h4 (by omega)]
      simp
      omega
    · rw [if_neg h1] at h ⊢
      have h2 : s.drop q = x :: (esc u ++ 34 :: r) := by rw [h]; simp
      have h4 : s.drop (q + 1) = esc u ++ 34 :: r := by
        have := drop_more (a := [x]) (r := esc u ++ 34 :: r) h2; exact this
      have n1 : ((34 : UInt8) == x) = false := by simp; intro e; exact h1 (Or.inr e.symm)
      have n2 : ((92 : UInt8) == x) = false := by simp; intro e; exact h1 (Or.inl e.symm)
      rw [quotedW, took_drop h2, n1, if_neg (by simp), took_drop h2, n2, if_neg (by simp), getD_drop h2, plain_off hx, if_neg (by simp), quoted_at u (acc ++ [x]) f (q + 1) hu h4 (by omega)]
      simp
      omega
/-- What stands behind letters of which none is the first of what is looked for. -/
theorem index_behind {x : UInt8} {sub r : Tx} : ∀ (a : Tx), (∀ c ∈ a, c ≠ x) → Lib.index (a ++ (x :: sub) ++ r) (x :: sub) = (a.length : Int)
  | [], _ => by
    show Lib.index (x :: (sub ++ r)) (x :: sub) = 0
    rw [index_cons, if_pos]
    rw [List.isPrefixOf_iff_prefix]
    exact ⟨r, by simp⟩
  | c :: a, h => by
    have hc := h c List.mem_cons_self
    have ih := index_behind (sub := sub) (r := r) a fun y hy => h y (List.mem_cons_of_mem c hy)
    show Lib.index (c :: (a ++ (x :: sub) ++ r)) (x :: sub) = _
    rw [index_cons, if_neg (by simp [List.isPrefixOf, Ne.symm hc]), ih, if_neg (by omega)]
    simp
theorem itoa_digits (n : Nat) : ∀ c ∈ Lib.itoa (n : Int), 48 ≤ c.toNat ∧ c.toNat ≤ 57 := by
  rw [show Lib.itoa (n : Int) = Lib.decDigits n by rw [Lib.itoa, if_neg (by omega), Int.toNat_natCast]]
  exact Sq.decDigits_mem n
theorem cut_behind {D q : Tx} (hi : Lib.index (D ++ [125, 13, 10] ++ q) [125, 13, 10] = (D.length : Int)) : Lib.cut (D ++ [125, 13, 10] ++ q) [125, 13, 10] = (D, q, true) := by
  unfold Lib.cut
  rw [hi, if_pos (by omega), Int.toNat_natCast]
  have h1 : (D ++ [125, 13, 10] ++ q).take D.length = D := by rw [List.append_assoc, List.take_left]
  have h2 : (D ++ [125, 13, 10] ++ q).drop (D.length + ([125, 13, 10] : Tx).length) = q := by rw [← List.length_append, List.drop_left]
  rw [h1, h2]
theorem counted_at {s t r : Tx} {p c : Nat} (ht : t.length ≤ 2147483647) (hp : p ≤ s.length) (h : s.drop p = 123 :: (Lib.itoa (t.length : Int) ++ [125, 13, 10] ++ t) ++ r) : countedW s p c = .ok t (p + (123 :: (Lib.itoa (t.length : Int) ++ [125, 13, 10] ++ t)).length) c := by
  have hlen := drop_len h hp
  have hi : Lib.index (Lib.itoa (t.length : Int) ++ [125, 13, 10] ++ (t ++ r)) [125, 13, 10] = ((Lib.itoa (t.length : Int)).length : Int) :=
    index_behind _ fun c hc e => by have := itoa_digits t.length c hc; subst e; revert this; decide
  have hd : (s.drop p).drop 1 = Lib.itoa (t.length : Int) ++ [125, 13, 10] ++ (t ++ r) := by rw [h]; simp
  have hcut : Lib.cut ((s.drop p).drop 1) [125, 13, 10] = (Lib.itoa (t.length : Int), t ++ r, true) := by
    rw [hd]
    exact cut_behind hi
  unfold countedW
  rw [hcut, if_neg (by simp)]
  simp only
  rw [numW_itoa _ ht]
  simp only
  rw [if_neg (by simp), List.take_left]
  congr 1
  simp only [List.length_append, List.length_cons, List.length_nil] at hlen ⊢
  omega
/-- A text as it is written is one part, and read as it was. -/
theorem arg_at {s t r : Tx} {p c f : Nat} {d : UInt8} (hd : wordy d = false) (ht : t.length ≤ 100000) (hp : p ≤ s.length) (hc : c + 1 ≤ 60) (h : s.drop p = quoteW t ++ d :: r) : ∃ k, argW s (f + 1) p c = .ok (.mk k t []) (p + (quoteW t).length) (c + 1) := by
  rw [argW, if_neg (by omega)]
  unfold quoteW at h ⊢
  by_cases hb : bareW t = true
  · rw [if_pos hb] at h ⊢
    unfold bareW at hb
    simp only [Bool.and_eq_true, Bool.not_eq_true', decide_eq_true_eq] at hb
    obtain ⟨⟨h1, h2⟩, h3⟩ := hb
    cases t with
    | nil => simp at h1
    | cons x t =>
      have hw := word_all h2 x List.mem_cons_self
      have hdr : s.drop p = x :: (t ++ d :: r) := h
      have n1 : ((123 : UInt8) == x) = false := by cases h9 : ((123 : UInt8) == x) with | false => rfl | true => rw [← (beq_iff_eq.1 h9)] at hw; revert hw; decide
      have n2 : ((34 : UInt8) == x) = false := by cases h9 : ((34 : UInt8) == x) with | false => rfl | true => rw [← (beq_iff_eq.1 h9)] at hw; revert hw; decide
      have n3 : ((40 : UInt8) == x) = false := by cases h9 : ((40 : UInt8) == x) with | false => rfl | true => rw [← (beq_iff_eq.1 h9)] at hw; revert hw; decide
      rw [took_drop hdr, n1, if_neg (by simp), took_drop hdr, n2, if_neg (by simp), took_drop hdr, n3, if_neg (by simp)]
      refine ⟨1, ?_⟩
      unfold wordW
      rw [h, word_upto (word_all h2) hd, if_neg (by simp)]
      rfl
  · rw [if_neg hb] at h ⊢
    by_cases hpl : t.all plainB = true
    · rw [if_pos hpl] at h ⊢
      have hdr : s.drop p = 34 :: (esc t ++ [34] ++ d :: r) := h
      have h1 : s.drop (p + 1) = esc t ++ 34 :: (d :: r) := by
        have := drop_more (a := [34]) (r := esc t ++ [34] ++ d :: r) hdr
        simpa using this
      have hlen := drop_len hdr hp
      rw [took_drop hdr, if_neg (by decide), took_drop hdr, if_pos (by decide), quoted_at t [] s.length (p + 1) (List.all_eq_true.1 hpl) h1 (by
        have : t.length ≤ (esc t).length := by
          clear hlen h1 hdr h hpl hb ht
          induction t with
          | nil => simp
          | cons x t ih =>
            rw [show esc (x :: t) = (if x = 92 ∨ x = 34 then [92, x] else [x]) ++ esc t by simp [esc], List.length_append, List.length_cons]
            split <;> simp <;> omega
        simp only [List.length_cons, List.length_append] at hlen
        omega)]
      refine ⟨2, ?_⟩
      simp only [Wd.map, List.nil_append, List.length_cons, List.length_append, List.length_nil]
      congr 1
      omega
    · rw [if_neg hpl] at h ⊢
      have hdr : s.drop p = 123 :: (Lib.itoa (t.length : Int) ++ [125, 13, 10] ++ t ++ d :: r) := h
      rw [took_drop hdr, if_pos (by decide), counted_at (by omega) hp h]
      exact ⟨2, rfl⟩
end Go.Proofs.YtmcpohnilgbicaaGreatDoor
