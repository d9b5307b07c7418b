/-
  How a box is called is called so, and more.
-/
import Derived.Test.YtfdlopimncodcaaGreatDoorMHsName
namespace Go.Proofs.YtfdlopimncodcaaGreatDoor
open Go.RowKit Go.Proofs.Aid Go.Proofs.Sq Go.Proofs.Hd

theorem between_no (c : UInt8) : ∀ (s : List UInt8) (p : List UInt8), p ∈ between c s → c ∉ p
  | [], p, h => by
    rw [between, List.mem_singleton] at h
    rw [h]
    exact List.not_mem_nil
  | b :: r, p, h => by
    have ih := between_no c r
    rw [between] at h
    split at h
    · rcases List.mem_cons.1 h with rfl | h
      · exact List.not_mem_nil
      · exact ih p h
    · rename_i hb
      obtain ⟨x, xs, hx⟩ := List.exists_cons_of_ne_nil (between_ne c r)
      rw [hx, List.headD_cons, List.tail_cons] at h
      rcases List.mem_cons.1 h with rfl | h
      · intro hm
        rcases List.mem_cons.1 hm with hm | hm
        · exact hb hm.symm
        · exact ih x (by rw [hx]; exact List.mem_cons_self) hm
      · exact ih p (by rw [hx]; exact List.mem_cons_of_mem _ h)
theorem between_join (c : UInt8) : ∀ (tl : List (List UInt8)) (x : List UInt8), (∀ p ∈ x :: tl, c ∉ p) → between c (Lib.join (x :: tl) [c]) = x :: tl
  | [], x, h => by
    rw [Lib.join_one]
    exact between_none (h x List.mem_cons_self)
  | y :: ys, x, h => by
    have ih := between_join c ys y fun p hp => h p (List.mem_cons_of_mem _ hp)
    rw [Lib.join_cons] at ih ⊢
    show between c (x ++ (([c] ++ y) ++ Lib.joinTail [c] ys)) = _
    rw [show x ++ (([c] ++ y) ++ Lib.joinTail [c] ys) = x ++ c :: (y ++ Lib.joinTail [c] ys) by simp, between_append _ (h x List.mem_cons_self), ih]
theorem gr_low : ∀ b : UInt8, (gr b).toNat < 128 → b.toNat < 128 := by
  have h : ∀ n : Fin 256, (gr (UInt8.ofNat n.val)).toNat < 128 → (UInt8.ofNat n.val).toNat < 128 := by decide +kernel
  intro b hb
  have := h ⟨b.toNat, b.toNat_lt⟩
  simp only [UInt8.ofNat_toNat] at this
  exact this hb
theorem runes_cons (b : UInt8) (t : List UInt8) (h : b.toNat < 128) : Ut.runes (b :: t) = b.toNat :: Ut.runes t := by
  rw [Ut.runes_step _ (by simp), Lib.decodeL_ascii b t h]
  rfl
theorem right_swap {a R : List UInt8} (b : List UInt8) (hl : a.length = b.length) (ha : ∀ c ∈ a, c.toNat < 128) (hb : ∀ c ∈ b, c.toNat < 128 ∧ Ut.okRune c.toNat = true) (h : Ut.rightB (a ++ R) = true) : Ut.rightB (b ++ R) = true := by
  have strip : ∀ (x : List UInt8), (∀ c ∈ x, c.toNat < 128) → Lib.validD (x ++ R) = Lib.validD R ∧ Ut.runes (x ++ R) = x.map UInt8.toNat ++ Ut.runes R := by
    intro x
    induction x with
    | nil => intro _; exact ⟨rfl, rfl⟩
    | cons c x ih =>
      intro hx
      obtain ⟨h1, h2⟩ := ih fun d hd => hx d (List.mem_cons_of_mem _ hd)
      have hc := hx c List.mem_cons_self
      rw [List.cons_append, Lib.validD_cons c _ hc, runes_cons c _ hc, h1, h2]
      exact ⟨rfl, rfl⟩
  obtain ⟨a1, a2⟩ := strip a ha
  obtain ⟨b1, b2⟩ := strip b fun c hc => (hb c hc).1
  unfold Ut.rightB at h ⊢
  rw [a1, a2, List.length_append, List.all_append] at h
  rw [b1, b2, List.length_append, List.all_append, ← hl]
  simp only [Bool.and_eq_true] at h ⊢
  refine ⟨h.1, ?_, h.2.2⟩
  rw [List.all_map, List.all_eq_true]
  exact fun c hc => (hb c hc).2
theorem nameB_idem {s n : Nm} (h : nameB s = some n) : nameB n = some n := by
  have h0 := h
  unfold nameB at h
  split at h
  · rename_i hc
    obtain rfl := Option.some.inj h
    obtain ⟨c1, c2, c3⟩ := hc
    obtain ⟨p0, tl, hx⟩ := List.exists_cons_of_ne_nil (between_ne 47 s)
    have hj := join_between 47 s
    rw [hx] at hj c3
    rw [hx, List.headD_cons, List.tail_cons] at h0 ⊢
    by_cases hin : great p0 = inboxN
    · have hh : nmHead p0 = inboxN := by unfold nmHead; rw [if_pos hin]
      rw [hh]
      rw [Lib.join_cons] at hj
      have hlen : p0.length = inboxN.length := by
        have := congrArg List.length hin
        unfold great at this
        rw [List.length_map] at this
        exact this
      have hlow : ∀ c ∈ p0, c.toNat < 128 := fun c hc => by
        have hm : gr c ∈ inboxN := by rw [← hin]; exact List.mem_map_of_mem hc
        refine gr_low c ?_
        have : ∀ d ∈ inboxN, d.toNat < 128 := by decide
        exact this _ hm
      have hR : Ut.rightB (inboxN ++ Lib.joinTail [47] tl) = true := right_swap inboxN hlen hlow (by decide) (by rw [hj]; exact c1)
      have hA : ((inboxN ++ Lib.joinTail [47] tl).any fun c => ([37, 42] : List UInt8).contains c) = false := by
        rw [← hj, List.any_append] at c2
        rw [List.any_append]
        have := (Bool.or_eq_false_iff.1 c2).2
        rw [this]
        decide
      have hno : ∀ p ∈ inboxN :: tl, (47 : UInt8) ∉ p := fun p hp => by
        rcases List.mem_cons.1 hp with rfl | hp
        · decide
        · exact between_no 47 s p (by rw [hx]; exact List.mem_cons_of_mem _ hp)
      have hB := between_join 47 tl inboxN hno
      have hne : [] ∉ inboxN :: tl := fun hm => by
        rcases List.mem_cons.1 hm with hm | hm
        · cases hm
        · exact c3 (List.mem_cons_of_mem _ hm)
      unfold nameB
      rw [hB]
      rw [Lib.join_cons] at *
      rw [if_pos ⟨hR, hA, hne⟩, List.headD_cons, List.tail_cons, show nmHead inboxN = inboxN by decide, Lib.join_cons]
    · have hh : nmHead p0 = p0 := by unfold nmHead; rw [if_neg hin]
      rw [hh, hj] at h0 ⊢
      exact h0
  · cases h
end Go.Proofs.YtfdlopimncodcaaGreatDoor
namespace Go.Proofs.YtfdlopimncodcaaGreatDoor
open Go.RowKit Go.Proofs.Aid Go.Proofs.Sq Go.Proofs.Hd

theorem dec_slash (A B : List UInt8) (h : A ≠ []) : Lib.decodeL (A ++ 47 :: B) = Lib.decodeL A := by
  rw [Lib.decodeL_N, Lib.decodeL_N]
  match A, h with
  | [a], _ => simp [Lib.decodeN]
  | [a, b], _ => simp [Lib.decodeN]
  | [a, b, c], _ => simp [Lib.decodeN]
  | a :: b :: c :: d :: t, _ => simp [Lib.decodeN]
theorem drop_slash (A B : List UInt8) {k : Nat} (h : k ≤ A.length) : (A ++ 47 :: B).drop k = A.drop k ++ 47 :: B := List.drop_append_of_le_length h
theorem valid_slash (B : List UInt8) : ∀ (n : Nat) (A : List UInt8), A.length ≤ n → Lib.validD (A ++ 47 :: B) = (Lib.validD A && Lib.validD B)
  | _, [], _ => by
    rw [List.nil_append, Lib.validD_cons 47 B (by decide), Lib.validD_nil, Bool.true_and]
  | 0, _ :: _, h => by simp at h
  | n + 1, a :: A, h => by
    have hw := Lib.decodeL_width (a :: A)
    have hle := Lib.decodeL_le (a :: A) (by simp)
    have hd := dec_slash (a :: A) B (by simp)
    rw [Lib.validD_step _ (by simp), Lib.validD_step (a :: A) (by simp), hd, drop_slash _ _ hle]
    split
    · rfl
    · exact valid_slash B n _ (by rw [List.length_drop]; simp at h ⊢; omega)
theorem runes_slash (B : List UInt8) : ∀ (n : Nat) (A : List UInt8), A.length ≤ n → Ut.runes (A ++ 47 :: B) = Ut.runes A ++ 47 :: Ut.runes B
  | _, [], _ => runes_cons 47 B (by decide)
  | 0, _ :: _, h => by simp at h
  | n + 1, a :: A, h => by
    have hw := Lib.decodeL_width (a :: A)
    have hle := Lib.decodeL_le (a :: A) (by simp)
    have hd := dec_slash (a :: A) B (by simp)
    rw [Ut.runes_step _ (by simp), Ut.runes_step (a :: A) (by simp), hd, drop_slash _ _ hle, runes_slash B n _ (by rw [List.length_drop]; simp at h ⊢; omega)]
    rfl
theorem between_slash (B : List UInt8) : ∀ A : List UInt8, between 47 (A ++ 47 :: B) = between 47 A ++ between 47 B
  | [] => by
    simp [between]
  | a :: A => by
    have ih := between_slash B A
    obtain ⟨x, xs, hx⟩ := List.exists_cons_of_ne_nil (between_ne 47 A)
    rw [List.cons_append, between, between, ih, hx]
    split
    · rfl
    · rfl
/-- A name that is called just so. -/
structure NmOk (s : Nm) : Prop where
  len : 1 ≤ s.length ∧ s.length ≤ 60
  valid : Lib.validD s = true
  runes : (Ut.runes s).all Ut.okRune = true
  wild : (s.any fun c => ([37, 42] : List UInt8).contains c) = false
  parts : [] ∉ between 47 s
  head : nmHead ((between 47 s).headD []) = (between 47 s).headD []
theorem nmOk_of {s : Nm} (h : nameB s = some s) : NmOk s := by
  unfold nameB at h
  split at h
  · rename_i hc
    obtain ⟨c1, c2, c3⟩ := hc
    unfold Ut.rightB at c1
    simp only [Bool.and_eq_true, decide_eq_true_eq] at c1
    refine ⟨⟨c1.1.1.1, c1.1.1.2⟩, c1.1.2, c1.2, c2, c3, ?_⟩
    have h1 := Option.some.inj h
    have h2 := join_between 47 s
    obtain ⟨x, xs, hx⟩ := List.exists_cons_of_ne_nil (between_ne 47 s)
    rw [hx] at h1 h2 ⊢
    rw [List.headD_cons, List.tail_cons, Lib.join_cons] at h1
    rw [Lib.join_cons] at h2
    rw [List.headD_cons]
    exact (List.append_inj (h1.trans h2.symm) (nmHead_len x)).1
  · cases h
theorem NmOk.name {s : Nm} (h : NmOk s) : nameB s = some s := by
  unfold nameB
  have c1 : Ut.rightB s = true := by
    unfold Ut.rightB
    simp only [Bool.and_eq_true, decide_eq_true_eq]
    exact ⟨⟨h.len, h.valid⟩, h.runes⟩
  rw [if_pos ⟨c1, h.wild, h.parts⟩, h.head]
  have h2 := join_between 47 s
  obtain ⟨x, xs, hx⟩ := List.exists_cons_of_ne_nil (between_ne 47 s)
  rw [hx] at h2 ⊢
  rw [List.headD_cons, List.tail_cons, h2]
theorem headD_app {a b : List Nm} (h : a ≠ []) : (a ++ b).headD [] = a.headD [] := by
  obtain ⟨x, xs, rfl⟩ := List.exists_cons_of_ne_nil h
  rfl
theorem name_ahead {A B : Nm} (h : nameB (A ++ 47 :: B) = some (A ++ 47 :: B)) : nameB A = some A := by
  obtain ⟨h1, h2, h3, h4, h5, h6⟩ := nmOk_of h
  rw [valid_slash B _ A (Nat.le_refl _), Bool.and_eq_true] at h2
  rw [runes_slash B _ A (Nat.le_refl _), List.all_append, Bool.and_eq_true] at h3
  rw [List.any_append] at h4
  rw [between_slash] at h5 h6
  rw [headD_app (between_ne 47 A)] at h6
  have h7 : [] ∉ between 47 A := fun hm => h5 (List.mem_append.2 (Or.inl hm))
  refine NmOk.name ⟨⟨?_, ?_⟩, h2.1, h3.1, (Bool.or_eq_false_iff.1 h4).1, h7, h6⟩
  · cases A with
    | nil => exact absurd (by rw [between]; exact List.mem_singleton.2 rfl) h7
    | cons => simp
  · have := h1.2
    rw [List.length_append] at this
    omega
theorem name_behind {T N B : Nm} (hT : nameB T = some T) (hN : nameB (N ++ 47 :: B) = some (N ++ 47 :: B)) (hl : (T ++ 47 :: B).length ≤ 60) : nameB (T ++ 47 :: B) = some (T ++ 47 :: B) := by
  obtain ⟨t1, t2, t3, t4, t5, t6⟩ := nmOk_of hT
  obtain ⟨h1, h2, h3, h4, h5, h6⟩ := nmOk_of hN
  rw [valid_slash B _ N (Nat.le_refl _), Bool.and_eq_true] at h2
  rw [runes_slash B _ N (Nat.le_refl _), List.all_append, Bool.and_eq_true] at h3
  rw [List.any_append] at h4
  rw [between_slash] at h5
  refine NmOk.name ⟨⟨?_, hl⟩, ?_, ?_, ?_, ?_, ?_⟩
  · rw [List.length_append]
    omega
  · rw [valid_slash B _ T (Nat.le_refl _), t2, h2.2]
    rfl
  · rw [runes_slash B _ T (Nat.le_refl _), List.all_append, t3, h3.2]
    rfl
  · rw [List.any_append, t4, (Bool.or_eq_false_iff.1 h4).2]
    rfl
  · rw [between_slash]
    intro hm
    rcases List.mem_append.1 hm with hm | hm
    · exact t5 hm
    · exact h5 (List.mem_append.2 (Or.inr hm))
  · rw [between_slash, headD_app (between_ne 47 T)]
    exact t6
/-- What stands ahead of a / in a name. -/
theorem cut_at {n : Nm} {i : Nat} (h : n[i]? = some 47) : n = n.take i ++ 47 :: n.drop (i + 1) := by
  obtain ⟨hi, he⟩ := List.getElem?_eq_some_iff.1 h
  rw [← he, ← List.drop_eq_getElem_cons hi, List.take_append_drop]
theorem name_take {n : Nm} {i : Nat} (h : nameB n = some n) (hi : n[i]? = some 47) : nameB (n.take i) = some (n.take i) := by
  refine name_ahead (B := n.drop (i + 1)) ?_
  rw [← cut_at hi]
  exact h
end Go.Proofs.YtfdlopimncodcaaGreatDoor
namespace Go.Proofs.Bx
abbrev Tx := List UInt8

/-- A message: its number, flags, day, text. -/
structure Lt where
  uid : Int
  flags : List Tx
  day : Int
  text : Tx
/-- Numbers rise. -/
def Rise (l : List Lt) : Prop := l.Pairwise fun a b => a.uid < b.uid
/-- How many have less. -/
def findI (l : List Lt) (u : Int) : Nat := (l.takeWhile fun x => decide (x.uid < u)).length
/-- Whether there is one of that number. -/
def findB (l : List Lt) (u : Int) : Bool := l.any fun x => x.uid == u
theorem rise_at {l : List Lt} (h : Rise l) {i j : Nat} (hi : i < l.length) (hj : j < l.length) (hij : i < j) : l[i].uid < l[j].uid := List.pairwise_iff_getElem.1 h i j hi hj hij
theorem find_at : ∀ {l : List Lt} {u : Int} {i : Nat}, (∀ t (h : t < l.length), t < i → l[t].uid < u) → i ≤ l.length → (∀ h : i < l.length, u ≤ l[i].uid) → findI l u = i
  | [], u, i, _, hi, _ => by
    have : i = 0 := by simpa using hi
    subst this
    rfl
  | x :: l, u, 0, _, _, h2 => by
    have := h2 (by simp)
    unfold findI
    rw [List.takeWhile_cons_of_neg (by simpa using this)]
    rfl
  | x :: l, u, i + 1, h1, hi, h2 => by
    have h0 := h1 0 (by simp) (by omega)
    unfold findI
    rw [List.takeWhile_cons_of_pos (by simpa using h0), List.length_cons]
    have := find_at (l := l) (u := u) (i := i) (fun t h ht => by have := h1 (t + 1) (by simp; omega) (by omega); simpa using this) (by simpa using hi) (fun h => by have := h2 (by simp; omega); simpa using this)
    unfold findI at this
    rw [this]
theorem find_some {l : List Lt} {u : Int} (hr : Rise l) {i : Nat} (h1 : ∀ t (h : t < l.length), t < i → l[t].uid < u) (hi : i < l.length) : findB l u = decide (l[i].uid = u) ∨ l[i].uid < u := by
  by_cases h3 : l[i].uid < u
  · exact Or.inr h3
  · left
    by_cases h4 : l[i].uid = u
    · rw [decide_eq_true h4]
      unfold findB
      rw [List.any_eq_true]
      exact ⟨l[i], List.getElem_mem hi, by simpa using h4⟩
    · rw [decide_eq_false h4]
      unfold findB
      rw [← Bool.not_eq_true, List.any_eq_true]
      rintro ⟨x, hx, he⟩
      obtain ⟨j, hj, rfl⟩ := List.mem_iff_getElem.1 hx
      have he : l[j].uid = u := by simpa using he
      rcases Nat.lt_trichotomy j i with h | h | h
      · have := h1 j hj h; omega
      · subst h; exact h4 he
      · have := rise_at hr hi hj h; omega
theorem find_none {l : List Lt} {u : Int} (h1 : ∀ t (h : t < l.length), l[t].uid < u) : findB l u = false := by
  unfold findB
  rw [← Bool.not_eq_true, List.any_eq_true]
  rintro ⟨x, hx, he⟩
  obtain ⟨j, hj, rfl⟩ := List.mem_iff_getElem.1 hx
  have he : l[j].uid = u := by simpa using he
  have := h1 j hj
  omega
theorem below_mid {l : List Lt} {u : Int} {m : Nat} (hr : Rise l) (hm : m < l.length) (h : l[m].uid < u) : ∀ t (h : t < l.length), t < m + 1 → l[t].uid < u := fun t ht hlt => by
  rcases Nat.lt_or_ge t m with h1 | h1
  · have := rise_at hr ht hm h1; omega
  · obtain rfl : t = m := by omega
    exact h
theorem find_true {l : List Lt} {u : Int} (hr : Rise l) (h : findB l u = true) : ∃ x, l[findI l u]? = some x ∧ x.uid = u := by
  unfold findB at h
  rw [List.any_eq_true] at h
  obtain ⟨x, hx, he⟩ := h
  obtain ⟨j, hj, rfl⟩ := List.mem_iff_getElem.1 hx
  have he : l[j].uid = u := by simpa using he
  have hi : findI l u = j := find_at (fun t ht hlt => by have := rise_at hr ht hj hlt; omega) (by omega) (fun _ => by omega)
  exact ⟨l[j], by rw [hi]; exact List.getElem?_eq_getElem hj, he⟩
end Go.Proofs.Bx
