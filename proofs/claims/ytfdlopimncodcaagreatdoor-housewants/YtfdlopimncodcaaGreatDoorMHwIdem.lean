/-
  How a box is called is called so.
-/
import Derived.Test.YtfdlopimncodcaaGreatDoorMHsName
namespace Go.Proofs.YtfdlopimncodcaaGreatDoor
open Go.RowKit Go.Proofs.Aid Go.Proofs.Sq Go.Proofs.Hd

theorem between_no (c : UInt8) : ∀ (s : List UInt8) (p : List UInt8), p ∈ between c s → c ∉ p
  | [], p, h => by
    rw [between, List.mem_singleton] at h
    rw [h]
    exact List.not_mem_nil
  | b :: r, p, h => by
    have ih := between_no c r
    rw [between] at h
    split at h
    · rcases List.mem_cons.1 h with rfl | h
      · exact List.not_mem_nil
      · exact ih p h
    · rename_i hb
      obtain ⟨x, xs, hx⟩ := List.exists_cons_of_ne_nil (between_ne c r)
      rw [hx, List.headD_cons, List.tail_cons] at h
      rcases List.mem_cons.1 h with rfl | h
      · intro hm
        rcases List.mem_cons.1 hm with hm | hm
        · exact hb hm.symm
        · exact ih x (by rw [hx]; exact List.mem_cons_self) hm
      · exact ih p (by rw [hx]; exact List.mem_cons_of_mem _ h)
theorem between_join (c : UInt8) : ∀ (tl : List (List UInt8)) (x : List UInt8), (∀ p ∈ x :: tl, c ∉ p) → between c (Lib.join (x :: tl) [c]) = x :: tl
  | [], x, h => by
    rw [Lib.join_one]
    exact between_none (h x List.mem_cons_self)
  | y :: ys, x, h => by
    have ih := between_join c ys y fun p hp => h p (List.mem_cons_of_mem _ hp)
    rw [Lib.join_cons] at ih ⊢
    show between c (x ++ (([c] ++ y) ++ Lib.joinTail [c] ys)) = _
    rw [show x ++ (([c] ++ y) ++ Lib.joinTail [c] ys) = x ++ c :: (y ++ Lib.joinTail [c] ys) by simp, between_append _ (h x List.mem_cons_self), ih]
theorem gr_low : ∀ b : UInt8, (gr b).toNat < 128 → b.toNat < 128 := by
  have h : ∀ n : Fin 256, (gr (UInt8.ofNat n.val)).toNat < 128 → (UInt8.ofNat n.val).toNat < 128 := by decide +kernel
  intro b hb
  have := h ⟨b.toNat, b.toNat_lt⟩
  simp only [UInt8.ofNat_toNat] at this
  exact this hb
theorem runes_cons (b : UInt8) (t : List UInt8) (h : b.toNat < 128) : Ut.runes (b :: t) = b.toNat :: Ut.runes t := by
  rw [Ut.runes_step _ (by simp), Lib.decodeL_ascii b t h]
  rfl
theorem right_swap {a R : List UInt8} (b : List UInt8) (hl : a.length = b.length) (ha : ∀ c ∈ a, c.toNat < 128) (hb : ∀ c ∈ b, c.toNat < 128 ∧ Ut.okRune c.toNat = true) (h : Ut.rightB (a ++ R) = true) : Ut.rightB (b ++ R) = true := by
  have strip : ∀ (x : List UInt8), (∀ c ∈ x, c.toNat < 128) → Lib.validD (x ++ R) = Lib.validD R ∧ Ut.runes (x ++ R) = x.map UInt8.toNat ++ Ut.runes R := by
    intro x
    induction x with
    | nil => intro _; exact ⟨rfl, rfl⟩
    | cons c x ih =>
      intro hx
      obtain ⟨h1, h2⟩ := ih fun d hd => hx d (List.mem_cons_of_mem _ hd)
      have hc := hx c List.mem_cons_self
      rw [List.cons_append, Lib.validD_cons c _ hc, runes_cons c _ hc, h1, h2]
      exact ⟨rfl, rfl⟩
  obtain ⟨a1, a2⟩ := strip a ha
  obtain ⟨b1, b2⟩ := strip b fun c hc => (hb c hc).1
  unfold Ut.rightB at h ⊢
  rw [a1, a2, List.length_append, List.all_append] at h
  rw [b1, b2, List.length_append, List.all_append, ← hl]
  simp only [Bool.and_eq_true] at h ⊢
  refine ⟨h.1, ?_, h.2.2⟩
  rw [List.all_map, List.all_eq_true]
  exact fun c hc => (hb c hc).2
theorem nameB_idem {s n : Nm} (h : nameB s = some n) : nameB n = some n := by
  have h0 := h
  unfold nameB at h
  split at h
  · rename_i hc
    obtain rfl := Option.some.inj h
    obtain ⟨c1, c2, c3⟩ := hc
    obtain ⟨p0, tl, hx⟩ := List.exists_cons_of_ne_nil (between_ne 47 s)
    have hj := join_between 47 s
    rw [hx] at hj c3
    rw [hx, List.headD_cons, List.tail_cons] at h0 ⊢
    by_cases hin : great p0 = inboxN
    · have hh : nmHead p0 = inboxN := by unfold nmHead; rw [if_pos hin]
      rw [hh]
      rw [Lib.join_cons] at hj
      have hlen : p0.length = inboxN.length := by
        have := congrArg List.length hin
        unfold great at this
        rw [List.length_map] at this
        exact this
      have hlow : ∀ c ∈ p0, c.toNat < 128 := fun c hc => by
        have hm : gr c ∈ inboxN := by rw [← hin]; exact List.mem_map_of_mem hc
        refine gr_low c ?_
        have : ∀ d ∈ inboxN, d.toNat < 128 := by decide
        exact this _ hm
      have hR : Ut.rightB (inboxN ++ Lib.joinTail [47] tl) = true := right_swap inboxN hlen hlow (by decide) (by rw [hj]; exact c1)
      have hA : ((inboxN ++ Lib.joinTail [47] tl).any fun c => ([37, 42] : List UInt8).contains c) = false := by
        rw [← hj, List.any_append] at c2
        rw [List.any_append]
        have := (Bool.or_eq_false_iff.1 c2).2
        rw [this]
        decide
      have hno : ∀ p ∈ inboxN :: tl, (47 : UInt8) ∉ p := fun p hp => by
        rcases List.mem_cons.1 hp with rfl | hp
        · decide
        · exact between_no 47 s p (by rw [hx]; exact List.mem_cons_of_mem _ hp)
      have hB := between_join 47 tl inboxN hno
      have hne : [] ∉ inboxN :: tl := fun hm => by
        rcases List.mem_cons.1 hm with hm | hm
        · cases hm
        · exact c3 (List.mem_cons_of_mem _ hm)
      unfold nameB
      rw [hB]
      rw [Lib.join_cons] at *
      rw [if_pos ⟨hR, hA, hne⟩, List.headD_cons, List.tail_cons, show nmHead inboxN = inboxN by decide, Lib.join_cons]
    · have hh : nmHead p0 = p0 := by unfold nmHead; rw [if_neg hin]
      rw [hh, hj] at h0 ⊢
      exact h0
  · cases h
end Go.Proofs.YtfdlopimncodcaaGreatDoor
