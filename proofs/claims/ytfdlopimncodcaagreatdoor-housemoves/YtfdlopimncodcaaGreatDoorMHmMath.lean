/-
  What a pattern asks, plain mathematics.
-/
import Derived.Test.YtfdlopimncodcaaGreatDoorMHmMatchIs
namespace Go.Proofs.YtfdlopimncodcaaGreatDoor

/-- A text is as a pattern asks. -/
inductive Mt : List UInt8 → List UInt8 → Prop
  | nil : Mt [] []
  | star {p t : List UInt8} (u : List UInt8) : Mt p t → Mt (p ++ [42]) (t ++ u)
  | part {p t : List UInt8} (u : List UInt8) : Mt p t → 47 ∉ u → Mt (p ++ [37]) (t ++ u)
  | one {p t : List UInt8} (c : UInt8) : c ≠ 42 → c ≠ 37 → Mt p t → Mt (p ++ [c]) (t ++ [c])
theorem snoc_inj {p q : List UInt8} {a b : UInt8} (h : p ++ [a] = q ++ [b]) : p = q ∧ a = b := by
  have := List.append_inj' h rfl
  exact ⟨this.1, by simpa using this.2⟩
theorem mt_nil {t : List UInt8} : Mt [] t ↔ t = [] := by
  constructor
  · intro h
    generalize hp : ([] : List UInt8) = p at h
    cases h with
    | nil => rfl
    | star u h => simp at hp
    | part u h _ => simp at hp
    | one c _ _ h => simp at hp
  · rintro rfl
    exact Mt.nil
theorem mt_snoc {p t : List UInt8} {c : UInt8} : Mt (p ++ [c]) t ↔ ∃ t1 u, t = t1 ++ u ∧ Mt p t1 ∧ (c = 42 ∨ (c = 37 ∧ 47 ∉ u) ∨ (c ≠ 42 ∧ c ≠ 37 ∧ u = [c])) := by
  constructor
  · intro h
    generalize hp : p ++ [c] = q at h
    cases h with
    | nil => simp at hp
    | star u h =>
      obtain ⟨rfl, rfl⟩ := snoc_inj hp
      exact ⟨_, u, rfl, h, Or.inl rfl⟩
    | part u h hu =>
      obtain ⟨rfl, rfl⟩ := snoc_inj hp
      exact ⟨_, u, rfl, h, Or.inr (Or.inl ⟨rfl, hu⟩)⟩
    | one c h1 h2 h =>
      obtain ⟨rfl, rfl⟩ := snoc_inj hp
      exact ⟨_, _, rfl, h, Or.inr (Or.inr ⟨h1, h2, rfl⟩)⟩
  · rintro ⟨t1, u, rfl, h, rfl | ⟨rfl, hu⟩ | ⟨h1, h2, rfl⟩⟩
    · exact Mt.star u h
    · exact Mt.part u h hu
    · exact Mt.one c h1 h2 h
theorem strAt_get (ok : Nat → Bool) (E : List Bool) : ∀ (n k : Nat), n < E.length → ((strAt ok E n).getD k false = true ↔ if k ≤ n then ∃ j, j ≤ k ∧ E.getD j false = true ∧ ∀ i, j ≤ i → i < k → ok i = true else E.getD k false = true)
  | 0, k, _ => by
    rw [strAt]
    by_cases hk : k ≤ 0
    · rw [if_pos hk]
      obtain rfl : k = 0 := by omega
      exact ⟨fun h => ⟨0, Nat.le_refl _, h, fun i _ h => absurd h (by omega)⟩, fun ⟨j, hj, h, _⟩ => (show j = 0 by omega) ▸ h⟩
    · rw [if_neg hk]
  | n + 1, k, hn => by
    have ih := strAt_get ok E n
    rw [strAt, getD_set _ _ _ _ (by rw [strAt_len]; exact hn)]
    by_cases hk : n + 1 = k
    · subst hk
      rw [if_pos rfl, if_pos (Nat.le_refl _), Bool.or_eq_true, Bool.and_eq_true, ih (n + 1) (by omega), ih n (by omega), if_neg (by omega), if_pos (Nat.le_refl _)]
      constructor
      · rintro (h | ⟨⟨j, hj, h, hi⟩, ho⟩)
        · exact ⟨n + 1, Nat.le_refl _, h, fun i h1 h2 => absurd h2 (by omega)⟩
        · refine ⟨j, by omega, h, fun i h1 h2 => ?_⟩
          by_cases e : i = n
          · rw [e]; exact ho
          · exact hi i h1 (by omega)
      · rintro ⟨j, hj, h, hi⟩
        by_cases e : j = n + 1
        · subst e
          exact Or.inl h
        · exact Or.inr ⟨⟨j, by omega, h, fun i h1 h2 => hi i h1 (by omega)⟩, hi n (by omega) (by omega)⟩
    · rw [if_neg hk, ih k (by omega)]
      by_cases h1 : k ≤ n
      · rw [if_pos h1, if_pos (by omega)]
      · rw [if_neg h1, if_neg (by omega)]
theorem stpL_get (ok : Nat → Bool) (E : List Bool) (k : Nat) (hk : k < E.length) : (stpL ok E).getD k false = true ↔ 0 < k ∧ E.getD (k - 1) false = true ∧ ok (k - 1) = true := by
  unfold stpL
  rw [getD_set _ _ _ _ (by rw [stpAt_len]; omega)]
  by_cases h0 : 0 = k
  · rw [if_pos h0]
    constructor
    · intro h; cases h
    · rintro ⟨h, _⟩; omega
  · rw [if_neg h0, stpAt_get _ _ _ _ hk, if_pos (by omega), Bool.and_eq_true]
    exact ⟨fun h => ⟨by omega, h⟩, fun h => h.2⟩
theorem take_split {s t1 u : List UInt8} {k : Nat} (h : s.take k = t1 ++ u) (hk : k ≤ s.length) : t1 = s.take t1.length ∧ t1.length ≤ k ∧ u = (s.take k).drop t1.length := by
  have hl : t1.length + u.length = k := by
    have := congrArg List.length h
    rw [List.length_take, List.length_append] at this
    omega
  refine ⟨?_, by omega, by rw [h, List.drop_left]⟩
  have := congrArg (List.take t1.length) h
  rw [List.take_take, List.take_left, Nat.min_eq_left (by omega)] at this
  exact this.symm
theorem drop_no {s : List UInt8} {j k : Nat} (hk : k ≤ s.length) : 47 ∉ (s.take k).drop j ↔ ∀ i, j ≤ i → i < k → decide (s.getD i 0 ≠ 47) = true := by
  constructor
  · intro h i h1 h2
    rw [decide_eq_true_eq]
    intro e
    refine h (List.mem_iff_getElem?.2 ⟨i - j, ?_⟩)
    rw [List.getElem?_drop, show j + (i - j) = i by omega, List.getElem?_take_of_lt h2, List.getElem?_eq_getElem (by omega)]
    rw [List.getD_eq_getElem?_getD, List.getElem?_eq_getElem (by omega)] at e
    exact congrArg some e
  · intro h hm
    obtain ⟨i, hi⟩ := List.mem_iff_getElem?.1 hm
    rw [List.getElem?_drop] at hi
    have hlt : j + i < k := by
      have := (List.getElem?_eq_some_iff.1 hi).1
      rw [List.length_take] at this
      omega
    rw [List.getElem?_take_of_lt hlt] at hi
    have := h (j + i) (by omega) hlt
    rw [List.getD_eq_getElem?_getD, hi] at this
    simp at this
theorem ends_iff (s : List UInt8) : ∀ (n : Nat) (p : List UInt8), p.length = n → ∀ k, k ≤ s.length → ((endsOf s p).getD k false = true ↔ Mt p (s.take k))
  | 0, p, hp, k, hk => by
    obtain rfl := List.eq_nil_of_length_eq_zero hp
    rw [mt_nil]
    unfold endsOf
    rw [List.foldl_nil]
    cases k with
    | zero => simp
    | succ k =>
      have : (true :: List.replicate s.length false).getD (k + 1) false = false := by
        rw [List.getD_cons_succ, List.getD_eq_getElem?_getD, List.getElem?_replicate]
        split <;> rfl
      rw [this]
      constructor
      · intro h; cases h
      · intro h
        have hl := congrArg List.length h
        rw [List.length_take, Nat.min_eq_left hk] at hl
        simp at hl
  | n + 1, p, hp, k, hk => by
    have hne : p ≠ [] := fun e => by rw [e] at hp; simp at hp
    obtain ⟨q, c, rfl⟩ : ∃ q c, p = q ++ [c] := ⟨p.dropLast, p.getLast hne, (List.dropLast_concat_getLast hne).symm⟩
    have ih := ends_iff s n q (by rw [List.length_append] at hp; simpa using hp)
    have hE : endsOf s (q ++ [c]) = endsF s (endsOf s q) c := by unfold endsOf; rw [List.foldl_append]; rfl
    have hl := endsOf_len s q
    rw [hE, mt_snoc]
    obtain ⟨E, hEE⟩ : ∃ E, endsOf s q = E := ⟨_, rfl⟩
    rw [hEE] at ih hl ⊢
    have cut : ∀ j, j ≤ k → s.take k = s.take j ++ (s.take k).drop j := fun j hj => by
      have := (List.take_append_drop j (s.take k)).symm
      rw [List.take_take, Nat.min_eq_left hj] at this
      exact this
    unfold endsF
    by_cases h42 : c = 42
    · rw [if_pos h42, strAt_get _ _ _ _ (by omega), if_pos (by omega)]
      constructor
      · rintro ⟨j, hj, h, _⟩
        exact ⟨s.take j, _, cut j hj, (ih j (by omega)).1 h, Or.inl h42⟩
      · rintro ⟨t1, u, he, h, _⟩
        obtain ⟨h1, h2, _⟩ := take_split he hk
        refine ⟨t1.length, h2, (ih _ (by omega)).2 (h1 ▸ h), fun _ _ _ => rfl⟩
    rw [if_neg h42]
    by_cases h37 : c = 37
    · rw [if_pos h37, strAt_get _ _ _ _ (by omega), if_pos (by omega)]
      constructor
      · rintro ⟨j, hj, h, hi⟩
        exact ⟨s.take j, _, cut j hj, (ih j (by omega)).1 h, Or.inr (Or.inl ⟨h37, (drop_no hk).2 hi⟩)⟩
      · rintro ⟨t1, u, he, h, hc⟩
        obtain ⟨h1, h2, h3⟩ := take_split he hk
        have hu : 47 ∉ u := by
          rcases hc with e | ⟨_, e⟩ | ⟨_, e, _⟩
          · exact absurd e h42
          · exact e
          · exact absurd h37 e
        exact ⟨t1.length, h2, (ih _ (by omega)).2 (h1 ▸ h), (drop_no hk).1 (h3 ▸ hu)⟩
    rw [if_neg h37, stpL_get _ _ _ (by omega)]
    constructor
    · rintro ⟨h0, h, ho⟩
      have hlt : k - 1 < s.length := by omega
      refine ⟨s.take (k - 1), [c], ?_, (ih _ (by omega)).1 h, Or.inr (Or.inr ⟨h42, h37, rfl⟩)⟩
      have hc : s[k - 1] = c := by
        rw [List.getD_eq_getElem?_getD, List.getElem?_eq_getElem hlt] at ho
        simpa using ho
      have := List.take_succ_eq_append_getElem hlt
      rw [show k - 1 + 1 = k by omega, hc] at this
      exact this
    · rintro ⟨t1, u, he, h, hc⟩
      have hu : u = [c] := by
        rcases hc with e | ⟨e, _⟩ | ⟨_, _, e⟩
        · exact absurd e h42
        · exact absurd e h37
        · exact e
      subst hu
      obtain ⟨h1, h2, h3⟩ := take_split he hk
      have hlen : t1.length + 1 = k := by
        have := congrArg List.length he
        rw [List.length_take, List.length_append] at this
        simp at this
        omega
      have hlt : t1.length < s.length := by omega
      refine ⟨by omega, ?_, ?_⟩
      · rw [show k - 1 = t1.length by omega]
        exact (ih _ (by omega)).2 (h1 ▸ h)
      · rw [show k - 1 = t1.length by omega, List.getD_eq_getElem?_getD, List.getElem?_eq_getElem hlt]
        have h5 := List.take_succ_eq_append_getElem hlt
        rw [hlen, he, ← h1] at h5
        have := List.append_cancel_left h5
        have h6 : c = s[t1.length] := by simpa using this
        rw [← h6]
        simp
theorem match_iff (p s : List UInt8) : matchB p s = true ↔ Mt p s := by
  unfold matchB
  rw [ends_iff s p.length p rfl s.length (Nat.le_refl _), List.take_length]
/-- A pattern without * and %. -/
def PlainP (p : List UInt8) : Prop := (42 : UInt8) ∉ p ∧ (37 : UInt8) ∉ p
theorem plain_snoc {p : List UInt8} {c : UInt8} (h : PlainP (p ++ [c])) : PlainP p ∧ c ≠ 42 ∧ c ≠ 37 := by
  refine ⟨⟨fun e => h.1 (List.mem_append_left _ e), fun e => h.2 (List.mem_append_left _ e)⟩, fun e => h.1 ?_, fun e => h.2 ?_⟩
  · rw [e]; simp
  · rw [e]; simp
theorem snoc_cases (p : List UInt8) : p = [] ∨ ∃ q c, p = q ++ [c] := by
  by_cases h : p = []
  · exact Or.inl h
  · exact Or.inr ⟨p.dropLast, p.getLast h, (List.dropLast_concat_getLast h).symm⟩
theorem mt_star_all (s : List UInt8) : Mt [42] s := Mt.star (p := []) (t := []) s Mt.nil
theorem mt_part_all (s : List UInt8) : Mt [37] s ↔ 47 ∉ s := by
  rw [show ([37] : List UInt8) = [] ++ [37] from rfl, mt_snoc]
  constructor
  · rintro ⟨t1, u, rfl, h, hc⟩
    rw [mt_nil] at h
    subst h
    rcases hc with e | ⟨_, e⟩ | ⟨_, e, _⟩
    · exact absurd e (by decide)
    · exact e
    · exact absurd rfl e
  · intro h
    exact ⟨[], s, rfl, Mt.nil, Or.inr (Or.inl ⟨rfl, h⟩)⟩
theorem mt_plain : ∀ (n : Nat) (p : List UInt8), p.length = n → PlainP p → ∀ s, (Mt p s ↔ p = s)
  | 0, p, hn, _, s => by
    obtain rfl := List.eq_nil_of_length_eq_zero hn
    rw [mt_nil]
    exact eq_comm
  | n + 1, p, hn, hp, s => by
    rcases snoc_cases p with rfl | ⟨q, c, rfl⟩
    · simp at hn
    obtain ⟨h1, h2, h3⟩ := plain_snoc hp
    rw [mt_snoc]
    constructor
    · rintro ⟨t1, u, rfl, h, hc⟩
      rw [mt_plain n q (by rw [List.length_append] at hn; simpa using hn) h1] at h
      rcases hc with e | ⟨e, _⟩ | ⟨_, _, e⟩
      · exact absurd e h2
      · exact absurd e h3
      · rw [h, e]
    · rintro rfl
      exact ⟨q, [c], rfl, (mt_plain n q (by rw [List.length_append] at hn; simpa using hn) h1 q).2 rfl, Or.inr (Or.inr ⟨h2, h3, rfl⟩)⟩
theorem mt_begin {p s : List UInt8} (hp : PlainP p) : Mt (p ++ [42]) s ↔ ∃ u, s = p ++ u := by
  rw [mt_snoc]
  constructor
  · rintro ⟨t1, u, rfl, h, _⟩
    exact ⟨u, by rw [(mt_plain _ p rfl hp t1).1 h]⟩
  · rintro ⟨u, rfl⟩
    exact ⟨p, u, rfl, (mt_plain _ p rfl hp p).2 rfl, Or.inl rfl⟩
theorem mt_front {p s : List UInt8} (h : Mt p s) (t : List UInt8) : Mt (42 :: p) (t ++ s) := by
  induction h with
  | nil => rw [List.append_nil]; exact mt_star_all t
  | star u _ ih => rw [← List.append_assoc]; exact Mt.star u ih
  | part u _ hu ih => rw [← List.append_assoc]; exact Mt.part u ih hu
  | one c h1 h2 _ ih => rw [← List.append_assoc]; exact Mt.one c h1 h2 ih
theorem mt_part_plain : ∀ (n : Nat) (p : List UInt8), p.length = n → PlainP p → ∀ s, (Mt (37 :: p) s ↔ ∃ a, s = a ++ p ∧ 47 ∉ a)
  | 0, p, hn, _, s => by
    obtain rfl := List.eq_nil_of_length_eq_zero hn
    rw [mt_part_all]
    exact ⟨fun h => ⟨s, by simp, h⟩, fun ⟨a, e, h⟩ => by rw [e, List.append_nil]; exact h⟩
  | n + 1, p, hn, hp, s => by
    rcases snoc_cases p with rfl | ⟨q, c, rfl⟩
    · simp at hn
    obtain ⟨h1, h2, h3⟩ := plain_snoc hp
    have ih := mt_part_plain n q (by rw [List.length_append] at hn; simpa using hn) h1
    rw [show 37 :: (q ++ [c]) = (37 :: q) ++ [c] from rfl, mt_snoc]
    constructor
    · rintro ⟨t1, u, rfl, h, hc⟩
      obtain ⟨a, rfl, ha⟩ := (ih t1).1 h
      rcases hc with e | ⟨e, _⟩ | ⟨_, _, e⟩
      · exact absurd e h2
      · exact absurd e h3
      · exact ⟨a, by rw [e, List.append_assoc], ha⟩
    · rintro ⟨a, rfl, ha⟩
      exact ⟨a ++ q, [c], by rw [List.append_assoc], (ih _).2 ⟨a, rfl, ha⟩, Or.inr (Or.inr ⟨h2, h3, rfl⟩)⟩
theorem mt_around {p s : List UInt8} (hp : PlainP p) : Mt (37 :: p ++ [37]) s ↔ ∃ a b, s = a ++ p ++ b ∧ 47 ∉ a ∧ 47 ∉ b := by
  rw [mt_snoc]
  constructor
  · rintro ⟨t1, u, rfl, h, hc⟩
    obtain ⟨a, rfl, ha⟩ := (mt_part_plain _ p rfl hp t1).1 h
    rcases hc with e | ⟨_, e⟩ | ⟨_, e, _⟩
    · exact absurd e (by decide)
    · exact ⟨a, u, rfl, ha, e⟩
    · exact absurd rfl e
  · rintro ⟨a, b, rfl, ha, hb⟩
    exact ⟨a ++ p, b, rfl, (mt_part_plain _ p rfl hp _).2 ⟨a, rfl, ha⟩, Or.inr (Or.inl ⟨rfl, hb⟩)⟩
end Go.Proofs.YtfdlopimncodcaaGreatDoor
