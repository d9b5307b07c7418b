/-
  Bytes in pieces: what Next tells of a beginning, and of all. Of no program but by its numbers' spec.
-/
import Derived.Test.YtligkpcoajnjmaaDoorWireSpec
namespace Go.Proofs.YtligkpcoajnjmaaDoor
open Go.Proofs.Hd

theorem crlf_take : ∀ (l : Tx) (q : Nat), (0 ≤ Lib.index (l.take q) [13, 10] → Lib.index l [13, 10] = Lib.index (l.take q) [13, 10]) ∧ (Lib.index (l.take q) [13, 10] < 0 → Lib.index l [13, 10] < 0 ∨ (q : Int) < Lib.index l [13, 10] + 2)
  | l, 0 => by
    have h0 : Lib.index ([] : Tx) [13, 10] = -1 := by decide
    rw [List.take_zero, h0]
    refine ⟨fun h => absurd h (by decide), fun _ => ?_⟩
    omega
  | [], q + 1 => by
    have h0 : Lib.index ([] : Tx) [13, 10] = -1 := by decide
    rw [List.take_nil, h0]
    exact ⟨fun h => absurd h (by decide), fun _ => Or.inl (by decide)⟩
  | b :: r, q + 1 => by
    obtain ⟨iA, iB⟩ := crlf_take r q
    rw [List.take_succ_cons, index_cons, index_cons]
    have g1 := Lib.index_ge r [13, 10]
    have g2 := Lib.index_ge (r.take q) [13, 10]
    by_cases hp : ([13, 10] : Tx).isPrefixOf (b :: r.take q) = true
    · have hp2 : ([13, 10] : Tx).isPrefixOf (b :: r) = true := by
        rw [List.isPrefixOf_iff_prefix] at hp ⊢
        exact hp.trans ((List.prefix_cons_inj b).2 (List.take_prefix q r))
      rw [if_pos hp, if_pos hp2]
      exact ⟨fun _ => rfl, fun h => absurd h (by decide)⟩
    · rw [if_neg hp]
      by_cases hp2 : ([13, 10] : Tx).isPrefixOf (b :: r) = true
      · rw [if_pos hp2]
        have hq : q = 0 := by
          cases q with
          | zero => rfl
          | succ q =>
            exfalso
            apply hp
            cases r with
            | nil => simp [List.isPrefixOf] at hp2
            | cons c r => simpa [List.isPrefixOf] using hp2
        subst hq
        have h0 : Lib.index ([] : Tx) [13, 10] = -1 := by decide
        rw [List.take_zero, h0]
        refine ⟨fun h => absurd h (by decide), fun _ => Or.inr (by decide)⟩
      · rw [if_neg hp2]
        by_cases h1 : Lib.index (r.take q) [13, 10] = -1
        · rw [if_pos h1]
          refine ⟨fun h => absurd h (by decide), fun _ => ?_⟩
          by_cases h2 : Lib.index r [13, 10] = -1
          · rw [if_pos h2]; exact Or.inl (by decide)
          · rw [if_neg h2]
            rcases iB (by omega) with h | h <;> right <;> push_cast <;> omega
        · rw [if_neg h1]
          have h2 := iA (by omega)
          rw [h2, if_neg h1]
          exact ⟨fun _ => rfl, fun h => absurd h (by omega)⟩
/-- What Next tells: it never waits less, and ends behind where it began. -/
theorem next_ends (s : Tx) : ∀ (f a k : Nat), s.length - a ≤ f → k ≤ (nextW s a k).2.1 ∧ ((nextW s a k).1 = 0 ∨ (a < (nextW s a k).1 ∧ (nextW s a k).1 ≤ s.length))
  | f, a, k, hf => by
    by_cases h : Lib.index (s.drop a) [13, 10] < 0
    · rw [nextW_none h]; exact ⟨Nat.le_refl _, Or.inl rfl⟩
    · obtain ⟨z, hz⟩ : ∃ z : Nat, Lib.index (s.drop a) [13, 10] = (z : Int) := ⟨(Lib.index (s.drop a) [13, 10]).toNat, by omega⟩
      have hle := index_lt (show 0 ≤ Lib.index (s.drop a) [13, 10] by omega)
      rw [hz, Int.toNat_natCast, List.length_drop] at hle
      cases ht : tailF ((s.drop a).take z) with
      | none =>
        rw [nextW_last hz ht]
        split
        · exact ⟨Nat.le_refl _, Or.inl rfl⟩
        · exact ⟨Nat.le_refl _, Or.inr ⟨by simp only; omega, by simp only; omega⟩⟩
      | some n =>
        rw [nextW_more hz ht]
        split
        · exact ⟨Nat.le_refl _, Or.inl rfl⟩
        · split
          · exact ⟨Nat.le_succ _, Or.inl rfl⟩
          · match f, hf with
            | 0, hf => exact absurd hf (by omega)
            | f + 1, hf =>
              obtain ⟨i1, i2⟩ := next_ends s f (a + z + 2 + n) (k + 1) (by omega)
              exact ⟨by omega, i2.imp id fun i => ⟨by omega, i.2⟩⟩
/-- A beginning of bytes, and all of them. -/
theorem next_pieces (s : Tx) (q : Nat) (hq : q ≤ s.length) (hs : s.length ≤ 3000) : ∀ (f a k : Nat), s.length - a ≤ f → a ≤ q →
    ((nextW (s.take q) a k).2.2 = true → (nextW s a k).2.2 = true) ∧
    ((nextW (s.take q) a k).2.2 = false → (nextW s a k).2.2 = false → (nextW (s.take q) a k).2.1 ≤ (nextW s a k).2.1 ∧ ((nextW (s.take q) a k).1 = 0 ∨ ((nextW (s.take q) a k).1 = (nextW s a k).1 ∧ (nextW (s.take q) a k).2.1 = (nextW s a k).2.1)) ∧ ((nextW s a k).1 = 0 ∨ q < (nextW s a k).1 ∨ (nextW (s.take q) a k).1 = (nextW s a k).1))
  | f, a, k, hf, ha => by
    have hdt : (s.take q).drop a = (s.drop a).take (q - a) := by rw [List.drop_take]
    obtain ⟨iA, iB⟩ := crlf_take (s.drop a) (q - a)
    have hlen : (s.take q).length = q := by rw [List.length_take]; omega
    by_cases h : Lib.index ((s.take q).drop a) [13, 10] < 0
    · rw [nextW_none h, hlen]
      have hF : decide (3000 < q) = false := decide_eq_false (by omega)
      rw [hF]
      refine ⟨fun q => (Bool.noConfusion q), fun _ _ => ?_⟩
      obtain ⟨e1, e2⟩ := next_ends s f a k hf
      refine ⟨e1, Or.inl rfl, ?_⟩
      rw [hdt] at h
      rcases iB h with h1 | h1
      · rw [nextW_none h1]; exact Or.inl rfl
      · have h0 : 0 ≤ Lib.index (s.drop a) [13, 10] ∨ Lib.index (s.drop a) [13, 10] < 0 := by omega
        rcases h0 with h0 | h0
        · obtain ⟨z, hz⟩ : ∃ z : Nat, Lib.index (s.drop a) [13, 10] = (z : Int) := ⟨(Lib.index (s.drop a) [13, 10]).toNat, by omega⟩
          rw [hz] at h1
          cases ht : tailF ((s.drop a).take z) with
          | none =>
            rw [nextW_last hz ht]
            split
            · exact Or.inl rfl
            · exact Or.inr (Or.inl (by simp only; omega))
          | some n =>
            rw [nextW_more hz ht]
            split
            · exact Or.inl rfl
            · split
              · exact Or.inl rfl
              · obtain ⟨_, i2⟩ := next_ends s s.length (a + z + 2 + n) (k + 1) (by omega)
                exact i2.imp id fun i => Or.inl (by omega)
        · rw [nextW_none h0]; exact Or.inl rfl
    · have hz0 : 0 ≤ Lib.index ((s.drop a).take (q - a)) [13, 10] := by rw [← hdt]; omega
      have hsame := iA hz0
      obtain ⟨z, hz⟩ : ∃ z : Nat, Lib.index ((s.take q).drop a) [13, 10] = (z : Int) := ⟨(Lib.index ((s.take q).drop a) [13, 10]).toNat, by omega⟩
      have hz2 : Lib.index (s.drop a) [13, 10] = (z : Int) := by rw [hsame, ← hdt, hz]
      have hle := index_lt hz0
      rw [← hdt, hz, Int.toNat_natCast, List.length_drop, hlen] at hle
      have hline : ((s.take q).drop a).take z = (s.drop a).take z := by rw [hdt, List.take_take, Nat.min_eq_left (by omega)]
      cases ht : tailF ((s.drop a).take z) with
      | none =>
        rw [nextW_last hz2 ht, nextW_last hz (by rw [hline]; exact ht)]
        split
        · exact ⟨id, fun h => Bool.noConfusion h⟩
        · exact ⟨id, fun _ _ => ⟨Nat.le_refl _, Or.inr ⟨rfl, rfl⟩, Or.inr (Or.inr rfl)⟩⟩
      | some n =>
        rw [nextW_more hz2 ht, nextW_more hz (by rw [hline]; exact ht), hlen]
        split
        · exact ⟨id, fun h => Bool.noConfusion h⟩
        · by_cases h1 : q < a + z + 2 + n
          · rw [if_pos h1]
            refine ⟨fun h => Bool.noConfusion h, fun _ _ => ?_⟩
            split
            · exact ⟨Nat.le_refl _, Or.inl rfl, Or.inl rfl⟩
            · obtain ⟨i1, i2⟩ := next_ends s s.length (a + z + 2 + n) (k + 1) (by omega)
              exact ⟨i1, Or.inl rfl, i2.imp id fun i => Or.inl (by omega)⟩
          · rw [if_neg h1, if_neg (by omega)]
            match f, hf with
            | 0, hf => exact absurd hf (by omega)
            | f + 1, hf => exact next_pieces s q hq hs f (a + z + 2 + n) (k + 1) (by omega) (by omega)
end Go.Proofs.YtligkpcoajnjmaaDoor
