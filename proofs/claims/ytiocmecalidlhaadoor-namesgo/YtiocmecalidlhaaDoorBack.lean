/-
  What a name is written as is that name again: plain mathematics.
-/
import Derived.Test.YtiocmecalidlhaaDoorReadName
namespace Go.Proofs.Ut

theorem letter_idx : ∀ p : Fin 64, idx (letter p.val) = (p.val : Int) := by decide +kernel
theorem letter_printable : ∀ p : Fin 64, 43 ≤ (letter p.val).toNat ∧ (letter p.val).toNat ≤ 122 ∧ letter p.val ≠ 45 := by decide +kernel
theorem idx_letter (p : Nat) (h : p < 64) : idx (letter p) = (p : Int) := letter_idx ⟨p, h⟩

theorem bits6_append (a b : List UInt8) : bits6 (a ++ b) = bits6 a ++ bits6 b := by simp [bits6]
theorem bits6_letter (p : Nat) (h : p < 64) : bits6 [letter p] = bitsOf 6 p := by
  simp [bits6, idx_letter p h]
theorem bits6_pieces (l : List Bool) : ∀ j, 6 * j ≤ l.length → bits6 ((pieces 6 l j).map letter) = l.take (6 * j)
  | 0, _ => by simp [pieces, bits6]
  | j + 1, h => by
    rw [pieces_succ, List.map_append, bits6_append, bits6_pieces l j (by omega), List.map_cons, List.map_nil, bits6_letter _ (piece_lt 6 l j)]
    have hlen : ((l.drop (6 * j)).take 6).length = 6 := by rw [List.length_take, List.length_drop]; omega
    have hb : bitsOf 6 (piece 6 l j) = (l.drop (6 * j)).take 6 := by
      have := bitsOf_val ((l.drop (6 * j)).take 6)
      rw [hlen] at this
      exact this
    rw [hb, Nat.mul_succ, List.take_add]
/-- The letters' bits are the bits, and what they were filled up with. -/
theorem bits6_letters (l : List Bool) : ∃ pad, pad < 6 ∧ bits6 (lettersOf l) = l ++ List.replicate pad false := by
  unfold lettersOf
  rw [bits6_append, bits6_pieces l _ (by omega)]
  by_cases h : l.length % 6 = 0
  · refine ⟨0, by omega, ?_⟩
    rw [if_pos h, List.take_of_length_le (by omega)]
    simp [bits6]
  · refine ⟨6 - l.length % 6, by omega, ?_⟩
    rw [if_neg h]
    have hlen : (l.drop (6 * (l.length / 6)) ++ List.replicate (6 - l.length % 6) false).length = 6 := by
      rw [List.length_append, List.length_drop, List.length_replicate]; omega
    have hv := val_lt (l.drop (6 * (l.length / 6)) ++ List.replicate (6 - l.length % 6) false)
    rw [hlen] at hv
    rw [bits6_letter _ hv]
    have hb := bitsOf_val (l.drop (6 * (l.length / 6)) ++ List.replicate (6 - l.length % 6) false)
    rw [hlen] at hb
    rw [hb, ← List.append_assoc, List.take_append_drop]
theorem pieces_bits16 (us : List Nat) (hus : ∀ u ∈ us, u < 65536) : pieces 16 (bits16 us) us.length = us := by
  have H : ∀ k, k ≤ us.length → pieces 16 (bits16 (us.take k)) k = us.take k := by
    intro k
    induction k with
    | zero => intro _; simp [pieces]
    | succ k ih =>
      intro hk
      have hlt : k < us.length := by omega
      have hl : (bits16 (us.take k)).length = 16 * k := by rw [bits16_length, List.length_take]; omega
      have hu : us.getD k 0 < 65536 := hus _ (by rw [List.getD_eq_getElem?_getD]; simp [hlt])
      rw [pieces_succ, bits16_take us k hlt, pieces_append _ _ _ _ (by omega), ih (by omega)]
      have hpc : piece 16 (bits16 (us.take k) ++ bitsOf 16 (us.getD k 0)) k = us.getD k 0 := by
        unfold piece
        rw [List.drop_append_of_le_length (by omega), List.drop_of_length_le (by omega), List.nil_append, List.take_of_length_le (by rw [length_bitsOf]; omega), val_bitsOf, Nat.mod_eq_of_lt hu]
      rw [hpc, List.take_succ_eq_append_getElem hlt, List.getD_eq_getElem?_getD, List.getElem?_eq_getElem hlt]
      rfl
  have := H us.length (Nat.le_refl _)
  rw [List.take_length] at this
  exact this
theorem unitsIn_letters (us : List Nat) (hus : ∀ u ∈ us, u < 65536) : unitsIn (lettersOf (bits16 us)) = us := by
  obtain ⟨pad, hp, hb⟩ := bits6_letters (bits16 us)
  have hl := bits16_length us
  rw [unitsIn, hb, List.length_append, List.length_replicate, hl, show (16 * us.length + pad) / 16 = us.length by omega, pieces_append _ _ _ _ (by omega), pieces_bits16 us hus]
theorem mem_lettersOf {l : List Bool} {c : UInt8} (h : c ∈ lettersOf l) : ∃ p, p < 64 ∧ c = letter p := by
  unfold lettersOf at h
  rcases List.mem_append.1 h with h | h
  · simp only [List.mem_map, pieces] at h
    obtain ⟨p, ⟨i, _, rfl⟩, rfl⟩ := h
    exact ⟨_, piece_lt 6 l i, rfl⟩
  · split at h
    · simp at h
    · rename_i h6
      have : c = letter (val (l.drop (6 * (l.length / 6)) ++ List.replicate (6 - l.length % 6) false)) := by simpa using h
      refine ⟨_, ?_, this⟩
      have hv := val_lt (l.drop (6 * (l.length / 6)) ++ List.replicate (6 - l.length % 6) false)
      rw [List.length_append, List.length_drop, List.length_replicate, show l.length - 6 * (l.length / 6) + (6 - l.length % 6) = 6 by omega] at hv
      exact hv
theorem good_letters (l : List Bool) : goodLetters (lettersOf l) = true := by
  unfold goodLetters
  rw [List.all_eq_true]
  intro c hc
  obtain ⟨p, hp, rfl⟩ := mem_lettersOf hc
  rw [idx_letter p hp]
  simp
theorem runesOf_units (ws : List Nat) (hs : ∀ r ∈ ws, Scalar r) : runesOf (ws.flatMap unitsOf) = ws := by
  induction ws with
  | nil => rfl
  | cons r t ih =>
    have hr : Scalar r := hs r (by simp)
    have ih' := ih (fun x hx => hs x (by simp [hx]))
    rw [List.flatMap_cons]
    unfold Scalar at hr
    by_cases h : r ≤ 65535
    · rw [unitsOf, if_pos h, List.singleton_append, runesOf_alone (Or.inl (by simp [isUp]; omega)), ih']
    · rw [unitsOf, if_neg h]
      show runesOf (_ :: _ :: t.flatMap unitsOf) = _
      rw [runesOf_pair (by simp [isUp]; omega) (by simp [isLow]; omega), ih', show 65536 + (55296 + (r - 65536) / 1024 - 55296) * 1024 + (56320 + (r - 65536) % 1024 - 56320) = r by omega]
theorem indexByte_at : ∀ (l t : List UInt8) (c : UInt8), (∀ x ∈ l, x ≠ c) → Lib.indexByte (l ++ c :: t) c = l.length
  | [], t, c, _ => by simp [Lib.indexByte]
  | x :: l, t, c, h => by
    have ih := indexByte_at l t c (fun y hy => h y (by simp [hy]))
    have hx : (x == c) = false := by simpa using h x (by simp)
    rw [List.cons_append, Lib.indexByte, hx, ih]
    have hne : ((l.length : Int) == -1) = false := by rw [beq_eq_false_iff_ne]; omega
    rw [hne]
    simp
theorem flushTo_out (out : List UInt8) (us : List Nat) : flushTo out us = out ++ flushTo [] us := by
  unfold flushTo
  split <;> simp
theorem encFrom_out : ∀ (rs : List Nat) (out : List UInt8) (wait : List Nat), encFrom out wait rs = out ++ encFrom [] wait rs
  | [], out, wait => by rw [encFrom, encFrom, flushTo_out]
  | r :: rs, out, wait => by
    rw [encFrom, encFrom]
    split
    · exact encFrom_out rs out _
    · rw [encFrom_out rs (flushTo out wait ++ plainOf r), encFrom_out rs (flushTo [] wait ++ plainOf r), flushTo_out]
      simp
theorem lettersOf_ne (us : List Nat) (h : us ≠ []) : 0 < (lettersOf (bits16 us)).length := by
  have hp : 0 < us.length := List.length_pos_iff.2 h
  have hl := bits16_length us
  unfold lettersOf
  rw [List.length_append, List.length_map, pieces_length]
  omega
theorem bytesOf_eq {ws : List Nat} (h : runesOf (ws.flatMap unitsOf) = ws) : ws.flatMap enc8 = bytesOf (ws.flatMap unitsOf) := by rw [bytesOf, h]
/-- Letters that stand for units are read as their runes. -/
theorem read_flush (ws : List Nat) (hs : ∀ r ∈ ws, Scalar r) (tail : List UInt8) : readN (flushTo [] (ws.flatMap unitsOf) ++ tail) = (readN tail).map (ws.flatMap enc8 ++ ·) := by
  have hlt : ∀ u ∈ ws.flatMap unitsOf, u < 65536 := by
    intro u hu
    obtain ⟨r, hr, hu⟩ := List.mem_flatMap.1 hu
    have := hs r hr
    unfold Scalar at this
    exact unitsOf_lt r (by omega) u hu
  by_cases h0 : ws.flatMap unitsOf = []
  · have hw : ws = [] := by
      rcases ws with _ | ⟨r, t⟩
      · rfl
      · exfalso
        have := congrArg List.length h0
        rw [List.flatMap_cons, List.length_append, List.length_nil] at this
        have h1 : 0 < (unitsOf r).length := by unfold unitsOf; split <;> simp
        omega
    subst hw
    simp [flushTo]
  · have hun := unitsIn_letters _ hlt
    have hru := runesOf_units ws hs
    have hlp := lettersOf_ne _ h0
    have hgl := good_letters (bits16 (ws.flatMap unitsOf))
    have hno : ∀ x ∈ lettersOf (bits16 (ws.flatMap unitsOf)), x ≠ 45 := by
      intro x hx
      obtain ⟨p, hp, rfl⟩ := mem_lettersOf hx
      exact (letter_printable ⟨p, hp⟩).2.2
    rw [flushTo, if_neg h0, bytesOf_eq hru]
    generalize lettersOf (bits16 (ws.flatMap unitsOf)) = L at hun hlp hgl hno
    have hE : Lib.indexByte (38 :: (L ++ 45 :: tail)) 45 = ((L.length + 1 : Nat) : Int) := by
      have := indexByte_at (38 :: L) tail 45 (fun x hx => (List.mem_cons.1 hx).elim (fun h => by subst h; decide) (hno x))
      simpa using this
    have hlist : [] ++ 38 :: (L ++ [45]) ++ tail = 38 :: (L ++ 45 :: tail) := by simp
    have e1 : ((38 : UInt8) :: (L ++ 45 :: tail)).drop 1 = L ++ 45 :: tail := rfl
    have e2 : ((38 : UInt8) :: (L ++ 45 :: tail)).drop (L.length + 1 + 1) = tail := by
      rw [List.drop_succ_cons, List.drop_append, List.drop_of_length_le (by omega), show L.length + 1 - L.length = 1 by omega]; rfl
    rw [hlist, readN_cons, if_neg (by simp), hE, if_neg (by omega), if_neg (by omega), Int.toNat_natCast, e1, e2, show L.length + 1 - 1 = L.length by omega, List.take_left, if_pos hgl, hun]

theorem enc8_low (r : Nat) (h : r ≤ 126) : enc8 r = [UInt8.ofNat r] := by
  rw [enc8, Lib.encodeRune, Lib.encodeRuneZ_one (by omega) (by omega)]
  simp
theorem read_plain (r : Nat) (h : r ≤ 126) (tail : List UInt8) : readN (plainOf r ++ tail) = (readN tail).map (enc8 r ++ ·) := by
  rw [enc8_low r h]
  by_cases h38 : r = 38
  · subst h38
    have hE : Lib.indexByte (38 :: 45 :: tail) 45 = ((1 : Nat) : Int) := indexByte_at [38] tail 45 (by decide)
    show readN (38 :: 45 :: tail) = _
    rw [readN_cons, if_neg (by simp), hE, if_neg (by decide), if_pos (by decide)]
    rfl
  · rw [plainOf, if_neg h38]
    show readN (UInt8.ofNat r :: tail) = _
    have hne : UInt8.ofNat r ≠ 38 := by
      intro e
      have := congrArg UInt8.toNat e
      simp at this
      omega
    rw [readN_cons, if_pos hne]
    rfl
/-- What is written is read as it was. -/
theorem read_enc : ∀ (rs ws : List Nat), (∀ r ∈ rs, Scalar r) → (∀ r ∈ ws, Scalar r) → readN (encFrom [] (ws.flatMap unitsOf) rs) = some (ws.flatMap enc8 ++ rs.flatMap enc8)
  | [], ws, _, hw => by
    have := read_flush ws hw []
    rw [List.append_nil, readN_nil] at this
    rw [encFrom, this]
    rfl
  | r :: rs, ws, hr, hw => by
    rw [encFrom]
    have hr' : ∀ x ∈ rs, Scalar x := fun x hx => hr x (by simp [hx])
    split
    · have := read_enc rs (ws ++ [r]) hr' (by
        intro x hx
        rcases List.mem_append.1 hx with hx | hx
        · exact hw x hx
        · exact hr x (by simp at hx; simp [hx]))
      rw [List.flatMap_append, List.flatMap_cons, List.flatMap_nil, List.append_nil] at this
      rw [this]
      simp
    · rename_i h
      have := read_enc rs [] hr' (by simp)
      rw [List.flatMap_nil, List.flatMap_nil, List.nil_append] at this
      rw [encFrom_out, List.append_assoc, read_flush ws hw, read_plain r (by omega), this]
      simp
theorem read_name (l : List UInt8) (hv : Lib.validD l = true) : readN (encName l) = some l := by
  have := read_enc (runes l) [] (runes_scalar l) (by simp)
  rw [List.flatMap_nil, List.flatMap_nil, List.nil_append, runes_back l hv] at this
  exact this
def printable (c : UInt8) : Prop := 32 ≤ c.toNat ∧ c.toNat ≤ 126
theorem flushTo_printable (us : List Nat) : ∀ c ∈ flushTo [] us, printable c := by
  intro c hc
  unfold flushTo at hc
  split at hc
  · simp at hc
  · simp only [List.nil_append, List.mem_cons, List.mem_append, List.not_mem_nil, or_false] at hc
    rcases hc with rfl | hc | rfl
    · exact ⟨by decide, by decide⟩
    · obtain ⟨p, hp, rfl⟩ := mem_lettersOf hc
      have := letter_printable ⟨p, hp⟩
      exact ⟨by have := this.1; simp at this; omega, by have := this.2.1; simp at this; omega⟩
    · exact ⟨by decide, by decide⟩
theorem enc_printable : ∀ (rs : List Nat) (wait : List Nat), (∀ r ∈ rs, okRune r = true) → ∀ c ∈ encFrom [] wait rs, printable c
  | [], wait, _, c, hc => flushTo_printable wait c hc
  | r :: rs, wait, h, c, hc => by
    have h' : ∀ x ∈ rs, okRune x = true := fun x hx => h x (by simp [hx])
    rw [encFrom] at hc
    split at hc
    · exact enc_printable rs _ h' c hc
    · rename_i hr
      rw [encFrom_out] at hc
      have hok := h r (by simp)
      simp [okRune] at hok
      rcases List.mem_append.1 hc with hc | hc
      · rcases List.mem_append.1 hc with hc | hc
        · exact flushTo_printable wait c hc
        · unfold plainOf at hc
          split at hc
          · simp at hc
            rcases hc with rfl | rfl <;> exact ⟨by decide, by decide⟩
          · have : c = UInt8.ofNat r := by simpa using hc
            subst this
            unfold printable
            simp
            omega
      · exact enc_printable rs [] h' c hc
theorem name_printable (l : List UInt8) (h : rightB l = true) : ∀ c ∈ encName l, printable c := by
  simp [rightB] at h
  exact enc_printable (runes l) [] h.2

end Go.Proofs.Ut
