/-
  Which name letters are, read so that halves alone are refused: plain mathematics.
-/
import Derived.Test.YtiocmecalidlhaaDoorBack
namespace Go.Proofs.Ut

/-- Units as runes; none, where a half stands alone. -/
def strictOf : List Nat → Option (List Nat)
  | [] => some []
  | [u] => if 55296 ≤ u ∧ u ≤ 57343 then none else some [u]
  | u :: v :: r => if isUp u && isLow v then (strictOf r).map ((65536 + (u - 55296) * 1024 + (v - 56320)) :: ·) else if 55296 ≤ u ∧ u ≤ 57343 then none else (strictOf (v :: r)).map (u :: ·)
theorem strict_pair {u v : Nat} {r : List Nat} (h1 : isUp u = true) (h2 : isLow v = true) : strictOf (u :: v :: r) = (strictOf r).map ((65536 + (u - 55296) * 1024 + (v - 56320)) :: ·) := by
  rw [strictOf, h1, h2]; rfl
theorem strict_half {u : Nat} {r : List Nat} (hu : 55296 ≤ u ∧ u ≤ 57343) (h : isUp u = false ∨ r = [] ∨ ∃ v t, r = v :: t ∧ isLow v = false) : strictOf (u :: r) = none := by
  rcases r with _ | ⟨v, t⟩
  · rw [strictOf, if_pos hu]
  · rw [strictOf]
    rcases h with h | h | ⟨v', t', h, h'⟩
    · rw [h, Bool.false_and, if_neg (by simp), if_pos hu]
    · cases h
    · cases h; rw [h', Bool.and_false, if_neg (by simp), if_pos hu]
theorem strict_alone {u : Nat} {r : List Nat} (hu : ¬ (55296 ≤ u ∧ u ≤ 57343)) : strictOf (u :: r) = (strictOf r).map (u :: ·) := by
  rcases r with _ | ⟨v, t⟩
  · show strictOf [u] = _
    simp [strictOf, hu]
  · have h : isUp u = false := by simp [isUp]; omega
    rw [strictOf, h, Bool.false_and, if_neg (by simp), if_neg hu]
theorem strict_runes : ∀ (us rs : List Nat), strictOf us = some rs → runesOf us = rs
  | [], rs, h => by rw [strictOf] at h; cases h; rfl
  | [u], rs, h => by
    rw [strictOf] at h
    split at h
    · cases h
    · cases h; rfl
  | u :: v :: r, rs, h => by
    rw [strictOf] at h
    rw [runesOf]
    split at h
    · rename_i hc
      obtain ⟨x, hx, rfl⟩ := Option.map_eq_some_iff.1 h
      rw [if_pos hc, strict_runes r x hx]
    · rename_i hc
      split at h
      · cases h
      · obtain ⟨x, hx, rfl⟩ := Option.map_eq_some_iff.1 h
        rw [if_neg hc, strict_runes (v :: r) x hx]
theorem strict_units (ws : List Nat) (hs : ∀ r ∈ ws, Scalar r) : strictOf (ws.flatMap unitsOf) = some ws := by
  induction ws with
  | nil => rfl
  | cons r t ih =>
    have hr : Scalar r := hs r (by simp)
    have ih' := ih (fun x hx => hs x (by simp [hx]))
    rw [List.flatMap_cons]
    unfold Scalar at hr
    by_cases h : r ≤ 65535
    · rw [unitsOf, if_pos h, List.singleton_append, strict_alone (by omega), ih']
      rfl
    · rw [unitsOf, if_neg h]
      show strictOf (_ :: _ :: t.flatMap unitsOf) = _
      rw [strict_pair (by simp [isUp]; omega) (by simp [isLow]; omega), ih', show 65536 + (55296 + (r - 65536) / 1024 - 55296) * 1024 + (56320 + (r - 65536) % 1024 - 56320) = r by omega]
      rfl
/-- Letters as a piece of a name. -/
def pieceOf (t : List UInt8) : Option (List UInt8) := if goodLetters t = true then (strictOf (unitsIn t)).map (·.flatMap enc8) else none
def strictF : Nat → List UInt8 → Option (List UInt8)
  | 0, _ => some []
  | _ + 1, [] => some []
  | n + 1, c :: r =>
    if c ≠ 38 then (strictF n r).map (c :: ·)
    else if Lib.indexByte (c :: r) 45 < 0 then none
    else if Lib.indexByte (c :: r) 45 = 1 then (strictF n ((c :: r).drop 2)).map (38 :: ·)
    else (pieceOf (((c :: r).drop 1).take ((Lib.indexByte (c :: r) 45).toNat - 1))).bind fun x => (strictF n ((c :: r).drop ((Lib.indexByte (c :: r) 45).toNat + 1))).map (x ++ ·)
def strictN (l : List UInt8) : Option (List UInt8) := strictF l.length l
theorem strictF_fuel : ∀ (n m : Nat) (l : List UInt8), l.length ≤ n → l.length ≤ m → strictF n l = strictF m l
  | 0, m, l, hn, _ => by
    obtain rfl : l = [] := List.length_eq_zero_iff.1 (by omega)
    cases m <;> simp [strictF]
  | n + 1, 0, l, _, hm => by
    obtain rfl : l = [] := List.length_eq_zero_iff.1 (by omega)
    simp [strictF]
  | n + 1, m + 1, [], hn, hm => by simp [strictF]
  | n + 1, m + 1, c :: r, hn, hm => by
    simp only [List.length_cons] at hn hm
    rw [strictF, strictF, strictF_fuel n m r (by omega) (by omega), strictF_fuel n m ((c :: r).drop 2) (by simp; omega) (by simp; omega),
      strictF_fuel n m ((c :: r).drop ((Lib.indexByte (c :: r) 45).toNat + 1)) (by simp; omega) (by simp; omega)]
theorem strictN_nil : strictN [] = some [] := rfl
theorem strictN_cons (c : UInt8) (r : List UInt8) : strictN (c :: r) =
    if c ≠ 38 then (strictN r).map (c :: ·)
    else if Lib.indexByte (c :: r) 45 < 0 then none
    else if Lib.indexByte (c :: r) 45 = 1 then (strictN ((c :: r).drop 2)).map (38 :: ·)
    else (pieceOf (((c :: r).drop 1).take ((Lib.indexByte (c :: r) 45).toNat - 1))).bind fun x => (strictN ((c :: r).drop ((Lib.indexByte (c :: r) 45).toNat + 1))).map (x ++ ·) := by
  rw [strictN, List.length_cons, strictF, strictN, strictN, strictN, strictF_fuel r.length ((c :: r).drop 2).length _ (by simp) (Nat.le_refl _),
    strictF_fuel r.length ((c :: r).drop ((Lib.indexByte (c :: r) 45).toNat + 1)).length _ (by simp) (Nat.le_refl _)]
/-- What is read strictly is read so loosely. -/
theorem strict_loose : ∀ (n : Nat) (l name : List UInt8), strictF n l = some name → readF n l = some name
  | 0, l, name, h => by simpa [strictF, readF] using h
  | n + 1, [], name, h => by simpa [strictF, readF] using h
  | n + 1, c :: r, name, h => by
    rw [strictF] at h
    rw [readF]
    split at h
    · rename_i hc
      rw [if_pos hc]
      obtain ⟨x, hx, rfl⟩ := Option.map_eq_some_iff.1 h
      rw [strict_loose n r x hx]
      rfl
    · rename_i hc
      rw [if_neg hc]
      split at h
      · cases h
      · rename_i h0
        rw [if_neg h0]
        split at h
        · rename_i h1
          rw [if_pos h1]
          obtain ⟨x, hx, rfl⟩ := Option.map_eq_some_iff.1 h
          rw [strict_loose n _ x hx]
          rfl
        · rename_i h1
          rw [if_neg h1]
          obtain ⟨y, hy, h⟩ := Option.bind_eq_some_iff.1 h
          obtain ⟨x, hx, rfl⟩ := Option.map_eq_some_iff.1 h
          unfold pieceOf at hy
          split at hy
          · rename_i hg
            obtain ⟨rs, hrs, rfl⟩ := Option.map_eq_some_iff.1 hy
            rw [if_pos hg, strict_loose n _ x hx, bytesOf, strict_runes _ _ hrs]
            rfl
          · cases hy
theorem strict_flush (ws : List Nat) (hs : ∀ r ∈ ws, Scalar r) (tail : List UInt8) : strictN (flushTo [] (ws.flatMap unitsOf) ++ tail) = (strictN tail).map (ws.flatMap enc8 ++ ·) := by
  have hlt : ∀ u ∈ ws.flatMap unitsOf, u < 65536 := by
    intro u hu
    obtain ⟨r, hr, hu⟩ := List.mem_flatMap.1 hu
    have := hs r hr
    unfold Scalar at this
    exact unitsOf_lt r (by omega) u hu
  by_cases h0 : ws.flatMap unitsOf = []
  · have hw : ws = [] := by
      rcases ws with _ | ⟨r, t⟩
      · rfl
      · exfalso
        have := congrArg List.length h0
        rw [List.flatMap_cons, List.length_append, List.length_nil] at this
        have h1 : 0 < (unitsOf r).length := by unfold unitsOf; split <;> simp
        omega
    subst hw
    simp [flushTo]
  · have hun := unitsIn_letters _ hlt
    have hru := strict_units ws hs
    have hlp := lettersOf_ne _ h0
    have hgl := good_letters (bits16 (ws.flatMap unitsOf))
    have hno : ∀ x ∈ lettersOf (bits16 (ws.flatMap unitsOf)), x ≠ 45 := by
      intro x hx
      obtain ⟨p, hp, rfl⟩ := mem_lettersOf hx
      exact (letter_printable ⟨p, hp⟩).2.2
    rw [flushTo, if_neg h0]
    generalize lettersOf (bits16 (ws.flatMap unitsOf)) = L at hun hlp hgl hno
    have hE : Lib.indexByte (38 :: (L ++ 45 :: tail)) 45 = ((L.length + 1 : Nat) : Int) := by
      have := indexByte_at (38 :: L) tail 45 (fun x hx => (List.mem_cons.1 hx).elim (fun h => by subst h; decide) (hno x))
      simpa using this
    have hlist : [] ++ 38 :: (L ++ [45]) ++ tail = 38 :: (L ++ 45 :: tail) := by simp
    have e1 : ((38 : UInt8) :: (L ++ 45 :: tail)).drop 1 = L ++ 45 :: tail := rfl
    have e2 : ((38 : UInt8) :: (L ++ 45 :: tail)).drop (L.length + 1 + 1) = tail := by
      rw [List.drop_succ_cons, List.drop_append, List.drop_of_length_le (by omega), show L.length + 1 - L.length = 1 by omega]; rfl
    rw [hlist, strictN_cons, if_neg (by simp), hE, if_neg (by omega), if_neg (by omega), Int.toNat_natCast, e1, e2, show L.length + 1 - 1 = L.length by omega, List.take_left, pieceOf, if_pos hgl, hun, hru]
    rfl
theorem strict_plain (r : Nat) (h : r ≤ 126) (tail : List UInt8) : strictN (plainOf r ++ tail) = (strictN tail).map (enc8 r ++ ·) := by
  rw [enc8_low r h]
  by_cases h38 : r = 38
  · subst h38
    have hE : Lib.indexByte (38 :: 45 :: tail) 45 = ((1 : Nat) : Int) := indexByte_at [38] tail 45 (by decide)
    show strictN (38 :: 45 :: tail) = _
    rw [strictN_cons, if_neg (by simp), hE, if_neg (by decide), if_pos (by decide)]
    rfl
  · rw [plainOf, if_neg h38]
    show strictN (UInt8.ofNat r :: tail) = _
    have hne : UInt8.ofNat r ≠ 38 := by
      intro e
      have := congrArg UInt8.toNat e
      simp at this
      omega
    rw [strictN_cons, if_pos hne]
    rfl
theorem strict_enc : ∀ (rs ws : List Nat), (∀ r ∈ rs, Scalar r) → (∀ r ∈ ws, Scalar r) → strictN (encFrom [] (ws.flatMap unitsOf) rs) = some (ws.flatMap enc8 ++ rs.flatMap enc8)
  | [], ws, _, hw => by
    have := strict_flush ws hw []
    rw [List.append_nil, strictN_nil] at this
    rw [encFrom, this]
    rfl
  | r :: rs, ws, hr, hw => by
    rw [encFrom]
    have hr' : ∀ x ∈ rs, Scalar x := fun x hx => hr x (by simp [hx])
    split
    · have := strict_enc rs (ws ++ [r]) hr' (by
        intro x hx
        rcases List.mem_append.1 hx with hx | hx
        · exact hw x hx
        · exact hr x (by simp at hx; simp [hx]))
      rw [List.flatMap_append, List.flatMap_cons, List.flatMap_nil, List.append_nil] at this
      rw [this]
      simp
    · rename_i h
      have := strict_enc rs [] hr' (by simp)
      rw [List.flatMap_nil, List.flatMap_nil, List.nil_append] at this
      rw [encFrom_out, List.append_assoc, strict_flush ws hw, strict_plain r (by omega), this]
      simp
theorem strict_name (l : List UInt8) (hv : Lib.validD l = true) : strictN (encName l) = some l := by
  have := strict_enc (runes l) [] (runes_scalar l) (by simp)
  rw [List.flatMap_nil, List.flatMap_nil, List.nil_append, runes_back l hv] at this
  exact this
def decOf (rd : List UInt8 → Option (List UInt8)) (l : List UInt8) : Option (List UInt8) := (rd l).bind fun name => if rightB name = true ∧ encName name = l then some name else none
/-- Strictly or loosely read: the same names. -/
theorem dec_same (l : List UInt8) : decOf strictN l = decOf readN l := by
  unfold decOf
  rcases hs : strictN l with _ | name
  · rcases hr : readN l with _ | n2
    · rfl
    · show none = if rightB n2 = true ∧ encName n2 = l then some n2 else none
      split
      · rename_i h
        have hv : Lib.validD n2 = true := by have := h.1; simp [rightB] at this; exact this.1.2
        have := strict_name n2 hv
        rw [h.2, hs] at this
        cases this
      · rfl
  · have : readN l = some name := strict_loose _ _ _ hs
    rw [this]

end Go.Proofs.Ut
