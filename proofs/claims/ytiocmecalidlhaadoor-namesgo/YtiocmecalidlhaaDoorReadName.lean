/-
  Which name letters are, loosely read: plain mathematics.
-/
import Derived.Test.YtiocmecalidlhaaDoorReadSpec
import Derived.Lib.IndexLaws
namespace Go.Proofs.Ut

def readF : Nat → List UInt8 → Option (List UInt8)
  | 0, _ => some []
  | _ + 1, [] => some []
  | n + 1, c :: r =>
    if c ≠ 38 then (readF n r).map (c :: ·)
    else if Lib.indexByte (c :: r) 45 < 0 then none
    else if Lib.indexByte (c :: r) 45 = 1 then (readF n ((c :: r).drop 2)).map (38 :: ·)
    else if goodLetters (((c :: r).drop 1).take ((Lib.indexByte (c :: r) 45).toNat - 1)) = true then
      (readF n ((c :: r).drop ((Lib.indexByte (c :: r) 45).toNat + 1))).map (bytesOf (unitsIn (((c :: r).drop 1).take ((Lib.indexByte (c :: r) 45).toNat - 1))) ++ ·)
    else none
def readN (l : List UInt8) : Option (List UInt8) := readF l.length l
theorem readF_fuel : ∀ (n m : Nat) (l : List UInt8), l.length ≤ n → l.length ≤ m → readF n l = readF m l
  | 0, m, l, hn, _ => by
    obtain rfl : l = [] := List.length_eq_zero_iff.1 (by omega)
    cases m <;> simp [readF]
  | n + 1, 0, l, _, hm => by
    obtain rfl : l = [] := List.length_eq_zero_iff.1 (by omega)
    simp [readF]
  | n + 1, m + 1, [], hn, hm => by simp [readF]
  | n + 1, m + 1, c :: r, hn, hm => by
    simp only [List.length_cons] at hn hm
    rw [readF, readF, readF_fuel n m r (by omega) (by omega), readF_fuel n m ((c :: r).drop 2) (by simp; omega) (by simp; omega),
      readF_fuel n m ((c :: r).drop ((Lib.indexByte (c :: r) 45).toNat + 1)) (by simp; omega) (by simp; omega)]
theorem readN_nil : readN [] = some [] := rfl
theorem readN_cons (c : UInt8) (r : List UInt8) : readN (c :: r) =
    if c ≠ 38 then (readN r).map (c :: ·)
    else if Lib.indexByte (c :: r) 45 < 0 then none
    else if Lib.indexByte (c :: r) 45 = 1 then (readN ((c :: r).drop 2)).map (38 :: ·)
    else if goodLetters (((c :: r).drop 1).take ((Lib.indexByte (c :: r) 45).toNat - 1)) = true then
      (readN ((c :: r).drop ((Lib.indexByte (c :: r) 45).toNat + 1))).map (bytesOf (unitsIn (((c :: r).drop 1).take ((Lib.indexByte (c :: r) 45).toNat - 1))) ++ ·)
    else none := by
  rw [readN, List.length_cons, readF, readN, readN, readN, readF_fuel r.length ((c :: r).drop 2).length _ (by simp) (Nat.le_refl _),
    readF_fuel r.length ((c :: r).drop ((Lib.indexByte (c :: r) 45).toNat + 1)).length _ (by simp) (Nat.le_refl _)]
theorem runesOf_length : ∀ us : List Nat, (runesOf us).length ≤ us.length
  | [] => by simp [runesOf]
  | [u] => by simp [runesOf]
  | u :: v :: r => by
    rw [runesOf]
    split
    · have := runesOf_length r
      simp; omega
    · have := runesOf_length (v :: r)
      simp at this ⊢; omega
theorem bytesOf_length (us : List Nat) : (bytesOf us).length ≤ 4 * us.length := by
  have h : ∀ rs : List Nat, (rs.flatMap enc8).length ≤ 4 * rs.length := by
    intro rs
    induction rs with
    | nil => simp
    | cons r t ih =>
      have := Lib.encodeRuneZ_length (r : Int)
      simp only [List.flatMap_cons, List.length_append, List.length_cons, enc8, Lib.encodeRune, List.length_map] at ih ⊢
      omega
  have h1 := h (runesOf us)
  have h2 := runesOf_length us
  unfold bytesOf
  omega
theorem unitsIn_length (t : List UInt8) : (unitsIn t).length ≤ t.length := by
  rw [unitsIn, pieces_length, bits6_length]
  omega
theorem unitsIn_lt (t : List UInt8) : ∀ u ∈ unitsIn t, u < 65536 := by
  intro u hu
  unfold unitsIn pieces at hu
  simp only [List.mem_map] at hu
  obtain ⟨i, _, rfl⟩ := hu
  exact piece_lt 16 _ i

theorem readF_length : ∀ (n : Nat) (l name : List UInt8), readF n l = some name → name.length ≤ 4 * l.length
  | 0, l, name, h => by simp [readF] at h; subst h; simp
  | n + 1, [], name, h => by simp [readF] at h; subst h; simp
  | n + 1, c :: r, name, h => by
    rw [readF] at h
    split at h
    · obtain ⟨x, hx, rfl⟩ := Option.map_eq_some_iff.1 h
      have := readF_length n r x hx
      simp; omega
    · split at h
      · cases h
      · split at h
        · obtain ⟨x, hx, rfl⟩ := Option.map_eq_some_iff.1 h
          have := readF_length n _ x hx
          simp at this ⊢; omega
        · split at h
          · rename_i h1 h2 h3 h4
            obtain ⟨x, hx, rfl⟩ := Option.map_eq_some_iff.1 h
            have := readF_length n _ x hx
            obtain ⟨m, hm⟩ : ∃ m : Nat, Lib.indexByte (c :: r) 45 = m := ⟨(Lib.indexByte (c :: r) 45).toNat, by omega⟩
            have hs := (List.getElem?_eq_some_iff.1 (Lib.indexByte_some hm).1).1
            rw [hm, Int.toNat_natCast] at this ⊢
            have hb := bytesOf_length (unitsIn (((c :: r).drop 1).take (m - 1)))
            have hu := unitsIn_length (((c :: r).drop 1).take (m - 1))
            rw [List.length_take] at hu
            rw [List.length_append]
            rw [List.length_drop] at this
            omega
          · cases h
theorem readN_length (l name : List UInt8) (h : readN l = some name) : name.length ≤ 4 * l.length := readF_length _ _ _ h

end Go.Proofs.Ut
