/-
  A number between < and >, with the star for 0. Of no program.
-/
import Derived.Test.YtefgpafoajoofaaGreatDoorSeqSpec
import Derived.Lib.Replace
namespace Go.Proofs.Sq

theorem index_out (c : UInt8) (r : List UInt8) : ∀ l : List UInt8, c ∉ l → Lib.index l (c :: r) = -1
  | [], _ => by simp [Lib.index]
  | b :: l, h => by
    have hb : b ≠ c := fun e => h (by rw [e]; exact List.mem_cons_self)
    have ih := index_out c r l (fun hm => h (List.mem_cons_of_mem _ hm))
    have hp : (c :: r).isPrefixOf (b :: l) = false := by simp [List.isPrefixOf, Ne.symm hb]
    rw [Lib.index, hp]
    simp [ih]
theorem star_shut {n : Int} (h0 : 0 ≤ n) : Lib.replaceAll (60 :: (Lib.itoa n ++ [62])) [60, 48, 62] [60, 42, 62] = 60 :: (star n ++ [62]) := by
  by_cases h : n = 0
  · subst h
    have e : Lib.itoa 0 = [48] := by rw [Lib.itoa, if_neg (by omega)]; rw [Lib.decDigits]; rfl
    rw [e, star, if_pos rfl]
    decide
  · have e : Lib.itoa n = Lib.decDigits n.toNat := by rw [Lib.itoa, if_neg (by omega)]
    have hne := decDigits_ne n.toNat
    have hhd := decDigits_head n.toNat (by omega)
    have hmem := decDigits_mem n.toNat
    rw [star, if_neg h, e]
    cases hd : Lib.decDigits n.toNat with
    | nil => exact absurd hd hne
    | cons a r =>
      rw [hd] at hhd hmem
      have ha : a ≠ 48 := fun e => hhd (by rw [e]; rfl)
      have hout : (60 : UInt8) ∉ (a :: r) ++ [62] := fun hm => by
        rcases List.mem_append.1 hm with hm | hm
        · have := hmem 60 hm
          have e : (60 : UInt8).toNat = 60 := rfl
          omega
        · simp at hm
      have hix : Lib.index (60 :: ((a :: r) ++ [62])) [60, 48, 62] = -1 := by
        have hp : ([60, 48, 62] : List UInt8).isPrefixOf (60 :: ((a :: r) ++ [62])) = false := by simp [List.isPrefixOf, Ne.symm ha]
        rw [Lib.index, hp]
        have := index_out 60 [48, 62] _ hout
        simp only [List.cons_append] at this ⊢
        simp [this]
      have hc : Lib.count (60 :: ((a :: r) ++ [62])) [60, 48, 62] = 0 := Lib.count_miss hix
      have hr : Lib.replaceNum (60 :: ((a :: r) ++ [62])) [60, 48, 62] (-1) = 0 := by unfold Lib.replaceNum; rw [if_pos (Or.inl (by decide)), hc]
      rw [Lib.replaceAll, Lib.replace, if_neg (by decide), hr]
      rfl
end Go.Proofs.Sq
