/-
  What flags.Name does.
-/
import Derived.Test.YtkneeoaeoiaefaaDoorFlagsLetters
namespace Go.Proofs.YtkneeoaeoiaefaaDoor
open Go.RowKit Go.Proofs.Aid Go.Proofs.Fl

/-- What Name tells of an error. -/
theorem name_any (s : ByteArray) (w : World) (hs : s.size ≤ 2000000) (hg : SysAt w)
    (cH : ∀ W, Calls Tryd.prog 49 #[.string s, .string ⟨#[92]⟩] W fun e w' => e = .returned (.bool (Lib.hasPrefix s.data.toList [92])) ∧ w' = W) :
    Calls Tryd.prog 41 #[.string s] w fun e w' =>
      (((fname s.data.toList).2 = 0 ∧ ∃ n : ByteArray, n.data.toList = (fname s.data.toList).1 ∧ e = .returned (.tuple #[.string n, .nilIface])) ∨ ((fname s.data.toList).2 ≠ 0 ∧ e = .returned (.tuple #[.string ⟨#[]⟩, .iface 73 (.int .i64 (fname s.data.toList).2)]))) ∧ ∃ n, w' = w.drewN n := by
  have hpre : Lib.hasPrefix s.data.toList [92] = decide (s.data.toList.head? = some 92) := by
    cases s.data.toList with
    | nil => rfl
    | cons c l =>
      show (List.isPrefixOf [92] (c :: l)) = _
      by_cases h : c = 92
      · subst h; simp [List.isPrefixOf]
      · have : ¬ (92 : UInt8) = c := fun e => h e.symm
        simp [List.isPrefixOf, h, this]
  have hla : s.data.toList.length = s.size := by show s.data.toList.length = s.data.size; simp
  rw [hpre] at cH
  by_cases h1 : s.data.toList.head? = some 92
  · have cS := fun W hW => system_any s W hs hW
    rw [decide_eq_true h1] at cH
    clear hpre
    go_enter Tryd.func41, Tryd.ntmps41
    go_wp2_with (first | (go_at_call 49; refine (cH _).mono ?_; rintro e w1 ⟨rfl, rfl⟩) | fail)
    refine (cS _ hg).mono ?_
    rintro e w2 ⟨⟨j, hj, hf, rfl⟩ | ⟨hf, rfl⟩, m, rfl⟩
    · have HF : Hid (five.find? (sameL s.data.toList) = some (five.getD j [])) := hf
      clear hf
      go_wp2
      go_ret2
      refine ⟨Or.inl ?_, m, rfl⟩
      have : fname s.data.toList = (five.getD j [], 0) := by unfold fname; rw [if_pos h1, HF.out]
      rw [this]
      exact ⟨rfl, sysB j, sysB_data j, rfl⟩
    · have HF : Hid (five.find? (sameL s.data.toList) = none) := hf
      clear hf
      go_wp2
      go_ret2
      refine ⟨Or.inr ?_, m, rfl⟩
      have : fname s.data.toList = ([], 3) := by unfold fname; rw [if_pos h1, HF.out]
      rw [this]
      exact ⟨by decide, rfl⟩
  · rw [decide_eq_false h1] at cH
    have cK := fun W => keyword_any s W hs
    obtain ⟨K, hK⟩ : ∃ K, (s.data.toList.all kw && !s.data.toList.isEmpty) = K := ⟨_, rfl⟩
    rw [hK] at cK
    clear hpre hg
    cases K
    · have HF : Hid (fname s.data.toList = ([], 3)) := by
        show fname s.data.toList = ([], 3)
        unfold fname
        rw [if_neg h1, if_pos]
        rw [Bool.and_eq_false_iff] at hK
        rcases hK with h | h
        · exact Or.inr h
        · exact Or.inl (by simpa using h)
      rw [HF.out]
      clear hK
      go_enter Tryd.func41, Tryd.ntmps41
      go_wp2_with (first | (go_at_call 49; refine (cH _).mono ?_; rintro e w1 ⟨rfl, rfl⟩) | (go_at_call 51; refine (cK _).mono ?_; rintro e w1 ⟨rfl, rfl⟩))
      go_ret2
      exact ⟨Or.inr ⟨by decide, rfl⟩, 0, rfl⟩
    · have hk2 : ¬ (s.data.toList = [] ∨ s.data.toList.all kw = false) := by
        rw [Bool.and_eq_true] at hK
        rintro (h | h)
        · rw [h] at hK; simp at hK
        · rw [h] at hK; simp at hK
      clear hK
      by_cases h20 : 20 < s.size
      · have HF : Hid (fname s.data.toList = ([], 4)) := by
          show fname s.data.toList = ([], 4)
          unfold fname
          rw [if_neg h1, if_neg hk2, if_pos (by omega)]
        rw [HF.out]
        have g : (20 : Int) < (s.size : Int) := by omega
        clear hk2
        go_enter Tryd.func41, Tryd.ntmps41
        go_wp2_with (first | (go_at_call 49; refine (cH _).mono ?_; rintro e w1 ⟨rfl, rfl⟩) | (go_at_call 51; refine (cK _).mono ?_; rintro e w1 ⟨rfl, rfl⟩))
        go_ret2
        exact ⟨Or.inr ⟨by decide, rfl⟩, 0, rfl⟩
      · have HF : Hid (fname s.data.toList = (s.data.toList, 0)) := by
          show fname s.data.toList = (s.data.toList, 0)
          unfold fname
          rw [if_neg h1, if_neg hk2, if_neg (by omega)]
        rw [HF.out]
        have g : ¬ (20 : Int) < (s.size : Int) := by omega
        clear hk2
        go_enter Tryd.func41, Tryd.ntmps41
        go_wp2_with (first | (go_at_call 49; refine (cH _).mono ?_; rintro e w1 ⟨rfl, rfl⟩) | (go_at_call 51; refine (cK _).mono ?_; rintro e w1 ⟨rfl, rfl⟩))
        go_ret2
        exact ⟨Or.inl ⟨trivial, s, rfl, rfl⟩, 0, rfl⟩
end Go.Proofs.YtkneeoaeoiaefaaDoor
