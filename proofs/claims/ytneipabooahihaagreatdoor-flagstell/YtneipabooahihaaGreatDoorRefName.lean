/-
  The document's answer on flags: what a flag is called.
-/
import Derived.Test.YtneipabooahihaaGreatDoorRefFlag
namespace Go.Proofs.YtneipabooahihaaGreatDoor
open Go.RowKit Go.Proofs.Aid Go.Proofs.Fl

theorem kw_ref (c : UInt8) : kw c = true ↔ (97 ≤ c.toNat ∧ c.toNat ≤ 122) ∨ (65 ≤ c.toNat ∧ c.toNat ≤ 90) ∨ (48 ≤ c.toNat ∧ c.toNat ≤ 57) ∨ c.toNat = 95 ∨ c.toNat = 36 := by
  rw [kw_of]
  have hc := c.toNat_lt
  by_cases h : 65 ≤ c.toNat ∧ c.toNat ≤ 90
  · have : (sm c).toNat = c.toNat + 32 := by
      unfold sm; rw [if_pos h, UInt8.toNat_add]
      show (c.toNat + 32) % 256 = _
      omega
    rw [this]; omega
  · rw [sm_small c (by omega)]; omega
theorem sysB_size (k : Nat) (h : k < 5) : (sysB k).size ≤ 20 := by
  have : k = 0 ∨ k = 1 ∨ k = 2 ∨ k = 3 ∨ k = 4 := by omega
  rcases this with rfl | rfl | rfl | rfl | rfl <;> decide
set_option maxHeartbeats 2000000 in
set_option maxRecDepth 100000 in
theorem ref_name (s : ByteArray) (w : World) (hs : s.size ≤ 1000000) : Calls Tryz.prog 18 #[.string s] w fun e w' => (∃ n : ByteArray, e = .returned (.tuple #[.string n, .int .i64 (fname s.data.toList).2]) ∧ n.data.toList = (fname s.data.toList).1) ∧ Below w.heap.size w w' := by
  have hla : s.data.toList.length = s.size := by show s.data.toList.length = s.data.size; simp
  have cF := ref_five
  obtain ⟨R, hR⟩ : ∃ R, fname s.data.toList = R := ⟨_, rfl⟩
  rw [hR]
  have HR : Hid (fname s.data.toList = R) := hR
  clear hR
  by_cases h92 : s.data.toList.head? = some 92
  · have h0 : 0 < s.size := by
      rw [← hla]
      cases hl : s.data.toList with
      | nil => rw [hl] at h92; simp at h92
      | cons => simp
    have hb0 : s[0] = 92 := by
      have h1 : s.data.toList[0]'(by omega) = 92 := by
        rw [List.head?_eq_getElem?, List.getElem?_eq_getElem (by omega)] at h92
        exact Option.some.inj h92
      exact h1
    have hi0 : (s[0].toNat : Int) = 92 := by rw [hb0]; rfl
    have h0' : decide ((0 : Int) < (s.size : Int)) = true := by simp; omega
    have hbe : ((s[0].toNat : Int) == 92) = true := by rw [hi0]; rfl
    have H92 : Hid (s.data.toList.head? = some 92) := h92
    clear h92 hb0 hi0
    go_enter Tryz.func18, Tryz.ntmps18
    go_wp2
    go_loopw [15] (fun i wr => ∃ k : Nat, i = .int .i64 (k : Int) ∧ k ≤ 5 ∧ Hid (none_of s.data.toList k) ∧ Below w.heap.size w wr) (fun i _ => 5 - (intOf i).toNat)
    case atStart => exact ⟨0, rfl, by omega, fun j hj => absurd hj (by omega), Below.refl _ _⟩
    case round =>
      obtain ⟨k, rfl, hk, HN, hbW⟩ := hrel
      by_cases hlt : k < 5
      · have hlt' : (k : Int) < 5 := by omega
        have cA := cF k hlt wr
        have cB := ref_small (sysB k) wr (by have := sysB_size k hlt; omega)
        rw [sysB_data] at cB
        clear cF
        go_wp2_with fail
        refine cA.mono ?_
        rintro e w1 ⟨rfl, hw⟩
        obtain rfl : wr = w1 := hw.symm
        go_wp2_with fail
        refine cB.mono ?_
        rintro e w2 ⟨⟨t, rfl, ht⟩, hb2⟩
        have hbW2 : Below w.heap.size w w2 := hbW.trans (hb2.mono hbW.size)
        have cC := ref_small s w2 hs
        go_wp2_with fail
        refine cC.mono ?_
        rintro e w3 ⟨⟨u, rfl, hu⟩, hb3⟩
        have hbW3 : Below w.heap.size w w3 := hbW2.trans (hb3.mono hbW2.size)
        obtain ⟨B, hB⟩ : ∃ B, (t.toList == u.toList) = B := ⟨_, rfl⟩
        have HB : Hid (sameL s.data.toList (five.getD k []) = B) := by
          show _ = B
          rw [← hB, Lib.toList_data, Lib.toList_data, ht, hu]
          unfold sameL
          rw [Bool.eq_iff_iff, decide_eq_true_eq, beq_iff_eq]
          exact eq_comm
        have cD := ref_five k hlt w3
        clear ht hu cA cB cC
        cases B
        · go_wp2_with fail
          go_roundw
          case rel => exact ⟨k + 1, by go_num, by omega, none_succ HN.out HB.out, hbW3⟩
          case measure => simp [intOf]; omega
        · obtain rfl : t = u := by
            rw [Lib.toList_data, Lib.toList_data] at hB
            have h1 : t.data.toList = u.data.toList := by simpa using hB
            obtain ⟨⟨tl⟩⟩ := t
            obtain ⟨⟨ul⟩⟩ := u
            have : tl = ul := h1
            rw [this]
          clear hB
          go_wp2_with fail
          refine cD.mono ?_
          rintro e w4 ⟨rfl, hw⟩
          obtain rfl : w3 = w4 := hw.symm
          go_wp2_with fail
          go_ret2
          have hf : R = (five.getD k [], 0) := by
            rw [← HR.out]
            unfold fname
            rw [if_pos H92.out, find_hit hlt HN.out HB.out]
          rw [hf]
          exact ⟨⟨sysB k, rfl, sysB_data k⟩, hbW3⟩
      · obtain rfl : k = 5 := by omega
        clear cF
        go_wp2
        go_ret2
        have hf : R = ([], 3) := by
          rw [← HR.out]
          unfold fname
          rw [if_pos H92.out, find_miss HN.out]
        rw [hf]
        exact ⟨⟨⟨#[]⟩, rfl, rfl⟩, hbW⟩
  · -- the second loop, from whichever way it is come to
    have hfn : R = if s.data.toList = [] ∨ s.data.toList.all kw = false then ([], 3) else if 20 < s.data.toList.length then ([], 4) else (s.data.toList, 0) := by
      rw [← HR.out]; unfold fname; rw [if_neg h92]
    have HF : Hid (R = if s.data.toList = [] ∨ s.data.toList.all kw = false then ([], 3) else if 20 < s.data.toList.length then ([], 4) else (s.data.toList, 0)) := hfn
    have hfirst : (s.size = 0) ∨ (0 < s.size ∧ ∃ h : 0 < s.size, ((s[0].toNat : Int) == 92) = false) := by
      rcases Nat.eq_zero_or_pos s.size with h | h
      · exact Or.inl h
      · refine Or.inr ⟨h, h, ?_⟩
        rw [beq_eq_false_iff_ne]
        intro h1
        apply h92
        rw [List.head?_eq_getElem?, List.getElem?_eq_getElem (by omega)]
        have h2 : s[0].toNat = 92 := by omega
        have : s[0] = 92 := UInt8.toNat_inj.1 h2
        exact congrArg some this
    clear hfn h92 cF HR
    rcases hfirst with hz | ⟨hz, hz2, hz3⟩
    · have h0' : decide ((0 : Int) < (s.size : Int)) = false := decide_eq_false (by omega)
      have hE : s.toList.isEmpty = true := by
        rw [Lib.toList_data, List.isEmpty_iff]; exact List.eq_nil_of_length_eq_zero (by omega)
      have hR3 : R = ([], 3) := by
        rw [HF.out, if_pos (Or.inl (List.eq_nil_of_length_eq_zero (by omega)))]
      rw [hR3]
      have hz' : (s.size : Int) = 0 := by omega
      clear hz HF hR3
      go_enter Tryz.func18, Tryz.ntmps18
      go_wp2
      go_loop [29] (fun i => i = .int .i64 0) (fun _ => 0)
      case atStart => rfl
      case round =>
        subst hrel
        go_wp2
        go_ret2
        exact ⟨⟨⟨#[]⟩, rfl, rfl⟩, Below.refl _ _⟩
    · have h0' : decide ((0 : Int) < (s.size : Int)) = true := decide_eq_true (by omega)
      have hE : s.toList.isEmpty = false := by
        rw [Lib.toList_data]
        cases hl : s.data.toList with
        | nil =>
          have h1 : s.data.toList.length = 0 := by rw [hl]; rfl
          omega
        | cons => rfl
      have hne : s.data.toList ≠ [] := fun h => by
        have h1 : s.data.toList.length = 0 := by rw [h]; rfl
        omega
      have HNE : Hid (s.data.toList ≠ []) := hne
      clear hne
      go_enter Tryz.func18, Tryz.ntmps18
      go_wp2
      go_loop [29] (fun i => ∃ k : Nat, i = .int .i64 (k : Int) ∧ k ≤ s.size ∧ Hid ((s.data.toList.take k).all kw = true)) (fun i => s.size - (intOf i).toNat)
      case atStart => exact ⟨0, rfl, Nat.zero_le _, rfl⟩
      case round =>
        obtain ⟨k, rfl, hk, HL⟩ := hrel
        by_cases hlt : k < s.size
        · have hkl : k < s.data.toList.length := by omega
          have hkw := kw_ref s[k]
          have h256 : s[k].toNat < 256 := s[k].toNat_lt
          obtain ⟨c, hc⟩ : ∃ c, s[k].toNat = c := ⟨_, rfl⟩
          rw [hc] at hkw h256
          by_cases hq : kw s[k] = true
          · have HN : Hid ((s.data.toList.take (k + 1)).all kw = true) := all_snoc hkl HL.out hq
            have hways := hkw.1 hq
            clear hkw hq
            have fin : True := trivial
            rcases hways with ⟨h1, h2⟩ | ⟨h1, h2⟩ | ⟨h1, h2⟩ | h1 | h1
            · have g1 : decide ((97 : Int) ≤ (c : Int)) = true := by simp; omega
              have g2 : decide ((c : Int) ≤ 122) = true := by simp; omega
              go_wp2
              go_round
              case rel => exact ⟨k + 1, by go_num, by omega, HN.out⟩
              case measure => simp [intOf]; omega
            · have g1 : decide ((97 : Int) ≤ (c : Int)) = false := by simp; omega
              have g3 : decide ((65 : Int) ≤ (c : Int)) = true := by simp; omega
              have g4 : decide ((c : Int) ≤ 90) = true := by simp; omega
              go_wp2
              go_round
              case rel => exact ⟨k + 1, by go_num, by omega, HN.out⟩
              case measure => simp [intOf]; omega
            · have g1 : decide ((97 : Int) ≤ (c : Int)) = false := by simp; omega
              have g3 : decide ((65 : Int) ≤ (c : Int)) = false := by simp; omega
              have g5 : decide ((48 : Int) ≤ (c : Int)) = true := by simp; omega
              have g6 : decide ((c : Int) ≤ 57) = true := by simp; omega
              go_wp2
              go_round
              case rel => exact ⟨k + 1, by go_num, by omega, HN.out⟩
              case measure => simp [intOf]; omega
            · have g1 : decide ((97 : Int) ≤ (c : Int)) = false := by simp; omega
              have g3 : decide ((65 : Int) ≤ (c : Int)) = true := by simp; omega
              have g4 : decide ((c : Int) ≤ 90) = false := by simp; omega
              have g5 : decide ((48 : Int) ≤ (c : Int)) = true := by simp; omega
              have g6 : decide ((c : Int) ≤ 57) = false := by simp; omega
              have g7 : ((c : Int) == 95) = true := by simp; omega
              clear h1
              go_wp2
              go_round
              case rel => exact ⟨k + 1, by go_num, by omega, HN.out⟩
              case measure => simp [intOf]; omega
            · have g1 : decide ((97 : Int) ≤ (c : Int)) = false := by simp; omega
              have g3 : decide ((65 : Int) ≤ (c : Int)) = false := by simp; omega
              have g5 : decide ((48 : Int) ≤ (c : Int)) = false := by simp; omega
              have g7 : ((c : Int) == 95) = false := by simp; omega
              have g8 : ((c : Int) == 36) = true := by simp; omega
              clear h1
              go_wp2
              go_round
              case rel => exact ⟨k + 1, by go_num, by omega, HN.out⟩
              case measure => simp [intOf]; omega
          · have hn : ¬ ((97 ≤ c ∧ c ≤ 122) ∨ (65 ≤ c ∧ c ≤ 90) ∨ (48 ≤ c ∧ c ≤ 57) ∨ c = 95 ∨ c = 36) := fun h => hq (hkw.2 h)
            have hR3 : R = ([], 3) := by rw [HF.out, if_pos (Or.inr (all_miss hkl hq))]
            have HR3 : Hid (R = ([], 3)) := hR3
            have g7 : ((c : Int) == 95) = false := by simp; omega
            have g8 : ((c : Int) == 36) = false := by simp; omega
            clear hkw hq hR3
            have hways : 122 < c ∨ (90 < c ∧ c < 97) ∨ (57 < c ∧ c < 65) ∨ c < 48 := by omega
            clear hn
            rcases hways with h1 | ⟨h1, h2⟩ | ⟨h1, h2⟩ | h1
            · have g1 : decide ((97 : Int) ≤ (c : Int)) = true := by simp; omega
              have g2 : decide ((c : Int) ≤ 122) = false := by simp; omega
              have g3 : decide ((65 : Int) ≤ (c : Int)) = true := by simp; omega
              have g4 : decide ((c : Int) ≤ 90) = false := by simp; omega
              have g5 : decide ((48 : Int) ≤ (c : Int)) = true := by simp; omega
              have g6 : decide ((c : Int) ≤ 57) = false := by simp; omega
              go_wp2
              go_ret2
              exact ⟨⟨⟨#[]⟩, by rw [HR3.out]; rfl, by rw [HR3.out]⟩, Below.refl _ _⟩
            · have g1 : decide ((97 : Int) ≤ (c : Int)) = false := by simp; omega
              have g3 : decide ((65 : Int) ≤ (c : Int)) = true := by simp; omega
              have g4 : decide ((c : Int) ≤ 90) = false := by simp; omega
              have g5 : decide ((48 : Int) ≤ (c : Int)) = true := by simp; omega
              have g6 : decide ((c : Int) ≤ 57) = false := by simp; omega
              go_wp2
              go_ret2
              exact ⟨⟨⟨#[]⟩, by rw [HR3.out]; rfl, by rw [HR3.out]⟩, Below.refl _ _⟩
            · have g1 : decide ((97 : Int) ≤ (c : Int)) = false := by simp; omega
              have g3 : decide ((65 : Int) ≤ (c : Int)) = false := by simp; omega
              have g5 : decide ((48 : Int) ≤ (c : Int)) = true := by simp; omega
              have g6 : decide ((c : Int) ≤ 57) = false := by simp; omega
              go_wp2
              go_ret2
              exact ⟨⟨⟨#[]⟩, by rw [HR3.out]; rfl, by rw [HR3.out]⟩, Below.refl _ _⟩
            · have g1 : decide ((97 : Int) ≤ (c : Int)) = false := by simp; omega
              have g3 : decide ((65 : Int) ≤ (c : Int)) = false := by simp; omega
              have g5 : decide ((48 : Int) ≤ (c : Int)) = false := by simp; omega
              go_wp2
              go_ret2
              exact ⟨⟨⟨#[]⟩, by rw [HR3.out]; rfl, by rw [HR3.out]⟩, Below.refl _ _⟩
        · have hall : s.data.toList.all kw = true := by
            have := HL.out
            rw [List.take_of_length_le (by omega)] at this
            exact this
          have hRR : R = if 20 < s.data.toList.length then ([], 4) else (s.data.toList, 0) := by
            rw [HF.out, if_neg]
            rintro (h | h)
            · exact HNE.out h
            · rw [hall] at h; cases h
          have HRR : Hid (R = if 20 < s.data.toList.length then ([], 4) else (s.data.toList, 0)) := hRR
          clear hall hRR
          by_cases h20 : 20 < s.size
          · have h20' : (20 : Int) < (s.size : Int) := by omega
            go_wp2
            go_ret2
            exact ⟨⟨⟨#[]⟩, by rw [HRR.out, if_pos (by omega)]; rfl, by rw [HRR.out, if_pos (by omega)]⟩, Below.refl _ _⟩
          · have h20' : ¬ (20 : Int) < (s.size : Int) := by omega
            go_wp2
            go_ret2
            exact ⟨⟨s, by rw [HRR.out, if_neg (by omega)]; rfl, by rw [HRR.out, if_neg (by omega)]⟩, Below.refl _ _⟩
end Go.Proofs.YtneipabooahihaaGreatDoor
