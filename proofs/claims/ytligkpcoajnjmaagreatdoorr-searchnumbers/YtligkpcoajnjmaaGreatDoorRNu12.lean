/-
  What flags.Name does.
  What flag and field of package search do: keys that hold no others.
-/
import Derived.Test.YtligkpcoajnjmaaGreatDoorRNu11
import Derived.Test.YtligkpcoajnjmaaGreatDoorRNu10
namespace Go.Proofs.YtligkpcoajnjmaaGreatDoorR
open Go.RowKit Go.Proofs.Aid Go.Proofs.Fl

/-- What Name tells of an error. -/
theorem name_any (s : ByteArray) (w : World) (hs : s.size ≤ 1000000) (hg : SysAt w)
    (cH : ∀ W, Calls Tryz.prog 119 #[.string s, .string ⟨#[92]⟩] W fun e w' => e = .returned (.bool (Lib.hasPrefix s.data.toList [92])) ∧ w' = W) :
    Calls Tryz.prog 191 #[.string s] w fun e w' =>
      (((fname s.data.toList).2 = 0 ∧ ∃ n : ByteArray, n.data.toList = (fname s.data.toList).1 ∧ e = .returned (.tuple #[.string n, .nilIface])) ∨ ((fname s.data.toList).2 ≠ 0 ∧ e = .returned (.tuple #[.string ⟨#[]⟩, .iface 53 (.int .i64 (fname s.data.toList).2)]))) ∧ ∃ n, w' = w.drewN n := by
  have hpre : Lib.hasPrefix s.data.toList [92] = decide (s.data.toList.head? = some 92) := by
    cases s.data.toList with
    | nil => rfl
    | cons c l =>
      show (List.isPrefixOf [92] (c :: l)) = _
      by_cases h : c = 92
      · subst h; simp [List.isPrefixOf]
      · have : ¬ (92 : UInt8) = c := fun e => h e.symm
        simp [List.isPrefixOf, h, this]
  have hla : s.data.toList.length = s.size := by show s.data.toList.length = s.data.size; simp
  rw [hpre] at cH
  by_cases h1 : s.data.toList.head? = some 92
  · have cS := fun W hW => system_any s W hs hW
    rw [decide_eq_true h1] at cH
    clear hpre
    go_enter Tryz.func191, Tryz.ntmps191
    go_wp2_with (first | (go_at_call 119; refine (cH _).mono ?_; rintro e w1 ⟨rfl, rfl⟩) | fail)
    refine (cS _ hg).mono ?_
    rintro e w2 ⟨⟨j, hj, hf, rfl⟩ | ⟨hf, rfl⟩, m, rfl⟩
    · have HF : Hid (five.find? (sameL s.data.toList) = some (five.getD j [])) := hf
      clear hf
      go_wp2
      go_ret2
      refine ⟨Or.inl ?_, m, rfl⟩
      have : fname s.data.toList = (five.getD j [], 0) := by unfold fname; rw [if_pos h1, HF.out]
      rw [this]
      exact ⟨rfl, sysB j, sysB_data j, rfl⟩
    · have HF : Hid (five.find? (sameL s.data.toList) = none) := hf
      clear hf
      go_wp2
      go_ret2
      refine ⟨Or.inr ?_, m, rfl⟩
      have : fname s.data.toList = ([], 3) := by unfold fname; rw [if_pos h1, HF.out]
      rw [this]
      exact ⟨by decide, rfl⟩
  · rw [decide_eq_false h1] at cH
    have cK := fun W => keyword_any s W hs
    obtain ⟨K, hK⟩ : ∃ K, (s.data.toList.all kw && !s.data.toList.isEmpty) = K := ⟨_, rfl⟩
    rw [hK] at cK
    clear hpre hg
    cases K
    · have HF : Hid (fname s.data.toList = ([], 3)) := by
        show fname s.data.toList = ([], 3)
        unfold fname
        rw [if_neg h1, if_pos]
        rw [Bool.and_eq_false_iff] at hK
        rcases hK with h | h
        · exact Or.inr h
        · exact Or.inl (by simpa using h)
      rw [HF.out]
      clear hK
      go_enter Tryz.func191, Tryz.ntmps191
      go_wp2_with (first | (go_at_call 119; refine (cH _).mono ?_; rintro e w1 ⟨rfl, rfl⟩) | (go_at_call 227; refine (cK _).mono ?_; rintro e w1 ⟨rfl, rfl⟩))
      go_ret2
      exact ⟨Or.inr ⟨by decide, rfl⟩, 0, rfl⟩
    · have hk2 : ¬ (s.data.toList = [] ∨ s.data.toList.all kw = false) := by
        rw [Bool.and_eq_true] at hK
        rintro (h | h)
        · rw [h] at hK; simp at hK
        · rw [h] at hK; simp at hK
      clear hK
      by_cases h20 : 20 < s.size
      · have HF : Hid (fname s.data.toList = ([], 4)) := by
          show fname s.data.toList = ([], 4)
          unfold fname
          rw [if_neg h1, if_neg hk2, if_pos (by omega)]
        rw [HF.out]
        have g : (20 : Int) < (s.size : Int) := by omega
        clear hk2
        go_enter Tryz.func191, Tryz.ntmps191
        go_wp2_with (first | (go_at_call 119; refine (cH _).mono ?_; rintro e w1 ⟨rfl, rfl⟩) | (go_at_call 227; refine (cK _).mono ?_; rintro e w1 ⟨rfl, rfl⟩))
        go_ret2
        exact ⟨Or.inr ⟨by decide, rfl⟩, 0, rfl⟩
      · have HF : Hid (fname s.data.toList = (s.data.toList, 0)) := by
          show fname s.data.toList = (s.data.toList, 0)
          unfold fname
          rw [if_neg h1, if_neg hk2, if_neg (by omega)]
        rw [HF.out]
        have g : ¬ (20 : Int) < (s.size : Int) := by omega
        clear hk2
        go_enter Tryz.func191, Tryz.ntmps191
        go_wp2_with (first | (go_at_call 119; refine (cH _).mono ?_; rintro e w1 ⟨rfl, rfl⟩) | (go_at_call 227; refine (cK _).mono ?_; rintro e w1 ⟨rfl, rfl⟩))
        go_ret2
        exact ⟨Or.inl ⟨trivial, s, rfl, rfl⟩, 0, rfl⟩
end Go.Proofs.YtligkpcoajnjmaaGreatDoorR
namespace Go.Proofs.YtligkpcoajnjmaaGreatDoorR
open Go.RowKit Go.Proofs.Aid Go.Proofs.Sq Go.Proofs.Hd

/-- A key that holds no others and no set. -/
theorem kx_leaf (w : World) (Ok : Nat → Prop) (code n : Int) (nb tb : ByteArray) : Kx w Ok (.mk code nb.data.toList tb.data.toList n [] []) [.int .i64 code, .string nb, .string tb, .int .i64 n, .slice none 0 0, .slice none 0 0] :=
  Kx.mk code n nb tb [] (.slice none 0 0) [] none 0 (fun _ => []) (StS.nil _ _) (fun j k h => by simp at h) (Or.inl rfl)
set_option maxHeartbeats 2000000 in
set_option maxRecDepth 100000 in
theorem flag_is (s : ByteArray) (w : World) (hs : s.size ≤ 1000000) (hsys : SysAt w) (hg : ErrType w) :
    Calls Tryz.prog 152 #[.string s] w fun e w' => (((Fl.fname s.data.toList).2 = 0 ∧ ∃ ys, e = .returned (.agg ys.toArray) ∧ Kx w' (fun _ => False) (Sr.flagK (Fl.fname s.data.toList).1) ys) ∨ ((Fl.fname s.data.toList).2 ≠ 0 ∧ e = thrown (Fl.fname s.data.toList).2)) ∧ Below w.heap.size w w' := by
  have b1 : Below w.heap.size w (w.alloc (.cells #[.int .i64 0, .string ⟨#[]⟩, .string ⟨#[]⟩, .int .i64 0, .slice none 0 0, .slice none 0 0] 33)) := (Below.refl _ _).alloc (Nat.le_refl _) _
  have e1 := heap_alloc_new w (.cells #[.int .i64 0, .string ⟨#[]⟩, .string ⟨#[]⟩, .int .i64 0, .slice none 0 0, .slice none 0 0] 33)
  obtain ⟨W1, hW1⟩ : ∃ W, w.alloc (.cells #[.int .i64 0, .string ⟨#[]⟩, .string ⟨#[]⟩, .int .i64 0, .slice none 0 0, .slice none 0 0] 33) = W := ⟨_, rfl⟩
  have z1 : W1.heap.size = w.heap.size + 1 := by rw [← hW1]; simp
  rw [hW1] at b1 e1
  have cN := name_any s W1 hs (hsys.below b1 hsys.lt) (fun W => Tryz.strings_HasPrefix s ⟨#[92]⟩ W)
  obtain ⟨F, hF⟩ : ∃ F, Fl.fname s.data.toList = F := ⟨_, rfl⟩
  rw [hF] at cN ⊢
  have hg1 := hg.below b1
  have HB1 : Hid (Below w.heap.size w W1) := b1
  have HE1 : Hid (W1.heap[w.heap.size]? = some (.cells #[.int .i64 0, .string ⟨#[]⟩, .string ⟨#[]⟩, .int .i64 0, .slice none 0 0, .slice none 0 0] 33 (0, 0))) := e1
  clear b1 e1 hF
  go_enter Tryz.func152, Tryz.ntmps152
  go_wp2_with fail
  refine cN.mono ?_
  rintro e w2 ⟨h, k, rfl⟩
  have HB2 : Hid (Below w.heap.size w (W1.drewN k)) := below_drewN HB1.out k
  have e2 : (W1.drewN k).heap[w.heap.size]? = some (.cells #[.int .i64 0, .string ⟨#[]⟩, .string ⟨#[]⟩, .int .i64 0, .slice none 0 0, .slice none 0 0] 33 (0, 0)) := HE1.out
  have hg2 : ErrType (W1.drewN k) := hg1.below (below_drewN (Below.refl _ _) k)
  have z2 : (W1.drewN k).heap.size = w.heap.size + 1 := z1
  generalize W1.drewN k = W2 at HB2 e2 hg2 z2 ⊢
  clear cN hg1
  rcases h with ⟨h0, n, hn, rfl⟩ | ⟨h0, rfl⟩
  · have H0 : Hid (F.2 = 0 ∧ n.data.toList = F.1) := ⟨h0, hn⟩
    clear h0 hn
    obtain ⟨⟨r0, r1, r2, r3, r4, r5⟩, ⟨rf0, rf1, rf2, rf3, rf4, rf5⟩, v0, v1, v2, v3, v4, v5⟩ := six_facts e2 (.int .i64 2) (.string n) (.string ⟨#[]⟩) (.int .i64 0) (.slice none 0 0) (.slice none 0 0)
    have cC := check_nil W2
    clear e2
    go_wp2_with fail
    refine cC.mono ?_
    rintro e w3 ⟨rfl, hw3⟩
    obtain rfl : W2 = w3 := hw3.symm
    go_wp2_with fail
    refine bodyPost_ret (v := .agg #[.int .i64 2, .string n, .string ⟨#[]⟩, .int .i64 0, .slice none 0 0, .slice none 0 0]) (by simp [results, Tryz.results152, go_sem, v0, v1, v2, v3, v4, v5]) rfl ?_
    refine ⟨Or.inl ⟨H0.out.1, _, rfl, ?_⟩, (six_but (rb := w.heap.size) (to_but HB2.out) (by omega) _ _ _ _ _ _).below (Nat.le_refl _) (Nat.le_refl _)⟩
    rw [← H0.out.2]
    exact kx_leaf _ _ 2 0 n ⟨#[]⟩
  · have H0 : Hid (F.2 ≠ 0) := h0
    clear h0
    have cC := check_err F.2 W2 hg2
    unfold thrown at cC
    clear e2
    go_wp2_with fail
    refine cC.mono ?_
    rintro e w3 ⟨rfl, hb3⟩
    go_wp2_with fail
    exact ⟨rfl, Or.inr ⟨H0.out, rfl⟩, HB2.out.trans (hb3.mono HB2.out.size)⟩
end Go.Proofs.YtligkpcoajnjmaaGreatDoorR
