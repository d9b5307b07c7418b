/-
  The document's answer on a number, and on a number of a set: as strconv reads and writes it.
-/
import Derived.Test.YtmcpohnilgbicaaGreatDoorRefIn
import Derived.Test.YtmcpohnilgbicaaGreatDoorNumPlain
namespace Go.Proofs.YtmcpohnilgbicaaGreatDoor
open Go.RowKit Go.Proofs.Aid Go.Proofs.Sq Go.Sort

set_option maxHeartbeats 1000000 in
theorem ref_num (s : ByteArray) (most : Int) (w : World) (hs : s.size ≤ 1000000) (hg : NumAt w) :
    Calls Tryz.prog 45 #[.string s, .int .i64 most] w fun e w' => e = .returned (.tuple #[.int .i64 (numB s.data.toList most).1, .bool (numB s.data.toList most).2]) ∧ Below w.heap.size w w' := by
  obtain ⟨R, hR⟩ : ∃ R, numB s.data.toList most = R := ⟨_, rfl⟩
  rw [hR]
  unfold numB at hR
  cases h : Lib.atoiAll s.data.toList with
  | ok n =>
    rw [h] at hR
    simp only at hR
    subst hR
    have hn := atoi_bounds h
    have cA := Tryz.strconv_Atoi_ok s (by omega) n h w
    have cB : ∀ W, Calls Tryz.prog 41 #[.int .i64 n, .int .i64 0, .int .i64 most] W fun e w' => e = .returned (.bool (decide (0 ≤ n ∧ n ≤ most))) ∧ w' = W := fun W => ref_in n 0 most W
    obtain ⟨b1, hb1⟩ : ∃ b, decide (0 ≤ n ∧ n ≤ most) = b := ⟨_, rfl⟩
    obtain ⟨b2, hb2⟩ : ∃ b, decide (Lib.itoa n = s.data.toList) = b := ⟨_, rfl⟩
    have HB2 : Hid (decide (Lib.itoa n = s.data.toList) = b2) := hb2
    rw [hb1] at cB ⊢
    rw [hb2]
    clear hb1 hb2
    go_enter Tryz.func45, Tryz.ntmps45
    go_wp2_with fail
    refine cA.mono ?_
    rintro e w1 ⟨rfl, hw1⟩
    have hb1 : Below w.heap.size w w1 := by
      rcases hw1 with rfl | ⟨t, rfl⟩
      · exact Below.refl _ _
      · exact num_bytes w t
    have HB : Hid (Below w.heap.size w w1) := hb1
    clear hw1 cA hb1
    go_wp2_with fail
    refine (cB _).mono ?_
    rintro e w2 ⟨rfl, hw⟩
    obtain rfl : w1 = w2 := hw.symm
    clear cB
    cases b1
    · go_wp2_with fail
      go_ret2
      exact ⟨by simp, HB.out⟩
    · have cI := Tryz.strconv_Itoa n hn.1 hn.2 w1 (hg w1 HB.out).2.2
      obtain ⟨u, hu⟩ : ∃ u : ByteArray, ⟨(Lib.itoa n).toArray⟩ = u := ⟨_, rfl⟩
      rw [hu] at cI
      have hul : u.data.toList = Lib.itoa n := by rw [← hu]
      have HU : Hid (u.data.toList = Lib.itoa n) := hul
      clear hu hul
      go_wp2_with fail
      refine cI.mono ?_
      rintro e w3 ⟨rfl, q, os, rfl⟩
      have HB3 : Hid (Below w.heap.size w (grow (w1.drewN q) os)) := num_grow (below_drewN HB.out q) HB.out.size os
      generalize grow (w1.drewN q) os = W3 at HB3 ⊢
      clear cI
      by_cases hq : u = s
      · subst hq
        obtain rfl : b2 = true := by rw [← HB2.out, ← HU.out]; simp
        go_wp2_with fail
        go_ret2
        exact ⟨by simp, HB3.out⟩
      · have hne : (u.toList == s.toList) = false := by
          rw [Lib.toList_data, Lib.toList_data, beq_eq_false_iff_ne]
          exact fun h => hq (num_ba h)
        obtain rfl : b2 = false := by
          rw [← HB2.out, ← HU.out, decide_eq_false_iff_not]
          exact fun h => hq (num_ba h)
        clear hq
        go_wp2_with fail
        go_ret2
        exact ⟨rfl, HB3.out⟩
  | «syntax» =>
    rw [h] at hR
    simp only at hR
    subst hR
    obtain ⟨te, pe, hc⟩ := (hg w (Below.refl _ _)).1
    have cA := Tryz.strconv_Atoi_syntax s (by omega) h _ w hc (Or.inr ⟨te, pe, rfl⟩)
    go_enter Tryz.func45, Tryz.ntmps45
    go_wp2_with fail
    refine cA.mono ?_
    rintro e w1 ⟨N, rfl, hN, hN2, hb1⟩
    clear cA hN2
    go_wp2_with fail
    go_ret2
    exact ⟨rfl, hb1⟩
  | range =>
    rw [h] at hR
    simp only at hR
    subst hR
    obtain ⟨te, pe, hc⟩ := (hg w (Below.refl _ _)).2.1
    have cA := Tryz.strconv_Atoi_range s (by omega) h _ w hc (Or.inr ⟨te, pe, rfl⟩)
    obtain ⟨z, hz⟩ : ∃ z, Lib.atoiSat s.data.toList = z := ⟨_, rfl⟩
    rw [hz] at cA ⊢
    go_enter Tryz.func45, Tryz.ntmps45
    go_wp2_with fail
    refine cA.mono ?_
    rintro e w1 ⟨N, rfl, hN, hN2, hb1⟩
    clear cA hN2
    go_wp2_with fail
    go_ret2
    exact ⟨rfl, hb1⟩
end Go.Proofs.YtmcpohnilgbicaaGreatDoor
