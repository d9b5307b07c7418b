/-
  The document's answer on a number, and on a number of a set: as strconv reads and writes it.
-/
import Derived.Test.YtefgpafoajoofaaGreatDoorRefRanges
import Derived.Test.YtefgpafoajoofaaGreatDoorNumShelf
import Derived.Lib.AppendIntMem
namespace Go.Proofs.YtefgpafoajoofaaGreatDoor
open Go.RowKit Go.Proofs.Aid Go.Proofs.Sq Go.Sort

/-- What Num answers. -/
def numB (l : List UInt8) (most : Int) : Int × Bool :=
  match Lib.atoiAll l with
  | .ok n => (n, decide (0 ≤ n ∧ n ≤ most) && decide (Lib.itoa n = l))
  | .syntax => (0, false)
  | .range => (Lib.atoiSat l, false)
/-- What Num reads of the world: the errors of strconv, the table of powers. -/
def NumAt (w : World) : Prop := ∀ W, Below w.heap.size w W → (∃ te pe, W.cell? ⟨7, 0, none⟩ = some (.iface te pe)) ∧ (∃ te pe, W.cell? ⟨8, 0, none⟩ = some (.iface te pe)) ∧ Lib.TabIs Tryz.prog W "internal/strconv.uint64pow10" .u64 Lib.pow10Tab
theorem NumAt.below {w W : World} (h : NumAt w) (hb : Below w.heap.size w W) : NumAt W := fun W' hb' => h W' (hb.trans (hb'.mono hb.size))
theorem num_bytes (w : World) (s : ByteArray) : Below w.heap.size w (Lib.bytesWorld w 5 s) := ⟨rfl, rfl, rfl, by rw [Lib.bytesWorld_size]; omega, fun j hj => Lib.bytesWorld_at_old w 5 s j hj⟩
theorem num_grow {B : Nat} {w0 w : World} (h : Below B w0 w) (hB : B ≤ w.heap.size) (os : Array Obj) : Below B w0 (grow w os) :=
  h.trans (Lib.below_grow B w hB 0 os)
theorem num_ba {a b : ByteArray} (h : a.data.toList = b.data.toList) : a = b := by
  obtain ⟨⟨x⟩⟩ := a
  obtain ⟨⟨y⟩⟩ := b
  have : x = y := h
  rw [this]
theorem atoi_bounds {l : List UInt8} {n : Int} (h : Lib.atoiAll l = .ok n) : -9223372036854775808 ≤ n ∧ n ≤ 9223372036854775807 := by
  unfold Lib.atoiAll at h
  split at h
  · cases h
  · simp only at h
    split at h
    · cases h
    · cases h
    · split at h
      · cases h
      · split at h
        · cases h
        · next u _ h1 h2 =>
          cases h
          split <;> (rename_i h3; simp only [h3, not_true, not_false_eq_true, true_and, false_and] at h1 h2; omega)
set_option maxHeartbeats 1000000 in
theorem ref_num (s : ByteArray) (most : Int) (w : World) (hs : s.size ≤ 1000000) (hg : NumAt w) :
    Calls Tryz.prog 95 #[.string s, .int .i64 most] w fun e w' => e = .returned (.tuple #[.int .i64 (numB s.data.toList most).1, .bool (numB s.data.toList most).2]) ∧ Below w.heap.size w w' := by
  obtain ⟨R, hR⟩ : ∃ R, numB s.data.toList most = R := ⟨_, rfl⟩
  rw [hR]
  unfold numB at hR
  cases h : Lib.atoiAll s.data.toList with
  | ok n =>
    rw [h] at hR
    simp only at hR
    subst hR
    have hn := atoi_bounds h
    have cA := Tryz.strconv_Atoi_ok s (by omega) n h w
    have cB : ∀ W, Calls Tryz.prog 63 #[.int .i64 n, .int .i64 0, .int .i64 most] W fun e w' => e = .returned (.bool (decide (0 ≤ n ∧ n ≤ most))) ∧ w' = W := fun W => ref_in n 0 most W
    obtain ⟨b1, hb1⟩ : ∃ b, decide (0 ≤ n ∧ n ≤ most) = b := ⟨_, rfl⟩
    obtain ⟨b2, hb2⟩ : ∃ b, decide (Lib.itoa n = s.data.toList) = b := ⟨_, rfl⟩
    have HB2 : Hid (decide (Lib.itoa n = s.data.toList) = b2) := hb2
    rw [hb1] at cB ⊢
    rw [hb2]
    clear hb1 hb2
    go_enter Tryz.func95, Tryz.ntmps95
    go_wp2_with fail
    refine cA.mono ?_
    rintro e w1 ⟨rfl, hw1⟩
    have hb1 : Below w.heap.size w w1 := by
      rcases hw1 with rfl | ⟨t, rfl⟩
      · exact Below.refl _ _
      · exact num_bytes w t
    have HB : Hid (Below w.heap.size w w1) := hb1
    clear hw1 cA hb1
    go_wp2_with fail
    refine (cB _).mono ?_
    rintro e w2 ⟨rfl, hw⟩
    obtain rfl : w1 = w2 := hw.symm
    clear cB
    cases b1
    · go_wp2_with fail
      go_ret2
      exact ⟨by simp, HB.out⟩
    · have cI := Tryz.strconv_Itoa n hn.1 hn.2 w1 (hg w1 HB.out).2.2
      obtain ⟨u, hu⟩ : ∃ u : ByteArray, ⟨(Lib.itoa n).toArray⟩ = u := ⟨_, rfl⟩
      rw [hu] at cI
      have hul : u.data.toList = Lib.itoa n := by rw [← hu]
      have HU : Hid (u.data.toList = Lib.itoa n) := hul
      clear hu hul
      go_wp2_with fail
      refine cI.mono ?_
      rintro e w3 ⟨rfl, q, os, rfl⟩
      have HB3 : Hid (Below w.heap.size w (grow (w1.drewN q) os)) := num_grow (below_drewN HB.out q) HB.out.size os
      generalize grow (w1.drewN q) os = W3 at HB3 ⊢
      clear cI
      by_cases hq : u = s
      · subst hq
        obtain rfl : b2 = true := by rw [← HB2.out, ← HU.out]; simp
        go_wp2_with fail
        go_ret2
        exact ⟨by simp, HB3.out⟩
      · have hne : (u.toList == s.toList) = false := by
          rw [Lib.toList_data, Lib.toList_data, beq_eq_false_iff_ne]
          exact fun h => hq (num_ba h)
        obtain rfl : b2 = false := by
          rw [← HB2.out, ← HU.out, decide_eq_false_iff_not]
          exact fun h => hq (num_ba h)
        clear hq
        go_wp2_with fail
        go_ret2
        exact ⟨rfl, HB3.out⟩
  | «syntax» =>
    rw [h] at hR
    simp only at hR
    subst hR
    obtain ⟨te, pe, hc⟩ := (hg w (Below.refl _ _)).1
    have cA := Tryz.strconv_Atoi_syntax s (by omega) h _ w hc (Or.inr ⟨te, pe, rfl⟩)
    go_enter Tryz.func95, Tryz.ntmps95
    go_wp2_with fail
    refine cA.mono ?_
    rintro e w1 ⟨N, rfl, hN, hN2, hb1⟩
    clear cA hN2
    go_wp2_with fail
    go_ret2
    exact ⟨rfl, hb1⟩
  | range =>
    rw [h] at hR
    simp only at hR
    subst hR
    obtain ⟨te, pe, hc⟩ := (hg w (Below.refl _ _)).2.1
    have cA := Tryz.strconv_Atoi_range s (by omega) h _ w hc (Or.inr ⟨te, pe, rfl⟩)
    obtain ⟨z, hz⟩ : ∃ z, Lib.atoiSat s.data.toList = z := ⟨_, rfl⟩
    rw [hz] at cA ⊢
    go_enter Tryz.func95, Tryz.ntmps95
    go_wp2_with fail
    refine cA.mono ?_
    rintro e w1 ⟨N, rfl, hN, hN2, hb1⟩
    clear cA hN2
    go_wp2_with fail
    go_ret2
    exact ⟨rfl, hb1⟩
end Go.Proofs.YtefgpafoajoofaaGreatDoor
