/-
  What number, tail and limit of package wire do.
-/
import Derived.Test.YtmcpohnilgbicaaGreatDoorWireSpec
import Derived.Test.YtmcpohnilgbicaaGreatDoorWireShelf
namespace Go.Proofs.YtmcpohnilgbicaaGreatDoor
open Go.RowKit Go.Proofs.Aid Go.Proofs.Sq Go.Proofs.Hd Go.Sort

set_option maxHeartbeats 1000000 in
theorem wnumber_is (s : ByteArray) (w : World) (hs : s.size ≤ 2000000) (hg : NumAt w) :
    Calls Tryz.prog 47 #[.string s] w fun e w' => e = .returned (.tuple #[.int .i64 ((numW s.data.toList).getD 0 : Nat), .bool (numW s.data.toList).isSome]) ∧ Below w.heap.size w w' := by
  obtain ⟨R, hR⟩ : ∃ R, numW s.data.toList = R := ⟨_, rfl⟩
  rw [hR]
  cases h : Lib.atoiAll s.data.toList with
  | ok n =>
    rw [numW_ok h] at hR
    have hn := atoi_bounds h
    have cA := Tryz.strconv_ParseInt_10_at64_ok s (by omega) n (by rw [parse_same]; exact h) w
    have HR : Hid ((if 0 ≤ n ∧ n ≤ 4611686018427387904 ∧ Lib.itoa n = s.data.toList then some n.toNat else none) = R) := hR
    clear hR h
    go_enter Tryz.func47, Tryz.ntmps47
    go_wp2_with fail
    refine cA.mono ?_
    rintro e w1 ⟨rfl, hw1⟩
    have hb1 : Below w.heap.size w w1 := by
      rcases hw1 with rfl | ⟨t, rfl⟩
      · exact Below.refl _ _
      · exact num_bytes w t
    have HB : Hid (Below w.heap.size w w1) := hb1
    clear hw1 cA hb1
    by_cases h1 : n < 0
    · have d1 : decide (n < 0) = true := decide_eq_true h1
      have e2 : none = R := by rw [← HR.out, if_neg (by omega)]
      clear HR
      subst e2
      go_wp2_with fail
      go_ret2
      exact ⟨rfl, HB.out⟩
    · have d1 : decide (n < 0) = false := decide_eq_false h1
      by_cases h2 : 4611686018427387904 < n
      · have d2 : decide (4611686018427387904 < n) = true := decide_eq_true h2
        have e2 : none = R := by rw [← HR.out, if_neg (by omega)]
        clear HR
        subst e2
        go_wp2_with fail
        go_ret2
        exact ⟨rfl, HB.out⟩
      · have d2 : decide (4611686018427387904 < n) = false := decide_eq_false h2
        have cI := Tryz.strconv_FormatInt_10 n hn.1 hn.2 w1 (hg w1 HB.out).2.2
        obtain ⟨u, hu⟩ : ∃ u : ByteArray, ⟨(Lib.itoa n).toArray⟩ = u := ⟨_, rfl⟩
        rw [hu] at cI
        have hul : u.data.toList = Lib.itoa n := by rw [← hu]
        have HU : Hid (u.data.toList = Lib.itoa n) := hul
        clear hu hul
        go_wp2_with fail
        refine cI.mono ?_
        rintro e w3 ⟨rfl, q, os, rfl⟩
        have HB3 : Hid (Below w.heap.size w (grow (w1.drewN q) os)) := num_grow (below_drewN HB.out q) HB.out.size os
        generalize grow (w1.drewN q) os = W3 at HB3 ⊢
        clear cI
        by_cases hq : u = s
        · subst hq
          obtain ⟨N, rfl⟩ : ∃ N : Nat, n = (N : Int) := ⟨n.toNat, by omega⟩
          have e2 : some N = R := by rw [← HR.out, if_pos ⟨by omega, by omega, HU.out.symm⟩, Int.toNat_natCast]
          clear HR
          subst e2
          go_wp2_with fail
          go_ret2
          exact ⟨rfl, HB3.out⟩
        · have hne : (u.toList == s.toList) = false := by
            rw [Lib.toList_data, Lib.toList_data, beq_eq_false_iff_ne]
            exact fun h => hq (num_ba h)
          have e2 : none = R := by rw [← HR.out, if_neg (fun q => hq (num_ba (by rw [HU.out]; exact q.2.2)))]
          clear hq HR
          subst e2
          go_wp2_with fail
          go_ret2
          exact ⟨rfl, HB3.out⟩
  | «syntax» =>
    rw [numW_syntax h] at hR
    subst hR
    obtain ⟨te, pe, hc⟩ := (hg w (Below.refl _ _)).1
    have cA := Tryz.strconv_ParseInt_10_at64_syntax s (by omega) (by rw [parse_same]; exact h) _ w hc (Or.inr ⟨te, pe, rfl⟩)
    go_enter Tryz.func47, Tryz.ntmps47
    go_wp2_with fail
    refine cA.mono ?_
    rintro e w1 ⟨N, rfl, hN, hN2, hb1⟩
    have HB : Hid (Below w.heap.size w w1) := hb1
    clear cA hN2 hb1
    go_wp2_with fail
    go_ret2
    exact ⟨rfl, HB.out⟩
  | range =>
    rw [numW_range h] at hR
    subst hR
    obtain ⟨te, pe, hc⟩ := (hg w (Below.refl _ _)).2.1
    have cA := Tryz.strconv_ParseInt_10_at64_range s (by omega) (by rw [parse_same]; exact h) _ w hc (Or.inr ⟨te, pe, rfl⟩)
    obtain ⟨z, hz⟩ : ∃ z, Lib.intSat 64 s.data.toList = z := ⟨_, rfl⟩
    rw [hz] at cA
    go_enter Tryz.func47, Tryz.ntmps47
    go_wp2_with fail
    refine cA.mono ?_
    rintro e w1 ⟨N, rfl, hN, hN2, hb1⟩
    have HB : Hid (Below w.heap.size w w1) := hb1
    clear cA hN2 hb1
    go_wp2_with fail
    go_ret2
    exact ⟨rfl, HB.out⟩
theorem limit_is (n : Int) (w : World) :
    Calls Tryz.prog 18 #[.int .i64 n] w fun e w' => e = .returned (if 3000 < n then .iface 22 (.int .i64 4) else .nilIface) ∧ w' = w := by
  by_cases h : 3000 < n
  · rw [if_pos h]
    have d : decide ((3000 : Int) < n) = true := decide_eq_true h
    go_enter Tryz.func18, Tryz.ntmps18
    go_wp2_with fail
    go_ret
    exact ⟨rfl, rfl⟩
  · rw [if_neg h]
    have d : decide ((3000 : Int) < n) = false := decide_eq_false h
    go_enter Tryz.func18, Tryz.ntmps18
    go_wp2_with fail
    go_ret
    exact ⟨rfl, rfl⟩
theorem last_spec (s : ByteArray) : (Lib.lastIndexByte s 123 = -1) ∨ ∃ i : Nat, i < s.size ∧ Lib.lastIndexByte s 123 = (i : Int) ∧ ((s.data[i]!).toNat : Int) = 123 := by
  rcases Lib.lastIdx_spec s 123 s.size with ⟨h, _⟩ | ⟨i, h1, h2, h3, _⟩
  · exact Or.inl h
  · exact Or.inr ⟨i, h1, h2, h3⟩
/-- A { that stands ahead of a } at the end. -/
theorem brace_ahead (s : ByteArray) (i : Nat) (hi : i < s.size) (h1 : ((s.data[i]!).toNat : Int) = 123) (h2 : Lib.hasSuffix s.data.toList [125] = true) : i + 1 < s.size := by
  rcases Nat.lt_or_ge (i + 1) s.size with h | h
  · exact h
  exfalso
  have he : i = s.size - 1 := by omega
  unfold Lib.hasSuffix at h2
  obtain ⟨t, ht⟩ := (List.isSuffixOf_iff_suffix.1 h2)
  have hl : s.data.toList.length = s.size := wsize s
  rw [← ht, List.length_append, List.length_singleton] at hl
  have : s.data[i]! = 125 := by
    have q : s.data.toList[i]? = some 125 := by rw [← ht, List.getElem?_append_right (by omega)]; rw [show i - t.length = 0 by omega]; rfl
    have q2 : s.data[i]? = some 125 := by rw [← q]; simp
    rw [getElem!_def, q2]
  rw [this] at h1
  exact absurd h1 (by decide)
set_option maxHeartbeats 1000000 in
theorem tail_is (s : ByteArray) (w : World) (hs : s.size ≤ 1000000) (hg : NumAt w) :
    Calls Tryz.prog 19 #[.string s] w fun e w' => e = .returned (.tuple #[.int .i64 ((tailF s.data.toList).getD 0 : Nat), .bool (tailF s.data.toList).isSome]) ∧ Below w.heap.size w w' := by
  have cL := Tryz.strings_LastIndexByte s 123 (by omega) w
  have cS := Tryz.strings_HasSuffix s ⟨#[125]⟩ w (by omega)
  rw [show (⟨#[125]⟩ : ByteArray).data.toList = [125] from rfl] at cS
  obtain ⟨R, hR⟩ : ∃ R, tailF s.data.toList = R := ⟨_, rfl⟩
  rw [hR]
  unfold tailF at hR
  rw [show (⟨s.data.toList.toArray⟩ : ByteArray) = s from num_ba rfl] at hR
  rcases last_spec s with h | ⟨i, hi, h, hc⟩
  · rw [if_pos (Or.inl (by omega))] at hR
    subst hR
    rw [h] at cL
    go_enter Tryz.func19, Tryz.ntmps19
    go_wp2_with fail
    refine cL.mono ?_
    rintro e w1 ⟨rfl, hw⟩
    obtain rfl : w = w1 := hw.symm
    go_wp2_with fail
    go_ret2
    exact ⟨rfl, Below.refl _ _⟩
  · rw [h] at cL hR
    cases hx : Lib.hasSuffix s.data.toList [125] with
    | false =>
      rw [if_pos (Or.inr hx)] at hR
      subst hR
      rw [hx] at cS
      clear hc h hx
      go_enter Tryz.func19, Tryz.ntmps19
      go_wp2_with fail
      refine cL.mono ?_
      rintro e w1 ⟨rfl, hw⟩
      obtain rfl : w = w1 := hw.symm
      go_wp2_with fail
      refine cS.mono ?_
      rintro e w1 ⟨rfl, hw⟩
      obtain rfl : w = w1 := hw.symm
      go_wp2_with fail
      go_ret2
      exact ⟨rfl, Below.refl _ _⟩
    | true =>
      rw [if_neg (by rw [hx]; simp), Int.toNat_natCast, wsize] at hR
      have hlt := brace_ahead s i hi hc hx
      rw [hx] at cS
      have he : (s.extract (i + 1) (s.size - 1)).data.toList = (s.data.toList.drop (i + 1)).take (s.size - 1 - (i + 1)) := Lib.extract_data _ _ _
      obtain ⟨Q, hQ⟩ : ∃ Q, s.extract (i + 1) (s.size - 1) = Q := ⟨_, rfl⟩
      rw [hQ] at he
      rw [← he] at hR
      have hqs : Q.size ≤ 1000000 := by
        have : Q.data.toList.length ≤ s.size := by rw [he, List.length_take, List.length_drop, wsize]; omega
        rw [wsize] at this; omega
      have cN := fun W h => wnumber_is Q W (by omega) h
      have HN : Hid (∀ W, Below w.heap.size w W → NumAt W) := fun W h => hg.below h
      have HR : Hid (numW Q.data.toList = R) := hR
      clear hc h hx he hR hg
      go_enter Tryz.func19, Tryz.ntmps19
      go_wp2_with fail
      refine cL.mono ?_
      rintro e w1 ⟨rfl, hw⟩
      obtain rfl : w = w1 := hw.symm
      go_wp2_with fail
      refine cS.mono ?_
      rintro e w1 ⟨rfl, hw⟩
      obtain rfl : w = w1 := hw.symm
      go_wp2_with fail
      refine (cN _ (HN.out _ (Below.refl _ _))).mono ?_
      rintro e w1 ⟨rfl, hb⟩
      rw [HR.out]
      go_wp2_with fail
      go_ret2
      exact ⟨rfl, hb⟩
end Go.Proofs.YtmcpohnilgbicaaGreatDoor
