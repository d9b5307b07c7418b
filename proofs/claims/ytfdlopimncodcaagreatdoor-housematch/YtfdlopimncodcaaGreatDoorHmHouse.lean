/-
  What HouseMatch does.
-/
import Derived.Test.YtfdlopimncodcaaGreatDoorHmWalk
import Derived.Test.YtfdlopimncodcaaGreatDoorHsHoused
namespace Go.Proofs.YtfdlopimncodcaaGreatDoor
open Go.RowKit Go.Proofs.Aid

theorem slash_at : SlashAt := fun x W => by
  have := Tryz.strings_Contains_one x 47 W
  rw [← Lib.contains_iff_indexByte] at this
  refine this.mono ?_
  rintro e w' ⟨rfl, rfl⟩
  refine ⟨?_, rfl⟩
  rw [List.contains_eq_mem]
theorem low_two : Low ⟨#[42, 37]⟩ := fun j b h => by
  have : b ∈ ([42, 37] : List UInt8) := List.mem_of_getElem? h
  simp at this
  rcases this with rfl | rfl <;> decide
theorem index_hit {p : List UInt8} : ∀ (a b : List UInt8), 0 ≤ Lib.index (a ++ p ++ b) p
  | [], b => by
    have hpre : p.isPrefixOf ([] ++ p ++ b) = true := by
      rw [List.isPrefixOf_iff_prefix]
      exact ⟨b, by simp⟩
    cases hl : ([] ++ p ++ b) with
    | nil =>
      have hpb : p = [] ∧ b = [] := by simpa using hl
      rw [hpb.1, Lib.index]
      simp
    | cons x r =>
      rw [hl] at hpre
      rw [Lib.index, if_pos hpre]
      exact Int.le_refl _
  | c :: a, b => by
    have ih := index_hit (p := p) a b
    rw [List.cons_append, List.cons_append, Lib.index]
    split
    · exact Int.le_refl _
    · have hn : ¬ ((Lib.index (a ++ p ++ b) p == -1) = true) := by
        rw [beq_iff_eq]
        omega
      rw [if_neg hn]
      omega
theorem contains_of {s p a b : List UInt8} (h : s = a ++ p ++ b) : Lib.contains s p = true := by
  unfold Lib.contains
  rw [h]
  exact decide_eq_true (index_hit a b)
theorem plain_of {p : List UInt8} (h : (p.any fun c => ([42, 37] : List UInt8).contains c) = false) : PlainP p := by
  refine ⟨fun hc => ?_, fun hc => ?_⟩
  · have := List.any_eq_false.1 h 42 hc
    simp at this
  · have := List.any_eq_false.1 h 37 hc
    simp at this
set_option maxHeartbeats 8000000 in
set_option maxRecDepth 100000 in
theorem hm_walk (p s t : ByteArray) (w : World) (hp : p.size ≤ 40) (hs : s.size ≤ 80) (ht : t.size ≤ 80) (hE : HEnv w) :
    Calls Tryz.prog 7 #[.string p, .string s, .string t] w fun e w' => e = .returned (.bool true) ∧ Below w.heap.size w w' := by
  have HB1 : Hid (Below w.heap.size w w) := Below.refl _ _
  have HH : Hid (∀ W, Below w.heap.size w W → Calls Tryz.prog 25 #[] W fun e w' => e = .returned (.bool true) ∧ Below W.heap.size W w') := fun W hW => housed_is W (hE.below hW)
  have M : ∀ (x y : ByteArray) (b : Bool), x.size ≤ 10000 → y.size ≤ 10000 → (Mt x.data.toList y.data.toList ↔ b = true) → ∀ W, Calls Tryz.prog 22 #[.string x, .string y] W fun e w' => e = .returned (.bool b) ∧ Below W.heap.size W w' := fun x y b hx hy hb W => by
    have := match_is x y W hy hx
    rw [mB hb] at this
    exact this
  obtain ⟨NB, hNB⟩ : ∃ b, (p.data.toList.any fun c => ([42, 37] : List UInt8).contains c) = b := ⟨_, rfl⟩
  have HANY : Hid (∀ W, Calls Tryz.prog 37 #[.string p, .string ⟨#[42, 37]⟩] W fun e w' => e = .returned (.bool NB) ∧ Below W.heap.size W w') := fun W => by
    have := any_is p ⟨#[42, 37]⟩ W (by decide) low_two (by decide) (by omega)
    rw [show (⟨#[42, 37]⟩ : ByteArray).data.toList = [42, 37] from rfl, hNB] at this
    exact this
  have HM1 : Hid (∀ W, Calls Tryz.prog 22 #[.string ⟨#[42]⟩, .string s] W fun e w' => e = .returned (.bool true) ∧ Below W.heap.size W w') := fun W => M ⟨#[42]⟩ s true (by decide) (by omega) ⟨fun _ => rfl, fun _ => mt_star_all _⟩ W
  obtain ⟨SS, hSS⟩ : ∃ b, decide ((47 : UInt8) ∈ s.data.toList) = b := ⟨_, rfl⟩
  have HM2 : Hid (∀ W, Calls Tryz.prog 22 #[.string ⟨#[37]⟩, .string s] W fun e w' => e = .returned (.bool (!SS)) ∧ Below W.heap.size W w') := fun W => M ⟨#[37]⟩ s (!SS) (by decide) (by omega) (by
    rw [← hSS]
    exact (mt_part_all _).trans (by simp)) W
  have HSs : Hid (∀ W, Calls Tryz.prog 38 #[.string s, .string ⟨#[47]⟩] W fun e w' => e = .returned (.bool SS) ∧ w' = W) := fun W => by rw [← hSS]; exact slash_at s W
  obtain ⟨MB, hMB⟩ : ∃ b, matchB p.data.toList s.data.toList = b := ⟨_, rfl⟩
  have hMt : Mt p.data.toList s.data.toList ↔ MB = true := by rw [← hMB]; exact (match_iff _ _).symm
  have HMps : Hid (∀ W, Calls Tryz.prog 22 #[.string p, .string s] W fun e w' => e = .returned (.bool MB) ∧ Below W.heap.size W w') := fun W => M p s MB (by omega) (by omega) hMt W
  obtain ⟨ST, hST⟩ : ∃ b, decide ((47 : UInt8) ∈ t.data.toList) = b := ⟨_, rfl⟩
  have HSt : Hid (∀ W, Calls Tryz.prog 38 #[.string t, .string ⟨#[47]⟩] W fun e w' => e = .returned (.bool ST) ∧ w' = W) := fun W => by rw [← hST]; exact slash_at t W
  have HMt : Hid (MB = true → (∀ W, Calls Tryz.prog 22 #[.string (p ++ ⟨#[42]⟩), .string (s ++ t)] W fun e w' => e = .returned (.bool true) ∧ Below W.heap.size W w') ∧
      (∀ W, Calls Tryz.prog 22 #[.string (⟨#[42]⟩ ++ p), .string (t ++ s)] W fun e w' => e = .returned (.bool true) ∧ Below W.heap.size W w') ∧
      (ST = false → ∀ W, Calls Tryz.prog 22 #[.string (p ++ ⟨#[37]⟩), .string (s ++ t)] W fun e w' => e = .returned (.bool true) ∧ Below W.heap.size W w')) := fun hm => by
    have hM := hMt.2 hm
    refine ⟨fun W => M _ _ true (by rw [cat_size]; show p.size + 1 ≤ _; omega) (by rw [cat_size]; omega) ⟨fun _ => rfl, fun _ => ?_⟩ W, fun W => M _ _ true (by rw [cat_size]; show 1 + p.size ≤ _; omega) (by rw [cat_size]; omega) ⟨fun _ => rfl, fun _ => ?_⟩ W, fun hst W => M _ _ true (by rw [cat_size]; show p.size + 1 ≤ _; omega) (by rw [cat_size]; omega) ⟨fun _ => rfl, fun _ => ?_⟩ W⟩
    · rw [cat_list, cat_list]
      exact mt_snoc.2 ⟨_, _, rfl, hM, Or.inl rfl⟩
    · rw [cat_list, cat_list]
      exact mt_front hM _
    · rw [cat_list, cat_list]
      exact mt_snoc.2 ⟨_, _, rfl, hM, Or.inr (Or.inl ⟨rfl, by rw [hst] at hST; simpa using hST⟩)⟩
  obtain ⟨PE, hPE⟩ : ∃ b, (p.toList == s.toList) = b := ⟨_, rfl⟩
  have HPE : Hid ((p.toList == s.toList) = PE ∧ (p.toList = s.toList ↔ PE = true)) := ⟨hPE, by rw [← hPE]; simp⟩
  have hpl : NB = false → PlainP p.data.toList := fun h => plain_of (hNB.trans h)
  have HMp : Hid (NB = false → ∀ W, Calls Tryz.prog 22 #[.string p, .string s] W fun e w' => e = .returned (.bool PE) ∧ Below W.heap.size W w') := fun h W => M p s PE (by omega) (by omega) (by
    rw [mt_plain _ _ rfl (hpl h), ← HPE.out.2, Lib.toList_data, Lib.toList_data]) W
  have cP := Tryz.strings_HasPrefix s p
  obtain ⟨PB, hPB⟩ : ∃ b, Lib.hasPrefix s.data.toList p.data.toList = b := ⟨_, rfl⟩
  rw [hPB] at cP
  have HPre : Hid (∀ W, Calls Tryz.prog 33 #[.string s, .string p] W fun e w' => e = .returned (.bool PB) ∧ w' = W) := cP
  have HMpb : Hid (NB = false → ∀ W, Calls Tryz.prog 22 #[.string (p ++ ⟨#[42]⟩), .string s] W fun e w' => e = .returned (.bool PB) ∧ Below W.heap.size W w') := fun h W => M _ _ PB (by rw [cat_size]; show p.size + 1 ≤ _; omega) (by omega) (by
    rw [cat_list, show (⟨#[42]⟩ : ByteArray).data.toList = [42] from rfl, mt_begin (hpl h), ← hPB]
    unfold Lib.hasPrefix
    rw [List.isPrefixOf_iff_prefix]
    exact ⟨fun ⟨u, hu⟩ => ⟨u, hu.symm⟩, fun ⟨u, hu⟩ => ⟨u, hu.symm⟩⟩) W
  obtain ⟨CB, hCB⟩ : ∃ b, Lib.contains s.data.toList p.data.toList = b := ⟨_, rfl⟩
  have HCsp : Hid (∀ W, Below w.heap.size w W → Calls Tryz.prog 38 #[.string s, .string p] W fun e w' => e = .returned (.bool CB) ∧ w' = W) := fun W hW => by
    obtain ⟨m, hm⟩ := (hE.below hW).1.1
    have := Tryz.strings_Contains s p m W (by omega) hm
    rw [hCB] at this
    exact this
  obtain ⟨AR, hAR⟩ : ∃ b, arB p s = b := ⟨_, rfl⟩
  have HAr : Hid (∀ W, Calls Tryz.prog 39 #[.string p, .string s] W fun e w' => e = .returned (.bool AR) ∧ w' = W) := fun W => by
    rw [← hAR]
    exact around_is slash_at p s W (by omega) (by omega)
  obtain ⟨AB, hAB0⟩ : ∃ b, matchB (37 :: p.data.toList ++ [37]) s.data.toList = b := ⟨_, rfl⟩
  have HMpp : Hid (∀ W, Calls Tryz.prog 22 #[.string (⟨#[37]⟩ ++ p ++ ⟨#[37]⟩), .string s] W fun e w' => e = .returned (.bool AB) ∧ Below W.heap.size W w') := fun W => M _ _ AB (by rw [cat_size, cat_size]; show 1 + p.size + 1 ≤ _; omega) (by omega) (by
    rw [cat_list, cat_list, ← hAB0]
    exact (match_iff _ _).symm) W
  have HAB : Hid (NB = false → (CB = true → AB = AR) ∧ (CB = false → AB = false)) := fun h => by
    have h1 : AB = true ↔ AR = true := by
      rw [← hAB0, ← hAR, match_iff, mt_around (hpl h), ar_iff]
    have h2 : AB = true → CB = true := fun hab => by
      rw [← hAB0, match_iff, mt_around (hpl h)] at hab
      obtain ⟨a, b, e, _, _⟩ := hab
      rw [← hCB]
      exact contains_of e
    refine ⟨fun _ => ?_, fun hc => ?_⟩
    · cases AB <;> cases AR <;> simp_all
    · cases hAB : AB with
      | false => rfl
      | true => rw [h2 hAB] at hc; cases hc
  clear M cP hNB hSS hMB hMt hST hPE hpl hPB hCB hAR hAB0 hE
  have l1 : (9223372036854775807 < p.size + 1) = False := eq_false (by omega)
  have l2 : (9223372036854775807 < s.size + t.size) = False := eq_false (by omega)
  have l3 : (9223372036854775807 < 1 + p.size) = False := eq_false (by omega)
  have l4 : (9223372036854775807 < t.size + s.size) = False := eq_false (by omega)
  have l5 : (9223372036854775807 < 1 + p.size + 1) = False := eq_false (by omega)
  have d1 : decide ((40 : Int) < (p.size : Int)) = false := decide_eq_false (by omega)
  have d2 : decide ((80 : Int) < (s.size : Int)) = false := decide_eq_false (by omega)
  have d3 : decide ((80 : Int) < (t.size : Int)) = false := decide_eq_false (by omega)
  go_enter Tryz.func7, Tryz.ntmps7
  go_wp2_with fail
  refine (HH.out _ (Below.refl _ _)).mono ?_
  rintro e w2 ⟨rfl, hb2⟩
  have HB2 : Hid (Below w.heap.size w w2) := HB1.out.trans (hb2.mono HB1.out.size)
  clear hb2
  go_wp2_with fail
  refine (HANY.out _).mono ?_
  rintro e w3 ⟨rfl, hb3⟩
  have HB3 : Hid (Below w.heap.size w w3) := HB2.out.trans (hb3.mono HB2.out.size)
  clear hb3
  go_wp2_with fail
  refine (HM1.out _).mono ?_
  rintro e w4 ⟨rfl, hb4⟩
  have HB4 : Hid (Below w.heap.size w w4) := HB3.out.trans (hb4.mono HB3.out.size)
  clear hb4
  go_wp2_with fail
  refine (HM2.out _).mono ?_
  rintro e w5 ⟨rfl, hb5⟩
  have HB5 : Hid (Below w.heap.size w w5) := HB4.out.trans (hb5.mono HB4.out.size)
  clear hb5
  go_wp2_with fail
  refine (HSs.out _).mono ?_
  rintro e wz ⟨rfl, hz⟩
  obtain rfl : w5 = wz := hz.symm
  clear hz
  cases NB with
  | true =>
    go_wp2_with fail
    refine (HMps.out _).mono ?_
    rintro e w6 ⟨rfl, hb6⟩
    have HB6 : Hid (Below w.heap.size w w6) := HB5.out.trans (hb6.mono HB5.out.size)
    clear hb6
    cases MB with
    | false =>
      go_wp2_with fail
      go_ret
      exact ⟨rfl, HB6.out⟩
    | true =>
      go_wp2_with fail
      refine ((HMt.out (by first | rfl | trivial)).1 _).mono ?_
      rintro e w7 ⟨rfl, hb7⟩
      have HB7 : Hid (Below w.heap.size w w7) := HB6.out.trans (hb7.mono HB6.out.size)
      clear hb7
      go_wp2_with fail
      refine ((HMt.out (by first | rfl | trivial)).2.1 _).mono ?_
      rintro e w8 ⟨rfl, hb8⟩
      have HB8 : Hid (Below w.heap.size w w8) := HB7.out.trans (hb8.mono HB7.out.size)
      clear hb8
      go_wp2_with fail
      refine (HSt.out _).mono ?_
      rintro e wz ⟨rfl, hz⟩
      obtain rfl : w8 = wz := hz.symm
      clear hz
      cases ST with
      | true =>
        go_wp2_with fail
        go_ret
        exact ⟨rfl, HB8.out⟩
      | false =>
        go_wp2_with fail
        refine ((HMt.out (by first | rfl | trivial)).2.2 (by first | rfl | trivial) _).mono ?_
        rintro e w9 ⟨rfl, hb9⟩
        have HB9 : Hid (Below w.heap.size w w9) := HB8.out.trans (hb9.mono HB8.out.size)
        clear hb9
        go_wp2_with fail
        go_ret
        exact ⟨rfl, HB9.out⟩
  | false =>
    obtain ⟨hq1, hq2⟩ := HPE.out
    go_wp2_with fail
    refine (HMp.out (by first | rfl | trivial) _).mono ?_
    rintro e w6 ⟨rfl, hb6⟩
    have HB6 : Hid (Below w.heap.size w w6) := HB5.out.trans (hb6.mono HB5.out.size)
    clear hb6
    go_wp2_with fail
    refine (HMpb.out (by first | rfl | trivial) _).mono ?_
    rintro e w7 ⟨rfl, hb7⟩
    have HB7 : Hid (Below w.heap.size w w7) := HB6.out.trans (hb7.mono HB6.out.size)
    clear hb7
    go_wp2_with fail
    refine (HPre.out _).mono ?_
    rintro e wz ⟨rfl, hz⟩
    obtain rfl : w7 = wz := hz.symm
    clear hz
    go_wp2_with fail
    refine (HMps.out _).mono ?_
    rintro e w8 ⟨rfl, hb8⟩
    have HB8 : Hid (Below w.heap.size w w8) := HB7.out.trans (hb8.mono HB7.out.size)
    clear hb8
    cases MB with
    | false =>
      go_wp2_with fail
      refine (HMpp.out _).mono ?_
      rintro e w9 ⟨rfl, hb9⟩
      have HB9 : Hid (Below w.heap.size w w9) := HB8.out.trans (hb9.mono HB8.out.size)
      clear hb9
      go_wp2_with fail
      refine (HCsp.out w9 HB9.out).mono ?_
      rintro e wz ⟨rfl, hz⟩
      obtain rfl : w9 = wz := hz.symm
      clear hz
      cases CB with
      | false =>
        have hAB : AB = false := (HAB.out (by first | rfl | trivial)).2 (by first | rfl | trivial)
        subst hAB
        go_wp2_with fail
        go_ret
        exact ⟨rfl, HB9.out⟩
      | true =>
        go_wp2_with fail
        refine (HAr.out _).mono ?_
        rintro e wz ⟨rfl, hz⟩
        obtain rfl : w9 = wz := hz.symm
        clear hz
        have hAB : AB = AR := (HAB.out (by first | rfl | trivial)).1 (by first | rfl | trivial)
        subst hAB
        go_wp2_with fail
        go_ret
        exact ⟨by simp, HB9.out⟩
    | true =>
      go_wp2_with fail
      refine ((HMt.out (by first | rfl | trivial)).1 _).mono ?_
      rintro e w9 ⟨rfl, hb9⟩
      have HB9 : Hid (Below w.heap.size w w9) := HB8.out.trans (hb9.mono HB8.out.size)
      clear hb9
      go_wp2_with fail
      refine ((HMt.out (by first | rfl | trivial)).2.1 _).mono ?_
      rintro e w10 ⟨rfl, hb10⟩
      have HB10 : Hid (Below w.heap.size w w10) := HB9.out.trans (hb10.mono HB9.out.size)
      clear hb10
      go_wp2_with fail
      refine (HSt.out _).mono ?_
      rintro e wz ⟨rfl, hz⟩
      obtain rfl : w10 = wz := hz.symm
      clear hz
      cases ST with
      | true =>
        go_wp2_with fail
        refine (HMpp.out _).mono ?_
        rintro e w11 ⟨rfl, hb11⟩
        have HB11 : Hid (Below w.heap.size w w11) := HB10.out.trans (hb11.mono HB10.out.size)
        clear hb11
        go_wp2_with fail
        refine (HCsp.out w11 HB11.out).mono ?_
        rintro e wz ⟨rfl, hz⟩
        obtain rfl : w11 = wz := hz.symm
        clear hz
        cases CB with
        | false =>
          have hAB : AB = false := (HAB.out (by first | rfl | trivial)).2 (by first | rfl | trivial)
          subst hAB
          go_wp2_with fail
          go_ret
          exact ⟨rfl, HB11.out⟩
        | true =>
          go_wp2_with fail
          refine (HAr.out _).mono ?_
          rintro e wz ⟨rfl, hz⟩
          obtain rfl : w11 = wz := hz.symm
          clear hz
          have hAB : AB = AR := (HAB.out (by first | rfl | trivial)).1 (by first | rfl | trivial)
          subst hAB
          go_wp2_with fail
          go_ret
          exact ⟨by simp, HB11.out⟩
      | false =>
        go_wp2_with fail
        refine ((HMt.out (by first | rfl | trivial)).2.2 (by first | rfl | trivial) _).mono ?_
        rintro e w11 ⟨rfl, hb11⟩
        have HB11 : Hid (Below w.heap.size w w11) := HB10.out.trans (hb11.mono HB10.out.size)
        clear hb11
        go_wp2_with fail
        refine (HMpp.out _).mono ?_
        rintro e w12 ⟨rfl, hb12⟩
        have HB12 : Hid (Below w.heap.size w w12) := HB11.out.trans (hb12.mono HB11.out.size)
        clear hb12
        go_wp2_with fail
        refine (HCsp.out w12 HB12.out).mono ?_
        rintro e wz ⟨rfl, hz⟩
        obtain rfl : w12 = wz := hz.symm
        clear hz
        cases CB with
        | false =>
          have hAB : AB = false := (HAB.out (by first | rfl | trivial)).2 (by first | rfl | trivial)
          subst hAB
          go_wp2_with fail
          go_ret
          exact ⟨rfl, HB12.out⟩
        | true =>
          go_wp2_with fail
          refine (HAr.out _).mono ?_
          rintro e wz ⟨rfl, hz⟩
          obtain rfl : w12 = wz := hz.symm
          clear hz
          have hAB : AB = AR := (HAB.out (by first | rfl | trivial)).1 (by first | rfl | trivial)
          subst hAB
          go_wp2_with fail
          go_ret
          exact ⟨by simp, HB12.out⟩
end Go.Proofs.YtfdlopimncodcaaGreatDoor
