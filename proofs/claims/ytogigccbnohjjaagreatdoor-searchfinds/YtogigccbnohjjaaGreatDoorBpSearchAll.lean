/-
  What key of package search does at the word ALL (the pattern of all wo, and more.
-/
import Derived.Test.YtogigccbnohjjaaGreatDoorBpSfUid
namespace Go.Proofs.YtogigccbnohjjaaGreatDoor
open Go.RowKit Go.Proofs.Aid Go.Proofs.Sq Go.Proofs.Hd
set_option maxHeartbeats 2000000
set_option maxRecDepth 100000
theorem key_all (rb c B d : Nat) (x : Sr.Ar) (l : List Sr.Ar) (v : Value) (Ok : Nat → Prop) (w : World) (hr : RdS w rb v c) (hl : Ags w Ok B (x :: l) v) (hB : B ≤ 2000000) (hrb : rb < w.heap.size) (hO : ∀ k, Ok k → k ≠ rb ∧ k < w.heap.size) (hd : d ≤ 6) (hc : c + 1 ≤ 60) (hx : x.kind ≠ 3) (hw : great x.text = Sr.wAll) :
  Calls Tryz.prog 38 #[.pointer (some ⟨rb, 0, none⟩), .int .i64 (d : Int)] w fun e w' => Out w rb B Ok (.ok (.mk 1 [] [] 0 [] []) l (c + 1)) e w' := by
 obtain ⟨W1, W2, hW1, hW2, p1, f1, q1, q0, z2, hr2, hl2, hb2, hE2⟩ := key_begun rb c B (x :: l) v Ok w hr hl hrb hO
 have cW := word_ok rb (c + 1) B x l v Ok W2 hr2 hl2 (fun k hk => (hO k hk).1) hx
 obtain ⟨b, o, C, _, lv, rfl, hC, hC2, hOb, _, _, _, c1, _, _, _⟩ := hl2.head
 have hkb : (x.kind == 3) = false := by simpa using hx
 obtain ⟨K, hK⟩ : ∃ K, x.kind = K := ⟨_, rfl⟩
 rw [hK] at c1 hkb
 obtain ⟨L, hL⟩ : ∃ L, l.length = L := ⟨_, rfl⟩
 rw [hL] at q0 hC
 have HB : Hid (But w.heap.size rb w W2) := hb2
 have HE : Hid (W2.heap[w.heap.size]? = some (.cells #[.int .i64 0, .string ⟨#[]⟩, .string ⟨#[]⟩, .int .i64 0, .slice none 0 0, .slice none 0 0] 32 (0, 0))) := hE2
 have HO : Hid (∀ k, Ok k → k ≠ rb ∧ k < w.heap.size) := hO
 have HZ : Hid (W2.heap.size = w.heap.size + 1) := z2
 have HWD : Hid (great x.text = Sr.wAll) := hw
 have d1 : decide ((6 : Int) < (d : Int)) = false := decide_eq_false (by omega)
 have d2 : decide ((60 : Int) < (c : Int) + 1) = false := decide_eq_false (by omega)
 clear hr hl hO hr2 hl2 hb2 hE2 hL z2 hx hK hw
 go_enter Tryz.func38, Tryz.ntmps38
 go_wp2_with fail
 refine cW.mono ?_
 rintro e w3 ⟨tb, v3, htb, htz, rfl, hr3, hl3, hb3⟩
 have cG := great_is tb w3 (by omega)
 rw [htb, HWD.out, show (⟨(Sr.wAll).toArray⟩ : ByteArray) = ⟨#[65, 76, 76]⟩ from rfl] at cG
 have hz := HZ.out
 have hs3 := hb3.size
 have HX : Hid (∀ W, Below w3.heap.size w3 W → RdS W rb v3 (c + 1) ∧ Ags W Ok B l v3 ∧ But w.heap.size rb w W ∧ W.heap[w.heap.size]? = some (.cells #[.int .i64 0, .string ⟨#[]⟩, .string ⟨#[]⟩, .int .i64 0, .slice none 0 0, .slice none 0 0] 32 (0, 0)) ∧ w.heap.size + 1 ≤ W.heap.size) := fun W hW =>
  ⟨hr3.kept (hW.block rb (by omega)), hl3.kept fun k hk hlt => ⟨hk, hW.block k hlt⟩, (HB.out.trans (hb3.less (by omega))).trans (to_but (hW.mono (by omega))), (hW.block w.heap.size (by omega)).trans ((hb3.block w.heap.size (by omega) (by omega)).trans HE.out), by have := hW.size; omega⟩
 clear cW hr3 hl3 hb3 htb
 go_wp2_with fail
 refine cG.mono ?_
 rintro e w4 ⟨rfl, hb4⟩
 obtain ⟨hr4, hl4, hbt, e4, hs4⟩ := HX.out w4 hb4
 obtain ⟨⟨s0, s1, s2, s3, s4, s5⟩, ⟨sf0, sf1, sf2, sf3, sf4, sf5⟩, v0, v1, v2, v3', v4, v5⟩ := six_facts e4 (.int .i64 1) (.string ⟨#[]⟩) (.string ⟨#[]⟩) (.int .i64 0) (.slice none 0 0) (.slice none 0 0)
 have HD : Hid (Out w rb B Ok (.ok (.mk 1 [] [] 0 [] []) l (c + 1)) (.returned (.agg #[.int .i64 1, .string ⟨#[]⟩, .string ⟨#[]⟩, .int .i64 0, .slice none 0 0, .slice none 0 0])) _) := key_done hrb HO.out (kx_leaf w4 _ 1 0 ⟨#[]⟩ ⟨#[]⟩) hr4 hl4 hbt
 clear cG hb4 hr4 hl4 hbt e4 HX
 go_wp2_with fail
 exact bodyPost_ret (v := .agg #[.int .i64 1, .string ⟨#[]⟩, .string ⟨#[]⟩, .int .i64 0, .slice none 0 0, .slice none 0 0]) (by simp [results, Tryz.results38, go_sem, v0, v1, v2, v3', v4, v5]) rfl HD.out
end Go.Proofs.YtogigccbnohjjaaGreatDoor
namespace Go.Proofs.YtogigccbnohjjaaGreatDoor
open Go.RowKit Go.Proofs.Aid Go.Proofs.Sq Go.Sort
set_option maxHeartbeats 2000000
set_option maxRecDepth 100000
theorem number_as (s : ByteArray) (w : World) (hs : s.size ≤ 2000000) (hg : NumAt w) :
  Calls Tryz.prog 70 #[.string s] w fun e w' => (if (numB s.data.toList 2147483647).2 = true then e = .returned (.int .i64 (numB s.data.toList 2147483647).1) else e = thrown 3) ∧ Below w.heap.size w w' := by
 obtain ⟨R, hR⟩ : ∃ R, numB s.data.toList 2147483647 = R := ⟨_, rfl⟩
 rw [hR]
 unfold numB at hR
 obtain ⟨Q, hQ⟩ : ∃ Q : Ending → Prop, (fun e => if R.2 = true then e = .returned (.int .i64 R.1) else e = thrown 3) = Q := ⟨_, rfl⟩
 have HQ : Hid (∀ e, Q e = (if R.2 = true then e = .returned (.int .i64 R.1) else e = thrown 3)) := fun e => by rw [← hQ]
 suffices H : Calls Tryz.prog 70 #[.string s] w fun e w' => Q e ∧ Below w.heap.size w w' from H.mono fun e w' h => by rw [← HQ.out e]; exact h
 clear hQ
 cases h : Lib.atoiAll s.data.toList with
 | ok n =>
  rw [h] at hR
  simp only at hR
  have hn := atoi_bounds h
  have cA := Tryz.strconv_Atoi_ok s (by omega) n h w
  have HR : Hid ((n, decide (0 ≤ n ∧ n ≤ 2147483647) && decide (Lib.itoa n = s.data.toList)) = R) := hR
  clear hR h
  go_enter Tryz.func70, Tryz.ntmps70
  go_wp2_with fail
  refine cA.mono ?_
  rintro e w1 ⟨rfl, hw1⟩
  have hb1 : Below w.heap.size w w1 := by
   rcases hw1 with rfl | ⟨t, rfl⟩
   ·exact Below.refl _ _
   ·exact num_bytes w t
  have HB : Hid (Below w.heap.size w w1) := hb1
  clear hw1 cA hb1
  by_cases h1 : n < 0
  ·have d1 : decide (n < 0) = true := decide_eq_true h1
   have e2 : R.2 = false := by rw [← HR.out]; simp only [Bool.and_eq_false_iff, decide_eq_false_iff_not]; left; omega
   have HE : Hid (R.2 = false) := e2
   clear e2
   go_wp2_with fail
   refine ⟨rfl, ?_, HB.out⟩
   show Q _
   rw [HQ.out, HE.out]
   rfl
  ·have d1 : decide (n < 0) = false := decide_eq_false h1
   by_cases h2 : 2147483647 < n
   ·have d2 : decide (2147483647 < n) = true := decide_eq_true h2
    have e2 : R.2 = false := by rw [← HR.out]; simp only [Bool.and_eq_false_iff, decide_eq_false_iff_not]; left; omega
    have HE : Hid (R.2 = false) := e2
    clear e2
    go_wp2_with fail
    refine ⟨rfl, ?_, HB.out⟩
    show Q _
    rw [HQ.out, HE.out]
    rfl
   ·have d2 : decide (2147483647 < n) = false := decide_eq_false h2
    have cI := Tryz.strconv_Itoa n hn.1 hn.2 w1 (hg w1 HB.out).2.2
    obtain ⟨u, hu⟩ : ∃ u : ByteArray, ⟨(Lib.itoa n).toArray⟩ = u := ⟨_, rfl⟩
    rw [hu] at cI
    have hul : u.data.toList = Lib.itoa n := by rw [← hu]
    have HU : Hid (u.data.toList = Lib.itoa n) := hul
    clear hu hul
    go_wp2_with fail
    refine cI.mono ?_
    rintro e w3 ⟨rfl, q, os, rfl⟩
    have HB3 : Hid (Below w.heap.size w (grow (w1.drewN q) os)) := num_grow (below_drewN HB.out q) HB.out.size os
    generalize grow (w1.drewN q) os = W3 at HB3 ⊢
    clear cI
    by_cases hq : u = s
    ·subst hq
     have HE : Hid (R = (n, true)) := by
      show R = (n, true)
      rw [← HR.out, decide_eq_true (show 0 ≤ n ∧ n ≤ 2147483647 by omega), HU.out, decide_eq_true rfl]; rfl
     go_wp2_with fail
     go_ret
     refine ⟨?_, HB3.out⟩
     show Q _
     rw [HQ.out, HE.out]
     rfl
    ·have hne : (u.toList == s.toList) = false := by
      rw [Lib.toList_data, Lib.toList_data, beq_eq_false_iff_ne]
      exact fun h => hq (num_ba h)
     have HE : Hid (R.2 = false) := by
      show R.2 = false
      rw [← HR.out, ← HU.out, decide_eq_false (show ¬ u.data.toList = s.data.toList from fun h => hq (num_ba h))]
      exact Bool.and_false _
     clear hq
     go_wp2_with fail
     refine ⟨rfl, ?_, HB3.out⟩
     show Q _
     rw [HQ.out, HE.out]
     rfl
 | «syntax» =>
  rw [h] at hR
  simp only at hR
  subst hR
  obtain ⟨te, pe, hc⟩ := (hg w (Below.refl _ _)).1
  have cA := Tryz.strconv_Atoi_syntax s (by omega) h _ w hc (Or.inr ⟨te, pe, rfl⟩)
  go_enter Tryz.func70, Tryz.ntmps70
  go_wp2_with fail
  refine cA.mono ?_
  rintro e w1 ⟨N, rfl, hN, hN2, hb1⟩
  have HB : Hid (Below w.heap.size w w1) := hb1
  clear cA hN2 hb1
  go_wp2_with fail
  refine ⟨rfl, ?_, HB.out⟩
  show Q _
  rw [HQ.out]
  rfl
 | range =>
  rw [h] at hR
  simp only at hR
  subst hR
  obtain ⟨te, pe, hc⟩ := (hg w (Below.refl _ _)).2.1
  have cA := Tryz.strconv_Atoi_range s (by omega) h _ w hc (Or.inr ⟨te, pe, rfl⟩)
  obtain ⟨z, hz⟩ : ∃ z, Lib.atoiSat s.data.toList = z := ⟨_, rfl⟩
  rw [hz] at cA HQ
  go_enter Tryz.func70, Tryz.ntmps70
  go_wp2_with fail
  refine cA.mono ?_
  rintro e w1 ⟨N, rfl, hN, hN2, hb1⟩
  have HB : Hid (Below w.heap.size w w1) := hb1
  clear cA hN2 hb1
  go_wp2_with fail
  refine ⟨rfl, ?_, HB.out⟩
  show Q _
  rw [HQ.out]
  rfl
theorem numN_other {l : List UInt8} (h : l ≠ [48]) (h42 : l ≠ [42]) : Sr.numN l = numOf l := by
 unfold Sr.numN numOf
 rw [if_neg h, if_neg h42]
theorem numN_some {l : List UInt8} {n : Nat} (h : Sr.numN l = some n) : numB l 2147483647 = ((n : Int), true) := by
 by_cases h48 : l = [48]
 ·subst h48
  have : n = 0 := by
   have e : Sr.numN [48] = some 0 := by decide
   rw [e] at h; cases h; rfl
  subst this
  have ha : Lib.atoiAll [48] = .ok 0 := by decide
  have hi : Lib.itoa 0 = [48] := by rw [Lib.itoa, if_neg (by omega)]; rw [show (0 : Int).toNat = 0 from rfl, Lib.decDigits, dif_pos (by omega)]; rfl
  unfold numB
  rw [ha]
  simp only [hi]
  decide
 ·by_cases h42 : l = [42]
  ·subst h42; exact absurd h (by rw [show Sr.numN [42] = none from by decide]; simp)
  ·rw [numN_other h48 h42] at h
   exact (num_some h42 h).1
theorem numN_none {l : List UInt8} (h : Sr.numN l = none) : (numB l 2147483647).2 = false := by
 by_cases h1 : (numB l 2147483647).2 = true
 ·exfalso
  unfold numB at h1
  cases ha : Lib.atoiAll l with
  | ok n =>
   rw [ha] at h1
   simp only at h1
   rw [Bool.and_eq_true, decide_eq_true_eq, decide_eq_true_eq] at h1
   obtain ⟨⟨h2, h3⟩, h4⟩ := h1
   by_cases h0 : n = 0
   ·subst h0
    have hi : Lib.itoa 0 = [48] := by rw [Lib.itoa, if_neg (by omega)]; rw [show (0 : Int).toNat = 0 from rfl, Lib.decDigits, dif_pos (by omega)]; rfl
    rw [hi] at h4
    subst h4
    exact absurd h (by rw [show Sr.numN [48] = some 0 from by decide]; simp)
   ·have hb := star_back h2 h3
    rw [star, if_neg h0, h4] at hb
    have h42 : l ≠ [42] := fun e => by
     subst e
     rw [show numOf [42] = some 0 from by decide] at hb
     injection hb with hb
     omega
    have h48 : l ≠ [48] := fun e => by
     subst e
     rw [show numOf [48] = none from by decide] at hb
     cases hb
    rw [numN_other h48 h42, hb] at h
    cases h
  | «syntax» => rw [ha] at h1; cases h1
  | range => rw [ha] at h1; cases h1
 ·simpa using h1
theorem number_ok (s : ByteArray) (n : Nat) (w : World) (hs : s.size ≤ 2000000) (hg : NumAt w) (h : Sr.numN s.data.toList = some n) :
  Calls Tryz.prog 70 #[.string s] w fun e w' => e = .returned (.int .i64 (n : Int)) ∧ Below w.heap.size w w' :=
 (number_as s w hs hg).mono fun e w' hh => by rw [numN_some h, if_pos rfl] at hh; exact hh
theorem number_bad (s : ByteArray) (w : World) (hs : s.size ≤ 2000000) (hg : NumAt w) (h : Sr.numN s.data.toList = none) :
  Calls Tryz.prog 70 #[.string s] w fun e w' => e = thrown 3 ∧ Below w.heap.size w w' :=
 (number_as s w hs hg).mono fun e w' hh => by rw [numN_none h, if_neg (by simp)] at hh; exact hh
end Go.Proofs.YtogigccbnohjjaaGreatDoor
namespace Go.Proofs.YtogigccbnohjjaaGreatDoor
open Go.RowKit Go.Proofs.Aid Go.Proofs.Sq Go.Proofs.Hd
set_option maxHeartbeats 4000000
set_option maxRecDepth 100000
def EnvB (w : World) (rb : Nat) : Prop := ∀ W, But w.heap.size rb w W → SysAt W ∧ ErrType W ∧ NumAt W ∧ ∃ m, W.cell? ⟨1, 0, none⟩ = some (.int .i64 m)
theorem key_keyword (rb c B d : Nat) (x : Sr.Ar) (l : List Sr.Ar) (v : Value) (Ok : Nat → Prop) (w : World) (henv : EnvB w rb) (hr : RdS w rb v c) (hl : Ags w Ok B (x :: l) v) (hB : B ≤ 2000000) (hrb : rb < w.heap.size) (hO : ∀ k, Ok k → k ≠ rb ∧ k < w.heap.size) (hd : d ≤ 6) (hc : c + 1 ≤ 60) (hx : x.kind ≠ 3) (hw : great x.text = Sr.wKeyword) :
  Calls Tryz.prog 38 #[.pointer (some ⟨rb, 0, none⟩), .int .i64 (d : Int)] w fun e w' => Out w rb B Ok ((Sr.wordF l (c + 1)).then fun s l c => Sr.flagF s l c) e w' := by
 obtain ⟨RW, hwf⟩ : ∃ RW, Sr.wordF l (c + 1) = RW := ⟨_, rfl⟩
 rw [hwf]
 have HWF : Hid (Sr.wordF l (c + 1) = RW) := hwf
 have HENV : Hid (EnvB w rb) := henv
 obtain ⟨T, hT⟩ : ∃ T, (RW.then fun s l c => Sr.flagF s l c) = T := ⟨_, rfl⟩
 rw [hT]
 have HT0 : Hid ((RW.then fun s l c => Sr.flagF s l c) = T) := hT
 clear hwf henv hT
 obtain ⟨W1, W2, hW1, hW2, p1, f1, q1, q0, z2, hr2, hl2, hb2, hE2⟩ := key_begun rb c B (x :: l) v Ok w hr hl hrb hO
 have cW := word_ok rb (c + 1) B x l v Ok W2 hr2 hl2 (fun k hk => (hO k hk).1) hx
 obtain ⟨b, o, C, _, lv, rfl, hC, hC2, hOb, _, _, _, c1, _, _, _⟩ := hl2.head
 have hkb : (x.kind == 3) = false := by simpa using hx
 obtain ⟨K, hK⟩ : ∃ K, x.kind = K := ⟨_, rfl⟩
 rw [hK] at c1 hkb
 obtain ⟨L, hL⟩ : ∃ L, l.length = L := ⟨_, rfl⟩
 rw [hL] at q0 hC
 have HB : Hid (But w.heap.size rb w W2) := hb2
 have HE : Hid (W2.heap[w.heap.size]? = some (.cells #[.int .i64 0, .string ⟨#[]⟩, .string ⟨#[]⟩, .int .i64 0, .slice none 0 0, .slice none 0 0] 32 (0, 0))) := hE2
 have HO : Hid (∀ k, Ok k → k ≠ rb ∧ k < w.heap.size) := hO
 have HZ : Hid (W2.heap.size = w.heap.size + 1) := z2
 have HWD : Hid (great x.text = Sr.wKeyword) := hw
 have d1 : decide ((6 : Int) < (d : Int)) = false := decide_eq_false (by omega)
 have d2 : decide ((60 : Int) < (c : Int) + 1) = false := decide_eq_false (by omega)
 clear hr hl hO hr2 hl2 hb2 hE2 hL z2 hx hK hw
 go_enter Tryz.func38, Tryz.ntmps38
 go_wp2_with fail
 refine cW.mono ?_
 rintro e w3 ⟨tb, v3, htb, htz, rfl, hr3, hl3, hb3⟩
 have cG := great_is tb w3 (by omega)
 rw [htb, HWD.out, show (⟨(Sr.wKeyword).toArray⟩ : ByteArray) = ⟨#[75, 69, 89, 87, 79, 82, 68]⟩ from rfl] at cG
 have hz := HZ.out
 have hs3 := hb3.size
 have HX : Hid (∀ W, Below w3.heap.size w3 W → RdS W rb v3 (c + 1) ∧ Ags W Ok B l v3 ∧ But w.heap.size rb w W ∧ W.heap[w.heap.size]? = some (.cells #[.int .i64 0, .string ⟨#[]⟩, .string ⟨#[]⟩, .int .i64 0, .slice none 0 0, .slice none 0 0] 32 (0, 0)) ∧ w.heap.size + 1 ≤ W.heap.size) := fun W hW =>
  ⟨hr3.kept (hW.block rb (by omega)), hl3.kept fun k hk hlt => ⟨hk, hW.block k hlt⟩, (HB.out.trans (hb3.less (by omega))).trans (to_but (hW.mono (by omega))), (hW.block w.heap.size (by omega)).trans ((hb3.block w.heap.size (by omega) (by omega)).trans HE.out), by have := hW.size; omega⟩
 clear cW hr3 hl3 hb3 htb
 go_wp2_with fail
 refine cG.mono ?_
 rintro e w4 ⟨rfl, hb4⟩
 obtain ⟨hr4, hl4, hbt, e4, hs4⟩ := HX.out w4 hb4
 clear cG HX
 have hwf := HWF.out
 clear HWF
 cases RW with
 | bad n =>
  obtain rfl : n = 3 := by
   cases l with
   | nil => cases hwf; rfl
   | cons a r =>
    rw [Sr.wordF] at hwf
    split at hwf
    ·cases hwf; rfl
    ·cases hwf
  have cV := word_bad rb (c + 1) B l _ Ok w4 hr4 hl4 hwf
  unfold thrown at cV
  have HBT : Hid (But w.heap.size rb w w4) := hbt
  have hT := HT0.out
  clear hb4 hr4 hl4 hbt e4 hwf HT0
  subst hT
  go_wp2_with fail
  refine cV.mono ?_
  rintro e w5 ⟨rfl, hw5⟩
  obtain rfl : w4 = w5 := hw5.symm
  go_wp2_with fail
  exact ⟨rfl, rfl, HBT.out⟩
 | ok t l5 c5 =>
  cases l with
  | nil => cases hwf
  | cons y r =>
   rw [Sr.wordF] at hwf
   split at hwf
   ·cases hwf
   ·rename_i hy
    cases hwf
    have cV := word_ok rb (c + 1) B y _ _ Ok w4 hr4 hl4 (fun k hk => (HO.out k hk).1) hy
    have HBT : Hid (But w.heap.size rb w w4) := hbt
    have HE4 : Hid (w4.heap[w.heap.size]? = some (.cells #[.int .i64 0, .string ⟨#[]⟩, .string ⟨#[]⟩, .int .i64 0, .slice none 0 0, .slice none 0 0] 32 (0, 0))) := e4
    clear hb4 hr4 hl4 hbt e4 hy
    go_wp2_with fail
    refine cV.mono ?_
    rintro e w5 ⟨tb5, v5, htb5, htz5, rfl, hr5, hl5, hb5⟩
    have hb05 := HBT.out.trans (hb5.less (base' := w.heap.size) (by omega))
    have henv := HENV.out w5 hb05
    have cF := flag_is tb5 w5 (by omega) henv.1 henv.2.1
    rw [htb5] at cF
    have e5 := (hb5.block w.heap.size (by omega) (by omega)).trans HE4.out
    have hs5 := hb5.size
    have HX5 : Hid (RdS w5 rb v5 (c + 1) ∧ Ags w5 Ok B l5 v5 ∧ But w.heap.size rb w w5 ∧ w5.heap[w.heap.size]? = some (.cells #[.int .i64 0, .string ⟨#[]⟩, .string ⟨#[]⟩, .int .i64 0, .slice none 0 0, .slice none 0 0] 32 (0, 0))) := ⟨hr5, hl5, hb05, e5⟩
    have HT : Hid (Sr.flagF y.text l5 (c + 1) = T) := HT0.out
    clear cV hr5 hl5 hb5 hb05 henv e5 htb5 HT0
    go_wp2_with fail
    refine cF.mono ?_
    rintro e w6 ⟨h6, hb6⟩
    clear cF
    rcases h6 with ⟨h0, ys, rfl, hk6⟩ | ⟨h0, rfl⟩
    ·have hT := HT.out
     rw [Sr.flagF, if_pos h0] at hT
     subst hT
     obtain ⟨x0, x3, x1, x2, xa, xk, xc, ya, yk, yc, rfl⟩ := kx_cells hk6
     have hta : ([.int .i64 x0, .string x1, .string x2, .int .i64 x3, .slice xa xk xc, .slice ya yk yc] : List Value).toArray = #[.int .i64 x0, .string x1, .string x2, .int .i64 x3, .slice xa xk xc, .slice ya yk yc] := rfl
     rw [hta]
     obtain ⟨hr5, hl5, hb05, e5⟩ := HX5.out
     have e6 := (hb6.block w.heap.size (by omega)).trans e5
     obtain ⟨⟨s0, s1, s2, s3, s4, s5⟩, ⟨sf0, sf1, sf2, sf3, sf4, sf5⟩, u0, u1, u2, u3, u4, u5⟩ := six_facts e6 (.int .i64 x0) (.string x1) (.string x2) (.int .i64 x3) (.slice xa xk xc) (.slice ya yk yc)
     have HD : Hid (Out w rb B Ok (.ok (Sr.flagK (Fl.fname y.text).1) l5 (c + 1)) (.returned (.agg #[.int .i64 x0, .string x1, .string x2, .int .i64 x3, .slice xa xk xc, .slice ya yk yc])) _) := key_done hrb HO.out (hk6.kept fun _ hq _ => hq.elim) (hr5.kept (hb6.block rb (by omega))) (hl5.kept fun k hk hlt => ⟨hk, hb6.block k hlt⟩) (hb05.trans (to_but (hb6.mono (by omega))))
     clear HT HX5 hr5 hl5 hb05 e5 e6 hb6 hk6 hta h0
     go_wp2_with fail
     exact bodyPost_ret (v := .agg #[.int .i64 x0, .string x1, .string x2, .int .i64 x3, .slice xa xk xc, .slice ya yk yc]) (by simp [results, Tryz.results38, go_sem, u0, u1, u2, u3, u4, u5]) rfl HD.out
    ·have hT := HT.out
     rw [Sr.flagF, if_neg h0] at hT
     subst hT
     have HB6 : Hid (But w.heap.size rb w w6) := HX5.out.2.2.1.trans (to_but (hb6.mono (by omega)))
     clear HT HX5 hb6 h0
     unfold thrown
     go_wp2_with fail
     exact ⟨rfl, rfl, HB6.out⟩
end Go.Proofs.YtogigccbnohjjaaGreatDoor
