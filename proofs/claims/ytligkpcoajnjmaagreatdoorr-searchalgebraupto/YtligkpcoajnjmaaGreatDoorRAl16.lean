/-
  A number, as strconv reads and writes it; of the world what strconv reads.
  What number of package search does: a number from 0 to the greatest, as it is written.
  What key of package search does at KEYWORD; what is read of the world besides.
-/
import Derived.Test.YtligkpcoajnjmaaGreatDoorRAl02
import Derived.Test.YtligkpcoajnjmaaGreatDoorRAl15
import Derived.Lib.AppendIntMem
import Derived.Test.YtligkpcoajnjmaaGreatDoorRAl06
namespace Go.Proofs.YtligkpcoajnjmaaGreatDoorR
open Go.RowKit Go.Proofs.Aid Go.Proofs.Sq Go.Sort

/-- What Num answers. -/
def numB (l : List UInt8) (most : Int) : Int × Bool :=
  match Lib.atoiAll l with
  | .ok n => (n, decide (0 ≤ n ∧ n ≤ most) && decide (Lib.itoa n = l))
  | .syntax => (0, false)
  | .range => (Lib.atoiSat l, false)
/-- What Num reads of the world: the errors of strconv, the table of powers. -/
def NumAt (w : World) : Prop := ∀ W, Below w.heap.size w W → (∃ te pe, W.cell? ⟨7, 0, none⟩ = some (.iface te pe)) ∧ (∃ te pe, W.cell? ⟨8, 0, none⟩ = some (.iface te pe)) ∧ Lib.TabIs Tryz.prog W "internal/strconv.uint64pow10" .u64 Lib.pow10Tab
theorem NumAt.below {w W : World} (h : NumAt w) (hb : Below w.heap.size w W) : NumAt W := fun W' hb' => h W' (hb.trans (hb'.mono hb.size))
theorem num_bytes (w : World) (s : ByteArray) : Below w.heap.size w (Lib.bytesWorld w 5 s) := ⟨rfl, rfl, rfl, by rw [Lib.bytesWorld_size]; omega, fun j hj => Lib.bytesWorld_at_old w 5 s j hj⟩
theorem num_grow {B : Nat} {w0 w : World} (h : Below B w0 w) (hB : B ≤ w.heap.size) (os : Array Obj) : Below B w0 (grow w os) :=
  h.trans (Lib.below_grow B w hB 0 os)
theorem num_ba {a b : ByteArray} (h : a.data.toList = b.data.toList) : a = b := by
  obtain ⟨⟨x⟩⟩ := a
  obtain ⟨⟨y⟩⟩ := b
  have : x = y := h
  rw [this]
theorem atoi_bounds {l : List UInt8} {n : Int} (h : Lib.atoiAll l = .ok n) : -9223372036854775808 ≤ n ∧ n ≤ 9223372036854775807 := by
  unfold Lib.atoiAll at h
  split at h
  · cases h
  · simp only at h
    split at h
    · cases h
    · cases h
    · split at h
      · cases h
      · split at h
        · cases h
        · next u _ h1 h2 =>
          cases h
          split <;> (rename_i h3; simp only [h3, not_true, not_false_eq_true, true_and, false_and] at h1 h2; omega)
theorem digit_some {c : UInt8} {d : Nat} (h : digit? c = some d) : 48 ≤ c.toNat ∧ c.toNat ≤ 57 ∧ d = c.toNat - 48 := by
  unfold digit? at h
  split at h
  · next h1 => cases h; exact ⟨h1.1, h1.2, rfl⟩
  · cases h
theorem digits_cons {acc : Nat} {c : UInt8} {r : List UInt8} {n : Nat} (h : digitsFrom acc (c :: r) = some n) : ∃ d, digit? c = some d ∧ acc * 10 + d ≤ 2147483647 ∧ digitsFrom (acc * 10 + d) r = some n := by
  rw [digitsFrom] at h
  cases hd : digit? c with
  | none => rw [hd] at h; cases h
  | some d =>
    rw [hd] at h
    simp only [Option.bind_some] at h
    split at h
    · next h1 => exact ⟨d, rfl, h1, h⟩
    · cases h
theorem digits_parse : ∀ (l : List UInt8) (acc n : Nat), acc ≤ 2147483647 → digitsFrom acc l = some n → Lib.parseUint10 acc l = .ok n ∧ acc ≤ n ∧ n ≤ 2147483647
  | [], acc, n, ha, h => by
    have : acc = n := by simpa [digitsFrom] using h
    subst this
    exact ⟨rfl, Nat.le_refl _, ha⟩
  | c :: r, acc, n, ha, h => by
    obtain ⟨d, hd, h1, h2⟩ := digits_cons h
    obtain ⟨e1, e2, rfl⟩ := digit_some hd
    obtain ⟨i1, i2, i3⟩ := digits_parse r _ n h1 h2
    refine ⟨?_, by omega, i3⟩
    rw [Lib.parseUint10, if_pos ⟨e1, e2⟩, if_neg (by omega), if_neg (by omega)]
    exact i1
theorem digits_written : ∀ (l : List UInt8) (acc n : Nat), 0 < acc → digitsFrom acc l = some n → Lib.decDigits n = Lib.decDigits acc ++ l
  | [], acc, n, _, h => by
    have : acc = n := by simpa [digitsFrom] using h
    subst this
    simp
  | c :: r, acc, n, ha, h => by
    obtain ⟨d, hd, h1, h2⟩ := digits_cons h
    obtain ⟨e1, e2, rfl⟩ := digit_some hd
    rw [digits_written r _ n (by omega) h2, Lib.decDigits, dif_neg (by omega)]
    have q1 : (acc * 10 + (c.toNat - 48)) / 10 = acc := by omega
    have q2 : 48 + (acc * 10 + (c.toNat - 48)) % 10 = c.toNat := by omega
    rw [q1, q2, UInt8.ofNat_toNat, List.append_assoc]
    rfl
theorem num_some {l : List UInt8} {n : Nat} (h42 : l ≠ [42]) (h : numOf l = some n) : numB l 2147483647 = ((n : Int), true) ∧ 0 < n := by
  unfold numOf at h
  rw [if_neg h42] at h
  split at h
  · cases h
  · next h1 =>
    cases l with
    | nil => simp at h1
    | cons c r =>
      have hc : c ≠ 48 := fun e => h1 (Or.inr (by rw [e]; rfl))
      obtain ⟨p1, p2, p3⟩ := digits_parse _ 0 n (by omega) h
      obtain ⟨d, hd, q1, q2⟩ := digits_cons h
      obtain ⟨e1, e2, rfl⟩ := digit_some hd
      have hc2 : c.toNat ≠ 48 := fun e => hc (UInt8.toNat_inj.1 (by rw [e]; rfl))
      rw [Nat.zero_mul, Nat.zero_add] at q2
      have hw := digits_written r (c.toNat - 48) n (by omega) q2
      rw [Lib.decDigits.eq_def (c.toNat - 48), dif_pos (by omega), show 48 + (c.toNat - 48) = c.toNat by omega, UInt8.ofNat_toNat] at hw
      have hpos : 0 < n := by have := (digits_parse r _ n (by omega) q2).2.1; omega
      have ha : Lib.atoiAll (c :: r) = .ok (n : Int) := by
        have hm : Lib.parseMag (c :: r) = .ok n := by unfold Lib.parseMag; rw [if_neg (by simp)]; exact p1
        unfold Lib.atoiAll
        simp only
        rw [if_neg (by omega), hm]
        simp only
        rw [if_neg (by omega), if_neg (by omega), if_neg (by omega)]
      refine ⟨?_, hpos⟩
      unfold numB
      rw [ha]
      simp only
      have hi : Lib.itoa (n : Int) = c :: r := by
        rw [Lib.itoa, if_neg (by omega), Int.toNat_natCast, hw]; rfl
      rw [decide_eq_true (by omega), decide_eq_true hi]
      rfl
end Go.Proofs.YtligkpcoajnjmaaGreatDoorR
namespace Go.Proofs.YtligkpcoajnjmaaGreatDoorR
open Go.RowKit Go.Proofs.Aid Go.Proofs.Sq Go.Sort

set_option maxHeartbeats 2000000 in
theorem number_as (s : ByteArray) (w : World) (hs : s.size ≤ 2000000) (hg : NumAt w) :
    Calls Tryz.prog 156 #[.string s] w fun e w' => (if (numB s.data.toList 2147483647).2 = true then e = .returned (.int .i64 (numB s.data.toList 2147483647).1) else e = thrown 3) ∧ Below w.heap.size w w' := by
  obtain ⟨R, hR⟩ : ∃ R, numB s.data.toList 2147483647 = R := ⟨_, rfl⟩
  rw [hR]
  unfold numB at hR
  obtain ⟨Q, hQ⟩ : ∃ Q : Ending → Prop, (fun e => if R.2 = true then e = .returned (.int .i64 R.1) else e = thrown 3) = Q := ⟨_, rfl⟩
  have HQ : Hid (∀ e, Q e = (if R.2 = true then e = .returned (.int .i64 R.1) else e = thrown 3)) := fun e => by rw [← hQ]
  suffices H : Calls Tryz.prog 156 #[.string s] w fun e w' => Q e ∧ Below w.heap.size w w' from H.mono fun e w' h => by rw [← HQ.out e]; exact h
  clear hQ
  cases h : Lib.atoiAll s.data.toList with
  | ok n =>
    rw [h] at hR
    simp only at hR
    have hn := atoi_bounds h
    have cA := Tryz.strconv_Atoi_ok s (by omega) n h w
    have HR : Hid ((n, decide (0 ≤ n ∧ n ≤ 2147483647) && decide (Lib.itoa n = s.data.toList)) = R) := hR
    clear hR h
    go_enter Tryz.func156, Tryz.ntmps156
    go_wp2_with fail
    refine cA.mono ?_
    rintro e w1 ⟨rfl, hw1⟩
    have hb1 : Below w.heap.size w w1 := by
      rcases hw1 with rfl | ⟨t, rfl⟩
      · exact Below.refl _ _
      · exact num_bytes w t
    have HB : Hid (Below w.heap.size w w1) := hb1
    clear hw1 cA hb1
    by_cases h1 : n < 0
    · have d1 : decide (n < 0) = true := decide_eq_true h1
      have e2 : R.2 = false := by rw [← HR.out]; simp only [Bool.and_eq_false_iff, decide_eq_false_iff_not]; left; omega
      have HE : Hid (R.2 = false) := e2
      clear e2
      go_wp2_with fail
      refine ⟨rfl, ?_, HB.out⟩
      show Q _
      rw [HQ.out, HE.out]
      rfl
    · have d1 : decide (n < 0) = false := decide_eq_false h1
      by_cases h2 : 2147483647 < n
      · have d2 : decide (2147483647 < n) = true := decide_eq_true h2
        have e2 : R.2 = false := by rw [← HR.out]; simp only [Bool.and_eq_false_iff, decide_eq_false_iff_not]; left; omega
        have HE : Hid (R.2 = false) := e2
        clear e2
        go_wp2_with fail
        refine ⟨rfl, ?_, HB.out⟩
        show Q _
        rw [HQ.out, HE.out]
        rfl
      · have d2 : decide (2147483647 < n) = false := decide_eq_false h2
        have cI := Tryz.strconv_Itoa n hn.1 hn.2 w1 (hg w1 HB.out).2.2
        obtain ⟨u, hu⟩ : ∃ u : ByteArray, ⟨(Lib.itoa n).toArray⟩ = u := ⟨_, rfl⟩
        rw [hu] at cI
        have hul : u.data.toList = Lib.itoa n := by rw [← hu]
        have HU : Hid (u.data.toList = Lib.itoa n) := hul
        clear hu hul
        go_wp2_with fail
        refine cI.mono ?_
        rintro e w3 ⟨rfl, q, os, rfl⟩
        have HB3 : Hid (Below w.heap.size w (grow (w1.drewN q) os)) := num_grow (below_drewN HB.out q) HB.out.size os
        generalize grow (w1.drewN q) os = W3 at HB3 ⊢
        clear cI
        by_cases hq : u = s
        · subst hq
          have HE : Hid (R = (n, true)) := by
            show R = (n, true)
            rw [← HR.out, decide_eq_true (show 0 ≤ n ∧ n ≤ 2147483647 by omega), HU.out, decide_eq_true rfl]; rfl
          go_wp2_with fail
          go_ret
          refine ⟨?_, HB3.out⟩
          show Q _
          rw [HQ.out, HE.out]
          rfl
        · have hne : (u.toList == s.toList) = false := by
            rw [Lib.toList_data, Lib.toList_data, beq_eq_false_iff_ne]
            exact fun h => hq (num_ba h)
          have HE : Hid (R.2 = false) := by
            show R.2 = false
            rw [← HR.out, ← HU.out, decide_eq_false (show ¬ u.data.toList = s.data.toList from fun h => hq (num_ba h))]
            exact Bool.and_false _
          clear hq
          go_wp2_with fail
          refine ⟨rfl, ?_, HB3.out⟩
          show Q _
          rw [HQ.out, HE.out]
          rfl
  | «syntax» =>
    rw [h] at hR
    simp only at hR
    subst hR
    obtain ⟨te, pe, hc⟩ := (hg w (Below.refl _ _)).1
    have cA := Tryz.strconv_Atoi_syntax s (by omega) h _ w hc (Or.inr ⟨te, pe, rfl⟩)
    go_enter Tryz.func156, Tryz.ntmps156
    go_wp2_with fail
    refine cA.mono ?_
    rintro e w1 ⟨N, rfl, hN, hN2, hb1⟩
    have HB : Hid (Below w.heap.size w w1) := hb1
    clear cA hN2 hb1
    go_wp2_with fail
    refine ⟨rfl, ?_, HB.out⟩
    show Q _
    rw [HQ.out]
    rfl
  | range =>
    rw [h] at hR
    simp only at hR
    subst hR
    obtain ⟨te, pe, hc⟩ := (hg w (Below.refl _ _)).2.1
    have cA := Tryz.strconv_Atoi_range s (by omega) h _ w hc (Or.inr ⟨te, pe, rfl⟩)
    obtain ⟨z, hz⟩ : ∃ z, Lib.atoiSat s.data.toList = z := ⟨_, rfl⟩
    rw [hz] at cA HQ
    go_enter Tryz.func156, Tryz.ntmps156
    go_wp2_with fail
    refine cA.mono ?_
    rintro e w1 ⟨N, rfl, hN, hN2, hb1⟩
    have HB : Hid (Below w.heap.size w w1) := hb1
    clear cA hN2 hb1
    go_wp2_with fail
    refine ⟨rfl, ?_, HB.out⟩
    show Q _
    rw [HQ.out]
    rfl
theorem numN_other {l : List UInt8} (h : l ≠ [48]) (h42 : l ≠ [42]) : Sr.numN l = numOf l := by
  unfold Sr.numN numOf
  rw [if_neg h, if_neg h42]
theorem numN_some {l : List UInt8} {n : Nat} (h : Sr.numN l = some n) : numB l 2147483647 = ((n : Int), true) := by
  by_cases h48 : l = [48]
  · subst h48
    have : n = 0 := by
      have e : Sr.numN [48] = some 0 := by decide
      rw [e] at h; cases h; rfl
    subst this
    have ha : Lib.atoiAll [48] = .ok 0 := by decide
    have hi : Lib.itoa 0 = [48] := by rw [Lib.itoa, if_neg (by omega)]; rw [show (0 : Int).toNat = 0 from rfl, Lib.decDigits, dif_pos (by omega)]; rfl
    unfold numB
    rw [ha]
    simp only [hi]
    decide
  · by_cases h42 : l = [42]
    · subst h42; exact absurd h (by rw [show Sr.numN [42] = none from by decide]; simp)
    · rw [numN_other h48 h42] at h
      exact (num_some h42 h).1
theorem numN_none {l : List UInt8} (h : Sr.numN l = none) : (numB l 2147483647).2 = false := by
  by_cases h1 : (numB l 2147483647).2 = true
  · exfalso
    unfold numB at h1
    cases ha : Lib.atoiAll l with
    | ok n =>
      rw [ha] at h1
      simp only at h1
      rw [Bool.and_eq_true, decide_eq_true_eq, decide_eq_true_eq] at h1
      obtain ⟨⟨h2, h3⟩, h4⟩ := h1
      by_cases h0 : n = 0
      · subst h0
        have hi : Lib.itoa 0 = [48] := by rw [Lib.itoa, if_neg (by omega)]; rw [show (0 : Int).toNat = 0 from rfl, Lib.decDigits, dif_pos (by omega)]; rfl
        rw [hi] at h4
        subst h4
        exact absurd h (by rw [show Sr.numN [48] = some 0 from by decide]; simp)
      · have hb := star_back h2 h3
        rw [star, if_neg h0, h4] at hb
        have h42 : l ≠ [42] := fun e => by
          subst e
          rw [show numOf [42] = some 0 from by decide] at hb
          injection hb with hb
          omega
        have h48 : l ≠ [48] := fun e => by
          subst e
          rw [show numOf [48] = none from by decide] at hb
          cases hb
        rw [numN_other h48 h42, hb] at h
        cases h
    | «syntax» => rw [ha] at h1; cases h1
    | range => rw [ha] at h1; cases h1
  · simpa using h1
theorem number_ok (s : ByteArray) (n : Nat) (w : World) (hs : s.size ≤ 2000000) (hg : NumAt w) (h : Sr.numN s.data.toList = some n) :
    Calls Tryz.prog 156 #[.string s] w fun e w' => e = .returned (.int .i64 (n : Int)) ∧ Below w.heap.size w w' :=
  (number_as s w hs hg).mono fun e w' hh => by rw [numN_some h, if_pos rfl] at hh; exact hh
theorem number_bad (s : ByteArray) (w : World) (hs : s.size ≤ 2000000) (hg : NumAt w) (h : Sr.numN s.data.toList = none) :
    Calls Tryz.prog 156 #[.string s] w fun e w' => e = thrown 3 ∧ Below w.heap.size w w' :=
  (number_as s w hs hg).mono fun e w' hh => by rw [numN_none h, if_neg (by simp)] at hh; exact hh
end Go.Proofs.YtligkpcoajnjmaaGreatDoorR
namespace Go.Proofs.YtligkpcoajnjmaaGreatDoorR
open Go.RowKit Go.Proofs.Aid Go.Proofs.Sq Go.Proofs.Hd

/-- What a reader's functions read of the world besides: it stays, whatever the reader in block rb does. -/
def EnvB (w : World) (rb : Nat) : Prop := ∀ W, But w.heap.size rb w W → SysAt W ∧ ErrType W ∧ NumAt W ∧ ∃ m, W.cell? ⟨1, 0, none⟩ = some (.int .i64 m)
set_option maxHeartbeats 4000000 in
set_option maxRecDepth 100000 in
theorem key_keyword (rb c B d : Nat) (x : Sr.Ar) (l : List Sr.Ar) (v : Value) (Ok : Nat → Prop) (w : World) (henv : EnvB w rb) (hr : RdS w rb v c) (hl : Ags w Ok B (x :: l) v) (hB : B ≤ 2000000) (hrb : rb < w.heap.size) (hO : ∀ k, Ok k → k ≠ rb ∧ k < w.heap.size) (hd : d ≤ 6) (hc : c + 1 ≤ 60) (hx : x.kind ≠ 3) (hw : great x.text = Sr.wKeyword) :
    Calls Tryz.prog 101 #[.pointer (some ⟨rb, 0, none⟩), .int .i64 (d : Int)] w fun e w' => Out w rb B Ok ((Sr.wordF l (c + 1)).then fun s l c => Sr.flagF s l c) e w' := by
  obtain ⟨RW, hwf⟩ : ∃ RW, Sr.wordF l (c + 1) = RW := ⟨_, rfl⟩
  rw [hwf]
  have HWF : Hid (Sr.wordF l (c + 1) = RW) := hwf
  have HENV : Hid (EnvB w rb) := henv
  obtain ⟨T, hT⟩ : ∃ T, (RW.then fun s l c => Sr.flagF s l c) = T := ⟨_, rfl⟩
  rw [hT]
  have HT0 : Hid ((RW.then fun s l c => Sr.flagF s l c) = T) := hT
  clear hwf henv hT
  obtain ⟨W1, W2, hW1, hW2, p1, f1, q1, q0, z2, hr2, hl2, hb2, hE2⟩ := key_begun rb c B (x :: l) v Ok w hr hl hrb hO
  have cW := word_ok rb (c + 1) B x l v Ok W2 hr2 hl2 (fun k hk => (hO k hk).1) hx
  obtain ⟨b, o, C, _, lv, rfl, hC, hC2, hOb, _, _, _, c1, _, _, _⟩ := hl2.head
  have hkb : (x.kind == 3) = false := by simpa using hx
  obtain ⟨K, hK⟩ : ∃ K, x.kind = K := ⟨_, rfl⟩
  rw [hK] at c1 hkb
  obtain ⟨L, hL⟩ : ∃ L, l.length = L := ⟨_, rfl⟩
  rw [hL] at q0 hC
  have HB : Hid (But w.heap.size rb w W2) := hb2
  have HE : Hid (W2.heap[w.heap.size]? = some (.cells #[.int .i64 0, .string ⟨#[]⟩, .string ⟨#[]⟩, .int .i64 0, .slice none 0 0, .slice none 0 0] 33 (0, 0))) := hE2
  have HO : Hid (∀ k, Ok k → k ≠ rb ∧ k < w.heap.size) := hO
  have HZ : Hid (W2.heap.size = w.heap.size + 1) := z2
  have HWD : Hid (great x.text = Sr.wKeyword) := hw
  have d1 : decide ((6 : Int) < (d : Int)) = false := decide_eq_false (by omega)
  have d2 : decide ((60 : Int) < (c : Int) + 1) = false := decide_eq_false (by omega)
  clear hr hl hO hr2 hl2 hb2 hE2 hL z2 hx hK hw
  go_enter Tryz.func101, Tryz.ntmps101
  go_wp2_with fail
  refine cW.mono ?_
  rintro e w3 ⟨tb, v3, htb, htz, rfl, hr3, hl3, hb3⟩
  have cG := great_is tb w3 (by omega)
  rw [htb, HWD.out, show (⟨(Sr.wKeyword).toArray⟩ : ByteArray) = ⟨#[75, 69, 89, 87, 79, 82, 68]⟩ from rfl] at cG
  have hz := HZ.out
  have hs3 := hb3.size
  have HX : Hid (∀ W, Below w3.heap.size w3 W → RdS W rb v3 (c + 1) ∧ Ags W Ok B l v3 ∧ But w.heap.size rb w W ∧ W.heap[w.heap.size]? = some (.cells #[.int .i64 0, .string ⟨#[]⟩, .string ⟨#[]⟩, .int .i64 0, .slice none 0 0, .slice none 0 0] 33 (0, 0)) ∧ w.heap.size + 1 ≤ W.heap.size) := fun W hW =>
    ⟨hr3.kept (hW.block rb (by omega)), hl3.kept fun k hk hlt => ⟨hk, hW.block k hlt⟩, (HB.out.trans (hb3.less (by omega))).trans (to_but (hW.mono (by omega))), (hW.block w.heap.size (by omega)).trans ((hb3.block w.heap.size (by omega) (by omega)).trans HE.out), by have := hW.size; omega⟩
  clear cW hr3 hl3 hb3 htb
  go_wp2_with fail
  refine cG.mono ?_
  rintro e w4 ⟨rfl, hb4⟩
  obtain ⟨hr4, hl4, hbt, e4, hs4⟩ := HX.out w4 hb4
  clear cG HX
  have hwf := HWF.out
  clear HWF
  cases RW with
  | bad n =>
    obtain rfl : n = 3 := by
      cases l with
      | nil => cases hwf; rfl
      | cons a r =>
        rw [Sr.wordF] at hwf
        split at hwf
        · cases hwf; rfl
        · cases hwf
    have cV := word_bad rb (c + 1) B l _ Ok w4 hr4 hl4 hwf
    unfold thrown at cV
    have HBT : Hid (But w.heap.size rb w w4) := hbt
    have hT := HT0.out
    clear hb4 hr4 hl4 hbt e4 hwf HT0
    subst hT
    go_wp2_with fail
    refine cV.mono ?_
    rintro e w5 ⟨rfl, hw5⟩
    obtain rfl : w4 = w5 := hw5.symm
    go_wp2_with fail
    exact ⟨rfl, rfl, HBT.out⟩
  | ok t l5 c5 =>
    cases l with
    | nil => cases hwf
    | cons y r =>
      rw [Sr.wordF] at hwf
      split at hwf
      · cases hwf
      · rename_i hy
        cases hwf
        have cV := word_ok rb (c + 1) B y _ _ Ok w4 hr4 hl4 (fun k hk => (HO.out k hk).1) hy
        have HBT : Hid (But w.heap.size rb w w4) := hbt
        have HE4 : Hid (w4.heap[w.heap.size]? = some (.cells #[.int .i64 0, .string ⟨#[]⟩, .string ⟨#[]⟩, .int .i64 0, .slice none 0 0, .slice none 0 0] 33 (0, 0))) := e4
        clear hb4 hr4 hl4 hbt e4 hy
        go_wp2_with fail
        refine cV.mono ?_
        rintro e w5 ⟨tb5, v5, htb5, htz5, rfl, hr5, hl5, hb5⟩
        have hb05 := HBT.out.trans (hb5.less (base' := w.heap.size) (by omega))
        have henv := HENV.out w5 hb05
        have cF := flag_is tb5 w5 (by omega) henv.1 henv.2.1
        rw [htb5] at cF
        have e5 := (hb5.block w.heap.size (by omega) (by omega)).trans HE4.out
        have hs5 := hb5.size
        have HX5 : Hid (RdS w5 rb v5 (c + 1) ∧ Ags w5 Ok B l5 v5 ∧ But w.heap.size rb w w5 ∧ w5.heap[w.heap.size]? = some (.cells #[.int .i64 0, .string ⟨#[]⟩, .string ⟨#[]⟩, .int .i64 0, .slice none 0 0, .slice none 0 0] 33 (0, 0))) := ⟨hr5, hl5, hb05, e5⟩
        have HT : Hid (Sr.flagF y.text l5 (c + 1) = T) := HT0.out
        clear cV hr5 hl5 hb5 hb05 henv e5 htb5 HT0
        go_wp2_with fail
        refine cF.mono ?_
        rintro e w6 ⟨h6, hb6⟩
        clear cF
        rcases h6 with ⟨h0, ys, rfl, hk6⟩ | ⟨h0, rfl⟩
        · have hT := HT.out
          rw [Sr.flagF, if_pos h0] at hT
          subst hT
          obtain ⟨x0, x3, x1, x2, xa, xk, xc, ya, yk, yc, rfl⟩ := kx_cells hk6
          have hta : ([.int .i64 x0, .string x1, .string x2, .int .i64 x3, .slice xa xk xc, .slice ya yk yc] : List Value).toArray = #[.int .i64 x0, .string x1, .string x2, .int .i64 x3, .slice xa xk xc, .slice ya yk yc] := rfl
          rw [hta]
          obtain ⟨hr5, hl5, hb05, e5⟩ := HX5.out
          have e6 := (hb6.block w.heap.size (by omega)).trans e5
          obtain ⟨⟨s0, s1, s2, s3, s4, s5⟩, ⟨sf0, sf1, sf2, sf3, sf4, sf5⟩, u0, u1, u2, u3, u4, u5⟩ := six_facts e6 (.int .i64 x0) (.string x1) (.string x2) (.int .i64 x3) (.slice xa xk xc) (.slice ya yk yc)
          have HD : Hid (Out w rb B Ok (.ok (Sr.flagK (Fl.fname y.text).1) l5 (c + 1)) (.returned (.agg #[.int .i64 x0, .string x1, .string x2, .int .i64 x3, .slice xa xk xc, .slice ya yk yc])) _) := key_done hrb HO.out (hk6.kept fun _ hq _ => hq.elim) (hr5.kept (hb6.block rb (by omega))) (hl5.kept fun k hk hlt => ⟨hk, hb6.block k hlt⟩) (hb05.trans (to_but (hb6.mono (by omega))))
          clear HT HX5 hr5 hl5 hb05 e5 e6 hb6 hk6 hta h0
          go_wp2_with fail
          exact bodyPost_ret (v := .agg #[.int .i64 x0, .string x1, .string x2, .int .i64 x3, .slice xa xk xc, .slice ya yk yc]) (by simp [results, Tryz.results101, go_sem, u0, u1, u2, u3, u4, u5]) rfl HD.out
        · have hT := HT.out
          rw [Sr.flagF, if_neg h0] at hT
          subst hT
          have HB6 : Hid (But w.heap.size rb w w6) := HX5.out.2.2.1.trans (to_but (hb6.mono (by omega)))
          clear HT HX5 hb6 h0
          unfold thrown
          go_wp2_with fail
          exact ⟨rfl, rfl, HB6.out⟩
end Go.Proofs.YtligkpcoajnjmaaGreatDoorR
