/-
  The walk of WireQuote.
-/
import Derived.Test.YtlemekbglflfkaaDoorWireQuoteIs
import Derived.Test.YtlemekbglflfkaaDoorWireQText
import Derived.Test.YtlemekbglflfkaaDoorWireFact
namespace Go.Proofs.YtlemekbglflfkaaDoor
open Go.RowKit Go.Proofs.Aid Go.Proofs.Hd

theorem quo_big (s t : ByteArray) (w : World) (hs : 500 < s.size ∨ 500 < t.size) :
    Calls Tryd.prog 5 #[.string s, .string t] w fun e w' => e = .returned (.bool true) ∧ Below w.heap.size w w' := by
  by_cases h1 : 500 < s.size
  · have d : decide ((500 : Int) < (s.size : Int)) = true := decide_eq_true (by omega)
    go_enter Tryd.func5, Tryd.ntmps5
    go_wp2_with fail
    go_ret
    exact ⟨rfl, Below.refl _ _⟩
  · have d : decide ((500 : Int) < (s.size : Int)) = false := decide_eq_false (by omega)
    have d2 : decide ((500 : Int) < (t.size : Int)) = true := decide_eq_true (by omega)
    go_enter Tryd.func5, Tryd.ntmps5
    go_wp2_with fail
    go_ret
    exact ⟨rfl, Below.refl _ _⟩
set_option maxHeartbeats 4000000 in
set_option maxRecDepth 100000 in
theorem quo_small (s t : ByteArray) (mx : Int) (w : World) (hs : s.size ≤ 500) (ht : t.size ≤ 500) (hg : NumAt w) (hm : w.cell? ⟨0, 0, none⟩ = some (.int .i64 mx)) :
    Calls Tryd.prog 5 #[.string s, .string t] w fun e w' => e = .returned (.bool true) ∧ Below w.heap.size w w' := by
  have K0 : Hid (∀ W, Below w.heap.size w W → NumAt W ∧ W.cell? ⟨0, 0, none⟩ = some (.int .i64 mx)) := fun W h => ⟨hg.below h, (h.cell (World.block_lt_of_cell? _ _ hm)).trans hm⟩
  have d1 : decide ((500 : Int) < (s.size : Int)) = false := decide_eq_false (by omega)
  have d2 : decide ((500 : Int) < (t.size : Int)) = false := decide_eq_false (by omega)
  have cW := wired_is mx w hm hg
  have qs1 := quote_len s.data.toList (by rw [wsize]; omega)
  have qt1 := quote_len t.data.toList (by rw [wsize]; omega)
  rw [wsize] at qs1 qt1
  clear hg hm
  go_enter Tryd.func5, Tryd.ntmps5
  go_wp2_with fail
  refine cW.mono ?_
  rintro e w1 ⟨rfl, hb1⟩
  have HB1 : Hid (Below w.heap.size w w1) := hb1
  have c1 := quote_is s mx w1 (by omega) (K0.out w1 hb1).2 (K0.out w1 hb1).1
  clear cW hb1
  go_wp2_with fail
  refine c1.mono ?_
  rintro e w2 ⟨⟨A, rfl, hA⟩, hb2⟩
  have HB2 : Hid (Below w.heap.size w w2) := HB1.out.trans (hb2.mono HB1.out.size)
  have hAs : A.size ≤ 1100 := by rw [← wsize, hA]; omega
  have HA : Hid (A.data.toList = quoteW s.data.toList) := hA
  have c2 := quote_is t mx w2 (by omega) (K0.out w2 HB2.out).2 (K0.out w2 HB2.out).1
  clear c1 hb2 HB1 hA
  go_wp2_with fail
  refine c2.mono ?_
  rintro e w3 ⟨⟨B, rfl, hB⟩, hb3⟩
  have HB3 : Hid (Below w.heap.size w w3) := HB2.out.trans (hb3.mono HB2.out.size)
  have hBs : B.size ≤ 1100 := by rw [← wsize, hB]; omega
  have HB : Hid (B.data.toList = quoteW t.data.toList) := hB
  have c3 := quote_is s mx w3 (by omega) (K0.out w3 HB3.out).2 (K0.out w3 HB3.out).1
  clear c2 hb3 HB2 hB
  go_wp2_with fail
  refine c3.mono ?_
  rintro e w4 ⟨⟨A2, rfl, hA2⟩, hb4⟩
  obtain rfl : A = A2 := num_ba (by rw [HA.out, hA2])
  have HB4 : Hid (Below w.heap.size w w4) := HB3.out.trans (hb4.mono HB3.out.size)
  clear c3 hb4 HB3 hA2
  obtain ⟨P, hP⟩ : ∃ P, ({ data := #[97, 32, 98, 32] } : ByteArray) ++ A ++ { data := #[32, 40] } ++ B ++ { data := #[32] } = P := ⟨_, rfl⟩
  have hPl : P.data.toList = [97, 32, 98, 32] ++ quoteW s.data.toList ++ [32, 40] ++ quoteW t.data.toList ++ [32] := by
    rw [← hP, cat_text, cat_text, cat_text, cat_text, HA.out, HB.out]
  have hPs : P.size ≤ 3000 := by rw [← wsize, hPl]; simp only [List.length_append, List.length_cons, List.length_nil]; omega
  rw [hP]
  obtain ⟨X, hX⟩ : ∃ X, P ++ A ++ ({ data := #[41, 13, 10] } : ByteArray) = X := ⟨_, rfl⟩
  have hXl : X.data.toList = xText s.data.toList t.data.toList := by
    rw [← hX, cat_text, cat_text, hPl, HA.out]
    rfl
  have hXs : X.size ≤ 5000 := by rw [← hX, cat_sz, cat_sz]; show P.size + A.size + 3 ≤ _; omega
  have HX : Hid (X.data.toList = xText s.data.toList t.data.toList) := hXl
  clear hP hPl hXl HB HA
  by_cases hl : 3000 < X.size
  · have d3 : decide ((3000 : Int) < (X.size : Int)) = true := decide_eq_true (by omega)
    go_wp2_with fail
    go_ret
    exact ⟨rfl, HB4.out⟩
  · have d3 : decide ((3000 : Int) < (X.size : Int)) = false := decide_eq_false (by omega)
    have c5 := wparse_is X mx w4 (by omega) (K0.out w4 HB4.out).2 (K0.out w4 HB4.out).1
    rw [HX.out] at c5
    obtain ⟨k1, k2, k3, pp, cc, hpx⟩ := x_parse s.data.toList t.data.toList (by rw [wsize]; omega) (by rw [wsize]; omega)
    rw [hpx] at c5
    clear hpx
    go_wp2_with fail
    refine c5.mono ?_
    rintro e w5 ⟨tb, nb, v, rfl, htb, hnb, hag, hb5⟩
    obtain ⟨b, o, c, t1, t2, a1, a2, c1, c2, rfl, hO, p1, p2, p3, q1, q2, q3, ht1, ht2, g1, g2⟩ := agw_two hag
    obtain ⟨b', o', c', u1, u2, a3, a4, c3, c4, hv2, hO', r1, r2, r3, s1, s2, s3, hu1, hu2, _, _⟩ := agw_two g2
    obtain rfl : t1 = s := num_ba ht1
    obtain rfl : u1 = t := num_ba hu1
    obtain rfl : u2 = t1 := num_ba hu2
    injection hv2 with hv2 _ hv3
    rw [hv2] at q3
    have q3 : w5.cell? ⟨b, o + 3 + 2, none⟩ = some (.slice (some ⟨b', o', none⟩) 2 c2) := q3
    have hblt := World.block_lt_of_cell? _ _ p1
    have hblt' := World.block_lt_of_cell? _ _ r1
    have HB5 : Hid (Below w.heap.size w w5) := HB4.out.trans (hb5.mono HB4.out.size)
    have b6 : Below w5.heap.size w5 (w5.alloc (.cells #[.string tb, .string nb, .slice (some ⟨b, o, none⟩) 2 c] 36)) := (Below.refl _ _).alloc (Nat.le_refl _) _
    have HD : Hid (Below w.heap.size w (w5.alloc (.cells #[.string tb, .string nb, .slice (some ⟨b, o, none⟩) 2 c] 36))) := HB5.out.alloc HB5.out.size _
    have p2' := (b6.cell (p := ⟨b, o + 1, none⟩) hblt).trans p2
    have q3' := (b6.cell (p := ⟨b, o + 3 + 2, none⟩) hblt).trans q3
    have r2' := (b6.cell (p := ⟨b', o' + 1, none⟩) hblt').trans r2
    have s2' := (b6.cell (p := ⟨b', o' + 3 + 1, none⟩) hblt').trans s2
    obtain ⟨kk, hnx⟩ := x_next u2.data.toList u1.data.toList [99, 32, 100, 13, 10] (by rw [wsize]; omega) (by rw [wsize]; omega) (by rw [← HX.out, wsize]; omega)
    rw [← HX.out, wsize] at hnx
    have c6 := next_is (X ++ ⟨#[99, 32, 100, 13, 10]⟩) mx _ (by rw [cat_sz]; show X.size + 5 ≤ _; omega) (K0.out _ HD.out).2 (K0.out _ HD.out).1
    rw [cat_text, show (⟨#[99, 32, 100, 13, 10]⟩ : ByteArray).data.toList = [99, 32, 100, 13, 10] from rfl, hnx] at c6
    clear c5 hag hb5 p1 p2 p3 q1 q2 q3 r1 r2 r3 s1 s2 s3 b6 ht1 ht2 hu1 hu2 htb hnb g1 g2 hnx
    go_wp2_with fail
    refine c6.mono ?_
    rintro e w7 ⟨rfl, hb7⟩
    have HB7 : Hid (Below w.heap.size w w7) := HD.out.trans (hb7.mono HD.out.size)
    rw [show limV (X.size, kk, false).2.2 = .nilIface from rfl]
    have eX : ((X.size : Int) == (X.size : Int)) = true := by simp
    clear c6 hb7
    go_wp2_with fail
    go_ret
    exact ⟨rfl, HB7.out⟩
end Go.Proofs.YtlemekbglflfkaaDoor
