/-
  What key of package search does at UID.
  What key of package search does at LARGER, SMALLER, BEFORE, ON, SINCE.
-/
import Derived.Test.YtligkpcoajnjmaaGreatDoorRAl16
import Derived.Test.YtligkpcoajnjmaaGreatDoorRAl18
namespace Go.Proofs.YtligkpcoajnjmaaGreatDoorR
open Go.RowKit Go.Proofs.Aid Go.Proofs.Sq Go.Proofs.Hd

set_option maxHeartbeats 4000000 in
set_option maxRecDepth 100000 in
theorem key_uid (rb c B d : Nat) (x : Sr.Ar) (l : List Sr.Ar) (v : Value) (Ok : Nat → Prop) (w : World) (henv : EnvB w rb) (hr : RdS w rb v c) (hl : Ags w Ok B (x :: l) v) (hB : B ≤ 2000000) (hrb : rb < w.heap.size) (hO : ∀ k, Ok k → k ≠ rb ∧ k < w.heap.size) (hd : d ≤ 6) (hc : c + 1 ≤ 60) (hx : x.kind ≠ 3) (hw : great x.text = Sr.wUid) :
    Calls Tryz.prog 101 #[.pointer (some ⟨rb, 0, none⟩), .int .i64 (d : Int)] w fun e w' => Out w rb B Ok ((Sr.wordF l (c + 1)).then fun s l c => (Sr.setF s l c).map fun r => Sr.Ky.mk 11 [] [] 0 r []) e w' := by
  obtain ⟨RW, hwf⟩ : ∃ RW, Sr.wordF l (c + 1) = RW := ⟨_, rfl⟩
  rw [hwf]
  have HWF : Hid (Sr.wordF l (c + 1) = RW) := hwf
  have HENV : Hid (EnvB w rb) := henv
  obtain ⟨T, hT⟩ : ∃ T, (RW.then fun s l c => (Sr.setF s l c).map fun r => Sr.Ky.mk 11 [] [] 0 r []) = T := ⟨_, rfl⟩
  rw [hT]
  have HT0 : Hid ((RW.then fun s l c => (Sr.setF s l c).map fun r => Sr.Ky.mk 11 [] [] 0 r []) = T) := hT
  clear hwf henv hT
  obtain ⟨W1, W2, hW1, hW2, p1, f1, q1, q0, z2, hr2, hl2, hb2, hE2⟩ := key_begun rb c B (x :: l) v Ok w hr hl hrb hO
  have cW := word_ok rb (c + 1) B x l v Ok W2 hr2 hl2 (fun k hk => (hO k hk).1) hx
  obtain ⟨b, o, C, _, lv, rfl, hC, hC2, hOb, _, _, _, c1, _, _, _⟩ := hl2.head
  have hkb : (x.kind == 3) = false := by simpa using hx
  obtain ⟨K, hK⟩ : ∃ K, x.kind = K := ⟨_, rfl⟩
  rw [hK] at c1 hkb
  obtain ⟨L, hL⟩ : ∃ L, l.length = L := ⟨_, rfl⟩
  rw [hL] at q0 hC
  have HB : Hid (But w.heap.size rb w W2) := hb2
  have HE : Hid (W2.heap[w.heap.size]? = some (.cells #[.int .i64 0, .string ⟨#[]⟩, .string ⟨#[]⟩, .int .i64 0, .slice none 0 0, .slice none 0 0] 33 (0, 0))) := hE2
  have HO : Hid (∀ k, Ok k → k ≠ rb ∧ k < w.heap.size) := hO
  have HZ : Hid (W2.heap.size = w.heap.size + 1) := z2
  have HWD : Hid (great x.text = Sr.wUid) := hw
  have d1 : decide ((6 : Int) < (d : Int)) = false := decide_eq_false (by omega)
  have d2 : decide ((60 : Int) < (c : Int) + 1) = false := decide_eq_false (by omega)
  clear hr hl hO hr2 hl2 hb2 hE2 hL z2 hx hK hw
  go_enter Tryz.func101, Tryz.ntmps101
  go_wp2_with fail
  refine cW.mono ?_
  rintro e w3 ⟨tb, v3, htb, htz, rfl, hr3, hl3, hb3⟩
  have cG := great_is tb w3 (by omega)
  rw [htb, HWD.out, show (⟨(Sr.wUid).toArray⟩ : ByteArray) = ⟨#[85, 73, 68]⟩ from rfl] at cG
  have hz := HZ.out
  have hs3 := hb3.size
  have HX : Hid (∀ W, Below w3.heap.size w3 W → RdS W rb v3 (c + 1) ∧ Ags W Ok B l v3 ∧ But w.heap.size rb w W ∧ W.heap[w.heap.size]? = some (.cells #[.int .i64 0, .string ⟨#[]⟩, .string ⟨#[]⟩, .int .i64 0, .slice none 0 0, .slice none 0 0] 33 (0, 0)) ∧ w.heap.size + 1 ≤ W.heap.size) := fun W hW =>
    ⟨hr3.kept (hW.block rb (by omega)), hl3.kept fun k hk hlt => ⟨hk, hW.block k hlt⟩, (HB.out.trans (hb3.less (by omega))).trans (to_but (hW.mono (by omega))), (hW.block w.heap.size (by omega)).trans ((hb3.block w.heap.size (by omega) (by omega)).trans HE.out), by have := hW.size; omega⟩
  clear cW hr3 hl3 hb3 htb
  go_wp2_with fail
  refine cG.mono ?_
  rintro e w4 ⟨rfl, hb4⟩
  obtain ⟨hr4, hl4, hbt, e4, hs4⟩ := HX.out w4 hb4
  clear cG HX
  have hwf := HWF.out
  clear HWF
  cases RW with
  | bad n =>
    obtain rfl : n = 3 := by
      cases l with
      | nil => cases hwf; rfl
      | cons a r =>
        rw [Sr.wordF] at hwf
        split at hwf
        · cases hwf; rfl
        · cases hwf
    have cV := word_bad rb (c + 1) B l _ Ok w4 hr4 hl4 hwf
    unfold thrown at cV
    have HBT : Hid (But w.heap.size rb w w4) := hbt
    have hT := HT0.out
    clear hb4 hr4 hl4 hbt e4 hwf HT0
    subst hT
    go_wp2_with fail
    refine cV.mono ?_
    rintro e w5 ⟨rfl, hw5⟩
    obtain rfl : w4 = w5 := hw5.symm
    go_wp2_with fail
    exact ⟨rfl, rfl, HBT.out⟩
  | ok t l5 c5 =>
    cases l with
    | nil => cases hwf
    | cons y r =>
      rw [Sr.wordF] at hwf
      split at hwf
      · cases hwf
      · rename_i hy
        cases hwf
        have cV := word_ok rb (c + 1) B y _ _ Ok w4 hr4 hl4 (fun k hk => (HO.out k hk).1) hy
        have HBT : Hid (But w.heap.size rb w w4) := hbt
        have HE4 : Hid (w4.heap[w.heap.size]? = some (.cells #[.int .i64 0, .string ⟨#[]⟩, .string ⟨#[]⟩, .int .i64 0, .slice none 0 0, .slice none 0 0] 33 (0, 0))) := e4
        clear hb4 hr4 hl4 hbt e4 hy
        go_wp2_with fail
        refine cV.mono ?_
        rintro e w5 ⟨tb5, v5, htb5, htz5, rfl, hr5, hl5, hb5⟩
        have hb05 := HBT.out.trans (hb5.less (base' := w.heap.size) (by omega))
        have henv := HENV.out w5 hb05
        obtain ⟨mx, hmx⟩ := henv.2.2.2
        have cF := set_is tb5 mx w5 (by omega) hmx henv.2.1
        rw [htb5] at cF
        have e5 := (hb5.block w.heap.size (by omega) (by omega)).trans HE4.out
        have hs5 := hb5.size
        have HX5 : Hid (RdS w5 rb v5 (c + 1) ∧ Ags w5 Ok B l5 v5 ∧ But w.heap.size rb w w5 ∧ w5.heap[w.heap.size]? = some (.cells #[.int .i64 0, .string ⟨#[]⟩, .string ⟨#[]⟩, .int .i64 0, .slice none 0 0, .slice none 0 0] 33 (0, 0))) := ⟨hr5, hl5, hb05, e5⟩
        have HT : Hid (((Sr.setF y.text l5 (c + 1)).map fun r => Sr.Ky.mk 11 [] [] 0 r []) = T) := HT0.out
        clear cV hr5 hl5 hb5 hb05 henv e5 htb5 HT0
        go_wp2_with fail
        refine cF.mono ?_
        rintro e w6 ⟨h6, hb6⟩
        clear cF
        have HB6 : Hid (But w.heap.size rb w w6) := HX5.out.2.2.1.trans (to_but (hb6.mono (by omega)))
        rcases h6 with ⟨h0, rfl⟩ | ⟨h0, rfl⟩ | ⟨rs, sv, h0, rfl, hst⟩
        · have hT := HT.out
          rw [Sr.setF, h0] at hT
          subst hT
          clear HT HX5 hb6 h0
          unfold thrown
          go_wp2_with fail
          exact ⟨rfl, rfl, HB6.out⟩
        · have hT := HT.out
          rw [Sr.setF, h0] at hT
          subst hT
          clear HT HX5 hb6 h0
          unfold thrown
          go_wp2_with fail
          exact ⟨rfl, rfl, HB6.out⟩
        · have hT := HT.out
          rw [Sr.setF, h0] at hT
          subst hT
          obtain ⟨hr5, hl5, hb05, e5⟩ := HX5.out
          have e6 := (hb6.block w.heap.size (by omega)).trans e5
          have hkx : Kx w6 (fun q => w.heap.size + 1 ≤ q) (.mk 11 [] [] 0 rs []) [.int .i64 11, .string ⟨#[]⟩, .string ⟨#[]⟩, .int .i64 0, sv, .slice none 0 0] := Kx.mk 11 0 ⟨#[]⟩ ⟨#[]⟩ rs sv [] none 0 (fun _ => []) (hst.kept fun q hq _ => ⟨by omega, rfl⟩) (fun j k h => by simp at h) (Or.inl rfl)
          obtain ⟨sa, sc, rfl, _⟩ := hst
          obtain ⟨SL, hSL⟩ : ∃ n, rs.length = n := ⟨_, rfl⟩
          rw [hSL] at hkx
          rw [hSL]
          obtain ⟨⟨s0, s1, s2, s3, s4, s5⟩, ⟨sf0, sf1, sf2, sf3, sf4, sf5⟩, u0, u1, u2, u3, u4, u5⟩ := six_facts e6 (.int .i64 11) (.string ⟨#[]⟩) (.string ⟨#[]⟩) (.int .i64 0) (.slice sa SL sc) (.slice none 0 0)
          have HD : Hid (Out w rb B Ok (.ok (.mk 11 [] [] 0 rs []) l5 (c + 1)) (.returned (.agg #[.int .i64 11, .string ⟨#[]⟩, .string ⟨#[]⟩, .int .i64 0, .slice sa SL sc, .slice none 0 0])) _) := key_done hrb HO.out hkx (hr5.kept (hb6.block rb (by omega))) (hl5.kept fun k hk hlt => ⟨hk, hb6.block k hlt⟩) (hb05.trans (to_but (hb6.mono (by omega))))
          clear HT HX5 hr5 hl5 hb05 e5 e6 hb6 hkx h0 hSL
          go_wp2_with fail
          exact bodyPost_ret (v := .agg #[.int .i64 11, .string ⟨#[]⟩, .string ⟨#[]⟩, .int .i64 0, .slice sa SL sc, .slice none 0 0]) (by simp [results, Tryz.results101, go_sem, u0, u1, u2, u3, u4, u5]) rfl HD.out
end Go.Proofs.YtligkpcoajnjmaaGreatDoorR
namespace Go.Proofs.YtligkpcoajnjmaaGreatDoorR
open Go.RowKit Go.Proofs.Aid Go.Proofs.Sq Go.Proofs.Hd

set_option maxHeartbeats 4000000 in
set_option maxRecDepth 100000 in
theorem key_larger (rb c B d : Nat) (x : Sr.Ar) (l : List Sr.Ar) (v : Value) (Ok : Nat → Prop) (w : World) (henv : EnvB w rb) (hr : RdS w rb v c) (hl : Ags w Ok B (x :: l) v) (hB : B ≤ 2000000) (hrb : rb < w.heap.size) (hO : ∀ k, Ok k → k ≠ rb ∧ k < w.heap.size) (hd : d ≤ 6) (hc : c + 1 ≤ 60) (hx : x.kind ≠ 3) (hw : great x.text = [76, 65, 82, 71, 69, 82]) :
    Calls Tryz.prog 101 #[.pointer (some ⟨rb, 0, none⟩), .int .i64 (d : Int)] w fun e w' => Out w rb B Ok ((Sr.wordF l (c + 1)).then fun s l c => (Sr.numF s l c).map fun (n : Nat) => .mk 6 [] [] (n : Int) [] []) e w' := by
  obtain ⟨RW, hwf⟩ : ∃ RW, Sr.wordF l (c + 1) = RW := ⟨_, rfl⟩
  rw [hwf]
  have HWF : Hid (Sr.wordF l (c + 1) = RW) := hwf
  have HENV : Hid (EnvB w rb) := henv
  obtain ⟨T, hT⟩ : ∃ T, (RW.then fun s l c => (Sr.numF s l c).map fun (n : Nat) => Sr.Ky.mk 6 [] [] (n : Int) [] []) = T := ⟨_, rfl⟩
  rw [hT]
  have HT0 : Hid ((RW.then fun s l c => (Sr.numF s l c).map fun (n : Nat) => Sr.Ky.mk 6 [] [] (n : Int) [] []) = T) := hT
  clear hwf henv hT
  obtain ⟨W1, W2, hW1, hW2, p1, f1, q1, q0, z2, hr2, hl2, hb2, hE2⟩ := key_begun rb c B (x :: l) v Ok w hr hl hrb hO
  have cW := word_ok rb (c + 1) B x l v Ok W2 hr2 hl2 (fun k hk => (hO k hk).1) hx
  obtain ⟨b, o, C, _, lv, rfl, hC, hC2, hOb, _, _, _, c1, _, _, _⟩ := hl2.head
  have hkb : (x.kind == 3) = false := by simpa using hx
  obtain ⟨K, hK⟩ : ∃ K, x.kind = K := ⟨_, rfl⟩
  rw [hK] at c1 hkb
  obtain ⟨L, hL⟩ : ∃ L, l.length = L := ⟨_, rfl⟩
  rw [hL] at q0 hC
  have HB : Hid (But w.heap.size rb w W2) := hb2
  have HE : Hid (W2.heap[w.heap.size]? = some (.cells #[.int .i64 0, .string ⟨#[]⟩, .string ⟨#[]⟩, .int .i64 0, .slice none 0 0, .slice none 0 0] 33 (0, 0))) := hE2
  have HO : Hid (∀ k, Ok k → k ≠ rb ∧ k < w.heap.size) := hO
  have HZ : Hid (W2.heap.size = w.heap.size + 1) := z2
  have HWD : Hid (great x.text = [76, 65, 82, 71, 69, 82]) := hw
  have d1 : decide ((6 : Int) < (d : Int)) = false := decide_eq_false (by omega)
  have d2 : decide ((60 : Int) < (c : Int) + 1) = false := decide_eq_false (by omega)
  clear hr hl hO hr2 hl2 hb2 hE2 hL z2 hx hK hw
  go_enter Tryz.func101, Tryz.ntmps101
  go_wp2_with fail
  refine cW.mono ?_
  rintro e w3 ⟨tb, v3, htb, htz, rfl, hr3, hl3, hb3⟩
  have cG := great_is tb w3 (by omega)
  rw [htb, HWD.out, show (⟨([76, 65, 82, 71, 69, 82] : List UInt8).toArray⟩ : ByteArray) = ⟨#[76, 65, 82, 71, 69, 82]⟩ from rfl] at cG
  have hz := HZ.out
  have hs3 := hb3.size
  have HX : Hid (∀ W, Below w3.heap.size w3 W → RdS W rb v3 (c + 1) ∧ Ags W Ok B l v3 ∧ But w.heap.size rb w W ∧ W.heap[w.heap.size]? = some (.cells #[.int .i64 0, .string ⟨#[]⟩, .string ⟨#[]⟩, .int .i64 0, .slice none 0 0, .slice none 0 0] 33 (0, 0)) ∧ w.heap.size + 1 ≤ W.heap.size) := fun W hW =>
    ⟨hr3.kept (hW.block rb (by omega)), hl3.kept fun k hk hlt => ⟨hk, hW.block k hlt⟩, (HB.out.trans (hb3.less (by omega))).trans (to_but (hW.mono (by omega))), (hW.block w.heap.size (by omega)).trans ((hb3.block w.heap.size (by omega) (by omega)).trans HE.out), by have := hW.size; omega⟩
  clear cW hr3 hl3 hb3 htb
  go_wp2_with fail
  refine cG.mono ?_
  rintro e w4 ⟨rfl, hb4⟩
  obtain ⟨hr4, hl4, hbt, e4, hs4⟩ := HX.out w4 hb4
  clear cG HX
  have cM := measure_is ⟨#[76, 65, 82, 71, 69, 82]⟩ w4 (by decide)
  rw [show (6 + ((Sr.wMeas.idxOf (⟨#[76, 65, 82, 71, 69, 82]⟩ : ByteArray).data.toList : Nat) : Int)) = 6 from by decide] at cM
  have HM : Hid (Calls Tryz.prog 155 #[.string ⟨#[76, 65, 82, 71, 69, 82]⟩] w4 fun e w' => e = .returned (.int .i64 6) ∧ w' = w4) := cM
  clear cM
  have hwf := HWF.out
  clear HWF
  cases RW with
  | bad n =>
    obtain rfl : n = 3 := by
      cases l with
      | nil => cases hwf; rfl
      | cons a r =>
        rw [Sr.wordF] at hwf
        split at hwf
        · cases hwf; rfl
        · cases hwf
    have cV := word_bad rb (c + 1) B l _ Ok w4 hr4 hl4 hwf
    unfold thrown at cV
    have HBT : Hid (But w.heap.size rb w w4) := hbt
    have hT := HT0.out
    clear hb4 hr4 hl4 hbt e4 hwf HT0
    subst hT
    go_wp2_with fail
    refine HM.out.mono ?_
    rintro e wq ⟨rfl, hwq⟩
    obtain rfl : w4 = wq := hwq.symm
    go_wp2_with fail
    refine cV.mono ?_
    rintro e w5 ⟨rfl, hw5⟩
    obtain rfl : w4 = w5 := hw5.symm
    go_wp2_with fail
    exact ⟨rfl, rfl, HBT.out⟩
  | ok t l5 c5 =>
    cases l with
    | nil => cases hwf
    | cons y r =>
      rw [Sr.wordF] at hwf
      split at hwf
      · cases hwf
      · rename_i hy
        cases hwf
        have cV := word_ok rb (c + 1) B y _ _ Ok w4 hr4 hl4 (fun k hk => (HO.out k hk).1) hy
        have HBT : Hid (But w.heap.size rb w w4) := hbt
        have HE4 : Hid (w4.heap[w.heap.size]? = some (.cells #[.int .i64 0, .string ⟨#[]⟩, .string ⟨#[]⟩, .int .i64 0, .slice none 0 0, .slice none 0 0] 33 (0, 0))) := e4
        clear hb4 hr4 hl4 hbt e4 hy
        go_wp2_with fail
        refine HM.out.mono ?_
        rintro e wq ⟨rfl, hwq⟩
        obtain rfl : w4 = wq := hwq.symm
        go_wp2_with fail
        refine cV.mono ?_
        rintro e w5 ⟨tb5, v5, htb5, htz5, rfl, hr5, hl5, hb5⟩
        have hb05 := HBT.out.trans (hb5.less (base' := w.heap.size) (by omega))
        have henv := HENV.out w5 hb05
        have e5 := (hb5.block w.heap.size (by omega) (by omega)).trans HE4.out
        have hs5 := hb5.size
        have HX5 : Hid (RdS w5 rb v5 (c + 1) ∧ Ags w5 Ok B l5 v5 ∧ But w.heap.size rb w w5 ∧ w5.heap[w.heap.size]? = some (.cells #[.int .i64 0, .string ⟨#[]⟩, .string ⟨#[]⟩, .int .i64 0, .slice none 0 0, .slice none 0 0] 33 (0, 0))) := ⟨hr5, hl5, hb05, e5⟩
        have HT : Hid (((Sr.numF y.text l5 (c + 1)).map fun (n : Nat) => Sr.Ky.mk 6 [] [] (n : Int) [] []) = T) := HT0.out
        cases hnn : Sr.numN y.text with
        | none =>
          have cF := number_bad tb5 w5 (by omega) henv.2.2.1 (by rw [htb5]; exact hnn)
          clear cV hr5 hl5 hb5 hb05 henv e5 htb5 HT0 HM
          go_wp2_with fail
          refine cF.mono ?_
          rintro e w6 ⟨rfl, hb6⟩
          have HB6 : Hid (But w.heap.size rb w w6) := HX5.out.2.2.1.trans (to_but (hb6.mono (by omega)))
          have hT := HT.out
          rw [Sr.numF, hnn] at hT
          subst hT
          clear HT HX5 hb6 hnn cF
          unfold thrown
          go_wp2_with fail
          exact ⟨rfl, rfl, HB6.out⟩
        | some n =>
          have cF := number_ok tb5 n w5 (by omega) henv.2.2.1 (by rw [htb5]; exact hnn)
          clear cV hr5 hl5 hb5 hb05 henv e5 htb5 HT0 HM
          go_wp2_with fail
          refine cF.mono ?_
          rintro e w6 ⟨rfl, hb6⟩
          have hT := HT.out
          rw [Sr.numF, hnn] at hT
          subst hT
          obtain ⟨hr5, hl5, hb05, e5⟩ := HX5.out
          have e6 := (hb6.block w.heap.size (by omega)).trans e5
          have HKX : Hid (Kx w6 (fun q => w.heap.size + 1 ≤ q) (.mk 6 [] [] (n : Int) [] []) [.int .i64 6, .string ⟨#[]⟩, .string ⟨#[]⟩, .int .i64 (n : Int), .slice none 0 0, .slice none 0 0]) := kx_leaf w6 _ 6 (n : Int) ⟨#[]⟩ ⟨#[]⟩
          obtain ⟨⟨s0, s1, s2, s3, s4, s5⟩, ⟨sf0, sf1, sf2, sf3, sf4, sf5⟩, u0, u1, u2, u3, u4, u5⟩ := six_facts e6 (.int .i64 6) (.string ⟨#[]⟩) (.string ⟨#[]⟩) (.int .i64 (n : Int)) (.slice none 0 0) (.slice none 0 0)
          have HD : Hid (Out w rb B Ok (.ok (.mk 6 [] [] (n : Int) [] []) l5 (c + 1)) (.returned (.agg #[.int .i64 6, .string ⟨#[]⟩, .string ⟨#[]⟩, .int .i64 (n : Int), .slice none 0 0, .slice none 0 0])) _) := key_done hrb HO.out (HKX.out) (hr5.kept (hb6.block rb (by omega))) (hl5.kept fun k hk hlt => ⟨hk, hb6.block k hlt⟩) (hb05.trans (to_but (hb6.mono (by omega))))
          clear HT HX5 hr5 hl5 hb05 e5 e6 hb6 hnn cF HKX
          go_wp2_with fail
          exact bodyPost_ret (v := .agg #[.int .i64 6, .string ⟨#[]⟩, .string ⟨#[]⟩, .int .i64 (n : Int), .slice none 0 0, .slice none 0 0]) (by simp [results, Tryz.results101, go_sem, u0, u1, u2, u3, u4, u5]) rfl HD.out
set_option maxHeartbeats 4000000 in
set_option maxRecDepth 100000 in
theorem key_smaller (rb c B d : Nat) (x : Sr.Ar) (l : List Sr.Ar) (v : Value) (Ok : Nat → Prop) (w : World) (henv : EnvB w rb) (hr : RdS w rb v c) (hl : Ags w Ok B (x :: l) v) (hB : B ≤ 2000000) (hrb : rb < w.heap.size) (hO : ∀ k, Ok k → k ≠ rb ∧ k < w.heap.size) (hd : d ≤ 6) (hc : c + 1 ≤ 60) (hx : x.kind ≠ 3) (hw : great x.text = [83, 77, 65, 76, 76, 69, 82]) :
    Calls Tryz.prog 101 #[.pointer (some ⟨rb, 0, none⟩), .int .i64 (d : Int)] w fun e w' => Out w rb B Ok ((Sr.wordF l (c + 1)).then fun s l c => (Sr.numF s l c).map fun (n : Nat) => .mk 7 [] [] (n : Int) [] []) e w' := by
  obtain ⟨RW, hwf⟩ : ∃ RW, Sr.wordF l (c + 1) = RW := ⟨_, rfl⟩
  rw [hwf]
  have HWF : Hid (Sr.wordF l (c + 1) = RW) := hwf
  have HENV : Hid (EnvB w rb) := henv
  obtain ⟨T, hT⟩ : ∃ T, (RW.then fun s l c => (Sr.numF s l c).map fun (n : Nat) => Sr.Ky.mk 7 [] [] (n : Int) [] []) = T := ⟨_, rfl⟩
  rw [hT]
  have HT0 : Hid ((RW.then fun s l c => (Sr.numF s l c).map fun (n : Nat) => Sr.Ky.mk 7 [] [] (n : Int) [] []) = T) := hT
  clear hwf henv hT
  obtain ⟨W1, W2, hW1, hW2, p1, f1, q1, q0, z2, hr2, hl2, hb2, hE2⟩ := key_begun rb c B (x :: l) v Ok w hr hl hrb hO
  have cW := word_ok rb (c + 1) B x l v Ok W2 hr2 hl2 (fun k hk => (hO k hk).1) hx
  obtain ⟨b, o, C, _, lv, rfl, hC, hC2, hOb, _, _, _, c1, _, _, _⟩ := hl2.head
  have hkb : (x.kind == 3) = false := by simpa using hx
  obtain ⟨K, hK⟩ : ∃ K, x.kind = K := ⟨_, rfl⟩
  rw [hK] at c1 hkb
  obtain ⟨L, hL⟩ : ∃ L, l.length = L := ⟨_, rfl⟩
  rw [hL] at q0 hC
  have HB : Hid (But w.heap.size rb w W2) := hb2
  have HE : Hid (W2.heap[w.heap.size]? = some (.cells #[.int .i64 0, .string ⟨#[]⟩, .string ⟨#[]⟩, .int .i64 0, .slice none 0 0, .slice none 0 0] 33 (0, 0))) := hE2
  have HO : Hid (∀ k, Ok k → k ≠ rb ∧ k < w.heap.size) := hO
  have HZ : Hid (W2.heap.size = w.heap.size + 1) := z2
  have HWD : Hid (great x.text = [83, 77, 65, 76, 76, 69, 82]) := hw
  have d1 : decide ((6 : Int) < (d : Int)) = false := decide_eq_false (by omega)
  have d2 : decide ((60 : Int) < (c : Int) + 1) = false := decide_eq_false (by omega)
  clear hr hl hO hr2 hl2 hb2 hE2 hL z2 hx hK hw
  go_enter Tryz.func101, Tryz.ntmps101
  go_wp2_with fail
  refine cW.mono ?_
  rintro e w3 ⟨tb, v3, htb, htz, rfl, hr3, hl3, hb3⟩
  have cG := great_is tb w3 (by omega)
  rw [htb, HWD.out, show (⟨([83, 77, 65, 76, 76, 69, 82] : List UInt8).toArray⟩ : ByteArray) = ⟨#[83, 77, 65, 76, 76, 69, 82]⟩ from rfl] at cG
  have hz := HZ.out
  have hs3 := hb3.size
  have HX : Hid (∀ W, Below w3.heap.size w3 W → RdS W rb v3 (c + 1) ∧ Ags W Ok B l v3 ∧ But w.heap.size rb w W ∧ W.heap[w.heap.size]? = some (.cells #[.int .i64 0, .string ⟨#[]⟩, .string ⟨#[]⟩, .int .i64 0, .slice none 0 0, .slice none 0 0] 33 (0, 0)) ∧ w.heap.size + 1 ≤ W.heap.size) := fun W hW =>
    ⟨hr3.kept (hW.block rb (by omega)), hl3.kept fun k hk hlt => ⟨hk, hW.block k hlt⟩, (HB.out.trans (hb3.less (by omega))).trans (to_but (hW.mono (by omega))), (hW.block w.heap.size (by omega)).trans ((hb3.block w.heap.size (by omega) (by omega)).trans HE.out), by have := hW.size; omega⟩
  clear cW hr3 hl3 hb3 htb
  go_wp2_with fail
  refine cG.mono ?_
  rintro e w4 ⟨rfl, hb4⟩
  obtain ⟨hr4, hl4, hbt, e4, hs4⟩ := HX.out w4 hb4
  clear cG HX
  have cM := measure_is ⟨#[83, 77, 65, 76, 76, 69, 82]⟩ w4 (by decide)
  rw [show (6 + ((Sr.wMeas.idxOf (⟨#[83, 77, 65, 76, 76, 69, 82]⟩ : ByteArray).data.toList : Nat) : Int)) = 7 from by decide] at cM
  have HM : Hid (Calls Tryz.prog 155 #[.string ⟨#[83, 77, 65, 76, 76, 69, 82]⟩] w4 fun e w' => e = .returned (.int .i64 7) ∧ w' = w4) := cM
  clear cM
  have hwf := HWF.out
  clear HWF
  cases RW with
  | bad n =>
    obtain rfl : n = 3 := by
      cases l with
      | nil => cases hwf; rfl
      | cons a r =>
        rw [Sr.wordF] at hwf
        split at hwf
        · cases hwf; rfl
        · cases hwf
    have cV := word_bad rb (c + 1) B l _ Ok w4 hr4 hl4 hwf
    unfold thrown at cV
    have HBT : Hid (But w.heap.size rb w w4) := hbt
    have hT := HT0.out
    clear hb4 hr4 hl4 hbt e4 hwf HT0
    subst hT
    go_wp2_with fail
    refine HM.out.mono ?_
    rintro e wq ⟨rfl, hwq⟩
    obtain rfl : w4 = wq := hwq.symm
    go_wp2_with fail
    refine cV.mono ?_
    rintro e w5 ⟨rfl, hw5⟩
    obtain rfl : w4 = w5 := hw5.symm
    go_wp2_with fail
    exact ⟨rfl, rfl, HBT.out⟩
  | ok t l5 c5 =>
    cases l with
    | nil => cases hwf
    | cons y r =>
      rw [Sr.wordF] at hwf
      split at hwf
      · cases hwf
      · rename_i hy
        cases hwf
        have cV := word_ok rb (c + 1) B y _ _ Ok w4 hr4 hl4 (fun k hk => (HO.out k hk).1) hy
        have HBT : Hid (But w.heap.size rb w w4) := hbt
        have HE4 : Hid (w4.heap[w.heap.size]? = some (.cells #[.int .i64 0, .string ⟨#[]⟩, .string ⟨#[]⟩, .int .i64 0, .slice none 0 0, .slice none 0 0] 33 (0, 0))) := e4
        clear hb4 hr4 hl4 hbt e4 hy
        go_wp2_with fail
        refine HM.out.mono ?_
        rintro e wq ⟨rfl, hwq⟩
        obtain rfl : w4 = wq := hwq.symm
        go_wp2_with fail
        refine cV.mono ?_
        rintro e w5 ⟨tb5, v5, htb5, htz5, rfl, hr5, hl5, hb5⟩
        have hb05 := HBT.out.trans (hb5.less (base' := w.heap.size) (by omega))
        have henv := HENV.out w5 hb05
        have e5 := (hb5.block w.heap.size (by omega) (by omega)).trans HE4.out
        have hs5 := hb5.size
        have HX5 : Hid (RdS w5 rb v5 (c + 1) ∧ Ags w5 Ok B l5 v5 ∧ But w.heap.size rb w w5 ∧ w5.heap[w.heap.size]? = some (.cells #[.int .i64 0, .string ⟨#[]⟩, .string ⟨#[]⟩, .int .i64 0, .slice none 0 0, .slice none 0 0] 33 (0, 0))) := ⟨hr5, hl5, hb05, e5⟩
        have HT : Hid (((Sr.numF y.text l5 (c + 1)).map fun (n : Nat) => Sr.Ky.mk 7 [] [] (n : Int) [] []) = T) := HT0.out
        cases hnn : Sr.numN y.text with
        | none =>
          have cF := number_bad tb5 w5 (by omega) henv.2.2.1 (by rw [htb5]; exact hnn)
          clear cV hr5 hl5 hb5 hb05 henv e5 htb5 HT0 HM
          go_wp2_with fail
          refine cF.mono ?_
          rintro e w6 ⟨rfl, hb6⟩
          have HB6 : Hid (But w.heap.size rb w w6) := HX5.out.2.2.1.trans (to_but (hb6.mono (by omega)))
          have hT := HT.out
          rw [Sr.numF, hnn] at hT
          subst hT
          clear HT HX5 hb6 hnn cF
          unfold thrown
          go_wp2_with fail
          exact ⟨rfl, rfl, HB6.out⟩
        | some n =>
          have cF := number_ok tb5 n w5 (by omega) henv.2.2.1 (by rw [htb5]; exact hnn)
          clear cV hr5 hl5 hb5 hb05 henv e5 htb5 HT0 HM
          go_wp2_with fail
          refine cF.mono ?_
          rintro e w6 ⟨rfl, hb6⟩
          have hT := HT.out
          rw [Sr.numF, hnn] at hT
          subst hT
          obtain ⟨hr5, hl5, hb05, e5⟩ := HX5.out
          have e6 := (hb6.block w.heap.size (by omega)).trans e5
          have HKX : Hid (Kx w6 (fun q => w.heap.size + 1 ≤ q) (.mk 7 [] [] (n : Int) [] []) [.int .i64 7, .string ⟨#[]⟩, .string ⟨#[]⟩, .int .i64 (n : Int), .slice none 0 0, .slice none 0 0]) := kx_leaf w6 _ 7 (n : Int) ⟨#[]⟩ ⟨#[]⟩
          obtain ⟨⟨s0, s1, s2, s3, s4, s5⟩, ⟨sf0, sf1, sf2, sf3, sf4, sf5⟩, u0, u1, u2, u3, u4, u5⟩ := six_facts e6 (.int .i64 7) (.string ⟨#[]⟩) (.string ⟨#[]⟩) (.int .i64 (n : Int)) (.slice none 0 0) (.slice none 0 0)
          have HD : Hid (Out w rb B Ok (.ok (.mk 7 [] [] (n : Int) [] []) l5 (c + 1)) (.returned (.agg #[.int .i64 7, .string ⟨#[]⟩, .string ⟨#[]⟩, .int .i64 (n : Int), .slice none 0 0, .slice none 0 0])) _) := key_done hrb HO.out (HKX.out) (hr5.kept (hb6.block rb (by omega))) (hl5.kept fun k hk hlt => ⟨hk, hb6.block k hlt⟩) (hb05.trans (to_but (hb6.mono (by omega))))
          clear HT HX5 hr5 hl5 hb05 e5 e6 hb6 hnn cF HKX
          go_wp2_with fail
          exact bodyPost_ret (v := .agg #[.int .i64 7, .string ⟨#[]⟩, .string ⟨#[]⟩, .int .i64 (n : Int), .slice none 0 0, .slice none 0 0]) (by simp [results, Tryz.results101, go_sem, u0, u1, u2, u3, u4, u5]) rfl HD.out
set_option maxHeartbeats 4000000 in
set_option maxRecDepth 100000 in
theorem key_before (rb c B d : Nat) (x : Sr.Ar) (l : List Sr.Ar) (v : Value) (Ok : Nat → Prop) (w : World) (henv : EnvB w rb) (hr : RdS w rb v c) (hl : Ags w Ok B (x :: l) v) (hB : B ≤ 2000000) (hrb : rb < w.heap.size) (hO : ∀ k, Ok k → k ≠ rb ∧ k < w.heap.size) (hd : d ≤ 6) (hc : c + 1 ≤ 60) (hx : x.kind ≠ 3) (hw : great x.text = [66, 69, 70, 79, 82, 69]) :
    Calls Tryz.prog 101 #[.pointer (some ⟨rb, 0, none⟩), .int .i64 (d : Int)] w fun e w' => Out w rb B Ok ((Sr.wordF l (c + 1)).then fun s l c => (Sr.numF s l c).map fun (n : Nat) => .mk 8 [] [] (n : Int) [] []) e w' := by
  obtain ⟨RW, hwf⟩ : ∃ RW, Sr.wordF l (c + 1) = RW := ⟨_, rfl⟩
  rw [hwf]
  have HWF : Hid (Sr.wordF l (c + 1) = RW) := hwf
  have HENV : Hid (EnvB w rb) := henv
  obtain ⟨T, hT⟩ : ∃ T, (RW.then fun s l c => (Sr.numF s l c).map fun (n : Nat) => Sr.Ky.mk 8 [] [] (n : Int) [] []) = T := ⟨_, rfl⟩
  rw [hT]
  have HT0 : Hid ((RW.then fun s l c => (Sr.numF s l c).map fun (n : Nat) => Sr.Ky.mk 8 [] [] (n : Int) [] []) = T) := hT
  clear hwf henv hT
  obtain ⟨W1, W2, hW1, hW2, p1, f1, q1, q0, z2, hr2, hl2, hb2, hE2⟩ := key_begun rb c B (x :: l) v Ok w hr hl hrb hO
  have cW := word_ok rb (c + 1) B x l v Ok W2 hr2 hl2 (fun k hk => (hO k hk).1) hx
  obtain ⟨b, o, C, _, lv, rfl, hC, hC2, hOb, _, _, _, c1, _, _, _⟩ := hl2.head
  have hkb : (x.kind == 3) = false := by simpa using hx
  obtain ⟨K, hK⟩ : ∃ K, x.kind = K := ⟨_, rfl⟩
  rw [hK] at c1 hkb
  obtain ⟨L, hL⟩ : ∃ L, l.length = L := ⟨_, rfl⟩
  rw [hL] at q0 hC
  have HB : Hid (But w.heap.size rb w W2) := hb2
  have HE : Hid (W2.heap[w.heap.size]? = some (.cells #[.int .i64 0, .string ⟨#[]⟩, .string ⟨#[]⟩, .int .i64 0, .slice none 0 0, .slice none 0 0] 33 (0, 0))) := hE2
  have HO : Hid (∀ k, Ok k → k ≠ rb ∧ k < w.heap.size) := hO
  have HZ : Hid (W2.heap.size = w.heap.size + 1) := z2
  have HWD : Hid (great x.text = [66, 69, 70, 79, 82, 69]) := hw
  have d1 : decide ((6 : Int) < (d : Int)) = false := decide_eq_false (by omega)
  have d2 : decide ((60 : Int) < (c : Int) + 1) = false := decide_eq_false (by omega)
  clear hr hl hO hr2 hl2 hb2 hE2 hL z2 hx hK hw
  go_enter Tryz.func101, Tryz.ntmps101
  go_wp2_with fail
  refine cW.mono ?_
  rintro e w3 ⟨tb, v3, htb, htz, rfl, hr3, hl3, hb3⟩
  have cG := great_is tb w3 (by omega)
  rw [htb, HWD.out, show (⟨([66, 69, 70, 79, 82, 69] : List UInt8).toArray⟩ : ByteArray) = ⟨#[66, 69, 70, 79, 82, 69]⟩ from rfl] at cG
  have hz := HZ.out
  have hs3 := hb3.size
  have HX : Hid (∀ W, Below w3.heap.size w3 W → RdS W rb v3 (c + 1) ∧ Ags W Ok B l v3 ∧ But w.heap.size rb w W ∧ W.heap[w.heap.size]? = some (.cells #[.int .i64 0, .string ⟨#[]⟩, .string ⟨#[]⟩, .int .i64 0, .slice none 0 0, .slice none 0 0] 33 (0, 0)) ∧ w.heap.size + 1 ≤ W.heap.size) := fun W hW =>
    ⟨hr3.kept (hW.block rb (by omega)), hl3.kept fun k hk hlt => ⟨hk, hW.block k hlt⟩, (HB.out.trans (hb3.less (by omega))).trans (to_but (hW.mono (by omega))), (hW.block w.heap.size (by omega)).trans ((hb3.block w.heap.size (by omega) (by omega)).trans HE.out), by have := hW.size; omega⟩
  clear cW hr3 hl3 hb3 htb
  go_wp2_with fail
  refine cG.mono ?_
  rintro e w4 ⟨rfl, hb4⟩
  obtain ⟨hr4, hl4, hbt, e4, hs4⟩ := HX.out w4 hb4
  clear cG HX
  have cM := measure_is ⟨#[66, 69, 70, 79, 82, 69]⟩ w4 (by decide)
  rw [show (6 + ((Sr.wMeas.idxOf (⟨#[66, 69, 70, 79, 82, 69]⟩ : ByteArray).data.toList : Nat) : Int)) = 8 from by decide] at cM
  have HM : Hid (Calls Tryz.prog 155 #[.string ⟨#[66, 69, 70, 79, 82, 69]⟩] w4 fun e w' => e = .returned (.int .i64 8) ∧ w' = w4) := cM
  clear cM
  have hwf := HWF.out
  clear HWF
  cases RW with
  | bad n =>
    obtain rfl : n = 3 := by
      cases l with
      | nil => cases hwf; rfl
      | cons a r =>
        rw [Sr.wordF] at hwf
        split at hwf
        · cases hwf; rfl
        · cases hwf
    have cV := word_bad rb (c + 1) B l _ Ok w4 hr4 hl4 hwf
    unfold thrown at cV
    have HBT : Hid (But w.heap.size rb w w4) := hbt
    have hT := HT0.out
    clear hb4 hr4 hl4 hbt e4 hwf HT0
    subst hT
    go_wp2_with fail
    refine HM.out.mono ?_
    rintro e wq ⟨rfl, hwq⟩
    obtain rfl : w4 = wq := hwq.symm
    go_wp2_with fail
    refine cV.mono ?_
    rintro e w5 ⟨rfl, hw5⟩
    obtain rfl : w4 = w5 := hw5.symm
    go_wp2_with fail
    exact ⟨rfl, rfl, HBT.out⟩
  | ok t l5 c5 =>
    cases l with
    | nil => cases hwf
    | cons y r =>
      rw [Sr.wordF] at hwf
      split at hwf
      · cases hwf
      · rename_i hy
        cases hwf
        have cV := word_ok rb (c + 1) B y _ _ Ok w4 hr4 hl4 (fun k hk => (HO.out k hk).1) hy
        have HBT : Hid (But w.heap.size rb w w4) := hbt
        have HE4 : Hid (w4.heap[w.heap.size]? = some (.cells #[.int .i64 0, .string ⟨#[]⟩, .string ⟨#[]⟩, .int .i64 0, .slice none 0 0, .slice none 0 0] 33 (0, 0))) := e4
        clear hb4 hr4 hl4 hbt e4 hy
        go_wp2_with fail
        refine HM.out.mono ?_
        rintro e wq ⟨rfl, hwq⟩
        obtain rfl : w4 = wq := hwq.symm
        go_wp2_with fail
        refine cV.mono ?_
        rintro e w5 ⟨tb5, v5, htb5, htz5, rfl, hr5, hl5, hb5⟩
        have hb05 := HBT.out.trans (hb5.less (base' := w.heap.size) (by omega))
        have henv := HENV.out w5 hb05
        have e5 := (hb5.block w.heap.size (by omega) (by omega)).trans HE4.out
        have hs5 := hb5.size
        have HX5 : Hid (RdS w5 rb v5 (c + 1) ∧ Ags w5 Ok B l5 v5 ∧ But w.heap.size rb w w5 ∧ w5.heap[w.heap.size]? = some (.cells #[.int .i64 0, .string ⟨#[]⟩, .string ⟨#[]⟩, .int .i64 0, .slice none 0 0, .slice none 0 0] 33 (0, 0))) := ⟨hr5, hl5, hb05, e5⟩
        have HT : Hid (((Sr.numF y.text l5 (c + 1)).map fun (n : Nat) => Sr.Ky.mk 8 [] [] (n : Int) [] []) = T) := HT0.out
        cases hnn : Sr.numN y.text with
        | none =>
          have cF := number_bad tb5 w5 (by omega) henv.2.2.1 (by rw [htb5]; exact hnn)
          clear cV hr5 hl5 hb5 hb05 henv e5 htb5 HT0 HM
          go_wp2_with fail
          refine cF.mono ?_
          rintro e w6 ⟨rfl, hb6⟩
          have HB6 : Hid (But w.heap.size rb w w6) := HX5.out.2.2.1.trans (to_but (hb6.mono (by omega)))
          have hT := HT.out
          rw [Sr.numF, hnn] at hT
          subst hT
          clear HT HX5 hb6 hnn cF
          unfold thrown
          go_wp2_with fail
          exact ⟨rfl, rfl, HB6.out⟩
        | some n =>
          have cF := number_ok tb5 n w5 (by omega) henv.2.2.1 (by rw [htb5]; exact hnn)
          clear cV hr5 hl5 hb5 hb05 henv e5 htb5 HT0 HM
          go_wp2_with fail
          refine cF.mono ?_
          rintro e w6 ⟨rfl, hb6⟩
          have hT := HT.out
          rw [Sr.numF, hnn] at hT
          subst hT
          obtain ⟨hr5, hl5, hb05, e5⟩ := HX5.out
          have e6 := (hb6.block w.heap.size (by omega)).trans e5
          have HKX : Hid (Kx w6 (fun q => w.heap.size + 1 ≤ q) (.mk 8 [] [] (n : Int) [] []) [.int .i64 8, .string ⟨#[]⟩, .string ⟨#[]⟩, .int .i64 (n : Int), .slice none 0 0, .slice none 0 0]) := kx_leaf w6 _ 8 (n : Int) ⟨#[]⟩ ⟨#[]⟩
          obtain ⟨⟨s0, s1, s2, s3, s4, s5⟩, ⟨sf0, sf1, sf2, sf3, sf4, sf5⟩, u0, u1, u2, u3, u4, u5⟩ := six_facts e6 (.int .i64 8) (.string ⟨#[]⟩) (.string ⟨#[]⟩) (.int .i64 (n : Int)) (.slice none 0 0) (.slice none 0 0)
          have HD : Hid (Out w rb B Ok (.ok (.mk 8 [] [] (n : Int) [] []) l5 (c + 1)) (.returned (.agg #[.int .i64 8, .string ⟨#[]⟩, .string ⟨#[]⟩, .int .i64 (n : Int), .slice none 0 0, .slice none 0 0])) _) := key_done hrb HO.out (HKX.out) (hr5.kept (hb6.block rb (by omega))) (hl5.kept fun k hk hlt => ⟨hk, hb6.block k hlt⟩) (hb05.trans (to_but (hb6.mono (by omega))))
          clear HT HX5 hr5 hl5 hb05 e5 e6 hb6 hnn cF HKX
          go_wp2_with fail
          exact bodyPost_ret (v := .agg #[.int .i64 8, .string ⟨#[]⟩, .string ⟨#[]⟩, .int .i64 (n : Int), .slice none 0 0, .slice none 0 0]) (by simp [results, Tryz.results101, go_sem, u0, u1, u2, u3, u4, u5]) rfl HD.out
set_option maxHeartbeats 4000000 in
set_option maxRecDepth 100000 in
theorem key_on (rb c B d : Nat) (x : Sr.Ar) (l : List Sr.Ar) (v : Value) (Ok : Nat → Prop) (w : World) (henv : EnvB w rb) (hr : RdS w rb v c) (hl : Ags w Ok B (x :: l) v) (hB : B ≤ 2000000) (hrb : rb < w.heap.size) (hO : ∀ k, Ok k → k ≠ rb ∧ k < w.heap.size) (hd : d ≤ 6) (hc : c + 1 ≤ 60) (hx : x.kind ≠ 3) (hw : great x.text = [79, 78]) :
    Calls Tryz.prog 101 #[.pointer (some ⟨rb, 0, none⟩), .int .i64 (d : Int)] w fun e w' => Out w rb B Ok ((Sr.wordF l (c + 1)).then fun s l c => (Sr.numF s l c).map fun (n : Nat) => .mk 9 [] [] (n : Int) [] []) e w' := by
  obtain ⟨RW, hwf⟩ : ∃ RW, Sr.wordF l (c + 1) = RW := ⟨_, rfl⟩
  rw [hwf]
  have HWF : Hid (Sr.wordF l (c + 1) = RW) := hwf
  have HENV : Hid (EnvB w rb) := henv
  obtain ⟨T, hT⟩ : ∃ T, (RW.then fun s l c => (Sr.numF s l c).map fun (n : Nat) => Sr.Ky.mk 9 [] [] (n : Int) [] []) = T := ⟨_, rfl⟩
  rw [hT]
  have HT0 : Hid ((RW.then fun s l c => (Sr.numF s l c).map fun (n : Nat) => Sr.Ky.mk 9 [] [] (n : Int) [] []) = T) := hT
  clear hwf henv hT
  obtain ⟨W1, W2, hW1, hW2, p1, f1, q1, q0, z2, hr2, hl2, hb2, hE2⟩ := key_begun rb c B (x :: l) v Ok w hr hl hrb hO
  have cW := word_ok rb (c + 1) B x l v Ok W2 hr2 hl2 (fun k hk => (hO k hk).1) hx
  obtain ⟨b, o, C, _, lv, rfl, hC, hC2, hOb, _, _, _, c1, _, _, _⟩ := hl2.head
  have hkb : (x.kind == 3) = false := by simpa using hx
  obtain ⟨K, hK⟩ : ∃ K, x.kind = K := ⟨_, rfl⟩
  rw [hK] at c1 hkb
  obtain ⟨L, hL⟩ : ∃ L, l.length = L := ⟨_, rfl⟩
  rw [hL] at q0 hC
  have HB : Hid (But w.heap.size rb w W2) := hb2
  have HE : Hid (W2.heap[w.heap.size]? = some (.cells #[.int .i64 0, .string ⟨#[]⟩, .string ⟨#[]⟩, .int .i64 0, .slice none 0 0, .slice none 0 0] 33 (0, 0))) := hE2
  have HO : Hid (∀ k, Ok k → k ≠ rb ∧ k < w.heap.size) := hO
  have HZ : Hid (W2.heap.size = w.heap.size + 1) := z2
  have HWD : Hid (great x.text = [79, 78]) := hw
  have d1 : decide ((6 : Int) < (d : Int)) = false := decide_eq_false (by omega)
  have d2 : decide ((60 : Int) < (c : Int) + 1) = false := decide_eq_false (by omega)
  clear hr hl hO hr2 hl2 hb2 hE2 hL z2 hx hK hw
  go_enter Tryz.func101, Tryz.ntmps101
  go_wp2_with fail
  refine cW.mono ?_
  rintro e w3 ⟨tb, v3, htb, htz, rfl, hr3, hl3, hb3⟩
  have cG := great_is tb w3 (by omega)
  rw [htb, HWD.out, show (⟨([79, 78] : List UInt8).toArray⟩ : ByteArray) = ⟨#[79, 78]⟩ from rfl] at cG
  have hz := HZ.out
  have hs3 := hb3.size
  have HX : Hid (∀ W, Below w3.heap.size w3 W → RdS W rb v3 (c + 1) ∧ Ags W Ok B l v3 ∧ But w.heap.size rb w W ∧ W.heap[w.heap.size]? = some (.cells #[.int .i64 0, .string ⟨#[]⟩, .string ⟨#[]⟩, .int .i64 0, .slice none 0 0, .slice none 0 0] 33 (0, 0)) ∧ w.heap.size + 1 ≤ W.heap.size) := fun W hW =>
    ⟨hr3.kept (hW.block rb (by omega)), hl3.kept fun k hk hlt => ⟨hk, hW.block k hlt⟩, (HB.out.trans (hb3.less (by omega))).trans (to_but (hW.mono (by omega))), (hW.block w.heap.size (by omega)).trans ((hb3.block w.heap.size (by omega) (by omega)).trans HE.out), by have := hW.size; omega⟩
  clear cW hr3 hl3 hb3 htb
  go_wp2_with fail
  refine cG.mono ?_
  rintro e w4 ⟨rfl, hb4⟩
  obtain ⟨hr4, hl4, hbt, e4, hs4⟩ := HX.out w4 hb4
  clear cG HX
  have cM := measure_is ⟨#[79, 78]⟩ w4 (by decide)
  rw [show (6 + ((Sr.wMeas.idxOf (⟨#[79, 78]⟩ : ByteArray).data.toList : Nat) : Int)) = 9 from by decide] at cM
  have HM : Hid (Calls Tryz.prog 155 #[.string ⟨#[79, 78]⟩] w4 fun e w' => e = .returned (.int .i64 9) ∧ w' = w4) := cM
  clear cM
  have hwf := HWF.out
  clear HWF
  cases RW with
  | bad n =>
    obtain rfl : n = 3 := by
      cases l with
      | nil => cases hwf; rfl
      | cons a r =>
        rw [Sr.wordF] at hwf
        split at hwf
        · cases hwf; rfl
        · cases hwf
    have cV := word_bad rb (c + 1) B l _ Ok w4 hr4 hl4 hwf
    unfold thrown at cV
    have HBT : Hid (But w.heap.size rb w w4) := hbt
    have hT := HT0.out
    clear hb4 hr4 hl4 hbt e4 hwf HT0
    subst hT
    go_wp2_with fail
    refine HM.out.mono ?_
    rintro e wq ⟨rfl, hwq⟩
    obtain rfl : w4 = wq := hwq.symm
    go_wp2_with fail
    refine cV.mono ?_
    rintro e w5 ⟨rfl, hw5⟩
    obtain rfl : w4 = w5 := hw5.symm
    go_wp2_with fail
    exact ⟨rfl, rfl, HBT.out⟩
  | ok t l5 c5 =>
    cases l with
    | nil => cases hwf
    | cons y r =>
      rw [Sr.wordF] at hwf
      split at hwf
      · cases hwf
      · rename_i hy
        cases hwf
        have cV := word_ok rb (c + 1) B y _ _ Ok w4 hr4 hl4 (fun k hk => (HO.out k hk).1) hy
        have HBT : Hid (But w.heap.size rb w w4) := hbt
        have HE4 : Hid (w4.heap[w.heap.size]? = some (.cells #[.int .i64 0, .string ⟨#[]⟩, .string ⟨#[]⟩, .int .i64 0, .slice none 0 0, .slice none 0 0] 33 (0, 0))) := e4
        clear hb4 hr4 hl4 hbt e4 hy
        go_wp2_with fail
        refine HM.out.mono ?_
        rintro e wq ⟨rfl, hwq⟩
        obtain rfl : w4 = wq := hwq.symm
        go_wp2_with fail
        refine cV.mono ?_
        rintro e w5 ⟨tb5, v5, htb5, htz5, rfl, hr5, hl5, hb5⟩
        have hb05 := HBT.out.trans (hb5.less (base' := w.heap.size) (by omega))
        have henv := HENV.out w5 hb05
        have e5 := (hb5.block w.heap.size (by omega) (by omega)).trans HE4.out
        have hs5 := hb5.size
        have HX5 : Hid (RdS w5 rb v5 (c + 1) ∧ Ags w5 Ok B l5 v5 ∧ But w.heap.size rb w w5 ∧ w5.heap[w.heap.size]? = some (.cells #[.int .i64 0, .string ⟨#[]⟩, .string ⟨#[]⟩, .int .i64 0, .slice none 0 0, .slice none 0 0] 33 (0, 0))) := ⟨hr5, hl5, hb05, e5⟩
        have HT : Hid (((Sr.numF y.text l5 (c + 1)).map fun (n : Nat) => Sr.Ky.mk 9 [] [] (n : Int) [] []) = T) := HT0.out
        cases hnn : Sr.numN y.text with
        | none =>
          have cF := number_bad tb5 w5 (by omega) henv.2.2.1 (by rw [htb5]; exact hnn)
          clear cV hr5 hl5 hb5 hb05 henv e5 htb5 HT0 HM
          go_wp2_with fail
          refine cF.mono ?_
          rintro e w6 ⟨rfl, hb6⟩
          have HB6 : Hid (But w.heap.size rb w w6) := HX5.out.2.2.1.trans (to_but (hb6.mono (by omega)))
          have hT := HT.out
          rw [Sr.numF, hnn] at hT
          subst hT
          clear HT HX5 hb6 hnn cF
          unfold thrown
          go_wp2_with fail
          exact ⟨rfl, rfl, HB6.out⟩
        | some n =>
          have cF := number_ok tb5 n w5 (by omega) henv.2.2.1 (by rw [htb5]; exact hnn)
          clear cV hr5 hl5 hb5 hb05 henv e5 htb5 HT0 HM
          go_wp2_with fail
          refine cF.mono ?_
          rintro e w6 ⟨rfl, hb6⟩
          have hT := HT.out
          rw [Sr.numF, hnn] at hT
          subst hT
          obtain ⟨hr5, hl5, hb05, e5⟩ := HX5.out
          have e6 := (hb6.block w.heap.size (by omega)).trans e5
          have HKX : Hid (Kx w6 (fun q => w.heap.size + 1 ≤ q) (.mk 9 [] [] (n : Int) [] []) [.int .i64 9, .string ⟨#[]⟩, .string ⟨#[]⟩, .int .i64 (n : Int), .slice none 0 0, .slice none 0 0]) := kx_leaf w6 _ 9 (n : Int) ⟨#[]⟩ ⟨#[]⟩
          obtain ⟨⟨s0, s1, s2, s3, s4, s5⟩, ⟨sf0, sf1, sf2, sf3, sf4, sf5⟩, u0, u1, u2, u3, u4, u5⟩ := six_facts e6 (.int .i64 9) (.string ⟨#[]⟩) (.string ⟨#[]⟩) (.int .i64 (n : Int)) (.slice none 0 0) (.slice none 0 0)
          have HD : Hid (Out w rb B Ok (.ok (.mk 9 [] [] (n : Int) [] []) l5 (c + 1)) (.returned (.agg #[.int .i64 9, .string ⟨#[]⟩, .string ⟨#[]⟩, .int .i64 (n : Int), .slice none 0 0, .slice none 0 0])) _) := key_done hrb HO.out (HKX.out) (hr5.kept (hb6.block rb (by omega))) (hl5.kept fun k hk hlt => ⟨hk, hb6.block k hlt⟩) (hb05.trans (to_but (hb6.mono (by omega))))
          clear HT HX5 hr5 hl5 hb05 e5 e6 hb6 hnn cF HKX
          go_wp2_with fail
          exact bodyPost_ret (v := .agg #[.int .i64 9, .string ⟨#[]⟩, .string ⟨#[]⟩, .int .i64 (n : Int), .slice none 0 0, .slice none 0 0]) (by simp [results, Tryz.results101, go_sem, u0, u1, u2, u3, u4, u5]) rfl HD.out
set_option maxHeartbeats 4000000 in
set_option maxRecDepth 100000 in
theorem key_since (rb c B d : Nat) (x : Sr.Ar) (l : List Sr.Ar) (v : Value) (Ok : Nat → Prop) (w : World) (henv : EnvB w rb) (hr : RdS w rb v c) (hl : Ags w Ok B (x :: l) v) (hB : B ≤ 2000000) (hrb : rb < w.heap.size) (hO : ∀ k, Ok k → k ≠ rb ∧ k < w.heap.size) (hd : d ≤ 6) (hc : c + 1 ≤ 60) (hx : x.kind ≠ 3) (hw : great x.text = [83, 73, 78, 67, 69]) :
    Calls Tryz.prog 101 #[.pointer (some ⟨rb, 0, none⟩), .int .i64 (d : Int)] w fun e w' => Out w rb B Ok ((Sr.wordF l (c + 1)).then fun s l c => (Sr.numF s l c).map fun (n : Nat) => .mk 10 [] [] (n : Int) [] []) e w' := by
  obtain ⟨RW, hwf⟩ : ∃ RW, Sr.wordF l (c + 1) = RW := ⟨_, rfl⟩
  rw [hwf]
  have HWF : Hid (Sr.wordF l (c + 1) = RW) := hwf
  have HENV : Hid (EnvB w rb) := henv
  obtain ⟨T, hT⟩ : ∃ T, (RW.then fun s l c => (Sr.numF s l c).map fun (n : Nat) => Sr.Ky.mk 10 [] [] (n : Int) [] []) = T := ⟨_, rfl⟩
  rw [hT]
  have HT0 : Hid ((RW.then fun s l c => (Sr.numF s l c).map fun (n : Nat) => Sr.Ky.mk 10 [] [] (n : Int) [] []) = T) := hT
  clear hwf henv hT
  obtain ⟨W1, W2, hW1, hW2, p1, f1, q1, q0, z2, hr2, hl2, hb2, hE2⟩ := key_begun rb c B (x :: l) v Ok w hr hl hrb hO
  have cW := word_ok rb (c + 1) B x l v Ok W2 hr2 hl2 (fun k hk => (hO k hk).1) hx
  obtain ⟨b, o, C, _, lv, rfl, hC, hC2, hOb, _, _, _, c1, _, _, _⟩ := hl2.head
  have hkb : (x.kind == 3) = false := by simpa using hx
  obtain ⟨K, hK⟩ : ∃ K, x.kind = K := ⟨_, rfl⟩
  rw [hK] at c1 hkb
  obtain ⟨L, hL⟩ : ∃ L, l.length = L := ⟨_, rfl⟩
  rw [hL] at q0 hC
  have HB : Hid (But w.heap.size rb w W2) := hb2
  have HE : Hid (W2.heap[w.heap.size]? = some (.cells #[.int .i64 0, .string ⟨#[]⟩, .string ⟨#[]⟩, .int .i64 0, .slice none 0 0, .slice none 0 0] 33 (0, 0))) := hE2
  have HO : Hid (∀ k, Ok k → k ≠ rb ∧ k < w.heap.size) := hO
  have HZ : Hid (W2.heap.size = w.heap.size + 1) := z2
  have HWD : Hid (great x.text = [83, 73, 78, 67, 69]) := hw
  have d1 : decide ((6 : Int) < (d : Int)) = false := decide_eq_false (by omega)
  have d2 : decide ((60 : Int) < (c : Int) + 1) = false := decide_eq_false (by omega)
  clear hr hl hO hr2 hl2 hb2 hE2 hL z2 hx hK hw
  go_enter Tryz.func101, Tryz.ntmps101
  go_wp2_with fail
  refine cW.mono ?_
  rintro e w3 ⟨tb, v3, htb, htz, rfl, hr3, hl3, hb3⟩
  have cG := great_is tb w3 (by omega)
  rw [htb, HWD.out, show (⟨([83, 73, 78, 67, 69] : List UInt8).toArray⟩ : ByteArray) = ⟨#[83, 73, 78, 67, 69]⟩ from rfl] at cG
  have hz := HZ.out
  have hs3 := hb3.size
  have HX : Hid (∀ W, Below w3.heap.size w3 W → RdS W rb v3 (c + 1) ∧ Ags W Ok B l v3 ∧ But w.heap.size rb w W ∧ W.heap[w.heap.size]? = some (.cells #[.int .i64 0, .string ⟨#[]⟩, .string ⟨#[]⟩, .int .i64 0, .slice none 0 0, .slice none 0 0] 33 (0, 0)) ∧ w.heap.size + 1 ≤ W.heap.size) := fun W hW =>
    ⟨hr3.kept (hW.block rb (by omega)), hl3.kept fun k hk hlt => ⟨hk, hW.block k hlt⟩, (HB.out.trans (hb3.less (by omega))).trans (to_but (hW.mono (by omega))), (hW.block w.heap.size (by omega)).trans ((hb3.block w.heap.size (by omega) (by omega)).trans HE.out), by have := hW.size; omega⟩
  clear cW hr3 hl3 hb3 htb
  go_wp2_with fail
  refine cG.mono ?_
  rintro e w4 ⟨rfl, hb4⟩
  obtain ⟨hr4, hl4, hbt, e4, hs4⟩ := HX.out w4 hb4
  clear cG HX
  have cM := measure_is ⟨#[83, 73, 78, 67, 69]⟩ w4 (by decide)
  rw [show (6 + ((Sr.wMeas.idxOf (⟨#[83, 73, 78, 67, 69]⟩ : ByteArray).data.toList : Nat) : Int)) = 10 from by decide] at cM
  have HM : Hid (Calls Tryz.prog 155 #[.string ⟨#[83, 73, 78, 67, 69]⟩] w4 fun e w' => e = .returned (.int .i64 10) ∧ w' = w4) := cM
  clear cM
  have hwf := HWF.out
  clear HWF
  cases RW with
  | bad n =>
    obtain rfl : n = 3 := by
      cases l with
      | nil => cases hwf; rfl
      | cons a r =>
        rw [Sr.wordF] at hwf
        split at hwf
        · cases hwf; rfl
        · cases hwf
    have cV := word_bad rb (c + 1) B l _ Ok w4 hr4 hl4 hwf
    unfold thrown at cV
    have HBT : Hid (But w.heap.size rb w w4) := hbt
    have hT := HT0.out
    clear hb4 hr4 hl4 hbt e4 hwf HT0
    subst hT
    go_wp2_with fail
    refine HM.out.mono ?_
    rintro e wq ⟨rfl, hwq⟩
    obtain rfl : w4 = wq := hwq.symm
    go_wp2_with fail
    refine cV.mono ?_
    rintro e w5 ⟨rfl, hw5⟩
    obtain rfl : w4 = w5 := hw5.symm
    go_wp2_with fail
    exact ⟨rfl, rfl, HBT.out⟩
  | ok t l5 c5 =>
    cases l with
    | nil => cases hwf
    | cons y r =>
      rw [Sr.wordF] at hwf
      split at hwf
      · cases hwf
      · rename_i hy
        cases hwf
        have cV := word_ok rb (c + 1) B y _ _ Ok w4 hr4 hl4 (fun k hk => (HO.out k hk).1) hy
        have HBT : Hid (But w.heap.size rb w w4) := hbt
        have HE4 : Hid (w4.heap[w.heap.size]? = some (.cells #[.int .i64 0, .string ⟨#[]⟩, .string ⟨#[]⟩, .int .i64 0, .slice none 0 0, .slice none 0 0] 33 (0, 0))) := e4
        clear hb4 hr4 hl4 hbt e4 hy
        go_wp2_with fail
        refine HM.out.mono ?_
        rintro e wq ⟨rfl, hwq⟩
        obtain rfl : w4 = wq := hwq.symm
        go_wp2_with fail
        refine cV.mono ?_
        rintro e w5 ⟨tb5, v5, htb5, htz5, rfl, hr5, hl5, hb5⟩
        have hb05 := HBT.out.trans (hb5.less (base' := w.heap.size) (by omega))
        have henv := HENV.out w5 hb05
        have e5 := (hb5.block w.heap.size (by omega) (by omega)).trans HE4.out
        have hs5 := hb5.size
        have HX5 : Hid (RdS w5 rb v5 (c + 1) ∧ Ags w5 Ok B l5 v5 ∧ But w.heap.size rb w w5 ∧ w5.heap[w.heap.size]? = some (.cells #[.int .i64 0, .string ⟨#[]⟩, .string ⟨#[]⟩, .int .i64 0, .slice none 0 0, .slice none 0 0] 33 (0, 0))) := ⟨hr5, hl5, hb05, e5⟩
        have HT : Hid (((Sr.numF y.text l5 (c + 1)).map fun (n : Nat) => Sr.Ky.mk 10 [] [] (n : Int) [] []) = T) := HT0.out
        cases hnn : Sr.numN y.text with
        | none =>
          have cF := number_bad tb5 w5 (by omega) henv.2.2.1 (by rw [htb5]; exact hnn)
          clear cV hr5 hl5 hb5 hb05 henv e5 htb5 HT0 HM
          go_wp2_with fail
          refine cF.mono ?_
          rintro e w6 ⟨rfl, hb6⟩
          have HB6 : Hid (But w.heap.size rb w w6) := HX5.out.2.2.1.trans (to_but (hb6.mono (by omega)))
          have hT := HT.out
          rw [Sr.numF, hnn] at hT
          subst hT
          clear HT HX5 hb6 hnn cF
          unfold thrown
          go_wp2_with fail
          exact ⟨rfl, rfl, HB6.out⟩
        | some n =>
          have cF := number_ok tb5 n w5 (by omega) henv.2.2.1 (by rw [htb5]; exact hnn)
          clear cV hr5 hl5 hb5 hb05 henv e5 htb5 HT0 HM
          go_wp2_with fail
          refine cF.mono ?_
          rintro e w6 ⟨rfl, hb6⟩
          have hT := HT.out
          rw [Sr.numF, hnn] at hT
          subst hT
          obtain ⟨hr5, hl5, hb05, e5⟩ := HX5.out
          have e6 := (hb6.block w.heap.size (by omega)).trans e5
          have HKX : Hid (Kx w6 (fun q => w.heap.size + 1 ≤ q) (.mk 10 [] [] (n : Int) [] []) [.int .i64 10, .string ⟨#[]⟩, .string ⟨#[]⟩, .int .i64 (n : Int), .slice none 0 0, .slice none 0 0]) := kx_leaf w6 _ 10 (n : Int) ⟨#[]⟩ ⟨#[]⟩
          obtain ⟨⟨s0, s1, s2, s3, s4, s5⟩, ⟨sf0, sf1, sf2, sf3, sf4, sf5⟩, u0, u1, u2, u3, u4, u5⟩ := six_facts e6 (.int .i64 10) (.string ⟨#[]⟩) (.string ⟨#[]⟩) (.int .i64 (n : Int)) (.slice none 0 0) (.slice none 0 0)
          have HD : Hid (Out w rb B Ok (.ok (.mk 10 [] [] (n : Int) [] []) l5 (c + 1)) (.returned (.agg #[.int .i64 10, .string ⟨#[]⟩, .string ⟨#[]⟩, .int .i64 (n : Int), .slice none 0 0, .slice none 0 0])) _) := key_done hrb HO.out (HKX.out) (hr5.kept (hb6.block rb (by omega))) (hl5.kept fun k hk hlt => ⟨hk, hb6.block k hlt⟩) (hb05.trans (to_but (hb6.mono (by omega))))
          clear HT HX5 hr5 hl5 hb05 e5 e6 hb6 hnn cF HKX
          go_wp2_with fail
          exact bodyPost_ret (v := .agg #[.int .i64 10, .string ⟨#[]⟩, .string ⟨#[]⟩, .int .i64 (n : Int), .slice none 0 0, .slice none 0 0]) (by simp [results, Tryz.results101, go_sem, u0, u1, u2, u3, u4, u5]) rfl HD.out
end Go.Proofs.YtligkpcoajnjmaaGreatDoorR
