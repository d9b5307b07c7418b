/-
  What key of package search does at UNKEYWORD, and more.
-/
import Derived.Test.YtogigccbnohjjaaGreatDoorBpSearchAll
namespace Go.Proofs.YtogigccbnohjjaaGreatDoor
open Go.RowKit Go.Proofs.Aid Go.Proofs.Sq Go.Proofs.Hd
set_option maxHeartbeats 4000000
set_option maxRecDepth 100000
theorem key_unkeyword (rb c B d : Nat) (x : Sr.Ar) (l : List Sr.Ar) (v : Value) (Ok : Nat → Prop) (w : World) (henv : EnvB w rb) (hr : RdS w rb v c) (hl : Ags w Ok B (x :: l) v) (hB : B ≤ 2000000) (hrb : rb < w.heap.size) (hO : ∀ k, Ok k → k ≠ rb ∧ k < w.heap.size) (hd : d ≤ 6) (hc : c + 1 ≤ 60) (hx : x.kind ≠ 3) (hw : great x.text = [85, 78, 75, 69, 89, 87, 79, 82, 68]) :
  Calls Tryz.prog 38 #[.pointer (some ⟨rb, 0, none⟩), .int .i64 (d : Int)] w fun e w' => Out w rb B Ok (((Sr.wordF l (c + 1)).then fun s l c => Sr.flagF s l c).map Sr.notK) e w' := by
 obtain ⟨RW, hwf⟩ : ∃ RW, Sr.wordF l (c + 1) = RW := ⟨_, rfl⟩
 rw [hwf]
 have HWF : Hid (Sr.wordF l (c + 1) = RW) := hwf
 have HENV : Hid (EnvB w rb) := henv
 obtain ⟨T, hT⟩ : ∃ T, ((RW.then fun s l c => Sr.flagF s l c).map Sr.notK) = T := ⟨_, rfl⟩
 rw [hT]
 have HT0 : Hid (((RW.then fun s l c => Sr.flagF s l c).map Sr.notK) = T) := hT
 clear hwf henv hT
 obtain ⟨W1, W2, hW1, hW2, p1, f1, q1, q0, z2, hr2, hl2, hb2, hE2⟩ := key_begun rb c B (x :: l) v Ok w hr hl hrb hO
 have cW := word_ok rb (c + 1) B x l v Ok W2 hr2 hl2 (fun k hk => (hO k hk).1) hx
 obtain ⟨b, o, C, _, lv, rfl, hC, hC2, hOb, _, _, _, c1, _, _, _⟩ := hl2.head
 have hkb : (x.kind == 3) = false := by simpa using hx
 obtain ⟨K, hK⟩ : ∃ K, x.kind = K := ⟨_, rfl⟩
 rw [hK] at c1 hkb
 obtain ⟨L, hL⟩ : ∃ L, l.length = L := ⟨_, rfl⟩
 rw [hL] at q0 hC
 have HB : Hid (But w.heap.size rb w W2) := hb2
 have HE : Hid (W2.heap[w.heap.size]? = some (.cells #[.int .i64 0, .string ⟨#[]⟩, .string ⟨#[]⟩, .int .i64 0, .slice none 0 0, .slice none 0 0] 32 (0, 0))) := hE2
 have HO : Hid (∀ k, Ok k → k ≠ rb ∧ k < w.heap.size) := hO
 have HZ : Hid (W2.heap.size = w.heap.size + 1) := z2
 have HWD : Hid (great x.text = [85, 78, 75, 69, 89, 87, 79, 82, 68]) := hw
 have d1 : decide ((6 : Int) < (d : Int)) = false := decide_eq_false (by omega)
 have d2 : decide ((60 : Int) < (c : Int) + 1) = false := decide_eq_false (by omega)
 clear hr hl hO hr2 hl2 hb2 hE2 hL z2 hx hK hw
 go_enter Tryz.func38, Tryz.ntmps38
 go_wp2_with fail
 refine cW.mono ?_
 rintro e w3 ⟨tb, v3, htb, htz, rfl, hr3, hl3, hb3⟩
 have cG := great_is tb w3 (by omega)
 rw [htb, HWD.out, show (⟨([85, 78, 75, 69, 89, 87, 79, 82, 68] : List UInt8).toArray⟩ : ByteArray) = ⟨#[85, 78, 75, 69, 89, 87, 79, 82, 68]⟩ from rfl] at cG
 have hz := HZ.out
 have hs3 := hb3.size
 have HX : Hid (∀ W, Below w3.heap.size w3 W → RdS W rb v3 (c + 1) ∧ Ags W Ok B l v3 ∧ But w.heap.size rb w W ∧ W.heap[w.heap.size]? = some (.cells #[.int .i64 0, .string ⟨#[]⟩, .string ⟨#[]⟩, .int .i64 0, .slice none 0 0, .slice none 0 0] 32 (0, 0)) ∧ w.heap.size + 1 ≤ W.heap.size) := fun W hW =>
  ⟨hr3.kept (hW.block rb (by omega)), hl3.kept fun k hk hlt => ⟨hk, hW.block k hlt⟩, (HB.out.trans (hb3.less (by omega))).trans (to_but (hW.mono (by omega))), (hW.block w.heap.size (by omega)).trans ((hb3.block w.heap.size (by omega) (by omega)).trans HE.out), by have := hW.size; omega⟩
 clear cW hr3 hl3 hb3 htb
 go_wp2_with fail
 refine cG.mono ?_
 rintro e w4 ⟨rfl, hb4⟩
 obtain ⟨hr4, hl4, hbt, e4, hs4⟩ := HX.out w4 hb4
 clear cG HX
 have hwf := HWF.out
 clear HWF
 cases RW with
 | bad n =>
  obtain rfl : n = 3 := by
   cases l with
   | nil => cases hwf; rfl
   | cons a r =>
    rw [Sr.wordF] at hwf
    split at hwf
    ·cases hwf; rfl
    ·cases hwf
  have cV := word_bad rb (c + 1) B l _ Ok w4 hr4 hl4 hwf
  unfold thrown at cV
  have HBT : Hid (But w.heap.size rb w w4) := hbt
  have hT := HT0.out
  clear hb4 hr4 hl4 hbt e4 hwf HT0
  subst hT
  go_wp2_with fail
  refine cV.mono ?_
  rintro e w5 ⟨rfl, hw5⟩
  obtain rfl : w4 = w5 := hw5.symm
  go_wp2_with fail
  exact ⟨rfl, rfl, HBT.out⟩
 | ok t l5 c5 =>
  cases l with
  | nil => cases hwf
  | cons y r =>
   rw [Sr.wordF] at hwf
   split at hwf
   ·cases hwf
   ·rename_i hy
    cases hwf
    have cV := word_ok rb (c + 1) B y _ _ Ok w4 hr4 hl4 (fun k hk => (HO.out k hk).1) hy
    have HBT : Hid (But w.heap.size rb w w4) := hbt
    have HE4 : Hid (w4.heap[w.heap.size]? = some (.cells #[.int .i64 0, .string ⟨#[]⟩, .string ⟨#[]⟩, .int .i64 0, .slice none 0 0, .slice none 0 0] 32 (0, 0))) := e4
    clear hb4 hr4 hl4 hbt e4 hy
    go_wp2_with fail
    refine cV.mono ?_
    rintro e w5 ⟨tb5, v5, htb5, htz5, rfl, hr5, hl5, hb5⟩
    have hb05 := HBT.out.trans (hb5.less (base' := w.heap.size) (by omega))
    have henv := HENV.out w5 hb05
    have e5 := (hb5.block w.heap.size (by omega) (by omega)).trans HE4.out
    have hs5 := hb5.size
    have HX5 : Hid (RdS w5 rb v5 (c + 1) ∧ Ags w5 Ok B l5 v5 ∧ But w.heap.size rb w w5 ∧ w5.heap[w.heap.size]? = some (.cells #[.int .i64 0, .string ⟨#[]⟩, .string ⟨#[]⟩, .int .i64 0, .slice none 0 0, .slice none 0 0] 32 (0, 0))) := ⟨hr5, hl5, hb05, e5⟩
    have cF := flag_is tb5 w5 (by omega) henv.1 henv.2.1
    rw [htb5] at cF
    have HT : Hid ((Sr.flagF y.text l5 (c + 1)).map Sr.notK = T) := HT0.out
    clear cV hr5 hl5 hb5 hb05 henv e5 htb5 HT0
    go_wp2_with fail
    refine cF.mono ?_
    rintro e w6 ⟨h6, hb6⟩
    clear cF
    rcases h6 with ⟨h0, ys, rfl, hk6⟩ | ⟨h0, rfl⟩
    ·have hT := HT.out
     rw [Sr.flagF, if_pos h0] at hT
     subst hT
     have cN := not_is (Sr.flagK (Fl.fname y.text).1) ys (fun _ => False) w6 hk6
     obtain ⟨x0, x3, x1, x2, xa, xk, xc, ya, yk, yc, rfl⟩ := kx_cells hk6
     have hta : ([.int .i64 x0, .string x1, .string x2, .int .i64 x3, .slice xa xk xc, .slice ya yk yc] : List Value).toArray = #[.int .i64 x0, .string x1, .string x2, .int .i64 x3, .slice xa xk xc, .slice ya yk yc] := rfl
     rw [hta] at cN ⊢
     have HB6 : Hid (Below w5.heap.size w5 w6) := hb6
     clear hk6 hb6 hta h0 HT
     go_wp2_with fail
     refine cN.mono ?_
     rintro e w7 ⟨zs, rfl, hk7, hb7⟩
     clear cN
     obtain ⟨x0, x3, x1, x2, xa, xk, xc, ya, yk, yc, rfl⟩ := kx_cells hk7
     have hta : ([.int .i64 x0, .string x1, .string x2, .int .i64 x3, .slice xa xk xc, .slice ya yk yc] : List Value).toArray = #[.int .i64 x0, .string x1, .string x2, .int .i64 x3, .slice xa xk xc, .slice ya yk yc] := rfl
     rw [hta]
     have hbb := HB6.out
     have hb57 := hbb.trans (hb7.mono hbb.size)
     obtain ⟨hr5, hl5, hb05, e5⟩ := HX5.out
     have e6 := (hb57.block w.heap.size (by omega)).trans e5
     have hz6 := hbb.size
     obtain ⟨⟨s0, s1, s2, s3, s4, s5⟩, ⟨sf0, sf1, sf2, sf3, sf4, sf5⟩, u0, u1, u2, u3, u4, u5⟩ := six_facts e6 (.int .i64 x0) (.string x1) (.string x2) (.int .i64 x3) (.slice xa xk xc) (.slice ya yk yc)
     have HD : Hid (Out w rb B Ok (.ok (Sr.notK (Sr.flagK (Fl.fname y.text).1)) l5 (c + 1)) (.returned (.agg #[.int .i64 x0, .string x1, .string x2, .int .i64 x3, .slice xa xk xc, .slice ya yk yc])) _) := key_done hrb HO.out (hk7.kept fun q hq _ => ⟨hq.elim (fun h => h.elim) (fun h => by omega), rfl⟩) (hr5.kept (hb57.block rb (by omega))) (hl5.kept fun k hk hlt => ⟨hk, hb57.block k hlt⟩) (hb05.trans (to_but (hb57.mono (by omega))))
     clear HX5 hr5 hl5 hb05 e5 e6 hb57 hbb hb7 hk7 hta HB6
     go_wp2_with fail
     exact bodyPost_ret (v := .agg #[.int .i64 x0, .string x1, .string x2, .int .i64 x3, .slice xa xk xc, .slice ya yk yc]) (by simp [results, Tryz.results38, go_sem, u0, u1, u2, u3, u4, u5]) rfl HD.out
    ·have hT := HT.out
     rw [Sr.flagF, if_neg h0] at hT
     have HB6 : Hid (But w.heap.size rb w w6) := HX5.out.2.2.1.trans (to_but (hb6.mono (by omega)))
     subst hT
     clear HT HX5 hb6 h0
     unfold thrown
     go_wp2_with fail
     exact ⟨rfl, rfl, HB6.out⟩
end Go.Proofs.YtogigccbnohjjaaGreatDoor
namespace Go.Proofs.YtogigccbnohjjaaGreatDoor
open Go.RowKit Go.Proofs.Aid Go.Proofs.Sq Go.Proofs.Hd
set_option maxHeartbeats 4000000
set_option maxRecDepth 100000
theorem word_or (l : List Sr.Ar) (c : Nat) : Sr.wordF l c = .bad 3 ∨ ∃ z l6, l = z :: l6 ∧ z.kind ≠ 3 ∧ Sr.wordF l c = .ok z.text l6 c := by
 cases l with
 | nil => exact Or.inl rfl
 | cons z l6 =>
  by_cases h : z.kind = 3
  ·exact Or.inl (by rw [Sr.wordF, if_pos h])
  ·exact Or.inr ⟨z, l6, rfl, h, by rw [Sr.wordF, if_neg h]⟩
theorem key_header (rb c B d : Nat) (x : Sr.Ar) (l : List Sr.Ar) (v : Value) (Ok : Nat → Prop) (w : World) (henv : EnvB w rb) (hr : RdS w rb v c) (hl : Ags w Ok B (x :: l) v) (hB : B ≤ 2000000) (hrb : rb < w.heap.size) (hO : ∀ k, Ok k → k ≠ rb ∧ k < w.heap.size) (hd : d ≤ 6) (hc : c + 1 ≤ 60) (hx : x.kind ≠ 3) (hw : great x.text = Sr.wHeader) :
  Calls Tryz.prog 38 #[.pointer (some ⟨rb, 0, none⟩), .int .i64 (d : Int)] w fun e w' => Out w rb B Ok ((Sr.wordF l (c + 1)).then fun n l c => (Sr.wordF l c).map fun s => .mk 3 (small n) s 0 [] []) e w' := by
 obtain ⟨RW, hwf⟩ : ∃ RW, Sr.wordF l (c + 1) = RW := ⟨_, rfl⟩
 rw [hwf]
 have HWF : Hid (Sr.wordF l (c + 1) = RW) := hwf
 have HENV : Hid (EnvB w rb) := henv
 obtain ⟨T, hT⟩ : ∃ T, (RW.then fun n l c => (Sr.wordF l c).map fun s => Sr.Ky.mk 3 (small n) s 0 [] []) = T := ⟨_, rfl⟩
 rw [hT]
 have HT0 : Hid ((RW.then fun n l c => (Sr.wordF l c).map fun s => Sr.Ky.mk 3 (small n) s 0 [] []) = T) := hT
 clear hwf henv hT
 obtain ⟨W1, W2, hW1, hW2, p1, f1, q1, q0, z2, hr2, hl2, hb2, hE2⟩ := key_begun rb c B (x :: l) v Ok w hr hl hrb hO
 have cW := word_ok rb (c + 1) B x l v Ok W2 hr2 hl2 (fun k hk => (hO k hk).1) hx
 obtain ⟨b, o, C, _, lv, rfl, hC, hC2, hOb, _, _, _, c1, _, _, _⟩ := hl2.head
 have hkb : (x.kind == 3) = false := by simpa using hx
 obtain ⟨K, hK⟩ : ∃ K, x.kind = K := ⟨_, rfl⟩
 rw [hK] at c1 hkb
 obtain ⟨L, hL⟩ : ∃ L, l.length = L := ⟨_, rfl⟩
 rw [hL] at q0 hC
 have HB : Hid (But w.heap.size rb w W2) := hb2
 have HE : Hid (W2.heap[w.heap.size]? = some (.cells #[.int .i64 0, .string ⟨#[]⟩, .string ⟨#[]⟩, .int .i64 0, .slice none 0 0, .slice none 0 0] 32 (0, 0))) := hE2
 have HO : Hid (∀ k, Ok k → k ≠ rb ∧ k < w.heap.size) := hO
 have HZ : Hid (W2.heap.size = w.heap.size + 1) := z2
 have HWD : Hid (great x.text = Sr.wHeader) := hw
 have d1 : decide ((6 : Int) < (d : Int)) = false := decide_eq_false (by omega)
 have d2 : decide ((60 : Int) < (c : Int) + 1) = false := decide_eq_false (by omega)
 clear hr hl hO hr2 hl2 hb2 hE2 hL z2 hx hK hw
 go_enter Tryz.func38, Tryz.ntmps38
 go_wp2_with fail
 refine cW.mono ?_
 rintro e w3 ⟨tb, v3, htb, htz, rfl, hr3, hl3, hb3⟩
 have cG := great_is tb w3 (by omega)
 rw [htb, HWD.out, show (⟨(Sr.wHeader : List UInt8).toArray⟩ : ByteArray) = ⟨#[72, 69, 65, 68, 69, 82]⟩ from rfl] at cG
 have hz := HZ.out
 have hs3 := hb3.size
 have HX : Hid (∀ W, Below w3.heap.size w3 W → RdS W rb v3 (c + 1) ∧ Ags W Ok B l v3 ∧ But w.heap.size rb w W ∧ W.heap[w.heap.size]? = some (.cells #[.int .i64 0, .string ⟨#[]⟩, .string ⟨#[]⟩, .int .i64 0, .slice none 0 0, .slice none 0 0] 32 (0, 0)) ∧ w.heap.size + 1 ≤ W.heap.size) := fun W hW =>
  ⟨hr3.kept (hW.block rb (by omega)), hl3.kept fun k hk hlt => ⟨hk, hW.block k hlt⟩, (HB.out.trans (hb3.less (by omega))).trans (to_but (hW.mono (by omega))), (hW.block w.heap.size (by omega)).trans ((hb3.block w.heap.size (by omega) (by omega)).trans HE.out), by have := hW.size; omega⟩
 clear cW hr3 hl3 hb3 htb
 go_wp2_with fail
 refine cG.mono ?_
 rintro e w4 ⟨rfl, hb4⟩
 obtain ⟨hr4, hl4, hbt, e4, hs4⟩ := HX.out w4 hb4
 clear cG HX
 have hwf := HWF.out
 clear HWF
 cases RW with
 | bad n =>
  obtain rfl : n = 3 := by
   cases l with
   | nil => cases hwf; rfl
   | cons a r =>
    rw [Sr.wordF] at hwf
    split at hwf
    ·cases hwf; rfl
    ·cases hwf
  have cV := word_bad rb (c + 1) B l _ Ok w4 hr4 hl4 hwf
  unfold thrown at cV
  have HBT : Hid (But w.heap.size rb w w4) := hbt
  have hT := HT0.out
  clear hb4 hr4 hl4 hbt e4 hwf HT0
  subst hT
  go_wp2_with fail
  refine cV.mono ?_
  rintro e w5 ⟨rfl, hw5⟩
  obtain rfl : w4 = w5 := hw5.symm
  go_wp2_with fail
  exact ⟨rfl, rfl, HBT.out⟩
 | ok t l5 c5 =>
  cases l with
  | nil => cases hwf
  | cons y r =>
   rw [Sr.wordF] at hwf
   split at hwf
   ·cases hwf
   ·rename_i hy
    cases hwf
    have cV := word_ok rb (c + 1) B y _ _ Ok w4 hr4 hl4 (fun k hk => (HO.out k hk).1) hy
    have HBT : Hid (But w.heap.size rb w w4) := hbt
    have HE4 : Hid (w4.heap[w.heap.size]? = some (.cells #[.int .i64 0, .string ⟨#[]⟩, .string ⟨#[]⟩, .int .i64 0, .slice none 0 0, .slice none 0 0] 32 (0, 0))) := e4
    clear hb4 hr4 hl4 hbt e4 hy
    go_wp2_with fail
    refine cV.mono ?_
    rintro e w5 ⟨tb5, v5, htb5, htz5, rfl, hr5, hl5, hb5⟩
    have hb05 := HBT.out.trans (hb5.less (base' := w.heap.size) (by omega))
    have henv := HENV.out w5 hb05
    have e5 := (hb5.block w.heap.size (by omega) (by omega)).trans HE4.out
    have hs5 := hb5.size
    have HX5 : Hid (RdS w5 rb v5 (c + 1) ∧ Ags w5 Ok B l5 v5 ∧ But w.heap.size rb w w5 ∧ w5.heap[w.heap.size]? = some (.cells #[.int .i64 0, .string ⟨#[]⟩, .string ⟨#[]⟩, .int .i64 0, .slice none 0 0, .slice none 0 0] 32 (0, 0))) := ⟨hr5, hl5, hb05, e5⟩
    have HT : Hid (((Sr.wordF l5 (c + 1)).map fun s => Sr.Ky.mk 3 (small y.text) s 0 [] []) = T) := HT0.out
    have HTB5 : Hid (tb5.data.toList = y.text) := htb5
    have HOK : Hid (∀ k, Ok k → k ≠ rb ∧ k < w5.heap.size) := fun k hk => ⟨(HO.out k hk).1, by have := (HO.out k hk).2; omega⟩
    have hs6 : w.heap.size < w5.heap.size := by omega
    clear cV henv htb5 HT0 hb5
    rcases word_or l5 (c + 1) with hw3 | ⟨z, l6, rfl, hz3, hw3⟩
    ·have cF := field_bad tb5 rb (c + 1) B l5 _ Ok w5 (by omega) hr5 hl5 (by omega) hw3
     unfold thrown at cF
     clear hr5 hl5 hb05 e5
     go_wp2_with fail
     refine cF.mono ?_
     rintro e w6 ⟨rfl, hb6⟩
     have HB6 : Hid (But w.heap.size rb w w6) := HX5.out.2.2.1.trans (to_but (hb6.mono (by omega)))
     have hT := HT.out
     rw [hw3] at hT
     subst hT
     clear HT HX5 hb6 hw3 cF
     go_wp2_with fail
     exact ⟨rfl, rfl, HB6.out⟩
    ·have cF := field_ok tb5 rb (c + 1) B z l6 _ Ok w5 (by omega) hr5 hl5 (by omega) HOK.out hz3
     clear hr5 hl5 hb05 e5
     go_wp2_with fail
     refine cF.mono ?_
     rintro e w6 ⟨ys, v6, rfl, hk6, hr6, hl6, hb6⟩
     have hT := HT.out
     rw [hw3] at hT
     subst hT
     obtain ⟨x0, x3, x1, x2, xa, xk, xc, ya, yk, yc, rfl⟩ := kx_cells hk6
     have hta : ([.int .i64 x0, .string x1, .string x2, .int .i64 x3, .slice xa xk xc, .slice ya yk yc] : List Value).toArray = #[.int .i64 x0, .string x1, .string x2, .int .i64 x3, .slice xa xk xc, .slice ya yk yc] := rfl
     rw [hta]
     rw [HTB5.out] at hk6
     obtain ⟨_, _, hb05, e5⟩ := HX5.out
     have e6 := (hb6.block w.heap.size (by omega) (by omega)).trans e5
     obtain ⟨⟨s0, s1, s2, s3, s4, s5⟩, ⟨sf0, sf1, sf2, sf3, sf4, sf5⟩, u0, u1, u2, u3, u4, u5⟩ := six_facts e6 (.int .i64 x0) (.string x1) (.string x2) (.int .i64 x3) (.slice xa xk xc) (.slice ya yk yc)
     have HD : Hid (Out w rb B Ok (.ok (.mk 3 (small y.text) z.text 0 [] []) l6 (c + 1)) (.returned (.agg #[.int .i64 x0, .string x1, .string x2, .int .i64 x3, .slice xa xk xc, .slice ya yk yc])) _) := key_done hrb HO.out (hk6.kept fun _ hq _ => hq.elim) hr6 hl6 (hb05.trans (hb6.less (by omega)))
     clear HT HX5 hb05 e5 e6 hb6 hk6 hta hw3 cF hr6 hl6
     go_wp2_with fail
     exact bodyPost_ret (v := .agg #[.int .i64 x0, .string x1, .string x2, .int .i64 x3, .slice xa xk xc, .slice ya yk yc]) (by simp [results, Tryz.results38, go_sem, u0, u1, u2, u3, u4, u5]) rfl HD.out
end Go.Proofs.YtogigccbnohjjaaGreatDoor
namespace Go.Proofs.YtogigccbnohjjaaGreatDoor
open Go.RowKit Go.Proofs.Aid Go.Proofs.Sq Go.Proofs.Hd
set_option maxHeartbeats 20000000
set_option maxRecDepth 100000
theorem key_sys (rb c B d : Nat) (x : Sr.Ar) (l : List Sr.Ar) (v : Value) (Ok : Nat → Prop) (w : World) (henv : EnvB w rb) (hr : RdS w rb v c) (hl : Ags w Ok B (x :: l) v) (hB : B ≤ 2000000) (hrb : rb < w.heap.size) (hO : ∀ k, Ok k → k ≠ rb ∧ k < w.heap.size) (hd : d ≤ 6) (hc : c + 1 ≤ 60) (hx : x.kind ≠ 3) (bs : Sr.Tx) (hbs : bs ∈ Sr.wSys) (hw : great x.text = bs) :
  Calls Tryz.prog 38 #[.pointer (some ⟨rb, 0, none⟩), .int .i64 (d : Int)] w fun e w' => Out w rb B Ok (Sr.flagF (92 :: bs) l (c + 1)) e w' := by
 have HENV : Hid (EnvB w rb) := henv
 obtain ⟨T, hT⟩ : ∃ T, Sr.flagF (92 :: bs) l (c + 1) = T := ⟨_, rfl⟩
 rw [hT]
 have HT : Hid (Sr.flagF (92 :: bs) l (c + 1) = T) := hT
 clear henv hT
 obtain ⟨W1, W2, hW1, hW2, p1, f1, q1, q0, z2, hr2, hl2, hb2, hE2⟩ := key_begun rb c B (x :: l) v Ok w hr hl hrb hO
 have cW := word_ok rb (c + 1) B x l v Ok W2 hr2 hl2 (fun k hk => (hO k hk).1) hx
 obtain ⟨b, o, C, _, lv, rfl, hC, hC2, hOb, _, _, _, c1, _, _, _⟩ := hl2.head
 have hkb : (x.kind == 3) = false := by simpa using hx
 obtain ⟨K, hK⟩ : ∃ K, x.kind = K := ⟨_, rfl⟩
 rw [hK] at c1 hkb
 obtain ⟨L, hL⟩ : ∃ L, l.length = L := ⟨_, rfl⟩
 rw [hL] at q0 hC
 have HB : Hid (But w.heap.size rb w W2) := hb2
 have HE : Hid (W2.heap[w.heap.size]? = some (.cells #[.int .i64 0, .string ⟨#[]⟩, .string ⟨#[]⟩, .int .i64 0, .slice none 0 0, .slice none 0 0] 32 (0, 0))) := hE2
 have HO : Hid (∀ k, Ok k → k ≠ rb ∧ k < w.heap.size) := hO
 have HZ : Hid (W2.heap.size = w.heap.size + 1) := z2
 have HWD : Hid (great x.text = bs) := hw
 have d1 : decide ((6 : Int) < (d : Int)) = false := decide_eq_false (by omega)
 have d2 : decide ((60 : Int) < (c : Int) + 1) = false := decide_eq_false (by omega)
 clear hr hl hO hr2 hl2 hb2 hE2 hL z2 hx hK hw
 have hbl : bs.length ≤ 20 := (show ∀ b ∈ Sr.wSys, b.length ≤ 20 by decide) bs hbs
 have HCF : Hid (∀ W, SysAt W → ErrType W → Calls Tryz.prog 66 #[.string ⟨(92 :: bs).toArray⟩] W fun e w' => (((Fl.fname (92 :: bs)).2 = 0 ∧ ∃ ys, e = .returned (.agg ys.toArray) ∧ Kx w' (fun _ => False) (Sr.flagK (Fl.fname (92 :: bs)).1) ys) ∨ ((Fl.fname (92 :: bs)).2 ≠ 0 ∧ e = thrown (Fl.fname (92 :: bs)).2)) ∧ Below W.heap.size W w') := fun W h1 h2 => flag_is ⟨(92 :: bs).toArray⟩ W (by show (92 :: bs).toArray.size ≤ _; simp; omega) h1 h2
 clear hbl
 simp only [Sr.wSys, List.mem_cons, List.not_mem_nil, or_false] at hbs
 rcases hbs with rfl | rfl | rfl | rfl | rfl
 all_goals
  go_enter Tryz.func38, Tryz.ntmps38
  go_wp2_with fail
  refine cW.mono ?_
  rintro e w3 ⟨tb, v3, htb, htz, rfl, hr3, hl3, hb3⟩
  have cG := great_is tb w3 (by omega)
  rw [htb, HWD.out] at cG
  have hz := HZ.out
  have hs3 := hb3.size
  have HX : Hid (∀ W, Below w3.heap.size w3 W → RdS W rb v3 (c + 1) ∧ Ags W Ok B l v3 ∧ But w.heap.size rb w W ∧ W.heap[w.heap.size]? = some (.cells #[.int .i64 0, .string ⟨#[]⟩, .string ⟨#[]⟩, .int .i64 0, .slice none 0 0, .slice none 0 0] 32 (0, 0)) ∧ w.heap.size + 1 ≤ W.heap.size) := fun W hW =>
   ⟨hr3.kept (hW.block rb (by omega)), hl3.kept fun k hk hlt => ⟨hk, hW.block k hlt⟩, (HB.out.trans (hb3.less (by omega))).trans (to_but (hW.mono (by omega))), (hW.block w.heap.size (by omega)).trans ((hb3.block w.heap.size (by omega) (by omega)).trans HE.out), by have := hW.size; omega⟩
  clear cW hr3 hl3 hb3 htb
  go_wp2_with fail
  refine cG.mono ?_
  rintro e w4 ⟨rfl, hb4⟩
  obtain ⟨hr4, hl4, hbt, e4, hs4⟩ := HX.out w4 hb4
  clear cG HX
  have henv := HENV.out w4 hbt
  have cF := HCF.out w4 henv.1 henv.2.1
  have HX5 : Hid (RdS w4 rb v3 (c + 1) ∧ Ags w4 Ok B l v3 ∧ But w.heap.size rb w w4 ∧ w4.heap[w.heap.size]? = some (.cells #[.int .i64 0, .string ⟨#[]⟩, .string ⟨#[]⟩, .int .i64 0, .slice none 0 0, .slice none 0 0] 32 (0, 0))) := ⟨hr4, hl4, hbt, e4⟩
  clear hb4 hr4 hl4 hbt e4 henv
  go_wp2_with fail
  refine cF.mono ?_
  rintro e w6 ⟨h6, hb6⟩
  clear cF
  rcases h6 with ⟨h0, ys, rfl, hk6⟩ | ⟨h0, rfl⟩
  ·have hT := HT.out
   rw [Sr.flagF, if_pos h0] at hT
   subst hT
   obtain ⟨x0, x3, x1, x2, xa, xk, xc, ya, yk, yc, rfl⟩ := kx_cells hk6
   have hta : ([.int .i64 x0, .string x1, .string x2, .int .i64 x3, .slice xa xk xc, .slice ya yk yc] : List Value).toArray = #[.int .i64 x0, .string x1, .string x2, .int .i64 x3, .slice xa xk xc, .slice ya yk yc] := rfl
   rw [hta]
   obtain ⟨hr5, hl5, hb05, e5⟩ := HX5.out
   have e6 := (hb6.block w.heap.size (by omega)).trans e5
   obtain ⟨⟨s0, s1, s2, s3, s4, s5⟩, ⟨sf0, sf1, sf2, sf3, sf4, sf5⟩, u0, u1, u2, u3, u4, u5⟩ := six_facts e6 (.int .i64 x0) (.string x1) (.string x2) (.int .i64 x3) (.slice xa xk xc) (.slice ya yk yc)
   have HD : Hid (Out w rb B Ok (.ok _ l (c + 1)) (.returned (.agg #[.int .i64 x0, .string x1, .string x2, .int .i64 x3, .slice xa xk xc, .slice ya yk yc])) _) := key_done hrb HO.out (hk6.kept fun _ hq _ => hq.elim) (hr5.kept (hb6.block rb (by omega))) (hl5.kept fun k hk hlt => ⟨hk, hb6.block k hlt⟩) (hb05.trans (to_but (hb6.mono (by omega))))
   clear HT HX5 hr5 hl5 hb05 e5 e6 hb6 hk6 hta h0
   go_wp2_with fail
   exact bodyPost_ret (v := .agg #[.int .i64 x0, .string x1, .string x2, .int .i64 x3, .slice xa xk xc, .slice ya yk yc]) (by simp [results, Tryz.results38, go_sem, u0, u1, u2, u3, u4, u5]) rfl HD.out
  ·have hT := HT.out
   rw [Sr.flagF, if_neg h0] at hT
   have HB6 : Hid (But w.heap.size rb w w6) := HX5.out.2.2.1.trans (to_but (hb6.mono (by omega)))
   subst hT
   clear HT HX5 hb6 h0
   unfold thrown
   go_wp2_with fail
   exact ⟨rfl, rfl, HB6.out⟩
end Go.Proofs.YtogigccbnohjjaaGreatDoor
