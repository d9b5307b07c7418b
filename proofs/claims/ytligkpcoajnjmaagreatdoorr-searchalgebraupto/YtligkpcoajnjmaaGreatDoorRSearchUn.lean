/-
  What key of package search does at UNSEEN, UNANSWERED, UNFLAGGED, UNDELETED, UNDRAFT.
-/
import Derived.Test.YtligkpcoajnjmaaGreatDoorRAl16
namespace Go.Proofs.YtligkpcoajnjmaaGreatDoorR
open Go.RowKit Go.Proofs.Aid Go.Proofs.Sq Go.Proofs.Hd

set_option maxHeartbeats 4000000 in
set_option maxRecDepth 100000 in
theorem key_unseen (rb c B d : Nat) (x : Sr.Ar) (l : List Sr.Ar) (v : Value) (Ok : Nat → Prop) (w : World) (henv : EnvB w rb) (hr : RdS w rb v c) (hl : Ags w Ok B (x :: l) v) (hB : B ≤ 2000000) (hrb : rb < w.heap.size) (hO : ∀ k, Ok k → k ≠ rb ∧ k < w.heap.size) (hd : d ≤ 6) (hc : c + 1 ≤ 60) (hx : x.kind ≠ 3) (hw : great x.text = [85, 78, 83, 69, 69, 78]) :
    Calls Tryz.prog 101 #[.pointer (some ⟨rb, 0, none⟩), .int .i64 (d : Int)] w fun e w' => Out w rb B Ok ((Sr.flagF [92, 83, 69, 69, 78] l (c + 1)).map Sr.notK) e w' := by
  have HENV : Hid (EnvB w rb) := henv
  obtain ⟨T, hT⟩ : ∃ T, (Sr.flagF [92, 83, 69, 69, 78] l (c + 1)).map Sr.notK = T := ⟨_, rfl⟩
  rw [hT]
  have HT : Hid ((Sr.flagF [92, 83, 69, 69, 78] l (c + 1)).map Sr.notK = T) := hT
  clear henv hT
  obtain ⟨W1, W2, hW1, hW2, p1, f1, q1, q0, z2, hr2, hl2, hb2, hE2⟩ := key_begun rb c B (x :: l) v Ok w hr hl hrb hO
  have cW := word_ok rb (c + 1) B x l v Ok W2 hr2 hl2 (fun k hk => (hO k hk).1) hx
  obtain ⟨b, o, C, _, lv, rfl, hC, hC2, hOb, _, _, _, c1, _, _, _⟩ := hl2.head
  have hkb : (x.kind == 3) = false := by simpa using hx
  obtain ⟨K, hK⟩ : ∃ K, x.kind = K := ⟨_, rfl⟩
  rw [hK] at c1 hkb
  obtain ⟨L, hL⟩ : ∃ L, l.length = L := ⟨_, rfl⟩
  rw [hL] at q0 hC
  have HB : Hid (But w.heap.size rb w W2) := hb2
  have HE : Hid (W2.heap[w.heap.size]? = some (.cells #[.int .i64 0, .string ⟨#[]⟩, .string ⟨#[]⟩, .int .i64 0, .slice none 0 0, .slice none 0 0] 33 (0, 0))) := hE2
  have HO : Hid (∀ k, Ok k → k ≠ rb ∧ k < w.heap.size) := hO
  have HZ : Hid (W2.heap.size = w.heap.size + 1) := z2
  have HWD : Hid (great x.text = [85, 78, 83, 69, 69, 78]) := hw
  have d1 : decide ((6 : Int) < (d : Int)) = false := decide_eq_false (by omega)
  have d2 : decide ((60 : Int) < (c : Int) + 1) = false := decide_eq_false (by omega)
  clear hr hl hO hr2 hl2 hb2 hE2 hL z2 hx hK hw
  go_enter Tryz.func101, Tryz.ntmps101
  go_wp2_with fail
  refine cW.mono ?_
  rintro e w3 ⟨tb, v3, htb, htz, rfl, hr3, hl3, hb3⟩
  have cG := great_is tb w3 (by omega)
  rw [htb, HWD.out, show (⟨([85, 78, 83, 69, 69, 78] : List UInt8).toArray⟩ : ByteArray) = ⟨#[85, 78, 83, 69, 69, 78]⟩ from rfl] at cG
  have hz := HZ.out
  have hs3 := hb3.size
  have HX : Hid (∀ W, Below w3.heap.size w3 W → RdS W rb v3 (c + 1) ∧ Ags W Ok B l v3 ∧ But w.heap.size rb w W ∧ W.heap[w.heap.size]? = some (.cells #[.int .i64 0, .string ⟨#[]⟩, .string ⟨#[]⟩, .int .i64 0, .slice none 0 0, .slice none 0 0] 33 (0, 0)) ∧ w.heap.size + 1 ≤ W.heap.size) := fun W hW =>
    ⟨hr3.kept (hW.block rb (by omega)), hl3.kept fun k hk hlt => ⟨hk, hW.block k hlt⟩, (HB.out.trans (hb3.less (by omega))).trans (to_but (hW.mono (by omega))), (hW.block w.heap.size (by omega)).trans ((hb3.block w.heap.size (by omega) (by omega)).trans HE.out), by have := hW.size; omega⟩
  clear cW hr3 hl3 hb3 htb
  go_wp2_with fail
  refine cG.mono ?_
  rintro e w4 ⟨rfl, hb4⟩
  obtain ⟨hr4, hl4, hbt, e4, hs4⟩ := HX.out w4 hb4
  clear cG HX
  have henv := HENV.out w4 hbt
  have cF := flag_is ⟨#[92, 83, 69, 69, 78]⟩ w4 (by decide) henv.1 henv.2.1
  rw [show (⟨#[92, 83, 69, 69, 78]⟩ : ByteArray).data.toList = [92, 83, 69, 69, 78] from rfl] at cF
  have HX5 : Hid (RdS w4 rb v3 (c + 1) ∧ Ags w4 Ok B l v3 ∧ But w.heap.size rb w w4 ∧ w4.heap[w.heap.size]? = some (.cells #[.int .i64 0, .string ⟨#[]⟩, .string ⟨#[]⟩, .int .i64 0, .slice none 0 0, .slice none 0 0] 33 (0, 0))) := ⟨hr4, hl4, hbt, e4⟩
  clear hb4 hr4 hl4 hbt e4 henv
  go_wp2_with fail
  refine cF.mono ?_
  rintro e w6 ⟨h6, hb6⟩
  clear cF
  rcases h6 with ⟨h0, ys, rfl, hk6⟩ | ⟨h0, rfl⟩
  · have hT := HT.out
    rw [Sr.flagF, if_pos h0] at hT
    subst hT
    have cN := not_is (Sr.flagK (Fl.fname [92, 83, 69, 69, 78]).1) ys (fun _ => False) w6 hk6
    obtain ⟨x0, x3, x1, x2, xa, xk, xc, ya, yk, yc, rfl⟩ := kx_cells hk6
    have hta : ([.int .i64 x0, .string x1, .string x2, .int .i64 x3, .slice xa xk xc, .slice ya yk yc] : List Value).toArray = #[.int .i64 x0, .string x1, .string x2, .int .i64 x3, .slice xa xk xc, .slice ya yk yc] := rfl
    rw [hta] at cN ⊢
    have HB6 : Hid (Below w4.heap.size w4 w6) := hb6
    clear hk6 hb6 hta h0 HT
    go_wp2_with fail
    refine cN.mono ?_
    rintro e w7 ⟨zs, rfl, hk7, hb7⟩
    clear cN
    obtain ⟨x0, x3, x1, x2, xa, xk, xc, ya, yk, yc, rfl⟩ := kx_cells hk7
    have hta : ([.int .i64 x0, .string x1, .string x2, .int .i64 x3, .slice xa xk xc, .slice ya yk yc] : List Value).toArray = #[.int .i64 x0, .string x1, .string x2, .int .i64 x3, .slice xa xk xc, .slice ya yk yc] := rfl
    rw [hta]
    have hbb := HB6.out
    have hb57 := hbb.trans (hb7.mono hbb.size)
    obtain ⟨hr5, hl5, hb05, e5⟩ := HX5.out
    have e6 := (hb57.block w.heap.size (by omega)).trans e5
    have hz6 := hbb.size
    obtain ⟨⟨s0, s1, s2, s3, s4, s5⟩, ⟨sf0, sf1, sf2, sf3, sf4, sf5⟩, u0, u1, u2, u3, u4, u5⟩ := six_facts e6 (.int .i64 x0) (.string x1) (.string x2) (.int .i64 x3) (.slice xa xk xc) (.slice ya yk yc)
    have HD : Hid (Out w rb B Ok (.ok (Sr.notK (Sr.flagK (Fl.fname [92, 83, 69, 69, 78]).1)) l (c + 1)) (.returned (.agg #[.int .i64 x0, .string x1, .string x2, .int .i64 x3, .slice xa xk xc, .slice ya yk yc])) _) := key_done hrb HO.out (hk7.kept fun q hq _ => ⟨hq.elim (fun h => h.elim) (fun h => by omega), rfl⟩) (hr5.kept (hb57.block rb (by omega))) (hl5.kept fun k hk hlt => ⟨hk, hb57.block k hlt⟩) (hb05.trans (to_but (hb57.mono (by omega))))
    clear HX5 hr5 hl5 hb05 e5 e6 hb57 hbb hb7 hk7 hta HB6
    go_wp2_with fail
    exact bodyPost_ret (v := .agg #[.int .i64 x0, .string x1, .string x2, .int .i64 x3, .slice xa xk xc, .slice ya yk yc]) (by simp [results, Tryz.results101, go_sem, u0, u1, u2, u3, u4, u5]) rfl HD.out
  · have hT := HT.out
    rw [Sr.flagF, if_neg h0] at hT
    have HB6 : Hid (But w.heap.size rb w w6) := HX5.out.2.2.1.trans (to_but (hb6.mono (by omega)))
    subst hT
    clear HT HX5 hb6 h0
    unfold thrown
    go_wp2_with fail
    exact ⟨rfl, rfl, HB6.out⟩
set_option maxHeartbeats 4000000 in
set_option maxRecDepth 100000 in
theorem key_unanswered (rb c B d : Nat) (x : Sr.Ar) (l : List Sr.Ar) (v : Value) (Ok : Nat → Prop) (w : World) (henv : EnvB w rb) (hr : RdS w rb v c) (hl : Ags w Ok B (x :: l) v) (hB : B ≤ 2000000) (hrb : rb < w.heap.size) (hO : ∀ k, Ok k → k ≠ rb ∧ k < w.heap.size) (hd : d ≤ 6) (hc : c + 1 ≤ 60) (hx : x.kind ≠ 3) (hw : great x.text = [85, 78, 65, 78, 83, 87, 69, 82, 69, 68]) :
    Calls Tryz.prog 101 #[.pointer (some ⟨rb, 0, none⟩), .int .i64 (d : Int)] w fun e w' => Out w rb B Ok ((Sr.flagF [92, 65, 78, 83, 87, 69, 82, 69, 68] l (c + 1)).map Sr.notK) e w' := by
  have HENV : Hid (EnvB w rb) := henv
  obtain ⟨T, hT⟩ : ∃ T, (Sr.flagF [92, 65, 78, 83, 87, 69, 82, 69, 68] l (c + 1)).map Sr.notK = T := ⟨_, rfl⟩
  rw [hT]
  have HT : Hid ((Sr.flagF [92, 65, 78, 83, 87, 69, 82, 69, 68] l (c + 1)).map Sr.notK = T) := hT
  clear henv hT
  obtain ⟨W1, W2, hW1, hW2, p1, f1, q1, q0, z2, hr2, hl2, hb2, hE2⟩ := key_begun rb c B (x :: l) v Ok w hr hl hrb hO
  have cW := word_ok rb (c + 1) B x l v Ok W2 hr2 hl2 (fun k hk => (hO k hk).1) hx
  obtain ⟨b, o, C, _, lv, rfl, hC, hC2, hOb, _, _, _, c1, _, _, _⟩ := hl2.head
  have hkb : (x.kind == 3) = false := by simpa using hx
  obtain ⟨K, hK⟩ : ∃ K, x.kind = K := ⟨_, rfl⟩
  rw [hK] at c1 hkb
  obtain ⟨L, hL⟩ : ∃ L, l.length = L := ⟨_, rfl⟩
  rw [hL] at q0 hC
  have HB : Hid (But w.heap.size rb w W2) := hb2
  have HE : Hid (W2.heap[w.heap.size]? = some (.cells #[.int .i64 0, .string ⟨#[]⟩, .string ⟨#[]⟩, .int .i64 0, .slice none 0 0, .slice none 0 0] 33 (0, 0))) := hE2
  have HO : Hid (∀ k, Ok k → k ≠ rb ∧ k < w.heap.size) := hO
  have HZ : Hid (W2.heap.size = w.heap.size + 1) := z2
  have HWD : Hid (great x.text = [85, 78, 65, 78, 83, 87, 69, 82, 69, 68]) := hw
  have d1 : decide ((6 : Int) < (d : Int)) = false := decide_eq_false (by omega)
  have d2 : decide ((60 : Int) < (c : Int) + 1) = false := decide_eq_false (by omega)
  clear hr hl hO hr2 hl2 hb2 hE2 hL z2 hx hK hw
  go_enter Tryz.func101, Tryz.ntmps101
  go_wp2_with fail
  refine cW.mono ?_
  rintro e w3 ⟨tb, v3, htb, htz, rfl, hr3, hl3, hb3⟩
  have cG := great_is tb w3 (by omega)
  rw [htb, HWD.out, show (⟨([85, 78, 65, 78, 83, 87, 69, 82, 69, 68] : List UInt8).toArray⟩ : ByteArray) = ⟨#[85, 78, 65, 78, 83, 87, 69, 82, 69, 68]⟩ from rfl] at cG
  have hz := HZ.out
  have hs3 := hb3.size
  have HX : Hid (∀ W, Below w3.heap.size w3 W → RdS W rb v3 (c + 1) ∧ Ags W Ok B l v3 ∧ But w.heap.size rb w W ∧ W.heap[w.heap.size]? = some (.cells #[.int .i64 0, .string ⟨#[]⟩, .string ⟨#[]⟩, .int .i64 0, .slice none 0 0, .slice none 0 0] 33 (0, 0)) ∧ w.heap.size + 1 ≤ W.heap.size) := fun W hW =>
    ⟨hr3.kept (hW.block rb (by omega)), hl3.kept fun k hk hlt => ⟨hk, hW.block k hlt⟩, (HB.out.trans (hb3.less (by omega))).trans (to_but (hW.mono (by omega))), (hW.block w.heap.size (by omega)).trans ((hb3.block w.heap.size (by omega) (by omega)).trans HE.out), by have := hW.size; omega⟩
  clear cW hr3 hl3 hb3 htb
  go_wp2_with fail
  refine cG.mono ?_
  rintro e w4 ⟨rfl, hb4⟩
  obtain ⟨hr4, hl4, hbt, e4, hs4⟩ := HX.out w4 hb4
  clear cG HX
  have henv := HENV.out w4 hbt
  have cF := flag_is ⟨#[92, 65, 78, 83, 87, 69, 82, 69, 68]⟩ w4 (by decide) henv.1 henv.2.1
  rw [show (⟨#[92, 65, 78, 83, 87, 69, 82, 69, 68]⟩ : ByteArray).data.toList = [92, 65, 78, 83, 87, 69, 82, 69, 68] from rfl] at cF
  have HX5 : Hid (RdS w4 rb v3 (c + 1) ∧ Ags w4 Ok B l v3 ∧ But w.heap.size rb w w4 ∧ w4.heap[w.heap.size]? = some (.cells #[.int .i64 0, .string ⟨#[]⟩, .string ⟨#[]⟩, .int .i64 0, .slice none 0 0, .slice none 0 0] 33 (0, 0))) := ⟨hr4, hl4, hbt, e4⟩
  clear hb4 hr4 hl4 hbt e4 henv
  go_wp2_with fail
  refine cF.mono ?_
  rintro e w6 ⟨h6, hb6⟩
  clear cF
  rcases h6 with ⟨h0, ys, rfl, hk6⟩ | ⟨h0, rfl⟩
  · have hT := HT.out
    rw [Sr.flagF, if_pos h0] at hT
    subst hT
    have cN := not_is (Sr.flagK (Fl.fname [92, 65, 78, 83, 87, 69, 82, 69, 68]).1) ys (fun _ => False) w6 hk6
    obtain ⟨x0, x3, x1, x2, xa, xk, xc, ya, yk, yc, rfl⟩ := kx_cells hk6
    have hta : ([.int .i64 x0, .string x1, .string x2, .int .i64 x3, .slice xa xk xc, .slice ya yk yc] : List Value).toArray = #[.int .i64 x0, .string x1, .string x2, .int .i64 x3, .slice xa xk xc, .slice ya yk yc] := rfl
    rw [hta] at cN ⊢
    have HB6 : Hid (Below w4.heap.size w4 w6) := hb6
    clear hk6 hb6 hta h0 HT
    go_wp2_with fail
    refine cN.mono ?_
    rintro e w7 ⟨zs, rfl, hk7, hb7⟩
    clear cN
    obtain ⟨x0, x3, x1, x2, xa, xk, xc, ya, yk, yc, rfl⟩ := kx_cells hk7
    have hta : ([.int .i64 x0, .string x1, .string x2, .int .i64 x3, .slice xa xk xc, .slice ya yk yc] : List Value).toArray = #[.int .i64 x0, .string x1, .string x2, .int .i64 x3, .slice xa xk xc, .slice ya yk yc] := rfl
    rw [hta]
    have hbb := HB6.out
    have hb57 := hbb.trans (hb7.mono hbb.size)
    obtain ⟨hr5, hl5, hb05, e5⟩ := HX5.out
    have e6 := (hb57.block w.heap.size (by omega)).trans e5
    have hz6 := hbb.size
    obtain ⟨⟨s0, s1, s2, s3, s4, s5⟩, ⟨sf0, sf1, sf2, sf3, sf4, sf5⟩, u0, u1, u2, u3, u4, u5⟩ := six_facts e6 (.int .i64 x0) (.string x1) (.string x2) (.int .i64 x3) (.slice xa xk xc) (.slice ya yk yc)
    have HD : Hid (Out w rb B Ok (.ok (Sr.notK (Sr.flagK (Fl.fname [92, 65, 78, 83, 87, 69, 82, 69, 68]).1)) l (c + 1)) (.returned (.agg #[.int .i64 x0, .string x1, .string x2, .int .i64 x3, .slice xa xk xc, .slice ya yk yc])) _) := key_done hrb HO.out (hk7.kept fun q hq _ => ⟨hq.elim (fun h => h.elim) (fun h => by omega), rfl⟩) (hr5.kept (hb57.block rb (by omega))) (hl5.kept fun k hk hlt => ⟨hk, hb57.block k hlt⟩) (hb05.trans (to_but (hb57.mono (by omega))))
    clear HX5 hr5 hl5 hb05 e5 e6 hb57 hbb hb7 hk7 hta HB6
    go_wp2_with fail
    exact bodyPost_ret (v := .agg #[.int .i64 x0, .string x1, .string x2, .int .i64 x3, .slice xa xk xc, .slice ya yk yc]) (by simp [results, Tryz.results101, go_sem, u0, u1, u2, u3, u4, u5]) rfl HD.out
  · have hT := HT.out
    rw [Sr.flagF, if_neg h0] at hT
    have HB6 : Hid (But w.heap.size rb w w6) := HX5.out.2.2.1.trans (to_but (hb6.mono (by omega)))
    subst hT
    clear HT HX5 hb6 h0
    unfold thrown
    go_wp2_with fail
    exact ⟨rfl, rfl, HB6.out⟩
set_option maxHeartbeats 4000000 in
set_option maxRecDepth 100000 in
theorem key_unflagged (rb c B d : Nat) (x : Sr.Ar) (l : List Sr.Ar) (v : Value) (Ok : Nat → Prop) (w : World) (henv : EnvB w rb) (hr : RdS w rb v c) (hl : Ags w Ok B (x :: l) v) (hB : B ≤ 2000000) (hrb : rb < w.heap.size) (hO : ∀ k, Ok k → k ≠ rb ∧ k < w.heap.size) (hd : d ≤ 6) (hc : c + 1 ≤ 60) (hx : x.kind ≠ 3) (hw : great x.text = [85, 78, 70, 76, 65, 71, 71, 69, 68]) :
    Calls Tryz.prog 101 #[.pointer (some ⟨rb, 0, none⟩), .int .i64 (d : Int)] w fun e w' => Out w rb B Ok ((Sr.flagF [92, 70, 76, 65, 71, 71, 69, 68] l (c + 1)).map Sr.notK) e w' := by
  have HENV : Hid (EnvB w rb) := henv
  obtain ⟨T, hT⟩ : ∃ T, (Sr.flagF [92, 70, 76, 65, 71, 71, 69, 68] l (c + 1)).map Sr.notK = T := ⟨_, rfl⟩
  rw [hT]
  have HT : Hid ((Sr.flagF [92, 70, 76, 65, 71, 71, 69, 68] l (c + 1)).map Sr.notK = T) := hT
  clear henv hT
  obtain ⟨W1, W2, hW1, hW2, p1, f1, q1, q0, z2, hr2, hl2, hb2, hE2⟩ := key_begun rb c B (x :: l) v Ok w hr hl hrb hO
  have cW := word_ok rb (c + 1) B x l v Ok W2 hr2 hl2 (fun k hk => (hO k hk).1) hx
  obtain ⟨b, o, C, _, lv, rfl, hC, hC2, hOb, _, _, _, c1, _, _, _⟩ := hl2.head
  have hkb : (x.kind == 3) = false := by simpa using hx
  obtain ⟨K, hK⟩ : ∃ K, x.kind = K := ⟨_, rfl⟩
  rw [hK] at c1 hkb
  obtain ⟨L, hL⟩ : ∃ L, l.length = L := ⟨_, rfl⟩
  rw [hL] at q0 hC
  have HB : Hid (But w.heap.size rb w W2) := hb2
  have HE : Hid (W2.heap[w.heap.size]? = some (.cells #[.int .i64 0, .string ⟨#[]⟩, .string ⟨#[]⟩, .int .i64 0, .slice none 0 0, .slice none 0 0] 33 (0, 0))) := hE2
  have HO : Hid (∀ k, Ok k → k ≠ rb ∧ k < w.heap.size) := hO
  have HZ : Hid (W2.heap.size = w.heap.size + 1) := z2
  have HWD : Hid (great x.text = [85, 78, 70, 76, 65, 71, 71, 69, 68]) := hw
  have d1 : decide ((6 : Int) < (d : Int)) = false := decide_eq_false (by omega)
  have d2 : decide ((60 : Int) < (c : Int) + 1) = false := decide_eq_false (by omega)
  clear hr hl hO hr2 hl2 hb2 hE2 hL z2 hx hK hw
  go_enter Tryz.func101, Tryz.ntmps101
  go_wp2_with fail
  refine cW.mono ?_
  rintro e w3 ⟨tb, v3, htb, htz, rfl, hr3, hl3, hb3⟩
  have cG := great_is tb w3 (by omega)
  rw [htb, HWD.out, show (⟨([85, 78, 70, 76, 65, 71, 71, 69, 68] : List UInt8).toArray⟩ : ByteArray) = ⟨#[85, 78, 70, 76, 65, 71, 71, 69, 68]⟩ from rfl] at cG
  have hz := HZ.out
  have hs3 := hb3.size
  have HX : Hid (∀ W, Below w3.heap.size w3 W → RdS W rb v3 (c + 1) ∧ Ags W Ok B l v3 ∧ But w.heap.size rb w W ∧ W.heap[w.heap.size]? = some (.cells #[.int .i64 0, .string ⟨#[]⟩, .string ⟨#[]⟩, .int .i64 0, .slice none 0 0, .slice none 0 0] 33 (0, 0)) ∧ w.heap.size + 1 ≤ W.heap.size) := fun W hW =>
    ⟨hr3.kept (hW.block rb (by omega)), hl3.kept fun k hk hlt => ⟨hk, hW.block k hlt⟩, (HB.out.trans (hb3.less (by omega))).trans (to_but (hW.mono (by omega))), (hW.block w.heap.size (by omega)).trans ((hb3.block w.heap.size (by omega) (by omega)).trans HE.out), by have := hW.size; omega⟩
  clear cW hr3 hl3 hb3 htb
  go_wp2_with fail
  refine cG.mono ?_
  rintro e w4 ⟨rfl, hb4⟩
  obtain ⟨hr4, hl4, hbt, e4, hs4⟩ := HX.out w4 hb4
  clear cG HX
  have henv := HENV.out w4 hbt
  have cF := flag_is ⟨#[92, 70, 76, 65, 71, 71, 69, 68]⟩ w4 (by decide) henv.1 henv.2.1
  rw [show (⟨#[92, 70, 76, 65, 71, 71, 69, 68]⟩ : ByteArray).data.toList = [92, 70, 76, 65, 71, 71, 69, 68] from rfl] at cF
  have HX5 : Hid (RdS w4 rb v3 (c + 1) ∧ Ags w4 Ok B l v3 ∧ But w.heap.size rb w w4 ∧ w4.heap[w.heap.size]? = some (.cells #[.int .i64 0, .string ⟨#[]⟩, .string ⟨#[]⟩, .int .i64 0, .slice none 0 0, .slice none 0 0] 33 (0, 0))) := ⟨hr4, hl4, hbt, e4⟩
  clear hb4 hr4 hl4 hbt e4 henv
  go_wp2_with fail
  refine cF.mono ?_
  rintro e w6 ⟨h6, hb6⟩
  clear cF
  rcases h6 with ⟨h0, ys, rfl, hk6⟩ | ⟨h0, rfl⟩
  · have hT := HT.out
    rw [Sr.flagF, if_pos h0] at hT
    subst hT
    have cN := not_is (Sr.flagK (Fl.fname [92, 70, 76, 65, 71, 71, 69, 68]).1) ys (fun _ => False) w6 hk6
    obtain ⟨x0, x3, x1, x2, xa, xk, xc, ya, yk, yc, rfl⟩ := kx_cells hk6
    have hta : ([.int .i64 x0, .string x1, .string x2, .int .i64 x3, .slice xa xk xc, .slice ya yk yc] : List Value).toArray = #[.int .i64 x0, .string x1, .string x2, .int .i64 x3, .slice xa xk xc, .slice ya yk yc] := rfl
    rw [hta] at cN ⊢
    have HB6 : Hid (Below w4.heap.size w4 w6) := hb6
    clear hk6 hb6 hta h0 HT
    go_wp2_with fail
    refine cN.mono ?_
    rintro e w7 ⟨zs, rfl, hk7, hb7⟩
    clear cN
    obtain ⟨x0, x3, x1, x2, xa, xk, xc, ya, yk, yc, rfl⟩ := kx_cells hk7
    have hta : ([.int .i64 x0, .string x1, .string x2, .int .i64 x3, .slice xa xk xc, .slice ya yk yc] : List Value).toArray = #[.int .i64 x0, .string x1, .string x2, .int .i64 x3, .slice xa xk xc, .slice ya yk yc] := rfl
    rw [hta]
    have hbb := HB6.out
    have hb57 := hbb.trans (hb7.mono hbb.size)
    obtain ⟨hr5, hl5, hb05, e5⟩ := HX5.out
    have e6 := (hb57.block w.heap.size (by omega)).trans e5
    have hz6 := hbb.size
    obtain ⟨⟨s0, s1, s2, s3, s4, s5⟩, ⟨sf0, sf1, sf2, sf3, sf4, sf5⟩, u0, u1, u2, u3, u4, u5⟩ := six_facts e6 (.int .i64 x0) (.string x1) (.string x2) (.int .i64 x3) (.slice xa xk xc) (.slice ya yk yc)
    have HD : Hid (Out w rb B Ok (.ok (Sr.notK (Sr.flagK (Fl.fname [92, 70, 76, 65, 71, 71, 69, 68]).1)) l (c + 1)) (.returned (.agg #[.int .i64 x0, .string x1, .string x2, .int .i64 x3, .slice xa xk xc, .slice ya yk yc])) _) := key_done hrb HO.out (hk7.kept fun q hq _ => ⟨hq.elim (fun h => h.elim) (fun h => by omega), rfl⟩) (hr5.kept (hb57.block rb (by omega))) (hl5.kept fun k hk hlt => ⟨hk, hb57.block k hlt⟩) (hb05.trans (to_but (hb57.mono (by omega))))
    clear HX5 hr5 hl5 hb05 e5 e6 hb57 hbb hb7 hk7 hta HB6
    go_wp2_with fail
    exact bodyPost_ret (v := .agg #[.int .i64 x0, .string x1, .string x2, .int .i64 x3, .slice xa xk xc, .slice ya yk yc]) (by simp [results, Tryz.results101, go_sem, u0, u1, u2, u3, u4, u5]) rfl HD.out
  · have hT := HT.out
    rw [Sr.flagF, if_neg h0] at hT
    have HB6 : Hid (But w.heap.size rb w w6) := HX5.out.2.2.1.trans (to_but (hb6.mono (by omega)))
    subst hT
    clear HT HX5 hb6 h0
    unfold thrown
    go_wp2_with fail
    exact ⟨rfl, rfl, HB6.out⟩
set_option maxHeartbeats 4000000 in
set_option maxRecDepth 100000 in
theorem key_undeleted (rb c B d : Nat) (x : Sr.Ar) (l : List Sr.Ar) (v : Value) (Ok : Nat → Prop) (w : World) (henv : EnvB w rb) (hr : RdS w rb v c) (hl : Ags w Ok B (x :: l) v) (hB : B ≤ 2000000) (hrb : rb < w.heap.size) (hO : ∀ k, Ok k → k ≠ rb ∧ k < w.heap.size) (hd : d ≤ 6) (hc : c + 1 ≤ 60) (hx : x.kind ≠ 3) (hw : great x.text = [85, 78, 68, 69, 76, 69, 84, 69, 68]) :
    Calls Tryz.prog 101 #[.pointer (some ⟨rb, 0, none⟩), .int .i64 (d : Int)] w fun e w' => Out w rb B Ok ((Sr.flagF [92, 68, 69, 76, 69, 84, 69, 68] l (c + 1)).map Sr.notK) e w' := by
  have HENV : Hid (EnvB w rb) := henv
  obtain ⟨T, hT⟩ : ∃ T, (Sr.flagF [92, 68, 69, 76, 69, 84, 69, 68] l (c + 1)).map Sr.notK = T := ⟨_, rfl⟩
  rw [hT]
  have HT : Hid ((Sr.flagF [92, 68, 69, 76, 69, 84, 69, 68] l (c + 1)).map Sr.notK = T) := hT
  clear henv hT
  obtain ⟨W1, W2, hW1, hW2, p1, f1, q1, q0, z2, hr2, hl2, hb2, hE2⟩ := key_begun rb c B (x :: l) v Ok w hr hl hrb hO
  have cW := word_ok rb (c + 1) B x l v Ok W2 hr2 hl2 (fun k hk => (hO k hk).1) hx
  obtain ⟨b, o, C, _, lv, rfl, hC, hC2, hOb, _, _, _, c1, _, _, _⟩ := hl2.head
  have hkb : (x.kind == 3) = false := by simpa using hx
  obtain ⟨K, hK⟩ : ∃ K, x.kind = K := ⟨_, rfl⟩
  rw [hK] at c1 hkb
  obtain ⟨L, hL⟩ : ∃ L, l.length = L := ⟨_, rfl⟩
  rw [hL] at q0 hC
  have HB : Hid (But w.heap.size rb w W2) := hb2
  have HE : Hid (W2.heap[w.heap.size]? = some (.cells #[.int .i64 0, .string ⟨#[]⟩, .string ⟨#[]⟩, .int .i64 0, .slice none 0 0, .slice none 0 0] 33 (0, 0))) := hE2
  have HO : Hid (∀ k, Ok k → k ≠ rb ∧ k < w.heap.size) := hO
  have HZ : Hid (W2.heap.size = w.heap.size + 1) := z2
  have HWD : Hid (great x.text = [85, 78, 68, 69, 76, 69, 84, 69, 68]) := hw
  have d1 : decide ((6 : Int) < (d : Int)) = false := decide_eq_false (by omega)
  have d2 : decide ((60 : Int) < (c : Int) + 1) = false := decide_eq_false (by omega)
  clear hr hl hO hr2 hl2 hb2 hE2 hL z2 hx hK hw
  go_enter Tryz.func101, Tryz.ntmps101
  go_wp2_with fail
  refine cW.mono ?_
  rintro e w3 ⟨tb, v3, htb, htz, rfl, hr3, hl3, hb3⟩
  have cG := great_is tb w3 (by omega)
  rw [htb, HWD.out, show (⟨([85, 78, 68, 69, 76, 69, 84, 69, 68] : List UInt8).toArray⟩ : ByteArray) = ⟨#[85, 78, 68, 69, 76, 69, 84, 69, 68]⟩ from rfl] at cG
  have hz := HZ.out
  have hs3 := hb3.size
  have HX : Hid (∀ W, Below w3.heap.size w3 W → RdS W rb v3 (c + 1) ∧ Ags W Ok B l v3 ∧ But w.heap.size rb w W ∧ W.heap[w.heap.size]? = some (.cells #[.int .i64 0, .string ⟨#[]⟩, .string ⟨#[]⟩, .int .i64 0, .slice none 0 0, .slice none 0 0] 33 (0, 0)) ∧ w.heap.size + 1 ≤ W.heap.size) := fun W hW =>
    ⟨hr3.kept (hW.block rb (by omega)), hl3.kept fun k hk hlt => ⟨hk, hW.block k hlt⟩, (HB.out.trans (hb3.less (by omega))).trans (to_but (hW.mono (by omega))), (hW.block w.heap.size (by omega)).trans ((hb3.block w.heap.size (by omega) (by omega)).trans HE.out), by have := hW.size; omega⟩
  clear cW hr3 hl3 hb3 htb
  go_wp2_with fail
  refine cG.mono ?_
  rintro e w4 ⟨rfl, hb4⟩
  obtain ⟨hr4, hl4, hbt, e4, hs4⟩ := HX.out w4 hb4
  clear cG HX
  have henv := HENV.out w4 hbt
  have cF := flag_is ⟨#[92, 68, 69, 76, 69, 84, 69, 68]⟩ w4 (by decide) henv.1 henv.2.1
  rw [show (⟨#[92, 68, 69, 76, 69, 84, 69, 68]⟩ : ByteArray).data.toList = [92, 68, 69, 76, 69, 84, 69, 68] from rfl] at cF
  have HX5 : Hid (RdS w4 rb v3 (c + 1) ∧ Ags w4 Ok B l v3 ∧ But w.heap.size rb w w4 ∧ w4.heap[w.heap.size]? = some (.cells #[.int .i64 0, .string ⟨#[]⟩, .string ⟨#[]⟩, .int .i64 0, .slice none 0 0, .slice none 0 0] 33 (0, 0))) := ⟨hr4, hl4, hbt, e4⟩
  clear hb4 hr4 hl4 hbt e4 henv
  go_wp2_with fail
  refine cF.mono ?_
  rintro e w6 ⟨h6, hb6⟩
  clear cF
  rcases h6 with ⟨h0, ys, rfl, hk6⟩ | ⟨h0, rfl⟩
  · have hT := HT.out
    rw [Sr.flagF, if_pos h0] at hT
    subst hT
    have cN := not_is (Sr.flagK (Fl.fname [92, 68, 69, 76, 69, 84, 69, 68]).1) ys (fun _ => False) w6 hk6
    obtain ⟨x0, x3, x1, x2, xa, xk, xc, ya, yk, yc, rfl⟩ := kx_cells hk6
    have hta : ([.int .i64 x0, .string x1, .string x2, .int .i64 x3, .slice xa xk xc, .slice ya yk yc] : List Value).toArray = #[.int .i64 x0, .string x1, .string x2, .int .i64 x3, .slice xa xk xc, .slice ya yk yc] := rfl
    rw [hta] at cN ⊢
    have HB6 : Hid (Below w4.heap.size w4 w6) := hb6
    clear hk6 hb6 hta h0 HT
    go_wp2_with fail
    refine cN.mono ?_
    rintro e w7 ⟨zs, rfl, hk7, hb7⟩
    clear cN
    obtain ⟨x0, x3, x1, x2, xa, xk, xc, ya, yk, yc, rfl⟩ := kx_cells hk7
    have hta : ([.int .i64 x0, .string x1, .string x2, .int .i64 x3, .slice xa xk xc, .slice ya yk yc] : List Value).toArray = #[.int .i64 x0, .string x1, .string x2, .int .i64 x3, .slice xa xk xc, .slice ya yk yc] := rfl
    rw [hta]
    have hbb := HB6.out
    have hb57 := hbb.trans (hb7.mono hbb.size)
    obtain ⟨hr5, hl5, hb05, e5⟩ := HX5.out
    have e6 := (hb57.block w.heap.size (by omega)).trans e5
    have hz6 := hbb.size
    obtain ⟨⟨s0, s1, s2, s3, s4, s5⟩, ⟨sf0, sf1, sf2, sf3, sf4, sf5⟩, u0, u1, u2, u3, u4, u5⟩ := six_facts e6 (.int .i64 x0) (.string x1) (.string x2) (.int .i64 x3) (.slice xa xk xc) (.slice ya yk yc)
    have HD : Hid (Out w rb B Ok (.ok (Sr.notK (Sr.flagK (Fl.fname [92, 68, 69, 76, 69, 84, 69, 68]).1)) l (c + 1)) (.returned (.agg #[.int .i64 x0, .string x1, .string x2, .int .i64 x3, .slice xa xk xc, .slice ya yk yc])) _) := key_done hrb HO.out (hk7.kept fun q hq _ => ⟨hq.elim (fun h => h.elim) (fun h => by omega), rfl⟩) (hr5.kept (hb57.block rb (by omega))) (hl5.kept fun k hk hlt => ⟨hk, hb57.block k hlt⟩) (hb05.trans (to_but (hb57.mono (by omega))))
    clear HX5 hr5 hl5 hb05 e5 e6 hb57 hbb hb7 hk7 hta HB6
    go_wp2_with fail
    exact bodyPost_ret (v := .agg #[.int .i64 x0, .string x1, .string x2, .int .i64 x3, .slice xa xk xc, .slice ya yk yc]) (by simp [results, Tryz.results101, go_sem, u0, u1, u2, u3, u4, u5]) rfl HD.out
  · have hT := HT.out
    rw [Sr.flagF, if_neg h0] at hT
    have HB6 : Hid (But w.heap.size rb w w6) := HX5.out.2.2.1.trans (to_but (hb6.mono (by omega)))
    subst hT
    clear HT HX5 hb6 h0
    unfold thrown
    go_wp2_with fail
    exact ⟨rfl, rfl, HB6.out⟩
set_option maxHeartbeats 4000000 in
set_option maxRecDepth 100000 in
theorem key_undraft (rb c B d : Nat) (x : Sr.Ar) (l : List Sr.Ar) (v : Value) (Ok : Nat → Prop) (w : World) (henv : EnvB w rb) (hr : RdS w rb v c) (hl : Ags w Ok B (x :: l) v) (hB : B ≤ 2000000) (hrb : rb < w.heap.size) (hO : ∀ k, Ok k → k ≠ rb ∧ k < w.heap.size) (hd : d ≤ 6) (hc : c + 1 ≤ 60) (hx : x.kind ≠ 3) (hw : great x.text = [85, 78, 68, 82, 65, 70, 84]) :
    Calls Tryz.prog 101 #[.pointer (some ⟨rb, 0, none⟩), .int .i64 (d : Int)] w fun e w' => Out w rb B Ok ((Sr.flagF [92, 68, 82, 65, 70, 84] l (c + 1)).map Sr.notK) e w' := by
  have HENV : Hid (EnvB w rb) := henv
  obtain ⟨T, hT⟩ : ∃ T, (Sr.flagF [92, 68, 82, 65, 70, 84] l (c + 1)).map Sr.notK = T := ⟨_, rfl⟩
  rw [hT]
  have HT : Hid ((Sr.flagF [92, 68, 82, 65, 70, 84] l (c + 1)).map Sr.notK = T) := hT
  clear henv hT
  obtain ⟨W1, W2, hW1, hW2, p1, f1, q1, q0, z2, hr2, hl2, hb2, hE2⟩ := key_begun rb c B (x :: l) v Ok w hr hl hrb hO
  have cW := word_ok rb (c + 1) B x l v Ok W2 hr2 hl2 (fun k hk => (hO k hk).1) hx
  obtain ⟨b, o, C, _, lv, rfl, hC, hC2, hOb, _, _, _, c1, _, _, _⟩ := hl2.head
  have hkb : (x.kind == 3) = false := by simpa using hx
  obtain ⟨K, hK⟩ : ∃ K, x.kind = K := ⟨_, rfl⟩
  rw [hK] at c1 hkb
  obtain ⟨L, hL⟩ : ∃ L, l.length = L := ⟨_, rfl⟩
  rw [hL] at q0 hC
  have HB : Hid (But w.heap.size rb w W2) := hb2
  have HE : Hid (W2.heap[w.heap.size]? = some (.cells #[.int .i64 0, .string ⟨#[]⟩, .string ⟨#[]⟩, .int .i64 0, .slice none 0 0, .slice none 0 0] 33 (0, 0))) := hE2
  have HO : Hid (∀ k, Ok k → k ≠ rb ∧ k < w.heap.size) := hO
  have HZ : Hid (W2.heap.size = w.heap.size + 1) := z2
  have HWD : Hid (great x.text = [85, 78, 68, 82, 65, 70, 84]) := hw
  have d1 : decide ((6 : Int) < (d : Int)) = false := decide_eq_false (by omega)
  have d2 : decide ((60 : Int) < (c : Int) + 1) = false := decide_eq_false (by omega)
  clear hr hl hO hr2 hl2 hb2 hE2 hL z2 hx hK hw
  go_enter Tryz.func101, Tryz.ntmps101
  go_wp2_with fail
  refine cW.mono ?_
  rintro e w3 ⟨tb, v3, htb, htz, rfl, hr3, hl3, hb3⟩
  have cG := great_is tb w3 (by omega)
  rw [htb, HWD.out, show (⟨([85, 78, 68, 82, 65, 70, 84] : List UInt8).toArray⟩ : ByteArray) = ⟨#[85, 78, 68, 82, 65, 70, 84]⟩ from rfl] at cG
  have hz := HZ.out
  have hs3 := hb3.size
  have HX : Hid (∀ W, Below w3.heap.size w3 W → RdS W rb v3 (c + 1) ∧ Ags W Ok B l v3 ∧ But w.heap.size rb w W ∧ W.heap[w.heap.size]? = some (.cells #[.int .i64 0, .string ⟨#[]⟩, .string ⟨#[]⟩, .int .i64 0, .slice none 0 0, .slice none 0 0] 33 (0, 0)) ∧ w.heap.size + 1 ≤ W.heap.size) := fun W hW =>
    ⟨hr3.kept (hW.block rb (by omega)), hl3.kept fun k hk hlt => ⟨hk, hW.block k hlt⟩, (HB.out.trans (hb3.less (by omega))).trans (to_but (hW.mono (by omega))), (hW.block w.heap.size (by omega)).trans ((hb3.block w.heap.size (by omega) (by omega)).trans HE.out), by have := hW.size; omega⟩
  clear cW hr3 hl3 hb3 htb
  go_wp2_with fail
  refine cG.mono ?_
  rintro e w4 ⟨rfl, hb4⟩
  obtain ⟨hr4, hl4, hbt, e4, hs4⟩ := HX.out w4 hb4
  clear cG HX
  have henv := HENV.out w4 hbt
  have cF := flag_is ⟨#[92, 68, 82, 65, 70, 84]⟩ w4 (by decide) henv.1 henv.2.1
  rw [show (⟨#[92, 68, 82, 65, 70, 84]⟩ : ByteArray).data.toList = [92, 68, 82, 65, 70, 84] from rfl] at cF
  have HX5 : Hid (RdS w4 rb v3 (c + 1) ∧ Ags w4 Ok B l v3 ∧ But w.heap.size rb w w4 ∧ w4.heap[w.heap.size]? = some (.cells #[.int .i64 0, .string ⟨#[]⟩, .string ⟨#[]⟩, .int .i64 0, .slice none 0 0, .slice none 0 0] 33 (0, 0))) := ⟨hr4, hl4, hbt, e4⟩
  clear hb4 hr4 hl4 hbt e4 henv
  go_wp2_with fail
  refine cF.mono ?_
  rintro e w6 ⟨h6, hb6⟩
  clear cF
  rcases h6 with ⟨h0, ys, rfl, hk6⟩ | ⟨h0, rfl⟩
  · have hT := HT.out
    rw [Sr.flagF, if_pos h0] at hT
    subst hT
    have cN := not_is (Sr.flagK (Fl.fname [92, 68, 82, 65, 70, 84]).1) ys (fun _ => False) w6 hk6
    obtain ⟨x0, x3, x1, x2, xa, xk, xc, ya, yk, yc, rfl⟩ := kx_cells hk6
    have hta : ([.int .i64 x0, .string x1, .string x2, .int .i64 x3, .slice xa xk xc, .slice ya yk yc] : List Value).toArray = #[.int .i64 x0, .string x1, .string x2, .int .i64 x3, .slice xa xk xc, .slice ya yk yc] := rfl
    rw [hta] at cN ⊢
    have HB6 : Hid (Below w4.heap.size w4 w6) := hb6
    clear hk6 hb6 hta h0 HT
    go_wp2_with fail
    refine cN.mono ?_
    rintro e w7 ⟨zs, rfl, hk7, hb7⟩
    clear cN
    obtain ⟨x0, x3, x1, x2, xa, xk, xc, ya, yk, yc, rfl⟩ := kx_cells hk7
    have hta : ([.int .i64 x0, .string x1, .string x2, .int .i64 x3, .slice xa xk xc, .slice ya yk yc] : List Value).toArray = #[.int .i64 x0, .string x1, .string x2, .int .i64 x3, .slice xa xk xc, .slice ya yk yc] := rfl
    rw [hta]
    have hbb := HB6.out
    have hb57 := hbb.trans (hb7.mono hbb.size)
    obtain ⟨hr5, hl5, hb05, e5⟩ := HX5.out
    have e6 := (hb57.block w.heap.size (by omega)).trans e5
    have hz6 := hbb.size
    obtain ⟨⟨s0, s1, s2, s3, s4, s5⟩, ⟨sf0, sf1, sf2, sf3, sf4, sf5⟩, u0, u1, u2, u3, u4, u5⟩ := six_facts e6 (.int .i64 x0) (.string x1) (.string x2) (.int .i64 x3) (.slice xa xk xc) (.slice ya yk yc)
    have HD : Hid (Out w rb B Ok (.ok (Sr.notK (Sr.flagK (Fl.fname [92, 68, 82, 65, 70, 84]).1)) l (c + 1)) (.returned (.agg #[.int .i64 x0, .string x1, .string x2, .int .i64 x3, .slice xa xk xc, .slice ya yk yc])) _) := key_done hrb HO.out (hk7.kept fun q hq _ => ⟨hq.elim (fun h => h.elim) (fun h => by omega), rfl⟩) (hr5.kept (hb57.block rb (by omega))) (hl5.kept fun k hk hlt => ⟨hk, hb57.block k hlt⟩) (hb05.trans (to_but (hb57.mono (by omega))))
    clear HX5 hr5 hl5 hb05 e5 e6 hb57 hbb hb7 hk7 hta HB6
    go_wp2_with fail
    exact bodyPost_ret (v := .agg #[.int .i64 x0, .string x1, .string x2, .int .i64 x3, .slice xa xk xc, .slice ya yk yc]) (by simp [results, Tryz.results101, go_sem, u0, u1, u2, u3, u4, u5]) rfl HD.out
  · have hT := HT.out
    rw [Sr.flagF, if_neg h0] at hT
    have HB6 : Hid (But w.heap.size rb w w6) := HX5.out.2.2.1.trans (to_but (hb6.mono (by omega)))
    subst hT
    clear HT HX5 hb6 h0
    unfold thrown
    go_wp2_with fail
    exact ⟨rfl, rfl, HB6.out⟩
end Go.Proofs.YtligkpcoajnjmaaGreatDoorR
