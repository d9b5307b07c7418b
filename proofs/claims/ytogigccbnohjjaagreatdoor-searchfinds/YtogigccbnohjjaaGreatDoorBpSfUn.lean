/-
  What key of the document's reader does at UNSEEN, UNANSWERED, UNFLAGGE, and more.
-/
import Derived.Test.YtogigccbnohjjaaGreatDoorBpHeadTies
namespace Go.Proofs.YtogigccbnohjjaaGreatDoor
open Go.RowKit Go.Proofs.Aid Go.Proofs.Sq Go.Proofs.Hd
set_option maxHeartbeats 20000000
set_option maxRecDepth 100000
theorem kkey_un (kb B d c : Nat) (x : Sr.Ar) (l : List Sr.Ar) (v : Value) (Ok : Nat → Prop) (w : World) (henv : EnvK w kb) (hr : KyS w kb (c : Int) 0) (hl : Ags w Ok B (x :: l) v) (hB : B ≤ 900000) (hO : ∀ k, Ok k → k ≠ kb ∧ k < w.heap.size) (hd : d ≤ 6) (hc : c + 1 ≤ 60) (hx : x.kind ≠ 3) (bs : Sr.Tx) (hbs : bs ∈ Sr.wSys) (hw : great x.text = 85 :: 78 :: bs) :
  Calls Tryz.prog 37 #[.pointer (some ⟨kb, 0, none⟩), v, .int .i64 (d : Int)] w fun e w' => OutK w kb B Ok ((Sr.flagF (92 :: bs) l (c + 1)).map Sr.notK) e w' := by
 have hkb := hr.lt
 obtain ⟨T, hT⟩ : ∃ T, ((Sr.flagF (92 :: bs) l (c + 1)).map Sr.notK) = T := ⟨_, rfl⟩
 rw [hT]
 have HT : Hid (((Sr.flagF (92 :: bs) l (c + 1)).map Sr.notK) = T) := hT
 have HENV : Hid (EnvK w kb) := henv
 obtain ⟨W1, W2, hW1, hW2, p1, f1, q0, q1, z2, hr2, hl2, hb2, hE2⟩ := kbegun kb B (c : Int) 0 ((c : Int) + 1) (x :: l) v Ok w hr hl hO
 have cW := kword kb B ((c : Int) + 1) 0 (x :: l) v Ok W2 hr2 hl2 (fun _ => by omega)
 obtain ⟨b, o, C, _, lv, rfl, hC, hC2, hOb, _, _, _, c1, _, _, _⟩ := hl2.head
 have hkb3 : (x.kind == 3) = false := by simpa using hx
 obtain ⟨L, hL⟩ : ∃ L, l.length = L := ⟨_, rfl⟩
 have HB : Hid (But w.heap.size kb w W2) := hb2
 have HE : Hid (W2.heap[w.heap.size]? = some (.cells #[.int .i64 0, .string ⟨#[]⟩, .string ⟨#[]⟩, .int .i64 0, .slice none 0 0, .slice none 0 0] 32 (0, 0))) := hE2
 have HO : Hid (∀ k, Ok k → k ≠ kb ∧ k < w.heap.size) := hO
 have HZ : Hid (W2.heap.size = w.heap.size + 1) := z2
 have HWD : Hid (great x.text = 85 :: 78 :: bs ∧ x.kind ≠ 3) := ⟨hw, hx⟩
 have d1 : decide ((60 : Int) < (c : Int) + 1) = false := decide_eq_false (by omega)
 have d2 : decide ((6 : Int) < (d : Int)) = false := decide_eq_false (by omega)
 obtain ⟨K, hK⟩ : ∃ K, x.kind = K := ⟨_, rfl⟩
 rw [hK] at c1 hkb3
 rw [hL] at hC cW ⊢
 clear hr hl hO hr2 hl2 hb2 hE2 hL z2 hx hK hw henv hT
 have hbl : bs.length ≤ 20 := (show ∀ b ∈ Sr.wSys, b.length ≤ 20 by decide) bs hbs
 have HCF : Hid (∀ W, KyS W kb ((c : Int) + 1) 0 → Calls Tryz.prog 60 #[.pointer (some ⟨kb, 0, none⟩), .string ⟨(92 :: bs).toArray⟩] W fun e w' => ∃ (nb : ByteArray) (E' : Int), e = .returned (.agg #[.int .i64 2, .string nb, .string ⟨#[]⟩, .int .i64 0, .slice none 0 0, .slice none 0 0]) ∧ nb.data.toList = (Fl.fname (92 :: bs)).1 ∧ KyS w' kb ((c : Int) + 1) E' ∧ But W.heap.size kb W w' ∧ ∀ l, RelK (Sr.flagF (92 :: bs) l (c + 1)) (Sr.flagK (Fl.fname (92 :: bs)).1) l ((c : Int) + 1) E') := fun W h => by
  refine (kflag kb ((c : Int) + 1) 0 ⟨(92 :: bs).toArray⟩ W h (fun _ => by omega) (by show (92 :: bs).toArray.size ≤ _; simp; omega)).mono ?_
  rintro e w' ⟨nb, E', h1, h2, h3, h4, h5⟩
  exact ⟨nb, E', h1, h2, h3, h4, fun l => by have := h5 l; rw [show ((c : Int) + 1) = ((c + 1 : Nat) : Int) from rfl, atK_ok] at this; exact this⟩
 clear hbl
 simp only [Sr.wSys, List.mem_cons, List.not_mem_nil, or_false] at hbs
 rcases hbs with rfl | rfl | rfl | rfl | rfl
 all_goals
  go_enter Tryz.func37, Tryz.ntmps37
  go_wp2_with fail
  refine cW.mono ?_
  rintro e w3 ⟨tb, v3, l3, E3, rfl, htz, hl3, hr3, hb3, hrel⟩
  obtain ⟨rfl, htb, rfl⟩ : E3 = 0 ∧ tb.data.toList = x.text ∧ l3 = l := by
   unfold atK at hrel
   rw [if_pos rfl, Sr.wordF, if_neg HWD.out.2] at hrel
   exact ⟨hrel.1, hrel.2.1, hrel.2.2.1⟩
  have r1 : w3.cell? ⟨kb, 1, none⟩ = some (.int .i64 0) := rd_cell hr3 rfl
  have cG := rgreat_is tb w3 (by omega)
  rw [htb, HWD.out.1] at cG
  have hz := HZ.out
  have hs3 := hb3.size
  have HX : Hid (∀ W, Below w3.heap.size w3 W → KyS W kb ((c : Int) + 1) 0 ∧ Ags W Ok B l3 v3 ∧ But w.heap.size kb w W ∧ W.heap[w.heap.size]? = some (.cells #[.int .i64 0, .string ⟨#[]⟩, .string ⟨#[]⟩, .int .i64 0, .slice none 0 0, .slice none 0 0] 32 (0, 0)) ∧ w.heap.size + 1 ≤ W.heap.size) := fun W hW =>
   ⟨hr3.kept (hW.block kb (by omega)), hl3.kept fun k hk hlt => ⟨hk, hW.block k hlt⟩, (HB.out.trans (hb3.less (by omega))).trans (to_but (hW.mono (by omega))), (hW.block w.heap.size (by omega)).trans ((hb3.block w.heap.size (by omega) (by omega)).trans HE.out), by have := hW.size; omega⟩
  clear cW hr3 hl3 hb3 htb hrel
  go_wp2_with fail
  refine cG.mono ?_
  rintro e w4 ⟨rfl, hb4⟩
  obtain ⟨hr4, hl4, hbt, e4, hs4⟩ := HX.out w4 hb4
  clear cG HX hb4
  have cF := HCF.out w4 hr4
  have HX5 : Hid (Ags w4 Ok B l3 v3 ∧ But w.heap.size kb w w4 ∧ w4.heap[w.heap.size]? = some (.cells #[.int .i64 0, .string ⟨#[]⟩, .string ⟨#[]⟩, .int .i64 0, .slice none 0 0, .slice none 0 0] 32 (0, 0))) := ⟨hl4, hbt, e4⟩
  clear hr4 hl4 hbt e4
  go_wp2_with fail
  refine cF.mono ?_
  rintro e w6 ⟨nb, E6, rfl, hnb, hr6, hb6, hrel⟩
  have hR := (hrel l3).map Sr.notK
  rw [HT.out] at hR
  have hk6 := kx_leaf w6 (fun _ => False) 2 0 nb ⟨#[]⟩
  rw [hnb] at hk6
  have cN := knots _ _ (fun _ => False) w6 hk6
  have HX6 : Hid (KyS w6 kb ((c : Int) + 1) E6 ∧ But w4.heap.size kb w4 w6 ∧ RelK T _ l3 ((c : Int) + 1) E6) := ⟨hr6, hb6, hR⟩
  clear hr6 hb6 hrel hR hk6 hnb cF HT
  go_wp2_with fail
  refine cN.mono ?_
  rintro e w7 ⟨zs, rfl, hk7, hb7⟩
  clear cN
  obtain ⟨x0, x3, x1, x2, xa, xk, xc, ya, yk, yc, rfl⟩ := kx_cells hk7
  have hta : ([.int .i64 x0, .string x1, .string x2, .int .i64 x3, .slice xa xk xc, .slice ya yk yc] : List Value).toArray = #[.int .i64 x0, .string x1, .string x2, .int .i64 x3, .slice xa xk xc, .slice ya yk yc] := rfl
  rw [hta]
  obtain ⟨hr6, hb6, hR⟩ := HX6.out
  have hs6 := hb6.size
  have e7 := (hb7.block w.heap.size (by omega)).trans ((hb6.block w.heap.size (by omega) (by omega)).trans HX5.out.2.2)
  obtain ⟨⟨s0, s1, s2, s3, s4, s5⟩, ⟨sf0, sf1, sf2, sf3, sf4, sf5⟩, u0, u1, u2, u3, u4, u5⟩ := six_facts e7 (.int .i64 x0) (.string x1) (.string x2) (.int .i64 x3) (.slice xa xk xc) (.slice ya yk yc)
  have HD : Hid (OutK w kb B Ok T (.returned (.tuple #[.agg #[.int .i64 x0, .string x1, .string x2, .int .i64 x3, .slice xa xk xc, .slice ya yk yc], v3])) _) := kdone hkb HO.out (hk7.kept fun q hq _ => ⟨hq.elim (fun h => h.elim) (fun h => by omega), rfl⟩) (hr6.kept (hb7.block kb (by omega))) (HX5.out.1.kept fun k hk hlt => ⟨hk, (hb7.block k (by omega)).trans (hb6.block k hlt (HO.out k hk).1)⟩) ((HX5.out.2.1.trans (hb6.less (by omega))).trans (to_but (hb7.mono (by omega)))) hR
  clear hr6 hb6 hR hk7 hb7 e7 HX5 HX6 HENV hta HCF
  go_wp2_with fail
  exact bodyPost_ret (v := .tuple #[.agg #[.int .i64 x0, .string x1, .string x2, .int .i64 x3, .slice xa xk xc, .slice ya yk yc], v3]) (by simp [results, Tryz.results37, go_sem, u0, u1, u2, u3, u4, u5]) rfl HD.out
end Go.Proofs.YtogigccbnohjjaaGreatDoor
namespace Go.Proofs.YtogigccbnohjjaaGreatDoor
open Go.RowKit Go.Proofs.Aid Go.Proofs.Sq Go.Proofs.Hd
set_option maxHeartbeats 4000000
set_option maxRecDepth 100000
theorem kkey_keyword (kb B d c : Nat) (x : Sr.Ar) (l : List Sr.Ar) (v : Value) (Ok : Nat → Prop) (w : World) (henv : EnvK w kb) (hr : KyS w kb (c : Int) 0) (hl : Ags w Ok B (x :: l) v) (hB : B ≤ 900000) (hO : ∀ k, Ok k → k ≠ kb ∧ k < w.heap.size) (hd : d ≤ 6) (hc : c + 1 ≤ 60) (hx : x.kind ≠ 3) (hw : great x.text = [75, 69, 89, 87, 79, 82, 68]) :
  Calls Tryz.prog 37 #[.pointer (some ⟨kb, 0, none⟩), v, .int .i64 (d : Int)] w fun e w' => OutK w kb B Ok (((Sr.wordF l (c + 1)).then fun s l c => Sr.flagF s l c)) e w' := by
 have hkb := hr.lt
 obtain ⟨T, hT⟩ : ∃ T, (((Sr.wordF l (c + 1)).then fun s l c => Sr.flagF s l c)) = T := ⟨_, rfl⟩
 rw [hT]
 have HT : Hid ((((Sr.wordF l (c + 1)).then fun s l c => Sr.flagF s l c)) = T) := hT
 have HENV : Hid (EnvK w kb) := henv
 obtain ⟨W1, W2, hW1, hW2, p1, f1, q0, q1, z2, hr2, hl2, hb2, hE2⟩ := kbegun kb B (c : Int) 0 ((c : Int) + 1) (x :: l) v Ok w hr hl hO
 have cW := kword kb B ((c : Int) + 1) 0 (x :: l) v Ok W2 hr2 hl2 (fun _ => by omega)
 obtain ⟨b, o, C, _, lv, rfl, hC, hC2, hOb, _, _, _, c1, _, _, _⟩ := hl2.head
 have hkb3 : (x.kind == 3) = false := by simpa using hx
 obtain ⟨L, hL⟩ : ∃ L, l.length = L := ⟨_, rfl⟩
 have HB : Hid (But w.heap.size kb w W2) := hb2
 have HE : Hid (W2.heap[w.heap.size]? = some (.cells #[.int .i64 0, .string ⟨#[]⟩, .string ⟨#[]⟩, .int .i64 0, .slice none 0 0, .slice none 0 0] 32 (0, 0))) := hE2
 have HO : Hid (∀ k, Ok k → k ≠ kb ∧ k < w.heap.size) := hO
 have HZ : Hid (W2.heap.size = w.heap.size + 1) := z2
 have HWD : Hid (great x.text = [75, 69, 89, 87, 79, 82, 68] ∧ x.kind ≠ 3) := ⟨hw, hx⟩
 have d1 : decide ((60 : Int) < (c : Int) + 1) = false := decide_eq_false (by omega)
 have d2 : decide ((6 : Int) < (d : Int)) = false := decide_eq_false (by omega)
 obtain ⟨K, hK⟩ : ∃ K, x.kind = K := ⟨_, rfl⟩
 rw [hK] at c1 hkb3
 rw [hL] at hC cW ⊢
 clear hr hl hO hr2 hl2 hb2 hE2 hL z2 hx hK hw henv hT
 go_enter Tryz.func37, Tryz.ntmps37
 go_wp2_with fail
 refine cW.mono ?_
 rintro e w3 ⟨tb, v3, l3, E3, rfl, htz, hl3, hr3, hb3, hrel⟩
 obtain ⟨rfl, htb, rfl⟩ : E3 = 0 ∧ tb.data.toList = x.text ∧ l3 = l := by
  unfold atK at hrel
  rw [if_pos rfl, Sr.wordF, if_neg HWD.out.2] at hrel
  exact ⟨hrel.1, hrel.2.1, hrel.2.2.1⟩
 have r1 : w3.cell? ⟨kb, 1, none⟩ = some (.int .i64 0) := rd_cell hr3 rfl
 have cG := rgreat_is tb w3 (by omega)
 rw [htb, HWD.out.1, show (⟨([75, 69, 89, 87, 79, 82, 68] : List UInt8).toArray⟩ : ByteArray) = ⟨#[75, 69, 89, 87, 79, 82, 68]⟩ from rfl] at cG
 have hz := HZ.out
 have hs3 := hb3.size
 have HX : Hid (∀ W, Below w3.heap.size w3 W → KyS W kb ((c : Int) + 1) 0 ∧ Ags W Ok B l3 v3 ∧ But w.heap.size kb w W ∧ W.heap[w.heap.size]? = some (.cells #[.int .i64 0, .string ⟨#[]⟩, .string ⟨#[]⟩, .int .i64 0, .slice none 0 0, .slice none 0 0] 32 (0, 0)) ∧ w.heap.size + 1 ≤ W.heap.size) := fun W hW =>
  ⟨hr3.kept (hW.block kb (by omega)), hl3.kept fun k hk hlt => ⟨hk, hW.block k hlt⟩, (HB.out.trans (hb3.less (by omega))).trans (to_but (hW.mono (by omega))), (hW.block w.heap.size (by omega)).trans ((hb3.block w.heap.size (by omega) (by omega)).trans HE.out), by have := hW.size; omega⟩
 clear cW hr3 hl3 hb3 htb hrel
 go_wp2_with fail
 refine cG.mono ?_
 rintro e w4 ⟨rfl, hb4⟩
 obtain ⟨hr4, hl4, hbt, e4, hs4⟩ := HX.out w4 hb4
 clear cG HX hb4
 have cV := kword kb B ((c : Int) + 1) 0 l3 v3 Ok w4 hr4 hl4 (fun _ => by omega)
 have HX4 : Hid (But w.heap.size kb w w4 ∧ w4.heap[w.heap.size]? = some (.cells #[.int .i64 0, .string ⟨#[]⟩, .string ⟨#[]⟩, .int .i64 0, .slice none 0 0, .slice none 0 0] 32 (0, 0))) := ⟨hbt, e4⟩
 clear hr4 hl4 hbt e4
 go_wp2_with fail
 refine cV.mono ?_
 rintro e w5 ⟨t5, v5, l5, E5, rfl, htz5, hl5, hr5, hb5, hrel5⟩
 rw [show ((c : Int) + 1) = ((c + 1 : Nat) : Int) from rfl, atK_ok, show ((c + 1 : Nat) : Int) = (c : Int) + 1 from rfl] at hrel5
 have hs5 := hb5.size
 have e5 := (hb5.block w.heap.size (by omega) (by omega)).trans HX4.out.2
 have hbt5 := HX4.out.1.trans (hb5.less (base' := w.heap.size) (by omega))
 clear cV HX4 hb5
 have cF := kflag kb ((c : Int) + 1) E5 t5 w5 hr5 hrel5.pos (by omega)
 have HX5 : Hid (Ags w5 Ok B l5 v5 ∧ But w.heap.size kb w w5 ∧ w5.heap[w.heap.size]? = some (.cells #[.int .i64 0, .string ⟨#[]⟩, .string ⟨#[]⟩, .int .i64 0, .slice none 0 0, .slice none 0 0] 32 (0, 0)) ∧ RelK (Sr.wordF l3 (c + 1)) t5.data.toList l5 ((c : Int) + 1) E5) := ⟨hl5, hbt5, e5, hrel5⟩
 clear hr5 hl5 hbt5 e5 hrel5
 go_wp2_with fail
 refine cF.mono ?_
 rintro e w6 ⟨nb, E6, rfl, hnb, hr6, hb6, hrel6⟩
 have hR := HX5.out.2.2.2.then (k := fun s l c => Sr.flagF s l c) (hrel6 l5)
 rw [HT.out] at hR
 have hs6 := hb6.size
 have e6 := (hb6.block w.heap.size (by omega) (by omega)).trans HX5.out.2.2.1
 have hk6 := kx_leaf w6 (fun _ => False) 2 0 nb ⟨#[]⟩
 rw [hnb] at hk6
 have HX6 : Hid (KyS w6 kb ((c : Int) + 1) E6 ∧ Ags w6 Ok B l5 v5 ∧ But w.heap.size kb w w6 ∧ w6.heap[w.heap.size]? = some (.cells #[.int .i64 0, .string ⟨#[]⟩, .string ⟨#[]⟩, .int .i64 0, .slice none 0 0, .slice none 0 0] 32 (0, 0)) ∧ RelK T (Sr.flagK (Fl.fname t5.data.toList).1) l5 ((c : Int) + 1) E6) := ⟨hr6, HX5.out.1.kept fun k hk hlt => ⟨hk, hb6.block k hlt (HO.out k hk).1⟩, HX5.out.2.1.trans (hb6.less (by omega)), e6, hR⟩
 have HK6 : Hid (Kx w6 (fun _ => False) (Sr.flagK (Fl.fname t5.data.toList).1) [.int .i64 2, .string nb, .string ⟨#[]⟩, .int .i64 0, .slice none 0 0, .slice none 0 0]) := hk6
 have hz7 : w6.heap.size + 1 = w6.heap.size + 1 := rfl
 have e7 := heap_alloc_new w6 (.cells #[.int .i64 0, .string ⟨#[]⟩, .string ⟨#[]⟩, .int .i64 0, .slice none 0 0, .slice none 0 0] 32)
 have b7 : Below w6.heap.size w6 (w6.alloc (.cells #[.int .i64 0, .string ⟨#[]⟩, .string ⟨#[]⟩, .int .i64 0, .slice none 0 0, .slice none 0 0] 32)) := (Below.refl _ _).alloc (Nat.le_refl _) _
 obtain ⟨W7, hW7⟩ : ∃ W, w6.alloc (.cells #[.int .i64 0, .string ⟨#[]⟩, .string ⟨#[]⟩, .int .i64 0, .slice none 0 0, .slice none 0 0] 32) = W := ⟨_, rfl⟩
 rw [hW7] at e7 b7
 obtain ⟨⟨a0, a1, a2, a3, a4, a5⟩, ⟨af0, af1, af2, af3, af4, af5⟩, _⟩ := six_facts e7 (.int .i64 2) (.string nb) (.string ⟨#[]⟩) (.int .i64 0) (.slice none 0 0) (.slice none 0 0)
 have e8 := six_set e7 (.int .i64 2) (.string nb) (.string ⟨#[]⟩) (.int .i64 0) (.slice none 0 0) (.slice none 0 0)
 obtain ⟨W8, hW8⟩ : ∃ W, ((((((W7.setCell ⟨w6.heap.size, 0, none⟩ (.int .i64 2)).setCell ⟨w6.heap.size, 1, none⟩ (.string nb)).setCell ⟨w6.heap.size, 2, none⟩ (.string ⟨#[]⟩)).setCell ⟨w6.heap.size, 3, none⟩ (.int .i64 0)).setCell ⟨w6.heap.size, 4, none⟩ (.slice none 0 0)).setCell ⟨w6.heap.size, 5, none⟩ (.slice none 0 0)) = W := ⟨_, rfl⟩
 have hfar8 : ∀ q, q < w6.heap.size → W8.heap[q]? = w6.heap[q]? := fun q hq => by rw [← hW8, six_other _ (by omega)]; exact b7.block q hq
 have hb8 : But w6.heap.size kb w6 W8 := by rw [← hW8]; exact six_but (to_but b7) (Nat.le_refl _) _ _ _ _ _ _
 rw [hW8] at e8
 have y0 := rd_cell (j := 0) e8 rfl
 have y1 := rd_cell (j := 1) e8 rfl
 have y2 := rd_cell (j := 2) e8 rfl
 have y3 := rd_cell (j := 3) e8 rfl
 have y4 := rd_cell (j := 4) e8 rfl
 have y5 := rd_cell (j := 5) e8 rfl
 have h75 : ((((⟨#[75, 69, 89, 87, 79, 82, 68]⟩ : ByteArray)[0]'(by decide)).toNat : Int) == 85) = false := by decide
 obtain ⟨hr6, hl6, hbt6, e6', hR6⟩ := HX6.out
 have e9 := (hfar8 w.heap.size (by omega)).trans e6'
 obtain ⟨⟨s0, s1, s2, s3, s4, s5⟩, ⟨sf0, sf1, sf2, sf3, sf4, sf5⟩, u0, u1, u2, u3, u4, u5⟩ := six_facts e9 (.int .i64 2) (.string nb) (.string ⟨#[]⟩) (.int .i64 0) (.slice none 0 0) (.slice none 0 0)
 have HD : Hid (OutK w kb B Ok T (.returned (.tuple #[.agg #[.int .i64 2, .string nb, .string ⟨#[]⟩, .int .i64 0, .slice none 0 0, .slice none 0 0], v5])) _) := kdone hkb HO.out (HK6.out.kept fun q hq _ => hq.elim) (hr6.kept (hfar8 kb (by omega))) (hl6.kept fun k hk hlt => ⟨hk, hfar8 k hlt⟩) (hbt6.trans (hb8.less (by omega))) hR6
 clear hr6 hl6 hbt6 e6 e6' e7 e8 e9 hR6 hR hk6 hnb hb6 hrel6 hb8 hfar8 b7 cF HX5 HX6 HK6 HT HENV hz7
 go_wp2_with fail
 exact bodyPost_ret (v := .tuple #[.agg #[.int .i64 2, .string nb, .string ⟨#[]⟩, .int .i64 0, .slice none 0 0, .slice none 0 0], v5]) (by simp [results, Tryz.results37, go_sem, u0, u1, u2, u3, u4, u5]) rfl HD.out
end Go.Proofs.YtogigccbnohjjaaGreatDoor
