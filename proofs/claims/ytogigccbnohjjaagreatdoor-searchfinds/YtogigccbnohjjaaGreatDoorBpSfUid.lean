/-
  What key of the document's reader does at UID, and more.
-/
import Derived.Test.YtogigccbnohjjaaGreatDoorBpHeadTies
import Derived.Test.YtogigccbnohjjaaGreatDoorBpSearchRow
namespace Go.Proofs.YtogigccbnohjjaaGreatDoor
open Go.RowKit Go.Proofs.Aid Go.Proofs.Sq Go.Proofs.Hd
set_option maxHeartbeats 4000000
set_option maxRecDepth 100000
theorem kx_set {w : World} {Ok : Nat → Prop} {code : Int} {a : Option Addr} {k c : Nat} {r : List (Nat × Nat)} (h : StS w Ok (.slice a k c) r) : Kx w Ok (.mk code [] [] 0 r []) [.int .i64 code, .string ⟨#[]⟩, .string ⟨#[]⟩, .int .i64 0, .slice a k c, .slice none 0 0] :=
 Kx.mk code 0 ⟨#[]⟩ ⟨#[]⟩ r (.slice a k c) [] none 0 (fun _ => []) h (fun j k h => by simp at h) (Or.inl rfl)
theorem kkey_uid (kb B d c : Nat) (x : Sr.Ar) (l : List Sr.Ar) (v : Value) (Ok : Nat → Prop) (w : World) (henv : EnvK w kb) (hr : KyS w kb (c : Int) 0) (hl : Ags w Ok B (x :: l) v) (hB : B ≤ 900000) (hO : ∀ k, Ok k → k ≠ kb ∧ k < w.heap.size) (hd : d ≤ 6) (hc : c + 1 ≤ 60) (hx : x.kind ≠ 3) (hw : great x.text = [85, 73, 68]) :
  Calls Tryz.prog 37 #[.pointer (some ⟨kb, 0, none⟩), v, .int .i64 (d : Int)] w fun e w' => OutK w kb B Ok ((Sr.wordF l (c + 1)).then fun s l c => (Sr.setF s l c).map fun r => Sr.Ky.mk 11 [] [] 0 r []) e w' := by
 have hkb := hr.lt
 obtain ⟨T, hT⟩ : ∃ T, ((Sr.wordF l (c + 1)).then fun s l c => (Sr.setF s l c).map fun r => Sr.Ky.mk 11 [] [] 0 r []) = T := ⟨_, rfl⟩
 rw [hT]
 have HT : Hid (((Sr.wordF l (c + 1)).then fun s l c => (Sr.setF s l c).map fun r => Sr.Ky.mk 11 [] [] 0 r []) = T) := hT
 have HENV : Hid (EnvK w kb) := henv
 obtain ⟨W1, W2, hW1, hW2, p1, f1, q0, q1, z2, hr2, hl2, hb2, hE2⟩ := kbegun kb B (c : Int) 0 ((c : Int) + 1) (x :: l) v Ok w hr hl hO
 have cW := kword kb B ((c : Int) + 1) 0 (x :: l) v Ok W2 hr2 hl2 (fun _ => by omega)
 obtain ⟨b, o, C, _, lv, rfl, hC, hC2, hOb, _, _, _, c1, _, _, _⟩ := hl2.head
 have hkb3 : (x.kind == 3) = false := by simpa using hx
 obtain ⟨L, hL⟩ : ∃ L, l.length = L := ⟨_, rfl⟩
 have HB : Hid (But w.heap.size kb w W2) := hb2
 have HE : Hid (W2.heap[w.heap.size]? = some (.cells #[.int .i64 0, .string ⟨#[]⟩, .string ⟨#[]⟩, .int .i64 0, .slice none 0 0, .slice none 0 0] 32 (0, 0))) := hE2
 have HO : Hid (∀ k, Ok k → k ≠ kb ∧ k < w.heap.size) := hO
 have HZ : Hid (W2.heap.size = w.heap.size + 1) := z2
 have HWD : Hid (great x.text = [85, 73, 68] ∧ x.kind ≠ 3) := ⟨hw, hx⟩
 have d1 : decide ((60 : Int) < (c : Int) + 1) = false := decide_eq_false (by omega)
 have d2 : decide ((6 : Int) < (d : Int)) = false := decide_eq_false (by omega)
 obtain ⟨K, hK⟩ : ∃ K, x.kind = K := ⟨_, rfl⟩
 rw [hK] at c1 hkb3
 rw [hL] at hC cW ⊢
 clear hr hl hO hr2 hl2 hb2 hE2 hL z2 hx hK hw henv hT
 go_enter Tryz.func37, Tryz.ntmps37
 go_wp2_with fail
 refine cW.mono ?_
 rintro e w3 ⟨tb, v3, l3, E3, rfl, htz, hl3, hr3, hb3, hrel⟩
 obtain ⟨rfl, htb, rfl⟩ : E3 = 0 ∧ tb.data.toList = x.text ∧ l3 = l := by
  unfold atK at hrel
  rw [if_pos rfl, Sr.wordF, if_neg HWD.out.2] at hrel
  exact ⟨hrel.1, hrel.2.1, hrel.2.2.1⟩
 have r1 : w3.cell? ⟨kb, 1, none⟩ = some (.int .i64 0) := rd_cell hr3 rfl
 have cG := rgreat_is tb w3 (by omega)
 rw [htb, HWD.out.1, show (⟨([85, 73, 68] : List UInt8).toArray⟩ : ByteArray) = ⟨#[85, 73, 68]⟩ from rfl] at cG
 have hz := HZ.out
 have hs3 := hb3.size
 have HX : Hid (∀ W, Below w3.heap.size w3 W → KyS W kb ((c : Int) + 1) 0 ∧ Ags W Ok B l3 v3 ∧ But w.heap.size kb w W ∧ W.heap[w.heap.size]? = some (.cells #[.int .i64 0, .string ⟨#[]⟩, .string ⟨#[]⟩, .int .i64 0, .slice none 0 0, .slice none 0 0] 32 (0, 0)) ∧ w.heap.size + 1 ≤ W.heap.size) := fun W hW =>
  ⟨hr3.kept (hW.block kb (by omega)), hl3.kept fun k hk hlt => ⟨hk, hW.block k hlt⟩, (HB.out.trans (hb3.less (by omega))).trans (to_but (hW.mono (by omega))), (hW.block w.heap.size (by omega)).trans ((hb3.block w.heap.size (by omega) (by omega)).trans HE.out), by have := hW.size; omega⟩
 clear cW hr3 hl3 hb3 htb hrel
 go_wp2_with fail
 refine cG.mono ?_
 rintro e w4 ⟨rfl, hb4⟩
 obtain ⟨hr4, hl4, hbt, e4, hs4⟩ := HX.out w4 hb4
 clear cG HX hb4
 have cV := kword kb B ((c : Int) + 1) 0 l3 v3 Ok w4 hr4 hl4 (fun _ => by omega)
 have HX4 : Hid (But w.heap.size kb w w4 ∧ w4.heap[w.heap.size]? = some (.cells #[.int .i64 0, .string ⟨#[]⟩, .string ⟨#[]⟩, .int .i64 0, .slice none 0 0, .slice none 0 0] 32 (0, 0))) := ⟨hbt, e4⟩
 clear hr4 hl4 hbt e4
 go_wp2_with fail
 refine cV.mono ?_
 rintro e w5 ⟨t5, v5, l5, E5, rfl, htz5, hl5, hr5, hb5, hrel5⟩
 rw [show ((c : Int) + 1) = ((c + 1 : Nat) : Int) from rfl, atK_ok, show ((c + 1 : Nat) : Int) = (c : Int) + 1 from rfl] at hrel5
 have hs5 := hb5.size
 have e5 := (hb5.block w.heap.size (by omega) (by omega)).trans HX4.out.2
 have hbt5 := HX4.out.1.trans (hb5.less (base' := w.heap.size) (by omega))
 clear cV HX4 hb5
 have r5 : w5.cell? ⟨kb, 1, none⟩ = some (.int .i64 E5) := rd_cell hr5 rfl
 by_cases hE5 : E5 = 0
 ·subst hE5
  obtain ⟨hnum, m, hm⟩ := HENV.out w5 hbt5
  have cF := kset kb ((c : Int) + 1) 0 m t5 w5 hr5 (fun _ => by omega) (by omega) hm hnum
  have HX5 : Hid (Ags w5 Ok B l5 v5 ∧ But w.heap.size kb w w5 ∧ w5.heap[w.heap.size]? = some (.cells #[.int .i64 0, .string ⟨#[]⟩, .string ⟨#[]⟩, .int .i64 0, .slice none 0 0, .slice none 0 0] 32 (0, 0)) ∧ RelK (Sr.wordF l3 (c + 1)) t5.data.toList l5 ((c : Int) + 1) 0) := ⟨hl5, hbt5, e5, hrel5⟩
  clear hr5 hl5 hbt5 e5 hrel5 hnum hm
  go_wp2_with fail
  refine cF.mono ?_
  rintro e w6 ⟨sa, sk, sc, r, E6, rfl, hst, hr6, hb6, hrel6⟩
  have hR := HX5.out.2.2.2.then (k := fun s l c => (Sr.setF s l c).map fun r => Sr.Ky.mk 11 [] [] 0 r []) (by rw [atK_map]; exact (hrel6 l5).map fun r => Sr.Ky.mk 11 [] [] 0 r [])
  rw [HT.out] at hR
  have hs6 := hb6.size
  have e6 := (hb6.block w.heap.size (by omega) (by omega)).trans HX5.out.2.2.1
  have hk6 := kx_set (code := 11) (hst.kept (Ok' := fun q => w.heap.size + 1 ≤ q) fun q hq _ => ⟨by omega, rfl⟩)
  obtain ⟨⟨s0, s1, s2, s3, s4, s5⟩, ⟨sf0, sf1, sf2, sf3, sf4, sf5⟩, u0, u1, u2, u3, u4, u5⟩ := six_facts e6 (.int .i64 11) (.string ⟨#[]⟩) (.string ⟨#[]⟩) (.int .i64 0) (.slice sa sk sc) (.slice none 0 0)
  have HD : Hid (OutK w kb B Ok T (.returned (.tuple #[.agg #[.int .i64 11, .string ⟨#[]⟩, .string ⟨#[]⟩, .int .i64 0, .slice sa sk sc, .slice none 0 0], v5])) _) := kdone hkb HO.out hk6 hr6 (HX5.out.1.kept fun k hk hlt => ⟨hk, hb6.block k hlt (HO.out k hk).1⟩) (HX5.out.2.1.trans (hb6.less (by omega))) hR
  clear hr6 hb6 hrel6 hR hk6 e6 cF HT HX5 HENV hst
  go_wp2_with fail
  exact bodyPost_ret (v := .tuple #[.agg #[.int .i64 11, .string ⟨#[]⟩, .string ⟨#[]⟩, .int .i64 0, .slice sa sk sc, .slice none 0 0], v5]) (by simp [results, Tryz.results37, go_sem, u0, u1, u2, u3, u4, u5]) rfl HD.out
 ·have i5 : (E5 != 0) = true := by simpa using hE5
  have hR : ∀ k l n, RelK T k l n E5 := fun k l n => by
   rw [← HT.out]
   exact hrel5.then (by rw [atK_bad _ _ _ hE5]; exact ⟨rfl, hE5⟩)
  have HR : Hid (∀ k l n, RelK T k l n E5) := hR
  obtain ⟨⟨s0, s1, s2, s3, s4, s5⟩, ⟨sf0, sf1, sf2, sf3, sf4, sf5⟩, u0, u1, u2, u3, u4, u5⟩ := six_facts e5 (.int .i64 0) (.string ⟨#[]⟩) (.string ⟨#[]⟩) (.int .i64 0) (.slice none 0 0) (.slice none 0 0)
  have HD : Hid (OutK w kb B Ok T (.returned (.tuple #[.agg #[.int .i64 0, .string ⟨#[]⟩, .string ⟨#[]⟩, .int .i64 0, .slice none 0 0, .slice none 0 0], .slice none 0 0])) _) := kdone hkb HO.out (kx_leaf w5 _ 0 0 ⟨#[]⟩ ⟨#[]⟩) hr5 (ags_none _ _ _) hbt5 (HR.out _ _ _)
  clear hr5 hl5 hbt5 e5 hrel5 hR HR HT HENV hE5
  go_wp2_with fail
  exact bodyPost_ret (v := .tuple #[.agg #[.int .i64 0, .string ⟨#[]⟩, .string ⟨#[]⟩, .int .i64 0, .slice none 0 0, .slice none 0 0], .slice none 0 0]) (by simp [results, Tryz.results37, go_sem, u0, u1, u2, u3, u4, u5]) rfl HD.out
end Go.Proofs.YtogigccbnohjjaaGreatDoor
namespace Go.Proofs.YtogigccbnohjjaaGreatDoor
open Go.RowKit Go.Proofs.Aid Go.Proofs.Sq Go.Proofs.Hd
set_option maxHeartbeats 4000000
set_option maxRecDepth 100000
theorem kkey_not (kb B d c : Nat) (x : Sr.Ar) (l : List Sr.Ar) (v : Value) (Ok : Nat → Prop) (w : World) (henv : EnvK w kb) (hr : KyS w kb (c : Int) 0) (hl : Ags w Ok B (x :: l) v) (hB : B ≤ 900000) (hO : ∀ k, Ok k → k ≠ kb ∧ k < w.heap.size) (hd : d ≤ 6) (hc : c + 1 ≤ 60) (hx : x.kind ≠ 3) (hw : great x.text = [78, 79, 84]) (g : List Sr.Ar → Nat → Sr.Rs Sr.Ky) (cK : ∀ W l' v' n E, KyS W kb n E → Ags W Ok B l' v' → But w.heap.size kb w W → (E = 0 → 0 ≤ n ∧ n ≤ 60) → Calls Tryz.prog 37 #[.pointer (some ⟨kb, 0, none⟩), v', .int .i64 ((d : Int) + 1)] W fun e w' => OutK W kb B Ok (atK g l' n E) e w') :
  Calls Tryz.prog 37 #[.pointer (some ⟨kb, 0, none⟩), v, .int .i64 (d : Int)] w fun e w' => OutK w kb B Ok ((g l (c + 1)).map Sr.notK) e w' := by
 have HKK : Hid (∀ W l' v' n E, KyS W kb n E → Ags W Ok B l' v' → But w.heap.size kb w W → (E = 0 → 0 ≤ n ∧ n ≤ 60) → Calls Tryz.prog 37 #[.pointer (some ⟨kb, 0, none⟩), v', .int .i64 ((d : Int) + 1)] W fun e w' => OutK W kb B Ok (atK g l' n E) e w') := cK
 clear cK
 have hkb := hr.lt
 obtain ⟨T, hT⟩ : ∃ T, ((g l (c + 1)).map Sr.notK) = T := ⟨_, rfl⟩
 rw [hT]
 have HT : Hid (((g l (c + 1)).map Sr.notK) = T) := hT
 have HENV : Hid (EnvK w kb) := henv
 obtain ⟨W1, W2, hW1, hW2, p1, f1, q0, q1, z2, hr2, hl2, hb2, hE2⟩ := kbegun kb B (c : Int) 0 ((c : Int) + 1) (x :: l) v Ok w hr hl hO
 have cW := kword kb B ((c : Int) + 1) 0 (x :: l) v Ok W2 hr2 hl2 (fun _ => by omega)
 obtain ⟨b, o, C, _, lv, rfl, hC, hC2, hOb, _, _, _, c1, _, _, _⟩ := hl2.head
 have hkb3 : (x.kind == 3) = false := by simpa using hx
 obtain ⟨L, hL⟩ : ∃ L, l.length = L := ⟨_, rfl⟩
 have HB : Hid (But w.heap.size kb w W2) := hb2
 have HE : Hid (W2.heap[w.heap.size]? = some (.cells #[.int .i64 0, .string ⟨#[]⟩, .string ⟨#[]⟩, .int .i64 0, .slice none 0 0, .slice none 0 0] 32 (0, 0))) := hE2
 have HO : Hid (∀ k, Ok k → k ≠ kb ∧ k < w.heap.size) := hO
 have HZ : Hid (W2.heap.size = w.heap.size + 1) := z2
 have HWD : Hid (great x.text = [78, 79, 84] ∧ x.kind ≠ 3) := ⟨hw, hx⟩
 have d1 : decide ((60 : Int) < (c : Int) + 1) = false := decide_eq_false (by omega)
 have d2 : decide ((6 : Int) < (d : Int)) = false := decide_eq_false (by omega)
 obtain ⟨K, hK⟩ : ∃ K, x.kind = K := ⟨_, rfl⟩
 rw [hK] at c1 hkb3
 rw [hL] at hC cW ⊢
 clear hr hl hO hr2 hl2 hb2 hE2 hL z2 hx hK hw henv hT
 go_enter Tryz.func37, Tryz.ntmps37
 go_wp2_with fail
 refine cW.mono ?_
 rintro e w3 ⟨tb, v3, l3, E3, rfl, htz, hl3, hr3, hb3, hrel⟩
 obtain ⟨rfl, htb, rfl⟩ : E3 = 0 ∧ tb.data.toList = x.text ∧ l3 = l := by
  unfold atK at hrel
  rw [if_pos rfl, Sr.wordF, if_neg HWD.out.2] at hrel
  exact ⟨hrel.1, hrel.2.1, hrel.2.2.1⟩
 have r1 : w3.cell? ⟨kb, 1, none⟩ = some (.int .i64 0) := rd_cell hr3 rfl
 have cG := rgreat_is tb w3 (by omega)
 rw [htb, HWD.out.1, show (⟨([78, 79, 84] : List UInt8).toArray⟩ : ByteArray) = ⟨#[78, 79, 84]⟩ from rfl] at cG
 have hz := HZ.out
 have hs3 := hb3.size
 have HX : Hid (∀ W, Below w3.heap.size w3 W → KyS W kb ((c : Int) + 1) 0 ∧ Ags W Ok B l3 v3 ∧ But w.heap.size kb w W ∧ W.heap[w.heap.size]? = some (.cells #[.int .i64 0, .string ⟨#[]⟩, .string ⟨#[]⟩, .int .i64 0, .slice none 0 0, .slice none 0 0] 32 (0, 0)) ∧ w.heap.size + 1 ≤ W.heap.size) := fun W hW =>
  ⟨hr3.kept (hW.block kb (by omega)), hl3.kept fun k hk hlt => ⟨hk, hW.block k hlt⟩, (HB.out.trans (hb3.less (by omega))).trans (to_but (hW.mono (by omega))), (hW.block w.heap.size (by omega)).trans ((hb3.block w.heap.size (by omega) (by omega)).trans HE.out), by have := hW.size; omega⟩
 clear cW hr3 hl3 hb3 htb hrel
 go_wp2_with fail
 refine cG.mono ?_
 rintro e w4 ⟨rfl, hb4⟩
 obtain ⟨hr4, hl4, hbt, e4, hs4⟩ := HX.out w4 hb4
 clear cG HX hb4
 have cQ := HKK.out w4 l3 v3 ((c : Int) + 1) 0 hr4 hl4 hbt (fun _ => ⟨by omega, by omega⟩)
 rw [show ((c : Int) + 1) = ((c + 1 : Nat) : Int) from rfl, atK_ok] at cQ
 have HX4 : Hid (But w.heap.size kb w w4 ∧ w4.heap[w.heap.size]? = some (.cells #[.int .i64 0, .string ⟨#[]⟩, .string ⟨#[]⟩, .int .i64 0, .slice none 0 0, .slice none 0 0] 32 (0, 0))) := ⟨hbt, e4⟩
 clear hr4 hl4 hbt e4
 go_wp2_with fail
 refine cQ.mono ?_
 rintro e w6 ⟨ys, v6, k6, l6, n6, E6, rfl, hk6, hl6, hr6, hb6, hrel6⟩
 clear cQ
 obtain ⟨x0, x3, x1, x2, xa, xk, xc, ya, yk, yc, rfl⟩ := kx_cells hk6
 have hta : ([.int .i64 x0, .string x1, .string x2, .int .i64 x3, .slice xa xk xc, .slice ya yk yc] : List Value).toArray = #[.int .i64 x0, .string x1, .string x2, .int .i64 x3, .slice xa xk xc, .slice ya yk yc] := rfl
 rw [hta]
 have hs6 := hb6.size
 have e6 := (hb6.block w.heap.size (by omega) (by omega)).trans HX4.out.2
 have hbt6 := HX4.out.1.trans (hb6.less (base' := w.heap.size) (by omega))
 have e7 := heap_alloc_new w6 (.cells #[.int .i64 0, .string ⟨#[]⟩, .string ⟨#[]⟩, .int .i64 0, .slice none 0 0, .slice none 0 0] 32)
 have b7 : Below w6.heap.size w6 (w6.alloc (.cells #[.int .i64 0, .string ⟨#[]⟩, .string ⟨#[]⟩, .int .i64 0, .slice none 0 0, .slice none 0 0] 32)) := (Below.refl _ _).alloc (Nat.le_refl _) _
 obtain ⟨W7, hW7⟩ : ∃ W, w6.alloc (.cells #[.int .i64 0, .string ⟨#[]⟩, .string ⟨#[]⟩, .int .i64 0, .slice none 0 0, .slice none 0 0] 32) = W := ⟨_, rfl⟩
 rw [hW7] at e7 b7
 obtain ⟨FB, hFB⟩ : ∃ F, w6.heap.size = F := ⟨_, rfl⟩
 rw [hFB] at e7 b7
 obtain ⟨⟨a0, a1, a2, a3, a4, a5⟩, ⟨af0, af1, af2, af3, af4, af5⟩, _⟩ := six_facts e7 (.int .i64 x0) (.string x1) (.string x2) (.int .i64 x3) (.slice xa xk xc) (.slice ya yk yc)
 have e8 := six_set e7 (.int .i64 x0) (.string x1) (.string x2) (.int .i64 x3) (.slice xa xk xc) (.slice ya yk yc)
 obtain ⟨W8, hW8⟩ : ∃ W, ((((((W7.setCell ⟨FB, 0, none⟩ (.int .i64 x0)).setCell ⟨FB, 1, none⟩ (.string x1)).setCell ⟨FB, 2, none⟩ (.string x2)).setCell ⟨FB, 3, none⟩ (.int .i64 x3)).setCell ⟨FB, 4, none⟩ (.slice xa xk xc)).setCell ⟨FB, 5, none⟩ (.slice ya yk yc)) = W := ⟨_, rfl⟩
 have hfar8 : ∀ q, q < w6.heap.size → W8.heap[q]? = w6.heap[q]? := fun q hq => by rw [← hW8, six_other _ (by omega)]; exact b7.block q (by omega)
 have hb8 : But w6.heap.size kb w6 W8 := by rw [← hW8]; exact six_but (to_but (b7.mono (by omega))) (by omega) _ _ _ _ _ _
 rw [hW8] at e8
 have z8 : FB < W8.heap.size := (Array.getElem?_eq_some_iff.1 e8).1
 have y0 := rd_cell (j := 0) e8 rfl
 have y1 := rd_cell (j := 1) e8 rfl
 have y2 := rd_cell (j := 2) e8 rfl
 have y3 := rd_cell (j := 3) e8 rfl
 have y4 := rd_cell (j := 4) e8 rfl
 have y5 := rd_cell (j := 5) e8 rfl
 have HX8 : Hid (KyS W8 kb n6 E6 ∧ Ags W8 Ok B l6 v6 ∧ But w.heap.size kb w W8 ∧ W8.heap[w.heap.size]? = some (.cells #[.int .i64 0, .string ⟨#[]⟩, .string ⟨#[]⟩, .int .i64 0, .slice none 0 0, .slice none 0 0] 32 (0, 0)) ∧ RelK (g l3 (c + 1)) k6 l6 n6 E6 ∧ Kx W8 (fun q => w.heap.size + 1 ≤ q ∧ q < FB) k6 [.int .i64 x0, .string x1, .string x2, .int .i64 x3, .slice xa xk xc, .slice ya yk yc] ∧ W8.heap[FB]? = some (.cells #[.int .i64 x0, .string x1, .string x2, .int .i64 x3, .slice xa xk xc, .slice ya yk yc] 32 (0, 0)) ∧ w.heap.size + 1 ≤ FB) :=
  ⟨hr6.kept (hfar8 kb (by omega)), hl6.kept fun k hk hlt => ⟨hk, hfar8 k hlt⟩, hbt6.trans (hb8.less (by omega)), (hfar8 _ (by omega)).trans e6, hrel6, hk6.kept fun q hq hlt => ⟨⟨by omega, by omega⟩, hfar8 q hlt⟩, e8, by omega⟩
 have cN := knots k6 [.int .i64 x0, .string x1, .string x2, .int .i64 x3, .slice xa xk xc, .slice ya yk yc] (fun q => w.heap.size + 1 ≤ q ∧ q < FB) W8 HX8.out.2.2.2.2.2.1
 clear hr6 hl6 hb6 hbt6 hrel6 hk6 hta e6 e7 e8 b7 hfar8 hb8 HX4
 go_wp2_with fail
 refine cN.mono ?_
 rintro e w9 ⟨zs, rfl, hk9, hb9⟩
 clear cN
 obtain ⟨X0, X3, X1, X2, Xa, Xk, Xc, Ya, Yk, Yc, rfl⟩ := kx_cells hk9
 have hta : ([.int .i64 X0, .string X1, .string X2, .int .i64 X3, .slice Xa Xk Xc, .slice Ya Yk Yc] : List Value).toArray = #[.int .i64 X0, .string X1, .string X2, .int .i64 X3, .slice Xa Xk Xc, .slice Ya Yk Yc] := rfl
 rw [hta]
 obtain ⟨hr8, hl8, hbt8, e8, hrel8, _, _, hFB8⟩ := HX8.out
 have e9 := (hb9.block w.heap.size (by omega)).trans e8
 have hR := hrel8.map Sr.notK
 rw [HT.out] at hR
 obtain ⟨⟨s0, s1, s2, s3, s4, s5⟩, ⟨sf0, sf1, sf2, sf3, sf4, sf5⟩, u0, u1, u2, u3, u4, u5⟩ := six_facts e9 (.int .i64 X0) (.string X1) (.string X2) (.int .i64 X3) (.slice Xa Xk Xc) (.slice Ya Yk Yc)
 have HD : Hid (OutK w kb B Ok T (.returned (.tuple #[.agg #[.int .i64 X0, .string X1, .string X2, .int .i64 X3, .slice Xa Xk Xc, .slice Ya Yk Yc], v6])) _) := kdone hkb HO.out (hk9.kept fun q hq _ => ⟨hq.elim (fun h => h.1) (fun h => by omega), rfl⟩) (hr8.kept (hb9.block kb (by omega))) (hl8.kept fun k hk hlt => ⟨hk, hb9.block k hlt⟩) (hbt8.trans (to_but (hb9.mono (by omega)))) hR
 clear hr8 hl8 hbt8 e8 e9 hrel8 hR hk9 hb9 hta HX8 HT HENV HKK
 go_wp2_with fail
 exact bodyPost_ret (v := .tuple #[.agg #[.int .i64 X0, .string X1, .string X2, .int .i64 X3, .slice Xa Xk Xc, .slice Ya Yk Yc], v6]) (by simp [results, Tryz.results37, go_sem, u0, u1, u2, u3, u4, u5]) rfl HD.out
end Go.Proofs.YtogigccbnohjjaaGreatDoor
namespace Go.Proofs.YtogigccbnohjjaaGreatDoor
open Go.RowKit Go.Proofs.Aid Go.Proofs.Sq Go.Proofs.Hd
set_option maxHeartbeats 2000000
set_option maxRecDepth 100000
theorem key_begun (rb c B : Nat) (l : List Sr.Ar) (v : Value) (Ok : Nat → Prop) (w : World) (hr : RdS w rb v c) (hl : Ags w Ok B l v) (hrb : rb < w.heap.size) (hO : ∀ k, Ok k → k ≠ rb ∧ k < w.heap.size) :
  ∃ W1 W2, w.alloc (.cells #[.int .i64 0, .string ⟨#[]⟩, .string ⟨#[]⟩, .int .i64 0, .slice none 0 0, .slice none 0 0] 32) = W1 ∧ W1.setCell ⟨rb, 1, none⟩ (.int .i64 ((c : Int) + 1)) = W2 ∧
   W1.cell? ⟨rb, 1, none⟩ = some (.int .i64 (c : Int)) ∧ W1.frozen? ⟨rb, 1, none⟩ = false ∧ W2.cell? ⟨rb, 1, none⟩ = some (.int .i64 ((c : Int) + 1)) ∧ W2.cell? ⟨rb, 0, none⟩ = some v ∧
   W2.heap.size = w.heap.size + 1 ∧ RdS W2 rb v (c + 1) ∧ Ags W2 Ok B l v ∧ But w.heap.size rb w W2 ∧
   W2.heap[w.heap.size]? = some (.cells #[.int .i64 0, .string ⟨#[]⟩, .string ⟨#[]⟩, .int .i64 0, .slice none 0 0, .slice none 0 0] 32 (0, 0)) := by
 have b1 : Below w.heap.size w (w.alloc (.cells #[.int .i64 0, .string ⟨#[]⟩, .string ⟨#[]⟩, .int .i64 0, .slice none 0 0, .slice none 0 0] 32)) := (Below.refl _ _).alloc (Nat.le_refl _) _
 have e1 := heap_alloc_new w (.cells #[.int .i64 0, .string ⟨#[]⟩, .string ⟨#[]⟩, .int .i64 0, .slice none 0 0, .slice none 0 0] 32)
 obtain ⟨W1, hW1⟩ : ∃ W, w.alloc (.cells #[.int .i64 0, .string ⟨#[]⟩, .string ⟨#[]⟩, .int .i64 0, .slice none 0 0, .slice none 0 0] 32) = W := ⟨_, rfl⟩
 have z1 : W1.heap.size = w.heap.size + 1 := by rw [← hW1]; simp
 rw [hW1] at b1 e1
 have hr1 : RdS W1 rb v c := hr.kept (b1.block rb hrb)
 have hl1 : Ags W1 Ok B l v := hl.kept fun k hk hlt => ⟨hk, b1.block k hlt⟩
 have hr2 : RdS (W1.setCell ⟨rb, 1, none⟩ (.int .i64 ((c : Int) + 1))) rb v (c + 1) := by
  show _ = _
  have := rd_set (i := 1) (.int .i64 ((c : Int) + 1)) hr1
  rw [Int.natCast_add]
  exact this
 refine ⟨W1, _, hW1, rfl, rd_cell hr1 rfl, rd_free hr1 1, ?_, rd_cell hr2 rfl, by simp [z1], hr2, hl1.kept fun k hk _ => ⟨hk, Below.heap_setCell _ _ _ _ (hO k hk).1⟩, (to_but b1).setB 1 _, (Below.heap_setCell _ _ _ _ (show w.heap.size ≠ rb by omega)).trans e1⟩
 have h := rd_cell (j := 1) hr2 rfl
 rw [Int.natCast_add] at h
 exact h
theorem key_limit (rb c B d : Nat) (l : List Sr.Ar) (v : Value) (Ok : Nat → Prop) (w : World) (hr : RdS w rb v c) (hl : Ags w Ok B l v) (hrb : rb < w.heap.size) (hO : ∀ k, Ok k → k ≠ rb ∧ k < w.heap.size) (hc : c ≤ 1000) (hd : d ≤ 1000) (h : 6 < d ∨ 60 < c + 1) :
  Calls Tryz.prog 38 #[.pointer (some ⟨rb, 0, none⟩), .int .i64 (d : Int)] w fun e w' => e = thrown 4 ∧ But w.heap.size rb w w' := by
 obtain ⟨W1, W2, hW1, hW2, p1, f1, q1, q0, z2, hr2, hl2, hb2, hE2⟩ := key_begun rb c B l v Ok w hr hl hrb hO
 have HB : Hid (But w.heap.size rb w W2) := hb2
 clear hr hl hO hr2 hl2 hb2 hE2
 by_cases hd6 : 6 < d
 ·have d1 : decide ((6 : Int) < (d : Int)) = true := decide_eq_true (by omega)
  clear h
  go_enter Tryz.func38, Tryz.ntmps38
  go_wp2_with fail
  exact ⟨rfl, rfl, HB.out⟩
 ·have d1 : decide ((6 : Int) < (d : Int)) = false := decide_eq_false (by omega)
  have d2 : decide ((60 : Int) < (c : Int) + 1) = true := decide_eq_true (by omega)
  clear h
  go_enter Tryz.func38, Tryz.ntmps38
  go_wp2_with fail
  exact ⟨rfl, rfl, HB.out⟩
theorem key_none (rb c B d : Nat) (v : Value) (Ok : Nat → Prop) (w : World) (hr : RdS w rb v c) (hl : Ags w Ok B [] v) (hrb : rb < w.heap.size) (hO : ∀ k, Ok k → k ≠ rb ∧ k < w.heap.size) (hd : d ≤ 6) (hc : c + 1 ≤ 60) :
  Calls Tryz.prog 38 #[.pointer (some ⟨rb, 0, none⟩), .int .i64 (d : Int)] w fun e w' => e = thrown 3 ∧ But w.heap.size rb w w' := by
 obtain ⟨a3, c3, rfl⟩ := hl.nil
 obtain ⟨W1, W2, hW1, hW2, p1, f1, q1, q0, z2, hr2, hl2, hb2, hE2⟩ := key_begun rb c B [] _ Ok w hr hl hrb hO
 have cW := word_bad rb (c + 1) B [] _ Ok W2 hr2 hl2 rfl
 unfold thrown at cW
 have HB : Hid (But w.heap.size rb w W2) := hb2
 clear hr hl hO hr2 hl2 hb2 hE2
 have d1 : decide ((6 : Int) < (d : Int)) = false := decide_eq_false (by omega)
 have d2 : decide ((60 : Int) < (c : Int) + 1) = false := decide_eq_false (by omega)
 go_enter Tryz.func38, Tryz.ntmps38
 go_wp2_with fail
 refine cW.mono ?_
 rintro e w3 ⟨rfl, hw3⟩
 obtain rfl : W2 = w3 := hw3.symm
 go_wp2_with fail
 exact ⟨rfl, rfl, HB.out⟩
theorem key_done {w w3 : World} {rb B c : Nat} {Ok : Nat → Prop} {k : Sr.Ky} {l : List Sr.Ar} {v : Value} {x0 x1 x2 x3 x4 x5 : Value} (hrb : rb < w.heap.size) (hO : ∀ k, Ok k → k ≠ rb ∧ k < w.heap.size) (hk : Kx w3 (fun q => w.heap.size + 1 ≤ q) k [x0, x1, x2, x3, x4, x5]) (hr : RdS w3 rb v c) (hl : Ags w3 Ok B l v) (hb : But w.heap.size rb w w3) :
  Out w rb B Ok (.ok k l c) (.returned (.agg #[x0, x1, x2, x3, x4, x5])) ((((((w3.setCell ⟨w.heap.size, 0, none⟩ x0).setCell ⟨w.heap.size, 1, none⟩ x1).setCell ⟨w.heap.size, 2, none⟩ x2).setCell ⟨w.heap.size, 3, none⟩ x3).setCell ⟨w.heap.size, 4, none⟩ x4).setCell ⟨w.heap.size, 5, none⟩ x5) :=
 ⟨_, v, rfl, hk.kept fun q hq hlt => ⟨by omega, six_other _ (by omega) _ _ _ _ _ _⟩, hr.kept (six_other _ (by omega) _ _ _ _ _ _), hl.kept fun q hq _ => ⟨hq, six_other _ (by have := (hO q hq).2; omega) _ _ _ _ _ _⟩, six_but hb (Nat.le_refl _) _ _ _ _ _ _⟩
theorem key_list (rb c B d : Nat) (x : Sr.Ar) (l : List Sr.Ar) (v : Value) (Ok : Nat → Prop) (w : World) (R : Sr.Rs Sr.Ky) (hr : RdS w rb v c) (hl : Ags w Ok B (x :: l) v) (hrb : rb < w.heap.size) (hO : ∀ k, Ok k → k ≠ rb ∧ k < w.heap.size) (hd : d ≤ 6) (hc : c + 1 ≤ 60) (hx : x.kind = 3)
  (cK : ∀ W lv, RdS W rb lv (c + 1) → Ags W Ok B x.list lv → But w.heap.size rb w W → w.heap.size ≤ W.heap.size → Calls Tryz.prog 17 #[.pointer (some ⟨rb, 0, none⟩), .int .i64 ((d : Int) + 1)] W fun e w' => Out W rb B Ok R e w') :
  Calls Tryz.prog 38 #[.pointer (some ⟨rb, 0, none⟩), .int .i64 (d : Int)] w fun e w' => Out w rb B Ok (R.then fun k _ c => .ok k l c) e w' := by
 obtain ⟨W1, W2, hW1, hW2, p1, f1, q1, q0, z2, hr2, hl2, hb2, hE2⟩ := key_begun rb c B (x :: l) v Ok w hr hl hrb hO
 have cL := list_is rb (c + 1) B d x l v Ok W2 R (by omega) hr2 hl2 (by omega) (fun k hk => ⟨(hO k hk).1, by have := (hO k hk).2; omega⟩) (fun W lv h1 h2 h3 => cK W lv h1 h2 (hb2.trans (h3.less (by omega))) (by have := h3.size; omega))
 obtain ⟨b, o, C, tb, lv, rfl, hC, hC2, hOb, htb, hsz, hlist, c1, c2, c3, hrest⟩ := hl2.head
 rw [hx] at c1
 obtain ⟨L, hL⟩ : ∃ L, l.length = L := ⟨_, rfl⟩
 rw [hL] at q0 hC
 have HB : Hid (But w.heap.size rb w W2) := hb2
 have HE : Hid (W2.heap[w.heap.size]? = some (.cells #[.int .i64 0, .string ⟨#[]⟩, .string ⟨#[]⟩, .int .i64 0, .slice none 0 0, .slice none 0 0] 32 (0, 0))) := hE2
 have HO : Hid (∀ k, Ok k → k ≠ rb ∧ k < w.heap.size) := hO
 have HZ : Hid (W2.heap.size = w.heap.size + 1) := z2
 have d1 : decide ((6 : Int) < (d : Int)) = false := decide_eq_false (by omega)
 have d2 : decide ((60 : Int) < (c : Int) + 1) = false := decide_eq_false (by omega)
 clear hr hl hO hr2 hl2 hb2 hE2 cK hL hlist hrest htb hsz z2 hx
 go_enter Tryz.func38, Tryz.ntmps38
 go_wp2_with fail
 refine cL.mono ?_
 intro e w3 h3
 clear cL
 cases R with
 | bad n =>
  obtain ⟨rfl, hb3⟩ := h3
  have HB3 : Hid (But W2.heap.size rb W2 w3) := hb3
  clear hb3
  unfold thrown
  go_wp2_with fail
  exact ⟨rfl, rfl, HB.out.trans (HB3.out.less (by have := HZ.out; omega))⟩
 | ok k r cn =>
  obtain ⟨ys, v3, rfl, hk3, hr3, hl3, hb3⟩ := h3
  obtain ⟨x0, x3, x1, x2, xa, xk, xc, ya, yk, yc, rfl⟩ := kx_cells hk3
  have hta : ([.int .i64 x0, .string x1, .string x2, .int .i64 x3, .slice xa xk xc, .slice ya yk yc] : List Value).toArray = #[.int .i64 x0, .string x1, .string x2, .int .i64 x3, .slice xa xk xc, .slice ya yk yc] := rfl
  rw [hta]
  have hz := HZ.out
  have e3 := (hb3.block w.heap.size (by omega) (by omega)).trans HE.out
  obtain ⟨⟨s0, s1, s2, s3, s4, s5⟩, ⟨sf0, sf1, sf2, sf3, sf4, sf5⟩, v0, v1, v2, v3', v4, v5⟩ := six_facts e3 (.int .i64 x0) (.string x1) (.string x2) (.int .i64 x3) (.slice xa xk xc) (.slice ya yk yc)
  rw [hz] at hk3
  have HD : Hid (Out w rb B Ok (.ok k l cn) (.returned (.agg #[.int .i64 x0, .string x1, .string x2, .int .i64 x3, .slice xa xk xc, .slice ya yk yc])) _) := key_done hrb HO.out hk3 hr3 hl3 (HB.out.trans (hb3.less (by omega)))
  clear hta e3 hk3 hr3 hl3 hb3
  go_wp2_with fail
  exact bodyPost_ret (v := .agg #[.int .i64 x0, .string x1, .string x2, .int .i64 x3, .slice xa xk xc, .slice ya yk yc]) (by simp [results, Tryz.results38, go_sem, v0, v1, v2, v3', v4, v5]) rfl HD.out
end Go.Proofs.YtogigccbnohjjaaGreatDoor
