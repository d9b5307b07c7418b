/-
  A map from texts to numbers, and more.
-/
import Derived.Test.YtogigccbnohjjaaGreatDoorBpSearchAll
import Derived.Maps.OwnSet
namespace Go.Proofs.YtogigccbnohjjaaGreatDoor
open Go.RowKit Go.Proofs.Aid
open Go.Maps (Keyed string_keyed IsMap isMap_empty atKey_put_same atKey_put_other)
theorem lawT : Keyed Tryz.prog 9 := string_keyed Tryz.underlying9
def WdAt (w : World) (mb cnt : Nat) (f : List UInt8 → Option Int) : Prop :=
 ∃ D : DataW Unit, w.ownsMap Tryz.prog 9 (plainElem Tryz.prog 3) mb cnt D ∧ IsMap D ∧ ∀ t c, f t = some c → D.atKey (.string t) (.lit (.int .i64 0)) = .lit (.int .i64 c)
theorem wd_new (w : World) : WdAt (w.alloc (.map #[] 0)) w.heap.size 0 (fun _ => none) := ⟨.map [], World.ownsMap_made _ _ _ _, isMap_empty, fun t c h => by cases h⟩
theorem wd_make (w : World) : (Instr.makeMap 112 none).run Tryz.prog w = .ok (.map (some w.heap.size)) (w.alloc (.map #[] 0)) := by kernel_rfl
theorem keyT {s : ByteArray} (h : s.size ≤ 1000000) : keyOf Tryz.prog 9 (.string s) = some (.string s.data.toList) := Go.WideMaps.keyOf_string_mk Tryz.underlying9 (by unfold maxLen; omega)
theorem wd_look {w : World} {mb cnt : Nat} {f : List UInt8 → Option Int} (h : WdAt w mb cnt f) (s : ByteArray) (hs : s.size ≤ 1000000) {c : Int} (hc : f s.data.toList = some c) :
  (Instr.lookup 112 (.map (some mb)) (.string s) false).run Tryz.prog w = .ok (.int .i64 c) w := by
 obtain ⟨D, h1, h2, h3⟩ := h
 have hz : (zeroValue 3).run Tryz.prog w = .ok (.int .i64 0) w := by kernel_rfl
 obtain ⟨c', hrun, hat, _⟩ := h1.lookup_int lawT Tryz.underlying112 Tryz.underlying3 hz (keyT hs)
 have h4 := h3 _ _ hc
 rw [h4] at hat
 cases hat
 exact hrun
theorem wd_put {w : World} {mb cnt : Nat} {f : List UInt8 → Option Int} (h : WdAt w mb cnt f) (s : ByteArray) (hs : s.size ≤ 1000000) (hc : cnt ≤ 1000000) (x : Int) (hx : -1000000 ≤ x ∧ x ≤ 1000000) :
  ∃ w', (Instr.mapUpdate 112 (.map (some mb)) (.string s) (.int .i64 x)).run Tryz.prog w = .ok () w' ∧ WdAt w' mb (cnt + 1) (fun t => if t = s.data.toList then some x else f t) ∧ But w.heap.size mb w w' := by
 obtain ⟨D, h1, h2, h3⟩ := h
 obtain ⟨w', hrun, h4, h5⟩ := h1.update lawT Tryz.underlying112 (by unfold maxLen; omega) (keyT hs) (plainElem_int Tryz.underlying3 (a := x) (WalkArith.wf_i64 (by omega)))
 refine ⟨w', hrun, ⟨_, h4, h2.put _ _, fun t c ht => ?_⟩, ⟨h5.os, h5.tape, h5.output, h5.size, fun q hq hne => h5.block q hq (fun e => hne (Option.some.inj e))⟩⟩
 by_cases hv : t = s.data.toList
 ·subst hv
  replace ht : (if s.data.toList = s.data.toList then some x else f s.data.toList) = some c := ht
  rw [if_pos rfl] at ht
  obtain rfl := Option.some.inj ht
  exact atKey_put_same h2 (by first | trivial | simp [WideAt.IsKeyLit] | decide) _ _
 ·have hne : (Lit.string t) ≠ .string s.data.toList := fun e => hv (by cases e; rfl)
  replace ht : (if t = s.data.toList then some x else f t) = some c := ht
  rw [if_neg hv] at ht
  rw [atKey_put_other hne]
  exact h3 t c ht
end Go.Proofs.YtogigccbnohjjaaGreatDoor
namespace Go.Proofs.YtogigccbnohjjaaGreatDoor
open Go.RowKit Go.Proofs.Aid Go.Proofs.Sq Go.Proofs.Hd
set_option maxHeartbeats 20000000
set_option maxRecDepth 100000
theorem kkey_meas (kb B d c : Nat) (x : Sr.Ar) (l : List Sr.Ar) (v : Value) (Ok : Nat → Prop) (w : World) (henv : EnvK w kb) (hr : KyS w kb (c : Int) 0) (hl : Ags w Ok B (x :: l) v) (hB : B ≤ 900000) (hO : ∀ k, Ok k → k ≠ kb ∧ k < w.heap.size) (hd : d ≤ 6) (hc : c + 1 ≤ 60) (hx : x.kind ≠ 3) (bs : Sr.Tx) (hbs : bs ∈ Sr.wMeas) (hw : great x.text = bs) :
  Calls Tryz.prog 37 #[.pointer (some ⟨kb, 0, none⟩), v, .int .i64 (d : Int)] w fun e w' => OutK w kb B Ok ((Sr.wordF l (c + 1)).then fun s l c => (Sr.numF s l c).map fun (n : Nat) => Sr.Ky.mk (6 + (Sr.wMeas.idxOf bs : Int)) [] [] (n : Int) [] []) e w' := by
 have hkb := hr.lt
 obtain ⟨T, hT⟩ : ∃ T, ((Sr.wordF l (c + 1)).then fun s l c => (Sr.numF s l c).map fun (n : Nat) => Sr.Ky.mk (6 + (Sr.wMeas.idxOf bs : Int)) [] [] (n : Int) [] []) = T := ⟨_, rfl⟩
 rw [hT]
 have HT : Hid (((Sr.wordF l (c + 1)).then fun s l c => (Sr.numF s l c).map fun (n : Nat) => Sr.Ky.mk (6 + (Sr.wMeas.idxOf bs : Int)) [] [] (n : Int) [] []) = T) := hT
 have HENV : Hid (EnvK w kb) := henv
 obtain ⟨W1, W2, hW1, hW2, p1, f1, q0, q1, z2, hr2, hl2, hb2, hE2⟩ := kbegun kb B (c : Int) 0 ((c : Int) + 1) (x :: l) v Ok w hr hl hO
 have cW := kword kb B ((c : Int) + 1) 0 (x :: l) v Ok W2 hr2 hl2 (fun _ => by omega)
 obtain ⟨b, o, C, _, lv, rfl, hC, hC2, hOb, _, _, _, c1, _, _, _⟩ := hl2.head
 have hkb3 : (x.kind == 3) = false := by simpa using hx
 obtain ⟨L, hL⟩ : ∃ L, l.length = L := ⟨_, rfl⟩
 have HB : Hid (But w.heap.size kb w W2) := hb2
 have HE : Hid (W2.heap[w.heap.size]? = some (.cells #[.int .i64 0, .string ⟨#[]⟩, .string ⟨#[]⟩, .int .i64 0, .slice none 0 0, .slice none 0 0] 32 (0, 0))) := hE2
 have HO : Hid (∀ k, Ok k → k ≠ kb ∧ k < w.heap.size) := hO
 have HZ : Hid (W2.heap.size = w.heap.size + 1) := z2
 have HWD : Hid (great x.text = bs ∧ x.kind ≠ 3) := ⟨hw, hx⟩
 have d1 : decide ((60 : Int) < (c : Int) + 1) = false := decide_eq_false (by omega)
 have d2 : decide ((6 : Int) < (d : Int)) = false := decide_eq_false (by omega)
 obtain ⟨K, hK⟩ : ∃ K, x.kind = K := ⟨_, rfl⟩
 rw [hK] at c1 hkb3
 rw [hL] at hC cW ⊢
 clear hr hl hO hr2 hl2 hb2 hE2 hL z2 hx hK hw henv hT
 have hbl : bs.length ≤ 20 := (show ∀ b ∈ Sr.wMeas, b.length ≤ 20 by decide) bs hbs
 obtain ⟨CD, hCD⟩ : ∃ z : Int, 6 + (Sr.wMeas.idxOf bs : Int) = z := ⟨_, rfl⟩
 have HCD : Hid (6 + (Sr.wMeas.idxOf bs : Int) = CD) := hCD
 have HT2 : Hid (((Sr.wordF l (c + 1)).then fun s l c => (Sr.numF s l c).map fun (n : Nat) => Sr.Ky.mk CD [] [] (n : Int) [] []) = T) := by
  have := HT.out
  rw [hCD] at this
  exact this
 have HLK : Hid (∀ (W : World) (mb cnt : Nat) (f : List UInt8 → Option Int), WdAt W mb cnt f → f bs = some CD → (Instr.lookup 112 (.map (some mb)) (.string ⟨bs.toArray⟩) false).run Tryz.prog W = .ok (.int .i64 CD) W) := fun W mb cnt f h h1 => wd_look h ⟨bs.toArray⟩ (by show bs.toArray.size ≤ _; simp; omega) h1
 clear hCD HT
 clear hbl
 simp only [Sr.wMeas, List.mem_cons, List.not_mem_nil, or_false] at hbs
 rcases hbs with rfl | rfl | rfl | rfl | rfl
 all_goals
  go_enter Tryz.func37, Tryz.ntmps37
  go_wp2_with fail
  refine cW.mono ?_
  rintro e w3 ⟨tb, v3, l3, E3, rfl, htz, hl3, hr3, hb3, hrel⟩
  obtain ⟨rfl, htb, rfl⟩ : E3 = 0 ∧ tb.data.toList = x.text ∧ l3 = l := by
   unfold atK at hrel
   rw [if_pos rfl, Sr.wordF, if_neg HWD.out.2] at hrel
   exact ⟨hrel.1, hrel.2.1, hrel.2.2.1⟩
  have r1 : w3.cell? ⟨kb, 1, none⟩ = some (.int .i64 0) := rd_cell hr3 rfl
  have cG := rgreat_is tb w3 (by omega)
  rw [htb, HWD.out.1] at cG
  have hz := HZ.out
  have hs3 := hb3.size
  have HX : Hid (∀ W, Below w3.heap.size w3 W → KyS W kb ((c : Int) + 1) 0 ∧ Ags W Ok B l3 v3 ∧ But w.heap.size kb w W ∧ W.heap[w.heap.size]? = some (.cells #[.int .i64 0, .string ⟨#[]⟩, .string ⟨#[]⟩, .int .i64 0, .slice none 0 0, .slice none 0 0] 32 (0, 0)) ∧ w.heap.size + 1 ≤ W.heap.size) := fun W hW =>
   ⟨hr3.kept (hW.block kb (by omega)), hl3.kept fun k hk hlt => ⟨hk, hW.block k hlt⟩, (HB.out.trans (hb3.less (by omega))).trans (to_but (hW.mono (by omega))), (hW.block w.heap.size (by omega)).trans ((hb3.block w.heap.size (by omega) (by omega)).trans HE.out), by have := hW.size; omega⟩
  clear cW hr3 hl3 hb3 htb hrel
  go_wp2_with fail
  refine cG.mono ?_
  rintro e w4 ⟨rfl, hb4⟩
  obtain ⟨hr4, hl4, hbt, e4, hs4⟩ := HX.out w4 hb4
  clear cG HX hb4
  have cV := kword kb B ((c : Int) + 1) 0 l3 v3 Ok w4 hr4 hl4 (fun _ => by omega)
  have HX4 : Hid (But w.heap.size kb w w4 ∧ w4.heap[w.heap.size]? = some (.cells #[.int .i64 0, .string ⟨#[]⟩, .string ⟨#[]⟩, .int .i64 0, .slice none 0 0, .slice none 0 0] 32 (0, 0))) := ⟨hbt, e4⟩
  clear hr4 hl4 hbt e4
  go_wp2_with fail
  refine cV.mono ?_
  rintro e w5 ⟨t5, v5, l5, E5, rfl, htz5, hl5, hr5, hb5, hrel5⟩
  rw [show ((c : Int) + 1) = ((c + 1 : Nat) : Int) from rfl, atK_ok, show ((c + 1 : Nat) : Int) = (c : Int) + 1 from rfl] at hrel5
  have hs5 := hb5.size
  have e5 := (hb5.block w.heap.size (by omega) (by omega)).trans HX4.out.2
  have hbt5 := HX4.out.1.trans (hb5.less (base' := w.heap.size) (by omega))
  clear cV HX4 hb5
  obtain ⟨hnum, m, hm⟩ := HENV.out w5 hbt5
  have cN := ref_num t5 2147483647 w5 (by omega) hnum
  have HX5 : Hid (KyS w5 kb ((c : Int) + 1) E5 ∧ Ags w5 Ok B l5 v5 ∧ But w.heap.size kb w w5 ∧ w5.heap[w.heap.size]? = some (.cells #[.int .i64 0, .string ⟨#[]⟩, .string ⟨#[]⟩, .int .i64 0, .slice none 0 0, .slice none 0 0] 32 (0, 0)) ∧ RelK (Sr.wordF l3 (c + 1)) t5.data.toList l5 ((c : Int) + 1) E5) := ⟨hr5, hl5, hbt5, e5, hrel5⟩
  clear hr5 hl5 hbt5 e5 hrel5 hnum hm
  cases hnn : Sr.numN t5.data.toList with
  | none =>
   have hb0 := numN_none hnn
   obtain ⟨NB, hNB⟩ : ∃ z, (numB t5.data.toList 2147483647).1 = z := ⟨_, rfl⟩
   rw [hb0, hNB] at cN
   have HNF : Hid (∀ l c, Sr.numF t5.data.toList l c = .bad 3) := fun l c => by rw [Sr.numF, hnn]
   clear hb0 hNB hnn
   go_wp2_with fail
   refine cN.mono ?_
   rintro e w6 ⟨rfl, hb6⟩
   obtain ⟨hr5, hl5, hbt5, e5, hrel5⟩ := HX5.out
   have cF := kfails kb ((c : Int) + 1) E5 3 w6 (hr5.kept (hb6.block kb (by omega)))
   have hs6 := hb6.size
   have HX6 : Hid (Ags w6 Ok B l5 v5 ∧ But w.heap.size kb w w6 ∧ w6.heap[w.heap.size]? = some (.cells #[.int .i64 0, .string ⟨#[]⟩, .string ⟨#[]⟩, .int .i64 0, .slice none 0 0, .slice none 0 0] 32 (0, 0))) := ⟨hl5.kept fun k hk hlt => ⟨hk, hb6.block k hlt⟩, hbt5.trans (to_but (hb6.mono (by omega))), (hb6.block _ (by omega)).trans e5⟩
   clear hr5 hl5 hbt5 e5 hb6 cN
   go_wp2_with fail
   refine cF.mono ?_
   rintro e w7 ⟨E7, rfl, hr7, hb7, ht7⟩
   have hs7 := hb7.size
   have hR := hrel5.then (k := fun s l c => (Sr.numF s l c).map fun (n : Nat) => Sr.Ky.mk CD [] [] (n : Int) [] []) (b := Sr.Ky.mk CD [] [] NB [] []) (l' := l5) (n' := (c : Int) + 1) (E' := E7) (by
    rcases ht7 with ⟨rfl, rfl⟩ | ⟨h1, rfl⟩
    ·unfold atK; rw [if_pos rfl]; show RelK (Sr.Rs.map _ (Sr.numF t5.data.toList _ _)) _ _ _ _; rw [HNF.out]; exact ⟨rfl, by decide⟩
    ·rw [atK_bad _ _ _ h1]; exact ⟨rfl, h1⟩)
   rw [HT2.out] at hR
   have e7 := (hb7.block w.heap.size (by omega) (by omega)).trans HX6.out.2.2
   have o0 := wd_new w7
   have bM : Below w7.heap.size w7 (w7.alloc (.map #[] 0)) := (Below.refl _ _).alloc (Nat.le_refl _) _
   obtain ⟨M0, hM0⟩ : ∃ W, w7.alloc (.map #[] 0) = W := ⟨_, rfl⟩
   have hmk := wd_make w7
   rw [hM0] at o0 bM hmk
   obtain ⟨MB, hMB⟩ : ∃ n, w7.heap.size = n := ⟨_, rfl⟩
   rw [hMB] at o0 hmk
   obtain ⟨M1, hp1, o1, hbm1⟩ := wd_put o0 ⟨#[76, 65, 82, 71, 69, 82]⟩ (by decide) (by omega) 6 (by omega)
   have bM := bM.trans (hbm1.below (B := w7.heap.size) (by have := bM.size; omega) (by omega))
   obtain ⟨M2, hp2, o2, hbm2⟩ := wd_put o1 ⟨#[83, 77, 65, 76, 76, 69, 82]⟩ (by decide) (by omega) 7 (by omega)
   have bM := bM.trans (hbm2.below (B := w7.heap.size) (by have := bM.size; omega) (by omega))
   obtain ⟨M3, hp3, o3, hbm3⟩ := wd_put o2 ⟨#[66, 69, 70, 79, 82, 69]⟩ (by decide) (by omega) 8 (by omega)
   have bM := bM.trans (hbm3.below (B := w7.heap.size) (by have := bM.size; omega) (by omega))
   obtain ⟨M4, hp4, o4, hbm4⟩ := wd_put o3 ⟨#[79, 78]⟩ (by decide) (by omega) 9 (by omega)
   have bM := bM.trans (hbm4.below (B := w7.heap.size) (by have := bM.size; omega) (by omega))
   obtain ⟨M5, hp5, o5, hbm5⟩ := wd_put o4 ⟨#[83, 73, 78, 67, 69]⟩ (by decide) (by omega) 10 (by omega)
   have bM := bM.trans (hbm5.below (B := w7.heap.size) (by have := bM.size; omega) (by omega))
   have hlk := HLK.out _ _ _ _ o5 (by rw [← HCD.out]; decide)
   have e8 := (bM.block w.heap.size (by omega)).trans e7
   have HX8 : Hid (KyS M5 kb ((c : Int) + 1) E7 ∧ Ags M5 Ok B l5 v5 ∧ But w.heap.size kb w M5 ∧ RelK T (Sr.Ky.mk CD [] [] NB [] []) l5 ((c : Int) + 1) E7) := ⟨hr7.kept (bM.block kb (by omega)), HX6.out.1.kept fun k hk hlt => ⟨hk, (bM.block k (by omega)).trans (hb7.block k hlt (HO.out k hk).1)⟩, (HX6.out.2.1.trans (hb7.less (by omega))).trans (to_but (bM.mono (by omega))), hR⟩
   obtain ⟨⟨s0, s1, s2, s3, s4, s5⟩, ⟨sf0, sf1, sf2, sf3, sf4, sf5⟩, u0, u1, u2, u3, u4, u5⟩ := six_facts e8 (.int .i64 CD) (.string ⟨#[]⟩) (.string ⟨#[]⟩) (.int .i64 NB) (.slice none 0 0) (.slice none 0 0)
   have HD : Hid (OutK w kb B Ok T (.returned (.tuple #[.agg #[.int .i64 CD, .string ⟨#[]⟩, .string ⟨#[]⟩, .int .i64 NB, .slice none 0 0, .slice none 0 0], v5])) _) := kdone hkb HO.out (kx_leaf M5 _ CD NB ⟨#[]⟩ ⟨#[]⟩) HX8.out.1 HX8.out.2.1 HX8.out.2.2.1 HX8.out.2.2.2
   clear hr7 hb7 ht7 hR e7 e8 o0 o1 o2 o3 o4 o5 hbm1 hbm2 hbm3 hbm4 hbm5 bM HX8 HX6 HX5 HT2 HENV HLK HCD HNF cF hrel5
   go_wp2_with fail
   exact bodyPost_ret (v := .tuple #[.agg #[.int .i64 CD, .string ⟨#[]⟩, .string ⟨#[]⟩, .int .i64 NB, .slice none 0 0, .slice none 0 0], v5]) (by simp [results, Tryz.results37, go_sem, u0, u1, u2, u3, u4, u5]) rfl HD.out
  | some n =>
   have hb0 := numN_some hnn
   rw [hb0] at cN
   have HNF : Hid (∀ l c, Sr.numF t5.data.toList l c = .ok n l c) := fun l c => by rw [Sr.numF, hnn]
   clear hb0 hnn
   go_wp2_with fail
   refine cN.mono ?_
   rintro e w7 ⟨rfl, hb6⟩
   obtain ⟨hr5, hl5, hbt5, e5, hrel5⟩ := HX5.out
   have hs7 := hb6.size
   have hR := hrel5.then (k := fun s l c => (Sr.numF s l c).map fun (n : Nat) => Sr.Ky.mk CD [] [] (n : Int) [] []) (by rw [atK_map]; exact (rel_kept (a := n) hrel5.pos HNF.out).map fun (n : Nat) => Sr.Ky.mk CD [] [] (n : Int) [] [])
   rw [HT2.out] at hR
   have e7 := (hb6.block w.heap.size (by omega)).trans e5
   have o0 := wd_new w7
   have bM : Below w7.heap.size w7 (w7.alloc (.map #[] 0)) := (Below.refl _ _).alloc (Nat.le_refl _) _
   obtain ⟨M0, hM0⟩ : ∃ W, w7.alloc (.map #[] 0) = W := ⟨_, rfl⟩
   have hmk := wd_make w7
   rw [hM0] at o0 bM hmk
   obtain ⟨MB, hMB⟩ : ∃ n, w7.heap.size = n := ⟨_, rfl⟩
   rw [hMB] at o0 hmk
   obtain ⟨M1, hp1, o1, hbm1⟩ := wd_put o0 ⟨#[76, 65, 82, 71, 69, 82]⟩ (by decide) (by omega) 6 (by omega)
   have bM := bM.trans (hbm1.below (B := w7.heap.size) (by have := bM.size; omega) (by omega))
   obtain ⟨M2, hp2, o2, hbm2⟩ := wd_put o1 ⟨#[83, 77, 65, 76, 76, 69, 82]⟩ (by decide) (by omega) 7 (by omega)
   have bM := bM.trans (hbm2.below (B := w7.heap.size) (by have := bM.size; omega) (by omega))
   obtain ⟨M3, hp3, o3, hbm3⟩ := wd_put o2 ⟨#[66, 69, 70, 79, 82, 69]⟩ (by decide) (by omega) 8 (by omega)
   have bM := bM.trans (hbm3.below (B := w7.heap.size) (by have := bM.size; omega) (by omega))
   obtain ⟨M4, hp4, o4, hbm4⟩ := wd_put o3 ⟨#[79, 78]⟩ (by decide) (by omega) 9 (by omega)
   have bM := bM.trans (hbm4.below (B := w7.heap.size) (by have := bM.size; omega) (by omega))
   obtain ⟨M5, hp5, o5, hbm5⟩ := wd_put o4 ⟨#[83, 73, 78, 67, 69]⟩ (by decide) (by omega) 10 (by omega)
   have bM := bM.trans (hbm5.below (B := w7.heap.size) (by have := bM.size; omega) (by omega))
   have hlk := HLK.out _ _ _ _ o5 (by rw [← HCD.out]; decide)
   have e8 := (bM.block w.heap.size (by omega)).trans e7
   have HX8 : Hid (KyS M5 kb ((c : Int) + 1) E5 ∧ Ags M5 Ok B l5 v5 ∧ But w.heap.size kb w M5 ∧ RelK T (Sr.Ky.mk CD [] [] (n : Int) [] []) l5 ((c : Int) + 1) E5) := ⟨hr5.kept ((bM.block kb (by omega)).trans (hb6.block kb (by omega))), hl5.kept fun k hk hlt => ⟨hk, (bM.block k (by omega)).trans (hb6.block k hlt)⟩, hbt5.trans (to_but ((hb6.mono (by omega)).trans (bM.mono (by omega)))), hR⟩
   obtain ⟨⟨s0, s1, s2, s3, s4, s5⟩, ⟨sf0, sf1, sf2, sf3, sf4, sf5⟩, u0, u1, u2, u3, u4, u5⟩ := six_facts e8 (.int .i64 CD) (.string ⟨#[]⟩) (.string ⟨#[]⟩) (.int .i64 (n : Int)) (.slice none 0 0) (.slice none 0 0)
   have HD : Hid (OutK w kb B Ok T (.returned (.tuple #[.agg #[.int .i64 CD, .string ⟨#[]⟩, .string ⟨#[]⟩, .int .i64 (n : Int), .slice none 0 0, .slice none 0 0], v5])) _) := kdone hkb HO.out (kx_leaf M5 _ CD (n : Int) ⟨#[]⟩ ⟨#[]⟩) HX8.out.1 HX8.out.2.1 HX8.out.2.2.1 HX8.out.2.2.2
   clear hr5 hl5 hbt5 e5 hb6 hR e7 e8 o0 o1 o2 o3 o4 o5 hbm1 hbm2 hbm3 hbm4 hbm5 bM HX8 HX5 HT2 HENV HLK HCD HNF cN hrel5
   go_wp2_with fail
   exact bodyPost_ret (v := .tuple #[.agg #[.int .i64 CD, .string ⟨#[]⟩, .string ⟨#[]⟩, .int .i64 (n : Int), .slice none 0 0, .slice none 0 0], v5]) (by simp [results, Tryz.results37, go_sem, u0, u1, u2, u3, u4, u5]) rfl HD.out
end Go.Proofs.YtogigccbnohjjaaGreatDoor
namespace Go.Proofs.YtogigccbnohjjaaGreatDoor
open Go.RowKit Go.Proofs.Aid Go.Proofs.Sq Go.Proofs.Hd
set_option maxHeartbeats 4000000
set_option maxRecDepth 100000
theorem kkey_body (kb B d c : Nat) (x : Sr.Ar) (l : List Sr.Ar) (v : Value) (Ok : Nat → Prop) (w : World) (henv : EnvK w kb) (hr : KyS w kb (c : Int) 0) (hl : Ags w Ok B (x :: l) v) (hB : B ≤ 900000) (hO : ∀ k, Ok k → k ≠ kb ∧ k < w.heap.size) (hd : d ≤ 6) (hc : c + 1 ≤ 60) (hx : x.kind ≠ 3) (hw : great x.text = [66, 79, 68, 89]) :
  Calls Tryz.prog 37 #[.pointer (some ⟨kb, 0, none⟩), v, .int .i64 (d : Int)] w fun e w' => OutK w kb B Ok ((Sr.wordF l (c + 1)).map fun s => Sr.Ky.mk 4 [] s 0 [] []) e w' := by
 have hkb := hr.lt
 obtain ⟨T, hT⟩ : ∃ T, ((Sr.wordF l (c + 1)).map fun s => Sr.Ky.mk 4 [] s 0 [] []) = T := ⟨_, rfl⟩
 rw [hT]
 have HT : Hid (((Sr.wordF l (c + 1)).map fun s => Sr.Ky.mk 4 [] s 0 [] []) = T) := hT
 have HENV : Hid (EnvK w kb) := henv
 obtain ⟨W1, W2, hW1, hW2, p1, f1, q0, q1, z2, hr2, hl2, hb2, hE2⟩ := kbegun kb B (c : Int) 0 ((c : Int) + 1) (x :: l) v Ok w hr hl hO
 have cW := kword kb B ((c : Int) + 1) 0 (x :: l) v Ok W2 hr2 hl2 (fun _ => by omega)
 obtain ⟨b, o, C, _, lv, rfl, hC, hC2, hOb, _, _, _, c1, _, _, _⟩ := hl2.head
 have hkb3 : (x.kind == 3) = false := by simpa using hx
 obtain ⟨L, hL⟩ : ∃ L, l.length = L := ⟨_, rfl⟩
 have HB : Hid (But w.heap.size kb w W2) := hb2
 have HE : Hid (W2.heap[w.heap.size]? = some (.cells #[.int .i64 0, .string ⟨#[]⟩, .string ⟨#[]⟩, .int .i64 0, .slice none 0 0, .slice none 0 0] 32 (0, 0))) := hE2
 have HO : Hid (∀ k, Ok k → k ≠ kb ∧ k < w.heap.size) := hO
 have HZ : Hid (W2.heap.size = w.heap.size + 1) := z2
 have HWD : Hid (great x.text = [66, 79, 68, 89] ∧ x.kind ≠ 3) := ⟨hw, hx⟩
 have d1 : decide ((60 : Int) < (c : Int) + 1) = false := decide_eq_false (by omega)
 have d2 : decide ((6 : Int) < (d : Int)) = false := decide_eq_false (by omega)
 obtain ⟨K, hK⟩ : ∃ K, x.kind = K := ⟨_, rfl⟩
 rw [hK] at c1 hkb3
 rw [hL] at hC cW ⊢
 clear hr hl hO hr2 hl2 hb2 hE2 hL z2 hx hK hw henv hT
 go_enter Tryz.func37, Tryz.ntmps37
 go_wp2_with fail
 refine cW.mono ?_
 rintro e w3 ⟨tb, v3, l3, E3, rfl, htz, hl3, hr3, hb3, hrel⟩
 obtain ⟨rfl, htb, rfl⟩ : E3 = 0 ∧ tb.data.toList = x.text ∧ l3 = l := by
  unfold atK at hrel
  rw [if_pos rfl, Sr.wordF, if_neg HWD.out.2] at hrel
  exact ⟨hrel.1, hrel.2.1, hrel.2.2.1⟩
 have r1 : w3.cell? ⟨kb, 1, none⟩ = some (.int .i64 0) := rd_cell hr3 rfl
 have cG := rgreat_is tb w3 (by omega)
 rw [htb, HWD.out.1, show (⟨([66, 79, 68, 89] : List UInt8).toArray⟩ : ByteArray) = ⟨#[66, 79, 68, 89]⟩ from rfl] at cG
 have hz := HZ.out
 have hs3 := hb3.size
 have HX : Hid (∀ W, Below w3.heap.size w3 W → KyS W kb ((c : Int) + 1) 0 ∧ Ags W Ok B l3 v3 ∧ But w.heap.size kb w W ∧ W.heap[w.heap.size]? = some (.cells #[.int .i64 0, .string ⟨#[]⟩, .string ⟨#[]⟩, .int .i64 0, .slice none 0 0, .slice none 0 0] 32 (0, 0)) ∧ w.heap.size + 1 ≤ W.heap.size) := fun W hW =>
  ⟨hr3.kept (hW.block kb (by omega)), hl3.kept fun k hk hlt => ⟨hk, hW.block k hlt⟩, (HB.out.trans (hb3.less (by omega))).trans (to_but (hW.mono (by omega))), (hW.block w.heap.size (by omega)).trans ((hb3.block w.heap.size (by omega) (by omega)).trans HE.out), by have := hW.size; omega⟩
 clear cW hr3 hl3 hb3 htb hrel
 go_wp2_with fail
 refine cG.mono ?_
 rintro e w4 ⟨rfl, hb4⟩
 obtain ⟨hr4, hl4, hbt, e4, hs4⟩ := HX.out w4 hb4
 clear cG HX hb4
 have cV := kword kb B ((c : Int) + 1) 0 l3 v3 Ok w4 hr4 hl4 (fun _ => by omega)
 have HX4 : Hid (But w.heap.size kb w w4 ∧ w4.heap[w.heap.size]? = some (.cells #[.int .i64 0, .string ⟨#[]⟩, .string ⟨#[]⟩, .int .i64 0, .slice none 0 0, .slice none 0 0] 32 (0, 0))) := ⟨hbt, e4⟩
 clear hr4 hl4 hbt e4
 go_wp2_with fail
 refine cV.mono ?_
 rintro e w5 ⟨t5, v5, l5, E5, rfl, htz5, hl5, hr5, hb5, hrel5⟩
 rw [show ((c : Int) + 1) = ((c + 1 : Nat) : Int) from rfl, atK_ok, show ((c + 1 : Nat) : Int) = (c : Int) + 1 from rfl] at hrel5
 have hs5 := hb5.size
 have e5 := (hb5.block w.heap.size (by omega) (by omega)).trans HX4.out.2
 have hbt5 := HX4.out.1.trans (hb5.less (base' := w.heap.size) (by omega))
 clear cV HX4 hb5
 have o0 := wd_new w5
 have bM : Below w5.heap.size w5 (w5.alloc (.map #[] 0)) := (Below.refl _ _).alloc (Nat.le_refl _) _
 obtain ⟨M0, hM0⟩ : ∃ W, w5.alloc (.map #[] 0) = W := ⟨_, rfl⟩
 have hmk := wd_make w5
 rw [hM0] at o0 bM hmk
 obtain ⟨MB, hMB⟩ : ∃ n, w5.heap.size = n := ⟨_, rfl⟩
 rw [hMB] at o0 hmk
 obtain ⟨M1, hp1, o1, hbm1⟩ := wd_put o0 ⟨#[66, 79, 68, 89]⟩ (by decide) (by omega) 4 (by omega)
 have bM := bM.trans (hbm1.below (B := w5.heap.size) (by have := bM.size; omega) (by omega))
 obtain ⟨M2, hp2, o2, hbm2⟩ := wd_put o1 ⟨#[84, 69, 88, 84]⟩ (by decide) (by omega) 5 (by omega)
 have bM := bM.trans (hbm2.below (B := w5.heap.size) (by have := bM.size; omega) (by omega))
 have hlk := wd_look o2 ⟨#[66, 79, 68, 89]⟩ (by decide) (c := 4) (by decide)
 have hR := hrel5.map fun s => Sr.Ky.mk 4 [] s 0 [] []
 rw [HT.out] at hR
 have e8 := (bM.block w.heap.size (by omega)).trans e5
 have HX8 : Hid (KyS M2 kb ((c : Int) + 1) E5 ∧ Ags M2 Ok B l5 v5 ∧ But w.heap.size kb w M2 ∧ RelK T (Sr.Ky.mk 4 [] t5.data.toList 0 [] []) l5 ((c : Int) + 1) E5) := ⟨hr5.kept (bM.block kb (by omega)), hl5.kept fun k hk hlt => ⟨hk, bM.block k hlt⟩, hbt5.trans (to_but (bM.mono (by omega))), hR⟩
 obtain ⟨⟨s0, s1, s2, s3, s4, s5⟩, ⟨sf0, sf1, sf2, sf3, sf4, sf5⟩, u0, u1, u2, u3, u4, u5⟩ := six_facts e8 (.int .i64 4) (.string ⟨#[]⟩) (.string t5) (.int .i64 0) (.slice none 0 0) (.slice none 0 0)
 have HD : Hid (OutK w kb B Ok T (.returned (.tuple #[.agg #[.int .i64 4, .string ⟨#[]⟩, .string t5, .int .i64 0, .slice none 0 0, .slice none 0 0], v5])) _) := kdone hkb HO.out (kx_leaf M2 _ 4 0 ⟨#[]⟩ t5) HX8.out.1 HX8.out.2.1 HX8.out.2.2.1 HX8.out.2.2.2
 clear hr5 hl5 hbt5 e5 hR e8 o0 o1 o2 hbm1 hbm2 bM HX8 HT HENV hrel5
 go_wp2_with fail
 exact bodyPost_ret (v := .tuple #[.agg #[.int .i64 4, .string ⟨#[]⟩, .string t5, .int .i64 0, .slice none 0 0, .slice none 0 0], v5]) (by simp [results, Tryz.results37, go_sem, u0, u1, u2, u3, u4, u5]) rfl HD.out
theorem kkey_text (kb B d c : Nat) (x : Sr.Ar) (l : List Sr.Ar) (v : Value) (Ok : Nat → Prop) (w : World) (henv : EnvK w kb) (hr : KyS w kb (c : Int) 0) (hl : Ags w Ok B (x :: l) v) (hB : B ≤ 900000) (hO : ∀ k, Ok k → k ≠ kb ∧ k < w.heap.size) (hd : d ≤ 6) (hc : c + 1 ≤ 60) (hx : x.kind ≠ 3) (hw : great x.text = [84, 69, 88, 84]) :
  Calls Tryz.prog 37 #[.pointer (some ⟨kb, 0, none⟩), v, .int .i64 (d : Int)] w fun e w' => OutK w kb B Ok ((Sr.wordF l (c + 1)).map fun s => Sr.Ky.mk 5 [] s 0 [] []) e w' := by
 have hkb := hr.lt
 obtain ⟨T, hT⟩ : ∃ T, ((Sr.wordF l (c + 1)).map fun s => Sr.Ky.mk 5 [] s 0 [] []) = T := ⟨_, rfl⟩
 rw [hT]
 have HT : Hid (((Sr.wordF l (c + 1)).map fun s => Sr.Ky.mk 5 [] s 0 [] []) = T) := hT
 have HENV : Hid (EnvK w kb) := henv
 obtain ⟨W1, W2, hW1, hW2, p1, f1, q0, q1, z2, hr2, hl2, hb2, hE2⟩ := kbegun kb B (c : Int) 0 ((c : Int) + 1) (x :: l) v Ok w hr hl hO
 have cW := kword kb B ((c : Int) + 1) 0 (x :: l) v Ok W2 hr2 hl2 (fun _ => by omega)
 obtain ⟨b, o, C, _, lv, rfl, hC, hC2, hOb, _, _, _, c1, _, _, _⟩ := hl2.head
 have hkb3 : (x.kind == 3) = false := by simpa using hx
 obtain ⟨L, hL⟩ : ∃ L, l.length = L := ⟨_, rfl⟩
 have HB : Hid (But w.heap.size kb w W2) := hb2
 have HE : Hid (W2.heap[w.heap.size]? = some (.cells #[.int .i64 0, .string ⟨#[]⟩, .string ⟨#[]⟩, .int .i64 0, .slice none 0 0, .slice none 0 0] 32 (0, 0))) := hE2
 have HO : Hid (∀ k, Ok k → k ≠ kb ∧ k < w.heap.size) := hO
 have HZ : Hid (W2.heap.size = w.heap.size + 1) := z2
 have HWD : Hid (great x.text = [84, 69, 88, 84] ∧ x.kind ≠ 3) := ⟨hw, hx⟩
 have d1 : decide ((60 : Int) < (c : Int) + 1) = false := decide_eq_false (by omega)
 have d2 : decide ((6 : Int) < (d : Int)) = false := decide_eq_false (by omega)
 obtain ⟨K, hK⟩ : ∃ K, x.kind = K := ⟨_, rfl⟩
 rw [hK] at c1 hkb3
 rw [hL] at hC cW ⊢
 clear hr hl hO hr2 hl2 hb2 hE2 hL z2 hx hK hw henv hT
 go_enter Tryz.func37, Tryz.ntmps37
 go_wp2_with fail
 refine cW.mono ?_
 rintro e w3 ⟨tb, v3, l3, E3, rfl, htz, hl3, hr3, hb3, hrel⟩
 obtain ⟨rfl, htb, rfl⟩ : E3 = 0 ∧ tb.data.toList = x.text ∧ l3 = l := by
  unfold atK at hrel
  rw [if_pos rfl, Sr.wordF, if_neg HWD.out.2] at hrel
  exact ⟨hrel.1, hrel.2.1, hrel.2.2.1⟩
 have r1 : w3.cell? ⟨kb, 1, none⟩ = some (.int .i64 0) := rd_cell hr3 rfl
 have cG := rgreat_is tb w3 (by omega)
 rw [htb, HWD.out.1, show (⟨([84, 69, 88, 84] : List UInt8).toArray⟩ : ByteArray) = ⟨#[84, 69, 88, 84]⟩ from rfl] at cG
 have hz := HZ.out
 have hs3 := hb3.size
 have HX : Hid (∀ W, Below w3.heap.size w3 W → KyS W kb ((c : Int) + 1) 0 ∧ Ags W Ok B l3 v3 ∧ But w.heap.size kb w W ∧ W.heap[w.heap.size]? = some (.cells #[.int .i64 0, .string ⟨#[]⟩, .string ⟨#[]⟩, .int .i64 0, .slice none 0 0, .slice none 0 0] 32 (0, 0)) ∧ w.heap.size + 1 ≤ W.heap.size) := fun W hW =>
  ⟨hr3.kept (hW.block kb (by omega)), hl3.kept fun k hk hlt => ⟨hk, hW.block k hlt⟩, (HB.out.trans (hb3.less (by omega))).trans (to_but (hW.mono (by omega))), (hW.block w.heap.size (by omega)).trans ((hb3.block w.heap.size (by omega) (by omega)).trans HE.out), by have := hW.size; omega⟩
 clear cW hr3 hl3 hb3 htb hrel
 go_wp2_with fail
 refine cG.mono ?_
 rintro e w4 ⟨rfl, hb4⟩
 obtain ⟨hr4, hl4, hbt, e4, hs4⟩ := HX.out w4 hb4
 clear cG HX hb4
 have cV := kword kb B ((c : Int) + 1) 0 l3 v3 Ok w4 hr4 hl4 (fun _ => by omega)
 have HX4 : Hid (But w.heap.size kb w w4 ∧ w4.heap[w.heap.size]? = some (.cells #[.int .i64 0, .string ⟨#[]⟩, .string ⟨#[]⟩, .int .i64 0, .slice none 0 0, .slice none 0 0] 32 (0, 0))) := ⟨hbt, e4⟩
 clear hr4 hl4 hbt e4
 go_wp2_with fail
 refine cV.mono ?_
 rintro e w5 ⟨t5, v5, l5, E5, rfl, htz5, hl5, hr5, hb5, hrel5⟩
 rw [show ((c : Int) + 1) = ((c + 1 : Nat) : Int) from rfl, atK_ok, show ((c + 1 : Nat) : Int) = (c : Int) + 1 from rfl] at hrel5
 have hs5 := hb5.size
 have e5 := (hb5.block w.heap.size (by omega) (by omega)).trans HX4.out.2
 have hbt5 := HX4.out.1.trans (hb5.less (base' := w.heap.size) (by omega))
 clear cV HX4 hb5
 have o0 := wd_new w5
 have bM : Below w5.heap.size w5 (w5.alloc (.map #[] 0)) := (Below.refl _ _).alloc (Nat.le_refl _) _
 obtain ⟨M0, hM0⟩ : ∃ W, w5.alloc (.map #[] 0) = W := ⟨_, rfl⟩
 have hmk := wd_make w5
 rw [hM0] at o0 bM hmk
 obtain ⟨MB, hMB⟩ : ∃ n, w5.heap.size = n := ⟨_, rfl⟩
 rw [hMB] at o0 hmk
 obtain ⟨M1, hp1, o1, hbm1⟩ := wd_put o0 ⟨#[66, 79, 68, 89]⟩ (by decide) (by omega) 4 (by omega)
 have bM := bM.trans (hbm1.below (B := w5.heap.size) (by have := bM.size; omega) (by omega))
 obtain ⟨M2, hp2, o2, hbm2⟩ := wd_put o1 ⟨#[84, 69, 88, 84]⟩ (by decide) (by omega) 5 (by omega)
 have bM := bM.trans (hbm2.below (B := w5.heap.size) (by have := bM.size; omega) (by omega))
 have hlk := wd_look o2 ⟨#[84, 69, 88, 84]⟩ (by decide) (c := 5) (by decide)
 have hR := hrel5.map fun s => Sr.Ky.mk 5 [] s 0 [] []
 rw [HT.out] at hR
 have e8 := (bM.block w.heap.size (by omega)).trans e5
 have HX8 : Hid (KyS M2 kb ((c : Int) + 1) E5 ∧ Ags M2 Ok B l5 v5 ∧ But w.heap.size kb w M2 ∧ RelK T (Sr.Ky.mk 5 [] t5.data.toList 0 [] []) l5 ((c : Int) + 1) E5) := ⟨hr5.kept (bM.block kb (by omega)), hl5.kept fun k hk hlt => ⟨hk, bM.block k hlt⟩, hbt5.trans (to_but (bM.mono (by omega))), hR⟩
 obtain ⟨⟨s0, s1, s2, s3, s4, s5⟩, ⟨sf0, sf1, sf2, sf3, sf4, sf5⟩, u0, u1, u2, u3, u4, u5⟩ := six_facts e8 (.int .i64 5) (.string ⟨#[]⟩) (.string t5) (.int .i64 0) (.slice none 0 0) (.slice none 0 0)
 have HD : Hid (OutK w kb B Ok T (.returned (.tuple #[.agg #[.int .i64 5, .string ⟨#[]⟩, .string t5, .int .i64 0, .slice none 0 0, .slice none 0 0], v5])) _) := kdone hkb HO.out (kx_leaf M2 _ 5 0 ⟨#[]⟩ t5) HX8.out.1 HX8.out.2.1 HX8.out.2.2.1 HX8.out.2.2.2
 clear hr5 hl5 hbt5 e5 hR e8 o0 o1 o2 hbm1 hbm2 bM HX8 HT HENV hrel5
 go_wp2_with fail
 exact bodyPost_ret (v := .tuple #[.agg #[.int .i64 5, .string ⟨#[]⟩, .string t5, .int .i64 0, .slice none 0 0, .slice none 0 0], v5]) (by simp [results, Tryz.results37, go_sem, u0, u1, u2, u3, u4, u5]) rfl HD.out
end Go.Proofs.YtogigccbnohjjaaGreatDoor
