/-
  What the method arg of letterboxref, and more.
-/
import Derived.Test.YtogigccbnohjjaaGreatDoorBpArgRow
import Derived.OwnWalk
namespace Go.Proofs.YtogigccbnohjjaaGreatDoor
open Go.RowKit Go.Proofs.Aid Go.Proofs.Hd
open Go.Proofs.Sr (Ar)
set_option maxHeartbeats 4000000
set_option maxRecDepth 100000
theorem outRT_any {w w' : World} {cb : Nat} {s : ByteArray} {T : Wd Tx} {e : Ending} (k : Int) (h : OutRT w cb s T e w') :
  ∃ (tb : ByteArray) (p c : Nat) (E q : Int), e = .returned (.string tb) ∧ CdW w' cb s p c E q ∧ But w.heap.size cb w w' ∧ ResA (T.map fun t => .mk k t []) (.mk k tb.data.toList []) p c E q := by
 cases T with
 | bad n p =>
  obtain ⟨tb, p', c', rfl, hn, _, hr, hb⟩ := h
  exact ⟨tb, p', c', n, p, rfl, hr, hb, rfl, rfl, hn⟩
 | ok t p c =>
  obtain ⟨tb, rfl, ht, hr, hb⟩ := h
  exact ⟨tb, p, c, 0, -1, rfl, hr, hb, by rw [ht], rfl, rfl, rfl, rfl⟩
theorem rarg_begun (cb p c : Nat) (s : ByteArray) (w : World) (hr : CdW w cb s p c 0 (-1)) :
  ∃ W1 W2, w.alloc (.cells #[.int .i64 0, .string ⟨#[]⟩, .slice none 0 0] 86) = W1 ∧ W1.setCell ⟨cb, 2, none⟩ (.int .i64 ((c : Int) + 1)) = W2 ∧
   W1.cell? ⟨cb, 2, none⟩ = some (.int .i64 (c : Int)) ∧ W1.frozen? ⟨cb, 2, none⟩ = false ∧ W2.cell? ⟨cb, 2, none⟩ = some (.int .i64 ((c : Int) + 1)) ∧
   W2.heap.size = w.heap.size + 1 ∧ CdW W2 cb s p (c + 1) 0 (-1) ∧ But w.heap.size cb w W2 ∧
   W2.heap[w.heap.size]? = some (.cells #[.int .i64 0, .string ⟨#[]⟩, .slice none 0 0] 86 (0, 0)) := by
 have hcb := hr.lt
 have b1 : Below w.heap.size w (w.alloc (.cells #[.int .i64 0, .string ⟨#[]⟩, .slice none 0 0] 86)) := (Below.refl _ _).alloc (Nat.le_refl _) _
 have e1 := heap_alloc_new w (.cells #[.int .i64 0, .string ⟨#[]⟩, .slice none 0 0] 86)
 have z1 : (w.alloc (.cells #[.int .i64 0, .string ⟨#[]⟩, .slice none 0 0] 86)).heap.size = w.heap.size + 1 := by simp
 generalize w.alloc (.cells #[.int .i64 0, .string ⟨#[]⟩, .slice none 0 0] 86) = W1 at b1 e1 z1
 have hr1 : CdW W1 cb s p c 0 (-1) := hr.kept (b1.block cb hcb)
 have hs := rd_set (i := 2) (.int .i64 ((c : Int) + 1)) hr1
 refine ⟨W1, _, rfl, rfl, rd_cell hr1 rfl, rd_free hr1 2, setm_read hr1 (by simp) _, by simpa using z1, hs, (to_but b1).setB 2 _, ?_⟩
 rw [Below.heap_setCell _ _ _ _ (show w.heap.size ≠ cb by omega)]
 exact e1
theorem rarg_done {w w3 : World} {cb p c : Nat} {s : ByteArray} {k : Int} {l : List Ar} {tb : ByteArray} {lv : Value} {E q : Int} {R : Wd Ar} (hcb : cb < w.heap.size) (hl : Agw w3 (fun q => w.heap.size + 1 ≤ q) l lv) (hr : CdW w3 cb s p c E q) (hb : But w.heap.size cb w w3) (hR : ResA R (.mk k tb.data.toList l) p c E q) :
  OutRA w cb s R (.returned (.agg #[.int .i64 k, .string tb, lv])) (((w3.setCell ⟨w.heap.size, 0, none⟩ (.int .i64 k)).setCell ⟨w.heap.size, 1, none⟩ (.string tb)).setCell ⟨w.heap.size, 2, none⟩ lv) :=
 ⟨.mk k tb.data.toList l, [.int .i64 k, .string tb, lv], p, c, E, q, rfl, ⟨tb, lv, rfl, rfl, hl.kept fun q hq _ => ⟨by omega, three_other _ (by omega) _ _ _⟩⟩, hr.kept (three_other _ (by omega) _ _ _), three_but hb (Nat.le_refl _) _ _ _, hR⟩
theorem rarg_limit (cb p c d : Nat) (s : ByteArray) (w : World) (hr : CdW w cb s p c 0 (-1)) (hf : FineAt w) (hcf : cb ≠ 0) (_hs : s.size ≤ 1000000) (hE : Ends s.data.toList) (_hp : p + 2 ≤ s.size) (hc : c ≤ 1000) (hd : d ≤ 1000) (h : 6 < d ∨ 60 < c + 1) :
  Calls Tryz.prog 35 #[.pointer (some ⟨cb, 0, none⟩), .int .i64 (d : Int)] w fun e w' => OutRA w cb s (.bad 4 p) e w' := by
 obtain ⟨W1, W2, hW1, hW2, p1, f1, q1, z2, hr2, hb2, hE2⟩ := rarg_begun cb p c s w hr
 have hcb := hr.lt
 have cF := rfail_yes cb p (c + 1) 4 s W2 hr2 (hf.but hb2 hcf)
 have HX : Hid (CdW W2 cb s p (c + 1) 0 (-1) ∧ But w.heap.size cb w W2 ∧ W2.heap[w.heap.size]? = some (.cells #[.int .i64 0, .string ⟨#[]⟩, .slice none 0 0] 86 (0, 0)) ∧ W2.heap.size = w.heap.size + 1 ∧ FineAt w) := ⟨hr2, hb2, hE2, z2, hf⟩
 have HEN : Hid (Ends s.data.toList) := hE
 clear hr hr2 hb2 hE2 z2 hf hE
 by_cases h1 : 60 < c + 1
 ·have d2 : decide ((60 : Int) < (c : Int) + 1) = true := decide_eq_true (by omega)
  go_enter Tryz.func35, Tryz.ntmps35
  go_wp2_with fail
  refine cF.mono ?_
  rintro e w3 ⟨rfl, hr3, hb3⟩
  have z2 := HX.out.2.2.2.1
  have hb03 : But w.heap.size cb w w3 := HX.out.2.1.trans (hb3.less (by omega))
  have e3 := (hb3.block w.heap.size (by omega) (by omega)).trans HX.out.2.2.1
  have cS := rsee_bad cb p (c + 1) 4 (p : Int) s w3 hr3 (by decide) (HX.out.2.2.2.2.but hb03 hcf)
  have z3 : w.heap.size + 1 ≤ w3.heap.size := by have := hb3.size; omega
  have H3 : Hid (CdW w3 cb s p (c + 1) 4 (p : Int) ∧ But w.heap.size cb w w3 ∧ w3.heap[w.heap.size]? = some (.cells #[.int .i64 0, .string ⟨#[]⟩, .slice none 0 0] 86 (0, 0))) := ⟨hr3, hb03, e3⟩
  clear cF hr3 hb3 hb03 e3 z2
  go_wp2_with fail
  refine cS.mono ?_
  rintro e w4 ⟨rfl, hb4⟩
  have hr4 := H3.out.1.kept (hb4.block cb (by omega))
  have hb04 := H3.out.2.1.trans (to_but (hb4.mono (by omega)))
  have cG := rfail_no cb p (c + 1) 3 4 (p : Int) s w4 hr4 (by decide) (HX.out.2.2.2.2.but hb04 hcf)
  have H4 : Hid (CdW w4 cb s p (c + 1) 4 (p : Int) ∧ But w.heap.size cb w w4 ∧ w4.heap[w.heap.size]? = some (.cells #[.int .i64 0, .string ⟨#[]⟩, .slice none 0 0] 86 (0, 0)) ∧ w3.heap.size ≤ w4.heap.size) := ⟨hr4, hb04, (hb4.block w.heap.size (by omega)).trans H3.out.2.2, hb4.size⟩
  clear cS hb4 hr4 hb04 H3
  go_wp2_with fail
  refine cG.mono ?_
  rintro e w7 ⟨rfl, hb9⟩
  have z4 := H4.out.2.2.2
  have hr7 := H4.out.1.kept (hb9.block cb (by omega))
  have hb7 := H4.out.2.1.trans (to_but (hb9.mono (by omega)))
  have e7 := (hb9.block w.heap.size (by omega)).trans H4.out.2.2.1
  clear cG hb9 H4 HX
  have hcz := hcb
  obtain ⟨⟨s0, s1, s2⟩, ⟨sf0, sf1, sf2⟩, u0, u1, u2⟩ := three_facts e7 (.int .i64 0) (.string ⟨#[]⟩) (.slice none 0 0)
  have HD : Hid (OutRA w cb s (.bad 4 p) (.returned (.agg #[.int .i64 0, .string ⟨#[]⟩, (.slice none 0 0)])) _) := rarg_done hcz (Agw.nil w7 _) hr7 hb7 ⟨rfl, rfl, by decide⟩
  clear hr7 hb7 e7 hcz
  go_wp2_with fail
  exact bodyPost_ret (v := .agg #[.int .i64 0, .string ⟨#[]⟩, (.slice none 0 0)]) (by simp [results, Tryz.results35, go_sem, u0, u1, u2]) rfl HD.out
 ·have d2 : decide ((60 : Int) < (c : Int) + 1) = false := decide_eq_false (by omega)
  have d1 : decide ((6 : Int) < (d : Int)) = true := decide_eq_true (by omega)
  go_enter Tryz.func35, Tryz.ntmps35
  go_wp2_with fail
  refine cF.mono ?_
  rintro e w3 ⟨rfl, hr3, hb3⟩
  have z2 := HX.out.2.2.2.1
  have hb03 : But w.heap.size cb w w3 := HX.out.2.1.trans (hb3.less (by omega))
  have e3 := (hb3.block w.heap.size (by omega) (by omega)).trans HX.out.2.2.1
  have cS := rsee_bad cb p (c + 1) 4 (p : Int) s w3 hr3 (by decide) (HX.out.2.2.2.2.but hb03 hcf)
  have z3 : w.heap.size + 1 ≤ w3.heap.size := by have := hb3.size; omega
  have H3 : Hid (CdW w3 cb s p (c + 1) 4 (p : Int) ∧ But w.heap.size cb w w3 ∧ w3.heap[w.heap.size]? = some (.cells #[.int .i64 0, .string ⟨#[]⟩, .slice none 0 0] 86 (0, 0))) := ⟨hr3, hb03, e3⟩
  clear cF hr3 hb3 hb03 e3 z2
  go_wp2_with fail
  refine cS.mono ?_
  rintro e w4 ⟨rfl, hb4⟩
  have hr4 := H3.out.1.kept (hb4.block cb (by omega))
  have hb04 := H3.out.2.1.trans (to_but (hb4.mono (by omega)))
  have cG := rfail_no cb p (c + 1) 3 4 (p : Int) s w4 hr4 (by decide) (HX.out.2.2.2.2.but hb04 hcf)
  have H4 : Hid (CdW w4 cb s p (c + 1) 4 (p : Int) ∧ But w.heap.size cb w w4 ∧ w4.heap[w.heap.size]? = some (.cells #[.int .i64 0, .string ⟨#[]⟩, .slice none 0 0] 86 (0, 0)) ∧ w3.heap.size ≤ w4.heap.size) := ⟨hr4, hb04, (hb4.block w.heap.size (by omega)).trans H3.out.2.2, hb4.size⟩
  clear cS hb4 hr4 hb04 H3
  go_wp2_with fail
  refine cG.mono ?_
  rintro e w7 ⟨rfl, hb9⟩
  have z4 := H4.out.2.2.2
  have hr7 := H4.out.1.kept (hb9.block cb (by omega))
  have hb7 := H4.out.2.1.trans (to_but (hb9.mono (by omega)))
  have e7 := (hb9.block w.heap.size (by omega)).trans H4.out.2.2.1
  clear cG hb9 H4 HX
  have hcz := hcb
  obtain ⟨⟨s0, s1, s2⟩, ⟨sf0, sf1, sf2⟩, u0, u1, u2⟩ := three_facts e7 (.int .i64 0) (.string ⟨#[]⟩) (.slice none 0 0)
  have HD : Hid (OutRA w cb s (.bad 4 p) (.returned (.agg #[.int .i64 0, .string ⟨#[]⟩, (.slice none 0 0)])) _) := rarg_done hcz (Agw.nil w7 _) hr7 hb7 ⟨rfl, rfl, by decide⟩
  clear hr7 hb7 e7 hcz
  go_wp2_with fail
  exact bodyPost_ret (v := .agg #[.int .i64 0, .string ⟨#[]⟩, (.slice none 0 0)]) (by simp [results, Tryz.results35, go_sem, u0, u1, u2]) rfl HD.out
theorem argW_end {s : Tx} (hE : Ends s) {p c f : Nat} (hc : ¬ 60 < c + 1) (hp : p + 2 ≤ s.length) (h : seeW s p = none) : argW s (f + 1) p c = .bad 3 p := by
 have hn : ∀ x : UInt8, x ≠ 13 → x ≠ 10 → tookW [x] s p = false := fun x h1 h2 => see_not hE h1 h2 (by rw [h]; simp)
 rw [argW, if_neg hc, hn 123 (by decide) (by decide), hn 34 (by decide) (by decide), hn 40 (by decide) (by decide), word_by hE (Nat.le_refl p) hp (fun j b h1 h2 => absurd h2 (by omega)) (fun b hb => by rw [h] at hb; cases hb), if_pos rfl]
 simp [Wd.map]
theorem rarg_end (cb p c d : Nat) (s : ByteArray) (w : World) (hr : CdW w cb s p c 0 (-1)) (hf : FineAt w) (hcf : cb ≠ 0) (hs : s.size ≤ 1000000) (hE : Ends s.data.toList) (hp : p + 2 ≤ s.size) (hc : c + 1 ≤ 60) (hd : d ≤ 6) (hse : seeW s.data.toList p = none) :
  Calls Tryz.prog 35 #[.pointer (some ⟨cb, 0, none⟩), .int .i64 (d : Int)] w fun e w' => OutRA w cb s (.bad 3 p) e w' := by
 obtain ⟨W1, W2, hW1, hW2, p1, f1, q1, z2, hr2, hb2, hE2⟩ := rarg_begun cb p c s w hr
 have hcb := hr.lt
 have d1 : decide ((6 : Int) < (d : Int)) = false := decide_eq_false (by omega)
 have d2 : decide ((60 : Int) < (c : Int) + 1) = false := decide_eq_false (by omega)
 have cS := rsee_end cb p (c + 1) s W2 hr2 (hf.but hb2 hcf) hs (by omega) hse
 have HX : Hid (CdW W2 cb s p (c + 1) 0 (-1) ∧ But w.heap.size cb w W2 ∧ W2.heap[w.heap.size]? = some (.cells #[.int .i64 0, .string ⟨#[]⟩, .slice none 0 0] 86 (0, 0)) ∧ W2.heap.size = w.heap.size + 1 ∧ FineAt w) := ⟨hr2, hb2, hE2, z2, hf⟩
 have HEN : Hid (Ends s.data.toList) := hE
 clear hr hr2 hb2 hE2 z2 hf hE hse
 go_enter Tryz.func35, Tryz.ntmps35
 go_wp2_with fail
 refine cS.mono ?_
 rintro e w3 ⟨rfl, hb3⟩
 have z2 := HX.out.2.2.2.1
 have hr3 := HX.out.1.kept (hb3.block cb (by omega))
 have hb03 : But w.heap.size cb w w3 := HX.out.2.1.trans (to_but (hb3.mono (by omega)))
 have e3 := (hb3.block w.heap.size (by omega)).trans HX.out.2.2.1
 have z3 : w.heap.size + 1 ≤ w3.heap.size := by have := hb3.size; omega
 have cF := rfail_yes cb p (c + 1) 3 s w3 hr3 (HX.out.2.2.2.2.but hb03 hcf)
 have H3 : Hid (But w.heap.size cb w w3 ∧ w3.heap[w.heap.size]? = some (.cells #[.int .i64 0, .string ⟨#[]⟩, .slice none 0 0] 86 (0, 0))) := ⟨hb03, e3⟩
 clear cS hb3 hr3 hb03 e3 HX z2
 go_wp2_with fail
 refine cF.mono ?_
 rintro e w7 ⟨rfl, hr7, hb9⟩
 have hb7 := H3.out.1.trans (hb9.less (by omega))
 have e7 := (hb9.block w.heap.size (by omega) (by omega)).trans H3.out.2
 clear cF hb9 H3
 have hcz := hcb
 obtain ⟨⟨s0, s1, s2⟩, ⟨sf0, sf1, sf2⟩, u0, u1, u2⟩ := three_facts e7 (.int .i64 0) (.string ⟨#[]⟩) (.slice none 0 0)
 have HD : Hid (OutRA w cb s (.bad 3 p) (.returned (.agg #[.int .i64 0, .string ⟨#[]⟩, (.slice none 0 0)])) _) := rarg_done hcz (Agw.nil w7 _) hr7 hb7 ⟨rfl, rfl, by decide⟩
 clear hr7 hb7 e7 hcz
 go_wp2_with fail
 exact bodyPost_ret (v := .agg #[.int .i64 0, .string ⟨#[]⟩, (.slice none 0 0)]) (by simp [results, Tryz.results35, go_sem, u0, u1, u2]) rfl HD.out
theorem rarg_quo (cb p c d : Nat) (s : ByteArray) (w : World) (hr : CdW w cb s p c 0 (-1)) (hf : FineAt w) (hcf : cb ≠ 0) (hs : s.size ≤ 1000000) (hE : Ends s.data.toList) (_hp : p + 2 ≤ s.size) (hc : c + 1 ≤ 60) (hd : d ≤ 6) (hse : seeW s.data.toList p = some 34) :
  Calls Tryz.prog 35 #[.pointer (some ⟨cb, 0, none⟩), .int .i64 (d : Int)] w fun e w' => OutRA w cb s ((quotedW s.data.toList (p + 1) (c + 1) [] s.data.toList.length).map fun t => .mk 2 t []) e w' := by
 obtain ⟨W1, W2, hW1, hW2, p1, f1, q1, z2, hr2, hb2, hE2⟩ := rarg_begun cb p c s w hr
 have hcb := hr.lt
 have d1 : decide ((6 : Int) < (d : Int)) = false := decide_eq_false (by omega)
 have d2 : decide ((60 : Int) < (c : Int) + 1) = false := decide_eq_false (by omega)
 have cS := rsee_yes cb p (c + 1) 34 s W2 hr2 (hf.but hb2 hcf) hs hse
 have HX : Hid (CdW W2 cb s p (c + 1) 0 (-1) ∧ But w.heap.size cb w W2 ∧ W2.heap[w.heap.size]? = some (.cells #[.int .i64 0, .string ⟨#[]⟩, .slice none 0 0] 86 (0, 0)) ∧ W2.heap.size = w.heap.size + 1 ∧ FineAt w) := ⟨hr2, hb2, hE2, z2, hf⟩
 have HEN : Hid (Ends s.data.toList) := hE
 rw [show ((34 : UInt8).toNat : Int) = 34 from rfl] at cS
 have hlt := (see_some hse).1
 rw [wsize] at hlt
 clear hse
 clear hr hr2 hb2 hE2 z2 hf hE
 go_enter Tryz.func35, Tryz.ntmps35
 go_wp2_with fail
 refine cS.mono ?_
 rintro e w3 ⟨rfl, hb3⟩
 have z2 := HX.out.2.2.2.1
 have hr3 := HX.out.1.kept (hb3.block cb (by omega))
 have hb03 : But w.heap.size cb w w3 := HX.out.2.1.trans (to_but (hb3.mono (by omega)))
 have e3 := (hb3.block w.heap.size (by omega)).trans HX.out.2.2.1
 have z3 : w.heap.size + 1 ≤ w3.heap.size := by have := hb3.size; omega
 have cC := rquoted_is cb p (c + 1) s w3 hr3 (HX.out.2.2.2.2.but hb03 hcf) hcf hs HEN.out hlt
 have H3 : Hid (But w.heap.size cb w w3 ∧ w3.heap[w.heap.size]? = some (.cells #[.int .i64 0, .string ⟨#[]⟩, .slice none 0 0] 86 (0, 0))) := ⟨hb03, e3⟩
 clear cS hb3 hr3 hb03 e3 HX z2
 go_wp2_with fail
 refine cC.mono ?_
 intro e w7 h7
 obtain ⟨tb, p7, c7, E7, q7, rfl, hr7, hb9, hres⟩ := outRT_any 2 h7
 have hb7 := H3.out.1.trans (hb9.less (by omega))
 have e7 := (hb9.block w.heap.size (by omega) (by omega)).trans H3.out.2
 clear cC hb9 H3 h7
 have hcz := hcb
 obtain ⟨⟨s0, s1, s2⟩, ⟨sf0, sf1, sf2⟩, u0, u1, u2⟩ := three_facts e7 (.int .i64 2) (.string tb) (.slice none 0 0)
 have HD : Hid (OutRA w cb s _ (.returned (.agg #[.int .i64 2, .string tb, (.slice none 0 0)])) _) := rarg_done hcz (Agw.nil w7 _) hr7 hb7 hres
 clear hr7 hb7 e7 hcz hres
 go_wp2_with fail
 exact bodyPost_ret (v := .agg #[.int .i64 2, .string tb, (.slice none 0 0)]) (by simp [results, Tryz.results35, go_sem, u0, u1, u2]) rfl HD.out
theorem rarg_word (cb p c d : Nat) (s : ByteArray) (w : World) (hr : CdW w cb s p c 0 (-1)) (hf : FineAt w) (hcf : cb ≠ 0) (hs : s.size ≤ 1000000) (hE : Ends s.data.toList) (hp : p + 2 ≤ s.size) (b : UInt8) (hc : c + 1 ≤ 60) (hd : d ≤ 6) (hse : seeW s.data.toList p = some b) (h1 : b ≠ 34) (h2 : b ≠ 123) (h3 : b ≠ 40) :
  Calls Tryz.prog 35 #[.pointer (some ⟨cb, 0, none⟩), .int .i64 (d : Int)] w fun e w' => OutRA w cb s ((wordW s.data.toList p (c + 1)).map fun t => .mk 1 t []) e w' := by
 obtain ⟨W1, W2, hW1, hW2, p1, f1, q1, z2, hr2, hb2, hE2⟩ := rarg_begun cb p c s w hr
 have hcb := hr.lt
 have d1 : decide ((6 : Int) < (d : Int)) = false := decide_eq_false (by omega)
 have d2 : decide ((60 : Int) < (c : Int) + 1) = false := decide_eq_false (by omega)
 have cS := rsee_yes cb p (c + 1) b s W2 hr2 (hf.but hb2 hcf) hs hse
 have HX : Hid (CdW W2 cb s p (c + 1) 0 (-1) ∧ But w.heap.size cb w W2 ∧ W2.heap[w.heap.size]? = some (.cells #[.int .i64 0, .string ⟨#[]⟩, .slice none 0 0] 86 (0, 0)) ∧ W2.heap.size = w.heap.size + 1 ∧ FineAt w) := ⟨hr2, hb2, hE2, z2, hf⟩
 have HEN : Hid (Ends s.data.toList) := hE
 have h256 := b.toNat_lt
 have m34 : ((b.toNat : Int) == 34) = false := by rw [beq_eq_false_iff_ne]; intro e; exact h1 (UInt8.toNat_inj.1 (by show b.toNat = 34; omega))
 have m123 : ((b.toNat : Int) == 123) = false := by rw [beq_eq_false_iff_ne]; intro e; exact h2 (UInt8.toNat_inj.1 (by show b.toNat = 123; omega))
 have m40 : ((b.toNat : Int) == 40) = false := by rw [beq_eq_false_iff_ne]; intro e; exact h3 (UInt8.toNat_inj.1 (by show b.toNat = 40; omega))
 clear hse h1 h2 h3
 clear hr hr2 hb2 hE2 z2 hf hE
 go_enter Tryz.func35, Tryz.ntmps35
 go_wp2_with fail
 refine cS.mono ?_
 rintro e w3 ⟨rfl, hb3⟩
 have z2 := HX.out.2.2.2.1
 have hr3 := HX.out.1.kept (hb3.block cb (by omega))
 have hb03 : But w.heap.size cb w w3 := HX.out.2.1.trans (to_but (hb3.mono (by omega)))
 have e3 := (hb3.block w.heap.size (by omega)).trans HX.out.2.2.1
 have z3 : w.heap.size + 1 ≤ w3.heap.size := by have := hb3.size; omega
 have cC := rword_is cb p (c + 1) s w3 hr3 (HX.out.2.2.2.2.but hb03 hcf) hcf hs HEN.out hp
 have H3 : Hid (But w.heap.size cb w w3 ∧ w3.heap[w.heap.size]? = some (.cells #[.int .i64 0, .string ⟨#[]⟩, .slice none 0 0] 86 (0, 0))) := ⟨hb03, e3⟩
 clear cS hb3 hr3 hb03 e3 HX z2
 go_wp2_with fail
 refine cC.mono ?_
 intro e w7 h7
 obtain ⟨tb, p7, c7, E7, q7, rfl, hr7, hb9, hres⟩ := outRT_any 1 h7
 have hb7 := H3.out.1.trans (hb9.less (by omega))
 have e7 := (hb9.block w.heap.size (by omega) (by omega)).trans H3.out.2
 clear cC hb9 H3 h7
 have hcz := hcb
 obtain ⟨⟨s0, s1, s2⟩, ⟨sf0, sf1, sf2⟩, u0, u1, u2⟩ := three_facts e7 (.int .i64 1) (.string tb) (.slice none 0 0)
 have HD : Hid (OutRA w cb s _ (.returned (.agg #[.int .i64 1, .string tb, (.slice none 0 0)])) _) := rarg_done hcz (Agw.nil w7 _) hr7 hb7 hres
 clear hr7 hb7 e7 hcz hres
 go_wp2_with fail
 exact bodyPost_ret (v := .agg #[.int .i64 1, .string tb, (.slice none 0 0)]) (by simp [results, Tryz.results35, go_sem, u0, u1, u2]) rfl HD.out
end Go.Proofs.YtogigccbnohjjaaGreatDoor
namespace Go.Proofs.YtogigccbnohjjaaGreatDoor
open Go.RowKit Go.Proofs.Aid Go.Proofs.Sq Go.Sort
set_option maxHeartbeats 2000000
set_option maxRecDepth 100000
theorem ref_num (s : ByteArray) (most : Int) (w : World) (hs : s.size ≤ 1000000) (hg : NumAt w) :
  Calls Tryz.prog 56 #[.string s, .int .i64 most] w fun e w' => e = .returned (.tuple #[.int .i64 (numB s.data.toList most).1, .bool (numB s.data.toList most).2]) ∧ Below w.heap.size w w' := by
 obtain ⟨R, hR⟩ : ∃ R, numB s.data.toList most = R := ⟨_, rfl⟩
 rw [hR]
 unfold numB at hR
 cases h : Lib.atoiAll s.data.toList with
 | ok n =>
  rw [h] at hR
  simp only at hR
  subst hR
  have hn := atoi_bounds h
  have cA := Tryz.strconv_Atoi_ok s (by omega) n h w
  have cB : ∀ W, Calls Tryz.prog 51 #[.int .i64 n, .int .i64 0, .int .i64 most] W fun e w' => e = .returned (.bool (decide (0 ≤ n ∧ n ≤ most))) ∧ w' = W := fun W => ref_in n 0 most W
  obtain ⟨b1, hb1⟩ : ∃ b, decide (0 ≤ n ∧ n ≤ most) = b := ⟨_, rfl⟩
  obtain ⟨b2, hb2⟩ : ∃ b, decide (Lib.itoa n = s.data.toList) = b := ⟨_, rfl⟩
  have HB2 : Hid (decide (Lib.itoa n = s.data.toList) = b2) := hb2
  rw [hb1] at cB ⊢
  rw [hb2]
  clear hb1 hb2
  go_enter Tryz.func56, Tryz.ntmps56
  go_wp2_with fail
  refine cA.mono ?_
  rintro e w1 ⟨rfl, hw1⟩
  have hb1 : Below w.heap.size w w1 := by
   rcases hw1 with rfl | ⟨t, rfl⟩
   ·exact Below.refl _ _
   ·exact num_bytes w t
  have HB : Hid (Below w.heap.size w w1) := hb1
  clear hw1 cA hb1
  go_wp2_with fail
  refine (cB _).mono ?_
  rintro e w2 ⟨rfl, hw⟩
  obtain rfl : w1 = w2 := hw.symm
  clear cB
  cases b1
  ·go_wp2_with fail
   go_ret2
   exact ⟨by simp, HB.out⟩
  ·have cI := Tryz.strconv_Itoa n hn.1 hn.2 w1 (hg w1 HB.out).2.2
   obtain ⟨u, hu⟩ : ∃ u : ByteArray, ⟨(Lib.itoa n).toArray⟩ = u := ⟨_, rfl⟩
   rw [hu] at cI
   have hul : u.data.toList = Lib.itoa n := by rw [← hu]
   have HU : Hid (u.data.toList = Lib.itoa n) := hul
   clear hu hul
   go_wp2_with fail
   refine cI.mono ?_
   rintro e w3 ⟨rfl, q, os, rfl⟩
   have HB3 : Hid (Below w.heap.size w (grow (w1.drewN q) os)) := num_grow (below_drewN HB.out q) HB.out.size os
   generalize grow (w1.drewN q) os = W3 at HB3 ⊢
   clear cI
   by_cases hq : u = s
   ·subst hq
    obtain rfl : b2 = true := by rw [← HB2.out, ← HU.out]; simp
    go_wp2_with fail
    go_ret2
    exact ⟨by simp, HB3.out⟩
   ·have hne : (u.toList == s.toList) = false := by
     rw [Lib.toList_data, Lib.toList_data, beq_eq_false_iff_ne]
     exact fun h => hq (num_ba h)
    obtain rfl : b2 = false := by
     rw [← HB2.out, ← HU.out, decide_eq_false_iff_not]
     exact fun h => hq (num_ba h)
    clear hq
    go_wp2_with fail
    go_ret2
    exact ⟨rfl, HB3.out⟩
 | «syntax» =>
  rw [h] at hR
  simp only at hR
  subst hR
  obtain ⟨te, pe, hc⟩ := (hg w (Below.refl _ _)).1
  have cA := Tryz.strconv_Atoi_syntax s (by omega) h _ w hc (Or.inr ⟨te, pe, rfl⟩)
  go_enter Tryz.func56, Tryz.ntmps56
  go_wp2_with fail
  refine cA.mono ?_
  rintro e w1 ⟨N, rfl, hN, hN2, hb1⟩
  clear cA hN2
  go_wp2_with fail
  go_ret2
  exact ⟨rfl, hb1⟩
 | range =>
  rw [h] at hR
  simp only at hR
  subst hR
  obtain ⟨te, pe, hc⟩ := (hg w (Below.refl _ _)).2.1
  have cA := Tryz.strconv_Atoi_range s (by omega) h _ w hc (Or.inr ⟨te, pe, rfl⟩)
  obtain ⟨z, hz⟩ : ∃ z, Lib.atoiSat s.data.toList = z := ⟨_, rfl⟩
  rw [hz] at cA ⊢
  go_enter Tryz.func56, Tryz.ntmps56
  go_wp2_with fail
  refine cA.mono ?_
  rintro e w1 ⟨N, rfl, hN, hN2, hb1⟩
  clear cA hN2
  go_wp2_with fail
  go_ret2
  exact ⟨rfl, hb1⟩
end Go.Proofs.YtogigccbnohjjaaGreatDoor
namespace Go.Proofs.YtogigccbnohjjaaGreatDoor
open Go.RowKit Go.Proofs.Aid Go.Proofs.Sq Go.Proofs.Hd Go.Sort
theorem numB_some {l : Tx} {n : Nat} (h : numW l = some n) : (numB l 4611686018427387904).1 = (n : Int) ∧ (numB l 4611686018427387904).2 = true := by
 unfold numW at h
 split at h
 ·next h1 =>
  cases h
  refine ⟨?_, h1⟩
  unfold numB at h1 ⊢
  split at h1
  ·simp only [Bool.and_eq_true, decide_eq_true_eq] at h1
   simp only
   omega
  ·simp at h1
  ·simp at h1
 ·cases h
theorem numB_none {l : Tx} (h : numW l = none) : (numB l 4611686018427387904).2 = false := by
 unfold numW at h
 split at h
 ·cases h
 ·next h1 => simpa using h1
end Go.Proofs.YtogigccbnohjjaaGreatDoor
