/-
  What key of the document's reader does at a list.
-/
import Derived.Test.YtogigccbnohjjaaGreatDoorMSfKeys
namespace Go.Proofs.YtogigccbnohjjaaGreatDoor
open Go.RowKit Go.Proofs.Aid Go.Proofs.Sq Go.Proofs.Hd
set_option maxHeartbeats 4000000
set_option maxRecDepth 100000
theorem six_cell (W : World) {R k : Nat} (h : k ≠ R) (i : Nat) (x0 x1 x2 x3 x4 x5 : Value) : ((((((W.setCell ⟨R, 0, none⟩ x0).setCell ⟨R, 1, none⟩ x1).setCell ⟨R, 2, none⟩ x2).setCell ⟨R, 3, none⟩ x3).setCell ⟨R, 4, none⟩ x4).setCell ⟨R, 5, none⟩ x5).cell? ⟨k, i, none⟩ = W.cell? ⟨k, i, none⟩ := by
 have h1 := six_other W h x0 x1 x2 x3 x4 x5
 generalize ((((((W.setCell ⟨R, 0, none⟩ x0).setCell ⟨R, 1, none⟩ x1).setCell ⟨R, 2, none⟩ x2).setCell ⟨R, 3, none⟩ x3).setCell ⟨R, 4, none⟩ x4).setCell ⟨R, 5, none⟩ x5) = W' at h1 ⊢
 exact World.cell?_of_block h1
theorem rel_list {R : Sr.Rs Sr.Ky} {k : Sr.Ky} {l' : List Sr.Ar} {n E : Int} (r : List Sr.Ar) (h : RelK R k l' n E) : RelK (R.then fun k _ c => .ok k r c) k r n E := by
 cases R with
 | bad x => exact h
 | ok k1 l1 c1 =>
  obtain ⟨rfl, rfl, rfl, rfl⟩ := h
  exact ⟨rfl, rfl, rfl, rfl⟩
theorem kkey_list (kb B d c : Nat) (x : Sr.Ar) (l : List Sr.Ar) (v : Value) (Ok : Nat → Prop) (w : World) (R : Sr.Rs Sr.Ky) (hr : KyS w kb (c : Int) 0) (hl : Ags w Ok B (x :: l) v) (hO : ∀ k, Ok k → k ≠ kb ∧ k < w.heap.size) (hd : d ≤ 6) (hc : c + 1 ≤ 60) (hx : x.kind = 3)
  (cA : ∀ W lv, KyS W kb ((c + 1 : Nat) : Int) 0 → Ags W Ok B x.list lv → But w.heap.size kb w W → w.heap.size ≤ W.heap.size → Calls Tryz.prog 14 #[.pointer (some ⟨kb, 0, none⟩), lv, .int .i64 ((d : Int) + 1)] W fun e w' => OutAl W kb R e w') :
  Calls Tryz.prog 37 #[.pointer (some ⟨kb, 0, none⟩), v, .int .i64 (d : Int)] w fun e w' => OutK w kb B Ok (R.then fun k _ c => .ok k l c) e w' := by
 have hkb := hr.lt
 obtain ⟨T, hT⟩ : ∃ T, (R.then fun k _ c => Sr.Rs.ok k l c) = T := ⟨_, rfl⟩
 rw [hT]
 have HT : Hid ((R.then fun k _ c => Sr.Rs.ok k l c) = T) := hT
 obtain ⟨W1, W2, hW1, hW2, p1, f1, q0, q1, z2, hr2, hl2, hb2, hE2⟩ := kbegun kb B (c : Int) 0 ((c : Int) + 1) (x :: l) v Ok w hr hl hO
 obtain ⟨b, o, C, tb, lv, rfl, hC, hC2, hOb, htb, hsz, hlist, c1, c2, c3, hrest⟩ := hl2.head
 have cQ := cA W2.drew lv hr2 (hlist.kept fun k hk _ => ⟨hk, rfl⟩) (hb2.trans (to_but (Below.refl _ _).drew)) (by have := hb2.size; simpa using this)
 rw [hx] at c1
 have hwr : IntKind.i64.wrap ((d : Int) + 1) = (d : Int) + 1 := by rw [IntKind.wrap_i64]; omega
 have HB : Hid (But w.heap.size kb w W2.drew) := hb2.trans (to_but (Below.refl _ _).drew)
 have HE : Hid (W2.drew.heap[w.heap.size]? = some (.cells #[.int .i64 0, .string ⟨#[]⟩, .string ⟨#[]⟩, .int .i64 0, .slice none 0 0, .slice none 0 0] 32 (0, 0))) := hE2
 have HO : Hid (∀ k, Ok k → k ≠ kb ∧ k < w.heap.size) := hO
 have HZ : Hid (W2.drew.heap.size = w.heap.size + 1) := z2
 have hbO := hO b hOb
 have hbne : b ≠ w.heap.size := by have := hbO.2; omega
 have d1 : decide ((60 : Int) < (c : Int) + 1) = false := decide_eq_false (by omega)
 have d2 : decide ((6 : Int) < (d : Int)) = false := decide_eq_false (by omega)
 obtain ⟨L, hL⟩ : ∃ L, l.length = L := ⟨_, rfl⟩
 have HRS : Hid (Ags W2.drew Ok B l (.slice (if C = 0 then some ⟨b, o, none⟩ else some ⟨b, o + 3, none⟩) l.length C)) := hrest.kept fun k hk _ => ⟨hk, rfl⟩
 rw [hL] at hC HRS ⊢
 have i2 : (1 : Int) ≤ (L : Int) + 1 := by omega
 have i3 : (L : Int) + 1 ≤ (C : Int) + 1 := by omega
 have kc3 : W2.drew.cell? ⟨b, o + 2, none⟩ = some lv := c3
 clear hr hl hO hr2 hl2 hb2 hE2 cA hL hlist hrest htb hsz z2 hx hT
 rcases Nat.eq_zero_or_pos C with hC0 | hC0
 ·subst hC0
  obtain rfl : L = 0 := by omega
  rw [if_pos rfl] at HRS
  go_enter Tryz.func37, Tryz.ntmps37
  go_wp2_with fail
  refine wp_region_held_drew (S := fun W => W.cell? ⟨b, o + 2, none⟩ = some lv) (by kernel_rfl) ?_ (fun hHeld => ?_)
  ·exact kc3
  refine wpAnyH_take (i := 0) (v := ?_) rfl (by kernel_rfl) (by kernel_rfl) (by kernel_rfl) (fun _ _ _ h => h) (Or.inl ⟨by rfl, ?_⟩) (by assumption) ?_
  rotate_left
  ·intro w hSw; go_simp; (try with_reducible rfl)
  change wpAnyH _ _ _ _ _ _ _ (Act.put _ (some 54) _) _; simp only [Act.put, List.setIfInBounds_toArray, List.set_cons_zero, List.set_cons_succ]
  refine wpAnyH_take (i := 1) (v := ?_) rfl (by kernel_rfl) (by kernel_rfl) (by kernel_rfl) (fun _ _ _ h => h) (Or.inl ⟨by rfl, ?_⟩) (by assumption) ?_
  rotate_left
  ·intro w hSw; go_simp; (try with_reducible rfl)
  change wpAnyH _ _ _ _ _ _ _ (Act.put _ (some 55) _) _; simp only [Act.put, List.setIfInBounds_toArray, List.set_cons_zero, List.set_cons_succ]
  refine wpAnyH_take (i := 2) (v := ?_) rfl (by kernel_rfl) (by kernel_rfl) (by kernel_rfl) (fun _ _ _ h => h) (Or.inl ⟨by rfl, ?_⟩) (by assumption) ?_
  rotate_left
  ·intro w hSw; go_simp; (try with_reducible rfl)
  change wpAnyH _ _ _ _ _ _ _ (Act.put _ (some 56) _) _; simp only [Act.put, List.setIfInBounds_toArray, List.set_cons_zero, List.set_cons_succ]
  refine wpAnyH_take (i := 3) (v := ?_) rfl (by kernel_rfl) (by kernel_rfl) (by kernel_rfl) (fun _ _ _ h => h) (Or.inl ⟨by rfl, ?_⟩) (by assumption) ?_
  rotate_left
  ·intro w hSw; go_simp; (try with_reducible rfl)
  change wpAnyH _ _ _ _ _ _ _ (Act.put _ (some 57) _) _; simp only [Act.put, List.setIfInBounds_toArray, List.set_cons_zero, List.set_cons_succ]
  refine wpAnyH_take (i := 4) (v := ?_) rfl (by kernel_rfl) (by kernel_rfl) (by kernel_rfl) (fun _ _ _ h => h) (Or.inl ⟨by rfl, ?_⟩) (by assumption) ?_
  rotate_left
  ·intro w hSw; go_simp; (try with_reducible rfl)
  change wpAnyH _ _ _ _ _ _ _ (Act.put _ (some 58) _) _; simp only [Act.put, List.setIfInBounds_toArray, List.set_cons_zero, List.set_cons_succ]
  refine wpAnyH_take (i := 5) (v := ?_) rfl (by kernel_rfl) (by kernel_rfl) (by kernel_rfl) (fun _ _ _ h => h) (Or.inl ⟨by rfl, ?_⟩) (by assumption) ?_
  rotate_left
  ·intro w hSw; go_simp; (try with_reducible rfl)
  change wpAnyH _ _ _ _ _ _ _ (Act.put _ (some 59) _) _; simp only [Act.put, List.setIfInBounds_toArray, List.set_cons_zero, List.set_cons_succ]
  refine wpAnyH_take (i := 6) (v := ?_) rfl (by kernel_rfl) (by kernel_rfl) (by kernel_rfl) (fun _ _ _ h => h) (Or.inl ⟨by rfl, ?_⟩) (by assumption) ?_
  rotate_left
  ·intro w hSw; go_simp; (try with_reducible rfl)
  change wpAnyH _ _ _ _ _ _ _ (Act.put _ (some 60) _) _; simp only [Act.put, List.setIfInBounds_toArray, List.set_cons_zero, List.set_cons_succ]
  refine wpAnyH_take (i := 8) (v := ?_) rfl (by kernel_rfl) (by kernel_rfl) (by kernel_rfl) (fun _ _ _ h => h) (Or.inl ⟨by rfl, ?_⟩) (by assumption) ?_
  rotate_left
  ·intro w hSw; go_simp; (try with_reducible rfl)
  change wpAnyH _ _ _ _ _ _ _ (Act.put _ (some 62) _) _; simp only [Act.put, List.setIfInBounds_toArray, List.set_cons_zero, List.set_cons_succ]
  refine wpAnyH_take (i := 9) (v := ?_) rfl (by kernel_rfl) (by kernel_rfl) (by kernel_rfl) (fun _ _ _ h => h) (Or.inl ⟨by rfl, ?_⟩) (by assumption) ?_
  rotate_left
  ·intro w hSw; go_simp; (try with_reducible rfl)
  change wpAnyH _ _ _ _ _ _ _ (Act.put _ (some 63) _) _; simp only [Act.put, List.setIfInBounds_toArray, List.set_cons_zero, List.set_cons_succ]
  refine wpAnyH_ready (rs := [7]) (by kernel_rfl) (by simp) ?_
  refine AllReadyH.cons rfl (fun K hK => ?_) AllReadyH.nil
  go_simp
  refine cQ.mono ?_
  rintro e w3 ⟨ys, k3, l3, n3, E3, rfl, hk3, hr3, hb3, hrel3⟩
  clear cQ
  obtain ⟨x0, x3, x1, x2, xa, xk, xc, ya, yk, yc, rfl⟩ := kx_cells hk3
  have hta : ([.int .i64 x0, .string x1, .string x2, .int .i64 x3, .slice xa xk xc, .slice ya yk yc] : List Value).toArray = #[.int .i64 x0, .string x1, .string x2, .int .i64 x3, .slice xa xk xc, .slice ya yk yc] := rfl
  rw [hta]
  have hz := HZ.out
  have hs3 := hb3.size
  have e3 := (hb3.block w.heap.size (by omega) (by omega)).trans HE.out
  have kc4 : w3.cell? ⟨b, o + 2, none⟩ = some lv := (hb3.cell (p := ⟨b, o + 2, none⟩) (show b < W2.drew.heap.size by omega) hbO.1).trans kc3
  obtain ⟨⟨s0, s1, s2, s3, s4, s5⟩, ⟨sf0, sf1, sf2, sf3, sf4, sf5⟩, u0, u1, u2, u3, u4, u5⟩ := six_facts e3 (.int .i64 x0) (.string x1) (.string x2) (.int .i64 x3) (.slice xa xk xc) (.slice ya yk yc)
  have hR := rel_list l hrel3
  rw [HT.out] at hR
  have HD : Hid (OutK w kb B Ok T (.returned (.tuple #[.agg #[.int .i64 x0, .string x1, .string x2, .int .i64 x3, .slice xa xk xc, .slice ya yk yc], .slice (some ⟨b, o, none⟩) 0 0])) _) := kdone hkb HO.out (hk3.kept fun q hq _ => ⟨by omega, rfl⟩) hr3 (HRS.out.kept fun q hq hlt => ⟨hq, hb3.block q hlt (HO.out q hq).1⟩) (HB.out.trans (hb3.less (by omega))) hR
  have kc5 : ((((((w3.setCell ⟨w.heap.size, 0, none⟩ (.int .i64 x0)).setCell ⟨w.heap.size, 1, none⟩ (.string x1)).setCell ⟨w.heap.size, 2, none⟩ (.string x2)).setCell ⟨w.heap.size, 3, none⟩ (.int .i64 x3)).setCell ⟨w.heap.size, 4, none⟩ (.slice xa xk xc)).setCell ⟨w.heap.size, 5, none⟩ (.slice ya yk yc)).cell? ⟨b, o + 2, none⟩ = some lv := (six_cell w3 hbne (o + 2) _ _ _ _ _ _).trans kc4
  clear hk3 hr3 hb3 hrel3 hta e3 hR hz
  refine hK.out _ _ ?_ (fun hHeld => ?_)
  ·exact kc4
  clear hK K
  refine wpAnyH_ready (rs := [10]) (by kernel_rfl) (by simp) ?_
  refine AllReadyH.cons rfl (fun K hK => ?_) AllReadyH.nil
  go_simp
  refine hK.out _ _ ?_ (fun hHeld => ?_)
  ·exact kc5
  clear hK K
  refine wpAnyH_take (i := 11) (v := ?_) rfl (by kernel_rfl) (by kernel_rfl) (by kernel_rfl) (fun _ _ _ h => h) (Or.inl ⟨by rfl, ?_⟩) (by assumption) ?_
  rotate_left
  ·intro w hSw; go_simp; (try with_reducible rfl)
  change wpAnyH _ _ _ _ _ _ _ (Act.put _ (some 7) _) _; simp only [Act.put, List.setIfInBounds_toArray, List.set_cons_zero, List.set_cons_succ]
  refine wpAnyH_done (by kernel_rfl) ?_ _
  go_wp2_with fail
  exact bodyPost_ret (v := .tuple #[.agg #[.int .i64 x0, .string x1, .string x2, .int .i64 x3, .slice xa xk xc, .slice ya yk yc], .slice (some ⟨b, o, none⟩) 0 0]) (by simp [results, Tryz.results37, go_sem, u0, u1, u2, u3, u4, u5]) rfl HD.out
 ·have hC1 : ¬ C = 0 := by omega
  rw [if_neg hC1] at HRS
  go_enter Tryz.func37, Tryz.ntmps37
  go_wp2_with fail
  refine wp_region_held_drew (S := fun W => W.cell? ⟨b, o + 2, none⟩ = some lv) (by kernel_rfl) ?_ (fun hHeld => ?_)
  ·exact kc3
  refine wpAnyH_take (i := 0) (v := ?_) rfl (by kernel_rfl) (by kernel_rfl) (by kernel_rfl) (fun _ _ _ h => h) (Or.inl ⟨by rfl, ?_⟩) (by assumption) ?_
  rotate_left
  ·intro w hSw; go_simp; (try with_reducible rfl)
  change wpAnyH _ _ _ _ _ _ _ (Act.put _ (some 54) _) _; simp only [Act.put, List.setIfInBounds_toArray, List.set_cons_zero, List.set_cons_succ]
  refine wpAnyH_take (i := 1) (v := ?_) rfl (by kernel_rfl) (by kernel_rfl) (by kernel_rfl) (fun _ _ _ h => h) (Or.inl ⟨by rfl, ?_⟩) (by assumption) ?_
  rotate_left
  ·intro w hSw; go_simp; (try with_reducible rfl)
  change wpAnyH _ _ _ _ _ _ _ (Act.put _ (some 55) _) _; simp only [Act.put, List.setIfInBounds_toArray, List.set_cons_zero, List.set_cons_succ]
  refine wpAnyH_take (i := 2) (v := ?_) rfl (by kernel_rfl) (by kernel_rfl) (by kernel_rfl) (fun _ _ _ h => h) (Or.inl ⟨by rfl, ?_⟩) (by assumption) ?_
  rotate_left
  ·intro w hSw; go_simp; (try with_reducible rfl)
  change wpAnyH _ _ _ _ _ _ _ (Act.put _ (some 56) _) _; simp only [Act.put, List.setIfInBounds_toArray, List.set_cons_zero, List.set_cons_succ]
  refine wpAnyH_take (i := 3) (v := ?_) rfl (by kernel_rfl) (by kernel_rfl) (by kernel_rfl) (fun _ _ _ h => h) (Or.inl ⟨by rfl, ?_⟩) (by assumption) ?_
  rotate_left
  ·intro w hSw; go_simp; (try with_reducible rfl)
  change wpAnyH _ _ _ _ _ _ _ (Act.put _ (some 57) _) _; simp only [Act.put, List.setIfInBounds_toArray, List.set_cons_zero, List.set_cons_succ]
  refine wpAnyH_take (i := 4) (v := ?_) rfl (by kernel_rfl) (by kernel_rfl) (by kernel_rfl) (fun _ _ _ h => h) (Or.inl ⟨by rfl, ?_⟩) (by assumption) ?_
  rotate_left
  ·intro w hSw; go_simp; (try with_reducible rfl)
  change wpAnyH _ _ _ _ _ _ _ (Act.put _ (some 58) _) _; simp only [Act.put, List.setIfInBounds_toArray, List.set_cons_zero, List.set_cons_succ]
  refine wpAnyH_take (i := 5) (v := ?_) rfl (by kernel_rfl) (by kernel_rfl) (by kernel_rfl) (fun _ _ _ h => h) (Or.inl ⟨by rfl, ?_⟩) (by assumption) ?_
  rotate_left
  ·intro w hSw; go_simp; (try with_reducible rfl)
  change wpAnyH _ _ _ _ _ _ _ (Act.put _ (some 59) _) _; simp only [Act.put, List.setIfInBounds_toArray, List.set_cons_zero, List.set_cons_succ]
  refine wpAnyH_take (i := 6) (v := ?_) rfl (by kernel_rfl) (by kernel_rfl) (by kernel_rfl) (fun _ _ _ h => h) (Or.inl ⟨by rfl, ?_⟩) (by assumption) ?_
  rotate_left
  ·intro w hSw; go_simp; (try with_reducible rfl)
  change wpAnyH _ _ _ _ _ _ _ (Act.put _ (some 60) _) _; simp only [Act.put, List.setIfInBounds_toArray, List.set_cons_zero, List.set_cons_succ]
  refine wpAnyH_take (i := 8) (v := ?_) rfl (by kernel_rfl) (by kernel_rfl) (by kernel_rfl) (fun _ _ _ h => h) (Or.inl ⟨by rfl, ?_⟩) (by assumption) ?_
  rotate_left
  ·intro w hSw; go_simp; (try with_reducible rfl)
  change wpAnyH _ _ _ _ _ _ _ (Act.put _ (some 62) _) _; simp only [Act.put, List.setIfInBounds_toArray, List.set_cons_zero, List.set_cons_succ]
  refine wpAnyH_take (i := 9) (v := ?_) rfl (by kernel_rfl) (by kernel_rfl) (by kernel_rfl) (fun _ _ _ h => h) (Or.inl ⟨by rfl, ?_⟩) (by assumption) ?_
  rotate_left
  ·intro w hSw; go_simp; (try with_reducible rfl)
  change wpAnyH _ _ _ _ _ _ _ (Act.put _ (some 63) _) _; simp only [Act.put, List.setIfInBounds_toArray, List.set_cons_zero, List.set_cons_succ]
  refine wpAnyH_ready (rs := [7]) (by kernel_rfl) (by simp) ?_
  refine AllReadyH.cons rfl (fun K hK => ?_) AllReadyH.nil
  go_simp
  refine cQ.mono ?_
  rintro e w3 ⟨ys, k3, l3, n3, E3, rfl, hk3, hr3, hb3, hrel3⟩
  clear cQ
  obtain ⟨x0, x3, x1, x2, xa, xk, xc, ya, yk, yc, rfl⟩ := kx_cells hk3
  have hta : ([.int .i64 x0, .string x1, .string x2, .int .i64 x3, .slice xa xk xc, .slice ya yk yc] : List Value).toArray = #[.int .i64 x0, .string x1, .string x2, .int .i64 x3, .slice xa xk xc, .slice ya yk yc] := rfl
  rw [hta]
  have hz := HZ.out
  have hs3 := hb3.size
  have e3 := (hb3.block w.heap.size (by omega) (by omega)).trans HE.out
  have kc4 : w3.cell? ⟨b, o + 2, none⟩ = some lv := (hb3.cell (p := ⟨b, o + 2, none⟩) (show b < W2.drew.heap.size by omega) hbO.1).trans kc3
  obtain ⟨⟨s0, s1, s2, s3, s4, s5⟩, ⟨sf0, sf1, sf2, sf3, sf4, sf5⟩, u0, u1, u2, u3, u4, u5⟩ := six_facts e3 (.int .i64 x0) (.string x1) (.string x2) (.int .i64 x3) (.slice xa xk xc) (.slice ya yk yc)
  have hR := rel_list l hrel3
  rw [HT.out] at hR
  have HD : Hid (OutK w kb B Ok T (.returned (.tuple #[.agg #[.int .i64 x0, .string x1, .string x2, .int .i64 x3, .slice xa xk xc, .slice ya yk yc], .slice (some ⟨b, o + 3, none⟩) L C])) _) := kdone hkb HO.out (hk3.kept fun q hq _ => ⟨by omega, rfl⟩) hr3 (HRS.out.kept fun q hq hlt => ⟨hq, hb3.block q hlt (HO.out q hq).1⟩) (HB.out.trans (hb3.less (by omega))) hR
  have kc5 : ((((((w3.setCell ⟨w.heap.size, 0, none⟩ (.int .i64 x0)).setCell ⟨w.heap.size, 1, none⟩ (.string x1)).setCell ⟨w.heap.size, 2, none⟩ (.string x2)).setCell ⟨w.heap.size, 3, none⟩ (.int .i64 x3)).setCell ⟨w.heap.size, 4, none⟩ (.slice xa xk xc)).setCell ⟨w.heap.size, 5, none⟩ (.slice ya yk yc)).cell? ⟨b, o + 2, none⟩ = some lv := (six_cell w3 hbne (o + 2) _ _ _ _ _ _).trans kc4
  clear hk3 hr3 hb3 hrel3 hta e3 hR hz
  refine hK.out _ _ ?_ (fun hHeld => ?_)
  ·exact kc4
  clear hK K
  refine wpAnyH_ready (rs := [10]) (by kernel_rfl) (by simp) ?_
  refine AllReadyH.cons rfl (fun K hK => ?_) AllReadyH.nil
  go_simp
  refine hK.out _ _ ?_ (fun hHeld => ?_)
  ·exact kc5
  clear hK K
  refine wpAnyH_take (i := 11) (v := ?_) rfl (by kernel_rfl) (by kernel_rfl) (by kernel_rfl) (fun _ _ _ h => h) (Or.inl ⟨by rfl, ?_⟩) (by assumption) ?_
  rotate_left
  ·intro w hSw; go_simp; (try with_reducible rfl)
  change wpAnyH _ _ _ _ _ _ _ (Act.put _ (some 7) _) _; simp only [Act.put, List.setIfInBounds_toArray, List.set_cons_zero, List.set_cons_succ]
  refine wpAnyH_done (by kernel_rfl) ?_ _
  go_wp2_with fail
  exact bodyPost_ret (v := .tuple #[.agg #[.int .i64 x0, .string x1, .string x2, .int .i64 x3, .slice xa xk xc, .slice ya yk yc], .slice (some ⟨b, o + 3, none⟩) L C]) (by simp [results, Tryz.results37, go_sem, u0, u1, u2, u3, u4, u5]) rfl HD.out
end Go.Proofs.YtogigccbnohjjaaGreatDoor
