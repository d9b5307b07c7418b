/-
  What the method arg of letterboxref.command does at a String that is counted.
-/
import Derived.Test.YtogigccbnohjjaaGreatDoorBpRwArgs
namespace Go.Proofs.YtogigccbnohjjaaGreatDoor
open Go.RowKit Go.Proofs.Aid Go.Proofs.Hd
open Go.Proofs.Sr (Ar)
set_option maxHeartbeats 4000000
set_option maxRecDepth 100000
theorem rarg_cnt (cb p c d : Nat) (s : ByteArray) (w : World) (hr : CdW w cb s p c 0 (-1)) (hf : FineAt w) (hcf : cb ≠ 0) (hs : s.size ≤ 1000000) (hE : Ends s.data.toList) (_hp : p + 2 ≤ s.size) (hc : c + 1 ≤ 60) (hd : d ≤ 6) (hse : seeW s.data.toList p = some 123) (hnum : ∀ W, But w.heap.size cb w W → NumAt W) :
  Calls Tryz.prog 35 #[.pointer (some ⟨cb, 0, none⟩), .int .i64 (d : Int)] w fun e w' => OutRA w cb s ((countedW s.data.toList p (c + 1)).map fun t => .mk 2 t []) e w' := by
 obtain ⟨W1, W2, hW1, hW2, p1, f1, q1, z2, hr2, hb2, hE2⟩ := rarg_begun cb p c s w hr
 have hcb := hr.lt
 have d1 : decide ((6 : Int) < (d : Int)) = false := decide_eq_false (by omega)
 have d2 : decide ((60 : Int) < (c : Int) + 1) = false := decide_eq_false (by omega)
 have cS := rsee_yes cb p (c + 1) 123 s W2 hr2 (hf.but hb2 hcf) hs hse
 rw [show ((123 : UInt8).toNat : Int) = 123 from rfl] at cS
 have HX : Hid (CdW W2 cb s p (c + 1) 0 (-1) ∧ But w.heap.size cb w W2 ∧ W2.heap[w.heap.size]? = some (.cells #[.int .i64 0, .string ⟨#[]⟩, .slice none 0 0] 86 (0, 0)) ∧ W2.heap.size = w.heap.size + 1 ∧ FineAt w) := ⟨hr2, hb2, hE2, z2, hf⟩
 have HEN : Hid (Ends s.data.toList) := hE
 have hpp := (see_some hse).2
 have hlt := (see_some hse).1
 rw [wsize] at hlt
 obtain ⟨R, hR⟩ : ∃ R, countedW s.data.toList p (c + 1) = R := ⟨_, rfl⟩
 rw [hR]
 have HR : Hid (countedW s.data.toList p (c + 1) = R) := hR
 have hre := rest_list s p
 obtain ⟨Q, hQ⟩ : ∃ Q, s.extract p s.size = Q := ⟨_, rfl⟩
 rw [hQ] at hre
 have cI0 := fun W => Tryz.strings_IndexByte Q 125 W
 rw [hre, show ((125 : Int).toNat.toUInt8) = 125 from rfl] at cI0
 have hge := Lib.indexByte_ge (s.data.toList.drop p) 125
 obtain ⟨E, hEE⟩ : ∃ E, Lib.indexByte (s.data.toList.drop p) 125 = E := ⟨_, rfl⟩
 have hE0 : E ≠ 0 := fun e0 => by
  have := (Lib.indexByte_some (o := 0) (by rw [hEE, e0]; rfl)).1
  rw [List.getElem?_drop, Nat.add_zero, hpp] at this
  exact absurd (Option.some.inj this) (by decide)
 rw [hEE] at cI0 hge
 have HEI : Hid (Lib.indexByte (s.data.toList.drop p) 125 = E) := hEE
 have HNUM : Hid (∀ W, But w.heap.size cb w W → NumAt W) := hnum
 clear hr hr2 hb2 hE2 z2 hf hE hse hnum hR hpp hre hEE
 go_enter Tryz.func35, Tryz.ntmps35
 go_wp2_with fail
 refine cS.mono ?_
 rintro e w3 ⟨rfl, hb3⟩
 have z2 := HX.out.2.2.2.1
 have hr3 := HX.out.1.kept (hb3.block cb (by omega))
 have hb03 : But w.heap.size cb w w3 := HX.out.2.1.trans (to_but (hb3.mono (by omega)))
 have e3 := (hb3.block w.heap.size (by omega)).trans HX.out.2.2.1
 have z3 : w.heap.size + 1 ≤ w3.heap.size := by have := hb3.size; omega
 have H3 : Hid (CdW w3 cb s p (c + 1) 0 (-1) ∧ But w.heap.size cb w w3 ∧ w3.heap[w.heap.size]? = some (.cells #[.int .i64 0, .string ⟨#[]⟩, .slice none 0 0] 86 (0, 0)) ∧ FineAt w) := ⟨hr3, hb03, e3, HX.out.2.2.2.2⟩
 have KH : Hid (∀ W, Below w3.heap.size w3 W → W.cell? ⟨cb, 0, none⟩ = some (.string s) ∧ W.cell? ⟨cb, 1, none⟩ = some (.int .i64 (p : Int))) := fun W hW => ⟨(hW.cell H3.out.1.lt).trans (rd_cell H3.out.1 rfl), (hW.cell H3.out.1.lt).trans (rd_cell H3.out.1 rfl)⟩
 have cI : ∀ W, Below w3.heap.size w3 W → Calls Tryz.prog 50 #[.string Q, .int .u8 125] W fun e w' => e = .returned (.int .i64 E) ∧ Below w3.heap.size w3 w' := fun W hW => (cI0 W).mono fun e w' h => ⟨h.1, by rw [h.2]; exact hW⟩
 clear cS hb3 hr3 hb03 e3 HX z2 cI0 HEN
 have hps : p ≤ s.size := by omega
 have hps2 : (p : Int) ≤ (s.size : Int) := by omega
 have hps3 : (0 : Int) ≤ (p : Int) := by omega
 go_upto_region 11 with fail
 first
  | (go_region_held3 (fun W => W.cell? ⟨cb, 0, none⟩ = some (.string s) ∧ W.cell? ⟨cb, 1, none⟩ = some (.int .i64 (p : Int)))
    ((refine KH.out _ ?_; (repeat (first | (with_reducible assumption) | (with_reducible refine Below.drew ?_) | (with_reducible exact Below.refl _ _)))))
    (first | (go_at_call 50; with_reducible refine (cI _ ?_).mono ?_; (focus (repeat (first | (with_reducible assumption) | (with_reducible refine Below.drew ?_) | (with_reducible exact Below.refl _ _)))); rintro e wA ⟨rfl, kA⟩)))
  | fail
 all_goals
  have HKA : Hid (Below w3.heap.size w3 wA) := kA
  clear kA cI
 by_cases hneg : E < 0
 ·obtain rfl : E = -1 := by omega
  have HB : Hid (R = .bad 3 p) := by show R = _; rw [← HR.out]; exact counted_no (by rw [HEI.out]; decide)
  obtain ⟨k0, k1⟩ := KH.out _ HKA.out
  have hRR := HB.out
  subst hRR
  clear HR HEI HB hge hE0 hneg
  go_upto_region 16 with fail
  refine wp_region_held_drew (S := (fun W => W.cell? ⟨cb, 0, none⟩ = some (.string s) ∧ W.cell? ⟨cb, 1, none⟩ = some (.int .i64 (p : Int)))) (by kernel_rfl) ?_ (fun hHeld => ?_)
  ·refine KH.out _ ?_; exact HKA.out.drew
  refine wpAnyH_take (i := 0) (v := ?_) rfl (by kernel_rfl) (by kernel_rfl) (by kernel_rfl) (fun _ _ _ h => h) (Or.inl ⟨by rfl, ?_⟩) (by assumption) ?_
  rotate_left
  ·intro w hSw; go_simp; (try with_reducible rfl)
  change wpAnyH _ _ _ _ _ _ _ (Act.put _ (some 91) _) _; simp only [Act.put, List.setIfInBounds_toArray, List.set_cons_zero, List.set_cons_succ]
  refine wpAnyH_take (i := 1) (v := ?_) rfl (by kernel_rfl) (by kernel_rfl) (by kernel_rfl) (fun _ _ _ h => h) (Or.inl ⟨by rfl, ?_⟩) (by assumption) ?_
  rotate_left
  ·intro w hSw; go_simp; (try with_reducible rfl)
  change wpAnyH _ _ _ _ _ _ _ (Act.put _ (some 92) _) _; simp only [Act.put, List.setIfInBounds_toArray, List.set_cons_zero, List.set_cons_succ]
  refine wpAnyH_take (i := 2) (v := ?_) rfl (by kernel_rfl) (by kernel_rfl) (by kernel_rfl) (fun _ _ _ h => h) (Or.inl ⟨by rfl, ?_⟩) (by assumption) ?_
  rotate_left
  ·intro w hSw; go_simp; (try with_reducible rfl)
  change wpAnyH _ _ _ _ _ _ _ (Act.put _ (some 93) _) _; simp only [Act.put, List.setIfInBounds_toArray, List.set_cons_zero, List.set_cons_succ]
  refine wpAnyH_take (i := 3) (v := undef) rfl (by kernel_rfl) (by kernel_rfl) (by kernel_rfl) (fun _ _ _ h => h) (Or.inr ⟨by rfl, rfl⟩) (by assumption) ?_
  change wpAnyH _ _ _ _ _ _ _ (Act.put _ (some 94) _) _; simp only [Act.put, List.setIfInBounds_toArray, List.set_cons_zero, List.set_cons_succ]
  refine wpAnyH_take (i := 4) (v := undef) rfl (by kernel_rfl) (by kernel_rfl) (by kernel_rfl) (fun _ _ _ h => h) (Or.inr ⟨by rfl, rfl⟩) (by assumption) ?_
  change wpAnyH _ _ _ _ _ _ _ (Act.put _ (some 95) _) _; simp only [Act.put, List.setIfInBounds_toArray, List.set_cons_zero, List.set_cons_succ]
  refine wpAnyH_take (i := 5) (v := undef) rfl (by kernel_rfl) (by kernel_rfl) (by kernel_rfl) (fun _ _ _ h => h) (Or.inr ⟨by rfl, rfl⟩) (by assumption) ?_
  change wpAnyH _ _ _ _ _ _ _ (Act.put _ (some 96) _) _; simp only [Act.put, List.setIfInBounds_toArray, List.set_cons_zero, List.set_cons_succ]
  refine wpAnyH_take (i := 6) (v := undef) rfl (by kernel_rfl) (by kernel_rfl) (by kernel_rfl) (fun _ _ _ h => h) (Or.inr ⟨by rfl, rfl⟩) (by assumption) ?_
  change wpAnyH _ _ _ _ _ _ _ (Act.put _ (some 97) _) _; simp only [Act.put, List.setIfInBounds_toArray, List.set_cons_zero, List.set_cons_succ]
  refine wpAnyH_take (i := 7) (v := undef) rfl (by kernel_rfl) (by kernel_rfl) (by kernel_rfl) (fun _ _ _ h => h) (Or.inr ⟨by rfl, rfl⟩) (by assumption) ?_
  change wpAnyH _ _ _ _ _ _ _ (Act.put _ (some 98) _) _; simp only [Act.put, List.setIfInBounds_toArray, List.set_cons_zero, List.set_cons_succ]
  refine wpAnyH_take (i := 8) (v := undef) rfl (by kernel_rfl) (by kernel_rfl) (by kernel_rfl) (fun _ _ _ h => h) (Or.inr ⟨by rfl, rfl⟩) (by assumption) ?_
  change wpAnyH _ _ _ _ _ _ _ (Act.put _ (some 99) _) _; simp only [Act.put, List.setIfInBounds_toArray, List.set_cons_zero, List.set_cons_succ]
  refine wpAnyH_take (i := 9) (v := undef) rfl (by kernel_rfl) (by kernel_rfl) (by kernel_rfl) (fun _ _ _ h => h) (Or.inr ⟨by rfl, rfl⟩) (by assumption) ?_
  change wpAnyH _ _ _ _ _ _ _ (Act.put _ (some 100) _) _; simp only [Act.put, List.setIfInBounds_toArray, List.set_cons_zero, List.set_cons_succ]
  refine wpAnyH_take (i := 10) (v := undef) rfl (by kernel_rfl) (by kernel_rfl) (by kernel_rfl) (fun _ _ _ h => h) (Or.inr ⟨by rfl, rfl⟩) (by assumption) ?_
  change wpAnyH _ _ _ _ _ _ _ (Act.put _ (some 101) _) _; simp only [Act.put, List.setIfInBounds_toArray, List.set_cons_zero, List.set_cons_succ]
  refine wpAnyH_take (i := 11) (v := undef) rfl (by kernel_rfl) (by kernel_rfl) (by kernel_rfl) (fun _ _ _ h => h) (Or.inr ⟨by rfl, rfl⟩) (by assumption) ?_
  change wpAnyH _ _ _ _ _ _ _ (Act.put _ (some 102) _) _; simp only [Act.put, List.setIfInBounds_toArray, List.set_cons_zero, List.set_cons_succ]
  refine wpAnyH_take (i := 12) (v := undef) rfl (by kernel_rfl) (by kernel_rfl) (by kernel_rfl) (fun _ _ _ h => h) (Or.inr ⟨by rfl, rfl⟩) (by assumption) ?_
  change wpAnyH _ _ _ _ _ _ _ (Act.put _ (some 103) _) _; simp only [Act.put, List.setIfInBounds_toArray, List.set_cons_zero, List.set_cons_succ]
  refine wpAnyH_take (i := 13) (v := undef) rfl (by kernel_rfl) (by kernel_rfl) (by kernel_rfl) (fun _ _ _ h => h) (Or.inr ⟨by rfl, rfl⟩) (by assumption) ?_
  change wpAnyH _ _ _ _ _ _ _ (Act.put _ (some 104) _) _; simp only [Act.put, List.setIfInBounds_toArray, List.set_cons_zero, List.set_cons_succ]
  refine wpAnyH_take (i := 14) (v := undef) rfl (by kernel_rfl) (by kernel_rfl) (by kernel_rfl) (fun _ _ _ h => h) (Or.inr ⟨by rfl, rfl⟩) (by assumption) ?_
  change wpAnyH _ _ _ _ _ _ _ (Act.put _ (some 105) _) _; simp only [Act.put, List.setIfInBounds_toArray, List.set_cons_zero, List.set_cons_succ]
  refine wpAnyH_take (i := 15) (v := undef) rfl (by kernel_rfl) (by kernel_rfl) (by kernel_rfl) (fun _ _ _ h => h) (Or.inr ⟨by rfl, rfl⟩) (by assumption) ?_
  change wpAnyH _ _ _ _ _ _ _ (Act.put _ (some 106) _) _; simp only [Act.put, List.setIfInBounds_toArray, List.set_cons_zero, List.set_cons_succ]
  refine wpAnyH_take (i := 16) (v := undef) rfl (by kernel_rfl) (by kernel_rfl) (by kernel_rfl) (fun _ _ _ h => h) (Or.inr ⟨by rfl, rfl⟩) (by assumption) ?_
  change wpAnyH _ _ _ _ _ _ _ (Act.put _ (some 107) _) _; simp only [Act.put, List.setIfInBounds_toArray, List.set_cons_zero, List.set_cons_succ]
  refine wpAnyH_take (i := 17) (v := ?_) rfl (by kernel_rfl) (by kernel_rfl) (by kernel_rfl) (fun _ _ _ h => h) (Or.inl ⟨by rfl, ?_⟩) (by assumption) ?_
  rotate_left
  ·intro w hSw; go_simp; (try with_reducible rfl)
  change wpAnyH _ _ _ _ _ _ _ (Act.put _ (some 108) _) _; simp only [Act.put, List.setIfInBounds_toArray, List.set_cons_zero, List.set_cons_succ]
  refine wpAnyH_take (i := 18) (v := ?_) rfl (by kernel_rfl) (by kernel_rfl) (by kernel_rfl) (fun _ _ _ h => h) (Or.inl ⟨by rfl, ?_⟩) (by assumption) ?_
  rotate_left
  ·intro w hSw; go_simp; (try with_reducible rfl)
  change wpAnyH _ _ _ _ _ _ _ (Act.put _ (some 109) _) _; simp only [Act.put, List.setIfInBounds_toArray, List.set_cons_zero, List.set_cons_succ]
  refine wpAnyH_take (i := 19) (v := undef) rfl (by kernel_rfl) (by kernel_rfl) (by kernel_rfl) (fun _ _ _ h => h) (Or.inr ⟨by rfl, rfl⟩) (by assumption) ?_
  change wpAnyH _ _ _ _ _ _ _ (Act.put _ (some 110) _) _; simp only [Act.put, List.setIfInBounds_toArray, List.set_cons_zero, List.set_cons_succ]
  refine wpAnyH_take (i := 20) (v := undef) rfl (by kernel_rfl) (by kernel_rfl) (by kernel_rfl) (fun _ _ _ h => h) (Or.inr ⟨by rfl, rfl⟩) (by assumption) ?_
  change wpAnyH _ _ _ _ _ _ _ (Act.put _ (some 111) _) _; simp only [Act.put, List.setIfInBounds_toArray, List.set_cons_zero, List.set_cons_succ]
  refine wpAnyH_take (i := 21) (v := undef) rfl (by kernel_rfl) (by kernel_rfl) (by kernel_rfl) (fun _ _ _ h => h) (Or.inr ⟨by rfl, rfl⟩) (by assumption) ?_
  change wpAnyH _ _ _ _ _ _ _ (Act.put _ (some 112) _) _; simp only [Act.put, List.setIfInBounds_toArray, List.set_cons_zero, List.set_cons_succ]
  refine wpAnyH_take (i := 22) (v := undef) rfl (by kernel_rfl) (by kernel_rfl) (by kernel_rfl) (fun _ _ _ h => h) (Or.inr ⟨by rfl, rfl⟩) (by assumption) ?_
  change wpAnyH _ _ _ _ _ _ _ (Act.put _ (some 113) _) _; simp only [Act.put, List.setIfInBounds_toArray, List.set_cons_zero, List.set_cons_succ]
  refine wpAnyH_take (i := 23) (v := undef) rfl (by kernel_rfl) (by kernel_rfl) (by kernel_rfl) (fun _ _ _ h => h) (Or.inr ⟨by rfl, rfl⟩) (by assumption) ?_
  change wpAnyH _ _ _ _ _ _ _ (Act.put _ (some 114) _) _; simp only [Act.put, List.setIfInBounds_toArray, List.set_cons_zero, List.set_cons_succ]
  refine wpAnyH_take (i := 24) (v := undef) rfl (by kernel_rfl) (by kernel_rfl) (by kernel_rfl) (fun _ _ _ h => h) (Or.inr ⟨by rfl, rfl⟩) (by assumption) ?_
  change wpAnyH _ _ _ _ _ _ _ (Act.put _ (some 115) _) _; simp only [Act.put, List.setIfInBounds_toArray, List.set_cons_zero, List.set_cons_succ]
  refine wpAnyH_take (i := 25) (v := undef) rfl (by kernel_rfl) (by kernel_rfl) (by kernel_rfl) (fun _ _ _ h => h) (Or.inr ⟨by rfl, rfl⟩) (by assumption) ?_
  change wpAnyH _ _ _ _ _ _ _ (Act.put _ (some 116) _) _; simp only [Act.put, List.setIfInBounds_toArray, List.set_cons_zero, List.set_cons_succ]
  refine wpAnyH_take (i := 26) (v := undef) rfl (by kernel_rfl) (by kernel_rfl) (by kernel_rfl) (fun _ _ _ h => h) (Or.inr ⟨by rfl, rfl⟩) (by assumption) ?_
  change wpAnyH _ _ _ _ _ _ _ (Act.put _ (some 117) _) _; simp only [Act.put, List.setIfInBounds_toArray, List.set_cons_zero, List.set_cons_succ]
  refine wpAnyH_take (i := 27) (v := undef) rfl (by kernel_rfl) (by kernel_rfl) (by kernel_rfl) (fun _ _ _ h => h) (Or.inr ⟨by rfl, rfl⟩) (by assumption) ?_
  change wpAnyH _ _ _ _ _ _ _ (Act.put _ (some 118) _) _; simp only [Act.put, List.setIfInBounds_toArray, List.set_cons_zero, List.set_cons_succ]
  refine wpAnyH_take (i := 28) (v := ?_) rfl (by kernel_rfl) (by kernel_rfl) (by kernel_rfl) (fun _ _ _ h => h) (Or.inl ⟨by rfl, ?_⟩) (by assumption) ?_
  rotate_left
  ·intro w hSw; go_simp; (try with_reducible rfl)
  change wpAnyH _ _ _ _ _ _ _ (Act.put _ (some 119) _) _; simp only [Act.put, List.setIfInBounds_toArray, List.set_cons_zero, List.set_cons_succ]
  refine wpAnyH_done (by kernel_rfl) ?_ _
  have hKW : Below w3.heap.size w3 (World.drew wA) := HKA.out.drew
  have hrA : CdW (World.drew wA) cb s p (c + 1) 0 (-1) := H3.out.1.kept (hKW.block cb H3.out.1.lt)
  have hbA : But w.heap.size cb w (World.drew wA) := H3.out.2.1.trans (to_but (hKW.mono (by omega)))
  have zA : w.heap.size + 1 ≤ (World.drew wA).heap.size := Nat.le_trans z3 hKW.size
  have eA := (hKW.block w.heap.size (by omega)).trans H3.out.2.2.1
  have cF := rfail_yes cb p (c + 1) 3 s (World.drew wA) hrA (H3.out.2.2.2.but hbA hcf) 
  have H4 : Hid (But w.heap.size cb w (World.drew wA) ∧ (World.drew wA).heap[w.heap.size]? = some (.cells #[.int .i64 0, .string ⟨#[]⟩, .slice none 0 0] 86 (0, 0))) := ⟨hbA, eA⟩
  clear hKW hrA hbA eA H3 KH HKA k0 k1 HNUM
  go_wp2_with fail
  refine cF.mono ?_
  rintro e w7 ⟨rfl, hr7, hb9⟩
  have hb7 := H4.out.1.trans (hb9.less (by omega))
  have e7 := (hb9.block w.heap.size (by omega) (by omega)).trans H4.out.2
  clear cF hb9 H4
  have hcz := hcb
  obtain ⟨⟨s0, s1, s2⟩, ⟨sf0, sf1, sf2⟩, u0, u1, u2⟩ := three_facts e7 (.int .i64 0) (.string ⟨#[]⟩) (.slice none 0 0)
  have HD : Hid (OutRA w cb s (.bad 3 p) (.returned (.agg #[.int .i64 0, .string ⟨#[]⟩, (.slice none 0 0)])) _) := rarg_done hcz (Agw.nil w7 _) hr7 hb7 ⟨rfl, rfl, by decide⟩
  clear hr7 hb7 e7 hcz
  go_wp2_with fail
  exact bodyPost_ret (v := .agg #[.int .i64 0, .string ⟨#[]⟩, (.slice none 0 0)]) (by simp [results, Tryz.results35, go_sem, u0, u1, u2]) rfl HD.out
 ·obtain ⟨e1, rfl⟩ : ∃ e1 : Nat, E = ((e1 + 1 : Nat) : Int) := ⟨E.toNat - 1, by omega⟩
  have HCY := counted_yes (c := c + 1) HEI.out
  have hen : p + (e1 + 1) < s.size := by
   have := (List.getElem?_eq_some_iff.1 (Lib.indexByte_some HEI.out).1).1
   rw [List.length_drop, wsize] at this
   omega
  obtain ⟨P1, hP1⟩ : ∃ n : Nat, n = p + 1 := ⟨_, rfl⟩
  obtain ⟨E1, hE1⟩ : ∃ n : Nat, n = e1 + 1 := ⟨_, rfl⟩
  obtain ⟨PE, hPE⟩ : ∃ n : Nat, n = p + E1 := ⟨_, rfl⟩
  obtain ⟨PH, hPH⟩ : ∃ n : Nat, n = PE + 1 := ⟨_, rfl⟩
  obtain ⟨FR, hFR⟩ : ∃ n : Nat, n = PE + 3 := ⟨_, rfl⟩
  have hdl : (s.extract P1 PE).data.toList = (s.data.toList.drop (p + 1)).take e1 := by rw [Lib.extract_data, hP1, hPE, hE1, show p + (e1 + 1) - (p + 1) = e1 by omega]
  obtain ⟨D, hD⟩ : ∃ D, s.extract P1 PE = D := ⟨_, rfl⟩
  rw [hD] at hdl
  have hds : D.size ≤ 1000000 := by rw [← wsize, hdl, List.length_take, List.length_drop, wsize]; omega
  have hhl : (s.extract PH s.size).data.toList = s.data.toList.drop (p + e1 + 2) := by rw [Lib.extract_to_end, hPH, hPE, hE1, show p + (e1 + 1) + 1 = p + e1 + 2 by omega]
  obtain ⟨H, hH⟩ : ∃ H, s.extract PH s.size = H := ⟨_, rfl⟩
  rw [hH] at hhl
  rw [← hdl] at HCY
  have cN0 := fun W h => ref_num D 4611686018427387904 W hds h
  have cP0 := fun W => Tryz.strings_HasPrefix H ⟨#[13, 10]⟩ W
  rw [hhl] at cP0
  have hpx : Lib.hasPrefix (s.data.toList.drop (p + e1 + 2)) (⟨#[13, 10]⟩ : ByteArray).data.toList = ([13, 10] : Tx).isPrefixOf (s.data.toList.drop (p + e1 + 2)) := rfl
  rw [hpx] at cP0
  obtain ⟨PX, hPX⟩ : ∃ b, ([13, 10] : Tx).isPrefixOf (s.data.toList.drop (p + e1 + 2)) = b := ⟨_, rfl⟩
  rw [hPX] at cP0 HCY
  rw [HR.out] at HCY
  have w1 : IntKind.i64.wrap ((p : Int) + 1) = (P1 : Int) := by rw [IntKind.wrap_i64]; omega
  have w2 : IntKind.i64.wrap ((p : Int) + (E1 : Int)) = (PE : Int) := by rw [IntKind.wrap_i64]; omega
  have w3' : IntKind.i64.wrap ((PE : Int) + 1) = (PH : Int) := by rw [IntKind.wrap_i64]; omega
  have i1 : (0 : Int) ≤ (P1 : Int) := by omega
  have i2 : (P1 : Int) ≤ (PE : Int) := by omega
  have i3 : (PE : Int) ≤ (s.size : Int) := by omega
  have i4 : (0 : Int) ≤ (PH : Int) := by omega
  have i5 : (PH : Int) ≤ (s.size : Int) := by omega
  have i6 : (P1 : Nat) ≤ PE := by omega
  have i7 : PE ≤ s.size := by omega
  have i8 : PH ≤ s.size := by omega
  have g1 : decide ((0 : Int) < (E1 : Int)) = true := decide_eq_true (by omega)
  have g2 : 0 < E1 := by omega
  rw [show (((e1 + 1 : Nat)) : Int) = (E1 : Int) by rw [hE1]]
  have cN : ∀ W, Below w3.heap.size w3 W → Calls Tryz.prog 56 #[.string D, .int .i64 4611686018427387904] W fun e w' => e = .returned (.tuple #[.int .i64 (numB D.data.toList 4611686018427387904).1, .bool (numB D.data.toList 4611686018427387904).2]) ∧ Below w3.heap.size w3 w' := fun W hW => (cN0 W (HNUM.out W (H3.out.2.1.trans (to_but (hW.mono (by omega)))))).mono fun e w' h => ⟨h.1, hW.trans (h.2.mono hW.size)⟩
  obtain ⟨⟨ZZ, IS⟩, hZI⟩ : ∃ q, numB D.data.toList 4611686018427387904 = q := ⟨_, rfl⟩
  rw [hZI] at cN
  obtain ⟨k0, k1⟩ := KH.out _ HKA.out
  have hl3 : FR = p + e1 + 4 := by omega
  have HCY2 : Hid (match numW D.data.toList with
    | none => IS = false ∧ R = .bad 3 p
    | some n => IS = true ∧ ZZ = (n : Int) ∧ R = if PX = true ∧ n + (p + e1 + 4) ≤ s.size then .ok ((s.data.toList.drop (p + e1 + 4)).take n) (p + e1 + 4 + n) (c + 1) else .bad 3 p) := by
   show (match numW D.data.toList with
    | none => IS = false ∧ R = .bad 3 p
    | some n => IS = true ∧ ZZ = (n : Int) ∧ R = if PX = true ∧ n + (p + e1 + 4) ≤ s.size then .ok ((s.data.toList.drop (p + e1 + 4)).take n) (p + e1 + 4 + n) (c + 1) else .bad 3 p)
   cases hn : numW D.data.toList with
   | none =>
    have h1 := numB_none hn
    rw [hZI] at h1
    rw [hn] at HCY
    exact ⟨h1, HCY⟩
   | some n =>
    have h1 := numB_some hn
    rw [hZI] at h1
    rw [hn, wsize] at HCY
    exact ⟨h1.2, h1.1, HCY⟩
  have HEQ : Hid (P1 = p + 1 ∧ E1 = e1 + 1 ∧ PE = p + E1 ∧ PH = PE + 1 ∧ FR = PE + 3 ∧ FR = p + e1 + 4 ∧ p + (e1 + 1) < s.size) := ⟨hP1, hE1, hPE, hPH, hFR, hl3, hen⟩
  clear hP1 hE1 hPE hPH hFR hl3 hen
  clear cN0 hhl hdl hds hpx hPX HCY HR HEI HNUM hge hE0 hneg hZI
  go_upto_region 14 with fail
  first
   | (go_region_held3 (fun W => W.cell? ⟨cb, 0, none⟩ = some (.string s) ∧ W.cell? ⟨cb, 1, none⟩ = some (.int .i64 (p : Int)))
     ((refine KH.out _ ?_; (repeat (first | (with_reducible assumption) | (with_reducible exact HKA.out) | (with_reducible refine Below.drew ?_) | (with_reducible exact Below.refl _ _)))))
     (first | (go_at_call 56; with_reducible refine (cN _ ?_).mono ?_; (focus (repeat (first | (with_reducible assumption) | (with_reducible exact HKA.out) | (with_reducible refine Below.drew ?_) | (with_reducible exact Below.refl _ _)))); rintro e wB ⟨rfl, kB⟩)))
   | fail
  all_goals
   have HKB : Hid (Below w3.heap.size w3 wB) := kB
   clear kB cN HKA k0 k1
  obtain ⟨k0, k1⟩ := KH.out _ HKB.out
  cases hq : numW D.data.toList with
  | none =>
   have h := HCY2.out
   rw [hq] at h
   obtain ⟨hIS, hRR⟩ := h
   subst hIS
   subst hRR
   clear HCY2 hq cP0
   go_upto_region 16 with fail
   refine wp_region_held_drew (S := (fun W => W.cell? ⟨cb, 0, none⟩ = some (.string s) ∧ W.cell? ⟨cb, 1, none⟩ = some (.int .i64 (p : Int)))) (by kernel_rfl) ?_ (fun hHeld => ?_)
   ·exact KH.out _ HKB.out.drew
   refine wpAnyH_take (i := 0) (v := ?_) rfl (by kernel_rfl) (by kernel_rfl) (by kernel_rfl) (fun _ _ _ h => h) (Or.inl ⟨by rfl, ?_⟩) (by assumption) ?_
   rotate_left
   ·intro w hSw; go_simp; (try with_reducible rfl)
   change wpAnyH _ _ _ _ _ _ _ (Act.put _ (some 91) _) _; simp only [Act.put, List.setIfInBounds_toArray, List.set_cons_zero, List.set_cons_succ]
   refine wpAnyH_take (i := 1) (v := ?_) rfl (by kernel_rfl) (by kernel_rfl) (by kernel_rfl) (fun _ _ _ h => h) (Or.inl ⟨by rfl, ?_⟩) (by assumption) ?_
   rotate_left
   ·intro w hSw; go_simp; (try with_reducible rfl)
   change wpAnyH _ _ _ _ _ _ _ (Act.put _ (some 92) _) _; simp only [Act.put, List.setIfInBounds_toArray, List.set_cons_zero, List.set_cons_succ]
   refine wpAnyH_take (i := 2) (v := ?_) rfl (by kernel_rfl) (by kernel_rfl) (by kernel_rfl) (fun _ _ _ h => h) (Or.inl ⟨by rfl, ?_⟩) (by assumption) ?_
   rotate_left
   ·intro w hSw; go_simp; (try with_reducible rfl)
   change wpAnyH _ _ _ _ _ _ _ (Act.put _ (some 93) _) _; simp only [Act.put, List.setIfInBounds_toArray, List.set_cons_zero, List.set_cons_succ]
   refine wpAnyH_take (i := 3) (v := undef) rfl (by kernel_rfl) (by kernel_rfl) (by kernel_rfl) (fun _ _ _ h => h) (Or.inr ⟨by rfl, rfl⟩) (by assumption) ?_
   change wpAnyH _ _ _ _ _ _ _ (Act.put _ (some 94) _) _; simp only [Act.put, List.setIfInBounds_toArray, List.set_cons_zero, List.set_cons_succ]
   refine wpAnyH_take (i := 4) (v := undef) rfl (by kernel_rfl) (by kernel_rfl) (by kernel_rfl) (fun _ _ _ h => h) (Or.inr ⟨by rfl, rfl⟩) (by assumption) ?_
   change wpAnyH _ _ _ _ _ _ _ (Act.put _ (some 95) _) _; simp only [Act.put, List.setIfInBounds_toArray, List.set_cons_zero, List.set_cons_succ]
   refine wpAnyH_take (i := 5) (v := undef) rfl (by kernel_rfl) (by kernel_rfl) (by kernel_rfl) (fun _ _ _ h => h) (Or.inr ⟨by rfl, rfl⟩) (by assumption) ?_
   change wpAnyH _ _ _ _ _ _ _ (Act.put _ (some 96) _) _; simp only [Act.put, List.setIfInBounds_toArray, List.set_cons_zero, List.set_cons_succ]
   refine wpAnyH_take (i := 6) (v := undef) rfl (by kernel_rfl) (by kernel_rfl) (by kernel_rfl) (fun _ _ _ h => h) (Or.inr ⟨by rfl, rfl⟩) (by assumption) ?_
   change wpAnyH _ _ _ _ _ _ _ (Act.put _ (some 97) _) _; simp only [Act.put, List.setIfInBounds_toArray, List.set_cons_zero, List.set_cons_succ]
   refine wpAnyH_take (i := 7) (v := undef) rfl (by kernel_rfl) (by kernel_rfl) (by kernel_rfl) (fun _ _ _ h => h) (Or.inr ⟨by rfl, rfl⟩) (by assumption) ?_
   change wpAnyH _ _ _ _ _ _ _ (Act.put _ (some 98) _) _; simp only [Act.put, List.setIfInBounds_toArray, List.set_cons_zero, List.set_cons_succ]
   refine wpAnyH_take (i := 8) (v := undef) rfl (by kernel_rfl) (by kernel_rfl) (by kernel_rfl) (fun _ _ _ h => h) (Or.inr ⟨by rfl, rfl⟩) (by assumption) ?_
   change wpAnyH _ _ _ _ _ _ _ (Act.put _ (some 99) _) _; simp only [Act.put, List.setIfInBounds_toArray, List.set_cons_zero, List.set_cons_succ]
   refine wpAnyH_take (i := 9) (v := undef) rfl (by kernel_rfl) (by kernel_rfl) (by kernel_rfl) (fun _ _ _ h => h) (Or.inr ⟨by rfl, rfl⟩) (by assumption) ?_
   change wpAnyH _ _ _ _ _ _ _ (Act.put _ (some 100) _) _; simp only [Act.put, List.setIfInBounds_toArray, List.set_cons_zero, List.set_cons_succ]
   refine wpAnyH_take (i := 10) (v := undef) rfl (by kernel_rfl) (by kernel_rfl) (by kernel_rfl) (fun _ _ _ h => h) (Or.inr ⟨by rfl, rfl⟩) (by assumption) ?_
   change wpAnyH _ _ _ _ _ _ _ (Act.put _ (some 101) _) _; simp only [Act.put, List.setIfInBounds_toArray, List.set_cons_zero, List.set_cons_succ]
   refine wpAnyH_take (i := 11) (v := undef) rfl (by kernel_rfl) (by kernel_rfl) (by kernel_rfl) (fun _ _ _ h => h) (Or.inr ⟨by rfl, rfl⟩) (by assumption) ?_
   change wpAnyH _ _ _ _ _ _ _ (Act.put _ (some 102) _) _; simp only [Act.put, List.setIfInBounds_toArray, List.set_cons_zero, List.set_cons_succ]
   refine wpAnyH_take (i := 12) (v := undef) rfl (by kernel_rfl) (by kernel_rfl) (by kernel_rfl) (fun _ _ _ h => h) (Or.inr ⟨by rfl, rfl⟩) (by assumption) ?_
   change wpAnyH _ _ _ _ _ _ _ (Act.put _ (some 103) _) _; simp only [Act.put, List.setIfInBounds_toArray, List.set_cons_zero, List.set_cons_succ]
   refine wpAnyH_take (i := 13) (v := undef) rfl (by kernel_rfl) (by kernel_rfl) (by kernel_rfl) (fun _ _ _ h => h) (Or.inr ⟨by rfl, rfl⟩) (by assumption) ?_
   change wpAnyH _ _ _ _ _ _ _ (Act.put _ (some 104) _) _; simp only [Act.put, List.setIfInBounds_toArray, List.set_cons_zero, List.set_cons_succ]
   refine wpAnyH_take (i := 14) (v := undef) rfl (by kernel_rfl) (by kernel_rfl) (by kernel_rfl) (fun _ _ _ h => h) (Or.inr ⟨by rfl, rfl⟩) (by assumption) ?_
   change wpAnyH _ _ _ _ _ _ _ (Act.put _ (some 105) _) _; simp only [Act.put, List.setIfInBounds_toArray, List.set_cons_zero, List.set_cons_succ]
   refine wpAnyH_take (i := 15) (v := undef) rfl (by kernel_rfl) (by kernel_rfl) (by kernel_rfl) (fun _ _ _ h => h) (Or.inr ⟨by rfl, rfl⟩) (by assumption) ?_
   change wpAnyH _ _ _ _ _ _ _ (Act.put _ (some 106) _) _; simp only [Act.put, List.setIfInBounds_toArray, List.set_cons_zero, List.set_cons_succ]
   refine wpAnyH_take (i := 16) (v := undef) rfl (by kernel_rfl) (by kernel_rfl) (by kernel_rfl) (fun _ _ _ h => h) (Or.inr ⟨by rfl, rfl⟩) (by assumption) ?_
   change wpAnyH _ _ _ _ _ _ _ (Act.put _ (some 107) _) _; simp only [Act.put, List.setIfInBounds_toArray, List.set_cons_zero, List.set_cons_succ]
   refine wpAnyH_take (i := 17) (v := ?_) rfl (by kernel_rfl) (by kernel_rfl) (by kernel_rfl) (fun _ _ _ h => h) (Or.inl ⟨by rfl, ?_⟩) (by assumption) ?_
   rotate_left
   ·intro w hSw; go_simp; (try with_reducible rfl)
   change wpAnyH _ _ _ _ _ _ _ (Act.put _ (some 108) _) _; simp only [Act.put, List.setIfInBounds_toArray, List.set_cons_zero, List.set_cons_succ]
   refine wpAnyH_take (i := 18) (v := ?_) rfl (by kernel_rfl) (by kernel_rfl) (by kernel_rfl) (fun _ _ _ h => h) (Or.inl ⟨by rfl, ?_⟩) (by assumption) ?_
   rotate_left
   ·intro w hSw; go_simp; (try with_reducible rfl)
   change wpAnyH _ _ _ _ _ _ _ (Act.put _ (some 109) _) _; simp only [Act.put, List.setIfInBounds_toArray, List.set_cons_zero, List.set_cons_succ]
   refine wpAnyH_take (i := 19) (v := undef) rfl (by kernel_rfl) (by kernel_rfl) (by kernel_rfl) (fun _ _ _ h => h) (Or.inr ⟨by rfl, rfl⟩) (by assumption) ?_
   change wpAnyH _ _ _ _ _ _ _ (Act.put _ (some 110) _) _; simp only [Act.put, List.setIfInBounds_toArray, List.set_cons_zero, List.set_cons_succ]
   refine wpAnyH_take (i := 20) (v := undef) rfl (by kernel_rfl) (by kernel_rfl) (by kernel_rfl) (fun _ _ _ h => h) (Or.inr ⟨by rfl, rfl⟩) (by assumption) ?_
   change wpAnyH _ _ _ _ _ _ _ (Act.put _ (some 111) _) _; simp only [Act.put, List.setIfInBounds_toArray, List.set_cons_zero, List.set_cons_succ]
   refine wpAnyH_take (i := 21) (v := undef) rfl (by kernel_rfl) (by kernel_rfl) (by kernel_rfl) (fun _ _ _ h => h) (Or.inr ⟨by rfl, rfl⟩) (by assumption) ?_
   change wpAnyH _ _ _ _ _ _ _ (Act.put _ (some 112) _) _; simp only [Act.put, List.setIfInBounds_toArray, List.set_cons_zero, List.set_cons_succ]
   refine wpAnyH_take (i := 22) (v := undef) rfl (by kernel_rfl) (by kernel_rfl) (by kernel_rfl) (fun _ _ _ h => h) (Or.inr ⟨by rfl, rfl⟩) (by assumption) ?_
   change wpAnyH _ _ _ _ _ _ _ (Act.put _ (some 113) _) _; simp only [Act.put, List.setIfInBounds_toArray, List.set_cons_zero, List.set_cons_succ]
   refine wpAnyH_take (i := 23) (v := undef) rfl (by kernel_rfl) (by kernel_rfl) (by kernel_rfl) (fun _ _ _ h => h) (Or.inr ⟨by rfl, rfl⟩) (by assumption) ?_
   change wpAnyH _ _ _ _ _ _ _ (Act.put _ (some 114) _) _; simp only [Act.put, List.setIfInBounds_toArray, List.set_cons_zero, List.set_cons_succ]
   refine wpAnyH_take (i := 24) (v := undef) rfl (by kernel_rfl) (by kernel_rfl) (by kernel_rfl) (fun _ _ _ h => h) (Or.inr ⟨by rfl, rfl⟩) (by assumption) ?_
   change wpAnyH _ _ _ _ _ _ _ (Act.put _ (some 115) _) _; simp only [Act.put, List.setIfInBounds_toArray, List.set_cons_zero, List.set_cons_succ]
   refine wpAnyH_take (i := 25) (v := undef) rfl (by kernel_rfl) (by kernel_rfl) (by kernel_rfl) (fun _ _ _ h => h) (Or.inr ⟨by rfl, rfl⟩) (by assumption) ?_
   change wpAnyH _ _ _ _ _ _ _ (Act.put _ (some 116) _) _; simp only [Act.put, List.setIfInBounds_toArray, List.set_cons_zero, List.set_cons_succ]
   refine wpAnyH_take (i := 26) (v := undef) rfl (by kernel_rfl) (by kernel_rfl) (by kernel_rfl) (fun _ _ _ h => h) (Or.inr ⟨by rfl, rfl⟩) (by assumption) ?_
   change wpAnyH _ _ _ _ _ _ _ (Act.put _ (some 117) _) _; simp only [Act.put, List.setIfInBounds_toArray, List.set_cons_zero, List.set_cons_succ]
   refine wpAnyH_take (i := 27) (v := undef) rfl (by kernel_rfl) (by kernel_rfl) (by kernel_rfl) (fun _ _ _ h => h) (Or.inr ⟨by rfl, rfl⟩) (by assumption) ?_
   change wpAnyH _ _ _ _ _ _ _ (Act.put _ (some 118) _) _; simp only [Act.put, List.setIfInBounds_toArray, List.set_cons_zero, List.set_cons_succ]
   refine wpAnyH_take (i := 28) (v := ?_) rfl (by kernel_rfl) (by kernel_rfl) (by kernel_rfl) (fun _ _ _ h => h) (Or.inl ⟨by rfl, ?_⟩) (by assumption) ?_
   rotate_left
   ·intro w hSw; go_simp; (try with_reducible rfl)
   change wpAnyH _ _ _ _ _ _ _ (Act.put _ (some 119) _) _; simp only [Act.put, List.setIfInBounds_toArray, List.set_cons_zero, List.set_cons_succ]
   refine wpAnyH_done (by kernel_rfl) ?_ _
   have hKW : Below w3.heap.size w3 (World.drew wB) := HKB.out.drew
   have hrA : CdW (World.drew wB) cb s p (c + 1) 0 (-1) := H3.out.1.kept (hKW.block cb H3.out.1.lt)
   have hbA : But w.heap.size cb w (World.drew wB) := H3.out.2.1.trans (to_but (hKW.mono (by omega)))
   have zA : w.heap.size + 1 ≤ (World.drew wB).heap.size := Nat.le_trans z3 hKW.size
   have eA := (hKW.block w.heap.size (by omega)).trans H3.out.2.2.1
   have cF := rfail_yes cb p (c + 1) 3 s (World.drew wB) hrA (H3.out.2.2.2.but hbA hcf) 
   have H4 : Hid (But w.heap.size cb w (World.drew wB) ∧ (World.drew wB).heap[w.heap.size]? = some (.cells #[.int .i64 0, .string ⟨#[]⟩, .slice none 0 0] 86 (0, 0))) := ⟨hbA, eA⟩
   clear hKW hrA hbA eA H3 KH HKB k0 k1
   go_wp2_with fail
   refine cF.mono ?_
   rintro e w7 ⟨rfl, hr7, hb9⟩
   have hb7 := H4.out.1.trans (hb9.less (by omega))
   have e7 := (hb9.block w.heap.size (by omega) (by omega)).trans H4.out.2
   clear cF hb9 H4
   have hcz := hcb
   obtain ⟨⟨s0, s1, s2⟩, ⟨sf0, sf1, sf2⟩, u0, u1, u2⟩ := three_facts e7 (.int .i64 0) (.string ⟨#[]⟩) (.slice none 0 0)
   have HD : Hid (OutRA w cb s (.bad 3 p) (.returned (.agg #[.int .i64 0, .string ⟨#[]⟩, (.slice none 0 0)])) _) := rarg_done hcz (Agw.nil w7 _) hr7 hb7 ⟨rfl, rfl, by decide⟩
   clear hr7 hb7 e7 hcz
   go_wp2_with fail
   exact bodyPost_ret (v := .agg #[.int .i64 0, .string ⟨#[]⟩, (.slice none 0 0)]) (by simp [results, Tryz.results35, go_sem, u0, u1, u2]) rfl HD.out
  | some n =>
   have h := HCY2.out
   rw [hq] at h
   obtain ⟨hIS, hZZ, hRR⟩ := h
   subst hIS
   subst hZZ
   have hnle := numW_le hq
   have cP : ∀ W, Below w3.heap.size w3 W → Calls Tryz.prog 57 #[.string H, .string ⟨#[13, 10]⟩] W fun e w' => e = .returned (.bool PX) ∧ Below w3.heap.size w3 w' := fun W hW => (cP0 W).mono fun e w' h => ⟨h.1, by rw [h.2]; exact hW⟩
   clear HCY2 hq cP0
   cases PX with
   | false =>
    rw [if_neg (by simp)] at hRR
    subst hRR
    go_upto_region 16 with fail
    refine wp_region_held_drew (S := (fun W => W.cell? ⟨cb, 0, none⟩ = some (.string s) ∧ W.cell? ⟨cb, 1, none⟩ = some (.int .i64 (p : Int)))) (by kernel_rfl) ?_ (fun hHeld => ?_)
    ·refine KH.out _ ?_; (first | exact kC | exact HKB.out.drew)
    refine wpAnyH_take (i := 0) (v := ?_) rfl (by kernel_rfl) (by kernel_rfl) (by kernel_rfl) (fun _ _ _ h => h) (Or.inl ⟨by rfl, ?_⟩) (by assumption) ?_
    rotate_left
    ·intro w hSw; go_simp; (try with_reducible rfl)
    change wpAnyH _ _ _ _ _ _ _ (Act.put _ (some 91) _) _; simp only [Act.put, List.setIfInBounds_toArray, List.set_cons_zero, List.set_cons_succ]
    refine wpAnyH_take (i := 1) (v := ?_) rfl (by kernel_rfl) (by kernel_rfl) (by kernel_rfl) (fun _ _ _ h => h) (Or.inl ⟨by rfl, ?_⟩) (by assumption) ?_
    rotate_left
    ·intro w hSw; go_simp; (try with_reducible rfl)
    change wpAnyH _ _ _ _ _ _ _ (Act.put _ (some 92) _) _; simp only [Act.put, List.setIfInBounds_toArray, List.set_cons_zero, List.set_cons_succ]
    refine wpAnyH_take (i := 2) (v := ?_) rfl (by kernel_rfl) (by kernel_rfl) (by kernel_rfl) (fun _ _ _ h => h) (Or.inl ⟨by rfl, ?_⟩) (by assumption) ?_
    rotate_left
    ·intro w hSw; go_simp; (try with_reducible rfl)
    change wpAnyH _ _ _ _ _ _ _ (Act.put _ (some 93) _) _; simp only [Act.put, List.setIfInBounds_toArray, List.set_cons_zero, List.set_cons_succ]
    refine wpAnyH_take (i := 3) (v := ?_) rfl (by kernel_rfl) (by kernel_rfl) (by kernel_rfl) (fun _ _ _ h => h) (Or.inl ⟨by rfl, ?_⟩) (by assumption) ?_
    rotate_left
    ·intro w hSw; go_simp; (try with_reducible rfl)
    change wpAnyH _ _ _ _ _ _ _ (Act.put _ (some 94) _) _; simp only [Act.put, List.setIfInBounds_toArray, List.set_cons_zero, List.set_cons_succ]
    refine wpAnyH_take (i := 4) (v := ?_) rfl (by kernel_rfl) (by kernel_rfl) (by kernel_rfl) (fun _ _ _ h => h) (Or.inl ⟨by rfl, ?_⟩) (by assumption) ?_
    rotate_left
    ·intro w hSw; go_simp; (try with_reducible rfl)
    change wpAnyH _ _ _ _ _ _ _ (Act.put _ (some 95) _) _; simp only [Act.put, List.setIfInBounds_toArray, List.set_cons_zero, List.set_cons_succ]
    refine wpAnyH_take (i := 5) (v := ?_) rfl (by kernel_rfl) (by kernel_rfl) (by kernel_rfl) (fun _ _ _ h => h) (Or.inl ⟨by rfl, ?_⟩) (by assumption) ?_
    rotate_left
    ·intro w hSw; go_simp; (try with_reducible rfl)
    change wpAnyH _ _ _ _ _ _ _ (Act.put _ (some 96) _) _; simp only [Act.put, List.setIfInBounds_toArray, List.set_cons_zero, List.set_cons_succ]
    refine wpAnyH_take (i := 6) (v := ?_) rfl (by kernel_rfl) (by kernel_rfl) (by kernel_rfl) (fun _ _ _ h => h) (Or.inl ⟨by rfl, ?_⟩) (by assumption) ?_
    rotate_left
    ·intro w hSw; go_simp; (try with_reducible rfl)
    change wpAnyH _ _ _ _ _ _ _ (Act.put _ (some 97) _) _; simp only [Act.put, List.setIfInBounds_toArray, List.set_cons_zero, List.set_cons_succ]
    refine wpAnyH_take (i := 7) (v := ?_) rfl (by kernel_rfl) (by kernel_rfl) (by kernel_rfl) (fun _ _ _ h => h) (Or.inl ⟨by rfl, ?_⟩) (by assumption) ?_
    rotate_left
    ·intro w hSw; go_simp; (try with_reducible rfl)
    change wpAnyH _ _ _ _ _ _ _ (Act.put _ (some 98) _) _; simp only [Act.put, List.setIfInBounds_toArray, List.set_cons_zero, List.set_cons_succ]
    refine wpAnyH_take (i := 8) (v := ?_) rfl (by kernel_rfl) (by kernel_rfl) (by kernel_rfl) (fun _ _ _ h => h) (Or.inl ⟨by rfl, ?_⟩) (by assumption) ?_
    rotate_left
    ·intro w hSw; go_simp; (try with_reducible rfl)
    change wpAnyH _ _ _ _ _ _ _ (Act.put _ (some 99) _) _; simp only [Act.put, List.setIfInBounds_toArray, List.set_cons_zero, List.set_cons_succ]
    refine wpAnyH_take (i := 9) (v := ?_) rfl (by kernel_rfl) (by kernel_rfl) (by kernel_rfl) (fun _ _ _ h => h) (Or.inl ⟨by rfl, ?_⟩) (by assumption) ?_
    rotate_left
    ·intro w hSw; go_simp; (try with_reducible rfl)
    change wpAnyH _ _ _ _ _ _ _ (Act.put _ (some 100) _) _; simp only [Act.put, List.setIfInBounds_toArray, List.set_cons_zero, List.set_cons_succ]
    refine wpAnyH_take (i := 10) (v := ?_) rfl (by kernel_rfl) (by kernel_rfl) (by kernel_rfl) (fun _ _ _ h => h) (Or.inl ⟨by rfl, ?_⟩) (by assumption) ?_
    rotate_left
    ·intro w hSw; go_simp; (try with_reducible rfl)
    change wpAnyH _ _ _ _ _ _ _ (Act.put _ (some 101) _) _; simp only [Act.put, List.setIfInBounds_toArray, List.set_cons_zero, List.set_cons_succ]
    refine wpAnyH_take (i := 11) (v := ?_) rfl (by kernel_rfl) (by kernel_rfl) (by kernel_rfl) (fun _ _ _ h => h) (Or.inl ⟨by rfl, ?_⟩) (by assumption) ?_
    rotate_left
    ·intro w hSw; go_simp; (try with_reducible rfl)
    change wpAnyH _ _ _ _ _ _ _ (Act.put _ (some 102) _) _; simp only [Act.put, List.setIfInBounds_toArray, List.set_cons_zero, List.set_cons_succ]
    refine wpAnyH_take (i := 12) (v := ?_) rfl (by kernel_rfl) (by kernel_rfl) (by kernel_rfl) (fun _ _ _ h => h) (Or.inl ⟨by rfl, ?_⟩) (by assumption) ?_
    rotate_left
    ·intro w hSw; go_simp; (try with_reducible rfl)
    change wpAnyH _ _ _ _ _ _ _ (Act.put _ (some 103) _) _; simp only [Act.put, List.setIfInBounds_toArray, List.set_cons_zero, List.set_cons_succ]
    refine wpAnyH_take (i := 13) (v := ?_) rfl (by kernel_rfl) (by kernel_rfl) (by kernel_rfl) (fun _ _ _ h => h) (Or.inl ⟨by rfl, ?_⟩) (by assumption) ?_
    rotate_left
    ·intro w hSw; go_simp; (try with_reducible rfl)
    change wpAnyH _ _ _ _ _ _ _ (Act.put _ (some 104) _) _; simp only [Act.put, List.setIfInBounds_toArray, List.set_cons_zero, List.set_cons_succ]
    refine wpAnyH_take (i := 14) (v := ?_) rfl (by kernel_rfl) (by kernel_rfl) (by kernel_rfl) (fun _ _ _ h => h) (Or.inl ⟨by rfl, ?_⟩) (by assumption) ?_
    rotate_left
    ·intro w hSw; go_simp; (try with_reducible rfl)
    change wpAnyH _ _ _ _ _ _ _ (Act.put _ (some 105) _) _; simp only [Act.put, List.setIfInBounds_toArray, List.set_cons_zero, List.set_cons_succ]
    refine wpAnyH_ready (rs := [15]) (by kernel_rfl) (by simp) ?_
    refine AllReadyH.cons rfl (fun K hK => ?_) AllReadyH.nil
    go_simp
    refine (cP _ HKB.out.drew).mono ?_
    rintro e wC ⟨rfl, kC⟩
    refine hK.out _ _ ?_ (fun hHeld => ?_)
    ·refine KH.out _ ?_; (first | exact kC | exact HKB.out.drew)
    clear hK K
    refine wpAnyH_take (i := 16) (v := ?_) rfl (by kernel_rfl) (by kernel_rfl) (by kernel_rfl) (fun _ _ _ h => h) (Or.inl ⟨by rfl, ?_⟩) (by assumption) ?_
    rotate_left
    ·intro w hSw; go_simp; (try with_reducible rfl)
    change wpAnyH _ _ _ _ _ _ _ (Act.put _ (some 107) _) _; simp only [Act.put, List.setIfInBounds_toArray, List.set_cons_zero, List.set_cons_succ]
    refine wpAnyH_take (i := 17) (v := ?_) rfl (by kernel_rfl) (by kernel_rfl) (by kernel_rfl) (fun _ _ _ h => h) (Or.inl ⟨by rfl, ?_⟩) (by assumption) ?_
    rotate_left
    ·intro w hSw; go_simp; (try with_reducible rfl)
    change wpAnyH _ _ _ _ _ _ _ (Act.put _ (some 108) _) _; simp only [Act.put, List.setIfInBounds_toArray, List.set_cons_zero, List.set_cons_succ]
    refine wpAnyH_take (i := 18) (v := ?_) rfl (by kernel_rfl) (by kernel_rfl) (by kernel_rfl) (fun _ _ _ h => h) (Or.inl ⟨by rfl, ?_⟩) (by assumption) ?_
    rotate_left
    ·intro w hSw; go_simp; (try with_reducible rfl)
    change wpAnyH _ _ _ _ _ _ _ (Act.put _ (some 109) _) _; simp only [Act.put, List.setIfInBounds_toArray, List.set_cons_zero, List.set_cons_succ]
    refine wpAnyH_take (i := 19) (v := undef) rfl (by kernel_rfl) (by kernel_rfl) (by kernel_rfl) (fun _ _ _ h => h) (Or.inr ⟨by rfl, rfl⟩) (by assumption) ?_
    change wpAnyH _ _ _ _ _ _ _ (Act.put _ (some 110) _) _; simp only [Act.put, List.setIfInBounds_toArray, List.set_cons_zero, List.set_cons_succ]
    refine wpAnyH_take (i := 20) (v := undef) rfl (by kernel_rfl) (by kernel_rfl) (by kernel_rfl) (fun _ _ _ h => h) (Or.inr ⟨by rfl, rfl⟩) (by assumption) ?_
    change wpAnyH _ _ _ _ _ _ _ (Act.put _ (some 111) _) _; simp only [Act.put, List.setIfInBounds_toArray, List.set_cons_zero, List.set_cons_succ]
    refine wpAnyH_take (i := 21) (v := undef) rfl (by kernel_rfl) (by kernel_rfl) (by kernel_rfl) (fun _ _ _ h => h) (Or.inr ⟨by rfl, rfl⟩) (by assumption) ?_
    change wpAnyH _ _ _ _ _ _ _ (Act.put _ (some 112) _) _; simp only [Act.put, List.setIfInBounds_toArray, List.set_cons_zero, List.set_cons_succ]
    refine wpAnyH_take (i := 22) (v := undef) rfl (by kernel_rfl) (by kernel_rfl) (by kernel_rfl) (fun _ _ _ h => h) (Or.inr ⟨by rfl, rfl⟩) (by assumption) ?_
    change wpAnyH _ _ _ _ _ _ _ (Act.put _ (some 113) _) _; simp only [Act.put, List.setIfInBounds_toArray, List.set_cons_zero, List.set_cons_succ]
    refine wpAnyH_take (i := 23) (v := undef) rfl (by kernel_rfl) (by kernel_rfl) (by kernel_rfl) (fun _ _ _ h => h) (Or.inr ⟨by rfl, rfl⟩) (by assumption) ?_
    change wpAnyH _ _ _ _ _ _ _ (Act.put _ (some 114) _) _; simp only [Act.put, List.setIfInBounds_toArray, List.set_cons_zero, List.set_cons_succ]
    refine wpAnyH_take (i := 24) (v := undef) rfl (by kernel_rfl) (by kernel_rfl) (by kernel_rfl) (fun _ _ _ h => h) (Or.inr ⟨by rfl, rfl⟩) (by assumption) ?_
    change wpAnyH _ _ _ _ _ _ _ (Act.put _ (some 115) _) _; simp only [Act.put, List.setIfInBounds_toArray, List.set_cons_zero, List.set_cons_succ]
    refine wpAnyH_take (i := 25) (v := undef) rfl (by kernel_rfl) (by kernel_rfl) (by kernel_rfl) (fun _ _ _ h => h) (Or.inr ⟨by rfl, rfl⟩) (by assumption) ?_
    change wpAnyH _ _ _ _ _ _ _ (Act.put _ (some 116) _) _; simp only [Act.put, List.setIfInBounds_toArray, List.set_cons_zero, List.set_cons_succ]
    refine wpAnyH_take (i := 26) (v := undef) rfl (by kernel_rfl) (by kernel_rfl) (by kernel_rfl) (fun _ _ _ h => h) (Or.inr ⟨by rfl, rfl⟩) (by assumption) ?_
    change wpAnyH _ _ _ _ _ _ _ (Act.put _ (some 117) _) _; simp only [Act.put, List.setIfInBounds_toArray, List.set_cons_zero, List.set_cons_succ]
    refine wpAnyH_take (i := 27) (v := undef) rfl (by kernel_rfl) (by kernel_rfl) (by kernel_rfl) (fun _ _ _ h => h) (Or.inr ⟨by rfl, rfl⟩) (by assumption) ?_
    change wpAnyH _ _ _ _ _ _ _ (Act.put _ (some 118) _) _; simp only [Act.put, List.setIfInBounds_toArray, List.set_cons_zero, List.set_cons_succ]
    refine wpAnyH_take (i := 28) (v := ?_) rfl (by kernel_rfl) (by kernel_rfl) (by kernel_rfl) (fun _ _ _ h => h) (Or.inl ⟨by rfl, ?_⟩) (by assumption) ?_
    rotate_left
    ·intro w hSw; go_simp; (try with_reducible rfl)
    change wpAnyH _ _ _ _ _ _ _ (Act.put _ (some 119) _) _; simp only [Act.put, List.setIfInBounds_toArray, List.set_cons_zero, List.set_cons_succ]
    refine wpAnyH_done (by kernel_rfl) ?_ _
    have hKW : Below w3.heap.size w3 (wC) := kC
    have hrA : CdW (wC) cb s p (c + 1) 0 (-1) := H3.out.1.kept (hKW.block cb H3.out.1.lt)
    have hbA : But w.heap.size cb w (wC) := H3.out.2.1.trans (to_but (hKW.mono (by omega)))
    have zA : w.heap.size + 1 ≤ (wC).heap.size := Nat.le_trans z3 hKW.size
    have eA := (hKW.block w.heap.size (by omega)).trans H3.out.2.2.1
    have cF := rfail_yes cb p (c + 1) 3 s (wC) hrA (H3.out.2.2.2.but hbA hcf) 
    have H4 : Hid (But w.heap.size cb w (wC) ∧ (wC).heap[w.heap.size]? = some (.cells #[.int .i64 0, .string ⟨#[]⟩, .slice none 0 0] 86 (0, 0))) := ⟨hbA, eA⟩
    clear hKW hrA hbA eA H3 KH HKB kC k0 k1
    go_wp2_with fail
    refine cF.mono ?_
    rintro e w7 ⟨rfl, hr7, hb9⟩
    have hb7 := H4.out.1.trans (hb9.less (by omega))
    have e7 := (hb9.block w.heap.size (by omega) (by omega)).trans H4.out.2
    clear cF hb9 H4
    have hcz := hcb
    obtain ⟨⟨s0, s1, s2⟩, ⟨sf0, sf1, sf2⟩, u0, u1, u2⟩ := three_facts e7 (.int .i64 0) (.string ⟨#[]⟩) (.slice none 0 0)
    have HD : Hid (OutRA w cb s (.bad 3 p) (.returned (.agg #[.int .i64 0, .string ⟨#[]⟩, (.slice none 0 0)])) _) := rarg_done hcz (Agw.nil w7 _) hr7 hb7 ⟨rfl, rfl, by decide⟩
    clear hr7 hb7 e7 hcz
    go_wp2_with fail
    exact bodyPost_ret (v := .agg #[.int .i64 0, .string ⟨#[]⟩, (.slice none 0 0)]) (by simp [results, Tryz.results35, go_sem, u0, u1, u2]) rfl HD.out
   | true =>
    have r3 : (PE : Int) + 3 = (FR : Int) := by have := HEQ.out.2.2.2.2.1; omega
    obtain ⟨LF, hLF⟩ : ∃ z : Int, z = (s.size : Int) - (FR : Int) := ⟨_, rfl⟩
    have hfs : FR ≤ s.size + 2 := by have := HEQ.out; omega
    have w4 : IntKind.i64.wrap ((s.size : Int) - (FR : Int)) = LF := by rw [IntKind.wrap_i64]; omega
    have HLF : Hid (LF = (s.size : Int) - (FR : Int)) := hLF
    clear hLF
    by_cases hnn : n + (p + e1 + 4) ≤ s.size
    ·rw [if_pos ⟨rfl, hnn⟩] at hRR
     have HNN : Hid (n + (p + e1 + 4) ≤ s.size ∧ FR = p + e1 + 4) := ⟨hnn, HEQ.out.2.2.2.2.2.1⟩
     have d5 : decide (LF < (n : Int)) = false := decide_eq_false (by have := HNN.out; have := HLF.out; omega)
     obtain ⟨AT, hAT⟩ : ∃ z : Nat, z = FR + n := ⟨_, rfl⟩
     have r4 : (FR : Int) + (n : Int) = (AT : Int) := by omega
     have j1 : (0 : Int) ≤ (FR : Int) := by omega
     have j2 : (FR : Int) ≤ (AT : Int) := by omega
     have j3 : (AT : Int) ≤ (s.size : Int) := by have := HNN.out; omega
     have j4 : FR ≤ AT := by omega
     have j5 : AT ≤ s.size := by omega
     have hxl : (s.extract FR AT).data.toList = (s.data.toList.drop (p + e1 + 4)).take n := by rw [Lib.extract_data, hAT, Nat.add_sub_cancel_left, HNN.out.2]
     obtain ⟨X, hX⟩ : ∃ X, s.extract FR AT = X := ⟨_, rfl⟩
     rw [hX] at hxl
     have HOK : Hid (R = .ok X.data.toList AT (c + 1)) := by show R = _; rw [hRR, hxl, hAT, HNN.out.2]
     have hRR := HOK.out
     subst hRR
     clear hAT hxl hnn HOK
     go_upto_region 16 with fail
     first
      | (go_region_held3 (fun W => W.cell? ⟨cb, 0, none⟩ = some (.string s) ∧ W.cell? ⟨cb, 1, none⟩ = some (.int .i64 (p : Int)))
        ((refine KH.out _ ?_; (repeat (first | (with_reducible assumption) | (with_reducible exact HKB.out) | (with_reducible refine Below.drew ?_) | (with_reducible exact Below.refl _ _)))))
        (first | (go_at_call 57; with_reducible refine (cP _ ?_).mono ?_; (focus (repeat (first | (with_reducible assumption) | (with_reducible exact HKB.out) | (with_reducible refine Below.drew ?_) | (with_reducible exact Below.refl _ _)))); rintro e wC ⟨rfl, kC⟩)))
      | fail
     all_goals
      have hrC : CdW wC cb s p (c + 1) 0 (-1) := H3.out.1.kept (kC.block cb H3.out.1.lt)
      have hbC : But w.heap.size cb w wC := H3.out.2.1.trans (to_but (kC.mono (by omega)))
      have eC := (kC.block w.heap.size (by omega)).trans H3.out.2.2.1
      have p1 : wC.cell? ⟨cb, 1, none⟩ = some (.int .i64 (p : Int)) := rd_cell hrC rfl
      have f1 : wC.frozen? ⟨cb, 1, none⟩ = false := rd_free hrC 1
      have hr7 : CdW (wC.setCell ⟨cb, 1, none⟩ (.int .i64 (AT : Int))) cb s AT (c + 1) 0 (-1) := rd_set (i := 1) (.int .i64 (AT : Int)) hrC
      have hb7 : But w.heap.size cb w (wC.setCell ⟨cb, 1, none⟩ (.int .i64 (AT : Int))) := hbC.setB 1 _
      have e7 : (wC.setCell ⟨cb, 1, none⟩ (.int .i64 (AT : Int))).heap[w.heap.size]? = some (.cells #[.int .i64 0, .string ⟨#[]⟩, .slice none 0 0] 86 (0, 0)) := (Below.heap_setCell _ _ _ _ (show w.heap.size ≠ cb by omega)).trans eC
      obtain ⟨w7, hw7⟩ : ∃ W, wC.setCell ⟨cb, 1, none⟩ (.int .i64 (AT : Int)) = W := ⟨_, rfl⟩
      rw [hw7] at hr7 hb7 e7
      have c0 : w7.cell? ⟨cb, 0, none⟩ = some (.string s) := rd_cell hr7 rfl
      have c1 : w7.cell? ⟨cb, 1, none⟩ = some (.int .i64 (AT : Int)) := rd_cell hr7 rfl
      clear hrC hbC eC kC H3 KH HKB k0 k1 cP HEQ HNN HLF w1 w2 w3' w4 i1 i2 i3 i4 i5 i6 i7 i8
      obtain ⟨⟨s0, s1, s2⟩, ⟨sf0, sf1, sf2⟩, u0, u1, u2⟩ := three_facts e7 (.int .i64 2) (.string X) (.slice none 0 0)
      have hbd : But w.heap.size cb w w7.drew := hb7.trans (to_but (Below.refl _ _).drew)
      have HD : Hid (OutRA w cb s (.ok (.mk 2 X.data.toList []) AT (c + 1)) (.returned (.agg #[.int .i64 2, .string X, .slice none 0 0])) _) := rarg_done (w3 := w7.drew) hcb (Agw.nil w7.drew _) hr7 hbd ⟨rfl, rfl, rfl, rfl, rfl⟩
      clear hr7 hb7 e7 hbd
      go_wp2_with fail
      go_region
      all_goals
       go_wp2_with fail
       exact bodyPost_ret (v := .agg #[.int .i64 2, .string X, .slice none 0 0]) (by simp [results, Tryz.results35, go_sem, u0, u1, u2]) rfl HD.out
    ·rw [if_neg (fun h => hnn h.2)] at hRR
     subst hRR
     have d5 : decide (LF < (n : Int)) = true := decide_eq_true (by have := HEQ.out; have := HLF.out; omega)
     go_upto_region 16 with fail
     first
      | (go_region_held3 (fun W => W.cell? ⟨cb, 0, none⟩ = some (.string s) ∧ W.cell? ⟨cb, 1, none⟩ = some (.int .i64 (p : Int)))
        ((refine KH.out _ ?_; (repeat (first | (with_reducible assumption) | (with_reducible exact HKB.out) | (with_reducible refine Below.drew ?_) | (with_reducible exact Below.refl _ _)))))
        (first | (go_at_call 57; with_reducible refine (cP _ ?_).mono ?_; (focus (repeat (first | (with_reducible assumption) | (with_reducible exact HKB.out) | (with_reducible refine Below.drew ?_) | (with_reducible exact Below.refl _ _)))); rintro e wC ⟨rfl, kC⟩)))
      | fail
     all_goals
      have hKW : Below w3.heap.size w3 (wC) := kC
      have hrA : CdW (wC) cb s p (c + 1) 0 (-1) := H3.out.1.kept (hKW.block cb H3.out.1.lt)
      have hbA : But w.heap.size cb w (wC) := H3.out.2.1.trans (to_but (hKW.mono (by omega)))
      have zA : w.heap.size + 1 ≤ (wC).heap.size := Nat.le_trans z3 hKW.size
      have eA := (hKW.block w.heap.size (by omega)).trans H3.out.2.2.1
      have cF := rfail_yes cb p (c + 1) 3 s (wC) hrA (H3.out.2.2.2.but hbA hcf) 
      have H4 : Hid (But w.heap.size cb w (wC) ∧ (wC).heap[w.heap.size]? = some (.cells #[.int .i64 0, .string ⟨#[]⟩, .slice none 0 0] 86 (0, 0))) := ⟨hbA, eA⟩
      clear hKW hrA hbA eA H3 KH HKB kC k0 k1
      go_wp2_with fail
      refine cF.mono ?_
      rintro e w7 ⟨rfl, hr7, hb9⟩
      have hb7 := H4.out.1.trans (hb9.less (by omega))
      have e7 := (hb9.block w.heap.size (by omega) (by omega)).trans H4.out.2
      clear cF hb9 H4
      have hcz := hcb
      obtain ⟨⟨s0, s1, s2⟩, ⟨sf0, sf1, sf2⟩, u0, u1, u2⟩ := three_facts e7 (.int .i64 0) (.string ⟨#[]⟩) (.slice none 0 0)
      have HD : Hid (OutRA w cb s (.bad 3 p) (.returned (.agg #[.int .i64 0, .string ⟨#[]⟩, (.slice none 0 0)])) _) := rarg_done hcz (Agw.nil w7 _) hr7 hb7 ⟨rfl, rfl, by decide⟩
      clear hr7 hb7 e7 hcz
      go_wp2_with fail
      exact bodyPost_ret (v := .agg #[.int .i64 0, .string ⟨#[]⟩, (.slice none 0 0)]) (by simp [results, Tryz.results35, go_sem, u0, u1, u2]) rfl HD.out
end Go.Proofs.YtogigccbnohjjaaGreatDoor
