/-
  The document's search for what a pattern asks: one place.
-/
import Derived.Test.YtfdlopimncodcaaGreatDoorBpHpClone
namespace Go.Proofs.YtfdlopimncodcaaGreatDoor
open Go.RowKit Go.Proofs.Aid
set_option maxHeartbeats 8000000
set_option maxRecDepth 100000
def allPl (p s : ByteArray) : List (Nat × Nat) := (List.range ((p.size + 1) * (s.size + 1))).map fun x => (x / (s.size + 1), x % (s.size + 1))
theorem mem_allPl {p s : ByteArray} {i k : Nat} (hi : i ≤ p.size) (hk : k ≤ s.size) : (i, k) ∈ allPl p s := by
 refine List.mem_map.2 ⟨(s.size + 1) * i + k, List.mem_range.2 ?_, ?_⟩
 ·have h1 : (s.size + 1) * i ≤ (s.size + 1) * p.size := Nat.mul_le_mul_left _ hi
  have h2 : (p.size + 1) * (s.size + 1) = (s.size + 1) * p.size + (s.size + 1) := by rw [Nat.mul_comm, Nat.mul_add, Nat.mul_one]
  omega
 ·rw [Nat.mul_add_div (by omega), Nat.div_eq_of_lt (by omega), Nat.mul_add_mod, Nat.mod_eq_of_lt (by omega), Nat.add_zero]
abbrev SP (S : Nat → Nat → Bool) : Pl := fun a c => S a c = true
def addB (S : Nat → Nat → Bool) (i k : Nat) : Nat → Nat → Bool := fun a c => S a c || (decide (a = i) && decide (c = k))
theorem addB_pl (S : Nat → Nat → Bool) (i k : Nat) : SP (addB S i k) = (SP S).add i k := by
 funext a c
 simp [SP, addB, Pl.add]
theorem left_addB {p s : ByteArray} {S : Nat → Nat → Bool} {i k : Nat} (hi : i ≤ p.size) (hk : k ≤ s.size) (h : S i k = false) : leftOf (allPl p s) (fun x => addB S i k x.1 x.2) + 1 ≤ leftOf (allPl p s) (fun x => S x.1 x.2) :=
 left_add (v := (i, k)) h (by simp [addB]) (fun x hx => by simp only [addB]; rw [hx]; rfl) _ (mem_allPl hi hk)
abbrev fromV (SB PB TB FB : Nat) : Value := .func (.func 75) #[] #[.pointer (some ⟨SB, 0, none⟩), .pointer (some ⟨PB, 0, none⟩), .pointer (some ⟨TB, 0, none⟩), .pointer (some ⟨FB, 0, none⟩)]
def RmEnv (p s : ByteArray) (mb SB PB TB FB : Nat) (w : World) : Prop :=
 w.cell? ⟨SB, 0, none⟩ = some (.map (some mb)) ∧ w.cell? ⟨PB, 0, none⟩ = some (.string p) ∧ w.cell? ⟨TB, 0, none⟩ = some (.string s) ∧ w.cell? ⟨FB, 0, none⟩ = some (fromV SB PB TB FB) ∧ SB ≠ mb ∧ PB ≠ mb ∧ TB ≠ mb ∧ FB ≠ mb
theorem RmEnv.but {p s : ByteArray} {mb SB PB TB FB : Nat} {w w' : World} (h : RmEnv p s mb SB PB TB FB w) (hb : But w.heap.size mb w w') : RmEnv p s mb SB PB TB FB w' := by
 obtain ⟨h1, h2, h3, h4, n1, n2, n3, n4⟩ := h
 exact ⟨(hb.cell (p := ⟨SB, 0, none⟩) (World.block_lt_of_cell? _ _ h1) n1).trans h1, (hb.cell (p := ⟨PB, 0, none⟩) (World.block_lt_of_cell? _ _ h2) n2).trans h2, (hb.cell (p := ⟨TB, 0, none⟩) (World.block_lt_of_cell? _ _ h3) n3).trans h3, (hb.cell (p := ⟨FB, 0, none⟩) (World.block_lt_of_cell? _ _ h4) n4).trans h4, n1, n2, n3, n4⟩
def FromC (p s : ByteArray) (mb SB PB TB FB tot i k : Nat) : Prop := ∀ (n : Nat) (S : Nat → Nat → Bool) (w : World), RmEnv p s mb SB PB TB FB w → SeenAt w mb n S → n + leftOf (allPl p s) (fun x => S x.1 x.2) ≤ tot →
 Calls Tryz.prog 75 #[.int .i64 (i : Int), .int .i64 (k : Int), .pointer (some ⟨SB, 0, none⟩), .pointer (some ⟨PB, 0, none⟩), .pointer (some ⟨TB, 0, none⟩), .pointer (some ⟨FB, 0, none⟩)] w fun e w' =>
  ∃ b S' n', e = .returned (.bool b) ∧ SeenAt w' mb n' S' ∧ n' + leftOf (allPl p s) (fun x => S' x.1 x.2) ≤ tot ∧ Sought p.data.toList s.data.toList (SP S) (SP S') i k b ∧ But w.heap.size mb w w'
theorem shut_at {p s : List UInt8} {S : Pl} {i k : Nat} (hi : i < p.length) (hw : p.getD i 0 = 42 ∨ p.getD i 0 = 37) (h1 : S (i + 1) k) (h2 : k < s.length → (p.getD i 0 = 42 ∨ s.getD k 0 ≠ 47) → S i (k + 1)) : Shut p s S i k := by
 unfold Shut
 rw [if_neg (by omega), if_pos hw]
 exact ⟨h1, h2⟩
theorem shut_one {p s : List UInt8} {S : Pl} {i k : Nat} (hi : i < p.length) (hw : ¬ (p.getD i 0 = 42 ∨ p.getD i 0 = 37)) (h2 : k < s.length → s.getD k 0 = p.getD i 0 → S (i + 1) (k + 1)) : Shut p s S i k := by
 unfold Shut
 rw [if_neg (by omega), if_neg hw]
 exact h2
theorem wild_skip {p s : List UInt8} {i k : Nat} (hi : i < p.length) (hw : p.getD i 0 = 42 ∨ p.getD i 0 = 37) (h : Mt (p.drop (i + 1)) (s.drop k)) : Mt (p.drop i) (s.drop k) := by
 rw [drop_get hi]
 exact (mt_wild hw _ _).2 (Or.inl h)
theorem wild_take {p s : List UInt8} {i k : Nat} (hi : i < p.length) (hk : k < s.length) (hw : p.getD i 0 = 42 ∨ p.getD i 0 = 37) (hc : p.getD i 0 = 42 ∨ s.getD k 0 ≠ 47) (h : Mt (p.drop i) (s.drop (k + 1))) : Mt (p.drop i) (s.drop k) := by
 rw [drop_get hk]
 rw [drop_get hi] at h ⊢
 exact (mt_wild hw _ _).2 (Or.inr ⟨_, _, rfl, hc, h⟩)
theorem plain_take {p s : List UInt8} {i k : Nat} (hi : i < p.length) (hk : k < s.length) (hw : ¬ (p.getD i 0 = 42 ∨ p.getD i 0 = 37)) (hc : s.getD k 0 = p.getD i 0) (h : Mt (p.drop (i + 1)) (s.drop (k + 1))) : Mt (p.drop i) (s.drop k) := by
 rw [not_or] at hw
 rw [drop_get hk, drop_get hi, hc]
 exact (mt_plain1 hw.1 hw.2 _ _).2 ⟨_, rfl, h⟩
theorem byte_is {s : ByteArray} {k : Nat} (hk : k < s.size) (c : UInt8) : ((((s[k]'hk).toNat : Int) == ((c.toNat : Nat) : Int)) = true ↔ s.data.toList.getD k 0 = c) := by
 rw [byte_eq, byte_at hk]
 exact decide_eq_true_iff
theorem from_step (p s : ByteArray) (mb SB PB TB FB tot i k : Nat) (hp : p.size ≤ 900) (hs : s.size ≤ 900) (ht : tot ≤ 900000) (hi : i ≤ p.size) (hk : k ≤ s.size)
  (hA : i < p.size → FromC p s mb SB PB TB FB tot (i + 1) k) (hB : k < s.size → FromC p s mb SB PB TB FB tot i (k + 1)) (hC : i < p.size → k < s.size → FromC p s mb SB PB TB FB tot (i + 1) (k + 1)) : FromC p s mb SB PB TB FB tot i k := by
 intro n S w hE hS hn
 obtain ⟨FV, hFV⟩ : ∃ v, fromV SB PB TB FB = v := ⟨_, rfl⟩
 have hpl : p.data.toList.length = p.size := by rw [Array.length_toList]; rfl
 have hsl : s.data.toList.length = s.size := by rw [Array.length_toList]; rfl
 have HL : Hid (p.data.toList.length = p.size ∧ s.data.toList.length = s.size) := ⟨hpl, hsl⟩
 have hlk := seen_look hS i k (by omega) (by omega)
 have c0 := hE.1
 by_cases hSik : S i k = true
 ·rw [hSik] at hlk
  have HF : Hid (SeenAt w mb n S ∧ n + leftOf (allPl p s) (fun x => S x.1 x.2) ≤ tot ∧ Sought p.data.toList s.data.toList (SP S) (SP S) i k false) := ⟨hS, hn, sought_seen hSik⟩
  clear hS hn hSik hE hpl hsl hA hB hC
  go_enter Tryz.func75, Tryz.ntmps75
  go_wp2_with fail
  go_ret
  exact ⟨false, S, n, rfl, HF.out.1, HF.out.2.1, HF.out.2.2, to_but (Below.refl _ _)⟩
 ·have hSf : S i k = false := by simpa using hSik
  rw [hSf] at hlk
  obtain ⟨w1, hput, hS1, htn⟩ := seen_put hS (by omega) i k (by omega) (by omega)
  have b1 := turned_but htn
  have hE1 := hE.but b1
  have hl1 := left_addB hi hk hSf
  obtain ⟨S1, hS1e⟩ : ∃ S1, addB S i k = S1 := ⟨_, rfl⟩
  have hpl1 := addB_pl S i k
  replace hS1 : SeenAt w1 mb (n + 1) S1 := by rw [← hS1e]; exact hS1
  rw [hS1e] at hl1 hpl1
  have HX : Hid (SeenAt w1 mb (n + 1) S1 ∧ n + 1 + leftOf (allPl p s) (fun x => S1 x.1 x.2) ≤ tot ∧ SP S1 = (SP S).add i k ∧ But w.heap.size mb w w1 ∧ RmEnv p s mb SB PB TB FB w1) := ⟨hS1, by omega, hpl1, b1, hE1⟩
  have HENV : Hid (∀ W, But w.heap.size mb w W → W.cell? ⟨SB, 0, none⟩ = some (.map (some mb)) ∧ W.cell? ⟨PB, 0, none⟩ = some (.string p) ∧ W.cell? ⟨TB, 0, none⟩ = some (.string s) ∧ W.cell? ⟨FB, 0, none⟩ = some FV) := fun W hW => by
   obtain ⟨h1, h2, h3, h4, _⟩ := hE.but hW
   exact ⟨h1, h2, h3, by rw [← hFV]; exact h4⟩
  have HENW : Hid (∀ W, But w.heap.size mb w W → RmEnv p s mb SB PB TB FB W) := fun W hW => hE.but hW
  obtain ⟨x0, x1, x2, x3⟩ := HENV.out w1 b1
  clear hS hn hSik hE hpl hsl hS1 htn hE1 hl1 hpl1 hS1e hSf
  by_cases hie : i = p.size
  ·have d4 : ((i : Int) == (p.size : Int)) = true := beq_iff_eq.2 (by omega)
   have HF : Hid (Sought p.data.toList s.data.toList (SP S) (SP S1) i k (decide (k = s.size))) := by
    unfold Hid
    rw [HX.out.2.2.1, hie, ← HL.out.1, ← HL.out.2]
    exact sought_end (by rw [HL.out.2]; exact hk)
   by_cases hke : k = s.size
   ·rw [decide_eq_true hke] at HF
    have d5 : ((k : Int) == (s.size : Int)) = true := beq_iff_eq.2 (by omega)
    clear hA hB hC hke hie hFV
    go_enter Tryz.func75, Tryz.ntmps75
    go_wp2_with fail
    go_ret
    exact ⟨true, S1, n + 1, rfl, HX.out.1, HX.out.2.1, HF.out, HX.out.2.2.2.1⟩
   ·rw [decide_eq_false hke] at HF
    have d5 : ((k : Int) == (s.size : Int)) = false := beq_eq_false_iff_ne.2 (by omega)
    clear hA hB hC hke hie hFV
    go_enter Tryz.func75, Tryz.ntmps75
    go_wp2_with fail
    go_ret
    exact ⟨false, S1, n + 1, rfl, HX.out.1, HX.out.2.1, HF.out, HX.out.2.2.2.1⟩
  ·have d4 : ((i : Int) == (p.size : Int)) = false := beq_eq_false_iff_ne.2 (by omega)
   have hip : i < p.size := by omega
   have i1 : (0 : Int) ≤ (i : Int) := by omega
   have i2 : (i : Int) < (p.size : Int) := by omega
   have k1 : (0 : Int) ≤ (k : Int) := by omega
   have f42 := byte_is hip 42
   have f37 := byte_is hip 37
   by_cases hw : p.data.toList.getD i 0 = 42 ∨ p.data.toList.getD i 0 = 37
   ·have cA := hA hip (n + 1) S1 w1 HX.out.2.2.2.2 HX.out.1 HX.out.2.1
    rw [show ((i + 1 : Nat) : Int) = (i : Int) + 1 from by omega] at cA
    have HW : Hid (p.data.toList.getD i 0 = 42 ∨ p.data.toList.getD i 0 = 37) := hw
    by_cases h42 : p.data.toList.getD i 0 = 42
    ·have e42 : ((((p[i]'hip).toNat : Int)) == 42) = true := f42.2 h42
     have H42 : Hid (p.data.toList.getD i 0 = 42) := h42
     clear hA hC hie f42 f37 hw h42
     subst hFV
     go_enter Tryz.func75, Tryz.ntmps75
     go_wp2_with fail
     refine cA.mono ?_
     rintro e w4 ⟨b3, S3, n3, rfl, q1, q2, q3, q4⟩
     have HQ : Hid (SeenAt w4 mb n3 S3 ∧ n3 + leftOf (allPl p s) (fun x => S3 x.1 x.2) ≤ tot ∧ Sought p.data.toList s.data.toList ((SP S).add i k) (SP S3) (i + 1) k b3 ∧ But w.heap.size mb w w4) := ⟨q1, q2, by rw [← HX.out.2.2.1]; exact q3, HX.out.2.2.2.1.trans (q4.less HX.out.2.2.2.1.size)⟩
     clear cA q1 q2 q3 q4
     cases b3 with
     | true =>
      have HF : Hid (Sought p.data.toList s.data.toList (SP S) (SP S3) i k true) := sought_yes (by rw [HL.out.1]; exact hi) (by rw [HL.out.2]; exact hk) HQ.out.2.2.1 (wild_skip (by rw [HL.out.1]; exact hip) HW.out)
      clear x0 x1 x2 x3
      go_wp2_with fail
      go_ret
      exact ⟨true, S3, n3, rfl, HQ.out.1, HQ.out.2.1, HF.out, HQ.out.2.2.2⟩
     | false =>
      obtain ⟨y0, y1, y2⟩ := (HENV.out w4 HQ.out.2.2.2).2
      have HBW : Hid (But w.heap.size mb w w4) := HQ.out.2.2.2
      have HS3 : Hid (SeenAt w4 mb n3 S3 ∧ n3 + leftOf (allPl p s) (fun x => S3 x.1 x.2) ≤ tot) := ⟨HQ.out.1, HQ.out.2.1⟩
      clear x0 x1 x2 x3
      by_cases hks : k < s.size
      ·have dk : decide ((k : Int) < (s.size : Int)) = true := decide_eq_true (by omega)
       have k2 : (k : Int) < (s.size : Int) := by omega
       have cB := hB hks n3 S3 w4 (HENW.out w4 HBW.out) HS3.out.1 HS3.out.2
       rw [show ((k + 1 : Nat) : Int) = (k : Int) + 1 from by omega] at cB
       have HFIN : Hid ((∀ b S', Sought p.data.toList s.data.toList (SP S3) (SP S') i (k + 1) b → Sought p.data.toList s.data.toList (SP S) (SP S') i k b) ∧ True) := ⟨fun b S' h' => sought_two (by rw [HL.out.1]; exact hi) (by rw [HL.out.2]; exact hk) HQ.out.2.2.1 h' (wild_take (by rw [HL.out.1]; exact hip) (by rw [HL.out.2]; exact hks) HW.out (Or.inl H42.out)) (fun a1 a2 => shut_at (by rw [HL.out.1]; exact hip) HW.out a1 (fun _ _ => a2)), trivial⟩
       clear hB
       go_wp2_with fail
       refine cB.mono ?_
       rintro e w5 ⟨b2, S2, n2, rfl, g1, g2, g3, g4⟩
       have HG : Hid (SeenAt w5 mb n2 S2 ∧ n2 + leftOf (allPl p s) (fun x => S2 x.1 x.2) ≤ tot ∧ Sought p.data.toList s.data.toList (SP S3) (SP S2) i (k + 1) b2 ∧ But w4.heap.size mb w4 w5) := ⟨g1, g2, g3, g4⟩
       clear cB g1 g2 g3 g4 y0 y1 y2
       go_wp2_with fail
       go_ret
       exact ⟨b2, S2, n2, rfl, HG.out.1, HG.out.2.1, HFIN.out.1 b2 _ HG.out.2.2.1, HBW.out.trans (HG.out.2.2.2.less HBW.out.size)⟩
      ·have dk : decide ((k : Int) < (s.size : Int)) = false := decide_eq_false (by omega)
       have HFIN : Hid (Sought p.data.toList s.data.toList (SP S) (SP S3) i k false) := sought_one (by rw [HL.out.1]; exact hi) (by rw [HL.out.2]; exact hk) HQ.out.2.2.1 (fun a1 => shut_at (by rw [HL.out.1]; exact hip) HW.out a1 (fun a2 _ => absurd a2 (by rw [HL.out.2]; exact hks)))
       clear hB
       go_wp2_with fail
       go_ret
       exact ⟨false, S3, n3, rfl, HS3.out.1, HS3.out.2, HFIN.out, HBW.out⟩
    ·have e42 : ((((p[i]'hip).toNat : Int)) == 42) = false := Bool.eq_false_iff.2 fun h => h42 (f42.1 h)
     have h37 : p.data.toList.getD i 0 = 37 := hw.resolve_left h42
     have e37 : ((((p[i]'hip).toNat : Int)) == 37) = true := f37.2 h37
     have H42 : Hid (p.data.toList.getD i 0 ≠ 42) := h42
     clear hA hC hie f42 f37 hw h42 h37
     subst hFV
     go_enter Tryz.func75, Tryz.ntmps75
     go_wp2_with fail
     refine cA.mono ?_
     rintro e w4 ⟨b3, S3, n3, rfl, q1, q2, q3, q4⟩
     have HQ : Hid (SeenAt w4 mb n3 S3 ∧ n3 + leftOf (allPl p s) (fun x => S3 x.1 x.2) ≤ tot ∧ Sought p.data.toList s.data.toList ((SP S).add i k) (SP S3) (i + 1) k b3 ∧ But w.heap.size mb w w4) := ⟨q1, q2, by rw [← HX.out.2.2.1]; exact q3, HX.out.2.2.2.1.trans (q4.less HX.out.2.2.2.1.size)⟩
     clear cA q1 q2 q3 q4
     cases b3 with
     | true =>
      have HF : Hid (Sought p.data.toList s.data.toList (SP S) (SP S3) i k true) := sought_yes (by rw [HL.out.1]; exact hi) (by rw [HL.out.2]; exact hk) HQ.out.2.2.1 (wild_skip (by rw [HL.out.1]; exact hip) HW.out)
      clear x0 x1 x2 x3
      go_wp2_with fail
      go_ret
      exact ⟨true, S3, n3, rfl, HQ.out.1, HQ.out.2.1, HF.out, HQ.out.2.2.2⟩
     | false =>
      obtain ⟨y0, y1, y2⟩ := (HENV.out w4 HQ.out.2.2.2).2
      have HBW : Hid (But w.heap.size mb w w4) := HQ.out.2.2.2
      have HS3 : Hid (SeenAt w4 mb n3 S3 ∧ n3 + leftOf (allPl p s) (fun x => S3 x.1 x.2) ≤ tot) := ⟨HQ.out.1, HQ.out.2.1⟩
      clear x0 x1 x2 x3
      by_cases hks : k < s.size
      ·have dk : decide ((k : Int) < (s.size : Int)) = true := decide_eq_true (by omega)
       have k2 : (k : Int) < (s.size : Int) := by omega
       have f47 := byte_is hks 47
       by_cases h47 : s.data.toList.getD k 0 = 47
       ·have e47 : ((((s[k]'hks).toNat : Int)) != 47) = false := by rw [bne, show ((((s[k]'hks).toNat : Int)) == 47) = true from f47.2 h47]; rfl
        have HFIN : Hid (Sought p.data.toList s.data.toList (SP S) (SP S3) i k false) := sought_one (by rw [HL.out.1]; exact hi) (by rw [HL.out.2]; exact hk) HQ.out.2.2.1 (fun a1 => shut_at (by rw [HL.out.1]; exact hip) HW.out a1 (fun _ a2 => a2.elim (fun a3 => absurd a3 H42.out) (fun a3 => absurd h47 a3)))
        clear hB f47 h47
        go_wp2_with fail
        go_ret
        exact ⟨false, S3, n3, rfl, HS3.out.1, HS3.out.2, HFIN.out, HBW.out⟩
       ·have e47 : ((((s[k]'hks).toNat : Int)) != 47) = true := by rw [bne, show ((((s[k]'hks).toNat : Int)) == 47) = false from Bool.eq_false_iff.2 fun h => h47 (f47.1 h)]; rfl
        have cB := hB hks n3 S3 w4 (HENW.out w4 HBW.out) HS3.out.1 HS3.out.2
        rw [show ((k + 1 : Nat) : Int) = (k : Int) + 1 from by omega] at cB
        have hwr : IntKind.i64.wrap ((k : Int) + 1) = (k : Int) + 1 := by rw [IntKind.wrap_i64]; omega
        have HFIN : Hid ((∀ b S', Sought p.data.toList s.data.toList (SP S3) (SP S') i (k + 1) b → Sought p.data.toList s.data.toList (SP S) (SP S') i k b) ∧ True) := ⟨fun b S' h' => sought_two (by rw [HL.out.1]; exact hi) (by rw [HL.out.2]; exact hk) HQ.out.2.2.1 h' (wild_take (by rw [HL.out.1]; exact hip) (by rw [HL.out.2]; exact hks) HW.out (Or.inr h47)) (fun a1 a2 => shut_at (by rw [HL.out.1]; exact hip) HW.out a1 (fun _ _ => a2)), trivial⟩
        clear hB f47 h47
        go_wp2_with fail
        refine cB.mono ?_
        rintro e w5 ⟨b2, S2, n2, rfl, g1, g2, g3, g4⟩
        have HG : Hid (SeenAt w5 mb n2 S2 ∧ n2 + leftOf (allPl p s) (fun x => S2 x.1 x.2) ≤ tot ∧ Sought p.data.toList s.data.toList (SP S3) (SP S2) i (k + 1) b2 ∧ But w4.heap.size mb w4 w5) := ⟨g1, g2, g3, g4⟩
        clear cB g1 g2 g3 g4 y0 y1 y2
        go_wp2_with fail
        go_ret
        exact ⟨b2, S2, n2, rfl, HG.out.1, HG.out.2.1, HFIN.out.1 b2 _ HG.out.2.2.1, HBW.out.trans (HG.out.2.2.2.less HBW.out.size)⟩
      ·have dk : decide ((k : Int) < (s.size : Int)) = false := decide_eq_false (by omega)
       have HFIN : Hid (Sought p.data.toList s.data.toList (SP S) (SP S3) i k false) := sought_one (by rw [HL.out.1]; exact hi) (by rw [HL.out.2]; exact hk) HQ.out.2.2.1 (fun a1 => shut_at (by rw [HL.out.1]; exact hip) HW.out a1 (fun a2 _ => absurd a2 (by rw [HL.out.2]; exact hks)))
       clear hB
       go_wp2_with fail
       go_ret
       exact ⟨false, S3, n3, rfl, HS3.out.1, HS3.out.2, HFIN.out, HBW.out⟩
   ·have e42 : ((((p[i]'hip).toNat : Int)) == 42) = false := Bool.eq_false_iff.2 fun h => hw (Or.inl (f42.1 h))
    have e37 : ((((p[i]'hip).toNat : Int)) == 37) = false := Bool.eq_false_iff.2 fun h => hw (Or.inr (f37.1 h))
    have HW : Hid (¬ (p.data.toList.getD i 0 = 42 ∨ p.data.toList.getD i 0 = 37)) := hw
    obtain ⟨WD, hWD⟩ : ∃ W, w1.drew = W := ⟨_, rfl⟩
    have HBW : Hid (But w.heap.size mb w WD) := by rw [← hWD]; exact HX.out.2.2.2.1.trans (to_but (((Below.refl w1.heap.size w1).drew).mono HX.out.2.2.2.1.size))
    obtain ⟨S3, hS3⟩ : ∃ S3, S1 = S3 := ⟨_, rfl⟩
    obtain ⟨n3, hn3⟩ : ∃ n3, n + 1 = n3 := ⟨_, rfl⟩
    have HS3 : Hid (SeenAt WD mb n3 S3 ∧ n3 + leftOf (allPl p s) (fun x => S3 x.1 x.2) ≤ tot) := by rw [← hWD, ← hS3, ← hn3]; exact ⟨HX.out.1.same rfl, HX.out.2.1⟩
    have HS1 : Hid (SP S3 = (SP S).add i k) := by rw [← hS3]; exact HX.out.2.2.1
    have y0 := x1
    have y1 := x2
    have y2 := x3
    clear hA hB hw f42 f37 hie hS3 hn3
    by_cases hks : k < s.size
    ·have dk : decide ((k : Int) < (s.size : Int)) = true := decide_eq_true (by omega)
     have k2 : (k : Int) < (s.size : Int) := by omega
     have f := byte_is hks (p[i]'hip)
     rw [← byte_at hip] at f
     by_cases hc : s.data.toList.getD k 0 = p.data.toList.getD i 0
     ·have eC : ((((s[k]'hks).toNat : Int)) == (((p[i]'hip).toNat : Nat) : Int)) = true := by have := f.2 hc; rw [byte_at hip] at this; exact this
      have cC := hC hip hks n3 S3 WD (HENW.out WD HBW.out) HS3.out.1 HS3.out.2
      rw [show ((k + 1 : Nat) : Int) = (k : Int) + 1 from by omega, show ((i + 1 : Nat) : Int) = (i : Int) + 1 from by omega] at cC
      have hwr : IntKind.i64.wrap ((k : Int) + 1) = (k : Int) + 1 := by rw [IntKind.wrap_i64]; omega
      have hwi : IntKind.i64.wrap ((i : Int) + 1) = (i : Int) + 1 := by rw [IntKind.wrap_i64]; omega
      have HFIN : Hid ((∀ b S', Sought p.data.toList s.data.toList (SP S3) (SP S') (i + 1) (k + 1) b → Sought p.data.toList s.data.toList (SP S) (SP S') i k b) ∧ True) := ⟨fun b S' h' => by
       rw [HS1.out] at h'
       cases b with
       | true => exact sought_yes (by rw [HL.out.1]; exact hi) (by rw [HL.out.2]; exact hk) h' (plain_take (by rw [HL.out.1]; exact hip) (by rw [HL.out.2]; exact hks) HW.out hc)
       | false => exact sought_one (by rw [HL.out.1]; exact hi) (by rw [HL.out.2]; exact hk) h' (fun a1 => shut_one (by rw [HL.out.1]; exact hip) HW.out (fun _ _ => a1)), trivial⟩
      clear hC f hc
      subst hFV
      go_enter Tryz.func75, Tryz.ntmps75
      go_upto_region 10 with fail
      refine wp_region_held_drew (S := fun W => W.cell? ⟨PB, 0, none⟩ = some (.string p) ∧ W.cell? ⟨TB, 0, none⟩ = some (.string s) ∧ W.cell? ⟨FB, 0, none⟩ = some (fromV SB PB TB FB)) (by kernel_rfl) ?_ (fun hHeld => ?_)
      ·exact ⟨by simpa using y0, by simpa using y1, by simpa using y2⟩
      rw [hWD] at hHeld ⊢
      refine wpAnyH_take (i := 0) (v := ?_) rfl (by kernel_rfl) (by kernel_rfl) (by kernel_rfl) (fun _ _ _ h => h) (Or.inl ⟨by rfl, ?_⟩) (by assumption) ?_
      rotate_left
      ·intro w hSw; go_simp; (try with_reducible rfl)
      change wpAnyH _ _ _ _ _ _ _ (Act.put _ (some 64) _) _; simp only [Act.put, List.setIfInBounds_toArray, List.set_cons_zero, List.set_cons_succ]
      refine wpAnyH_take (i := 1) (v := ?_) rfl (by kernel_rfl) (by kernel_rfl) (by kernel_rfl) (fun _ _ _ h => h) (Or.inl ⟨by rfl, ?_⟩) (by assumption) ?_
      rotate_left
      ·intro w hSw; go_simp; (try with_reducible rfl)
      change wpAnyH _ _ _ _ _ _ _ (Act.put _ (some 65) _) _; simp only [Act.put, List.setIfInBounds_toArray, List.set_cons_zero, List.set_cons_succ]
      refine wpAnyH_take (i := 2) (v := ?_) rfl (by kernel_rfl) (by kernel_rfl) (by kernel_rfl) (fun _ _ _ h => h) (Or.inl ⟨by rfl, ?_⟩) (by assumption) ?_
      rotate_left
      ·intro w hSw; go_simp; (try with_reducible rfl)
      change wpAnyH _ _ _ _ _ _ _ (Act.put _ (some 66) _) _; simp only [Act.put, List.setIfInBounds_toArray, List.set_cons_zero, List.set_cons_succ]
      refine wpAnyH_take (i := 3) (v := ?_) rfl (by kernel_rfl) (by kernel_rfl) (by kernel_rfl) (fun _ _ _ h => h) (Or.inl ⟨by rfl, ?_⟩) (by assumption) ?_
      rotate_left
      ·intro w hSw; go_simp; (try with_reducible rfl)
      change wpAnyH _ _ _ _ _ _ _ (Act.put _ (some 67) _) _; simp only [Act.put, List.setIfInBounds_toArray, List.set_cons_zero, List.set_cons_succ]
      refine wpAnyH_take (i := 4) (v := ?_) rfl (by kernel_rfl) (by kernel_rfl) (by kernel_rfl) (fun _ _ _ h => h) (Or.inl ⟨by rfl, ?_⟩) (by assumption) ?_
      rotate_left
      ·intro w hSw; go_simp; (try with_reducible rfl)
      change wpAnyH _ _ _ _ _ _ _ (Act.put _ (some 68) _) _; simp only [Act.put, List.setIfInBounds_toArray, List.set_cons_zero, List.set_cons_succ]
      refine wpAnyH_take (i := 5) (v := ?_) rfl (by kernel_rfl) (by kernel_rfl) (by kernel_rfl) (fun _ _ _ h => h) (Or.inl ⟨by rfl, ?_⟩) (by assumption) ?_
      rotate_left
      ·intro w hSw; go_simp; (try with_reducible rfl)
      change wpAnyH _ _ _ _ _ _ _ (Act.put _ (some 69) _) _; simp only [Act.put, List.setIfInBounds_toArray, List.set_cons_zero, List.set_cons_succ]
      refine wpAnyH_take (i := 6) (v := ?_) rfl (by kernel_rfl) (by kernel_rfl) (by kernel_rfl) (fun _ _ _ h => h) (Or.inl ⟨by rfl, ?_⟩) (by assumption) ?_
      rotate_left
      ·intro w hSw; go_simp; (try with_reducible rfl)
      change wpAnyH _ _ _ _ _ _ _ (Act.put _ (some 70) _) _; simp only [Act.put, List.setIfInBounds_toArray, List.set_cons_zero, List.set_cons_succ]
      refine wpAnyH_take (i := 7) (v := ?_) rfl (by kernel_rfl) (by kernel_rfl) (by kernel_rfl) (fun _ _ _ h => h) (Or.inl ⟨by rfl, ?_⟩) (by assumption) ?_
      rotate_left
      ·intro w hSw; go_simp; (try with_reducible rfl)
      change wpAnyH _ _ _ _ _ _ _ (Act.put _ (some 71) _) _; simp only [Act.put, List.setIfInBounds_toArray, List.set_cons_zero, List.set_cons_succ]
      refine wpAnyH_take (i := 8) (v := ?_) rfl (by kernel_rfl) (by kernel_rfl) (by kernel_rfl) (fun _ _ _ h => h) (Or.inl ⟨by rfl, ?_⟩) (by assumption) ?_
      rotate_left
      ·intro w hSw; go_simp; (try with_reducible rfl)
      change wpAnyH _ _ _ _ _ _ _ (Act.put _ (some 72) _) _; simp only [Act.put, List.setIfInBounds_toArray, List.set_cons_zero, List.set_cons_succ]
      refine wpAnyH_take (i := 9) (v := ?_) rfl (by kernel_rfl) (by kernel_rfl) (by kernel_rfl) (fun _ _ _ h => h) (Or.inl ⟨by rfl, ?_⟩) (by assumption) ?_
      rotate_left
      ·intro w hSw; go_simp; (try with_reducible rfl)
      change wpAnyH _ _ _ _ _ _ _ (Act.put _ (some 73) _) _; simp only [Act.put, List.setIfInBounds_toArray, List.set_cons_zero, List.set_cons_succ]
      refine wpAnyH_take (i := 10) (v := ?_) rfl (by kernel_rfl) (by kernel_rfl) (by kernel_rfl) (fun _ _ _ h => h) (Or.inl ⟨by rfl, ?_⟩) (by assumption) ?_
      rotate_left
      ·intro w hSw; go_simp; (try with_reducible rfl)
      change wpAnyH _ _ _ _ _ _ _ (Act.put _ (some 74) _) _; simp only [Act.put, List.setIfInBounds_toArray, List.set_cons_zero, List.set_cons_succ]
      refine wpAnyH_take (i := 11) (v := ?_) rfl (by kernel_rfl) (by kernel_rfl) (by kernel_rfl) (fun _ _ _ h => h) (Or.inl ⟨by rfl, ?_⟩) (by assumption) ?_
      rotate_left
      ·intro w hSw; go_simp; (try with_reducible rfl)
      change wpAnyH _ _ _ _ _ _ _ (Act.put _ (some 75) _) _; simp only [Act.put, List.setIfInBounds_toArray, List.set_cons_zero, List.set_cons_succ]
      refine wpAnyH_take (i := 12) (v := ?_) rfl (by kernel_rfl) (by kernel_rfl) (by kernel_rfl) (fun _ _ _ h => h) (Or.inl ⟨by rfl, ?_⟩) (by assumption) ?_
      rotate_left
      ·intro w hSw; go_simp; (try with_reducible rfl)
      change wpAnyH _ _ _ _ _ _ _ (Act.put _ (some 76) _) _; simp only [Act.put, List.setIfInBounds_toArray, List.set_cons_zero, List.set_cons_succ]
      refine wpAnyH_take (i := 13) (v := ?_) rfl (by kernel_rfl) (by kernel_rfl) (by kernel_rfl) (fun _ _ _ h => h) (Or.inl ⟨by rfl, ?_⟩) (by assumption) ?_
      rotate_left
      ·intro w hSw; go_simp; (try with_reducible rfl)
      change wpAnyH _ _ _ _ _ _ _ (Act.put _ (some 77) _) _; simp only [Act.put, List.setIfInBounds_toArray, List.set_cons_zero, List.set_cons_succ]
      refine wpAnyH_take (i := 14) (v := ?_) rfl (by kernel_rfl) (by kernel_rfl) (by kernel_rfl) (fun _ _ _ h => h) (Or.inl ⟨by rfl, ?_⟩) (by assumption) ?_
      rotate_left
      ·intro w hSw; go_simp; (try with_reducible rfl)
      change wpAnyH _ _ _ _ _ _ _ (Act.put _ (some 78) _) _; simp only [Act.put, List.setIfInBounds_toArray, List.set_cons_zero, List.set_cons_succ]
      refine wpAnyH_take (i := 15) (v := ?_) rfl (by kernel_rfl) (by kernel_rfl) (by kernel_rfl) (fun _ _ _ h => h) (Or.inl ⟨by rfl, ?_⟩) (by assumption) ?_
      rotate_left
      ·intro w hSw; go_simp; (try with_reducible rfl)
      change wpAnyH _ _ _ _ _ _ _ (Act.put _ (some 79) _) _; simp only [Act.put, List.setIfInBounds_toArray, List.set_cons_zero, List.set_cons_succ]
      refine wpAnyH_take (i := 16) (v := ?_) rfl (by kernel_rfl) (by kernel_rfl) (by kernel_rfl) (fun _ _ _ h => h) (Or.inl ⟨by rfl, ?_⟩) (by assumption) ?_
      rotate_left
      ·intro w hSw; go_simp; (try with_reducible rfl)
      change wpAnyH _ _ _ _ _ _ _ (Act.put _ (some 80) _) _; simp only [Act.put, List.setIfInBounds_toArray, List.set_cons_zero, List.set_cons_succ]
      refine wpAnyH_take (i := 17) (v := ?_) rfl (by kernel_rfl) (by kernel_rfl) (by kernel_rfl) (fun _ _ _ h => h) (Or.inl ⟨by rfl, ?_⟩) (by assumption) ?_
      rotate_left
      ·intro w hSw; go_simp; (try with_reducible rfl)
      change wpAnyH _ _ _ _ _ _ _ (Act.put _ (some 81) _) _; simp only [Act.put, List.setIfInBounds_toArray, List.set_cons_zero, List.set_cons_succ]
      refine wpAnyH_take (i := 18) (v := ?_) rfl (by kernel_rfl) (by kernel_rfl) (by kernel_rfl) (fun _ _ _ h => h) (Or.inl ⟨by rfl, ?_⟩) (by assumption) ?_
      rotate_left
      ·intro w hSw; go_simp; (try with_reducible rfl)
      change wpAnyH _ _ _ _ _ _ _ (Act.put _ (some 82) _) _; simp only [Act.put, List.setIfInBounds_toArray, List.set_cons_zero, List.set_cons_succ]
      refine wpAnyH_ready (rs := [19]) (by kernel_rfl) (by simp) ?_
      refine AllReadyH.cons rfl (fun K hK => ?_) AllReadyH.nil
      go_simp
      refine cC.mono ?_
      rintro e w5 ⟨b2, S2, n2, rfl, g1, g2, g3, g4⟩
      obtain ⟨z0, z1, z2⟩ := (HENV.out _ (HBW.out.trans (g4.less HBW.out.size))).2
      refine hK.out _ _ ?_ (fun hHeld => ?_)
      ·exact ⟨z0, z1, z2⟩
      clear hK K
      refine wpAnyH_take (i := 20) (v := ?_) rfl (by kernel_rfl) (by kernel_rfl) (by kernel_rfl) (fun _ _ _ h => h) (Or.inl ⟨by rfl, ?_⟩) (by assumption) ?_
      rotate_left
      ·intro w hSw; go_simp; (try with_reducible rfl)
      change wpAnyH _ _ _ _ _ _ _ (Act.put _ (some 84) _) _; simp only [Act.put, List.setIfInBounds_toArray, List.set_cons_zero, List.set_cons_succ]
      refine wpAnyH_take (i := 21) (v := ?_) rfl (by kernel_rfl) (by kernel_rfl) (by kernel_rfl) (fun _ _ _ h => h) (Or.inl ⟨by rfl, ?_⟩) (by assumption) ?_
      rotate_left
      ·intro w hSw; go_simp; (try with_reducible rfl)
      refine wpAnyH_done (by kernel_rfl) ?_ _
      clear hHeld z0 z1 z2
      have HG : Hid (SeenAt w5 mb n2 S2 ∧ n2 + leftOf (allPl p s) (fun x => S2 x.1 x.2) ≤ tot ∧ Sought p.data.toList s.data.toList (SP S3) (SP S2) (i + 1) (k + 1) b2 ∧ But WD.heap.size mb WD w5) := ⟨g1, g2, g3, g4⟩
      clear g1 g2 g3 g4
      go_wp2_with fail
      go_ret
      exact ⟨b2, S2, n2, rfl, HG.out.1, HG.out.2.1, HFIN.out.1 b2 _ HG.out.2.2.1, HBW.out.trans (HG.out.2.2.2.less HBW.out.size)⟩
     ·have eC : ((((s[k]'hks).toNat : Int)) == (((p[i]'hip).toNat : Nat) : Int)) = false := Bool.eq_false_iff.2 fun h => hc (by have := f.1; rw [byte_at hip] at this; rw [byte_at hip]; exact this h)
      have HFIN : Hid (Sought p.data.toList s.data.toList (SP S) (SP S3) i k false) := by
       unfold Hid
       rw [HS1.out]
       exact sought_stop (by rw [HL.out.1]; exact hi) (by rw [HL.out.2]; exact hk) (fun S' => shut_one (by rw [HL.out.1]; exact hip) HW.out (fun _ a2 => absurd a2 hc))
      clear hC f hc
      subst hFV
      go_enter Tryz.func75, Tryz.ntmps75
      go_upto_region 10 with fail
      refine wp_region_held_drew (S := fun W => W.cell? ⟨PB, 0, none⟩ = some (.string p) ∧ W.cell? ⟨TB, 0, none⟩ = some (.string s) ∧ W.cell? ⟨FB, 0, none⟩ = some (fromV SB PB TB FB)) (by kernel_rfl) ?_ (fun hHeld => ?_)
      ·exact ⟨by simpa using y0, by simpa using y1, by simpa using y2⟩
      rw [hWD] at hHeld ⊢
      refine wpAnyH_take (i := 0) (v := ?_) rfl (by kernel_rfl) (by kernel_rfl) (by kernel_rfl) (fun _ _ _ h => h) (Or.inl ⟨by rfl, ?_⟩) (by assumption) ?_
      rotate_left
      ·intro w hSw; go_simp; (try with_reducible rfl)
      change wpAnyH _ _ _ _ _ _ _ (Act.put _ (some 64) _) _; simp only [Act.put, List.setIfInBounds_toArray, List.set_cons_zero, List.set_cons_succ]
      refine wpAnyH_take (i := 1) (v := ?_) rfl (by kernel_rfl) (by kernel_rfl) (by kernel_rfl) (fun _ _ _ h => h) (Or.inl ⟨by rfl, ?_⟩) (by assumption) ?_
      rotate_left
      ·intro w hSw; go_simp; (try with_reducible rfl)
      change wpAnyH _ _ _ _ _ _ _ (Act.put _ (some 65) _) _; simp only [Act.put, List.setIfInBounds_toArray, List.set_cons_zero, List.set_cons_succ]
      refine wpAnyH_take (i := 2) (v := ?_) rfl (by kernel_rfl) (by kernel_rfl) (by kernel_rfl) (fun _ _ _ h => h) (Or.inl ⟨by rfl, ?_⟩) (by assumption) ?_
      rotate_left
      ·intro w hSw; go_simp; (try with_reducible rfl)
      change wpAnyH _ _ _ _ _ _ _ (Act.put _ (some 66) _) _; simp only [Act.put, List.setIfInBounds_toArray, List.set_cons_zero, List.set_cons_succ]
      refine wpAnyH_take (i := 3) (v := ?_) rfl (by kernel_rfl) (by kernel_rfl) (by kernel_rfl) (fun _ _ _ h => h) (Or.inl ⟨by rfl, ?_⟩) (by assumption) ?_
      rotate_left
      ·intro w hSw; go_simp; (try with_reducible rfl)
      change wpAnyH _ _ _ _ _ _ _ (Act.put _ (some 67) _) _; simp only [Act.put, List.setIfInBounds_toArray, List.set_cons_zero, List.set_cons_succ]
      refine wpAnyH_take (i := 4) (v := ?_) rfl (by kernel_rfl) (by kernel_rfl) (by kernel_rfl) (fun _ _ _ h => h) (Or.inl ⟨by rfl, ?_⟩) (by assumption) ?_
      rotate_left
      ·intro w hSw; go_simp; (try with_reducible rfl)
      change wpAnyH _ _ _ _ _ _ _ (Act.put _ (some 68) _) _; simp only [Act.put, List.setIfInBounds_toArray, List.set_cons_zero, List.set_cons_succ]
      refine wpAnyH_take (i := 5) (v := ?_) rfl (by kernel_rfl) (by kernel_rfl) (by kernel_rfl) (fun _ _ _ h => h) (Or.inl ⟨by rfl, ?_⟩) (by assumption) ?_
      rotate_left
      ·intro w hSw; go_simp; (try with_reducible rfl)
      change wpAnyH _ _ _ _ _ _ _ (Act.put _ (some 69) _) _; simp only [Act.put, List.setIfInBounds_toArray, List.set_cons_zero, List.set_cons_succ]
      refine wpAnyH_take (i := 6) (v := ?_) rfl (by kernel_rfl) (by kernel_rfl) (by kernel_rfl) (fun _ _ _ h => h) (Or.inl ⟨by rfl, ?_⟩) (by assumption) ?_
      rotate_left
      ·intro w hSw; go_simp; (try with_reducible rfl)
      change wpAnyH _ _ _ _ _ _ _ (Act.put _ (some 70) _) _; simp only [Act.put, List.setIfInBounds_toArray, List.set_cons_zero, List.set_cons_succ]
      refine wpAnyH_take (i := 7) (v := ?_) rfl (by kernel_rfl) (by kernel_rfl) (by kernel_rfl) (fun _ _ _ h => h) (Or.inl ⟨by rfl, ?_⟩) (by assumption) ?_
      rotate_left
      ·intro w hSw; go_simp; (try with_reducible rfl)
      change wpAnyH _ _ _ _ _ _ _ (Act.put _ (some 71) _) _; simp only [Act.put, List.setIfInBounds_toArray, List.set_cons_zero, List.set_cons_succ]
      refine wpAnyH_take (i := 8) (v := ?_) rfl (by kernel_rfl) (by kernel_rfl) (by kernel_rfl) (fun _ _ _ h => h) (Or.inl ⟨by rfl, ?_⟩) (by assumption) ?_
      rotate_left
      ·intro w hSw; go_simp; (try with_reducible rfl)
      change wpAnyH _ _ _ _ _ _ _ (Act.put _ (some 72) _) _; simp only [Act.put, List.setIfInBounds_toArray, List.set_cons_zero, List.set_cons_succ]
      refine wpAnyH_take (i := 9) (v := ?_) rfl (by kernel_rfl) (by kernel_rfl) (by kernel_rfl) (fun _ _ _ h => h) (Or.inl ⟨by rfl, ?_⟩) (by assumption) ?_
      rotate_left
      ·intro w hSw; go_simp; (try with_reducible rfl)
      change wpAnyH _ _ _ _ _ _ _ (Act.put _ (some 73) _) _; simp only [Act.put, List.setIfInBounds_toArray, List.set_cons_zero, List.set_cons_succ]
      refine wpAnyH_take (i := 10) (v := ?_) rfl (by kernel_rfl) (by kernel_rfl) (by kernel_rfl) (fun _ _ _ h => h) (Or.inl ⟨by rfl, ?_⟩) (by assumption) ?_
      rotate_left
      ·intro w hSw; go_simp; (try with_reducible rfl)
      change wpAnyH _ _ _ _ _ _ _ (Act.put _ (some 74) _) _; simp only [Act.put, List.setIfInBounds_toArray, List.set_cons_zero, List.set_cons_succ]
      refine wpAnyH_take (i := 11) (v := ?_) rfl (by kernel_rfl) (by kernel_rfl) (by kernel_rfl) (fun _ _ _ h => h) (Or.inl ⟨by rfl, ?_⟩) (by assumption) ?_
      rotate_left
      ·intro w hSw; go_simp; (try with_reducible rfl)
      change wpAnyH _ _ _ _ _ _ _ (Act.put _ (some 75) _) _; simp only [Act.put, List.setIfInBounds_toArray, List.set_cons_zero, List.set_cons_succ]
      refine wpAnyH_take (i := 12) (v := ?_) rfl (by kernel_rfl) (by kernel_rfl) (by kernel_rfl) (fun _ _ _ h => h) (Or.inl ⟨by rfl, ?_⟩) (by assumption) ?_
      rotate_left
      ·intro w hSw; go_simp; (try with_reducible rfl)
      change wpAnyH _ _ _ _ _ _ _ (Act.put _ (some 76) _) _; simp only [Act.put, List.setIfInBounds_toArray, List.set_cons_zero, List.set_cons_succ]
      refine wpAnyH_take (i := 13) (v := ?_) rfl (by kernel_rfl) (by kernel_rfl) (by kernel_rfl) (fun _ _ _ h => h) (Or.inl ⟨by rfl, ?_⟩) (by assumption) ?_
      rotate_left
      ·intro w hSw; go_simp; (try with_reducible rfl)
      change wpAnyH _ _ _ _ _ _ _ (Act.put _ (some 77) _) _; simp only [Act.put, List.setIfInBounds_toArray, List.set_cons_zero, List.set_cons_succ]
      refine wpAnyH_take (i := 14) (v := undef) rfl (by kernel_rfl) (by kernel_rfl) (by kernel_rfl) (fun _ _ _ h => h) (Or.inr ⟨by rfl, rfl⟩) (by assumption) ?_
      change wpAnyH _ _ _ _ _ _ _ (Act.put _ (some 78) _) _; simp only [Act.put, List.setIfInBounds_toArray, List.set_cons_zero, List.set_cons_succ]
      refine wpAnyH_take (i := 15) (v := undef) rfl (by kernel_rfl) (by kernel_rfl) (by kernel_rfl) (fun _ _ _ h => h) (Or.inr ⟨by rfl, rfl⟩) (by assumption) ?_
      change wpAnyH _ _ _ _ _ _ _ (Act.put _ (some 79) _) _; simp only [Act.put, List.setIfInBounds_toArray, List.set_cons_zero, List.set_cons_succ]
      refine wpAnyH_take (i := 16) (v := undef) rfl (by kernel_rfl) (by kernel_rfl) (by kernel_rfl) (fun _ _ _ h => h) (Or.inr ⟨by rfl, rfl⟩) (by assumption) ?_
      change wpAnyH _ _ _ _ _ _ _ (Act.put _ (some 80) _) _; simp only [Act.put, List.setIfInBounds_toArray, List.set_cons_zero, List.set_cons_succ]
      refine wpAnyH_take (i := 17) (v := undef) rfl (by kernel_rfl) (by kernel_rfl) (by kernel_rfl) (fun _ _ _ h => h) (Or.inr ⟨by rfl, rfl⟩) (by assumption) ?_
      change wpAnyH _ _ _ _ _ _ _ (Act.put _ (some 81) _) _; simp only [Act.put, List.setIfInBounds_toArray, List.set_cons_zero, List.set_cons_succ]
      refine wpAnyH_take (i := 18) (v := undef) rfl (by kernel_rfl) (by kernel_rfl) (by kernel_rfl) (fun _ _ _ h => h) (Or.inr ⟨by rfl, rfl⟩) (by assumption) ?_
      change wpAnyH _ _ _ _ _ _ _ (Act.put _ (some 82) _) _; simp only [Act.put, List.setIfInBounds_toArray, List.set_cons_zero, List.set_cons_succ]
      refine wpAnyH_take (i := 19) (v := undef) rfl (by kernel_rfl) (by kernel_rfl) (by kernel_rfl) (fun _ _ _ h => h) (Or.inr ⟨by rfl, rfl⟩) (by assumption) ?_
      change wpAnyH _ _ _ _ _ _ _ (Act.put _ (some 83) _) _; simp only [Act.put, List.setIfInBounds_toArray, List.set_cons_zero, List.set_cons_succ]
      refine wpAnyH_take (i := 20) (v := ?_) rfl (by kernel_rfl) (by kernel_rfl) (by kernel_rfl) (fun _ _ _ h => h) (Or.inl ⟨by rfl, ?_⟩) (by assumption) ?_
      rotate_left
      ·intro w hSw; go_simp; (try with_reducible rfl)
      change wpAnyH _ _ _ _ _ _ _ (Act.put _ (some 84) _) _; simp only [Act.put, List.setIfInBounds_toArray, List.set_cons_zero, List.set_cons_succ]
      refine wpAnyH_take (i := 21) (v := ?_) rfl (by kernel_rfl) (by kernel_rfl) (by kernel_rfl) (fun _ _ _ h => h) (Or.inl ⟨by rfl, ?_⟩) (by assumption) ?_
      rotate_left
      ·intro w hSw; go_simp; (try with_reducible rfl)
      refine wpAnyH_done (by kernel_rfl) ?_ _
      clear hHeld
      go_wp2_with fail
      go_ret
      exact ⟨false, S3, n3, rfl, HS3.out.1, HS3.out.2, HFIN.out, HBW.out⟩
    ·have dk : decide ((k : Int) < (s.size : Int)) = false := decide_eq_false (by omega)
     have HFIN : Hid (Sought p.data.toList s.data.toList (SP S) (SP S3) i k false) := by
      unfold Hid
      rw [HS1.out]
      exact sought_stop (by rw [HL.out.1]; exact hi) (by rw [HL.out.2]; exact hk) (fun S' => shut_one (by rw [HL.out.1]; exact hip) HW.out (fun a2 _ => absurd a2 (by rw [HL.out.2]; exact hks)))
     clear hC
     subst hFV
     go_enter Tryz.func75, Tryz.ntmps75
     go_upto_region 10 with fail
     refine wp_region_held_drew (S := fun W => W.cell? ⟨PB, 0, none⟩ = some (.string p) ∧ W.cell? ⟨TB, 0, none⟩ = some (.string s) ∧ W.cell? ⟨FB, 0, none⟩ = some (fromV SB PB TB FB)) (by kernel_rfl) ?_ (fun hHeld => ?_)
     ·exact ⟨by simpa using y0, by simpa using y1, by simpa using y2⟩
     rw [hWD] at hHeld ⊢
     refine wpAnyH_take (i := 0) (v := ?_) rfl (by kernel_rfl) (by kernel_rfl) (by kernel_rfl) (fun _ _ _ h => h) (Or.inl ⟨by rfl, ?_⟩) (by assumption) ?_
     rotate_left
     ·intro w hSw; go_simp; (try with_reducible rfl)
     change wpAnyH _ _ _ _ _ _ _ (Act.put _ (some 64) _) _; simp only [Act.put, List.setIfInBounds_toArray, List.set_cons_zero, List.set_cons_succ]
     refine wpAnyH_take (i := 1) (v := ?_) rfl (by kernel_rfl) (by kernel_rfl) (by kernel_rfl) (fun _ _ _ h => h) (Or.inl ⟨by rfl, ?_⟩) (by assumption) ?_
     rotate_left
     ·intro w hSw; go_simp; (try with_reducible rfl)
     change wpAnyH _ _ _ _ _ _ _ (Act.put _ (some 65) _) _; simp only [Act.put, List.setIfInBounds_toArray, List.set_cons_zero, List.set_cons_succ]
     refine wpAnyH_take (i := 2) (v := ?_) rfl (by kernel_rfl) (by kernel_rfl) (by kernel_rfl) (fun _ _ _ h => h) (Or.inl ⟨by rfl, ?_⟩) (by assumption) ?_
     rotate_left
     ·intro w hSw; go_simp; (try with_reducible rfl)
     change wpAnyH _ _ _ _ _ _ _ (Act.put _ (some 66) _) _; simp only [Act.put, List.setIfInBounds_toArray, List.set_cons_zero, List.set_cons_succ]
     refine wpAnyH_take (i := 3) (v := ?_) rfl (by kernel_rfl) (by kernel_rfl) (by kernel_rfl) (fun _ _ _ h => h) (Or.inl ⟨by rfl, ?_⟩) (by assumption) ?_
     rotate_left
     ·intro w hSw; go_simp; (try with_reducible rfl)
     change wpAnyH _ _ _ _ _ _ _ (Act.put _ (some 67) _) _; simp only [Act.put, List.setIfInBounds_toArray, List.set_cons_zero, List.set_cons_succ]
     refine wpAnyH_take (i := 4) (v := ?_) rfl (by kernel_rfl) (by kernel_rfl) (by kernel_rfl) (fun _ _ _ h => h) (Or.inl ⟨by rfl, ?_⟩) (by assumption) ?_
     rotate_left
     ·intro w hSw; go_simp; (try with_reducible rfl)
     change wpAnyH _ _ _ _ _ _ _ (Act.put _ (some 68) _) _; simp only [Act.put, List.setIfInBounds_toArray, List.set_cons_zero, List.set_cons_succ]
     refine wpAnyH_take (i := 5) (v := undef) rfl (by kernel_rfl) (by kernel_rfl) (by kernel_rfl) (fun _ _ _ h => h) (Or.inr ⟨by rfl, rfl⟩) (by assumption) ?_
     change wpAnyH _ _ _ _ _ _ _ (Act.put _ (some 69) _) _; simp only [Act.put, List.setIfInBounds_toArray, List.set_cons_zero, List.set_cons_succ]
     refine wpAnyH_take (i := 6) (v := undef) rfl (by kernel_rfl) (by kernel_rfl) (by kernel_rfl) (fun _ _ _ h => h) (Or.inr ⟨by rfl, rfl⟩) (by assumption) ?_
     change wpAnyH _ _ _ _ _ _ _ (Act.put _ (some 70) _) _; simp only [Act.put, List.setIfInBounds_toArray, List.set_cons_zero, List.set_cons_succ]
     refine wpAnyH_take (i := 7) (v := undef) rfl (by kernel_rfl) (by kernel_rfl) (by kernel_rfl) (fun _ _ _ h => h) (Or.inr ⟨by rfl, rfl⟩) (by assumption) ?_
     change wpAnyH _ _ _ _ _ _ _ (Act.put _ (some 71) _) _; simp only [Act.put, List.setIfInBounds_toArray, List.set_cons_zero, List.set_cons_succ]
     refine wpAnyH_take (i := 8) (v := undef) rfl (by kernel_rfl) (by kernel_rfl) (by kernel_rfl) (fun _ _ _ h => h) (Or.inr ⟨by rfl, rfl⟩) (by assumption) ?_
     change wpAnyH _ _ _ _ _ _ _ (Act.put _ (some 72) _) _; simp only [Act.put, List.setIfInBounds_toArray, List.set_cons_zero, List.set_cons_succ]
     refine wpAnyH_take (i := 9) (v := undef) rfl (by kernel_rfl) (by kernel_rfl) (by kernel_rfl) (fun _ _ _ h => h) (Or.inr ⟨by rfl, rfl⟩) (by assumption) ?_
     change wpAnyH _ _ _ _ _ _ _ (Act.put _ (some 73) _) _; simp only [Act.put, List.setIfInBounds_toArray, List.set_cons_zero, List.set_cons_succ]
     refine wpAnyH_take (i := 10) (v := undef) rfl (by kernel_rfl) (by kernel_rfl) (by kernel_rfl) (fun _ _ _ h => h) (Or.inr ⟨by rfl, rfl⟩) (by assumption) ?_
     change wpAnyH _ _ _ _ _ _ _ (Act.put _ (some 74) _) _; simp only [Act.put, List.setIfInBounds_toArray, List.set_cons_zero, List.set_cons_succ]
     refine wpAnyH_take (i := 11) (v := undef) rfl (by kernel_rfl) (by kernel_rfl) (by kernel_rfl) (fun _ _ _ h => h) (Or.inr ⟨by rfl, rfl⟩) (by assumption) ?_
     change wpAnyH _ _ _ _ _ _ _ (Act.put _ (some 75) _) _; simp only [Act.put, List.setIfInBounds_toArray, List.set_cons_zero, List.set_cons_succ]
     refine wpAnyH_take (i := 12) (v := ?_) rfl (by kernel_rfl) (by kernel_rfl) (by kernel_rfl) (fun _ _ _ h => h) (Or.inl ⟨by rfl, ?_⟩) (by assumption) ?_
     rotate_left
     ·intro w hSw; go_simp; (try with_reducible rfl)
     change wpAnyH _ _ _ _ _ _ _ (Act.put _ (some 76) _) _; simp only [Act.put, List.setIfInBounds_toArray, List.set_cons_zero, List.set_cons_succ]
     refine wpAnyH_take (i := 13) (v := ?_) rfl (by kernel_rfl) (by kernel_rfl) (by kernel_rfl) (fun _ _ _ h => h) (Or.inl ⟨by rfl, ?_⟩) (by assumption) ?_
     rotate_left
     ·intro w hSw; go_simp; (try with_reducible rfl)
     change wpAnyH _ _ _ _ _ _ _ (Act.put _ (some 77) _) _; simp only [Act.put, List.setIfInBounds_toArray, List.set_cons_zero, List.set_cons_succ]
     refine wpAnyH_take (i := 14) (v := undef) rfl (by kernel_rfl) (by kernel_rfl) (by kernel_rfl) (fun _ _ _ h => h) (Or.inr ⟨by rfl, rfl⟩) (by assumption) ?_
     change wpAnyH _ _ _ _ _ _ _ (Act.put _ (some 78) _) _; simp only [Act.put, List.setIfInBounds_toArray, List.set_cons_zero, List.set_cons_succ]
     refine wpAnyH_take (i := 15) (v := undef) rfl (by kernel_rfl) (by kernel_rfl) (by kernel_rfl) (fun _ _ _ h => h) (Or.inr ⟨by rfl, rfl⟩) (by assumption) ?_
     change wpAnyH _ _ _ _ _ _ _ (Act.put _ (some 79) _) _; simp only [Act.put, List.setIfInBounds_toArray, List.set_cons_zero, List.set_cons_succ]
     refine wpAnyH_take (i := 16) (v := undef) rfl (by kernel_rfl) (by kernel_rfl) (by kernel_rfl) (fun _ _ _ h => h) (Or.inr ⟨by rfl, rfl⟩) (by assumption) ?_
     change wpAnyH _ _ _ _ _ _ _ (Act.put _ (some 80) _) _; simp only [Act.put, List.setIfInBounds_toArray, List.set_cons_zero, List.set_cons_succ]
     refine wpAnyH_take (i := 17) (v := undef) rfl (by kernel_rfl) (by kernel_rfl) (by kernel_rfl) (fun _ _ _ h => h) (Or.inr ⟨by rfl, rfl⟩) (by assumption) ?_
     change wpAnyH _ _ _ _ _ _ _ (Act.put _ (some 81) _) _; simp only [Act.put, List.setIfInBounds_toArray, List.set_cons_zero, List.set_cons_succ]
     refine wpAnyH_take (i := 18) (v := undef) rfl (by kernel_rfl) (by kernel_rfl) (by kernel_rfl) (fun _ _ _ h => h) (Or.inr ⟨by rfl, rfl⟩) (by assumption) ?_
     change wpAnyH _ _ _ _ _ _ _ (Act.put _ (some 82) _) _; simp only [Act.put, List.setIfInBounds_toArray, List.set_cons_zero, List.set_cons_succ]
     refine wpAnyH_take (i := 19) (v := undef) rfl (by kernel_rfl) (by kernel_rfl) (by kernel_rfl) (fun _ _ _ h => h) (Or.inr ⟨by rfl, rfl⟩) (by assumption) ?_
     change wpAnyH _ _ _ _ _ _ _ (Act.put _ (some 83) _) _; simp only [Act.put, List.setIfInBounds_toArray, List.set_cons_zero, List.set_cons_succ]
     refine wpAnyH_take (i := 20) (v := ?_) rfl (by kernel_rfl) (by kernel_rfl) (by kernel_rfl) (fun _ _ _ h => h) (Or.inl ⟨by rfl, ?_⟩) (by assumption) ?_
     rotate_left
     ·intro w hSw; go_simp; (try with_reducible rfl)
     change wpAnyH _ _ _ _ _ _ _ (Act.put _ (some 84) _) _; simp only [Act.put, List.setIfInBounds_toArray, List.set_cons_zero, List.set_cons_succ]
     refine wpAnyH_take (i := 21) (v := ?_) rfl (by kernel_rfl) (by kernel_rfl) (by kernel_rfl) (fun _ _ _ h => h) (Or.inl ⟨by rfl, ?_⟩) (by assumption) ?_
     rotate_left
     ·intro w hSw; go_simp; (try with_reducible rfl)
     refine wpAnyH_done (by kernel_rfl) ?_ _
     clear hHeld
     go_wp2_with fail
     go_ret
     exact ⟨false, S3, n3, rfl, HS3.out.1, HS3.out.2, HFIN.out, HBW.out⟩
theorem from_is (p s : ByteArray) (mb SB PB TB FB tot : Nat) (hp : p.size ≤ 900) (hs : s.size ≤ 900) (ht : tot ≤ 900000) : ∀ (m i k : Nat), (p.size - i) + (s.size - k) = m → i ≤ p.size → k ≤ s.size → FromC p s mb SB PB TB FB tot i k := by
 intro m
 induction m using Nat.strongRecOn with
 | _ m ih =>
  intro i k hm hi hk
  exact from_step p s mb SB PB TB FB tot i k hp hs ht hi hk (fun h => ih _ (by omega) (i + 1) k rfl (by omega) hk) (fun h => ih _ (by omega) i (k + 1) rfl hi (by omega)) (fun h h' => ih _ (by omega) (i + 1) (k + 1) rfl (by omega) (by omega))
end Go.Proofs.YtfdlopimncodcaaGreatDoor
