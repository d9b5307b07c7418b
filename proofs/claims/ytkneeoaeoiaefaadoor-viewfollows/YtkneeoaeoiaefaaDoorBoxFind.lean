/-
  Where a message stands in a box: cmp.Compare of numbers, slices.BinarySearchFunc over messages, Find.
-/
import Derived.Test.YtkneeoaeoiaefaaDoorBoxMem
import Derived.Deep.QuietTactic
import Derived.BigQuiet
import Derived.Deep.RegionWith
import Derived.Shelf.Abstract
namespace Go.Proofs.YtkneeoaeoiaefaaDoor
open Go.RowKit Go.Proofs.Aid Go.Proofs.Bx

def cmpI (a b : Int) : Int := if a < b then -1 else if b < a then 1 else 0
theorem isNaN_int (a : Int) (w : World) : Calls Tryd.prog 36 #[.int .i64 a] w fun e w' => e = .returned (.bool false) ∧ w' = w := by
  go_enter Tryd.func36, Tryd.ntmps36
  go_wp2_with fail
  go_ret
  exact ⟨by simp, rfl⟩
set_option maxHeartbeats 1000000 in
theorem compare_int (a b : Int) (w : World) : Calls Tryd.prog 25 #[.int .i64 a, .int .i64 b] w fun e w' => e = .returned (.int .i64 (cmpI a b)) ∧ w' = w := by
  have c1 := fun W => isNaN_int a W
  have c2 := fun W => isNaN_int b W
  unfold cmpI
  by_cases h1 : a < b
  · rw [if_pos h1]
    have d1 : decide (a < b) = true := decide_eq_true h1
    go_enter Tryd.func25, Tryd.ntmps25
    go_wp2_with fail
    refine (c1 _).mono ?_
    rintro e w1 ⟨rfl, hw⟩
    obtain rfl : w = w1 := hw.symm
    go_wp2_with fail
    refine (c2 _).mono ?_
    rintro e w1 ⟨rfl, hw⟩
    obtain rfl : w = w1 := hw.symm
    go_wp2_with fail
    go_ret
    exact ⟨rfl, rfl⟩
  · rw [if_neg h1]
    have d1 : decide (a < b) = false := decide_eq_false h1
    by_cases h2 : b < a
    · rw [if_pos h2]
      have d2 : decide (b < a) = true := decide_eq_true h2
      go_enter Tryd.func25, Tryd.ntmps25
      go_wp2_with fail
      refine (c1 _).mono ?_
      rintro e w1 ⟨rfl, hw⟩
      obtain rfl : w = w1 := hw.symm
      go_wp2_with fail
      refine (c2 _).mono ?_
      rintro e w1 ⟨rfl, hw⟩
      obtain rfl : w = w1 := hw.symm
      go_wp2_with fail
      go_ret
      exact ⟨rfl, rfl⟩
    · rw [if_neg h2]
      have d2 : decide (b < a) = false := decide_eq_false h2
      go_enter Tryd.func25, Tryd.ntmps25
      go_wp2_with fail
      refine (c1 _).mono ?_
      rintro e w1 ⟨rfl, hw⟩
      obtain rfl : w = w1 := hw.symm
      go_wp2_with fail
      refine (c2 _).mono ?_
      rintro e w1 ⟨rfl, hw⟩
      obtain rfl : w = w1 := hw.symm
      go_wp2_with fail
      go_ret
      exact ⟨rfl, rfl⟩
set_option maxHeartbeats 1000000 in
theorem find1_is (u x d : Int) (fv : Value) (t : ByteArray) (w : World) : Calls Tryd.prog 24 #[.agg #[.int .i64 x, fv, .int .i64 d, .string t], .int .i64 u] w fun e w' => e = .returned (.int .i64 (cmpI x u)) ∧ Below w.heap.size w w' := by
  have c := fun W => compare_int x u W
  go_enter Tryd.func24, Tryd.ntmps24
  go_wp2_with fail
  refine (c _).mono ?_
  rintro e w1 ⟨rfl, hw⟩
  have hb : Below w.heap.size w w1 := by rw [hw]; exact (Below.refl _ _).alloc (Nat.le_refl _) _
  clear c hw
  go_wp2_with fail
  go_ret
  exact ⟨rfl, hb⟩
theorem cmpI_neg (a b : Int) : cmpI a b < 0 ↔ a < b := by unfold cmpI; split <;> (try split) <;> omega
theorem cmpI_zero (a b : Int) : cmpI a b = 0 ↔ a = b := by unfold cmpI; split <;> (try split) <;> omega
set_option maxHeartbeats 4000000 in
set_option maxRecDepth 100000 in
theorem search_lts (v : Value) (l : List Lt) (u : Int) (w : World) (h : Lts w v l) (hr : Rise l) (hl : l.length ≤ 1000) :
    Calls Tryd.prog 23 #[v, .int .i64 u, .func (.func 24) #[] #[]] w fun e w' => e = .returned (.tuple #[.int .i64 (findI l u : Int), .bool (findB l u)]) ∧ Below w.heap.size w w' := by
  obtain ⟨a, c, rfl, _, ha⟩ := h
  obtain ⟨n, hn⟩ : ∃ n, l.length = n := ⟨_, rfl⟩
  rw [hn] at hl ⊢
  have eg : ∀ args w, (callFunc 24 args).run Tryd.prog w = .ok (.enter 24 args) w := enters_of Tryd.func24 (by kernel_rfl) rfl
  have HO : Hid (Rise l) := hr
  obtain ⟨FI, hFI⟩ : ∃ C, findI l u = C := ⟨_, rfl⟩
  obtain ⟨FB, hFB⟩ : ∃ C, findB l u = C := ⟨_, rfl⟩
  rw [hFI, hFB]
  have HC : Hid (findI l u = FI ∧ findB l u = FB) := ⟨hFI, hFB⟩
  have HAT : Hid (l = [] ∨ ∃ b o, a = some ⟨b, o, none⟩ ∧ ∀ (j : Nat) x, l[j]? = some x → LtAt w b (o + j * 4) x) := ha
  have HN : Hid (l.length = n) := hn
  clear hr hFI hFB ha hn
  go_enter Tryd.func23, Tryd.ntmps23
  go_wp2_with fail
  go_loopw [9, 10] (fun si sj wr => ∃ i j : Nat, si = .int .i64 (i : Int) ∧ sj = .int .i64 (j : Int) ∧ i ≤ j ∧ j ≤ n ∧ Hid (∀ t (h : t < l.length), t < i → l[t].uid < u) ∧ Hid (∀ (h : j < l.length), u ≤ l[j].uid) ∧ Below w.heap.size w wr) (fun si sj _ => (intOf sj).toNat - (intOf si).toNat)
  case atStart => exact ⟨0, n, rfl, rfl, Nat.zero_le _, Nat.le_refl _, fun t _ h => absurd h (by omega), fun h => absurd h (by rw [HN.out]; omega), Below.refl _ _⟩
  case round =>
    obtain ⟨i, j, rfl, rfl, hij, hjn, H1, H2, hb⟩ := hrel
    have HB : Hid (Below w.heap.size w wr) := hb
    by_cases hlt : i < j
    · have hml : (i + j) / 2 < l.length := by rw [HN.out]; omega
      obtain ⟨b, o, rfl, hat⟩ : ∃ b o, a = some ⟨b, o, none⟩ ∧ ∀ (j : Nat) x, l[j]? = some x → LtAt w b (o + j * 4) x := by
        rcases HAT.out with h | h
        · rw [h] at hml; simp at hml
        · exact h
      obtain ⟨q1, ⟨fv, q2, _⟩, q3, q4⟩ := (hat _ _ (List.getElem?_eq_getElem hml)).below hb (Nat.le_refl _)
      obtain ⟨y, hy⟩ : ∃ y, l[(i + j) / 2] = y := ⟨_, rfl⟩
      have HY : Hid (l[(i + j) / 2] = y) := hy
      rw [hy] at q1 q3 q4
      have cY := fun W => find1_is u y.uid y.day fv ⟨y.text.toArray⟩ W
      obtain ⟨z, hz⟩ : ∃ z, cmpI y.uid u = z := ⟨_, rfl⟩
      have HZ : Hid (cmpI y.uid u = z) := hz
      rw [hz] at cY
      obtain ⟨YU, hYU⟩ : ∃ z, y.uid = z := ⟨_, rfl⟩
      obtain ⟨YD, hYD⟩ : ∃ z, y.day = z := ⟨_, rfl⟩
      obtain ⟨YT, hYT⟩ : ∃ z : ByteArray, ⟨y.text.toArray⟩ = z := ⟨_, rfl⟩
      rw [hYU, hYD, hYT] at cY
      rw [hYU] at q1
      rw [hYD] at q3
      rw [hYT] at q4
      clear hat hy hz hYU hYD hYT hb
      by_cases hz0 : z < 0
      · go_wp2_with fail
        refine (cY _).mono ?_
        rintro e w' ⟨rfl, hb2⟩
        have HB2 : Hid (Below w.heap.size w w') := HB.out.trans (hb2.mono HB.out.size)
        clear cY hb2
        go_wp2_with fail
        go_roundw
        case rel => exact ⟨(i + j) / 2 + 1, j, by rw [show ((i : Int) + (j : Int)) / 2 + 1 = (((i + j) / 2 + 1 : Nat) : Int) by omega], rfl, by omega, hjn, below_mid HO.out hml (by rw [HY.out]; exact (cmpI_neg _ _).1 (by rw [HZ.out]; exact hz0)), H2, HB2.out⟩
        case measure => simp [intOf]; omega
      · go_wp2_with fail
        refine (cY _).mono ?_
        rintro e w' ⟨rfl, hb2⟩
        have HB2 : Hid (Below w.heap.size w w') := HB.out.trans (hb2.mono HB.out.size)
        clear cY hb2
        go_wp2_with fail
        go_roundw
        case rel => exact ⟨i, (i + j) / 2, rfl, by rw [show ((i : Int) + (j : Int)) / 2 = (((i + j) / 2 : Nat) : Int) by omega], by omega, by omega, H1, fun h => by rw [HY.out]; have := mt (cmpI_neg y.uid u).2 (by rw [HZ.out]; omega); omega, HB2.out⟩
        case measure => simp [intOf]; omega
    · obtain rfl : j = i := by omega
      have HFI : Hid (FI = j) := by show FI = j; rw [← HC.out.1]; exact find_at H1.out (by rw [HN.out]; exact hjn) H2.out
      have hFI := HFI.out
      subst hFI
      by_cases hin : FI < n
      · have hml : FI < l.length := by rw [HN.out]; omega
        obtain ⟨b, o, rfl, hat⟩ : ∃ b o, a = some ⟨b, o, none⟩ ∧ ∀ (j : Nat) x, l[j]? = some x → LtAt w b (o + j * 4) x := by
          rcases HAT.out with h | h
          · rw [h] at hml; simp at hml
          · exact h
        obtain ⟨q1, ⟨fv, q2, _⟩, q3, q4⟩ := (hat _ _ (List.getElem?_eq_getElem hml)).below hb (Nat.le_refl _)
        have HF : Hid (findB l u = decide (l[FI].uid = u)) := by
          rcases find_some HO.out H1.out hml with h | h
          · exact h
          · have := H2.out hml; omega
        obtain ⟨y, hy⟩ : ∃ y, l[FI] = y := ⟨_, rfl⟩
        have HY : Hid (l[FI] = y) := hy
        rw [hy] at q1 q3 q4
        have cY := fun W => find1_is u y.uid y.day fv ⟨y.text.toArray⟩ W
        obtain ⟨z, hz⟩ : ∃ z, cmpI y.uid u = z := ⟨_, rfl⟩
        have HZ : Hid (cmpI y.uid u = z) := hz
        rw [hz] at cY
        obtain ⟨YU, hYU⟩ : ∃ z, y.uid = z := ⟨_, rfl⟩
        obtain ⟨YD, hYD⟩ : ∃ z, y.day = z := ⟨_, rfl⟩
        obtain ⟨YT, hYT⟩ : ∃ z : ByteArray, ⟨y.text.toArray⟩ = z := ⟨_, rfl⟩
        rw [hYU, hYD, hYT] at cY
        rw [hYU] at q1
        rw [hYD] at q3
        rw [hYT] at q4
        have HFB : Hid (FB = (z == 0)) := by
          show FB = _
          rw [← HC.out.2, HF.out, HY.out]
          by_cases h0 : z = 0
          · rw [decide_eq_true ((cmpI_zero _ _).1 (HZ.out.trans h0)), h0]; rfl
          · rw [decide_eq_false (fun e => h0 (HZ.out.symm.trans ((cmpI_zero _ _).2 e)))]; simpa using h0
        clear hat hy hz hYU hYD hYT hb HF
        by_cases hz0 : z = 0
        · subst hz0
          go_wp2_with fail
          refine (cY _).mono ?_
          rintro e w' ⟨rfl, hb2⟩
          have HB2 : Hid (Below w.heap.size w w') := HB.out.trans (hb2.mono HB.out.size)
          clear cY hb2
          go_wp2_with fail
          go_ret2
          exact ⟨by rw [HFB.out]; rfl, HB2.out⟩
        · have hzb : (z == 0) = false := by simpa using hz0
          go_wp2_with fail
          refine (cY _).mono ?_
          rintro e w' ⟨rfl, hb2⟩
          have HB2 : Hid (Below w.heap.size w w') := HB.out.trans (hb2.mono HB.out.size)
          clear cY hb2
          go_wp2_with fail
          go_ret2
          exact ⟨by rw [HFB.out, hzb]; rfl, HB2.out⟩
      · have HFB : Hid (FB = false) := by
          show FB = false
          rw [← HC.out.2]
          exact find_none fun t h => H1.out t h (by have := HN.out; omega)
        have hFB := HFB.out
        subst hFB
        clear hb
        go_wp2_with fail
        go_ret2
        exact ⟨rfl, HB.out⟩
set_option maxHeartbeats 1000000 in
theorem find_is (bb : Nat) (v n u : Int) (l : List Lt) (w : World) (h : BoxAt w bb v n l) (hr : Rise l) (hl : l.length ≤ 1000) :
    Calls Tryd.prog 10 #[.pointer (some ⟨bb, 0, none⟩), .int .i64 u] w fun e w' => e = .returned (.tuple #[.int .i64 (findI l u : Int), .bool (findB l u)]) ∧ Below w.heap.size w w' := by
  obtain ⟨lv, h1, h2⟩ := h
  have cS := search_lts lv l u w h2 hr hl
  have p2 : w.cell? ⟨bb, 2, none⟩ = some lv := rd_cell h1 rfl
  obtain ⟨FI, hFI⟩ : ∃ C, findI l u = C := ⟨_, rfl⟩
  obtain ⟨FB, hFB⟩ : ∃ C, findB l u = C := ⟨_, rfl⟩
  rw [hFI, hFB] at cS ⊢
  obtain ⟨a, c, rfl, _⟩ := h2
  clear h1 hFI hFB
  go_enter Tryd.func10, Tryd.ntmps10
  go_wp2_with fail
  refine cS.mono ?_
  rintro e w1 ⟨rfl, hb⟩
  go_wp2_with fail
  go_ret2
  exact ⟨rfl, hb⟩
end Go.Proofs.YtkneeoaeoiaefaaDoor
