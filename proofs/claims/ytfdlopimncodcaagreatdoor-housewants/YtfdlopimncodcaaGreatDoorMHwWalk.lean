/-
  What HouseWants does.
-/
import Derived.Test.YtfdlopimncodcaaGreatDoorMHwList
import Derived.Test.YtfdlopimncodcaaGreatDoorMHwSmall
import Derived.Test.YtfdlopimncodcaaGreatDoorMHsHoused
namespace Go.Proofs.YtfdlopimncodcaaGreatDoor
open Go.RowKit Go.Proofs.Aid Go.Proofs.Bx

theorem nequal1 {w : World} {base : Nat} {v : Value} {r : ByteArray} (h : NRow w base v [r.data.toList]) (bk : Nat) (hbk : w.heap[bk]? = some (.cells #[.string r] 9 (0, 0))) :
    Calls Tryz.prog 28 #[v, .slice (some ⟨bk, 0, none⟩) 1 1] w fun e w' => e = .returned (.bool true) ∧ Below w.heap.size w w' := by
  obtain ⟨g, cap, rfl, hg⟩ := nrow_at h (j := 0) (x := r.data.toList) rfl
  rw [enc_ba] at hg
  have := Tryz.slices_Equal_string g 0 1 cap bk 0 1 1 [r] [r] w (Nat.le_refl 1) (Nat.le_refl 1) (by decide) (by decide) (fun j hj => by
    obtain rfl : j = 0 := by simpa using hj
    exact hg) (fun j hj => by
    obtain rfl : j = 0 := by simpa using hj
    exact rd_cell hbk rfl)
  rw [decide_eq_true rfl] at this
  refine this.mono ?_
  rintro e w' ⟨rfl, q, rfl⟩
  exact ⟨rfl, below_drewN (Below.refl _ _) q⟩
theorem henv_low {w w' : World} (h : HEnv w) (hb : Below w.heap.size w w') : NEnv w' ∧ ErrType w' := ⟨h.1.below hb, h.2.1.below hb⟩
/-- What stands while deeds are done. -/
def HwI (w : World) (hb mb base : Nat) (a : Option Addr) (c : Nat) (n : Nm) (k : Nat) (wr : World) : Prop :=
  Below w.heap.size w wr ∧ (∃ l nx, HsAt wr hb mb l nx (.slice a 1 c) ∧ BxOk wr w.heap.size k l ∧ l.length ≤ 30 ∧ 0 ≤ nx ∧ nx ≤ 30 * (k : Int) + 2) ∧ NRow wr base (.slice a 1 c) [n] ∧ base ≤ wr.heap.size
theorem HwI.next {w wr w' : World} {hb mb base c k : Nat} {a : Option Addr} {n : Nm} {l : Bxs} {nx : Int} (h : HwI w hb mb base a c n k wr) (hn : 0 ≤ nx ∧ nx ≤ 30 * (k : Int) + 2) (hL : Left w.heap.size hb mb (k + 1) nx (.slice a 1 c) wr w') (_hl : l = l) : HwI w hb mb base a c n (k + 1) w' := by
  obtain ⟨h1, _, h3, h4⟩ := h
  obtain ⟨f, l', mx, g1, g2, g3, g4, g5⟩ := hL
  exact ⟨h1.trans f.low, ⟨l', mx, g1, g2, g3, by omega, by omega⟩, f.nrow h3, Nat.le_trans h4 f.low.size⟩
theorem HwI.below {w wr w' : World} {hb mb base c k : Nat} {a : Option Addr} {n : Nm} (h : HwI w hb mb base a c n k wr) (hb' : Below wr.heap.size wr w') : HwI w hb mb base a c n k w' := by
  obtain ⟨h1, ⟨l, nx, g1, g2, g3⟩, h3, h4⟩ := h
  exact ⟨h1.trans (hb'.mono h1.size), ⟨l, nx, g1.below hb' (Nat.le_refl _), g2.hk g1 (HK.of hb'), g3⟩, h3.below hb' (Nat.le_refl _), Nat.le_trans h4 hb'.size⟩
theorem HwI.more {w wr : World} {hb mb base c k : Nat} {a : Option Addr} {n : Nm} (h : HwI w hb mb base a c n k wr) : HwI w hb mb base a c n (k + 1) wr := by
  obtain ⟨h1, ⟨l, nx, g1, g2, g3, g4, g5⟩, h3, h4⟩ := h
  exact ⟨h1, ⟨l, nx, g1, g2.more (by omega), g3, g4, by omega⟩, h3, h4⟩
set_option maxHeartbeats 2000000 in
theorem hw_big (v : Value) (L : List Dd) (s : ByteArray) (w : World) (h : Dds w v L) (hb : smallB L = false ∨ 100 < s.size) :
    Calls Tryz.prog 6 #[v, .string s] w fun e w' => e = .returned (.bool true) ∧ Below w.heap.size w w' := by
  have cS := small_is v L w h
  obtain ⟨a, c, rfl, _⟩ := h
  obtain ⟨len, hn⟩ : ∃ n, L.length = n := ⟨_, rfl⟩
  rw [hn] at cS ⊢
  cases hB : smallB L with
  | false =>
    rw [hB] at cS
    clear hb hB hn
    go_enter Tryz.func6, Tryz.ntmps6
    go_wp2_with fail
    refine cS.mono ?_
    rintro e w1 ⟨rfl, hw⟩
    obtain rfl : w = w1 := hw.symm
    clear cS hw
    go_wp2_with fail
    go_ret
    exact ⟨rfl, Below.refl _ _⟩
  | true =>
    rw [hB] at cS
    have d1 : decide ((100 : Int) < (s.size : Int)) = true := decide_eq_true (by
      rcases hb with h | h
      · rw [hB] at h; cases h
      · omega)
    clear hb hB hn
    go_enter Tryz.func6, Tryz.ntmps6
    go_wp2_with fail
    refine cS.mono ?_
    rintro e w1 ⟨rfl, hw⟩
    obtain rfl : w = w1 := hw.symm
    clear cS hw
    go_wp2_with fail
    go_ret
    exact ⟨rfl, Below.refl _ _⟩
set_option maxHeartbeats 8000000 in
set_option maxRecDepth 100000 in
theorem hw_walk (v : Value) (L : List Dd) (s : ByteArray) (w : World) (h : Dds w v L) (hE : HEnv w) (hB : smallB L = true) (hs : s.size ≤ 100) :
    Calls Tryz.prog 6 #[v, .string s] w fun e w' => e = .returned (.bool true) ∧ Below w.heap.size w w' := by
  have cS := small_is v L w h
  rw [hB] at cS
  have cH := housed_is w hE
  obtain ⟨a0, c0, rfl, _⟩ := id h
  obtain ⟨len, hn⟩ : ∃ n, L.length = n := ⟨_, rfl⟩
  rw [hn] at cS ⊢
  have HD : Hid (Dds w (.slice a0 len c0) L ∧ L.length = len ∧ len ≤ 40 ∧ ∀ x ∈ L, x.s.size ≤ 100 ∧ x.t.size ≤ 100) := by
    unfold smallB at hB
    simp only [Bool.and_eq_true, decide_eq_true_eq, List.all_eq_true, smallD] at hB
    exact ⟨by rw [← hn]; exact h, hn, by omega, fun x hx => hB.2 x hx⟩
  have HE : Hid (HEnv w) := hE
  have hG : 8 ≤ w.heap.size := hE.2.2
  have d1 : decide ((100 : Int) < (s.size : Int)) = false := decide_eq_false (by omega)
  clear h hE hB hn
  go_enter Tryz.func6, Tryz.ntmps6
  go_wp2_with fail
  refine cS.mono ?_
  rintro e w0 ⟨rfl, hw⟩
  obtain rfl : w = w0 := hw.symm
  clear cS hw
  go_wp2_with fail
  refine cH.mono ?_
  rintro e w1 ⟨rfl, hb1⟩
  have cN := new_is w1
  have HB1 : Hid (Below w.heap.size w w1) := hb1
  obtain ⟨H1, hH1⟩ : ∃ k, w1.heap.size = k := ⟨_, rfl⟩
  have HH1 : Hid (w1.heap.size = H1 ∧ w.heap.size ≤ H1) := ⟨hH1, by rw [← hH1]; exact hb1.size⟩
  rw [hH1] at cN
  clear cH hb1 hH1
  go_wp2_with fail
  refine cN.mono ?_
  rintro e w2 ⟨rfl, h2, hn2, hb2⟩
  have hB2 : Below w.heap.size w w2 := HB1.out.trans (hb2.mono HH1.out.2)
  have hz2 : H1 ≤ w2.heap.size := by have := hb2.size; have := HH1.out.1; omega
  have cM := name_is s w2 (henv_low HE.out hB2).1 (by omega)
  have HX2 : Hid (HsAt w2 (H1 + 1) H1 [(inboxN, H1 + 2)] 2 (.slice none 0 0) ∧ NewBox w2 (H1 + 2) 1 ∧ Below w.heap.size w w2) := ⟨h2, hn2, hB2⟩
  clear cN h2 hn2 hb2 hB2
  go_wp2_with fail
  refine cM.mono ?_
  rintro e w3 ⟨hb3, ⟨r, hr, hr2, rfl⟩ | ⟨hr, rfl⟩⟩
  · have h3 := HX2.out.1.below hb3 (Nat.le_refl _)
    have hB3 : Below w.heap.size w w3 := HX2.out.2.2.trans (hb3.mono HX2.out.2.2.size)
    have cW := want_miss nameB (H1 + 1) H1 _ 2 none 0 s r.data.toList w3 (nameC (henv_low HE.out hB3).1) h3 (by omega) hr
    have HX3 : Hid (HsAt w3 (H1 + 1) H1 [(inboxN, H1 + 2)] 2 (.slice none 0 0) ∧ NewBox w3 (H1 + 2) 1 ∧ Below w.heap.size w w3 ∧ nameB s.data.toList = some r.data.toList) := ⟨h3, (hb3.block _ (Array.getElem?_eq_some_iff.1 HX2.out.2.1).1).trans HX2.out.2.1, hB3, hr⟩
    clear cM hb3 h3 hB3 hr HX2
    go_wp2_with fail
    refine cW.mono ?_
    rintro e w4 ⟨rfl, hb4⟩
    have hB4 : Below w.heap.size w w4 := HX3.out.2.2.1.trans (hb4.mono HX3.out.2.2.1.size)
    have cT := tell_err 7 w4 (henv_low HE.out hB4).2
    have HX4 : Hid (HsAt w4 (H1 + 1) H1 [(inboxN, H1 + 2)] 2 (.slice none 0 0) ∧ NewBox w4 (H1 + 2) 1 ∧ Below w.heap.size w w4 ∧ nameB s.data.toList = some r.data.toList) := ⟨HX3.out.1.below hb4 (Nat.le_refl _), (hb4.block _ (Array.getElem?_eq_some_iff.1 HX3.out.2.1).1).trans HX3.out.2.1, hB4, HX3.out.2.2.2⟩
    clear cW hb4 hB4 HX3
    go_wp2_with fail
    refine cT.mono ?_
    rintro e w5 ⟨rfl, hb5⟩
    have hB5 : Below w.heap.size w w5 := HX4.out.2.2.1.trans (hb5.mono HX4.out.2.2.1.size)
    have h5 := HX4.out.1.below hb5 (Nat.le_refl _)
    have cP := want_put nameB (H1 + 1) H1 _ 2 s r.data.toList w5 (nameC (henv_low HE.out hB5).1) h5 (by omega) HX4.out.2.2.2
    have HX5 : Hid (HsAt w5 (H1 + 1) H1 [(inboxN, H1 + 2)] 2 (.slice none 0 0) ∧ NewBox w5 (H1 + 2) 1 ∧ Below w.heap.size w w5 ∧ nameB s.data.toList = some r.data.toList) := ⟨h5, (hb5.block _ (Array.getElem?_eq_some_iff.1 HX4.out.2.1).1).trans HX4.out.2.1, hB5, HX4.out.2.2.2⟩
    clear cT hb5 hB5 h5 HX4
    go_wp2_with fail
    refine cP.mono ?_
    rintro e w6 ⟨rfl, hk6, v6, base, hb6, h6, hr6⟩
    obtain ⟨a, c, rfl⟩ : ∃ a c, v6 = .slice a 1 c := row_form hr6
    have hHb : w.heap.size ≤ H1 := HH1.out.2
    have HI6 : Hid (HwI w (H1 + 1) H1 base a c r.data.toList 0 w6) := by
      have hlow : Below w.heap.size w5 w6 := hk6.below HX5.out.2.2.1.size (by omega) hHb
      refine ⟨HX5.out.2.2.1.trans hlow, ⟨_, _, h6, fun p hp => ?_, by simp, by omega, by omega⟩, hr6, (by
        obtain ⟨g, cap, eg, hcg⟩ := nrow_at hr6 (j := 0) (x := r.data.toList) rfl
        have h7 := hr6.lt g (by rw [eg]; rfl)
        omega)⟩
      obtain rfl : p = (inboxN, H1 + 2) := by simpa using hp
      refine ⟨by show w.heap.size ≤ H1 + 2; omega, by show inboxN.length ≤ 60; decide, 1, 1, [], ?_, by omega, by omega, Nat.zero_le _⟩
      exact (newBox_at HX5.out.2.1).hk HX5.out.1 hk6
    have HBS : Hid (H1 + 2 < base ∧ nameB s.data.toList = some r.data.toList) := ⟨by have := (Array.getElem?_eq_some_iff.1 HX5.out.2.1).1; omega, HX5.out.2.2.2⟩
    clear cP hk6 hb6 h6 hr6 HX5 HB1
    go_wp2_with fail
    go_loopw [8] (fun iv wr => ∃ k : Nat, iv = .int .i64 (k : Int) ∧ k ≤ len ∧ Hid (HwI w (H1 + 1) H1 base a c r.data.toList k wr)) (fun iv _ => len - (intOf iv).toNat)
    case atStart => exact ⟨0, rfl, Nat.zero_le _, HI6⟩
    case round =>
      clear HI6
      obtain ⟨k, rfl, hk, HI⟩ := hrel
      by_cases hlt : k < len
      · have q1 : decide ((k : Int) < (len : Int)) = true := decide_eq_true (by omega)
        have i1 : (0 : Int) ≤ (k : Int) := by omega
        have i2 : (k : Int) < (len : Int) := by omega
        obtain ⟨x, hxk⟩ : ∃ x, L[k]? = some x := ⟨_, List.getElem?_eq_getElem (by have := HD.out.2.1; omega)⟩
        obtain ⟨xb, xo, rfl, x0, x1, x2, x3⟩ := dds_at (HD.out.1.below HI.out.1 (Nat.le_refl _)) hxk
        obtain ⟨xw, xs, xt, xy⟩ := x
        have hxs := HD.out.2.2.2 _ (List.mem_of_getElem? hxk)
        have x0 : wr.cell? ⟨xb, xo + k * 4, none⟩ = some (.int .i64 xw) := x0
        have x1 : wr.cell? ⟨xb, xo + k * 4 + 1, none⟩ = some (.string xs) := x1
        have x2 : wr.cell? ⟨xb, xo + k * 4 + 2, none⟩ = some (.string xt) := x2
        have x3 : wr.cell? ⟨xb, xo + k * 4 + 3, none⟩ = some (.bool xy) := x3
        have hxs1 : xs.size ≤ 100 := hxs.1
        have hxt1 : xt.size ≤ 100 := hxs.2
        have hk40 : k ≤ 40 := by have := HD.out.2.2.1; omega
        clear hxs hxk
        by_cases k3 : xw = 3
        · subst k3
          have HN : Hid (HwI w (H1 + 1) H1 base a c r.data.toList (k + 1) wr) := HI.out.more
          clear HI
          go_wp2_with fail
          go_roundw
          case rel => exact ⟨k + 1, by go_num, by omega, HN⟩
          case measure => simp [intOf]; omega
        · have d3 : (xw == 3) = false := beq_eq_false_iff_ne.2 k3
          obtain ⟨hI1, ⟨l, nx, g1, g2, g3, g4, g5⟩, hI3, hI4⟩ := HI.out
          have cD := deed_is w.heap.size (H1 + 1) H1 k l nx a 1 c xw xs xt xy wr (henv_low HE.out hI1).1 g1 g2 g3 (by omega) (by omega) (by omega) (by omega) hI1.size (by omega) hHb k3
          have HNX : Hid (∀ w', Left w.heap.size (H1 + 1) H1 (k + 1) nx (.slice a 1 c) wr w' → HwI w (H1 + 1) H1 base a c r.data.toList (k + 1) w') := fun w' hL => HI.out.next (l := l) ⟨g4, g5⟩ hL rfl
          clear hI1 g1 g2 g3 g4 g5 hI3 hI4 HI
          go_wp2_with fail
          refine cD.mono ?_
          rintro e w7 ⟨⟨ve, rfl⟩, hL⟩
          have HI7 : Hid (HwI w (H1 + 1) H1 base a c r.data.toList (k + 1) w7) := HNX.out w7 hL
          clear cD hL HNX x0 x1 x2 x3
          obtain ⟨hI1, ⟨l7, nx7, g1, g2, g3, _⟩, hI3, _⟩ := HI7.out
          have hrl : r.data.toList.length ≤ 60 := by rw [Array.length_toList]; exact hr2
          have cL := list_is (H1 + 1) H1 base l7 nx7 (.slice a 1 c) [r.data.toList] w7 g1 (by omega) (Or.inl hI3) (by simp; omega) (by simp)
          clear hI1 g1 g2 g3 hI3
          go_wp2_with fail
          refine cL.mono ?_
          rintro e w8 ⟨⟨v8, rfl, base8, hr8⟩, hb8⟩
          have HI8 : Hid (HwI w (H1 + 1) H1 base a c r.data.toList (k + 1) w8) := HI7.out.below hb8
          obtain ⟨a8, c8, rfl⟩ : ∃ a c, v8 = .slice a 1 c := row_form hr8
          have b9 : Below w8.heap.size w8 (w8.alloc (.cells #[.string r] 9)) := (Below.refl _ _).alloc (Nat.le_refl _) _
          have e9 := heap_alloc_new w8 (.cells #[.string r] 9)
          obtain ⟨W9, hW9⟩ : ∃ W, w8.alloc (.cells #[.string r] 9) = W := ⟨_, rfl⟩
          rw [hW9] at b9 e9
          have cQ := nequal1 (hr8.below b9 (Nat.le_refl _)) w8.heap.size e9
          have HI9 : Hid (HwI w (H1 + 1) H1 base a c r.data.toList (k + 1) W9) := HI8.out.below b9
          clear cL hr8 hb8 b9 e9 HI7 HI8
          go_wp2_with fail
          refine cQ.mono ?_
          rintro e wa ⟨rfl, hba⟩
          have HIa : Hid (HwI w (H1 + 1) H1 base a c r.data.toList (k + 1) wa) := HI9.out.below hba
          clear cQ hba HI9
          go_wp2_with fail
          go_roundw
          case rel => exact ⟨k + 1, by go_num, by omega, HIa⟩
          case measure => simp [intOf]; omega
      · have q1 : decide ((k : Int) < (len : Int)) = false := decide_eq_false (by omega)
        have hrl : r.data.toList.length ≤ 60 := by rw [Array.length_toList]; exact hr2
        have hk40 : k ≤ 40 := by have := HD.out.2.2.1; omega
        have hid := nameB_idem HBS.out.2
        obtain ⟨hI1, ⟨l, nx, g1, g2, g3, g4, g5⟩, hI3, hI4⟩ := HI.out
        have cA := want_again nameB (H1 + 1) H1 base l nx (.slice a 1 c) r r.data.toList wr (nameC (henv_low HE.out hI1).1) g1 hI3 (by omega) hid
        have HID : Hid (nameB r.data.toList = some r.data.toList) := hid
        clear hI1 g1 g2 g3 g4 g5 hI3 hI4 hid
        go_wp2_with fail
        refine cA.mono ?_
        rintro e w7 ⟨rfl, hb7⟩
        have HI7 : Hid (HwI w (H1 + 1) H1 base a c r.data.toList k w7) := HI.out.below hb7
        obtain ⟨hI1, ⟨l7, nx7, g1, g2, g3, _⟩, hI3, _⟩ := HI7.out
        have cL := list_is (H1 + 1) H1 base l7 nx7 (.slice a 1 c) [r.data.toList] w7 g1 (by omega) (Or.inl hI3) (by simp; omega) (by simp)
        clear cA hb7 hI1 g1 g2 g3 hI3 HI
        go_wp2_with fail
        refine cL.mono ?_
        rintro e w8 ⟨⟨v8, rfl, base8, hr8⟩, hb8⟩
        have HI8 : Hid (HwI w (H1 + 1) H1 base a c r.data.toList k w8) := HI7.out.below hb8
        obtain ⟨a8, c8, rfl⟩ : ∃ a c, v8 = .slice a 1 c := row_form hr8
        obtain ⟨hI1, ⟨l8, nx8, g1, g2, g3, _⟩, hI3, hI4⟩ := HI8.out
        have cO := want_off nameB (H1 + 1) H1 base l8 nx8 (.slice a 1 c) s r.data.toList w8 (nameC (henv_low HE.out hI1).1) g1 hI3 (by have := HBS.out.1; omega) (by have := HBS.out.1; omega) hI4 (by omega) HBS.out.2
        have HX8 : Hid (Below w.heap.size w w8 ∧ l8.length ≤ 30) := ⟨hI1, g3⟩
        clear cL hr8 hb8 HI7 HI8 hI1 g1 g2 g3 hI3 hI4
        go_wp2_with fail
        refine cO.mono ?_
        rintro e w9 ⟨rfl, hbut, a9, c9, h9⟩
        have hB9 : Below w.heap.size w w9 := HX8.out.1.trans (hbut.below (by have := HBS.out.1; omega) (by omega))
        have cL2 := list_is (H1 + 1) H1 base l8 nx8 (.slice a9 0 c9) [] w9 h9 (by have := HX8.out.2; omega) (Or.inr ⟨rfl, _, _, rfl⟩) (by simp) (by simp)
        have HX9 : Hid (Below w.heap.size w w9 ∧ HsAt w9 (H1 + 1) H1 l8 nx8 (.slice a9 0 c9)) := ⟨hB9, h9⟩
        clear cO hbut h9 hB9
        go_wp2_with fail
        refine cL2.mono ?_
        rintro e wa ⟨⟨va, rfl, basea, hra⟩, hba⟩
        obtain ⟨aa, ca, rfl⟩ : ∃ a c, va = .slice a 0 c := row_form hra
        have hBa : Below w.heap.size w wa := HX9.out.1.trans (hba.mono HX9.out.1.size)
        have cM2 := want_miss nameB (H1 + 1) H1 l8 nx8 a9 c9 r r.data.toList wa (nameC (henv_low HE.out hBa).1) (HX9.out.2.below hba (Nat.le_refl _)) (by omega) HID.out
        have HBa : Hid (Below w.heap.size w wa) := hBa
        clear cL2 hra hba hBa
        go_wp2_with fail
        refine cM2.mono ?_
        rintro e wb ⟨rfl, hbb⟩
        have hBb : Below w.heap.size w wb := HBa.out.trans (hbb.mono HBa.out.size)
        have cT2 := tell_err 7 wb (henv_low HE.out hBb).2
        have HBb : Hid (Below w.heap.size w wb) := hBb
        clear cM2 hbb hBb
        go_wp2_with fail
        refine cT2.mono ?_
        rintro e wc ⟨rfl, hbc⟩
        have HBc : Hid (Below w.heap.size w wc) := HBb.out.trans (hbc.mono HBb.out.size)
        clear cT2 hbc
        go_wp2_with fail
        go_ret
        exact ⟨rfl, HBc.out⟩
  · have hB3 : Below w.heap.size w w3 := HX2.out.2.2.trans (hb3.mono HX2.out.2.2.size)
    have cW := want_bad nameB (H1 + 1) s true w3 (nameC (henv_low HE.out hB3).1) (by omega) hr
    have HB3 : Hid (Below w.heap.size w w3) := hB3
    clear cM hb3 hB3 hr HX2
    go_wp2_with fail
    refine cW.mono ?_
    rintro e w4 ⟨rfl, hb4⟩
    have hB4 : Below w.heap.size w w4 := HB3.out.trans (hb4.mono HB3.out.size)
    have cT := tell_err 1 w4 (henv_low HE.out hB4).2
    have HB4 : Hid (Below w.heap.size w w4) := hB4
    clear cW hb4 hB4
    go_wp2_with fail
    refine cT.mono ?_
    rintro e w5 ⟨rfl, hb5⟩
    have HB5 : Hid (Below w.heap.size w w5) := HB4.out.trans (hb5.mono HB4.out.size)
    clear cT hb5
    go_wp2_with fail
    go_ret
    exact ⟨rfl, HB5.out⟩
end Go.Proofs.YtfdlopimncodcaaGreatDoor
