/-
  What HouseWhole does.
-/
import Derived.Test.YtfdlopimncodcaaGreatDoorBpHxRen
import Derived.Test.YtfdlopimncodcaaGreatDoorMHsLoad
import Derived.Test.YtfdlopimncodcaaGreatDoorMHsAll
import Derived.Test.YtfdlopimncodcaaGreatDoorBpAs
namespace Go.Proofs.YtfdlopimncodcaaGreatDoor
open Go.RowKit Go.Proofs.Aid Go.Proofs.Bx

theorem nequal {w : World} {base1 base2 : Nat} {v1 v2 : Value} {L : List Nm} (h1 : NRow w base1 v1 L) (h2 : NRow w base2 v2 L) (hne : L ≠ []) (hl : L.length ≤ 1000) :
    Calls Tryz.prog 28 #[v1, v2] w fun e w' => e = .returned (.bool true) ∧ Below w.heap.size w w' := by
  have hpos := List.length_pos_iff.2 hne
  have hg : ∀ {v : Value} {base : Nat}, NRow w base v L → ∃ g cap, v = .slice (some ⟨g, 0, none⟩) L.length cap ∧ ∀ j, j < (L.map fun t => (⟨t.toArray⟩ : ByteArray)).length → w.cell? ⟨g, 0 + j, none⟩ = some (.string ((L.map fun t => (⟨t.toArray⟩ : ByteArray)).getD j ByteArray.empty)) := fun {v base} h => by
    obtain ⟨g, cap, rfl, _⟩ := nrow_at h (List.getElem?_eq_getElem hpos)
    refine ⟨g, cap, rfl, fun j hj => ?_⟩
    rw [List.length_map] at hj
    obtain ⟨g', cap', e2, e3⟩ := nrow_at h (List.getElem?_eq_getElem hj)
    injection e2 with e2 _ _
    injection e2 with e2
    injection e2 with e2 _ _
    subst e2
    rw [Nat.zero_add, e3, List.getD_eq_getElem?_getD, List.getElem?_map, List.getElem?_eq_getElem hj]
    rfl
  obtain ⟨g1, c1, rfl, k1⟩ := hg h1
  obtain ⟨g2, c2, rfl, k2⟩ := hg h2
  have := Tryz.slices_Equal_string g1 0 L.length c1 g2 0 L.length c2 _ _ w (by rw [List.length_map]; exact Nat.le_refl _) (by rw [List.length_map]; exact Nat.le_refl _) (by omega) (by omega) k1 k2
  rw [decide_eq_true rfl] at this
  refine this.mono ?_
  rintro e w' ⟨rfl, q, rfl⟩
  exact ⟨rfl, below_drewN (Below.refl _ _) q⟩
set_option maxHeartbeats 4000000 in
set_option maxRecDepth 100000 in
theorem list2_is (hb mb : Nat) (l : Bxs) (nx : Int) (wv : Value) (w : World) (h : HsAt w hb mb l nx wv) (hl : l.length ≤ 1000) (hns : ∀ n ∈ namesB l, n.length ≤ 1000) :
    Calls Tryz.prog 29 #[.pointer (some ⟨hb, 0, none⟩), .string ⟨#[42]⟩, .bool false] w fun e w' => (∃ v, e = .returned v ∧ ∃ base, NRow w' base v (namesB l)) ∧ Below w.heap.size w w' := by
  have b1 : Below w.heap.size w (w.alloc (.cells #[.string ⟨#[42]⟩] 9)) := (Below.refl _ _).alloc (Nat.le_refl _) _
  have e1 := heap_alloc_new w (.cells #[.string ⟨#[42]⟩] 9)
  obtain ⟨W1, hW1⟩ : ∃ W, w.alloc (.cells #[.string ⟨#[42]⟩] 9) = W := ⟨_, rfl⟩
  rw [hW1] at b1 e1
  have cN := names_is hb mb l nx wv W1 (h.below b1 (Nat.le_refl _)) hl
  have hw1 : w.heap.size < W1.heap.size := (Array.getElem?_eq_some_iff.1 e1).1
  have HX : Hid (Below w.heap.size w W1 ∧ W1.heap[w.heap.size]? = some (.cells #[.string ⟨#[42]⟩] 9 (0, 0)) ∧ (∀ n ∈ namesB l, n.length ≤ 1000) ∧ (namesB l).length ≤ 1000) := ⟨b1, e1, hns, by simpa [namesB] using hl⟩
  clear h b1 e1 hns
  go_enter Tryz.func29, Tryz.ntmps29
  go_wp2_with fail
  refine cN.mono ?_
  rintro e w3 ⟨⟨v3, rfl, hrow⟩, hb3⟩
  have hp3 : w3.cell? ⟨w.heap.size, 0, none⟩ = some (.string ⟨#[42]⟩) := rd_cell ((hb3.block _ hw1).trans HX.out.2.1) rfl
  have cI := idx_none w.heap.size W1.heap.size v3 (namesB l) w3 hrow hp3 HX.out.2.2.1 HX.out.2.2.2
  have cD := del_none v3 (.func (.func 79) #[] #[.pointer (some ⟨w.heap.size, 0, none⟩)]) w3 (by obtain ⟨a, c, e⟩ := row_form hrow; exact ⟨_, _, _, e⟩) cI
  have HY : Hid (NRow w3 W1.heap.size v3 (namesB l) ∧ Below w.heap.size w w3) := ⟨hrow, HX.out.1.trans (hb3.mono HX.out.1.size)⟩
  obtain ⟨a3, n3, c3, rfl⟩ : ∃ a n c, v3 = .slice a n c := by obtain ⟨a, c, e⟩ := row_form hrow; exact ⟨a, _, c, e⟩
  clear cN cI hrow hb3 hp3
  go_wp2_with fail
  refine cD.mono ?_
  rintro e w4 ⟨rfl, hb4⟩
  have HF : Hid (NRow w4 W1.heap.size (.slice a3 n3 c3) (namesB l) ∧ Below w.heap.size w w4) := ⟨HY.out.1.below hb4 (Nat.le_refl _), HY.out.2.trans (hb4.mono HY.out.2.size)⟩
  clear cD hb4
  go_wp2_with fail
  go_ret
  exact ⟨⟨_, rfl, _, HF.out.1⟩, HF.out.2⟩
set_option maxHeartbeats 2000000 in
theorem hk_big (v : Value) (L : List Dd) (w : World) (h : Dds w v L) (hb : smallB L = false) :
    Calls Tryz.prog 4 #[v] w fun e w' => e = .returned (.bool true) ∧ Below w.heap.size w w' := by
  have cS := small_is v L w h
  obtain ⟨a, c, rfl, _⟩ := h
  obtain ⟨len, hn⟩ : ∃ n, L.length = n := ⟨_, rfl⟩
  rw [hb] at cS
  rw [hn] at cS ⊢
  clear hb hn
  go_enter Tryz.func4, Tryz.ntmps4
  go_wp2_with fail
  refine cS.mono ?_
  rintro e w1 ⟨rfl, hw⟩
  obtain rfl : w = w1 := hw.symm
  clear cS hw
  go_wp2_with fail
  go_ret
  exact ⟨rfl, Below.refl _ _⟩
/-- A new house. -/
theorem hst_new {w w2 : World} {H1 : Nat} (hH : w.heap.size ≤ H1) (h : HsAt w2 (H1 + 1) H1 [(inboxN, H1 + 2)] 2 (.slice none 0 0)) (hn : NewBox w2 (H1 + 2) 1) :
    Hst w.heap.size (H1 + 1) H1 [(inboxN, H1 + 2)] 2 [] (fun _ => ⟨1, 1, []⟩) (.slice none 0 0) w2 ∧ HI w.heap.size 0 [(inboxN, H1 + 2)] 2 [] (fun _ => ⟨1, 1, []⟩) := by
  have hl := h.lt
  have hone : ∀ p ∈ [((inboxN, H1 + 2) : Nm × Nat)], p = (inboxN, H1 + 2) := fun p hp => List.mem_singleton.1 hp
  refine ⟨⟨⟨h, ⟨none, 0, rfl, ⟨fun _ => rfl, Nat.le_refl _⟩, Or.inl rfl⟩, fun p hp => ?_⟩, Or.inl ⟨rfl, rfl⟩, fun g hg => (by cases hg), by omega, by omega, hH⟩, ⟨List.pairwise_singleton _ _, by simp, fun n hn2 i hi => ?_, fun n hn2 => ?_, ?_, by simp, List.Pairwise.nil, fun n hn2 => absurd hn2 List.not_mem_nil, ⟨by omega, by omega⟩, fun p hp => ?_, fun p hp q hq _ => ?_, fun p hp q hq _ => ?_, fun p hp => ?_⟩⟩
  · rw [hone p hp]
    exact newBox_at hn
  · obtain ⟨b, hb⟩ := hasB_true.1 hn2
    obtain rfl : n = inboxN := congrArg Prod.fst (hone _ hb)
    exact absurd (List.mem_of_getElem? hi) (by decide)
  · obtain ⟨b, hb⟩ := hasB_true.1 hn2
    obtain rfl : n = inboxN := congrArg Prod.fst (hone _ hb)
    kernel_rfl
  · exact hasB_true.2 ⟨_, List.mem_singleton.2 rfl⟩
  · rw [hone p hp]
    show w.heap.size ≤ H1 + 2
    omega
  · rw [hone p hp, hone q hq]
  · rw [hone p hp, hone q hq]
  · exact good_new ⟨by omega, by omega⟩
/-- All that the walk wants of what is global. -/
def WEnv (w : World) : Prop := HEnv w ∧ SysAt w ∧ TabB w
set_option maxHeartbeats 16000000 in
set_option maxRecDepth 100000 in
theorem hk_walk (v : Value) (L : List Dd) (w : World) (h : Dds w v L) (hE : WEnv w) (hB : smallB L = true) :
    Calls Tryz.prog 4 #[v] w fun e w' => e = .returned (.bool true) ∧ Below w.heap.size w w' := by
  have cS := small_is v L w h
  rw [hB] at cS
  have cH := housed_is w hE.1
  obtain ⟨a0, c0, rfl, _⟩ := id h
  obtain ⟨len, hn⟩ : ∃ n, L.length = n := ⟨_, rfl⟩
  rw [hn] at cS ⊢
  have HD : Hid (Dds w (.slice a0 len c0) L ∧ L.length = len ∧ len ≤ 40 ∧ ∀ x ∈ L, x.s.size ≤ 100 ∧ x.t.size ≤ 100) := by
    unfold smallB at hB
    simp only [Bool.and_eq_true, decide_eq_true_eq, List.all_eq_true, smallD] at hB
    exact ⟨by rw [← hn]; exact h, hn, by omega, fun x hx => hB.2 x hx⟩
  have HE : Hid (WEnv w) := hE
  clear h hE hB hn
  go_enter Tryz.func4, Tryz.ntmps4
  go_wp2_with fail
  refine cS.mono ?_
  rintro e w0 ⟨rfl, hw⟩
  obtain rfl : w = w0 := hw.symm
  clear cS hw
  go_wp2_with fail
  refine cH.mono ?_
  rintro e w1 ⟨rfl, hb1⟩
  have cN := new_is w1
  have HB1 : Hid (Below w.heap.size w w1) := hb1
  obtain ⟨H1, hH1⟩ : ∃ k, w1.heap.size = k := ⟨_, rfl⟩
  have HH1 : Hid (w1.heap.size = H1 ∧ w.heap.size ≤ H1) := ⟨hH1, by rw [← hH1]; exact hb1.size⟩
  rw [hH1] at cN
  clear cH hb1 hH1
  go_wp2_with fail
  refine cN.mono ?_
  rintro e w2 ⟨rfl, h2, hn2, hb2⟩
  have HI2 : Hid (∃ l nx Ws C wv, Hst w.heap.size (H1 + 1) H1 l nx Ws C wv w2 ∧ HI w.heap.size 0 l nx Ws C ∧ Below w.heap.size w w2) := by
    obtain ⟨q1, q2⟩ := hst_new HH1.out.2 h2 hn2
    exact ⟨_, _, _, _, _, q1, q2, HB1.out.trans (hb2.mono HH1.out.2)⟩
  clear cN h2 hn2 hb2 HB1
  go_wp2_with fail
  go_loopw [4] (fun iv wr => ∃ k : Nat, iv = .int .i64 (k : Int) ∧ k ≤ len ∧ Hid (∃ l nx Ws C wv, Hst w.heap.size (H1 + 1) H1 l nx Ws C wv wr ∧ HI w.heap.size k l nx Ws C ∧ Below w.heap.size w wr)) (fun iv _ => len - (intOf iv).toNat)
  case atStart => exact ⟨0, rfl, Nat.zero_le _, HI2⟩
  case round =>
    clear HI2
    obtain ⟨k, rfl, hk, HQ⟩ := hrel
    by_cases hlt : k < len
    · have q1 : decide ((k : Int) < (len : Int)) = true := decide_eq_true (by omega)
      have i1 : (0 : Int) ≤ (k : Int) := by omega
      have i2 : (k : Int) < (len : Int) := by omega
      have hk40 : len ≤ 40 := HD.out.2.2.1
      obtain ⟨l, nx, Ws, C, wv, hst, hI, hlow⟩ := HQ.out
      have cA := all_is k (H1 + 1) H1 l nx wv Ws C wr hst.hse (hI.saOk (by omega)) (by omega) (HE.out.2.2.below hlow)
      have HX2 : Hid (Hst w.heap.size (H1 + 1) H1 l nx Ws C wv wr ∧ HI w.heap.size k l nx Ws C ∧ Below w.heap.size w wr) := ⟨hst, hI, hlow⟩
      clear hst hI hlow HQ
      go_wp2_with fail
      refine cA.mono ?_
      rintro e w3 ⟨⟨t3, rfl, ht3⟩, hb3⟩
      have hst := HX2.out.1.below hb3
      have hB3 : Below w.heap.size w w3 := HX2.out.2.2.trans (hb3.mono HX2.out.2.2.size)
      obtain ⟨x, hxk⟩ : ∃ x, L[k]? = some x := ⟨_, List.getElem?_eq_getElem (by have := HD.out.2.1; omega)⟩
      obtain ⟨xb, xo, rfl, x0, x1, x2, x3⟩ := dds_at (HD.out.1.below hB3 (Nat.le_refl _)) hxk
      obtain ⟨xw, xs, xt, xy⟩ := x
      have hxs := HD.out.2.2.2 _ (List.mem_of_getElem? hxk)
      have x0 : w3.cell? ⟨xb, xo + k * 4, none⟩ = some (.int .i64 xw) := x0
      have x1 : w3.cell? ⟨xb, xo + k * 4 + 1, none⟩ = some (.string xs) := x1
      have x2 : w3.cell? ⟨xb, xo + k * 4 + 2, none⟩ = some (.string xt) := x2
      have x3 : w3.cell? ⟨xb, xo + k * 4 + 3, none⟩ = some (.bool xy) := x3
      have cD := deed_x w.heap.size (H1 + 1) H1 k l nx Ws C wv xw xs xt xy w3 (HE.out.1.below hB3).1 hst HX2.out.2.1 (by omega) hxs.1 hxs.2
      have HX3 : Hid (HI w.heap.size k l nx Ws C ∧ Below w.heap.size w w3 ∧ t3.data.toList = allB (svOf l Ws nx C)) := ⟨HX2.out.2.1, hB3, ht3⟩
      clear cA ht3 hb3 hst hB3 hxk hxs HX2
      go_wp2_with fail
      refine cD.mono ?_
      rintro e w4 ⟨hlow4, ⟨E, wv4, rfl, hst4⟩ | ⟨wv5, l5, nx5, Ws5, C5, rfl, hst5, hI5⟩⟩
      · have hB4 : Below w.heap.size w w4 := HX3.out.2.1.trans hlow4
        have cA4 := all_is k (H1 + 1) H1 l nx wv4 Ws C w4 hst4.hse (HX3.out.1.saOk (by omega)) (by omega) (HE.out.2.2.below hB4)
        have HX4 : Hid (Hst w.heap.size (H1 + 1) H1 l nx Ws C wv4 w4 ∧ Below w.heap.size w w4) := ⟨hst4, hB4⟩
        clear cD hlow4 hst4 hB4 x0 x1 x2 x3
        go_wp2_with fail
        refine cA4.mono ?_
        rintro e w5 ⟨⟨t4, rfl, ht4⟩, hb5⟩
        obtain rfl : t4 = t3 := by rw [ba_list ht4, ba_list HX3.out.2.2]
        obtain ⟨l5, hl5⟩ : ∃ x, l = x := ⟨_, rfl⟩
        obtain ⟨nx5, hnx5⟩ : ∃ x, nx = x := ⟨_, rfl⟩
        obtain ⟨Ws5, hWs5⟩ : ∃ x, Ws = x := ⟨_, rfl⟩
        obtain ⟨C5, hC5⟩ : ∃ x, C = x := ⟨_, rfl⟩
        obtain ⟨wv5, hwv5⟩ : ∃ x, wv4 = x := ⟨_, rfl⟩
        have HX5 : Hid (Hst w.heap.size (H1 + 1) H1 l5 nx5 Ws5 C5 wv5 w5 ∧ HI w.heap.size (k + 1) l5 nx5 Ws5 C5 ∧ Below w.heap.size w w5) := by
          rw [← hl5, ← hnx5, ← hWs5, ← hC5, ← hwv5]
          exact ⟨HX4.out.1.below hb5, HX3.out.1.more (by omega), HX4.out.2.trans (hb5.mono HX4.out.2.size)⟩
        clear cA4 ht4 hb5 HX4 HX3 hl5 hnx5 hWs5 hC5 hwv5
        go_wp2_with fail
        have cS := save_is (H1 + 1) H1 l5 nx5 wv5 Ws5 C5 w5 HX5.out.1.hse ((HX5.out.2.1.saOk (by omega)).sml (by omega))
        go_wp2_with fail
        refine cS.mono ?_
        rintro e w6 ⟨⟨nv, bv, wv6, rfl, hsv⟩, hb6⟩
        have HX6 : Hid (Hst w.heap.size (H1 + 1) H1 l5 nx5 Ws5 C5 wv5 w6 ∧ HI w.heap.size (k + 1) l5 nx5 Ws5 C5 ∧ Below w.heap.size w w6) := ⟨HX5.out.1.below hb6, HX5.out.2.1, HX5.out.2.2.trans (hb6.mono HX5.out.2.2.size)⟩
        obtain ⟨S, hS⟩ : ∃ S, svOf l5 Ws5 nx5 C5 = S := ⟨_, rfl⟩
        have hSn : S.next = nx5 := by rw [← hS]; rfl
        have hSA : SaOk (k + 1) S := hS ▸ HX5.out.2.1.saOk (by omega)
        rw [hS] at hsv
        obtain ⟨na, nl, nc, rfl⟩ : ∃ a n c, nv = .slice a n c := by obtain ⟨a, c, e, _⟩ := hsv.1; exact ⟨a, _, c, e⟩
        obtain ⟨ba, bl, bc, rfl⟩ : ∃ a n c, bv = .slice a n c := by obtain ⟨a, c, e, _⟩ := hsv.2.1; exact ⟨a, _, c, e⟩
        obtain ⟨va, vl, vc, rfl⟩ : ∃ a n c, wv6 = .slice a n c := by obtain ⟨a, c, e, _⟩ := hsv.2.2; exact ⟨a, _, c, e⟩
        have b7 : Below w6.heap.size w6 (w6.alloc (.cells #[.slice na nl nc, .slice ba bl bc, .slice va vl vc, .int .i64 nx5] 35)) := (Below.refl _ _).alloc (Nat.le_refl _) _
        have e7 := heap_alloc_new w6 (.cells #[.slice na nl nc, .slice ba bl bc, .slice va vl vc, .int .i64 nx5] 35)
        obtain ⟨sb, hsb⟩ : ∃ n, w6.heap.size = n := ⟨_, rfl⟩
        obtain ⟨W7, hW7⟩ : ∃ W, w6.alloc (.cells #[.slice na nl nc, .slice ba bl bc, .slice va vl vc, .int .i64 nx5] 35) = W := ⟨_, rfl⟩
        rw [hW7] at b7 e7
        have hsv7 := hsv.below b7 (Nat.le_refl _)
        have hB7 : Below w.heap.size w W7 := HX6.out.2.2.trans (b7.mono HX6.out.2.2.size)
        rw [hsb] at e7
        have hsl : sb < W7.heap.size := (Array.getElem?_eq_some_iff.1 e7).1
        have s0 : W7.cell? ⟨sb, 0, none⟩ = some (.slice na nl nc) := rd_cell e7 rfl
        have s1 : W7.cell? ⟨sb, 1, none⟩ = some (.slice ba bl bc) := rd_cell e7 rfl
        have s2 : W7.cell? ⟨sb, 2, none⟩ = some (.slice va vl vc) := rd_cell e7 rfl
        have s3 : W7.cell? ⟨sb, 3, none⟩ = some (.int .i64 nx5) := rd_cell e7 rfl
        have cL := load_is _ _ _ S W7 hsv7 hSA.ok (fun x hx => by have := (hSA.bx x hx).len; omega) (HE.out.1.below hB7).1 (HE.out.2.1.below hB7 HE.out.2.1.lt)
        rw [hSn] at cL
        have HX7 : Hid (Hst w.heap.size (H1 + 1) H1 l5 nx5 Ws5 C5 wv5 W7 ∧ HI w.heap.size (k + 1) l5 nx5 Ws5 C5 ∧ Below w.heap.size w W7 ∧ SvAt W7 (.slice na nl nc) (.slice ba bl bc) (.slice va vl vc) S ∧ SaOk (k + 1) S ∧ S.next = nx5 ∧ svOf l5 Ws5 nx5 C5 = S ∧ W7.heap[sb]? = some (.cells #[.slice na nl nc, .slice ba bl bc, .slice va vl vc, .int .i64 nx5] 35 (0, 0))) := ⟨HX6.out.1.below b7, HX6.out.2.1, hB7, hsv7, hSA, hSn, hS, e7⟩
        clear cS hsv hb6 HX6 HX5 hS hSn hSA b7 e7 hsv7 hB7
        go_wp2_with fail
        refine cL.mono ?_
        rintro e w8 ⟨⟨hb2, mb2, wv8, lg, Cg, rfl, hg8, hSg⟩, hb8⟩
        have hB8 : Below w.heap.size w w8 := HX7.out.2.2.1.trans (hb8.mono HX7.out.2.2.1.size)
        have e8 := (hb8.block _ hsl).trans HX7.out.2.2.2.2.2.2.2
        have t0 : w8.cell? ⟨sb, 0, none⟩ = some (.slice na nl nc) := rd_cell e8 rfl
        have t1 : w8.cell? ⟨sb, 1, none⟩ = some (.slice ba bl bc) := rd_cell e8 rfl
        have t2 : w8.cell? ⟨sb, 2, none⟩ = some (.slice va vl vc) := rd_cell e8 rfl
        have t3 : w8.cell? ⟨sb, 3, none⟩ = some (.int .i64 nx5) := rd_cell e8 rfl
        have cR := right_true _ _ _ S w8 (HX7.out.2.2.2.1.below hb8 (Nat.le_refl _)) HX7.out.2.2.2.2.1.ok (HE.out.1.below hB8).1 (HE.out.2.1.below hB8 HE.out.2.1.lt)
        rw [HX7.out.2.2.2.2.2.1] at cR
        have HX8 : Hid (Hst w.heap.size (H1 + 1) H1 l5 nx5 Ws5 C5 wv5 w8 ∧ Below w.heap.size w w8 ∧ Hse w8 hb2 mb2 lg nx5 wv8 S.wants Cg ∧ svOf lg S.wants nx5 Cg = S) := ⟨HX7.out.1.below hb8, hB8, hg8, hSg⟩
        clear cL hb8 hB8 e8 s0 s1 s2 s3 hg8 hSg hsl
        go_wp2_with fail
        refine cR.mono ?_
        rintro e w9 ⟨rfl, hb9⟩
        have hB9 : Below w.heap.size w w9 := HX8.out.2.1.trans (hb9.mono HX8.out.2.1.size)
        have hg9 := HX8.out.2.2.1.below hb9
        have cA1 := all_is (k + 1) hb2 mb2 lg nx5 wv8 S.wants Cg w9 hg9 (by rw [HX8.out.2.2.2]; exact HX7.out.2.2.2.2.1) (by omega) (HE.out.2.2.below hB9)
        rw [HX8.out.2.2.2] at cA1
        have HX9 : Hid (Hst w.heap.size (H1 + 1) H1 l5 nx5 Ws5 C5 wv5 w9 ∧ Below w.heap.size w w9 ∧ Hse w9 hb2 mb2 lg nx5 wv8 S.wants Cg) := ⟨HX8.out.1.below hb9, hB9, hg9⟩
        clear cR hb9 hB9 hg9 t0 t1 t2 t3
        go_wp2_with fail
        refine cA1.mono ?_
        rintro e w10 ⟨⟨tg, rfl, htg⟩, hb10⟩
        have hB10 : Below w.heap.size w w10 := HX9.out.2.1.trans (hb10.mono HX9.out.2.1.size)
        have hh10 := HX9.out.1.below hb10
        have cA2 := all_is (k + 1) (H1 + 1) H1 l5 nx5 wv5 Ws5 C5 w10 hh10.hse (HX7.out.2.1.saOk (by omega)) (by omega) (HE.out.2.2.below hB10)
        rw [HX7.out.2.2.2.2.2.2.1] at cA2
        have HX10 : Hid (Hst w.heap.size (H1 + 1) H1 l5 nx5 Ws5 C5 wv5 w10 ∧ Below w.heap.size w w10 ∧ Hse w10 hb2 mb2 lg nx5 wv8 S.wants Cg) := ⟨hh10, hB10, HX9.out.2.2.below hb10⟩
        clear cA1 hb10 hB10 hh10
        go_wp2_with fail
        refine cA2.mono ?_
        rintro e w11 ⟨⟨th, rfl, hth⟩, hb11⟩
        obtain rfl : tg = th := by rw [ba_list htg, ba_list hth]
        have hB11 : Below w.heap.size w w11 := HX10.out.2.1.trans (hb11.mono HX10.out.2.1.size)
        have hg11 := HX10.out.2.2.below hb11
        have hln : lg.length ≤ 30 := by
          have h1 := congrArg (fun S => S.names.length) HX8.out.2.2.2
          have h2 := HX7.out.2.2.2.2.1.ok.most
          have h3 : (namesB lg).length = lg.length := by simp [namesB]
          have h1 : (namesB lg).length = S.names.length := h1
          omega
        have hnn : ∀ n ∈ namesB lg, n.length ≤ 60 := fun n hn => by
          have h1 := congrArg (fun S => S.names) HX8.out.2.2.2
          have h1 : namesB lg = S.names := h1
          exact nameB_len60 (HX7.out.2.2.2.2.1.ok.nname n (h1 ▸ hn))
        have cLi := list2_is hb2 mb2 lg nx5 wv8 w11 hg11.hs (by omega) (fun n hn => by have := hnn n hn; omega)
        have HX11 : Hid (Hst w.heap.size (H1 + 1) H1 l5 nx5 Ws5 C5 wv5 w11 ∧ Below w.heap.size w w11) := ⟨HX10.out.1.below hb11, hB11⟩
        clear cA2 hb11 hB11 hg11 htg hth
        go_wp2_with fail
        refine cLi.mono ?_
        rintro e w12 ⟨⟨v12, rfl, base12, hr12⟩, hb12⟩
        have hB12 : Below w.heap.size w w12 := HX11.out.2.trans (hb12.mono HX11.out.2.size)
        have hh12 := HX11.out.1.below hb12
        have cNm := names_is (H1 + 1) H1 l5 nx5 wv5 w12 hh12.hse.hs (by have := HX7.out.2.1.len; omega)
        have HX12 : Hid (Hst w.heap.size (H1 + 1) H1 l5 nx5 Ws5 C5 wv5 w12 ∧ Below w.heap.size w w12 ∧ NRow w12 base12 v12 (namesB lg)) := ⟨hh12, hB12, hr12⟩
        obtain ⟨a12, n12, c12, rfl⟩ : ∃ a n c, v12 = .slice a n c := by obtain ⟨a, c, e⟩ := row_form hr12; exact ⟨a, _, c, e⟩
        clear cLi hb12 hB12 hh12 hr12
        go_wp2_with fail
        refine cNm.mono ?_
        rintro e w13 ⟨⟨v13, rfl, hr13⟩, hb13⟩
        have hB13 : Below w.heap.size w w13 := HX12.out.2.1.trans (hb13.mono HX12.out.2.1.size)
        have hnm13 : namesB l5 = namesB lg := by
          have h1 := congrArg (fun S => S.names) HX8.out.2.2.2
          have h2 := congrArg (fun S => S.names) HX7.out.2.2.2.2.2.2.1
          exact h2.trans h1.symm
        have cE := nequal (HX12.out.2.2.below hb13 (Nat.le_refl _)) (hnm13 ▸ hr13) (fun e0 => by
          obtain ⟨b0, hb0⟩ := hasB_true.1 HX7.out.2.1.inbox
          have : inboxN ∈ namesB lg := hnm13 ▸ List.mem_map_of_mem hb0
          rw [e0] at this
          exact List.not_mem_nil this) (by have : (namesB lg).length = lg.length := by simp [namesB]
                                           omega)
        have HX13 : Hid (Hst w.heap.size (H1 + 1) H1 l5 nx5 Ws5 C5 wv5 w13 ∧ Below w.heap.size w w13) := ⟨HX12.out.1.below hb13, hB13⟩
        obtain ⟨a13, n13, c13, rfl⟩ : ∃ a n c, v13 = .slice a n c := by obtain ⟨a, c, e⟩ := row_form hr13; exact ⟨a, _, c, e⟩
        clear cNm hb13 hB13 hr13 hnm13
        go_wp2_with fail
        refine cE.mono ?_
        rintro e w14 ⟨rfl, hb14⟩
        have HN : Hid (∃ l nx Ws C wv, Hst w.heap.size (H1 + 1) H1 l nx Ws C wv w14 ∧ HI w.heap.size (k + 1) l nx Ws C ∧ Below w.heap.size w w14) := ⟨l5, nx5, Ws5, C5, wv5, HX13.out.1.below hb14, HX7.out.2.1, HX13.out.2.trans (hb14.mono HX13.out.2.size)⟩
        clear cE hb14 HX13 HX12 HX11 HX10 HX9 HX8 HX7
        go_wp2_with fail
        go_roundw
        case rel => exact ⟨k + 1, by go_num, by omega, HN⟩
        case measure => simp [intOf]; omega
      · have HX5 : Hid (Hst w.heap.size (H1 + 1) H1 l5 nx5 Ws5 C5 wv5 w4 ∧ HI w.heap.size (k + 1) l5 nx5 Ws5 C5 ∧ Below w.heap.size w w4) := ⟨hst5, hI5, HX3.out.2.1.trans hlow4⟩
        clear cD hlow4 hst5 hI5 HX3 x0 x1 x2 x3
        go_wp2_with fail
        have cS := save_is (H1 + 1) H1 l5 nx5 wv5 Ws5 C5 w4 HX5.out.1.hse ((HX5.out.2.1.saOk (by omega)).sml (by omega))
        go_wp2_with fail
        refine cS.mono ?_
        rintro e w6 ⟨⟨nv, bv, wv6, rfl, hsv⟩, hb6⟩
        have HX6 : Hid (Hst w.heap.size (H1 + 1) H1 l5 nx5 Ws5 C5 wv5 w6 ∧ HI w.heap.size (k + 1) l5 nx5 Ws5 C5 ∧ Below w.heap.size w w6) := ⟨HX5.out.1.below hb6, HX5.out.2.1, HX5.out.2.2.trans (hb6.mono HX5.out.2.2.size)⟩
        obtain ⟨S, hS⟩ : ∃ S, svOf l5 Ws5 nx5 C5 = S := ⟨_, rfl⟩
        have hSn : S.next = nx5 := by rw [← hS]; rfl
        have hSA : SaOk (k + 1) S := hS ▸ HX5.out.2.1.saOk (by omega)
        rw [hS] at hsv
        obtain ⟨na, nl, nc, rfl⟩ : ∃ a n c, nv = .slice a n c := by obtain ⟨a, c, e, _⟩ := hsv.1; exact ⟨a, _, c, e⟩
        obtain ⟨ba, bl, bc, rfl⟩ : ∃ a n c, bv = .slice a n c := by obtain ⟨a, c, e, _⟩ := hsv.2.1; exact ⟨a, _, c, e⟩
        obtain ⟨va, vl, vc, rfl⟩ : ∃ a n c, wv6 = .slice a n c := by obtain ⟨a, c, e, _⟩ := hsv.2.2; exact ⟨a, _, c, e⟩
        have b7 : Below w6.heap.size w6 (w6.alloc (.cells #[.slice na nl nc, .slice ba bl bc, .slice va vl vc, .int .i64 nx5] 35)) := (Below.refl _ _).alloc (Nat.le_refl _) _
        have e7 := heap_alloc_new w6 (.cells #[.slice na nl nc, .slice ba bl bc, .slice va vl vc, .int .i64 nx5] 35)
        obtain ⟨sb, hsb⟩ : ∃ n, w6.heap.size = n := ⟨_, rfl⟩
        obtain ⟨W7, hW7⟩ : ∃ W, w6.alloc (.cells #[.slice na nl nc, .slice ba bl bc, .slice va vl vc, .int .i64 nx5] 35) = W := ⟨_, rfl⟩
        rw [hW7] at b7 e7
        have hsv7 := hsv.below b7 (Nat.le_refl _)
        have hB7 : Below w.heap.size w W7 := HX6.out.2.2.trans (b7.mono HX6.out.2.2.size)
        rw [hsb] at e7
        have hsl : sb < W7.heap.size := (Array.getElem?_eq_some_iff.1 e7).1
        have s0 : W7.cell? ⟨sb, 0, none⟩ = some (.slice na nl nc) := rd_cell e7 rfl
        have s1 : W7.cell? ⟨sb, 1, none⟩ = some (.slice ba bl bc) := rd_cell e7 rfl
        have s2 : W7.cell? ⟨sb, 2, none⟩ = some (.slice va vl vc) := rd_cell e7 rfl
        have s3 : W7.cell? ⟨sb, 3, none⟩ = some (.int .i64 nx5) := rd_cell e7 rfl
        have cL := load_is _ _ _ S W7 hsv7 hSA.ok (fun x hx => by have := (hSA.bx x hx).len; omega) (HE.out.1.below hB7).1 (HE.out.2.1.below hB7 HE.out.2.1.lt)
        rw [hSn] at cL
        have HX7 : Hid (Hst w.heap.size (H1 + 1) H1 l5 nx5 Ws5 C5 wv5 W7 ∧ HI w.heap.size (k + 1) l5 nx5 Ws5 C5 ∧ Below w.heap.size w W7 ∧ SvAt W7 (.slice na nl nc) (.slice ba bl bc) (.slice va vl vc) S ∧ SaOk (k + 1) S ∧ S.next = nx5 ∧ svOf l5 Ws5 nx5 C5 = S ∧ W7.heap[sb]? = some (.cells #[.slice na nl nc, .slice ba bl bc, .slice va vl vc, .int .i64 nx5] 35 (0, 0))) := ⟨HX6.out.1.below b7, HX6.out.2.1, hB7, hsv7, hSA, hSn, hS, e7⟩
        clear cS hsv hb6 HX6 HX5 hS hSn hSA b7 e7 hsv7 hB7
        go_wp2_with fail
        refine cL.mono ?_
        rintro e w8 ⟨⟨hb2, mb2, wv8, lg, Cg, rfl, hg8, hSg⟩, hb8⟩
        have hB8 : Below w.heap.size w w8 := HX7.out.2.2.1.trans (hb8.mono HX7.out.2.2.1.size)
        have e8 := (hb8.block _ hsl).trans HX7.out.2.2.2.2.2.2.2
        have t0 : w8.cell? ⟨sb, 0, none⟩ = some (.slice na nl nc) := rd_cell e8 rfl
        have t1 : w8.cell? ⟨sb, 1, none⟩ = some (.slice ba bl bc) := rd_cell e8 rfl
        have t2 : w8.cell? ⟨sb, 2, none⟩ = some (.slice va vl vc) := rd_cell e8 rfl
        have t3 : w8.cell? ⟨sb, 3, none⟩ = some (.int .i64 nx5) := rd_cell e8 rfl
        have cR := right_true _ _ _ S w8 (HX7.out.2.2.2.1.below hb8 (Nat.le_refl _)) HX7.out.2.2.2.2.1.ok (HE.out.1.below hB8).1 (HE.out.2.1.below hB8 HE.out.2.1.lt)
        rw [HX7.out.2.2.2.2.2.1] at cR
        have HX8 : Hid (Hst w.heap.size (H1 + 1) H1 l5 nx5 Ws5 C5 wv5 w8 ∧ Below w.heap.size w w8 ∧ Hse w8 hb2 mb2 lg nx5 wv8 S.wants Cg ∧ svOf lg S.wants nx5 Cg = S) := ⟨HX7.out.1.below hb8, hB8, hg8, hSg⟩
        clear cL hb8 hB8 e8 s0 s1 s2 s3 hg8 hSg hsl
        go_wp2_with fail
        refine cR.mono ?_
        rintro e w9 ⟨rfl, hb9⟩
        have hB9 : Below w.heap.size w w9 := HX8.out.2.1.trans (hb9.mono HX8.out.2.1.size)
        have hg9 := HX8.out.2.2.1.below hb9
        have cA1 := all_is (k + 1) hb2 mb2 lg nx5 wv8 S.wants Cg w9 hg9 (by rw [HX8.out.2.2.2]; exact HX7.out.2.2.2.2.1) (by omega) (HE.out.2.2.below hB9)
        rw [HX8.out.2.2.2] at cA1
        have HX9 : Hid (Hst w.heap.size (H1 + 1) H1 l5 nx5 Ws5 C5 wv5 w9 ∧ Below w.heap.size w w9 ∧ Hse w9 hb2 mb2 lg nx5 wv8 S.wants Cg) := ⟨HX8.out.1.below hb9, hB9, hg9⟩
        clear cR hb9 hB9 hg9 t0 t1 t2 t3
        go_wp2_with fail
        refine cA1.mono ?_
        rintro e w10 ⟨⟨tg, rfl, htg⟩, hb10⟩
        have hB10 : Below w.heap.size w w10 := HX9.out.2.1.trans (hb10.mono HX9.out.2.1.size)
        have hh10 := HX9.out.1.below hb10
        have cA2 := all_is (k + 1) (H1 + 1) H1 l5 nx5 wv5 Ws5 C5 w10 hh10.hse (HX7.out.2.1.saOk (by omega)) (by omega) (HE.out.2.2.below hB10)
        rw [HX7.out.2.2.2.2.2.2.1] at cA2
        have HX10 : Hid (Hst w.heap.size (H1 + 1) H1 l5 nx5 Ws5 C5 wv5 w10 ∧ Below w.heap.size w w10 ∧ Hse w10 hb2 mb2 lg nx5 wv8 S.wants Cg) := ⟨hh10, hB10, HX9.out.2.2.below hb10⟩
        clear cA1 hb10 hB10 hh10
        go_wp2_with fail
        refine cA2.mono ?_
        rintro e w11 ⟨⟨th, rfl, hth⟩, hb11⟩
        obtain rfl : tg = th := by rw [ba_list htg, ba_list hth]
        have hB11 : Below w.heap.size w w11 := HX10.out.2.1.trans (hb11.mono HX10.out.2.1.size)
        have hg11 := HX10.out.2.2.below hb11
        have hln : lg.length ≤ 30 := by
          have h1 := congrArg (fun S => S.names.length) HX8.out.2.2.2
          have h2 := HX7.out.2.2.2.2.1.ok.most
          have h3 : (namesB lg).length = lg.length := by simp [namesB]
          have h1 : (namesB lg).length = S.names.length := h1
          omega
        have hnn : ∀ n ∈ namesB lg, n.length ≤ 60 := fun n hn => by
          have h1 := congrArg (fun S => S.names) HX8.out.2.2.2
          have h1 : namesB lg = S.names := h1
          exact nameB_len60 (HX7.out.2.2.2.2.1.ok.nname n (h1 ▸ hn))
        have cLi := list2_is hb2 mb2 lg nx5 wv8 w11 hg11.hs (by omega) (fun n hn => by have := hnn n hn; omega)
        have HX11 : Hid (Hst w.heap.size (H1 + 1) H1 l5 nx5 Ws5 C5 wv5 w11 ∧ Below w.heap.size w w11) := ⟨HX10.out.1.below hb11, hB11⟩
        clear cA2 hb11 hB11 hg11 htg hth
        go_wp2_with fail
        refine cLi.mono ?_
        rintro e w12 ⟨⟨v12, rfl, base12, hr12⟩, hb12⟩
        have hB12 : Below w.heap.size w w12 := HX11.out.2.trans (hb12.mono HX11.out.2.size)
        have hh12 := HX11.out.1.below hb12
        have cNm := names_is (H1 + 1) H1 l5 nx5 wv5 w12 hh12.hse.hs (by have := HX7.out.2.1.len; omega)
        have HX12 : Hid (Hst w.heap.size (H1 + 1) H1 l5 nx5 Ws5 C5 wv5 w12 ∧ Below w.heap.size w w12 ∧ NRow w12 base12 v12 (namesB lg)) := ⟨hh12, hB12, hr12⟩
        obtain ⟨a12, n12, c12, rfl⟩ : ∃ a n c, v12 = .slice a n c := by obtain ⟨a, c, e⟩ := row_form hr12; exact ⟨a, _, c, e⟩
        clear cLi hb12 hB12 hh12 hr12
        go_wp2_with fail
        refine cNm.mono ?_
        rintro e w13 ⟨⟨v13, rfl, hr13⟩, hb13⟩
        have hB13 : Below w.heap.size w w13 := HX12.out.2.1.trans (hb13.mono HX12.out.2.1.size)
        have hnm13 : namesB l5 = namesB lg := by
          have h1 := congrArg (fun S => S.names) HX8.out.2.2.2
          have h2 := congrArg (fun S => S.names) HX7.out.2.2.2.2.2.2.1
          exact h2.trans h1.symm
        have cE := nequal (HX12.out.2.2.below hb13 (Nat.le_refl _)) (hnm13 ▸ hr13) (fun e0 => by
          obtain ⟨b0, hb0⟩ := hasB_true.1 HX7.out.2.1.inbox
          have : inboxN ∈ namesB lg := hnm13 ▸ List.mem_map_of_mem hb0
          rw [e0] at this
          exact List.not_mem_nil this) (by have : (namesB lg).length = lg.length := by simp [namesB]
                                           omega)
        have HX13 : Hid (Hst w.heap.size (H1 + 1) H1 l5 nx5 Ws5 C5 wv5 w13 ∧ Below w.heap.size w w13) := ⟨HX12.out.1.below hb13, hB13⟩
        obtain ⟨a13, n13, c13, rfl⟩ : ∃ a n c, v13 = .slice a n c := by obtain ⟨a, c, e⟩ := row_form hr13; exact ⟨a, _, c, e⟩
        clear cNm hb13 hB13 hr13 hnm13
        go_wp2_with fail
        refine cE.mono ?_
        rintro e w14 ⟨rfl, hb14⟩
        have HN : Hid (∃ l nx Ws C wv, Hst w.heap.size (H1 + 1) H1 l nx Ws C wv w14 ∧ HI w.heap.size (k + 1) l nx Ws C ∧ Below w.heap.size w w14) := ⟨l5, nx5, Ws5, C5, wv5, HX13.out.1.below hb14, HX7.out.2.1, HX13.out.2.trans (hb14.mono HX13.out.2.size)⟩
        clear cE hb14 HX13 HX12 HX11 HX10 HX9 HX8 HX7
        go_wp2_with fail
        go_roundw
        case rel => exact ⟨k + 1, by go_num, by omega, HN⟩
        case measure => simp [intOf]; omega
    · have q1 : decide ((k : Int) < (len : Int)) = false := decide_eq_false (by omega)
      obtain ⟨_, _, _, _, _, _, _, hlow⟩ := HQ.out
      have HF : Hid (Below w.heap.size w wr) := hlow
      clear HQ hlow
      go_wp2_with fail
      go_ret
      exact ⟨rfl, HF.out⟩
end Go.Proofs.YtfdlopimncodcaaGreatDoor
