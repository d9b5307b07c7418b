/-
  What HouseMoves does.
-/
import Derived.Test.YtfdlopimncodcaaGreatDoorMHkWalk
import Derived.Test.YtfdlopimncodcaaGreatDoorBpHxBack
namespace Go.Proofs.YtfdlopimncodcaaGreatDoor
open Go.RowKit Go.Proofs.Aid Go.Proofs.Bx

theorem nindex (g o c : Nat) (L : List Nm) (x : ByteArray) (j : Nat) (w : World) (h : ∀ (t : Nat) y, L[t]? = some y → w.cell? ⟨g, o + t, none⟩ = some (encStr y)) (hs : L.Pairwise (· < ·)) (hj : L[j]? = some x.data.toList) (hl : L.length ≤ 1000) :
    Calls Tryz.prog 34 #[.slice (some ⟨g, o, none⟩) L.length c, .string x] w fun e w' => e = .returned (.int .i64 (j : Int)) ∧ w' = w := by
  have hget : ∀ t, t < L.length → (L.map fun y => (⟨y.toArray⟩ : ByteArray)).getD t ByteArray.empty = ⟨(L.getD t []).toArray⟩ := fun t ht => by
    rw [List.getD_eq_getElem?_getD, List.getD_eq_getElem?_getD, List.getElem?_map, List.getElem?_eq_getElem ht]
    rfl
  obtain ⟨hjl, hje⟩ := List.getElem?_eq_some_iff.1 hj
  have hi := Lib.idxOfS_hit (L.map fun y => (⟨y.toArray⟩ : ByteArray)) L.length j x hjl (by rw [List.length_map]; exact Nat.le_refl _) (by
    rw [hget j hjl, List.getD_eq_getElem?_getD, hj]
    exact (ba_list rfl).symm) (fun t ht e => by
    rw [hget t (by omega), List.getD_eq_getElem?_getD, List.getElem?_eq_getElem (by omega)] at e
    have h1 := List.pairwise_iff_getElem.1 hs t j (by omega) hjl ht
    have h2 : x.data.toList = L[t] := by rw [← e]; rfl
    rw [hje, h2] at h1
    exact List.lt_irrefl _ h1)
  have := Tryz.slices_Index_string g o L.length c (L.map fun y => (⟨y.toArray⟩ : ByteArray)) x w (by rw [List.length_map]; exact Nat.le_refl _) (by omega) (fun t ht => by
    rw [List.length_map] at ht
    rw [hget t ht, List.getD_eq_getElem?_getD, List.getElem?_eq_getElem ht]
    exact h t _ (List.getElem?_eq_getElem ht))
  rw [hi] at this
  exact this
set_option maxHeartbeats 2000000 in
set_option maxRecDepth 100000 in
theorem mv_big (v : Value) (L : List Dd) (a b : ByteArray) (w : World) (h : Dds w v L) (hb : smallB L = false ∨ 100 < a.size ∨ 100 < b.size) :
    Calls Tryz.prog 5 #[v, .string a, .string b] w fun e w' => e = .returned (.bool true) ∧ Below w.heap.size w w' := by
  have cS := small_is v L w h
  obtain ⟨a0, c0, rfl, _⟩ := h
  obtain ⟨len, hn⟩ : ∃ n, L.length = n := ⟨_, rfl⟩
  rw [hn] at cS ⊢
  cases hB : smallB L with
  | false =>
    rw [hB] at cS
    clear hb hB hn
    go_enter Tryz.func5, Tryz.ntmps5
    go_wp2_with fail
    refine cS.mono ?_
    rintro e w1 ⟨rfl, hw⟩
    obtain rfl : w = w1 := hw.symm
    clear cS hw
    go_wp2_with fail
    go_ret
    exact ⟨rfl, Below.refl _ _⟩
  | true =>
    rw [hB] at cS
    by_cases ha : 100 < a.size
    · have d1 : decide ((100 : Int) < (a.size : Int)) = true := decide_eq_true (by omega)
      clear hb hB hn
      go_enter Tryz.func5, Tryz.ntmps5
      go_wp2_with fail
      refine cS.mono ?_
      rintro e w1 ⟨rfl, hw⟩
      obtain rfl : w = w1 := hw.symm
      clear cS hw
      go_wp2_with fail
      go_ret
      exact ⟨rfl, Below.refl _ _⟩
    · have d1 : decide ((100 : Int) < (a.size : Int)) = false := decide_eq_false (by omega)
      have d2 : decide ((100 : Int) < (b.size : Int)) = true := decide_eq_true (by
        rcases hb with h | h | h
        · rw [hB] at h; cases h
        · exact absurd h ha
        · omega)
      clear hb hB hn
      go_enter Tryz.func5, Tryz.ntmps5
      go_wp2_with fail
      refine cS.mono ?_
      rintro e w1 ⟨rfl, hw⟩
      obtain rfl : w = w1 := hw.symm
      clear cS hw
      go_wp2_with fail
      go_ret
      exact ⟨rfl, Below.refl _ _⟩
set_option maxHeartbeats 16000000 in
set_option maxRecDepth 100000 in
theorem hmv_walk (v : Value) (L : List Dd) (a b : ByteArray) (w : World) (h : Dds w v L) (hE : WEnv w) (hB : smallB L = true) (ha : a.size ≤ 100) (hb' : b.size ≤ 100) :
    Calls Tryz.prog 5 #[v, .string a, .string b] w fun e w' => e = .returned (.bool true) ∧ Below w.heap.size w w' := by
  have cS := small_is v L w h
  rw [hB] at cS
  have cH := housed_is w hE.1
  obtain ⟨a0, c0, rfl, _⟩ := id h
  obtain ⟨len, hn⟩ : ∃ n, L.length = n := ⟨_, rfl⟩
  rw [hn] at cS ⊢
  have HD : Hid (Dds w (.slice a0 len c0) L ∧ L.length = len ∧ len ≤ 40 ∧ ∀ x ∈ L, x.s.size ≤ 100 ∧ x.t.size ≤ 100) := by
    unfold smallB at hB
    simp only [Bool.and_eq_true, decide_eq_true_eq, List.all_eq_true, smallD] at hB
    exact ⟨by rw [← hn]; exact h, hn, by omega, fun x hx => hB.2 x hx⟩
  have HE : Hid (WEnv w) := hE
  have dA : decide ((100 : Int) < (a.size : Int)) = false := decide_eq_false (by omega)
  have dB : decide ((100 : Int) < (b.size : Int)) = false := decide_eq_false (by omega)
  clear h hE hB hn
  go_enter Tryz.func5, Tryz.ntmps5
  go_wp2_with fail
  refine cS.mono ?_
  rintro e w0 ⟨rfl, hw⟩
  obtain rfl : w = w0 := hw.symm
  clear cS hw
  go_wp2_with fail
  refine cH.mono ?_
  rintro e w1 ⟨rfl, hb1⟩
  have cN := new_is w1
  have HB1 : Hid (Below w.heap.size w w1) := hb1
  obtain ⟨H1, hH1⟩ : ∃ k, w1.heap.size = k := ⟨_, rfl⟩
  have HH1 : Hid (w1.heap.size = H1 ∧ w.heap.size ≤ H1) := ⟨hH1, by rw [← hH1]; exact hb1.size⟩
  rw [hH1] at cN
  clear cH hb1 hH1
  go_wp2_with fail
  refine cN.mono ?_
  rintro e w2 ⟨rfl, h2, hn2, hb2⟩
  have HI2 : Hid (∃ l nx Ws C wv, Hst w.heap.size (H1 + 1) H1 l nx Ws C wv w2 ∧ HI w.heap.size 0 l nx Ws C ∧ Below w.heap.size w w2) := by
    obtain ⟨q1, q2⟩ := hst_new HH1.out.2 h2 hn2
    exact ⟨_, _, _, _, _, q1, q2, HB1.out.trans (hb2.mono HH1.out.2)⟩
  clear cN h2 hn2 hb2 HB1
  go_wp2_with fail
  go_loopw [8] (fun iv wr => ∃ k : Nat, iv = .int .i64 (k : Int) ∧ k ≤ len ∧ Hid (∃ l nx Ws C wv, Hst w.heap.size (H1 + 1) H1 l nx Ws C wv wr ∧ HI w.heap.size k l nx Ws C ∧ Below w.heap.size w wr)) (fun iv _ => len - (intOf iv).toNat)
  case atStart => exact ⟨0, rfl, Nat.zero_le _, HI2⟩
  case round =>
    clear HI2
    obtain ⟨k, rfl, hk, HQ⟩ := hrel
    have hk40 : len ≤ 40 := HD.out.2.2.1
    by_cases hlt : k < len
    · have q1 : decide ((k : Int) < (len : Int)) = true := decide_eq_true (by omega)
      have i1 : (0 : Int) ≤ (k : Int) := by omega
      have i2 : (k : Int) < (len : Int) := by omega
      obtain ⟨l, nx, Ws, C, wv, hst, hI, hlow⟩ := HQ.out
      obtain ⟨x, hxk⟩ : ∃ x, L[k]? = some x := ⟨_, List.getElem?_eq_getElem (by have := HD.out.2.1; omega)⟩
      obtain ⟨xb, xo, rfl, x0, x1, x2, x3⟩ := dds_at (HD.out.1.below hlow (Nat.le_refl _)) hxk
      obtain ⟨xw, xs, xt, xy⟩ := x
      have hxs := HD.out.2.2.2 _ (List.mem_of_getElem? hxk)
      have x0 : wr.cell? ⟨xb, xo + k * 4, none⟩ = some (.int .i64 xw) := x0
      have x1 : wr.cell? ⟨xb, xo + k * 4 + 1, none⟩ = some (.string xs) := x1
      have x2 : wr.cell? ⟨xb, xo + k * 4 + 2, none⟩ = some (.string xt) := x2
      have x3 : wr.cell? ⟨xb, xo + k * 4 + 3, none⟩ = some (.bool xy) := x3
      have cD := deed_x w.heap.size (H1 + 1) H1 k l nx Ws C wv xw xs xt xy wr (HE.out.1.below hlow).1 hst hI (by omega) hxs.1 hxs.2
      have HX3 : Hid (HI w.heap.size k l nx Ws C ∧ Below w.heap.size w wr) := ⟨hI, hlow⟩
      clear hst hI hlow hxk hxs HQ
      go_wp2_with fail
      refine cD.mono ?_
      rintro e w4 hO
      have HN : Hid (∃ l nx Ws C wv, Hst w.heap.size (H1 + 1) H1 l nx Ws C wv w4 ∧ HI w.heap.size (k + 1) l nx Ws C ∧ Below w.heap.size w w4) := by
        obtain ⟨hlow4, ⟨E, wv4, _, hst4⟩ | ⟨wv5, l5, nx5, Ws5, C5, _, hst5, hI5⟩⟩ := hO
        · exact ⟨_, _, _, _, _, hst4, HX3.out.1.more (by omega), HX3.out.2.trans hlow4⟩
        · exact ⟨_, _, _, _, _, hst5, hI5, HX3.out.2.trans hlow4⟩
      obtain ⟨v4, rfl⟩ := hO.ret
      clear cD hO HX3 x0 x1 x2 x3
      go_wp2_with fail
      go_roundw
      case rel => exact ⟨k + 1, by go_num, by omega, HN⟩
      case measure => simp [intOf]; omega
    · have q1 : decide ((k : Int) < (len : Int)) = false := decide_eq_false (by omega)
      obtain rfl : len = k := by omega
      obtain ⟨l, nx, Ws, C, wv, hst, hI, hlow⟩ := HQ.out
      have cA := name_is a wr (HE.out.1.below hlow).1 (by omega)
      have HX1 : Hid (Hst w.heap.size (H1 + 1) H1 l nx Ws C wv wr ∧ HI w.heap.size len l nx Ws C ∧ Below w.heap.size w wr) := ⟨hst, hI, hlow⟩
      clear hst hI hlow HQ HD
      go_wp2_with fail
      refine cA.mono ?_
      rintro e w3 ⟨hb3, ⟨n, hn, hn2, rfl⟩ | ⟨hn, rfl⟩⟩
      · have hB3 : Below w.heap.size w w3 := HX1.out.2.2.trans (hb3.mono HX1.out.2.2.size)
        have cB := name_is b w3 (HE.out.1.below hB3).1 (by omega)
        have HX3 : Hid (Hst w.heap.size (H1 + 1) H1 l nx Ws C wv w3 ∧ HI w.heap.size len l nx Ws C ∧ Below w.heap.size w w3 ∧ nameB a.data.toList = some n.data.toList) := ⟨HX1.out.1.below hb3, HX1.out.2.1, hB3, hn⟩
        clear cA hb3 hB3 hn HX1
        go_wp2_with fail
        refine cB.mono ?_
        rintro e w4 ⟨hb4, ⟨m, hm, hm2, rfl⟩ | ⟨hm, rfl⟩⟩
        · have hB4 : Below w.heap.size w w4 := HX3.out.2.2.1.trans (hb4.mono HX3.out.2.2.1.size)
          have HX4 : Hid (Hst w.heap.size (H1 + 1) H1 l nx Ws C wv w4 ∧ HI w.heap.size len l nx Ws C ∧ Below w.heap.size w w4 ∧ nameB a.data.toList = some n.data.toList ∧ nameB b.data.toList = some m.data.toList) := ⟨HX3.out.1.below hb4, HX3.out.2.1, hB4, HX3.out.2.2.2, hm⟩
          clear cB hb4 hB4 hm HX3
          by_cases hin : n.data.toList = inboxN
          · have hT : n.toList = [73, 78, 66, 79, 88] := by rw [Lib.toList_data]; exact hin
            go_wp2_with fail
            go_ret
            exact ⟨rfl, HX4.out.2.2.1⟩
          · have hT : ¬ n.toList = [73, 78, 66, 79, 88] := by rw [Lib.toList_data]; exact hin
            have hT2 : (n.toList == [73, 78, 66, 79, 88]) = false := beq_eq_false_iff_ne.2 hT
            have cLI := Tryz.strings_LastIndexByte m 47 (by omega) w4
            have HIN : Hid (n.data.toList ≠ inboxN) := hin
            clear hin
            by_cases hJ0 : Lib.lastIndexByte m 47 < 0
            · have HXm : Hid (Hst w.heap.size (H1 + 1) H1 l nx Ws C wv w4 ∧ HI w.heap.size len l nx Ws C ∧ Below w.heap.size w w4 ∧ lackB l m.data.toList = [] ∧ nameB a.data.toList = some n.data.toList ∧ nameB b.data.toList = some m.data.toList ∧ n.data.toList ≠ inboxN ∧ n.size ≤ 60 ∧ m.size ≤ 60) := ⟨HX4.out.1, HX4.out.2.1, HX4.out.2.2.1, lack_byte HX4.out.2.1.wh (Or.inl hJ0), HX4.out.2.2.2.1, HX4.out.2.2.2.2, HIN.out, hn2, hm2⟩
              obtain ⟨J, hJ⟩ : ∃ x, Lib.lastIndexByte m 47 = x := ⟨_, rfl⟩
              rw [hJ] at cLI hJ0
              have dj0 : decide ((0 : Int) ≤ J) = false := decide_eq_false (by omega)
              clear hJ HX4
              go_wp2_with fail
              refine cLI.mono ?_
              rintro e w5 ⟨rfl, hw⟩
              obtain rfl : w4 = w5 := hw.symm
              clear cLI hw
              have cS := save_is (H1 + 1) H1 l nx wv Ws C w4 HXm.out.1.hse ((HXm.out.2.1.saOk (by omega)).sml (by omega))
              go_wp2_with fail
              refine cS.mono ?_
              rintro e w7 ⟨⟨nv, bv, wv7, rfl, hsv⟩, hb7⟩
              obtain ⟨S, hS⟩ : ∃ S, svOf l Ws nx C = S := ⟨_, rfl⟩
              have hSn : S.next = nx := by rw [← hS]; rfl
              have hSA : SaOk len S := hS ▸ HXm.out.2.1.saOk (by omega)
              rw [hS] at hsv
              obtain ⟨N, hN⟩ : ∃ n, S.names.length = n := ⟨_, rfl⟩
              obtain ⟨na, nc, rfl⟩ : ∃ a c, nv = .slice a N c := by obtain ⟨a, c, e, _⟩ := hsv.1; exact ⟨a, c, by rw [e, hN]⟩
              obtain ⟨ba, bc, rfl⟩ : ∃ a c, bv = .slice a N c := by obtain ⟨a, c, e, _⟩ := hsv.2.1; exact ⟨a, c, by rw [e, ← hSA.ok.len, hN]⟩
              obtain ⟨va, vl, vc, rfl⟩ : ∃ a n c, wv7 = .slice a n c := by obtain ⟨a, c, e, _⟩ := hsv.2.2; exact ⟨a, _, c, e⟩
              have b8 : Below w7.heap.size w7 (w7.alloc (.cells #[.slice na N nc, .slice ba N bc, .slice va vl vc, .int .i64 nx] 35)) := (Below.refl _ _).alloc (Nat.le_refl _) _
              have e8 := heap_alloc_new w7 (.cells #[.slice na N nc, .slice ba N bc, .slice va vl vc, .int .i64 nx] 35)
              obtain ⟨sb, hsb⟩ : ∃ n, w7.heap.size = n := ⟨_, rfl⟩
              obtain ⟨W8, hW8⟩ : ∃ W, w7.alloc (.cells #[.slice na N nc, .slice ba N bc, .slice va vl vc, .int .i64 nx] 35) = W := ⟨_, rfl⟩
              rw [hW8] at b8 e8
              have hB8 : Below w.heap.size w W8 := HXm.out.2.2.1.trans ((hb7.trans (b8.mono hb7.size)).mono HXm.out.2.2.1.size)
              have hst8 := (HXm.out.1.below hb7).below b8
              rw [hsb] at e8
              have cR := mv_first w.heap.size (H1 + 1) H1 len l nx Ws C wv a b n.data.toList m.data.toList W8 (HE.out.1.below hB8).1 (Nat.le_trans HE.out.1.2.2 hB8.size) hst8 HXm.out.2.1 (by omega) (by omega) (by omega) HXm.out.2.2.2.2.1 HXm.out.2.2.2.2.2.1 HXm.out.2.2.2.2.2.2.1 HXm.out.2.2.2.1
              have HX8 : Hid (Hst w.heap.size (H1 + 1) H1 l nx Ws C wv W8 ∧ Below w.heap.size w W8 ∧ SvAt W8 (.slice na N nc) (.slice ba N bc) (.slice va vl vc) S ∧ SaOk len S ∧ S.next = nx ∧ svOf l Ws nx C = S ∧ S.names.length = N ∧ W8.heap[sb]? = some (.cells #[.slice na N nc, .slice ba N bc, .slice va vl vc, .int .i64 nx] 35 (0, 0))) := ⟨hst8, hB8, hsv.below b8 (Nat.le_refl _), hSA, hSn, hS, hN, e8⟩
              clear cS hsv hb7 hS hSn hSA hN b8 e8 hB8 hst8
              go_wp2_with fail
              refine cR.mono ?_
              rintro e w9 (⟨⟨E, rfl⟩, hb9⟩ | ⟨rfl, hk9, hlow9, l', C', hBk, hC, hst9, hI9⟩)
              · have HF : Hid (Below w.heap.size w w9) := HX8.out.2.1.trans (hb9.mono HX8.out.2.1.size)
                clear cR hb9
                go_wp2_with fail
                go_ret
                exact ⟨rfl, HF.out⟩
              · have cS2 := save_is (H1 + 1) H1 l' nx wv Ws C' w9 hst9.hse ((hI9.saOk (by omega)).sml (by omega))
                have hne := ne_of_kind HX8.out.1.hse.hs HX8.out.2.2.2.2.2.2.2 (by decide)
                have e9 := (hk9.block sb (Array.getElem?_eq_some_iff.1 HX8.out.2.2.2.2.2.2.2).1 hne.1 hne.2).trans HX8.out.2.2.2.2.2.2.2
                have sv9 : SvAt w9 (.slice na N nc) (.slice ba N bc) (.slice va vl vc) S := by
                  have h1 := HX8.out.1
                  obtain ⟨aw, cw, ew⟩ := h1.form
                  have h2 := h1.hse.hs
                  rw [ew] at h2
                  exact HX8.out.2.2.1.hk h2 hk9
                have HX9 : Hid (Hst w.heap.size (H1 + 1) H1 l' nx Ws C' wv w9 ∧ HI w.heap.size (len + 1) l' nx Ws C' ∧ Below w.heap.size w w9 ∧ SvAt w9 (.slice na N nc) (.slice ba N bc) (.slice va vl vc) S ∧ Back l n.data.toList m.data.toList l' ∧ (∀ p ∈ l, C' p.2 = C p.2) ∧ w9.heap[sb]? = some (.cells #[.slice na N nc, .slice ba N bc, .slice va vl vc, .int .i64 nx] 35 (0, 0))) := ⟨hst9, hI9, HX8.out.2.1.trans hlow9, sv9, hBk, hC, e9⟩
                clear cR hk9 hlow9 hBk hC hst9 hI9 hne e9 sv9
                go_wp2_with fail
                refine cS2.mono ?_
                rintro e w10 ⟨⟨nv2, bv2, wv10, rfl, hsv2⟩, hb10⟩
                obtain ⟨S2, hS2⟩ : ∃ S, svOf l' Ws nx C' = S := ⟨_, rfl⟩
                rw [hS2] at hsv2
                have hSA2 : SaOk (len + 1) S2 := hS2 ▸ HX9.out.2.1.saOk (by omega)
                have hN2 : S2.names.length = N := by
                  rw [← HX8.out.2.2.2.2.2.2.1, ← HX8.out.2.2.2.2.2.1, ← hS2]
                  simp [svOf, namesB, HX9.out.2.2.2.2.1.len]
                obtain ⟨na2, nc2, rfl⟩ : ∃ a c, nv2 = .slice a N c := by obtain ⟨a, c, e, _⟩ := hsv2.1; exact ⟨a, c, by rw [e, hN2]⟩
                obtain ⟨ba2, bc2, rfl⟩ : ∃ a c, bv2 = .slice a N c := by obtain ⟨a, c, e, _⟩ := hsv2.2.1; exact ⟨a, c, by rw [e, ← hSA2.ok.len, hN2]⟩
                obtain ⟨va2, vl2, vc2, rfl⟩ : ∃ a n c, wv10 = .slice a n c := by obtain ⟨a, c, e, _⟩ := hsv2.2.2; exact ⟨a, _, c, e⟩
                have b11 : Below w10.heap.size w10 (w10.alloc (.cells #[.slice na2 N nc2, .slice ba2 N bc2, .slice va2 vl2 vc2, .int .i64 nx] 35)) := (Below.refl _ _).alloc (Nat.le_refl _) _
                have e11 := heap_alloc_new w10 (.cells #[.slice na2 N nc2, .slice ba2 N bc2, .slice va2 vl2 vc2, .int .i64 nx] 35)
                obtain ⟨sb2, hsb2⟩ : ∃ n, w10.heap.size = n := ⟨_, rfl⟩
                obtain ⟨W11, hW11⟩ : ∃ W, w10.alloc (.cells #[.slice na2 N nc2, .slice ba2 N bc2, .slice va2 vl2 vc2, .int .i64 nx] 35) = W := ⟨_, rfl⟩
                rw [hW11] at b11 e11
                have b9 : Below w9.heap.size w9 W11 := hb10.trans (b11.mono hb10.size)
                rw [hsb2] at e11
                have e12 := (b9.block _ (Array.getElem?_eq_some_iff.1 HX9.out.2.2.2.2.2.2).1).trans HX9.out.2.2.2.2.2.2
                have HX11 : Hid (Hst w.heap.size (H1 + 1) H1 l' nx Ws C' wv W11 ∧ Below w.heap.size w W11 ∧ SvAt W11 (.slice na N nc) (.slice ba N bc) (.slice va vl vc) S ∧ SvAt W11 (.slice na2 N nc2) (.slice ba2 N bc2) (.slice va2 vl2 vc2) S2 ∧ svOf l' Ws nx C' = S2 ∧ S2.names.length = N ∧ SaOk (len + 1) S2) := ⟨HX9.out.1.below b9, HX9.out.2.2.1.trans (b9.mono HX9.out.2.2.1.size), HX9.out.2.2.2.1.below b9 (Nat.le_refl _), hsv2.below b11 (Nat.le_refl _), hS2, hN2, hSA2⟩
                have hN30 : N ≤ 30 := by rw [← hN2]; exact hSA2.ok.most
                have hsl1 := (Array.getElem?_eq_some_iff.1 e12).1
                have hsl2 := (Array.getElem?_eq_some_iff.1 e11).1
                have HR : Hid (∀ W, Below W11.heap.size W11 W → (W.cell? ⟨sb, 0, none⟩ = some (.slice na N nc) ∧ W.cell? ⟨sb, 1, none⟩ = some (.slice ba N bc) ∧ W.cell? ⟨sb, 2, none⟩ = some (.slice va vl vc) ∧ W.cell? ⟨sb, 3, none⟩ = some (.int .i64 nx)) ∧ W.cell? ⟨sb2, 0, none⟩ = some (.slice na2 N nc2) ∧ W.cell? ⟨sb2, 1, none⟩ = some (.slice ba2 N bc2) ∧ W.cell? ⟨sb2, 3, none⟩ = some (.int .i64 nx)) := fun W hW => by
                  have g1 := (hW.block _ hsl1).trans e12
                  have g2 := (hW.block _ hsl2).trans e11
                  exact ⟨⟨rd_cell g1 rfl, rd_cell g1 rfl, rd_cell g1 rfl, rd_cell g1 rfl⟩, rd_cell g2 rfl, rd_cell g2 rfl, rd_cell g2 rfl⟩
                obtain ⟨⟨t0, t1, t2, t3⟩, t4, t5, t6⟩ := HR.out W11 (Below.refl _ _)
                clear cS2 hsv2 hb10 hS2 hSA2 hN2 b11 e11 b9 e12 hsl1 hsl2
                go_wp2_with fail
                go_loopw [18] (fun iv wr => ∃ i : Nat, iv = .int .i64 (i : Int) ∧ i ≤ N ∧ Hid (Below W11.heap.size W11 wr)) (fun iv _ => N - (intOf iv).toNat)
                case atStart => exact ⟨0, rfl, Nat.zero_le _, Below.refl _ _⟩
                case round =>
                  clear t0 t1 t2 t3 t4 t5 t6
                  obtain ⟨i, rfl, hi, HB⟩ := hrel
                  by_cases hlt : i < N
                  · have d1 : decide ((i : Int) < (N : Int)) = true := decide_eq_true (by omega)
                    have i1 : (0 : Int) ≤ (i : Int) := by omega
                    have i2 : (i : Int) < (N : Int) := by omega
                    obtain ⟨⟨sn, c⟩, hpi⟩ : ∃ p, l[i]? = some p := ⟨_, List.getElem?_eq_getElem (by have h1 := HX8.out.2.2.2.2.2.2.1; have h2 := congrArg (fun S => S.names.length) HX8.out.2.2.2.2.2.1; have h2 : (namesB l).length = S.names.length := h2; simp [namesB] at h2; omega)⟩
                    have hmem := List.mem_of_getElem? hpi
                    have hsi : S.names[i]? = some sn := by rw [← HX8.out.2.2.2.2.2.1]; show (namesB l)[i]? = _; unfold namesB; rw [List.getElem?_map, hpi]; rfl
                    have hbi : S.boxes[i]? = some (C c) := by rw [← HX8.out.2.2.2.2.2.1]; show (l.map fun p => C p.2)[i]? = _; rw [List.getElem?_map, hpi]; rfl
                    obtain ⟨j, hqj⟩ := List.getElem?_of_mem (HX9.out.2.2.2.2.1.at hmem)
                    have hsj : S2.names[j]? = some (movedN n.data.toList m.data.toList sn) := by rw [← HX11.out.2.2.2.2.1]; show (namesB l')[j]? = _; unfold namesB; rw [List.getElem?_map, hqj]; rfl
                    have hbj : S2.boxes[j]? = some (C c) := by rw [← HX11.out.2.2.2.2.1, ← HX9.out.2.2.2.2.2.1 _ hmem]; show (l'.map fun p => C' p.2)[j]? = _; rw [List.getElem?_map, hqj]; rfl
                    have hjN : j < N := by have h1 := (List.getElem?_eq_some_iff.1 hsj).1; have h2 := HX11.out.2.2.2.2.2.1; omega
                    obtain ⟨nb, no, rfl, hnc⟩ := sl_at (HX11.out.2.2.1.1.below HB.out (Nat.le_refl _)) hsi
                    have nmc := hnc i sn hsi
                    obtain ⟨nb2, no2, rfl, hnc2⟩ := sl_at (HX11.out.2.2.2.1.1.below HB.out (Nat.le_refl _)) hsj
                    obtain ⟨b1, o1, rfl, p1, _, lv1, p2, p3⟩ := bxr_at (HX11.out.2.2.1.2.1.below HB.out (Nat.le_refl _)) hbi
                    obtain ⟨b2, o2, rfl, q1, _, lv2, q2, q3⟩ := bxr_at (HX11.out.2.2.2.1.2.1.below HB.out (Nat.le_refl _)) hbj
                    obtain ⟨⟨xv, xn, xl⟩, hx⟩ : ∃ x, C c = x := ⟨_, rfl⟩
                    rw [hx] at p1 p3 q1 q3
                    have p1 : wr.cell? ⟨b1, o1 + i * 3, none⟩ = some (.int .i64 xv) := p1
                    have q1 : wr.cell? ⟨b2, o2 + j * 3, none⟩ = some (.int .i64 xv) := q1
                    have p3 : Lts wr lv1 xl := p3
                    have q3 : Lts wr lv2 xl := q3
                    obtain ⟨la1, lc1, rfl, _⟩ := id p3
                    obtain ⟨la2, lc2, rfl, _⟩ := id q3
                    have hsn60 : sn.length ≤ 60 := nameB_len60 (HX8.out.2.2.2.1.ok.nname sn (List.mem_of_getElem? hsi))
                    obtain ⟨ss, hss⟩ : ∃ s : ByteArray, (⟨sn.toArray⟩ : ByteArray) = s := ⟨_, rfl⟩
                    have hssl : ss.data.toList = sn := by rw [← hss]
                    have hssz : ss.size ≤ 60 := by rw [← hss, ba_size]; exact hsn60
                    replace nmc : wr.cell? ⟨nb, no + i, none⟩ = some (.string ss) := by rw [← hss]; exact nmc
                    have HIX : Hid (∀ xs : ByteArray, xs.data.toList = movedN n.data.toList m.data.toList sn → Calls Tryz.prog 34 #[.slice (some ⟨nb2, no2, none⟩) N nc2, .string xs] wr fun e w' => e = .returned (.int .i64 (j : Int)) ∧ w' = wr) := fun xs hxs => by
                      have h1 := nindex nb2 no2 nc2 S2.names xs j wr (fun t y hy => hnc2 t y hy) HX11.out.2.2.2.2.2.2.ok.nsorted (by rw [hxs]; exact hsj) (by have := HX11.out.2.2.2.2.2.1; omega)
                      rw [HX11.out.2.2.2.2.2.1] at h1
                      exact h1
                    obtain ⟨⟨t0, t1, t2, t3⟩, t4, t5, t6⟩ := HR.out wr HB.out
                    obtain ⟨WD, hWD⟩ : ∃ W, wr.drew = W := ⟨_, rfl⟩
                    have HND : Hid (Below W11.heap.size W11 WD) := by rw [← hWD]; exact HB.out.drew
                    have k0 := t5
                    have k1 := q1
                    have k2 := t1
                    have k3 := p1
                    have k4 := q2
                    have k5 := p2
                    have dj : decide ((j : Int) < (0 : Int)) = false := decide_eq_false (by omega)
                    have j1 : (0 : Int) ≤ (j : Int) := by omega
                    have j2 : (j : Int) < (N : Int) := by omega
                    have hnz := HXm.out.2.2.2.2.2.2.2.1
                    have hmz := HXm.out.2.2.2.2.2.2.2.2
                    clear hpi hmem hsi hbi hqj hsj hbj hnc hnc2 p1 p2 p3 q1 q2 q3 hx hsn60 hss t2 t6 HB
                    by_cases hc : sn = n.data.toList ∨ inB sn n.data.toList = true
                    · have hle : n.size ≤ ss.size := by
                        have h1 : n.data.toList.length = n.size := by rw [Array.length_toList]; rfl
                        have h2 : ss.data.toList.length = ss.size := by rw [Array.length_toList]; rfl
                        rcases hc with hc | hc
                        · rw [hssl, hc] at h2; omega
                        · obtain ⟨u, hu⟩ := in_iff.1 hc
                          rw [hssl, hu, List.length_append] at h2
                          omega
                      obtain ⟨es, hes⟩ : ∃ s : ByteArray, ss.extract n.size ss.size = s := ⟨_, rfl⟩
                      obtain ⟨xs, hxs⟩ : ∃ s : ByteArray, m ++ es = s := ⟨_, rfl⟩
                      have hesz : es.size ≤ 60 := by rw [← hes]; simp; omega
                      have hxl : xs.data.toList = movedN n.data.toList m.data.toList sn := by
                        rw [← hxs, hcat_list, ← hes]
                        have h1 : n.data.toList.length = n.size := by rw [Array.length_toList]; rfl
                        have h2 : ss.data.toList.length = ss.size := by rw [Array.length_toList]; rfl
                        have hd : (ss.extract n.size ss.size).data.toList = ss.data.toList.drop n.size := by
                          rw [ByteArray.data_extract, Array.toList_extract]
                          show (ss.data.toList.drop n.size).take (ss.size - n.size) = _
                          exact List.take_of_length_le (by rw [List.length_drop]; omega)
                        unfold movedN
                        rw [if_pos hc, hd, hssl, h1]
                      have cI := HIX.out xs hxl
                      have g1 : (9223372036854775807 < m.size + es.size) = False := eq_false (by omega)
                      have g2 : (0 : Int) ≤ (n.size : Int) := by omega
                      have g3 : (n.size : Int) ≤ (ss.size : Int) := by omega
                      clear HIX hxl
                      by_cases heq : ss = n
                      · have g4 : (ss.toList == n.toList) = true := by rw [heq]; simp
                        clear hc hssl heq
                        go_wp2_with fail
                        refine cI.mono ?_
                        rintro e w15 ⟨rfl, hw⟩
                        obtain rfl : wr = w15 := hw.symm
                        clear cI hw
                        go_upto_region 34 with fail
                        refine wp_region_held_drew (S := fun W => W.cell? ⟨sb2, 1, none⟩ = some (.slice (some ⟨b2, o2, none⟩) N bc2) ∧ W.cell? ⟨b2, o2 + j * 3, none⟩ = some (.int .i64 xv) ∧ W.cell? ⟨sb, 1, none⟩ = some (.slice (some ⟨b1, o1, none⟩) N bc) ∧ W.cell? ⟨b1, o1 + i * 3, none⟩ = some (.int .i64 xv) ∧ W.cell? ⟨b2, o2 + j * 3 + 2, none⟩ = some (.slice la2 xl.length lc2) ∧ W.cell? ⟨b1, o1 + i * 3 + 2, none⟩ = some (.slice la1 xl.length lc1)) (by kernel_rfl) ?_ (fun hHeld => ?_)
                        · exact ⟨by simpa using k0, by simpa using k1, by simpa using k2, by simpa using k3, by simpa using k4, by simpa using k5⟩
                        rw [hWD] at hHeld ⊢
                        refine wpAnyH_take (i := 0) (v := ?_) rfl (by kernel_rfl) (by kernel_rfl) (by kernel_rfl) (fun _ _ _ h => h) (Or.inl ⟨by rfl, ?_⟩) (by first | assumption | trivial) ?_
                        rotate_left
                        · intro w hSw; go_simp; (try with_reducible rfl)
                        change wpAnyH _ _ _ _ _ _ _ (Act.put _ (some 141) _) _; simp only [Act.put, List.setIfInBounds_toArray, List.set_cons_zero, List.set_cons_succ]
                        refine wpAnyH_take (i := 1) (v := ?_) rfl (by kernel_rfl) (by kernel_rfl) (by kernel_rfl) (fun _ _ _ h => h) (Or.inl ⟨by rfl, ?_⟩) (by first | assumption | trivial) ?_
                        rotate_left
                        · intro w hSw; go_simp; (try with_reducible rfl)
                        change wpAnyH _ _ _ _ _ _ _ (Act.put _ (some 142) _) _; simp only [Act.put, List.setIfInBounds_toArray, List.set_cons_zero, List.set_cons_succ]
                        refine wpAnyH_take (i := 2) (v := ?_) rfl (by kernel_rfl) (by kernel_rfl) (by kernel_rfl) (fun _ _ _ h => h) (Or.inl ⟨by rfl, ?_⟩) (by first | assumption | trivial) ?_
                        rotate_left
                        · intro w hSw; go_simp; (try with_reducible rfl)
                        change wpAnyH _ _ _ _ _ _ _ (Act.put _ (some 143) _) _; simp only [Act.put, List.setIfInBounds_toArray, List.set_cons_zero, List.set_cons_succ]
                        refine wpAnyH_take (i := 3) (v := ?_) rfl (by kernel_rfl) (by kernel_rfl) (by kernel_rfl) (fun _ _ _ h => h) (Or.inl ⟨by rfl, ?_⟩) (by first | assumption | trivial) ?_
                        rotate_left
                        · intro w hSw; go_simp; (try with_reducible rfl)
                        change wpAnyH _ _ _ _ _ _ _ (Act.put _ (some 144) _) _; simp only [Act.put, List.setIfInBounds_toArray, List.set_cons_zero, List.set_cons_succ]
                        refine wpAnyH_take (i := 4) (v := ?_) rfl (by kernel_rfl) (by kernel_rfl) (by kernel_rfl) (fun _ _ _ h => h) (Or.inl ⟨by rfl, ?_⟩) (by first | assumption | trivial) ?_
                        rotate_left
                        · intro w hSw; go_simp; (try with_reducible rfl)
                        change wpAnyH _ _ _ _ _ _ _ (Act.put _ (some 145) _) _; simp only [Act.put, List.setIfInBounds_toArray, List.set_cons_zero, List.set_cons_succ]
                        refine wpAnyH_take (i := 5) (v := ?_) rfl (by kernel_rfl) (by kernel_rfl) (by kernel_rfl) (fun _ _ _ h => h) (Or.inl ⟨by rfl, ?_⟩) (by first | assumption | trivial) ?_
                        rotate_left
                        · intro w hSw; go_simp; (try with_reducible rfl)
                        change wpAnyH _ _ _ _ _ _ _ (Act.put _ (some 146) _) _; simp only [Act.put, List.setIfInBounds_toArray, List.set_cons_zero, List.set_cons_succ]
                        refine wpAnyH_take (i := 6) (v := ?_) rfl (by kernel_rfl) (by kernel_rfl) (by kernel_rfl) (fun _ _ _ h => h) (Or.inl ⟨by rfl, ?_⟩) (by first | assumption | trivial) ?_
                        rotate_left
                        · intro w hSw; go_simp; (try with_reducible rfl)
                        change wpAnyH _ _ _ _ _ _ _ (Act.put _ (some 147) _) _; simp only [Act.put, List.setIfInBounds_toArray, List.set_cons_zero, List.set_cons_succ]
                        refine wpAnyH_take (i := 7) (v := ?_) rfl (by kernel_rfl) (by kernel_rfl) (by kernel_rfl) (fun _ _ _ h => h) (Or.inl ⟨by rfl, ?_⟩) (by first | assumption | trivial) ?_
                        rotate_left
                        · intro w hSw; go_simp; (try with_reducible rfl)
                        change wpAnyH _ _ _ _ _ _ _ (Act.put _ (some 148) _) _; simp only [Act.put, List.setIfInBounds_toArray, List.set_cons_zero, List.set_cons_succ]
                        refine wpAnyH_take (i := 8) (v := ?_) rfl (by kernel_rfl) (by kernel_rfl) (by kernel_rfl) (fun _ _ _ h => h) (Or.inl ⟨by rfl, ?_⟩) (by first | assumption | trivial) ?_
                        rotate_left
                        · intro w hSw; go_simp; (try with_reducible rfl)
                        change wpAnyH _ _ _ _ _ _ _ (Act.put _ (some 149) _) _; simp only [Act.put, List.setIfInBounds_toArray, List.set_cons_zero, List.set_cons_succ]
                        refine wpAnyH_take (i := 9) (v := ?_) rfl (by kernel_rfl) (by kernel_rfl) (by kernel_rfl) (fun _ _ _ h => h) (Or.inl ⟨by rfl, ?_⟩) (by first | assumption | trivial) ?_
                        rotate_left
                        · intro w hSw; go_simp; (try with_reducible rfl)
                        change wpAnyH _ _ _ _ _ _ _ (Act.put _ (some 150) _) _; simp only [Act.put, List.setIfInBounds_toArray, List.set_cons_zero, List.set_cons_succ]
                        refine wpAnyH_take (i := 10) (v := ?_) rfl (by kernel_rfl) (by kernel_rfl) (by kernel_rfl) (fun _ _ _ h => h) (Or.inl ⟨by rfl, ?_⟩) (by first | assumption | trivial) ?_
                        rotate_left
                        · intro w hSw; go_simp; (try with_reducible rfl)
                        change wpAnyH _ _ _ _ _ _ _ (Act.put _ (some 151) _) _; simp only [Act.put, List.setIfInBounds_toArray, List.set_cons_zero, List.set_cons_succ]
                        refine wpAnyH_take (i := 11) (v := ?_) rfl (by kernel_rfl) (by kernel_rfl) (by kernel_rfl) (fun _ _ _ h => h) (Or.inl ⟨by rfl, ?_⟩) (by first | assumption | trivial) ?_
                        rotate_left
                        · intro w hSw; go_simp; (try with_reducible rfl)
                        change wpAnyH _ _ _ _ _ _ _ (Act.put _ (some 152) _) _; simp only [Act.put, List.setIfInBounds_toArray, List.set_cons_zero, List.set_cons_succ]
                        refine wpAnyH_take (i := 12) (v := ?_) rfl (by kernel_rfl) (by kernel_rfl) (by kernel_rfl) (fun _ _ _ h => h) (Or.inl ⟨by rfl, ?_⟩) (by first | assumption | trivial) ?_
                        rotate_left
                        · intro w hSw; go_simp; (try with_reducible rfl)
                        change wpAnyH _ _ _ _ _ _ _ (Act.put _ (some 153) _) _; simp only [Act.put, List.setIfInBounds_toArray, List.set_cons_zero, List.set_cons_succ]
                        refine wpAnyH_take (i := 13) (v := ?_) rfl (by kernel_rfl) (by kernel_rfl) (by kernel_rfl) (fun _ _ _ h => h) (Or.inl ⟨by rfl, ?_⟩) (by first | assumption | trivial) ?_
                        rotate_left
                        · intro w hSw; go_simp; (try with_reducible rfl)
                        change wpAnyH _ _ _ _ _ _ _ (Act.put _ (some 154) _) _; simp only [Act.put, List.setIfInBounds_toArray, List.set_cons_zero, List.set_cons_succ]
                        refine wpAnyH_take (i := 14) (v := ?_) rfl (by kernel_rfl) (by kernel_rfl) (by kernel_rfl) (fun _ _ _ h => h) (Or.inl ⟨by rfl, ?_⟩) (by first | assumption | trivial) ?_
                        rotate_left
                        · intro w hSw; go_simp; (try with_reducible rfl)
                        change wpAnyH _ _ _ _ _ _ _ (Act.put _ (some 155) _) _; simp only [Act.put, List.setIfInBounds_toArray, List.set_cons_zero, List.set_cons_succ]
                        refine wpAnyH_take (i := 15) (v := ?_) rfl (by kernel_rfl) (by kernel_rfl) (by kernel_rfl) (fun _ _ _ h => h) (Or.inl ⟨by rfl, ?_⟩) (by first | assumption | trivial) ?_
                        rotate_left
                        · intro w hSw; go_simp; (try with_reducible rfl)
                        change wpAnyH _ _ _ _ _ _ _ (Act.put _ (some 156) _) _; simp only [Act.put, List.setIfInBounds_toArray, List.set_cons_zero, List.set_cons_succ]
                        refine wpAnyH_take (i := 16) (v := ?_) rfl (by kernel_rfl) (by kernel_rfl) (by kernel_rfl) (fun _ _ _ h => h) (Or.inl ⟨by rfl, ?_⟩) (by first | assumption | trivial) ?_
                        rotate_left
                        · intro w hSw; go_simp; (try with_reducible rfl)
                        change wpAnyH _ _ _ _ _ _ _ (Act.put _ (some 157) _) _; simp only [Act.put, List.setIfInBounds_toArray, List.set_cons_zero, List.set_cons_succ]
                        refine wpAnyH_take (i := 17) (v := ?_) rfl (by kernel_rfl) (by kernel_rfl) (by kernel_rfl) (fun _ _ _ h => h) (Or.inl ⟨by rfl, ?_⟩) (by first | assumption | trivial) ?_
                        rotate_left
                        · intro w hSw; go_simp; (try with_reducible rfl)
                        change wpAnyH _ _ _ _ _ _ _ (Act.put _ (some 158) _) _; simp only [Act.put, List.setIfInBounds_toArray, List.set_cons_zero, List.set_cons_succ]
                        refine wpAnyH_take (i := 18) (v := ?_) rfl (by kernel_rfl) (by kernel_rfl) (by kernel_rfl) (fun _ _ _ h => h) (Or.inl ⟨by rfl, ?_⟩) (by first | assumption | trivial) ?_
                        rotate_left
                        · intro w hSw; go_simp; (try with_reducible rfl)
                        change wpAnyH _ _ _ _ _ _ _ (Act.put _ (some 159) _) _; simp only [Act.put, List.setIfInBounds_toArray, List.set_cons_zero, List.set_cons_succ]
                        refine wpAnyH_take (i := 19) (v := ?_) rfl (by kernel_rfl) (by kernel_rfl) (by kernel_rfl) (fun _ _ _ h => h) (Or.inl ⟨by rfl, ?_⟩) (by first | assumption | trivial) ?_
                        rotate_left
                        · intro w hSw; go_simp; (try with_reducible rfl)
                        change wpAnyH _ _ _ _ _ _ _ (Act.put _ (some 160) _) _; simp only [Act.put, List.setIfInBounds_toArray, List.set_cons_zero, List.set_cons_succ]
                        refine wpAnyH_take (i := 20) (v := ?_) rfl (by kernel_rfl) (by kernel_rfl) (by kernel_rfl) (fun _ _ _ h => h) (Or.inl ⟨by rfl, ?_⟩) (by first | assumption | trivial) ?_
                        rotate_left
                        · intro w hSw; go_simp; (try with_reducible rfl)
                        change wpAnyH _ _ _ _ _ _ _ (Act.put _ (some 161) _) _; simp only [Act.put, List.setIfInBounds_toArray, List.set_cons_zero, List.set_cons_succ]
                        refine wpAnyH_take (i := 21) (v := ?_) rfl (by kernel_rfl) (by kernel_rfl) (by kernel_rfl) (fun _ _ _ h => h) (Or.inl ⟨by rfl, ?_⟩) (by first | assumption | trivial) ?_
                        rotate_left
                        · intro w hSw; go_simp; (try with_reducible rfl)
                        change wpAnyH _ _ _ _ _ _ _ (Act.put _ (some 162) _) _; simp only [Act.put, List.setIfInBounds_toArray, List.set_cons_zero, List.set_cons_succ]
                        refine wpAnyH_take (i := 22) (v := ?_) rfl (by kernel_rfl) (by kernel_rfl) (by kernel_rfl) (fun _ _ _ h => h) (Or.inl ⟨by rfl, ?_⟩) (by first | assumption | trivial) ?_
                        rotate_left
                        · intro w hSw; go_simp; (try with_reducible rfl)
                        change wpAnyH _ _ _ _ _ _ _ (Act.put _ (some 163) _) _; simp only [Act.put, List.setIfInBounds_toArray, List.set_cons_zero, List.set_cons_succ]
                        refine wpAnyH_take (i := 23) (v := ?_) rfl (by kernel_rfl) (by kernel_rfl) (by kernel_rfl) (fun _ _ _ h => h) (Or.inl ⟨by rfl, ?_⟩) (by first | assumption | trivial) ?_
                        rotate_left
                        · intro w hSw; go_simp; (try with_reducible rfl)
                        change wpAnyH _ _ _ _ _ _ _ (Act.put _ (some 164) _) _; simp only [Act.put, List.setIfInBounds_toArray, List.set_cons_zero, List.set_cons_succ]
                        refine wpAnyH_take (i := 24) (v := ?_) rfl (by kernel_rfl) (by kernel_rfl) (by kernel_rfl) (fun _ _ _ h => h) (Or.inl ⟨by rfl, ?_⟩) (by first | assumption | trivial) ?_
                        rotate_left
                        · intro w hSw; go_simp; (try with_reducible rfl)
                        change wpAnyH _ _ _ _ _ _ _ (Act.put _ (some 165) _) _; simp only [Act.put, List.setIfInBounds_toArray, List.set_cons_zero, List.set_cons_succ]
                        refine wpAnyH_take (i := 25) (v := ?_) rfl (by kernel_rfl) (by kernel_rfl) (by kernel_rfl) (fun _ _ _ h => h) (Or.inl ⟨by rfl, ?_⟩) (by first | assumption | trivial) ?_
                        rotate_left
                        · intro w hSw; go_simp; (try with_reducible rfl)
                        change wpAnyH _ _ _ _ _ _ _ (Act.put _ (some 166) _) _; simp only [Act.put, List.setIfInBounds_toArray, List.set_cons_zero, List.set_cons_succ]
                        refine wpAnyH_take (i := 26) (v := ?_) rfl (by kernel_rfl) (by kernel_rfl) (by kernel_rfl) (fun _ _ _ h => h) (Or.inl ⟨by rfl, ?_⟩) (by first | assumption | trivial) ?_
                        rotate_left
                        · intro w hSw; go_simp; (try with_reducible rfl)
                        change wpAnyH _ _ _ _ _ _ _ (Act.put _ (some 167) _) _; simp only [Act.put, List.setIfInBounds_toArray, List.set_cons_zero, List.set_cons_succ]
                        refine wpAnyH_take (i := 27) (v := ?_) rfl (by kernel_rfl) (by kernel_rfl) (by kernel_rfl) (fun _ _ _ h => h) (Or.inl ⟨by rfl, ?_⟩) (by first | assumption | trivial) ?_
                        rotate_left
                        · intro w hSw; go_simp; (try with_reducible rfl)
                        change wpAnyH _ _ _ _ _ _ _ (Act.put _ (some 168) _) _; simp only [Act.put, List.setIfInBounds_toArray, List.set_cons_zero, List.set_cons_succ]
                        refine wpAnyH_take (i := 28) (v := ?_) rfl (by kernel_rfl) (by kernel_rfl) (by kernel_rfl) (fun _ _ _ h => h) (Or.inl ⟨by rfl, ?_⟩) (by first | assumption | trivial) ?_
                        rotate_left
                        · intro w hSw; go_simp; (try with_reducible rfl)
                        change wpAnyH _ _ _ _ _ _ _ (Act.put _ (some 169) _) _; simp only [Act.put, List.setIfInBounds_toArray, List.set_cons_zero, List.set_cons_succ]
                        refine wpAnyH_take (i := 29) (v := ?_) rfl (by kernel_rfl) (by kernel_rfl) (by kernel_rfl) (fun _ _ _ h => h) (Or.inl ⟨by rfl, ?_⟩) (by first | assumption | trivial) ?_
                        rotate_left
                        · intro w hSw; go_simp; (try with_reducible rfl)
                        change wpAnyH _ _ _ _ _ _ _ (Act.put _ (some 170) _) _; simp only [Act.put, List.setIfInBounds_toArray, List.set_cons_zero, List.set_cons_succ]
                        refine wpAnyH_take (i := 30) (v := ?_) rfl (by kernel_rfl) (by kernel_rfl) (by kernel_rfl) (fun _ _ _ h => h) (Or.inl ⟨by rfl, ?_⟩) (by first | assumption | trivial) ?_
                        rotate_left
                        · intro w hSw; go_simp; (try with_reducible rfl)
                        change wpAnyH _ _ _ _ _ _ _ (Act.put _ (some 171) _) _; simp only [Act.put, List.setIfInBounds_toArray, List.set_cons_zero, List.set_cons_succ]
                        refine wpAnyH_take (i := 31) (v := ?_) rfl (by kernel_rfl) (by kernel_rfl) (by kernel_rfl) (fun _ _ _ h => h) (Or.inl ⟨by rfl, ?_⟩) (by first | assumption | trivial) ?_
                        rotate_left
                        · intro w hSw; go_simp; (try with_reducible rfl)
                        change wpAnyH _ _ _ _ _ _ _ (Act.put _ (some 172) _) _; simp only [Act.put, List.setIfInBounds_toArray, List.set_cons_zero, List.set_cons_succ]
                        refine wpAnyH_take (i := 32) (v := ?_) rfl (by kernel_rfl) (by kernel_rfl) (by kernel_rfl) (fun _ _ _ h => h) (Or.inl ⟨by rfl, ?_⟩) (by first | assumption | trivial) ?_
                        rotate_left
                        · intro w hSw; go_simp; (try with_reducible rfl)
                        change wpAnyH _ _ _ _ _ _ _ (Act.put _ (some 173) _) _; simp only [Act.put, List.setIfInBounds_toArray, List.set_cons_zero, List.set_cons_succ]
                        refine wpAnyH_take (i := 33) (v := ?_) rfl (by kernel_rfl) (by kernel_rfl) (by kernel_rfl) (fun _ _ _ h => h) (Or.inl ⟨by rfl, ?_⟩) (by first | assumption | trivial) ?_
                        rotate_left
                        · intro w hSw; go_simp; (try with_reducible rfl)
                        change wpAnyH _ _ _ _ _ _ _ (Act.put _ (some 174) _) _; simp only [Act.put, List.setIfInBounds_toArray, List.set_cons_zero, List.set_cons_succ]
                        refine wpAnyH_done (by kernel_rfl) ?_ _
                        clear hHeld
                        go_wp2_with fail
                        go_roundw
                        case rel => exact ⟨i + 1, by go_num, by omega, HND⟩
                        case measure => simp [intOf]; omega
                      · have g4 : (ss.toList == n.toList) = false := beq_eq_false_iff_ne.2 fun e => heq (by
                          rw [Lib.toList_data, Lib.toList_data] at e
                          rw [ba_list e])
                        have g5 : ¬ ss.toList = n.toList := fun e => by rw [e] at g4; simp at g4
                        have g6 : (9223372036854775807 < n.size + 1) = False := eq_false (by omega)
                        obtain ⟨ps, hps⟩ : ∃ s : ByteArray, n ++ ⟨#[47]⟩ = s := ⟨_, rfl⟩
                        have cP := Tryz.strings_HasPrefix ss ps wr
                        have hpr : Lib.hasPrefix ss.data.toList ps.data.toList = true := by
                          rw [hssl, ← hps, hcat_list]
                          rcases hc with hc | hc
                          · exact absurd (by rw [ba_list hssl, hc]) heq
                          · exact hc
                        rw [hpr] at cP
                        clear hc hssl hpr heq
                        go_wp2_with fail
                        refine cP.mono ?_
                        rintro e w14 ⟨rfl, hw⟩
                        obtain rfl : wr = w14 := hw.symm
                        clear cP hw
                        go_wp2_with fail
                        refine cI.mono ?_
                        rintro e w15 ⟨rfl, hw⟩
                        obtain rfl : wr = w15 := hw.symm
                        clear cI hw
                        go_upto_region 34 with fail
                        refine wp_region_held_drew (S := fun W => W.cell? ⟨sb2, 1, none⟩ = some (.slice (some ⟨b2, o2, none⟩) N bc2) ∧ W.cell? ⟨b2, o2 + j * 3, none⟩ = some (.int .i64 xv) ∧ W.cell? ⟨sb, 1, none⟩ = some (.slice (some ⟨b1, o1, none⟩) N bc) ∧ W.cell? ⟨b1, o1 + i * 3, none⟩ = some (.int .i64 xv) ∧ W.cell? ⟨b2, o2 + j * 3 + 2, none⟩ = some (.slice la2 xl.length lc2) ∧ W.cell? ⟨b1, o1 + i * 3 + 2, none⟩ = some (.slice la1 xl.length lc1)) (by kernel_rfl) ?_ (fun hHeld => ?_)
                        · exact ⟨by simpa using k0, by simpa using k1, by simpa using k2, by simpa using k3, by simpa using k4, by simpa using k5⟩
                        rw [hWD] at hHeld ⊢
                        refine wpAnyH_take (i := 0) (v := ?_) rfl (by kernel_rfl) (by kernel_rfl) (by kernel_rfl) (fun _ _ _ h => h) (Or.inl ⟨by rfl, ?_⟩) (by first | assumption | trivial) ?_
                        rotate_left
                        · intro w hSw; go_simp; (try with_reducible rfl)
                        change wpAnyH _ _ _ _ _ _ _ (Act.put _ (some 141) _) _; simp only [Act.put, List.setIfInBounds_toArray, List.set_cons_zero, List.set_cons_succ]
                        refine wpAnyH_take (i := 1) (v := ?_) rfl (by kernel_rfl) (by kernel_rfl) (by kernel_rfl) (fun _ _ _ h => h) (Or.inl ⟨by rfl, ?_⟩) (by first | assumption | trivial) ?_
                        rotate_left
                        · intro w hSw; go_simp; (try with_reducible rfl)
                        change wpAnyH _ _ _ _ _ _ _ (Act.put _ (some 142) _) _; simp only [Act.put, List.setIfInBounds_toArray, List.set_cons_zero, List.set_cons_succ]
                        refine wpAnyH_take (i := 2) (v := ?_) rfl (by kernel_rfl) (by kernel_rfl) (by kernel_rfl) (fun _ _ _ h => h) (Or.inl ⟨by rfl, ?_⟩) (by first | assumption | trivial) ?_
                        rotate_left
                        · intro w hSw; go_simp; (try with_reducible rfl)
                        change wpAnyH _ _ _ _ _ _ _ (Act.put _ (some 143) _) _; simp only [Act.put, List.setIfInBounds_toArray, List.set_cons_zero, List.set_cons_succ]
                        refine wpAnyH_take (i := 3) (v := ?_) rfl (by kernel_rfl) (by kernel_rfl) (by kernel_rfl) (fun _ _ _ h => h) (Or.inl ⟨by rfl, ?_⟩) (by first | assumption | trivial) ?_
                        rotate_left
                        · intro w hSw; go_simp; (try with_reducible rfl)
                        change wpAnyH _ _ _ _ _ _ _ (Act.put _ (some 144) _) _; simp only [Act.put, List.setIfInBounds_toArray, List.set_cons_zero, List.set_cons_succ]
                        refine wpAnyH_take (i := 4) (v := ?_) rfl (by kernel_rfl) (by kernel_rfl) (by kernel_rfl) (fun _ _ _ h => h) (Or.inl ⟨by rfl, ?_⟩) (by first | assumption | trivial) ?_
                        rotate_left
                        · intro w hSw; go_simp; (try with_reducible rfl)
                        change wpAnyH _ _ _ _ _ _ _ (Act.put _ (some 145) _) _; simp only [Act.put, List.setIfInBounds_toArray, List.set_cons_zero, List.set_cons_succ]
                        refine wpAnyH_take (i := 5) (v := ?_) rfl (by kernel_rfl) (by kernel_rfl) (by kernel_rfl) (fun _ _ _ h => h) (Or.inl ⟨by rfl, ?_⟩) (by first | assumption | trivial) ?_
                        rotate_left
                        · intro w hSw; go_simp; (try with_reducible rfl)
                        change wpAnyH _ _ _ _ _ _ _ (Act.put _ (some 146) _) _; simp only [Act.put, List.setIfInBounds_toArray, List.set_cons_zero, List.set_cons_succ]
                        refine wpAnyH_take (i := 6) (v := ?_) rfl (by kernel_rfl) (by kernel_rfl) (by kernel_rfl) (fun _ _ _ h => h) (Or.inl ⟨by rfl, ?_⟩) (by first | assumption | trivial) ?_
                        rotate_left
                        · intro w hSw; go_simp; (try with_reducible rfl)
                        change wpAnyH _ _ _ _ _ _ _ (Act.put _ (some 147) _) _; simp only [Act.put, List.setIfInBounds_toArray, List.set_cons_zero, List.set_cons_succ]
                        refine wpAnyH_take (i := 7) (v := ?_) rfl (by kernel_rfl) (by kernel_rfl) (by kernel_rfl) (fun _ _ _ h => h) (Or.inl ⟨by rfl, ?_⟩) (by first | assumption | trivial) ?_
                        rotate_left
                        · intro w hSw; go_simp; (try with_reducible rfl)
                        change wpAnyH _ _ _ _ _ _ _ (Act.put _ (some 148) _) _; simp only [Act.put, List.setIfInBounds_toArray, List.set_cons_zero, List.set_cons_succ]
                        refine wpAnyH_take (i := 8) (v := ?_) rfl (by kernel_rfl) (by kernel_rfl) (by kernel_rfl) (fun _ _ _ h => h) (Or.inl ⟨by rfl, ?_⟩) (by first | assumption | trivial) ?_
                        rotate_left
                        · intro w hSw; go_simp; (try with_reducible rfl)
                        change wpAnyH _ _ _ _ _ _ _ (Act.put _ (some 149) _) _; simp only [Act.put, List.setIfInBounds_toArray, List.set_cons_zero, List.set_cons_succ]
                        refine wpAnyH_take (i := 9) (v := ?_) rfl (by kernel_rfl) (by kernel_rfl) (by kernel_rfl) (fun _ _ _ h => h) (Or.inl ⟨by rfl, ?_⟩) (by first | assumption | trivial) ?_
                        rotate_left
                        · intro w hSw; go_simp; (try with_reducible rfl)
                        change wpAnyH _ _ _ _ _ _ _ (Act.put _ (some 150) _) _; simp only [Act.put, List.setIfInBounds_toArray, List.set_cons_zero, List.set_cons_succ]
                        refine wpAnyH_take (i := 10) (v := ?_) rfl (by kernel_rfl) (by kernel_rfl) (by kernel_rfl) (fun _ _ _ h => h) (Or.inl ⟨by rfl, ?_⟩) (by first | assumption | trivial) ?_
                        rotate_left
                        · intro w hSw; go_simp; (try with_reducible rfl)
                        change wpAnyH _ _ _ _ _ _ _ (Act.put _ (some 151) _) _; simp only [Act.put, List.setIfInBounds_toArray, List.set_cons_zero, List.set_cons_succ]
                        refine wpAnyH_take (i := 11) (v := ?_) rfl (by kernel_rfl) (by kernel_rfl) (by kernel_rfl) (fun _ _ _ h => h) (Or.inl ⟨by rfl, ?_⟩) (by first | assumption | trivial) ?_
                        rotate_left
                        · intro w hSw; go_simp; (try with_reducible rfl)
                        change wpAnyH _ _ _ _ _ _ _ (Act.put _ (some 152) _) _; simp only [Act.put, List.setIfInBounds_toArray, List.set_cons_zero, List.set_cons_succ]
                        refine wpAnyH_take (i := 12) (v := ?_) rfl (by kernel_rfl) (by kernel_rfl) (by kernel_rfl) (fun _ _ _ h => h) (Or.inl ⟨by rfl, ?_⟩) (by first | assumption | trivial) ?_
                        rotate_left
                        · intro w hSw; go_simp; (try with_reducible rfl)
                        change wpAnyH _ _ _ _ _ _ _ (Act.put _ (some 153) _) _; simp only [Act.put, List.setIfInBounds_toArray, List.set_cons_zero, List.set_cons_succ]
                        refine wpAnyH_take (i := 13) (v := ?_) rfl (by kernel_rfl) (by kernel_rfl) (by kernel_rfl) (fun _ _ _ h => h) (Or.inl ⟨by rfl, ?_⟩) (by first | assumption | trivial) ?_
                        rotate_left
                        · intro w hSw; go_simp; (try with_reducible rfl)
                        change wpAnyH _ _ _ _ _ _ _ (Act.put _ (some 154) _) _; simp only [Act.put, List.setIfInBounds_toArray, List.set_cons_zero, List.set_cons_succ]
                        refine wpAnyH_take (i := 14) (v := ?_) rfl (by kernel_rfl) (by kernel_rfl) (by kernel_rfl) (fun _ _ _ h => h) (Or.inl ⟨by rfl, ?_⟩) (by first | assumption | trivial) ?_
                        rotate_left
                        · intro w hSw; go_simp; (try with_reducible rfl)
                        change wpAnyH _ _ _ _ _ _ _ (Act.put _ (some 155) _) _; simp only [Act.put, List.setIfInBounds_toArray, List.set_cons_zero, List.set_cons_succ]
                        refine wpAnyH_take (i := 15) (v := ?_) rfl (by kernel_rfl) (by kernel_rfl) (by kernel_rfl) (fun _ _ _ h => h) (Or.inl ⟨by rfl, ?_⟩) (by first | assumption | trivial) ?_
                        rotate_left
                        · intro w hSw; go_simp; (try with_reducible rfl)
                        change wpAnyH _ _ _ _ _ _ _ (Act.put _ (some 156) _) _; simp only [Act.put, List.setIfInBounds_toArray, List.set_cons_zero, List.set_cons_succ]
                        refine wpAnyH_take (i := 16) (v := ?_) rfl (by kernel_rfl) (by kernel_rfl) (by kernel_rfl) (fun _ _ _ h => h) (Or.inl ⟨by rfl, ?_⟩) (by first | assumption | trivial) ?_
                        rotate_left
                        · intro w hSw; go_simp; (try with_reducible rfl)
                        change wpAnyH _ _ _ _ _ _ _ (Act.put _ (some 157) _) _; simp only [Act.put, List.setIfInBounds_toArray, List.set_cons_zero, List.set_cons_succ]
                        refine wpAnyH_take (i := 17) (v := ?_) rfl (by kernel_rfl) (by kernel_rfl) (by kernel_rfl) (fun _ _ _ h => h) (Or.inl ⟨by rfl, ?_⟩) (by first | assumption | trivial) ?_
                        rotate_left
                        · intro w hSw; go_simp; (try with_reducible rfl)
                        change wpAnyH _ _ _ _ _ _ _ (Act.put _ (some 158) _) _; simp only [Act.put, List.setIfInBounds_toArray, List.set_cons_zero, List.set_cons_succ]
                        refine wpAnyH_take (i := 18) (v := ?_) rfl (by kernel_rfl) (by kernel_rfl) (by kernel_rfl) (fun _ _ _ h => h) (Or.inl ⟨by rfl, ?_⟩) (by first | assumption | trivial) ?_
                        rotate_left
                        · intro w hSw; go_simp; (try with_reducible rfl)
                        change wpAnyH _ _ _ _ _ _ _ (Act.put _ (some 159) _) _; simp only [Act.put, List.setIfInBounds_toArray, List.set_cons_zero, List.set_cons_succ]
                        refine wpAnyH_take (i := 19) (v := ?_) rfl (by kernel_rfl) (by kernel_rfl) (by kernel_rfl) (fun _ _ _ h => h) (Or.inl ⟨by rfl, ?_⟩) (by first | assumption | trivial) ?_
                        rotate_left
                        · intro w hSw; go_simp; (try with_reducible rfl)
                        change wpAnyH _ _ _ _ _ _ _ (Act.put _ (some 160) _) _; simp only [Act.put, List.setIfInBounds_toArray, List.set_cons_zero, List.set_cons_succ]
                        refine wpAnyH_take (i := 20) (v := ?_) rfl (by kernel_rfl) (by kernel_rfl) (by kernel_rfl) (fun _ _ _ h => h) (Or.inl ⟨by rfl, ?_⟩) (by first | assumption | trivial) ?_
                        rotate_left
                        · intro w hSw; go_simp; (try with_reducible rfl)
                        change wpAnyH _ _ _ _ _ _ _ (Act.put _ (some 161) _) _; simp only [Act.put, List.setIfInBounds_toArray, List.set_cons_zero, List.set_cons_succ]
                        refine wpAnyH_take (i := 21) (v := ?_) rfl (by kernel_rfl) (by kernel_rfl) (by kernel_rfl) (fun _ _ _ h => h) (Or.inl ⟨by rfl, ?_⟩) (by first | assumption | trivial) ?_
                        rotate_left
                        · intro w hSw; go_simp; (try with_reducible rfl)
                        change wpAnyH _ _ _ _ _ _ _ (Act.put _ (some 162) _) _; simp only [Act.put, List.setIfInBounds_toArray, List.set_cons_zero, List.set_cons_succ]
                        refine wpAnyH_take (i := 22) (v := ?_) rfl (by kernel_rfl) (by kernel_rfl) (by kernel_rfl) (fun _ _ _ h => h) (Or.inl ⟨by rfl, ?_⟩) (by first | assumption | trivial) ?_
                        rotate_left
                        · intro w hSw; go_simp; (try with_reducible rfl)
                        change wpAnyH _ _ _ _ _ _ _ (Act.put _ (some 163) _) _; simp only [Act.put, List.setIfInBounds_toArray, List.set_cons_zero, List.set_cons_succ]
                        refine wpAnyH_take (i := 23) (v := ?_) rfl (by kernel_rfl) (by kernel_rfl) (by kernel_rfl) (fun _ _ _ h => h) (Or.inl ⟨by rfl, ?_⟩) (by first | assumption | trivial) ?_
                        rotate_left
                        · intro w hSw; go_simp; (try with_reducible rfl)
                        change wpAnyH _ _ _ _ _ _ _ (Act.put _ (some 164) _) _; simp only [Act.put, List.setIfInBounds_toArray, List.set_cons_zero, List.set_cons_succ]
                        refine wpAnyH_take (i := 24) (v := ?_) rfl (by kernel_rfl) (by kernel_rfl) (by kernel_rfl) (fun _ _ _ h => h) (Or.inl ⟨by rfl, ?_⟩) (by first | assumption | trivial) ?_
                        rotate_left
                        · intro w hSw; go_simp; (try with_reducible rfl)
                        change wpAnyH _ _ _ _ _ _ _ (Act.put _ (some 165) _) _; simp only [Act.put, List.setIfInBounds_toArray, List.set_cons_zero, List.set_cons_succ]
                        refine wpAnyH_take (i := 25) (v := ?_) rfl (by kernel_rfl) (by kernel_rfl) (by kernel_rfl) (fun _ _ _ h => h) (Or.inl ⟨by rfl, ?_⟩) (by first | assumption | trivial) ?_
                        rotate_left
                        · intro w hSw; go_simp; (try with_reducible rfl)
                        change wpAnyH _ _ _ _ _ _ _ (Act.put _ (some 166) _) _; simp only [Act.put, List.setIfInBounds_toArray, List.set_cons_zero, List.set_cons_succ]
                        refine wpAnyH_take (i := 26) (v := ?_) rfl (by kernel_rfl) (by kernel_rfl) (by kernel_rfl) (fun _ _ _ h => h) (Or.inl ⟨by rfl, ?_⟩) (by first | assumption | trivial) ?_
                        rotate_left
                        · intro w hSw; go_simp; (try with_reducible rfl)
                        change wpAnyH _ _ _ _ _ _ _ (Act.put _ (some 167) _) _; simp only [Act.put, List.setIfInBounds_toArray, List.set_cons_zero, List.set_cons_succ]
                        refine wpAnyH_take (i := 27) (v := ?_) rfl (by kernel_rfl) (by kernel_rfl) (by kernel_rfl) (fun _ _ _ h => h) (Or.inl ⟨by rfl, ?_⟩) (by first | assumption | trivial) ?_
                        rotate_left
                        · intro w hSw; go_simp; (try with_reducible rfl)
                        change wpAnyH _ _ _ _ _ _ _ (Act.put _ (some 168) _) _; simp only [Act.put, List.setIfInBounds_toArray, List.set_cons_zero, List.set_cons_succ]
                        refine wpAnyH_take (i := 28) (v := ?_) rfl (by kernel_rfl) (by kernel_rfl) (by kernel_rfl) (fun _ _ _ h => h) (Or.inl ⟨by rfl, ?_⟩) (by first | assumption | trivial) ?_
                        rotate_left
                        · intro w hSw; go_simp; (try with_reducible rfl)
                        change wpAnyH _ _ _ _ _ _ _ (Act.put _ (some 169) _) _; simp only [Act.put, List.setIfInBounds_toArray, List.set_cons_zero, List.set_cons_succ]
                        refine wpAnyH_take (i := 29) (v := ?_) rfl (by kernel_rfl) (by kernel_rfl) (by kernel_rfl) (fun _ _ _ h => h) (Or.inl ⟨by rfl, ?_⟩) (by first | assumption | trivial) ?_
                        rotate_left
                        · intro w hSw; go_simp; (try with_reducible rfl)
                        change wpAnyH _ _ _ _ _ _ _ (Act.put _ (some 170) _) _; simp only [Act.put, List.setIfInBounds_toArray, List.set_cons_zero, List.set_cons_succ]
                        refine wpAnyH_take (i := 30) (v := ?_) rfl (by kernel_rfl) (by kernel_rfl) (by kernel_rfl) (fun _ _ _ h => h) (Or.inl ⟨by rfl, ?_⟩) (by first | assumption | trivial) ?_
                        rotate_left
                        · intro w hSw; go_simp; (try with_reducible rfl)
                        change wpAnyH _ _ _ _ _ _ _ (Act.put _ (some 171) _) _; simp only [Act.put, List.setIfInBounds_toArray, List.set_cons_zero, List.set_cons_succ]
                        refine wpAnyH_take (i := 31) (v := ?_) rfl (by kernel_rfl) (by kernel_rfl) (by kernel_rfl) (fun _ _ _ h => h) (Or.inl ⟨by rfl, ?_⟩) (by first | assumption | trivial) ?_
                        rotate_left
                        · intro w hSw; go_simp; (try with_reducible rfl)
                        change wpAnyH _ _ _ _ _ _ _ (Act.put _ (some 172) _) _; simp only [Act.put, List.setIfInBounds_toArray, List.set_cons_zero, List.set_cons_succ]
                        refine wpAnyH_take (i := 32) (v := ?_) rfl (by kernel_rfl) (by kernel_rfl) (by kernel_rfl) (fun _ _ _ h => h) (Or.inl ⟨by rfl, ?_⟩) (by first | assumption | trivial) ?_
                        rotate_left
                        · intro w hSw; go_simp; (try with_reducible rfl)
                        change wpAnyH _ _ _ _ _ _ _ (Act.put _ (some 173) _) _; simp only [Act.put, List.setIfInBounds_toArray, List.set_cons_zero, List.set_cons_succ]
                        refine wpAnyH_take (i := 33) (v := ?_) rfl (by kernel_rfl) (by kernel_rfl) (by kernel_rfl) (fun _ _ _ h => h) (Or.inl ⟨by rfl, ?_⟩) (by first | assumption | trivial) ?_
                        rotate_left
                        · intro w hSw; go_simp; (try with_reducible rfl)
                        change wpAnyH _ _ _ _ _ _ _ (Act.put _ (some 174) _) _; simp only [Act.put, List.setIfInBounds_toArray, List.set_cons_zero, List.set_cons_succ]
                        refine wpAnyH_done (by kernel_rfl) ?_ _
                        clear hHeld
                        go_wp2_with fail
                        go_roundw
                        case rel => exact ⟨i + 1, by go_num, by omega, HND⟩
                        case measure => simp [intOf]; omega
                    · have g4 : (ss.toList == n.toList) = false := beq_eq_false_iff_ne.2 fun e => hc (Or.inl (by
                        rw [Lib.toList_data, Lib.toList_data] at e
                        rw [← hssl, e]))
                      have g5 : ¬ ss.toList = n.toList := fun e => by rw [e] at g4; simp at g4
                      have g6 : (9223372036854775807 < n.size + 1) = False := eq_false (by omega)
                      obtain ⟨ps, hps⟩ : ∃ s : ByteArray, n ++ ⟨#[47]⟩ = s := ⟨_, rfl⟩
                      have cP := Tryz.strings_HasPrefix ss ps wr
                      have hpr : Lib.hasPrefix ss.data.toList ps.data.toList = false := by
                        rw [hssl, ← hps, hcat_list]
                        rw [← Bool.not_eq_true]
                        exact fun h => hc (Or.inr h)
                      rw [hpr] at cP
                      have cI := HIX.out ss (by unfold movedN; rw [if_neg hc, hssl])
                      clear hc hssl hpr HIX
                      go_wp2_with fail
                      refine cP.mono ?_
                      rintro e w14 ⟨rfl, hw⟩
                      obtain rfl : wr = w14 := hw.symm
                      clear cP hw
                      go_wp2_with fail
                      refine cI.mono ?_
                      rintro e w15 ⟨rfl, hw⟩
                      obtain rfl : wr = w15 := hw.symm
                      clear cI hw
                      go_upto_region 34 with fail
                      refine wp_region_held_drew (S := fun W => W.cell? ⟨sb2, 1, none⟩ = some (.slice (some ⟨b2, o2, none⟩) N bc2) ∧ W.cell? ⟨b2, o2 + j * 3, none⟩ = some (.int .i64 xv) ∧ W.cell? ⟨sb, 1, none⟩ = some (.slice (some ⟨b1, o1, none⟩) N bc) ∧ W.cell? ⟨b1, o1 + i * 3, none⟩ = some (.int .i64 xv) ∧ W.cell? ⟨b2, o2 + j * 3 + 2, none⟩ = some (.slice la2 xl.length lc2) ∧ W.cell? ⟨b1, o1 + i * 3 + 2, none⟩ = some (.slice la1 xl.length lc1)) (by kernel_rfl) ?_ (fun hHeld => ?_)
                      · exact ⟨by simpa using k0, by simpa using k1, by simpa using k2, by simpa using k3, by simpa using k4, by simpa using k5⟩
                      rw [hWD] at hHeld ⊢
                      refine wpAnyH_take (i := 0) (v := ?_) rfl (by kernel_rfl) (by kernel_rfl) (by kernel_rfl) (fun _ _ _ h => h) (Or.inl ⟨by rfl, ?_⟩) (by first | assumption | trivial) ?_
                      rotate_left
                      · intro w hSw; go_simp; (try with_reducible rfl)
                      change wpAnyH _ _ _ _ _ _ _ (Act.put _ (some 141) _) _; simp only [Act.put, List.setIfInBounds_toArray, List.set_cons_zero, List.set_cons_succ]
                      refine wpAnyH_take (i := 1) (v := ?_) rfl (by kernel_rfl) (by kernel_rfl) (by kernel_rfl) (fun _ _ _ h => h) (Or.inl ⟨by rfl, ?_⟩) (by first | assumption | trivial) ?_
                      rotate_left
                      · intro w hSw; go_simp; (try with_reducible rfl)
                      change wpAnyH _ _ _ _ _ _ _ (Act.put _ (some 142) _) _; simp only [Act.put, List.setIfInBounds_toArray, List.set_cons_zero, List.set_cons_succ]
                      refine wpAnyH_take (i := 2) (v := ?_) rfl (by kernel_rfl) (by kernel_rfl) (by kernel_rfl) (fun _ _ _ h => h) (Or.inl ⟨by rfl, ?_⟩) (by first | assumption | trivial) ?_
                      rotate_left
                      · intro w hSw; go_simp; (try with_reducible rfl)
                      change wpAnyH _ _ _ _ _ _ _ (Act.put _ (some 143) _) _; simp only [Act.put, List.setIfInBounds_toArray, List.set_cons_zero, List.set_cons_succ]
                      refine wpAnyH_take (i := 3) (v := ?_) rfl (by kernel_rfl) (by kernel_rfl) (by kernel_rfl) (fun _ _ _ h => h) (Or.inl ⟨by rfl, ?_⟩) (by first | assumption | trivial) ?_
                      rotate_left
                      · intro w hSw; go_simp; (try with_reducible rfl)
                      change wpAnyH _ _ _ _ _ _ _ (Act.put _ (some 144) _) _; simp only [Act.put, List.setIfInBounds_toArray, List.set_cons_zero, List.set_cons_succ]
                      refine wpAnyH_take (i := 4) (v := ?_) rfl (by kernel_rfl) (by kernel_rfl) (by kernel_rfl) (fun _ _ _ h => h) (Or.inl ⟨by rfl, ?_⟩) (by first | assumption | trivial) ?_
                      rotate_left
                      · intro w hSw; go_simp; (try with_reducible rfl)
                      change wpAnyH _ _ _ _ _ _ _ (Act.put _ (some 145) _) _; simp only [Act.put, List.setIfInBounds_toArray, List.set_cons_zero, List.set_cons_succ]
                      refine wpAnyH_take (i := 5) (v := ?_) rfl (by kernel_rfl) (by kernel_rfl) (by kernel_rfl) (fun _ _ _ h => h) (Or.inl ⟨by rfl, ?_⟩) (by first | assumption | trivial) ?_
                      rotate_left
                      · intro w hSw; go_simp; (try with_reducible rfl)
                      change wpAnyH _ _ _ _ _ _ _ (Act.put _ (some 146) _) _; simp only [Act.put, List.setIfInBounds_toArray, List.set_cons_zero, List.set_cons_succ]
                      refine wpAnyH_take (i := 6) (v := ?_) rfl (by kernel_rfl) (by kernel_rfl) (by kernel_rfl) (fun _ _ _ h => h) (Or.inl ⟨by rfl, ?_⟩) (by first | assumption | trivial) ?_
                      rotate_left
                      · intro w hSw; go_simp; (try with_reducible rfl)
                      change wpAnyH _ _ _ _ _ _ _ (Act.put _ (some 147) _) _; simp only [Act.put, List.setIfInBounds_toArray, List.set_cons_zero, List.set_cons_succ]
                      refine wpAnyH_take (i := 7) (v := ?_) rfl (by kernel_rfl) (by kernel_rfl) (by kernel_rfl) (fun _ _ _ h => h) (Or.inl ⟨by rfl, ?_⟩) (by first | assumption | trivial) ?_
                      rotate_left
                      · intro w hSw; go_simp; (try with_reducible rfl)
                      change wpAnyH _ _ _ _ _ _ _ (Act.put _ (some 148) _) _; simp only [Act.put, List.setIfInBounds_toArray, List.set_cons_zero, List.set_cons_succ]
                      refine wpAnyH_take (i := 8) (v := ?_) rfl (by kernel_rfl) (by kernel_rfl) (by kernel_rfl) (fun _ _ _ h => h) (Or.inl ⟨by rfl, ?_⟩) (by first | assumption | trivial) ?_
                      rotate_left
                      · intro w hSw; go_simp; (try with_reducible rfl)
                      change wpAnyH _ _ _ _ _ _ _ (Act.put _ (some 149) _) _; simp only [Act.put, List.setIfInBounds_toArray, List.set_cons_zero, List.set_cons_succ]
                      refine wpAnyH_take (i := 9) (v := ?_) rfl (by kernel_rfl) (by kernel_rfl) (by kernel_rfl) (fun _ _ _ h => h) (Or.inl ⟨by rfl, ?_⟩) (by first | assumption | trivial) ?_
                      rotate_left
                      · intro w hSw; go_simp; (try with_reducible rfl)
                      change wpAnyH _ _ _ _ _ _ _ (Act.put _ (some 150) _) _; simp only [Act.put, List.setIfInBounds_toArray, List.set_cons_zero, List.set_cons_succ]
                      refine wpAnyH_take (i := 10) (v := ?_) rfl (by kernel_rfl) (by kernel_rfl) (by kernel_rfl) (fun _ _ _ h => h) (Or.inl ⟨by rfl, ?_⟩) (by first | assumption | trivial) ?_
                      rotate_left
                      · intro w hSw; go_simp; (try with_reducible rfl)
                      change wpAnyH _ _ _ _ _ _ _ (Act.put _ (some 151) _) _; simp only [Act.put, List.setIfInBounds_toArray, List.set_cons_zero, List.set_cons_succ]
                      refine wpAnyH_take (i := 11) (v := ?_) rfl (by kernel_rfl) (by kernel_rfl) (by kernel_rfl) (fun _ _ _ h => h) (Or.inl ⟨by rfl, ?_⟩) (by first | assumption | trivial) ?_
                      rotate_left
                      · intro w hSw; go_simp; (try with_reducible rfl)
                      change wpAnyH _ _ _ _ _ _ _ (Act.put _ (some 152) _) _; simp only [Act.put, List.setIfInBounds_toArray, List.set_cons_zero, List.set_cons_succ]
                      refine wpAnyH_take (i := 12) (v := ?_) rfl (by kernel_rfl) (by kernel_rfl) (by kernel_rfl) (fun _ _ _ h => h) (Or.inl ⟨by rfl, ?_⟩) (by first | assumption | trivial) ?_
                      rotate_left
                      · intro w hSw; go_simp; (try with_reducible rfl)
                      change wpAnyH _ _ _ _ _ _ _ (Act.put _ (some 153) _) _; simp only [Act.put, List.setIfInBounds_toArray, List.set_cons_zero, List.set_cons_succ]
                      refine wpAnyH_take (i := 13) (v := ?_) rfl (by kernel_rfl) (by kernel_rfl) (by kernel_rfl) (fun _ _ _ h => h) (Or.inl ⟨by rfl, ?_⟩) (by first | assumption | trivial) ?_
                      rotate_left
                      · intro w hSw; go_simp; (try with_reducible rfl)
                      change wpAnyH _ _ _ _ _ _ _ (Act.put _ (some 154) _) _; simp only [Act.put, List.setIfInBounds_toArray, List.set_cons_zero, List.set_cons_succ]
                      refine wpAnyH_take (i := 14) (v := ?_) rfl (by kernel_rfl) (by kernel_rfl) (by kernel_rfl) (fun _ _ _ h => h) (Or.inl ⟨by rfl, ?_⟩) (by first | assumption | trivial) ?_
                      rotate_left
                      · intro w hSw; go_simp; (try with_reducible rfl)
                      change wpAnyH _ _ _ _ _ _ _ (Act.put _ (some 155) _) _; simp only [Act.put, List.setIfInBounds_toArray, List.set_cons_zero, List.set_cons_succ]
                      refine wpAnyH_take (i := 15) (v := ?_) rfl (by kernel_rfl) (by kernel_rfl) (by kernel_rfl) (fun _ _ _ h => h) (Or.inl ⟨by rfl, ?_⟩) (by first | assumption | trivial) ?_
                      rotate_left
                      · intro w hSw; go_simp; (try with_reducible rfl)
                      change wpAnyH _ _ _ _ _ _ _ (Act.put _ (some 156) _) _; simp only [Act.put, List.setIfInBounds_toArray, List.set_cons_zero, List.set_cons_succ]
                      refine wpAnyH_take (i := 16) (v := ?_) rfl (by kernel_rfl) (by kernel_rfl) (by kernel_rfl) (fun _ _ _ h => h) (Or.inl ⟨by rfl, ?_⟩) (by first | assumption | trivial) ?_
                      rotate_left
                      · intro w hSw; go_simp; (try with_reducible rfl)
                      change wpAnyH _ _ _ _ _ _ _ (Act.put _ (some 157) _) _; simp only [Act.put, List.setIfInBounds_toArray, List.set_cons_zero, List.set_cons_succ]
                      refine wpAnyH_take (i := 17) (v := ?_) rfl (by kernel_rfl) (by kernel_rfl) (by kernel_rfl) (fun _ _ _ h => h) (Or.inl ⟨by rfl, ?_⟩) (by first | assumption | trivial) ?_
                      rotate_left
                      · intro w hSw; go_simp; (try with_reducible rfl)
                      change wpAnyH _ _ _ _ _ _ _ (Act.put _ (some 158) _) _; simp only [Act.put, List.setIfInBounds_toArray, List.set_cons_zero, List.set_cons_succ]
                      refine wpAnyH_take (i := 18) (v := ?_) rfl (by kernel_rfl) (by kernel_rfl) (by kernel_rfl) (fun _ _ _ h => h) (Or.inl ⟨by rfl, ?_⟩) (by first | assumption | trivial) ?_
                      rotate_left
                      · intro w hSw; go_simp; (try with_reducible rfl)
                      change wpAnyH _ _ _ _ _ _ _ (Act.put _ (some 159) _) _; simp only [Act.put, List.setIfInBounds_toArray, List.set_cons_zero, List.set_cons_succ]
                      refine wpAnyH_take (i := 19) (v := ?_) rfl (by kernel_rfl) (by kernel_rfl) (by kernel_rfl) (fun _ _ _ h => h) (Or.inl ⟨by rfl, ?_⟩) (by first | assumption | trivial) ?_
                      rotate_left
                      · intro w hSw; go_simp; (try with_reducible rfl)
                      change wpAnyH _ _ _ _ _ _ _ (Act.put _ (some 160) _) _; simp only [Act.put, List.setIfInBounds_toArray, List.set_cons_zero, List.set_cons_succ]
                      refine wpAnyH_take (i := 20) (v := ?_) rfl (by kernel_rfl) (by kernel_rfl) (by kernel_rfl) (fun _ _ _ h => h) (Or.inl ⟨by rfl, ?_⟩) (by first | assumption | trivial) ?_
                      rotate_left
                      · intro w hSw; go_simp; (try with_reducible rfl)
                      change wpAnyH _ _ _ _ _ _ _ (Act.put _ (some 161) _) _; simp only [Act.put, List.setIfInBounds_toArray, List.set_cons_zero, List.set_cons_succ]
                      refine wpAnyH_take (i := 21) (v := ?_) rfl (by kernel_rfl) (by kernel_rfl) (by kernel_rfl) (fun _ _ _ h => h) (Or.inl ⟨by rfl, ?_⟩) (by first | assumption | trivial) ?_
                      rotate_left
                      · intro w hSw; go_simp; (try with_reducible rfl)
                      change wpAnyH _ _ _ _ _ _ _ (Act.put _ (some 162) _) _; simp only [Act.put, List.setIfInBounds_toArray, List.set_cons_zero, List.set_cons_succ]
                      refine wpAnyH_take (i := 22) (v := ?_) rfl (by kernel_rfl) (by kernel_rfl) (by kernel_rfl) (fun _ _ _ h => h) (Or.inl ⟨by rfl, ?_⟩) (by first | assumption | trivial) ?_
                      rotate_left
                      · intro w hSw; go_simp; (try with_reducible rfl)
                      change wpAnyH _ _ _ _ _ _ _ (Act.put _ (some 163) _) _; simp only [Act.put, List.setIfInBounds_toArray, List.set_cons_zero, List.set_cons_succ]
                      refine wpAnyH_take (i := 23) (v := ?_) rfl (by kernel_rfl) (by kernel_rfl) (by kernel_rfl) (fun _ _ _ h => h) (Or.inl ⟨by rfl, ?_⟩) (by first | assumption | trivial) ?_
                      rotate_left
                      · intro w hSw; go_simp; (try with_reducible rfl)
                      change wpAnyH _ _ _ _ _ _ _ (Act.put _ (some 164) _) _; simp only [Act.put, List.setIfInBounds_toArray, List.set_cons_zero, List.set_cons_succ]
                      refine wpAnyH_take (i := 24) (v := ?_) rfl (by kernel_rfl) (by kernel_rfl) (by kernel_rfl) (fun _ _ _ h => h) (Or.inl ⟨by rfl, ?_⟩) (by first | assumption | trivial) ?_
                      rotate_left
                      · intro w hSw; go_simp; (try with_reducible rfl)
                      change wpAnyH _ _ _ _ _ _ _ (Act.put _ (some 165) _) _; simp only [Act.put, List.setIfInBounds_toArray, List.set_cons_zero, List.set_cons_succ]
                      refine wpAnyH_take (i := 25) (v := ?_) rfl (by kernel_rfl) (by kernel_rfl) (by kernel_rfl) (fun _ _ _ h => h) (Or.inl ⟨by rfl, ?_⟩) (by first | assumption | trivial) ?_
                      rotate_left
                      · intro w hSw; go_simp; (try with_reducible rfl)
                      change wpAnyH _ _ _ _ _ _ _ (Act.put _ (some 166) _) _; simp only [Act.put, List.setIfInBounds_toArray, List.set_cons_zero, List.set_cons_succ]
                      refine wpAnyH_take (i := 26) (v := ?_) rfl (by kernel_rfl) (by kernel_rfl) (by kernel_rfl) (fun _ _ _ h => h) (Or.inl ⟨by rfl, ?_⟩) (by first | assumption | trivial) ?_
                      rotate_left
                      · intro w hSw; go_simp; (try with_reducible rfl)
                      change wpAnyH _ _ _ _ _ _ _ (Act.put _ (some 167) _) _; simp only [Act.put, List.setIfInBounds_toArray, List.set_cons_zero, List.set_cons_succ]
                      refine wpAnyH_take (i := 27) (v := ?_) rfl (by kernel_rfl) (by kernel_rfl) (by kernel_rfl) (fun _ _ _ h => h) (Or.inl ⟨by rfl, ?_⟩) (by first | assumption | trivial) ?_
                      rotate_left
                      · intro w hSw; go_simp; (try with_reducible rfl)
                      change wpAnyH _ _ _ _ _ _ _ (Act.put _ (some 168) _) _; simp only [Act.put, List.setIfInBounds_toArray, List.set_cons_zero, List.set_cons_succ]
                      refine wpAnyH_take (i := 28) (v := ?_) rfl (by kernel_rfl) (by kernel_rfl) (by kernel_rfl) (fun _ _ _ h => h) (Or.inl ⟨by rfl, ?_⟩) (by first | assumption | trivial) ?_
                      rotate_left
                      · intro w hSw; go_simp; (try with_reducible rfl)
                      change wpAnyH _ _ _ _ _ _ _ (Act.put _ (some 169) _) _; simp only [Act.put, List.setIfInBounds_toArray, List.set_cons_zero, List.set_cons_succ]
                      refine wpAnyH_take (i := 29) (v := ?_) rfl (by kernel_rfl) (by kernel_rfl) (by kernel_rfl) (fun _ _ _ h => h) (Or.inl ⟨by rfl, ?_⟩) (by first | assumption | trivial) ?_
                      rotate_left
                      · intro w hSw; go_simp; (try with_reducible rfl)
                      change wpAnyH _ _ _ _ _ _ _ (Act.put _ (some 170) _) _; simp only [Act.put, List.setIfInBounds_toArray, List.set_cons_zero, List.set_cons_succ]
                      refine wpAnyH_take (i := 30) (v := ?_) rfl (by kernel_rfl) (by kernel_rfl) (by kernel_rfl) (fun _ _ _ h => h) (Or.inl ⟨by rfl, ?_⟩) (by first | assumption | trivial) ?_
                      rotate_left
                      · intro w hSw; go_simp; (try with_reducible rfl)
                      change wpAnyH _ _ _ _ _ _ _ (Act.put _ (some 171) _) _; simp only [Act.put, List.setIfInBounds_toArray, List.set_cons_zero, List.set_cons_succ]
                      refine wpAnyH_take (i := 31) (v := ?_) rfl (by kernel_rfl) (by kernel_rfl) (by kernel_rfl) (fun _ _ _ h => h) (Or.inl ⟨by rfl, ?_⟩) (by first | assumption | trivial) ?_
                      rotate_left
                      · intro w hSw; go_simp; (try with_reducible rfl)
                      change wpAnyH _ _ _ _ _ _ _ (Act.put _ (some 172) _) _; simp only [Act.put, List.setIfInBounds_toArray, List.set_cons_zero, List.set_cons_succ]
                      refine wpAnyH_take (i := 32) (v := ?_) rfl (by kernel_rfl) (by kernel_rfl) (by kernel_rfl) (fun _ _ _ h => h) (Or.inl ⟨by rfl, ?_⟩) (by first | assumption | trivial) ?_
                      rotate_left
                      · intro w hSw; go_simp; (try with_reducible rfl)
                      change wpAnyH _ _ _ _ _ _ _ (Act.put _ (some 173) _) _; simp only [Act.put, List.setIfInBounds_toArray, List.set_cons_zero, List.set_cons_succ]
                      refine wpAnyH_take (i := 33) (v := ?_) rfl (by kernel_rfl) (by kernel_rfl) (by kernel_rfl) (fun _ _ _ h => h) (Or.inl ⟨by rfl, ?_⟩) (by first | assumption | trivial) ?_
                      rotate_left
                      · intro w hSw; go_simp; (try with_reducible rfl)
                      change wpAnyH _ _ _ _ _ _ _ (Act.put _ (some 174) _) _; simp only [Act.put, List.setIfInBounds_toArray, List.set_cons_zero, List.set_cons_succ]
                      refine wpAnyH_done (by kernel_rfl) ?_ _
                      clear hHeld
                      go_wp2_with fail
                      go_roundw
                      case rel => exact ⟨i + 1, by go_num, by omega, HND⟩
                      case measure => simp [intOf]; omega
                  · have d1 : decide ((i : Int) < (N : Int)) = false := decide_eq_false (by omega)
                    obtain ⟨⟨t0, t1, t2, t3⟩, t4, t5, t6⟩ := HR.out wr HB.out
                    have hBw : Below w.heap.size w wr := HX11.out.2.1.trans (HB.out.mono HX11.out.2.1.size)
                    have cL := load_sep _ _ _ S wr (HX11.out.2.2.1.below HB.out (Nat.le_refl _)) HX8.out.2.2.2.1.ok (fun x hx => by have := (HX8.out.2.2.2.1.bx x hx).len; omega) (HE.out.1.below hBw).1 (HE.out.2.1.below hBw HE.out.2.1.lt)
                    rw [HX8.out.2.2.2.2.1] at cL
                    have HX12 : Hid (Hst w.heap.size (H1 + 1) H1 l' nx Ws C' wv wr ∧ Below w.heap.size w wr) := ⟨HX11.out.1.below HB.out, hBw⟩
                    clear hBw HB
                    go_wp2_with fail
                    refine cL.mono ?_
                    rintro e w16 ⟨⟨hb2, mb2, wvg, lg, Cg, rfl, hg, hSg, hs1, hs2⟩, hb16⟩
                    have hst16 := HX12.out.1.below hb16
                    have hB16 : Below w.heap.size w w16 := HX12.out.2.trans (hb16.mono HX12.out.2.size)
                    have hTi : m.data.toList ≠ inboxN := fun e0 => by
                      have h1 := HX9.out.2.2.2.2.1.noT
                      rw [e0, HXm.out.2.1.inbox] at h1
                      cases h1
                    have hnz := HXm.out.2.2.2.2.2.2.2.1
                    have hmz := HXm.out.2.2.2.2.2.2.2.2
                    have cM := mv_back w.heap.size (H1 + 1) H1 (len + 1) l l' nx Ws C' wv m n n.data.toList m.data.toList w16 (HE.out.1.below hB16).1 (Nat.le_trans HE.out.1.2.2 hB16.size) hst16 HX9.out.2.1 HX9.out.2.2.2.2.1 (by omega) (by omega) (by omega) (nameB_idem HXm.out.2.2.2.2.2.1) (nameB_idem HXm.out.2.2.2.2.1) hTi
                    have hl1 := HX12.out.1.hse.hs.lt
                    have hl2 := HX12.out.1.hse.hs.2.lt
                    have HX16 : Hid (Hst w.heap.size (H1 + 1) H1 l' nx Ws C' wv w16 ∧ Below w.heap.size w w16 ∧ Hse w16 hb2 mb2 lg nx wvg S.wants Cg ∧ svOf lg S.wants nx Cg = S ∧ hb2 ≠ H1 + 1 ∧ hb2 ≠ H1 ∧ mb2 ≠ H1 + 1 ∧ mb2 ≠ H1) := ⟨hst16, hB16, hg, hSg, by omega, by omega, by omega, by omega⟩
                    clear cL hb16 hst16 hB16 hg hSg hs1 hs2 hl1 hl2 t0 t1 t2 t3 t4 t5 t6
                    go_wp2_with fail
                    refine cM.mono ?_
                    rintro e w17 ⟨rfl, hk17, hlow17, C2, hC2, hst17⟩
                    have hB17 : Below w.heap.size w w17 := HX16.out.2.1.trans hlow17
                    have hsv17 : svOf l Ws nx C2 = S := by
                      rw [← HX8.out.2.2.2.2.2.1]
                      unfold svOf
                      congr 1
                      refine List.map_congr_left fun p hp => ?_
                      rw [hC2 _ (HX9.out.2.2.2.2.1.at (s := p.1) (c := p.2) hp)]
                      exact HX9.out.2.2.2.2.2.1 p hp
                    have cA1 := all_is len (H1 + 1) H1 l nx wv Ws C2 w17 hst17.hse (by rw [hsv17]; exact HX8.out.2.2.2.1) (by omega) (HE.out.2.2.below hB17)
                    rw [hsv17] at cA1
                    have hg17 : Hse w17 hb2 mb2 lg nx wvg S.wants Cg := by
                      have h1 := HX16.out.1
                      obtain ⟨aw, cw, ew⟩ := h1.form
                      have h2 := h1.hse.hs
                      rw [ew] at h2
                      exact HX16.out.2.2.1.hk h2 hk17 HX16.out.2.2.2.2.1 HX16.out.2.2.2.2.2.1 HX16.out.2.2.2.2.2.2.1 HX16.out.2.2.2.2.2.2.2
                    have HX17 : Hid (Below w.heap.size w w17 ∧ Hse w17 hb2 mb2 lg nx wvg S.wants Cg) := ⟨hB17, hg17⟩
                    clear cM hk17 hlow17 hC2 hst17 hB17 hsv17 hg17
                    go_wp2_with fail
                    refine cA1.mono ?_
                    rintro e w18 ⟨⟨th, rfl, hth⟩, hb18⟩
                    have hB18 : Below w.heap.size w w18 := HX17.out.1.trans (hb18.mono HX17.out.1.size)
                    have cA2 := all_is len hb2 mb2 lg nx wvg S.wants Cg w18 (HX17.out.2.below hb18) (by rw [HX16.out.2.2.2.1]; exact HX8.out.2.2.2.1) (by omega) (HE.out.2.2.below hB18)
                    rw [HX16.out.2.2.2.1] at cA2
                    have HB18 : Hid (Below w.heap.size w w18) := hB18
                    clear cA1 hb18 hB18
                    go_wp2_with fail
                    refine cA2.mono ?_
                    rintro e w19 ⟨⟨tg, rfl, htg⟩, hb19⟩
                    obtain rfl : tg = th := by rw [ba_list htg, ba_list hth]
                    have HF : Hid (Below w.heap.size w w19) := HB18.out.trans (hb19.mono HB18.out.size)
                    clear cA2 hb19 htg hth
                    go_wp2_with fail
                    go_ret
                    exact ⟨by simp, HF.out⟩
            · obtain ⟨kk, hkk, hkl⟩ : ∃ kk : Nat, Lib.lastIndexByte m 47 = (kk : Int) ∧ kk < m.size := by
                rcases Lib.lastIdx_spec m 47 m.size with ⟨h1, _⟩ | ⟨kk, h1, h2, _⟩
                · exact absurd (by rw [show Lib.lastIndexByte m 47 = -1 from h1]; decide) hJ0
                · exact ⟨kk, h2, h1⟩
              have hLK := @lack_byte l m HX4.out.2.1.wh
              rw [hkk] at cLI hLK
              have hnt : ∀ r : Nm, nameB (m.data.toList.take kk) = some r → r = m.data.toList.take kk := fun r hr => by
                rcases Lib.lastIdx_spec m 47 m.size with ⟨h1, _⟩ | ⟨k2, h1, h2, h3, _⟩
                · have : Lib.lastIndexByte m 47 = -1 := h1
                  omega
                · have h4 : Lib.lastIndexByte m 47 = (k2 : Int) := h2
                  have h5 : k2 = kk := by omega
                  subst h5
                  have hml : k2 < m.data.toList.length := by rw [Array.length_toList]; exact h1
                  have h6 : m.data.toList[k2]? = some 47 := by
                    rw [List.getElem?_eq_getElem hml]
                    congr 1
                    apply UInt8.toNat_inj.1
                    have h7 : m.data[k2]! = m.data.toList[k2] := by
                      rw [getElem!_pos _ _ (by simpa using hml)]
                      simp
                    rw [h7] at h3
                    have : (47 : UInt8).toNat = 47 := rfl
                    omega
                  have h8 := name_take (nameB_idem HX4.out.2.2.2.2) h6
                  rw [h8] at hr
                  exact (Option.some.inj hr).symm
              have dj0 : decide ((0 : Int) ≤ (kk : Int)) = true := decide_eq_true (by omega)
              have dj1 : (0 : Int) ≤ (kk : Int) := by omega
              have dj2 : (kk : Int) ≤ (m.size : Int) := by omega
              obtain ⟨ms, hms⟩ : ∃ s : ByteArray, m.extract 0 kk = s := ⟨_, rfl⟩
              have hmsl : ms.data.toList = m.data.toList.take kk := by rw [← hms]; exact take_ext m kk
              have hmsz : ms.size ≤ 60 := by rw [← hms]; simp; omega
              have cG := get_is nameB (H1 + 1) H1 l nx wv ms w4 (nameC (HE.out.1.below HX4.out.2.2.1).1) HX4.out.1.hse.hs (by omega)
              have HMS : Hid ((∀ r : Nm, nameB (m.data.toList.take kk) = some r → r = m.data.toList.take kk) ∧ ms.data.toList = m.data.toList.take kk ∧ ((kk : Int) < 0 ∨ hasB l (m.data.toList.take ((kk : Int)).toNat) = true → lackB l m.data.toList = [])) := ⟨hnt, hmsl, hLK⟩
              clear hnt hmsl hmsz hkk hJ0 hLK
              go_wp2_with fail
              refine cLI.mono ?_
              rintro e w5 ⟨rfl, hw⟩
              obtain rfl : w4 = w5 := hw.symm
              clear cLI hw
              go_wp2_with fail
              refine cG.mono ?_
              rintro e w5 ⟨hb5, ⟨r, b0, hr, hp, rfl⟩ | ⟨E, _, rfl⟩⟩
              · have HXm : Hid (Hst w.heap.size (H1 + 1) H1 l nx Ws C wv w5 ∧ HI w.heap.size len l nx Ws C ∧ Below w.heap.size w w5 ∧ lackB l m.data.toList = [] ∧ nameB a.data.toList = some n.data.toList ∧ nameB b.data.toList = some m.data.toList ∧ n.data.toList ≠ inboxN ∧ n.size ≤ 60 ∧ m.size ≤ 60) := by
                  refine ⟨HX4.out.1.below hb5, HX4.out.2.1, HX4.out.2.2.1.trans (hb5.mono HX4.out.2.2.1.size), HMS.out.2.2 (Or.inr ?_), HX4.out.2.2.2.1, HX4.out.2.2.2.2, HIN.out, hn2, hm2⟩
                  rw [HMS.out.2.1] at hr
                  rw [HMS.out.1 r hr] at hp
                  exact hasB_true.2 ⟨b0, hp⟩
                clear cG hb5 hr hp HX4 HMS
                have cS := save_is (H1 + 1) H1 l nx wv Ws C w5 HXm.out.1.hse ((HXm.out.2.1.saOk (by omega)).sml (by omega))
                go_wp2_with fail
                refine cS.mono ?_
                rintro e w7 ⟨⟨nv, bv, wv7, rfl, hsv⟩, hb7⟩
                obtain ⟨S, hS⟩ : ∃ S, svOf l Ws nx C = S := ⟨_, rfl⟩
                have hSn : S.next = nx := by rw [← hS]; rfl
                have hSA : SaOk len S := hS ▸ HXm.out.2.1.saOk (by omega)
                rw [hS] at hsv
                obtain ⟨N, hN⟩ : ∃ n, S.names.length = n := ⟨_, rfl⟩
                obtain ⟨na, nc, rfl⟩ : ∃ a c, nv = .slice a N c := by obtain ⟨a, c, e, _⟩ := hsv.1; exact ⟨a, c, by rw [e, hN]⟩
                obtain ⟨ba, bc, rfl⟩ : ∃ a c, bv = .slice a N c := by obtain ⟨a, c, e, _⟩ := hsv.2.1; exact ⟨a, c, by rw [e, ← hSA.ok.len, hN]⟩
                obtain ⟨va, vl, vc, rfl⟩ : ∃ a n c, wv7 = .slice a n c := by obtain ⟨a, c, e, _⟩ := hsv.2.2; exact ⟨a, _, c, e⟩
                have b8 : Below w7.heap.size w7 (w7.alloc (.cells #[.slice na N nc, .slice ba N bc, .slice va vl vc, .int .i64 nx] 35)) := (Below.refl _ _).alloc (Nat.le_refl _) _
                have e8 := heap_alloc_new w7 (.cells #[.slice na N nc, .slice ba N bc, .slice va vl vc, .int .i64 nx] 35)
                obtain ⟨sb, hsb⟩ : ∃ n, w7.heap.size = n := ⟨_, rfl⟩
                obtain ⟨W8, hW8⟩ : ∃ W, w7.alloc (.cells #[.slice na N nc, .slice ba N bc, .slice va vl vc, .int .i64 nx] 35) = W := ⟨_, rfl⟩
                rw [hW8] at b8 e8
                have hB8 : Below w.heap.size w W8 := HXm.out.2.2.1.trans ((hb7.trans (b8.mono hb7.size)).mono HXm.out.2.2.1.size)
                have hst8 := (HXm.out.1.below hb7).below b8
                rw [hsb] at e8
                have cR := mv_first w.heap.size (H1 + 1) H1 len l nx Ws C wv a b n.data.toList m.data.toList W8 (HE.out.1.below hB8).1 (Nat.le_trans HE.out.1.2.2 hB8.size) hst8 HXm.out.2.1 (by omega) (by omega) (by omega) HXm.out.2.2.2.2.1 HXm.out.2.2.2.2.2.1 HXm.out.2.2.2.2.2.2.1 HXm.out.2.2.2.1
                have HX8 : Hid (Hst w.heap.size (H1 + 1) H1 l nx Ws C wv W8 ∧ Below w.heap.size w W8 ∧ SvAt W8 (.slice na N nc) (.slice ba N bc) (.slice va vl vc) S ∧ SaOk len S ∧ S.next = nx ∧ svOf l Ws nx C = S ∧ S.names.length = N ∧ W8.heap[sb]? = some (.cells #[.slice na N nc, .slice ba N bc, .slice va vl vc, .int .i64 nx] 35 (0, 0))) := ⟨hst8, hB8, hsv.below b8 (Nat.le_refl _), hSA, hSn, hS, hN, e8⟩
                clear cS hsv hb7 hS hSn hSA hN b8 e8 hB8 hst8
                go_wp2_with fail
                refine cR.mono ?_
                rintro e w9 (⟨⟨E, rfl⟩, hb9⟩ | ⟨rfl, hk9, hlow9, l', C', hBk, hC, hst9, hI9⟩)
                · have HF : Hid (Below w.heap.size w w9) := HX8.out.2.1.trans (hb9.mono HX8.out.2.1.size)
                  clear cR hb9
                  go_wp2_with fail
                  go_ret
                  exact ⟨rfl, HF.out⟩
                · have cS2 := save_is (H1 + 1) H1 l' nx wv Ws C' w9 hst9.hse ((hI9.saOk (by omega)).sml (by omega))
                  have hne := ne_of_kind HX8.out.1.hse.hs HX8.out.2.2.2.2.2.2.2 (by decide)
                  have e9 := (hk9.block sb (Array.getElem?_eq_some_iff.1 HX8.out.2.2.2.2.2.2.2).1 hne.1 hne.2).trans HX8.out.2.2.2.2.2.2.2
                  have sv9 : SvAt w9 (.slice na N nc) (.slice ba N bc) (.slice va vl vc) S := by
                    have h1 := HX8.out.1
                    obtain ⟨aw, cw, ew⟩ := h1.form
                    have h2 := h1.hse.hs
                    rw [ew] at h2
                    exact HX8.out.2.2.1.hk h2 hk9
                  have HX9 : Hid (Hst w.heap.size (H1 + 1) H1 l' nx Ws C' wv w9 ∧ HI w.heap.size (len + 1) l' nx Ws C' ∧ Below w.heap.size w w9 ∧ SvAt w9 (.slice na N nc) (.slice ba N bc) (.slice va vl vc) S ∧ Back l n.data.toList m.data.toList l' ∧ (∀ p ∈ l, C' p.2 = C p.2) ∧ w9.heap[sb]? = some (.cells #[.slice na N nc, .slice ba N bc, .slice va vl vc, .int .i64 nx] 35 (0, 0))) := ⟨hst9, hI9, HX8.out.2.1.trans hlow9, sv9, hBk, hC, e9⟩
                  clear cR hk9 hlow9 hBk hC hst9 hI9 hne e9 sv9
                  go_wp2_with fail
                  refine cS2.mono ?_
                  rintro e w10 ⟨⟨nv2, bv2, wv10, rfl, hsv2⟩, hb10⟩
                  obtain ⟨S2, hS2⟩ : ∃ S, svOf l' Ws nx C' = S := ⟨_, rfl⟩
                  rw [hS2] at hsv2
                  have hSA2 : SaOk (len + 1) S2 := hS2 ▸ HX9.out.2.1.saOk (by omega)
                  have hN2 : S2.names.length = N := by
                    rw [← HX8.out.2.2.2.2.2.2.1, ← HX8.out.2.2.2.2.2.1, ← hS2]
                    simp [svOf, namesB, HX9.out.2.2.2.2.1.len]
                  obtain ⟨na2, nc2, rfl⟩ : ∃ a c, nv2 = .slice a N c := by obtain ⟨a, c, e, _⟩ := hsv2.1; exact ⟨a, c, by rw [e, hN2]⟩
                  obtain ⟨ba2, bc2, rfl⟩ : ∃ a c, bv2 = .slice a N c := by obtain ⟨a, c, e, _⟩ := hsv2.2.1; exact ⟨a, c, by rw [e, ← hSA2.ok.len, hN2]⟩
                  obtain ⟨va2, vl2, vc2, rfl⟩ : ∃ a n c, wv10 = .slice a n c := by obtain ⟨a, c, e, _⟩ := hsv2.2.2; exact ⟨a, _, c, e⟩
                  have b11 : Below w10.heap.size w10 (w10.alloc (.cells #[.slice na2 N nc2, .slice ba2 N bc2, .slice va2 vl2 vc2, .int .i64 nx] 35)) := (Below.refl _ _).alloc (Nat.le_refl _) _
                  have e11 := heap_alloc_new w10 (.cells #[.slice na2 N nc2, .slice ba2 N bc2, .slice va2 vl2 vc2, .int .i64 nx] 35)
                  obtain ⟨sb2, hsb2⟩ : ∃ n, w10.heap.size = n := ⟨_, rfl⟩
                  obtain ⟨W11, hW11⟩ : ∃ W, w10.alloc (.cells #[.slice na2 N nc2, .slice ba2 N bc2, .slice va2 vl2 vc2, .int .i64 nx] 35) = W := ⟨_, rfl⟩
                  rw [hW11] at b11 e11
                  have b9 : Below w9.heap.size w9 W11 := hb10.trans (b11.mono hb10.size)
                  rw [hsb2] at e11
                  have e12 := (b9.block _ (Array.getElem?_eq_some_iff.1 HX9.out.2.2.2.2.2.2).1).trans HX9.out.2.2.2.2.2.2
                  have HX11 : Hid (Hst w.heap.size (H1 + 1) H1 l' nx Ws C' wv W11 ∧ Below w.heap.size w W11 ∧ SvAt W11 (.slice na N nc) (.slice ba N bc) (.slice va vl vc) S ∧ SvAt W11 (.slice na2 N nc2) (.slice ba2 N bc2) (.slice va2 vl2 vc2) S2 ∧ svOf l' Ws nx C' = S2 ∧ S2.names.length = N ∧ SaOk (len + 1) S2) := ⟨HX9.out.1.below b9, HX9.out.2.2.1.trans (b9.mono HX9.out.2.2.1.size), HX9.out.2.2.2.1.below b9 (Nat.le_refl _), hsv2.below b11 (Nat.le_refl _), hS2, hN2, hSA2⟩
                  have hN30 : N ≤ 30 := by rw [← hN2]; exact hSA2.ok.most
                  have hsl1 := (Array.getElem?_eq_some_iff.1 e12).1
                  have hsl2 := (Array.getElem?_eq_some_iff.1 e11).1
                  have HR : Hid (∀ W, Below W11.heap.size W11 W → (W.cell? ⟨sb, 0, none⟩ = some (.slice na N nc) ∧ W.cell? ⟨sb, 1, none⟩ = some (.slice ba N bc) ∧ W.cell? ⟨sb, 2, none⟩ = some (.slice va vl vc) ∧ W.cell? ⟨sb, 3, none⟩ = some (.int .i64 nx)) ∧ W.cell? ⟨sb2, 0, none⟩ = some (.slice na2 N nc2) ∧ W.cell? ⟨sb2, 1, none⟩ = some (.slice ba2 N bc2) ∧ W.cell? ⟨sb2, 3, none⟩ = some (.int .i64 nx)) := fun W hW => by
                    have g1 := (hW.block _ hsl1).trans e12
                    have g2 := (hW.block _ hsl2).trans e11
                    exact ⟨⟨rd_cell g1 rfl, rd_cell g1 rfl, rd_cell g1 rfl, rd_cell g1 rfl⟩, rd_cell g2 rfl, rd_cell g2 rfl, rd_cell g2 rfl⟩
                  obtain ⟨⟨t0, t1, t2, t3⟩, t4, t5, t6⟩ := HR.out W11 (Below.refl _ _)
                  clear cS2 hsv2 hb10 hS2 hSA2 hN2 b11 e11 b9 e12 hsl1 hsl2
                  go_wp2_with fail
                  go_loopw [18] (fun iv wr => ∃ i : Nat, iv = .int .i64 (i : Int) ∧ i ≤ N ∧ Hid (Below W11.heap.size W11 wr)) (fun iv _ => N - (intOf iv).toNat)
                  case atStart => exact ⟨0, rfl, Nat.zero_le _, Below.refl _ _⟩
                  case round =>
                    clear t0 t1 t2 t3 t4 t5 t6
                    obtain ⟨i, rfl, hi, HB⟩ := hrel
                    by_cases hlt : i < N
                    · have d1 : decide ((i : Int) < (N : Int)) = true := decide_eq_true (by omega)
                      have i1 : (0 : Int) ≤ (i : Int) := by omega
                      have i2 : (i : Int) < (N : Int) := by omega
                      obtain ⟨⟨sn, c⟩, hpi⟩ : ∃ p, l[i]? = some p := ⟨_, List.getElem?_eq_getElem (by have h1 := HX8.out.2.2.2.2.2.2.1; have h2 := congrArg (fun S => S.names.length) HX8.out.2.2.2.2.2.1; have h2 : (namesB l).length = S.names.length := h2; simp [namesB] at h2; omega)⟩
                      have hmem := List.mem_of_getElem? hpi
                      have hsi : S.names[i]? = some sn := by rw [← HX8.out.2.2.2.2.2.1]; show (namesB l)[i]? = _; unfold namesB; rw [List.getElem?_map, hpi]; rfl
                      have hbi : S.boxes[i]? = some (C c) := by rw [← HX8.out.2.2.2.2.2.1]; show (l.map fun p => C p.2)[i]? = _; rw [List.getElem?_map, hpi]; rfl
                      obtain ⟨j, hqj⟩ := List.getElem?_of_mem (HX9.out.2.2.2.2.1.at hmem)
                      have hsj : S2.names[j]? = some (movedN n.data.toList m.data.toList sn) := by rw [← HX11.out.2.2.2.2.1]; show (namesB l')[j]? = _; unfold namesB; rw [List.getElem?_map, hqj]; rfl
                      have hbj : S2.boxes[j]? = some (C c) := by rw [← HX11.out.2.2.2.2.1, ← HX9.out.2.2.2.2.2.1 _ hmem]; show (l'.map fun p => C' p.2)[j]? = _; rw [List.getElem?_map, hqj]; rfl
                      have hjN : j < N := by have h1 := (List.getElem?_eq_some_iff.1 hsj).1; have h2 := HX11.out.2.2.2.2.2.1; omega
                      obtain ⟨nb, no, rfl, hnc⟩ := sl_at (HX11.out.2.2.1.1.below HB.out (Nat.le_refl _)) hsi
                      have nmc := hnc i sn hsi
                      obtain ⟨nb2, no2, rfl, hnc2⟩ := sl_at (HX11.out.2.2.2.1.1.below HB.out (Nat.le_refl _)) hsj
                      obtain ⟨b1, o1, rfl, p1, _, lv1, p2, p3⟩ := bxr_at (HX11.out.2.2.1.2.1.below HB.out (Nat.le_refl _)) hbi
                      obtain ⟨b2, o2, rfl, q1, _, lv2, q2, q3⟩ := bxr_at (HX11.out.2.2.2.1.2.1.below HB.out (Nat.le_refl _)) hbj
                      obtain ⟨⟨xv, xn, xl⟩, hx⟩ : ∃ x, C c = x := ⟨_, rfl⟩
                      rw [hx] at p1 p3 q1 q3
                      have p1 : wr.cell? ⟨b1, o1 + i * 3, none⟩ = some (.int .i64 xv) := p1
                      have q1 : wr.cell? ⟨b2, o2 + j * 3, none⟩ = some (.int .i64 xv) := q1
                      have p3 : Lts wr lv1 xl := p3
                      have q3 : Lts wr lv2 xl := q3
                      obtain ⟨la1, lc1, rfl, _⟩ := id p3
                      obtain ⟨la2, lc2, rfl, _⟩ := id q3
                      have hsn60 : sn.length ≤ 60 := nameB_len60 (HX8.out.2.2.2.1.ok.nname sn (List.mem_of_getElem? hsi))
                      obtain ⟨ss, hss⟩ : ∃ s : ByteArray, (⟨sn.toArray⟩ : ByteArray) = s := ⟨_, rfl⟩
                      have hssl : ss.data.toList = sn := by rw [← hss]
                      have hssz : ss.size ≤ 60 := by rw [← hss, ba_size]; exact hsn60
                      replace nmc : wr.cell? ⟨nb, no + i, none⟩ = some (.string ss) := by rw [← hss]; exact nmc
                      have HIX : Hid (∀ xs : ByteArray, xs.data.toList = movedN n.data.toList m.data.toList sn → Calls Tryz.prog 34 #[.slice (some ⟨nb2, no2, none⟩) N nc2, .string xs] wr fun e w' => e = .returned (.int .i64 (j : Int)) ∧ w' = wr) := fun xs hxs => by
                        have h1 := nindex nb2 no2 nc2 S2.names xs j wr (fun t y hy => hnc2 t y hy) HX11.out.2.2.2.2.2.2.ok.nsorted (by rw [hxs]; exact hsj) (by have := HX11.out.2.2.2.2.2.1; omega)
                        rw [HX11.out.2.2.2.2.2.1] at h1
                        exact h1
                      obtain ⟨⟨t0, t1, t2, t3⟩, t4, t5, t6⟩ := HR.out wr HB.out
                      obtain ⟨WD, hWD⟩ : ∃ W, wr.drew = W := ⟨_, rfl⟩
                      have HND : Hid (Below W11.heap.size W11 WD) := by rw [← hWD]; exact HB.out.drew
                      have k0 := t5
                      have k1 := q1
                      have k2 := t1
                      have k3 := p1
                      have k4 := q2
                      have k5 := p2
                      have dj : decide ((j : Int) < (0 : Int)) = false := decide_eq_false (by omega)
                      have j1 : (0 : Int) ≤ (j : Int) := by omega
                      have j2 : (j : Int) < (N : Int) := by omega
                      have hnz := HXm.out.2.2.2.2.2.2.2.1
                      have hmz := HXm.out.2.2.2.2.2.2.2.2
                      clear hpi hmem hsi hbi hqj hsj hbj hnc hnc2 p1 p2 p3 q1 q2 q3 hx hsn60 hss t2 t6 HB
                      by_cases hc : sn = n.data.toList ∨ inB sn n.data.toList = true
                      · have hle : n.size ≤ ss.size := by
                          have h1 : n.data.toList.length = n.size := by rw [Array.length_toList]; rfl
                          have h2 : ss.data.toList.length = ss.size := by rw [Array.length_toList]; rfl
                          rcases hc with hc | hc
                          · rw [hssl, hc] at h2; omega
                          · obtain ⟨u, hu⟩ := in_iff.1 hc
                            rw [hssl, hu, List.length_append] at h2
                            omega
                        obtain ⟨es, hes⟩ : ∃ s : ByteArray, ss.extract n.size ss.size = s := ⟨_, rfl⟩
                        obtain ⟨xs, hxs⟩ : ∃ s : ByteArray, m ++ es = s := ⟨_, rfl⟩
                        have hesz : es.size ≤ 60 := by rw [← hes]; simp; omega
                        have hxl : xs.data.toList = movedN n.data.toList m.data.toList sn := by
                          rw [← hxs, hcat_list, ← hes]
                          have h1 : n.data.toList.length = n.size := by rw [Array.length_toList]; rfl
                          have h2 : ss.data.toList.length = ss.size := by rw [Array.length_toList]; rfl
                          have hd : (ss.extract n.size ss.size).data.toList = ss.data.toList.drop n.size := by
                            rw [ByteArray.data_extract, Array.toList_extract]
                            show (ss.data.toList.drop n.size).take (ss.size - n.size) = _
                            exact List.take_of_length_le (by rw [List.length_drop]; omega)
                          unfold movedN
                          rw [if_pos hc, hd, hssl, h1]
                        have cI := HIX.out xs hxl
                        have g1 : (9223372036854775807 < m.size + es.size) = False := eq_false (by omega)
                        have g2 : (0 : Int) ≤ (n.size : Int) := by omega
                        have g3 : (n.size : Int) ≤ (ss.size : Int) := by omega
                        clear HIX hxl
                        by_cases heq : ss = n
                        · have g4 : (ss.toList == n.toList) = true := by rw [heq]; simp
                          clear hc hssl heq
                          go_wp2_with fail
                          refine cI.mono ?_
                          rintro e w15 ⟨rfl, hw⟩
                          obtain rfl : wr = w15 := hw.symm
                          clear cI hw
                          go_upto_region 34 with fail
                          refine wp_region_held_drew (S := fun W => W.cell? ⟨sb2, 1, none⟩ = some (.slice (some ⟨b2, o2, none⟩) N bc2) ∧ W.cell? ⟨b2, o2 + j * 3, none⟩ = some (.int .i64 xv) ∧ W.cell? ⟨sb, 1, none⟩ = some (.slice (some ⟨b1, o1, none⟩) N bc) ∧ W.cell? ⟨b1, o1 + i * 3, none⟩ = some (.int .i64 xv) ∧ W.cell? ⟨b2, o2 + j * 3 + 2, none⟩ = some (.slice la2 xl.length lc2) ∧ W.cell? ⟨b1, o1 + i * 3 + 2, none⟩ = some (.slice la1 xl.length lc1)) (by kernel_rfl) ?_ (fun hHeld => ?_)
                          · exact ⟨by simpa using k0, by simpa using k1, by simpa using k2, by simpa using k3, by simpa using k4, by simpa using k5⟩
                          rw [hWD] at hHeld ⊢
                          refine wpAnyH_take (i := 0) (v := ?_) rfl (by kernel_rfl) (by kernel_rfl) (by kernel_rfl) (fun _ _ _ h => h) (Or.inl ⟨by rfl, ?_⟩) (by first | assumption | trivial) ?_
                          rotate_left
                          · intro w hSw; go_simp; (try with_reducible rfl)
                          change wpAnyH _ _ _ _ _ _ _ (Act.put _ (some 141) _) _; simp only [Act.put, List.setIfInBounds_toArray, List.set_cons_zero, List.set_cons_succ]
                          refine wpAnyH_take (i := 1) (v := ?_) rfl (by kernel_rfl) (by kernel_rfl) (by kernel_rfl) (fun _ _ _ h => h) (Or.inl ⟨by rfl, ?_⟩) (by first | assumption | trivial) ?_
                          rotate_left
                          · intro w hSw; go_simp; (try with_reducible rfl)
                          change wpAnyH _ _ _ _ _ _ _ (Act.put _ (some 142) _) _; simp only [Act.put, List.setIfInBounds_toArray, List.set_cons_zero, List.set_cons_succ]
                          refine wpAnyH_take (i := 2) (v := ?_) rfl (by kernel_rfl) (by kernel_rfl) (by kernel_rfl) (fun _ _ _ h => h) (Or.inl ⟨by rfl, ?_⟩) (by first | assumption | trivial) ?_
                          rotate_left
                          · intro w hSw; go_simp; (try with_reducible rfl)
                          change wpAnyH _ _ _ _ _ _ _ (Act.put _ (some 143) _) _; simp only [Act.put, List.setIfInBounds_toArray, List.set_cons_zero, List.set_cons_succ]
                          refine wpAnyH_take (i := 3) (v := ?_) rfl (by kernel_rfl) (by kernel_rfl) (by kernel_rfl) (fun _ _ _ h => h) (Or.inl ⟨by rfl, ?_⟩) (by first | assumption | trivial) ?_
                          rotate_left
                          · intro w hSw; go_simp; (try with_reducible rfl)
                          change wpAnyH _ _ _ _ _ _ _ (Act.put _ (some 144) _) _; simp only [Act.put, List.setIfInBounds_toArray, List.set_cons_zero, List.set_cons_succ]
                          refine wpAnyH_take (i := 4) (v := ?_) rfl (by kernel_rfl) (by kernel_rfl) (by kernel_rfl) (fun _ _ _ h => h) (Or.inl ⟨by rfl, ?_⟩) (by first | assumption | trivial) ?_
                          rotate_left
                          · intro w hSw; go_simp; (try with_reducible rfl)
                          change wpAnyH _ _ _ _ _ _ _ (Act.put _ (some 145) _) _; simp only [Act.put, List.setIfInBounds_toArray, List.set_cons_zero, List.set_cons_succ]
                          refine wpAnyH_take (i := 5) (v := ?_) rfl (by kernel_rfl) (by kernel_rfl) (by kernel_rfl) (fun _ _ _ h => h) (Or.inl ⟨by rfl, ?_⟩) (by first | assumption | trivial) ?_
                          rotate_left
                          · intro w hSw; go_simp; (try with_reducible rfl)
                          change wpAnyH _ _ _ _ _ _ _ (Act.put _ (some 146) _) _; simp only [Act.put, List.setIfInBounds_toArray, List.set_cons_zero, List.set_cons_succ]
                          refine wpAnyH_take (i := 6) (v := ?_) rfl (by kernel_rfl) (by kernel_rfl) (by kernel_rfl) (fun _ _ _ h => h) (Or.inl ⟨by rfl, ?_⟩) (by first | assumption | trivial) ?_
                          rotate_left
                          · intro w hSw; go_simp; (try with_reducible rfl)
                          change wpAnyH _ _ _ _ _ _ _ (Act.put _ (some 147) _) _; simp only [Act.put, List.setIfInBounds_toArray, List.set_cons_zero, List.set_cons_succ]
                          refine wpAnyH_take (i := 7) (v := ?_) rfl (by kernel_rfl) (by kernel_rfl) (by kernel_rfl) (fun _ _ _ h => h) (Or.inl ⟨by rfl, ?_⟩) (by first | assumption | trivial) ?_
                          rotate_left
                          · intro w hSw; go_simp; (try with_reducible rfl)
                          change wpAnyH _ _ _ _ _ _ _ (Act.put _ (some 148) _) _; simp only [Act.put, List.setIfInBounds_toArray, List.set_cons_zero, List.set_cons_succ]
                          refine wpAnyH_take (i := 8) (v := ?_) rfl (by kernel_rfl) (by kernel_rfl) (by kernel_rfl) (fun _ _ _ h => h) (Or.inl ⟨by rfl, ?_⟩) (by first | assumption | trivial) ?_
                          rotate_left
                          · intro w hSw; go_simp; (try with_reducible rfl)
                          change wpAnyH _ _ _ _ _ _ _ (Act.put _ (some 149) _) _; simp only [Act.put, List.setIfInBounds_toArray, List.set_cons_zero, List.set_cons_succ]
                          refine wpAnyH_take (i := 9) (v := ?_) rfl (by kernel_rfl) (by kernel_rfl) (by kernel_rfl) (fun _ _ _ h => h) (Or.inl ⟨by rfl, ?_⟩) (by first | assumption | trivial) ?_
                          rotate_left
                          · intro w hSw; go_simp; (try with_reducible rfl)
                          change wpAnyH _ _ _ _ _ _ _ (Act.put _ (some 150) _) _; simp only [Act.put, List.setIfInBounds_toArray, List.set_cons_zero, List.set_cons_succ]
                          refine wpAnyH_take (i := 10) (v := ?_) rfl (by kernel_rfl) (by kernel_rfl) (by kernel_rfl) (fun _ _ _ h => h) (Or.inl ⟨by rfl, ?_⟩) (by first | assumption | trivial) ?_
                          rotate_left
                          · intro w hSw; go_simp; (try with_reducible rfl)
                          change wpAnyH _ _ _ _ _ _ _ (Act.put _ (some 151) _) _; simp only [Act.put, List.setIfInBounds_toArray, List.set_cons_zero, List.set_cons_succ]
                          refine wpAnyH_take (i := 11) (v := ?_) rfl (by kernel_rfl) (by kernel_rfl) (by kernel_rfl) (fun _ _ _ h => h) (Or.inl ⟨by rfl, ?_⟩) (by first | assumption | trivial) ?_
                          rotate_left
                          · intro w hSw; go_simp; (try with_reducible rfl)
                          change wpAnyH _ _ _ _ _ _ _ (Act.put _ (some 152) _) _; simp only [Act.put, List.setIfInBounds_toArray, List.set_cons_zero, List.set_cons_succ]
                          refine wpAnyH_take (i := 12) (v := ?_) rfl (by kernel_rfl) (by kernel_rfl) (by kernel_rfl) (fun _ _ _ h => h) (Or.inl ⟨by rfl, ?_⟩) (by first | assumption | trivial) ?_
                          rotate_left
                          · intro w hSw; go_simp; (try with_reducible rfl)
                          change wpAnyH _ _ _ _ _ _ _ (Act.put _ (some 153) _) _; simp only [Act.put, List.setIfInBounds_toArray, List.set_cons_zero, List.set_cons_succ]
                          refine wpAnyH_take (i := 13) (v := ?_) rfl (by kernel_rfl) (by kernel_rfl) (by kernel_rfl) (fun _ _ _ h => h) (Or.inl ⟨by rfl, ?_⟩) (by first | assumption | trivial) ?_
                          rotate_left
                          · intro w hSw; go_simp; (try with_reducible rfl)
                          change wpAnyH _ _ _ _ _ _ _ (Act.put _ (some 154) _) _; simp only [Act.put, List.setIfInBounds_toArray, List.set_cons_zero, List.set_cons_succ]
                          refine wpAnyH_take (i := 14) (v := ?_) rfl (by kernel_rfl) (by kernel_rfl) (by kernel_rfl) (fun _ _ _ h => h) (Or.inl ⟨by rfl, ?_⟩) (by first | assumption | trivial) ?_
                          rotate_left
                          · intro w hSw; go_simp; (try with_reducible rfl)
                          change wpAnyH _ _ _ _ _ _ _ (Act.put _ (some 155) _) _; simp only [Act.put, List.setIfInBounds_toArray, List.set_cons_zero, List.set_cons_succ]
                          refine wpAnyH_take (i := 15) (v := ?_) rfl (by kernel_rfl) (by kernel_rfl) (by kernel_rfl) (fun _ _ _ h => h) (Or.inl ⟨by rfl, ?_⟩) (by first | assumption | trivial) ?_
                          rotate_left
                          · intro w hSw; go_simp; (try with_reducible rfl)
                          change wpAnyH _ _ _ _ _ _ _ (Act.put _ (some 156) _) _; simp only [Act.put, List.setIfInBounds_toArray, List.set_cons_zero, List.set_cons_succ]
                          refine wpAnyH_take (i := 16) (v := ?_) rfl (by kernel_rfl) (by kernel_rfl) (by kernel_rfl) (fun _ _ _ h => h) (Or.inl ⟨by rfl, ?_⟩) (by first | assumption | trivial) ?_
                          rotate_left
                          · intro w hSw; go_simp; (try with_reducible rfl)
                          change wpAnyH _ _ _ _ _ _ _ (Act.put _ (some 157) _) _; simp only [Act.put, List.setIfInBounds_toArray, List.set_cons_zero, List.set_cons_succ]
                          refine wpAnyH_take (i := 17) (v := ?_) rfl (by kernel_rfl) (by kernel_rfl) (by kernel_rfl) (fun _ _ _ h => h) (Or.inl ⟨by rfl, ?_⟩) (by first | assumption | trivial) ?_
                          rotate_left
                          · intro w hSw; go_simp; (try with_reducible rfl)
                          change wpAnyH _ _ _ _ _ _ _ (Act.put _ (some 158) _) _; simp only [Act.put, List.setIfInBounds_toArray, List.set_cons_zero, List.set_cons_succ]
                          refine wpAnyH_take (i := 18) (v := ?_) rfl (by kernel_rfl) (by kernel_rfl) (by kernel_rfl) (fun _ _ _ h => h) (Or.inl ⟨by rfl, ?_⟩) (by first | assumption | trivial) ?_
                          rotate_left
                          · intro w hSw; go_simp; (try with_reducible rfl)
                          change wpAnyH _ _ _ _ _ _ _ (Act.put _ (some 159) _) _; simp only [Act.put, List.setIfInBounds_toArray, List.set_cons_zero, List.set_cons_succ]
                          refine wpAnyH_take (i := 19) (v := ?_) rfl (by kernel_rfl) (by kernel_rfl) (by kernel_rfl) (fun _ _ _ h => h) (Or.inl ⟨by rfl, ?_⟩) (by first | assumption | trivial) ?_
                          rotate_left
                          · intro w hSw; go_simp; (try with_reducible rfl)
                          change wpAnyH _ _ _ _ _ _ _ (Act.put _ (some 160) _) _; simp only [Act.put, List.setIfInBounds_toArray, List.set_cons_zero, List.set_cons_succ]
                          refine wpAnyH_take (i := 20) (v := ?_) rfl (by kernel_rfl) (by kernel_rfl) (by kernel_rfl) (fun _ _ _ h => h) (Or.inl ⟨by rfl, ?_⟩) (by first | assumption | trivial) ?_
                          rotate_left
                          · intro w hSw; go_simp; (try with_reducible rfl)
                          change wpAnyH _ _ _ _ _ _ _ (Act.put _ (some 161) _) _; simp only [Act.put, List.setIfInBounds_toArray, List.set_cons_zero, List.set_cons_succ]
                          refine wpAnyH_take (i := 21) (v := ?_) rfl (by kernel_rfl) (by kernel_rfl) (by kernel_rfl) (fun _ _ _ h => h) (Or.inl ⟨by rfl, ?_⟩) (by first | assumption | trivial) ?_
                          rotate_left
                          · intro w hSw; go_simp; (try with_reducible rfl)
                          change wpAnyH _ _ _ _ _ _ _ (Act.put _ (some 162) _) _; simp only [Act.put, List.setIfInBounds_toArray, List.set_cons_zero, List.set_cons_succ]
                          refine wpAnyH_take (i := 22) (v := ?_) rfl (by kernel_rfl) (by kernel_rfl) (by kernel_rfl) (fun _ _ _ h => h) (Or.inl ⟨by rfl, ?_⟩) (by first | assumption | trivial) ?_
                          rotate_left
                          · intro w hSw; go_simp; (try with_reducible rfl)
                          change wpAnyH _ _ _ _ _ _ _ (Act.put _ (some 163) _) _; simp only [Act.put, List.setIfInBounds_toArray, List.set_cons_zero, List.set_cons_succ]
                          refine wpAnyH_take (i := 23) (v := ?_) rfl (by kernel_rfl) (by kernel_rfl) (by kernel_rfl) (fun _ _ _ h => h) (Or.inl ⟨by rfl, ?_⟩) (by first | assumption | trivial) ?_
                          rotate_left
                          · intro w hSw; go_simp; (try with_reducible rfl)
                          change wpAnyH _ _ _ _ _ _ _ (Act.put _ (some 164) _) _; simp only [Act.put, List.setIfInBounds_toArray, List.set_cons_zero, List.set_cons_succ]
                          refine wpAnyH_take (i := 24) (v := ?_) rfl (by kernel_rfl) (by kernel_rfl) (by kernel_rfl) (fun _ _ _ h => h) (Or.inl ⟨by rfl, ?_⟩) (by first | assumption | trivial) ?_
                          rotate_left
                          · intro w hSw; go_simp; (try with_reducible rfl)
                          change wpAnyH _ _ _ _ _ _ _ (Act.put _ (some 165) _) _; simp only [Act.put, List.setIfInBounds_toArray, List.set_cons_zero, List.set_cons_succ]
                          refine wpAnyH_take (i := 25) (v := ?_) rfl (by kernel_rfl) (by kernel_rfl) (by kernel_rfl) (fun _ _ _ h => h) (Or.inl ⟨by rfl, ?_⟩) (by first | assumption | trivial) ?_
                          rotate_left
                          · intro w hSw; go_simp; (try with_reducible rfl)
                          change wpAnyH _ _ _ _ _ _ _ (Act.put _ (some 166) _) _; simp only [Act.put, List.setIfInBounds_toArray, List.set_cons_zero, List.set_cons_succ]
                          refine wpAnyH_take (i := 26) (v := ?_) rfl (by kernel_rfl) (by kernel_rfl) (by kernel_rfl) (fun _ _ _ h => h) (Or.inl ⟨by rfl, ?_⟩) (by first | assumption | trivial) ?_
                          rotate_left
                          · intro w hSw; go_simp; (try with_reducible rfl)
                          change wpAnyH _ _ _ _ _ _ _ (Act.put _ (some 167) _) _; simp only [Act.put, List.setIfInBounds_toArray, List.set_cons_zero, List.set_cons_succ]
                          refine wpAnyH_take (i := 27) (v := ?_) rfl (by kernel_rfl) (by kernel_rfl) (by kernel_rfl) (fun _ _ _ h => h) (Or.inl ⟨by rfl, ?_⟩) (by first | assumption | trivial) ?_
                          rotate_left
                          · intro w hSw; go_simp; (try with_reducible rfl)
                          change wpAnyH _ _ _ _ _ _ _ (Act.put _ (some 168) _) _; simp only [Act.put, List.setIfInBounds_toArray, List.set_cons_zero, List.set_cons_succ]
                          refine wpAnyH_take (i := 28) (v := ?_) rfl (by kernel_rfl) (by kernel_rfl) (by kernel_rfl) (fun _ _ _ h => h) (Or.inl ⟨by rfl, ?_⟩) (by first | assumption | trivial) ?_
                          rotate_left
                          · intro w hSw; go_simp; (try with_reducible rfl)
                          change wpAnyH _ _ _ _ _ _ _ (Act.put _ (some 169) _) _; simp only [Act.put, List.setIfInBounds_toArray, List.set_cons_zero, List.set_cons_succ]
                          refine wpAnyH_take (i := 29) (v := ?_) rfl (by kernel_rfl) (by kernel_rfl) (by kernel_rfl) (fun _ _ _ h => h) (Or.inl ⟨by rfl, ?_⟩) (by first | assumption | trivial) ?_
                          rotate_left
                          · intro w hSw; go_simp; (try with_reducible rfl)
                          change wpAnyH _ _ _ _ _ _ _ (Act.put _ (some 170) _) _; simp only [Act.put, List.setIfInBounds_toArray, List.set_cons_zero, List.set_cons_succ]
                          refine wpAnyH_take (i := 30) (v := ?_) rfl (by kernel_rfl) (by kernel_rfl) (by kernel_rfl) (fun _ _ _ h => h) (Or.inl ⟨by rfl, ?_⟩) (by first | assumption | trivial) ?_
                          rotate_left
                          · intro w hSw; go_simp; (try with_reducible rfl)
                          change wpAnyH _ _ _ _ _ _ _ (Act.put _ (some 171) _) _; simp only [Act.put, List.setIfInBounds_toArray, List.set_cons_zero, List.set_cons_succ]
                          refine wpAnyH_take (i := 31) (v := ?_) rfl (by kernel_rfl) (by kernel_rfl) (by kernel_rfl) (fun _ _ _ h => h) (Or.inl ⟨by rfl, ?_⟩) (by first | assumption | trivial) ?_
                          rotate_left
                          · intro w hSw; go_simp; (try with_reducible rfl)
                          change wpAnyH _ _ _ _ _ _ _ (Act.put _ (some 172) _) _; simp only [Act.put, List.setIfInBounds_toArray, List.set_cons_zero, List.set_cons_succ]
                          refine wpAnyH_take (i := 32) (v := ?_) rfl (by kernel_rfl) (by kernel_rfl) (by kernel_rfl) (fun _ _ _ h => h) (Or.inl ⟨by rfl, ?_⟩) (by first | assumption | trivial) ?_
                          rotate_left
                          · intro w hSw; go_simp; (try with_reducible rfl)
                          change wpAnyH _ _ _ _ _ _ _ (Act.put _ (some 173) _) _; simp only [Act.put, List.setIfInBounds_toArray, List.set_cons_zero, List.set_cons_succ]
                          refine wpAnyH_take (i := 33) (v := ?_) rfl (by kernel_rfl) (by kernel_rfl) (by kernel_rfl) (fun _ _ _ h => h) (Or.inl ⟨by rfl, ?_⟩) (by first | assumption | trivial) ?_
                          rotate_left
                          · intro w hSw; go_simp; (try with_reducible rfl)
                          change wpAnyH _ _ _ _ _ _ _ (Act.put _ (some 174) _) _; simp only [Act.put, List.setIfInBounds_toArray, List.set_cons_zero, List.set_cons_succ]
                          refine wpAnyH_done (by kernel_rfl) ?_ _
                          clear hHeld
                          go_wp2_with fail
                          go_roundw
                          case rel => exact ⟨i + 1, by go_num, by omega, HND⟩
                          case measure => simp [intOf]; omega
                        · have g4 : (ss.toList == n.toList) = false := beq_eq_false_iff_ne.2 fun e => heq (by
                            rw [Lib.toList_data, Lib.toList_data] at e
                            rw [ba_list e])
                          have g5 : ¬ ss.toList = n.toList := fun e => by rw [e] at g4; simp at g4
                          have g6 : (9223372036854775807 < n.size + 1) = False := eq_false (by omega)
                          obtain ⟨ps, hps⟩ : ∃ s : ByteArray, n ++ ⟨#[47]⟩ = s := ⟨_, rfl⟩
                          have cP := Tryz.strings_HasPrefix ss ps wr
                          have hpr : Lib.hasPrefix ss.data.toList ps.data.toList = true := by
                            rw [hssl, ← hps, hcat_list]
                            rcases hc with hc | hc
                            · exact absurd (by rw [ba_list hssl, hc]) heq
                            · exact hc
                          rw [hpr] at cP
                          clear hc hssl hpr heq
                          go_wp2_with fail
                          refine cP.mono ?_
                          rintro e w14 ⟨rfl, hw⟩
                          obtain rfl : wr = w14 := hw.symm
                          clear cP hw
                          go_wp2_with fail
                          refine cI.mono ?_
                          rintro e w15 ⟨rfl, hw⟩
                          obtain rfl : wr = w15 := hw.symm
                          clear cI hw
                          go_upto_region 34 with fail
                          refine wp_region_held_drew (S := fun W => W.cell? ⟨sb2, 1, none⟩ = some (.slice (some ⟨b2, o2, none⟩) N bc2) ∧ W.cell? ⟨b2, o2 + j * 3, none⟩ = some (.int .i64 xv) ∧ W.cell? ⟨sb, 1, none⟩ = some (.slice (some ⟨b1, o1, none⟩) N bc) ∧ W.cell? ⟨b1, o1 + i * 3, none⟩ = some (.int .i64 xv) ∧ W.cell? ⟨b2, o2 + j * 3 + 2, none⟩ = some (.slice la2 xl.length lc2) ∧ W.cell? ⟨b1, o1 + i * 3 + 2, none⟩ = some (.slice la1 xl.length lc1)) (by kernel_rfl) ?_ (fun hHeld => ?_)
                          · exact ⟨by simpa using k0, by simpa using k1, by simpa using k2, by simpa using k3, by simpa using k4, by simpa using k5⟩
                          rw [hWD] at hHeld ⊢
                          refine wpAnyH_take (i := 0) (v := ?_) rfl (by kernel_rfl) (by kernel_rfl) (by kernel_rfl) (fun _ _ _ h => h) (Or.inl ⟨by rfl, ?_⟩) (by first | assumption | trivial) ?_
                          rotate_left
                          · intro w hSw; go_simp; (try with_reducible rfl)
                          change wpAnyH _ _ _ _ _ _ _ (Act.put _ (some 141) _) _; simp only [Act.put, List.setIfInBounds_toArray, List.set_cons_zero, List.set_cons_succ]
                          refine wpAnyH_take (i := 1) (v := ?_) rfl (by kernel_rfl) (by kernel_rfl) (by kernel_rfl) (fun _ _ _ h => h) (Or.inl ⟨by rfl, ?_⟩) (by first | assumption | trivial) ?_
                          rotate_left
                          · intro w hSw; go_simp; (try with_reducible rfl)
                          change wpAnyH _ _ _ _ _ _ _ (Act.put _ (some 142) _) _; simp only [Act.put, List.setIfInBounds_toArray, List.set_cons_zero, List.set_cons_succ]
                          refine wpAnyH_take (i := 2) (v := ?_) rfl (by kernel_rfl) (by kernel_rfl) (by kernel_rfl) (fun _ _ _ h => h) (Or.inl ⟨by rfl, ?_⟩) (by first | assumption | trivial) ?_
                          rotate_left
                          · intro w hSw; go_simp; (try with_reducible rfl)
                          change wpAnyH _ _ _ _ _ _ _ (Act.put _ (some 143) _) _; simp only [Act.put, List.setIfInBounds_toArray, List.set_cons_zero, List.set_cons_succ]
                          refine wpAnyH_take (i := 3) (v := ?_) rfl (by kernel_rfl) (by kernel_rfl) (by kernel_rfl) (fun _ _ _ h => h) (Or.inl ⟨by rfl, ?_⟩) (by first | assumption | trivial) ?_
                          rotate_left
                          · intro w hSw; go_simp; (try with_reducible rfl)
                          change wpAnyH _ _ _ _ _ _ _ (Act.put _ (some 144) _) _; simp only [Act.put, List.setIfInBounds_toArray, List.set_cons_zero, List.set_cons_succ]
                          refine wpAnyH_take (i := 4) (v := ?_) rfl (by kernel_rfl) (by kernel_rfl) (by kernel_rfl) (fun _ _ _ h => h) (Or.inl ⟨by rfl, ?_⟩) (by first | assumption | trivial) ?_
                          rotate_left
                          · intro w hSw; go_simp; (try with_reducible rfl)
                          change wpAnyH _ _ _ _ _ _ _ (Act.put _ (some 145) _) _; simp only [Act.put, List.setIfInBounds_toArray, List.set_cons_zero, List.set_cons_succ]
                          refine wpAnyH_take (i := 5) (v := ?_) rfl (by kernel_rfl) (by kernel_rfl) (by kernel_rfl) (fun _ _ _ h => h) (Or.inl ⟨by rfl, ?_⟩) (by first | assumption | trivial) ?_
                          rotate_left
                          · intro w hSw; go_simp; (try with_reducible rfl)
                          change wpAnyH _ _ _ _ _ _ _ (Act.put _ (some 146) _) _; simp only [Act.put, List.setIfInBounds_toArray, List.set_cons_zero, List.set_cons_succ]
                          refine wpAnyH_take (i := 6) (v := ?_) rfl (by kernel_rfl) (by kernel_rfl) (by kernel_rfl) (fun _ _ _ h => h) (Or.inl ⟨by rfl, ?_⟩) (by first | assumption | trivial) ?_
                          rotate_left
                          · intro w hSw; go_simp; (try with_reducible rfl)
                          change wpAnyH _ _ _ _ _ _ _ (Act.put _ (some 147) _) _; simp only [Act.put, List.setIfInBounds_toArray, List.set_cons_zero, List.set_cons_succ]
                          refine wpAnyH_take (i := 7) (v := ?_) rfl (by kernel_rfl) (by kernel_rfl) (by kernel_rfl) (fun _ _ _ h => h) (Or.inl ⟨by rfl, ?_⟩) (by first | assumption | trivial) ?_
                          rotate_left
                          · intro w hSw; go_simp; (try with_reducible rfl)
                          change wpAnyH _ _ _ _ _ _ _ (Act.put _ (some 148) _) _; simp only [Act.put, List.setIfInBounds_toArray, List.set_cons_zero, List.set_cons_succ]
                          refine wpAnyH_take (i := 8) (v := ?_) rfl (by kernel_rfl) (by kernel_rfl) (by kernel_rfl) (fun _ _ _ h => h) (Or.inl ⟨by rfl, ?_⟩) (by first | assumption | trivial) ?_
                          rotate_left
                          · intro w hSw; go_simp; (try with_reducible rfl)
                          change wpAnyH _ _ _ _ _ _ _ (Act.put _ (some 149) _) _; simp only [Act.put, List.setIfInBounds_toArray, List.set_cons_zero, List.set_cons_succ]
                          refine wpAnyH_take (i := 9) (v := ?_) rfl (by kernel_rfl) (by kernel_rfl) (by kernel_rfl) (fun _ _ _ h => h) (Or.inl ⟨by rfl, ?_⟩) (by first | assumption | trivial) ?_
                          rotate_left
                          · intro w hSw; go_simp; (try with_reducible rfl)
                          change wpAnyH _ _ _ _ _ _ _ (Act.put _ (some 150) _) _; simp only [Act.put, List.setIfInBounds_toArray, List.set_cons_zero, List.set_cons_succ]
                          refine wpAnyH_take (i := 10) (v := ?_) rfl (by kernel_rfl) (by kernel_rfl) (by kernel_rfl) (fun _ _ _ h => h) (Or.inl ⟨by rfl, ?_⟩) (by first | assumption | trivial) ?_
                          rotate_left
                          · intro w hSw; go_simp; (try with_reducible rfl)
                          change wpAnyH _ _ _ _ _ _ _ (Act.put _ (some 151) _) _; simp only [Act.put, List.setIfInBounds_toArray, List.set_cons_zero, List.set_cons_succ]
                          refine wpAnyH_take (i := 11) (v := ?_) rfl (by kernel_rfl) (by kernel_rfl) (by kernel_rfl) (fun _ _ _ h => h) (Or.inl ⟨by rfl, ?_⟩) (by first | assumption | trivial) ?_
                          rotate_left
                          · intro w hSw; go_simp; (try with_reducible rfl)
                          change wpAnyH _ _ _ _ _ _ _ (Act.put _ (some 152) _) _; simp only [Act.put, List.setIfInBounds_toArray, List.set_cons_zero, List.set_cons_succ]
                          refine wpAnyH_take (i := 12) (v := ?_) rfl (by kernel_rfl) (by kernel_rfl) (by kernel_rfl) (fun _ _ _ h => h) (Or.inl ⟨by rfl, ?_⟩) (by first | assumption | trivial) ?_
                          rotate_left
                          · intro w hSw; go_simp; (try with_reducible rfl)
                          change wpAnyH _ _ _ _ _ _ _ (Act.put _ (some 153) _) _; simp only [Act.put, List.setIfInBounds_toArray, List.set_cons_zero, List.set_cons_succ]
                          refine wpAnyH_take (i := 13) (v := ?_) rfl (by kernel_rfl) (by kernel_rfl) (by kernel_rfl) (fun _ _ _ h => h) (Or.inl ⟨by rfl, ?_⟩) (by first | assumption | trivial) ?_
                          rotate_left
                          · intro w hSw; go_simp; (try with_reducible rfl)
                          change wpAnyH _ _ _ _ _ _ _ (Act.put _ (some 154) _) _; simp only [Act.put, List.setIfInBounds_toArray, List.set_cons_zero, List.set_cons_succ]
                          refine wpAnyH_take (i := 14) (v := ?_) rfl (by kernel_rfl) (by kernel_rfl) (by kernel_rfl) (fun _ _ _ h => h) (Or.inl ⟨by rfl, ?_⟩) (by first | assumption | trivial) ?_
                          rotate_left
                          · intro w hSw; go_simp; (try with_reducible rfl)
                          change wpAnyH _ _ _ _ _ _ _ (Act.put _ (some 155) _) _; simp only [Act.put, List.setIfInBounds_toArray, List.set_cons_zero, List.set_cons_succ]
                          refine wpAnyH_take (i := 15) (v := ?_) rfl (by kernel_rfl) (by kernel_rfl) (by kernel_rfl) (fun _ _ _ h => h) (Or.inl ⟨by rfl, ?_⟩) (by first | assumption | trivial) ?_
                          rotate_left
                          · intro w hSw; go_simp; (try with_reducible rfl)
                          change wpAnyH _ _ _ _ _ _ _ (Act.put _ (some 156) _) _; simp only [Act.put, List.setIfInBounds_toArray, List.set_cons_zero, List.set_cons_succ]
                          refine wpAnyH_take (i := 16) (v := ?_) rfl (by kernel_rfl) (by kernel_rfl) (by kernel_rfl) (fun _ _ _ h => h) (Or.inl ⟨by rfl, ?_⟩) (by first | assumption | trivial) ?_
                          rotate_left
                          · intro w hSw; go_simp; (try with_reducible rfl)
                          change wpAnyH _ _ _ _ _ _ _ (Act.put _ (some 157) _) _; simp only [Act.put, List.setIfInBounds_toArray, List.set_cons_zero, List.set_cons_succ]
                          refine wpAnyH_take (i := 17) (v := ?_) rfl (by kernel_rfl) (by kernel_rfl) (by kernel_rfl) (fun _ _ _ h => h) (Or.inl ⟨by rfl, ?_⟩) (by first | assumption | trivial) ?_
                          rotate_left
                          · intro w hSw; go_simp; (try with_reducible rfl)
                          change wpAnyH _ _ _ _ _ _ _ (Act.put _ (some 158) _) _; simp only [Act.put, List.setIfInBounds_toArray, List.set_cons_zero, List.set_cons_succ]
                          refine wpAnyH_take (i := 18) (v := ?_) rfl (by kernel_rfl) (by kernel_rfl) (by kernel_rfl) (fun _ _ _ h => h) (Or.inl ⟨by rfl, ?_⟩) (by first | assumption | trivial) ?_
                          rotate_left
                          · intro w hSw; go_simp; (try with_reducible rfl)
                          change wpAnyH _ _ _ _ _ _ _ (Act.put _ (some 159) _) _; simp only [Act.put, List.setIfInBounds_toArray, List.set_cons_zero, List.set_cons_succ]
                          refine wpAnyH_take (i := 19) (v := ?_) rfl (by kernel_rfl) (by kernel_rfl) (by kernel_rfl) (fun _ _ _ h => h) (Or.inl ⟨by rfl, ?_⟩) (by first | assumption | trivial) ?_
                          rotate_left
                          · intro w hSw; go_simp; (try with_reducible rfl)
                          change wpAnyH _ _ _ _ _ _ _ (Act.put _ (some 160) _) _; simp only [Act.put, List.setIfInBounds_toArray, List.set_cons_zero, List.set_cons_succ]
                          refine wpAnyH_take (i := 20) (v := ?_) rfl (by kernel_rfl) (by kernel_rfl) (by kernel_rfl) (fun _ _ _ h => h) (Or.inl ⟨by rfl, ?_⟩) (by first | assumption | trivial) ?_
                          rotate_left
                          · intro w hSw; go_simp; (try with_reducible rfl)
                          change wpAnyH _ _ _ _ _ _ _ (Act.put _ (some 161) _) _; simp only [Act.put, List.setIfInBounds_toArray, List.set_cons_zero, List.set_cons_succ]
                          refine wpAnyH_take (i := 21) (v := ?_) rfl (by kernel_rfl) (by kernel_rfl) (by kernel_rfl) (fun _ _ _ h => h) (Or.inl ⟨by rfl, ?_⟩) (by first | assumption | trivial) ?_
                          rotate_left
                          · intro w hSw; go_simp; (try with_reducible rfl)
                          change wpAnyH _ _ _ _ _ _ _ (Act.put _ (some 162) _) _; simp only [Act.put, List.setIfInBounds_toArray, List.set_cons_zero, List.set_cons_succ]
                          refine wpAnyH_take (i := 22) (v := ?_) rfl (by kernel_rfl) (by kernel_rfl) (by kernel_rfl) (fun _ _ _ h => h) (Or.inl ⟨by rfl, ?_⟩) (by first | assumption | trivial) ?_
                          rotate_left
                          · intro w hSw; go_simp; (try with_reducible rfl)
                          change wpAnyH _ _ _ _ _ _ _ (Act.put _ (some 163) _) _; simp only [Act.put, List.setIfInBounds_toArray, List.set_cons_zero, List.set_cons_succ]
                          refine wpAnyH_take (i := 23) (v := ?_) rfl (by kernel_rfl) (by kernel_rfl) (by kernel_rfl) (fun _ _ _ h => h) (Or.inl ⟨by rfl, ?_⟩) (by first | assumption | trivial) ?_
                          rotate_left
                          · intro w hSw; go_simp; (try with_reducible rfl)
                          change wpAnyH _ _ _ _ _ _ _ (Act.put _ (some 164) _) _; simp only [Act.put, List.setIfInBounds_toArray, List.set_cons_zero, List.set_cons_succ]
                          refine wpAnyH_take (i := 24) (v := ?_) rfl (by kernel_rfl) (by kernel_rfl) (by kernel_rfl) (fun _ _ _ h => h) (Or.inl ⟨by rfl, ?_⟩) (by first | assumption | trivial) ?_
                          rotate_left
                          · intro w hSw; go_simp; (try with_reducible rfl)
                          change wpAnyH _ _ _ _ _ _ _ (Act.put _ (some 165) _) _; simp only [Act.put, List.setIfInBounds_toArray, List.set_cons_zero, List.set_cons_succ]
                          refine wpAnyH_take (i := 25) (v := ?_) rfl (by kernel_rfl) (by kernel_rfl) (by kernel_rfl) (fun _ _ _ h => h) (Or.inl ⟨by rfl, ?_⟩) (by first | assumption | trivial) ?_
                          rotate_left
                          · intro w hSw; go_simp; (try with_reducible rfl)
                          change wpAnyH _ _ _ _ _ _ _ (Act.put _ (some 166) _) _; simp only [Act.put, List.setIfInBounds_toArray, List.set_cons_zero, List.set_cons_succ]
                          refine wpAnyH_take (i := 26) (v := ?_) rfl (by kernel_rfl) (by kernel_rfl) (by kernel_rfl) (fun _ _ _ h => h) (Or.inl ⟨by rfl, ?_⟩) (by first | assumption | trivial) ?_
                          rotate_left
                          · intro w hSw; go_simp; (try with_reducible rfl)
                          change wpAnyH _ _ _ _ _ _ _ (Act.put _ (some 167) _) _; simp only [Act.put, List.setIfInBounds_toArray, List.set_cons_zero, List.set_cons_succ]
                          refine wpAnyH_take (i := 27) (v := ?_) rfl (by kernel_rfl) (by kernel_rfl) (by kernel_rfl) (fun _ _ _ h => h) (Or.inl ⟨by rfl, ?_⟩) (by first | assumption | trivial) ?_
                          rotate_left
                          · intro w hSw; go_simp; (try with_reducible rfl)
                          change wpAnyH _ _ _ _ _ _ _ (Act.put _ (some 168) _) _; simp only [Act.put, List.setIfInBounds_toArray, List.set_cons_zero, List.set_cons_succ]
                          refine wpAnyH_take (i := 28) (v := ?_) rfl (by kernel_rfl) (by kernel_rfl) (by kernel_rfl) (fun _ _ _ h => h) (Or.inl ⟨by rfl, ?_⟩) (by first | assumption | trivial) ?_
                          rotate_left
                          · intro w hSw; go_simp; (try with_reducible rfl)
                          change wpAnyH _ _ _ _ _ _ _ (Act.put _ (some 169) _) _; simp only [Act.put, List.setIfInBounds_toArray, List.set_cons_zero, List.set_cons_succ]
                          refine wpAnyH_take (i := 29) (v := ?_) rfl (by kernel_rfl) (by kernel_rfl) (by kernel_rfl) (fun _ _ _ h => h) (Or.inl ⟨by rfl, ?_⟩) (by first | assumption | trivial) ?_
                          rotate_left
                          · intro w hSw; go_simp; (try with_reducible rfl)
                          change wpAnyH _ _ _ _ _ _ _ (Act.put _ (some 170) _) _; simp only [Act.put, List.setIfInBounds_toArray, List.set_cons_zero, List.set_cons_succ]
                          refine wpAnyH_take (i := 30) (v := ?_) rfl (by kernel_rfl) (by kernel_rfl) (by kernel_rfl) (fun _ _ _ h => h) (Or.inl ⟨by rfl, ?_⟩) (by first | assumption | trivial) ?_
                          rotate_left
                          · intro w hSw; go_simp; (try with_reducible rfl)
                          change wpAnyH _ _ _ _ _ _ _ (Act.put _ (some 171) _) _; simp only [Act.put, List.setIfInBounds_toArray, List.set_cons_zero, List.set_cons_succ]
                          refine wpAnyH_take (i := 31) (v := ?_) rfl (by kernel_rfl) (by kernel_rfl) (by kernel_rfl) (fun _ _ _ h => h) (Or.inl ⟨by rfl, ?_⟩) (by first | assumption | trivial) ?_
                          rotate_left
                          · intro w hSw; go_simp; (try with_reducible rfl)
                          change wpAnyH _ _ _ _ _ _ _ (Act.put _ (some 172) _) _; simp only [Act.put, List.setIfInBounds_toArray, List.set_cons_zero, List.set_cons_succ]
                          refine wpAnyH_take (i := 32) (v := ?_) rfl (by kernel_rfl) (by kernel_rfl) (by kernel_rfl) (fun _ _ _ h => h) (Or.inl ⟨by rfl, ?_⟩) (by first | assumption | trivial) ?_
                          rotate_left
                          · intro w hSw; go_simp; (try with_reducible rfl)
                          change wpAnyH _ _ _ _ _ _ _ (Act.put _ (some 173) _) _; simp only [Act.put, List.setIfInBounds_toArray, List.set_cons_zero, List.set_cons_succ]
                          refine wpAnyH_take (i := 33) (v := ?_) rfl (by kernel_rfl) (by kernel_rfl) (by kernel_rfl) (fun _ _ _ h => h) (Or.inl ⟨by rfl, ?_⟩) (by first | assumption | trivial) ?_
                          rotate_left
                          · intro w hSw; go_simp; (try with_reducible rfl)
                          change wpAnyH _ _ _ _ _ _ _ (Act.put _ (some 174) _) _; simp only [Act.put, List.setIfInBounds_toArray, List.set_cons_zero, List.set_cons_succ]
                          refine wpAnyH_done (by kernel_rfl) ?_ _
                          clear hHeld
                          go_wp2_with fail
                          go_roundw
                          case rel => exact ⟨i + 1, by go_num, by omega, HND⟩
                          case measure => simp [intOf]; omega
                      · have g4 : (ss.toList == n.toList) = false := beq_eq_false_iff_ne.2 fun e => hc (Or.inl (by
                          rw [Lib.toList_data, Lib.toList_data] at e
                          rw [← hssl, e]))
                        have g5 : ¬ ss.toList = n.toList := fun e => by rw [e] at g4; simp at g4
                        have g6 : (9223372036854775807 < n.size + 1) = False := eq_false (by omega)
                        obtain ⟨ps, hps⟩ : ∃ s : ByteArray, n ++ ⟨#[47]⟩ = s := ⟨_, rfl⟩
                        have cP := Tryz.strings_HasPrefix ss ps wr
                        have hpr : Lib.hasPrefix ss.data.toList ps.data.toList = false := by
                          rw [hssl, ← hps, hcat_list]
                          rw [← Bool.not_eq_true]
                          exact fun h => hc (Or.inr h)
                        rw [hpr] at cP
                        have cI := HIX.out ss (by unfold movedN; rw [if_neg hc, hssl])
                        clear hc hssl hpr HIX
                        go_wp2_with fail
                        refine cP.mono ?_
                        rintro e w14 ⟨rfl, hw⟩
                        obtain rfl : wr = w14 := hw.symm
                        clear cP hw
                        go_wp2_with fail
                        refine cI.mono ?_
                        rintro e w15 ⟨rfl, hw⟩
                        obtain rfl : wr = w15 := hw.symm
                        clear cI hw
                        go_upto_region 34 with fail
                        refine wp_region_held_drew (S := fun W => W.cell? ⟨sb2, 1, none⟩ = some (.slice (some ⟨b2, o2, none⟩) N bc2) ∧ W.cell? ⟨b2, o2 + j * 3, none⟩ = some (.int .i64 xv) ∧ W.cell? ⟨sb, 1, none⟩ = some (.slice (some ⟨b1, o1, none⟩) N bc) ∧ W.cell? ⟨b1, o1 + i * 3, none⟩ = some (.int .i64 xv) ∧ W.cell? ⟨b2, o2 + j * 3 + 2, none⟩ = some (.slice la2 xl.length lc2) ∧ W.cell? ⟨b1, o1 + i * 3 + 2, none⟩ = some (.slice la1 xl.length lc1)) (by kernel_rfl) ?_ (fun hHeld => ?_)
                        · exact ⟨by simpa using k0, by simpa using k1, by simpa using k2, by simpa using k3, by simpa using k4, by simpa using k5⟩
                        rw [hWD] at hHeld ⊢
                        refine wpAnyH_take (i := 0) (v := ?_) rfl (by kernel_rfl) (by kernel_rfl) (by kernel_rfl) (fun _ _ _ h => h) (Or.inl ⟨by rfl, ?_⟩) (by first | assumption | trivial) ?_
                        rotate_left
                        · intro w hSw; go_simp; (try with_reducible rfl)
                        change wpAnyH _ _ _ _ _ _ _ (Act.put _ (some 141) _) _; simp only [Act.put, List.setIfInBounds_toArray, List.set_cons_zero, List.set_cons_succ]
                        refine wpAnyH_take (i := 1) (v := ?_) rfl (by kernel_rfl) (by kernel_rfl) (by kernel_rfl) (fun _ _ _ h => h) (Or.inl ⟨by rfl, ?_⟩) (by first | assumption | trivial) ?_
                        rotate_left
                        · intro w hSw; go_simp; (try with_reducible rfl)
                        change wpAnyH _ _ _ _ _ _ _ (Act.put _ (some 142) _) _; simp only [Act.put, List.setIfInBounds_toArray, List.set_cons_zero, List.set_cons_succ]
                        refine wpAnyH_take (i := 2) (v := ?_) rfl (by kernel_rfl) (by kernel_rfl) (by kernel_rfl) (fun _ _ _ h => h) (Or.inl ⟨by rfl, ?_⟩) (by first | assumption | trivial) ?_
                        rotate_left
                        · intro w hSw; go_simp; (try with_reducible rfl)
                        change wpAnyH _ _ _ _ _ _ _ (Act.put _ (some 143) _) _; simp only [Act.put, List.setIfInBounds_toArray, List.set_cons_zero, List.set_cons_succ]
                        refine wpAnyH_take (i := 3) (v := ?_) rfl (by kernel_rfl) (by kernel_rfl) (by kernel_rfl) (fun _ _ _ h => h) (Or.inl ⟨by rfl, ?_⟩) (by first | assumption | trivial) ?_
                        rotate_left
                        · intro w hSw; go_simp; (try with_reducible rfl)
                        change wpAnyH _ _ _ _ _ _ _ (Act.put _ (some 144) _) _; simp only [Act.put, List.setIfInBounds_toArray, List.set_cons_zero, List.set_cons_succ]
                        refine wpAnyH_take (i := 4) (v := ?_) rfl (by kernel_rfl) (by kernel_rfl) (by kernel_rfl) (fun _ _ _ h => h) (Or.inl ⟨by rfl, ?_⟩) (by first | assumption | trivial) ?_
                        rotate_left
                        · intro w hSw; go_simp; (try with_reducible rfl)
                        change wpAnyH _ _ _ _ _ _ _ (Act.put _ (some 145) _) _; simp only [Act.put, List.setIfInBounds_toArray, List.set_cons_zero, List.set_cons_succ]
                        refine wpAnyH_take (i := 5) (v := ?_) rfl (by kernel_rfl) (by kernel_rfl) (by kernel_rfl) (fun _ _ _ h => h) (Or.inl ⟨by rfl, ?_⟩) (by first | assumption | trivial) ?_
                        rotate_left
                        · intro w hSw; go_simp; (try with_reducible rfl)
                        change wpAnyH _ _ _ _ _ _ _ (Act.put _ (some 146) _) _; simp only [Act.put, List.setIfInBounds_toArray, List.set_cons_zero, List.set_cons_succ]
                        refine wpAnyH_take (i := 6) (v := ?_) rfl (by kernel_rfl) (by kernel_rfl) (by kernel_rfl) (fun _ _ _ h => h) (Or.inl ⟨by rfl, ?_⟩) (by first | assumption | trivial) ?_
                        rotate_left
                        · intro w hSw; go_simp; (try with_reducible rfl)
                        change wpAnyH _ _ _ _ _ _ _ (Act.put _ (some 147) _) _; simp only [Act.put, List.setIfInBounds_toArray, List.set_cons_zero, List.set_cons_succ]
                        refine wpAnyH_take (i := 7) (v := ?_) rfl (by kernel_rfl) (by kernel_rfl) (by kernel_rfl) (fun _ _ _ h => h) (Or.inl ⟨by rfl, ?_⟩) (by first | assumption | trivial) ?_
                        rotate_left
                        · intro w hSw; go_simp; (try with_reducible rfl)
                        change wpAnyH _ _ _ _ _ _ _ (Act.put _ (some 148) _) _; simp only [Act.put, List.setIfInBounds_toArray, List.set_cons_zero, List.set_cons_succ]
                        refine wpAnyH_take (i := 8) (v := ?_) rfl (by kernel_rfl) (by kernel_rfl) (by kernel_rfl) (fun _ _ _ h => h) (Or.inl ⟨by rfl, ?_⟩) (by first | assumption | trivial) ?_
                        rotate_left
                        · intro w hSw; go_simp; (try with_reducible rfl)
                        change wpAnyH _ _ _ _ _ _ _ (Act.put _ (some 149) _) _; simp only [Act.put, List.setIfInBounds_toArray, List.set_cons_zero, List.set_cons_succ]
                        refine wpAnyH_take (i := 9) (v := ?_) rfl (by kernel_rfl) (by kernel_rfl) (by kernel_rfl) (fun _ _ _ h => h) (Or.inl ⟨by rfl, ?_⟩) (by first | assumption | trivial) ?_
                        rotate_left
                        · intro w hSw; go_simp; (try with_reducible rfl)
                        change wpAnyH _ _ _ _ _ _ _ (Act.put _ (some 150) _) _; simp only [Act.put, List.setIfInBounds_toArray, List.set_cons_zero, List.set_cons_succ]
                        refine wpAnyH_take (i := 10) (v := ?_) rfl (by kernel_rfl) (by kernel_rfl) (by kernel_rfl) (fun _ _ _ h => h) (Or.inl ⟨by rfl, ?_⟩) (by first | assumption | trivial) ?_
                        rotate_left
                        · intro w hSw; go_simp; (try with_reducible rfl)
                        change wpAnyH _ _ _ _ _ _ _ (Act.put _ (some 151) _) _; simp only [Act.put, List.setIfInBounds_toArray, List.set_cons_zero, List.set_cons_succ]
                        refine wpAnyH_take (i := 11) (v := ?_) rfl (by kernel_rfl) (by kernel_rfl) (by kernel_rfl) (fun _ _ _ h => h) (Or.inl ⟨by rfl, ?_⟩) (by first | assumption | trivial) ?_
                        rotate_left
                        · intro w hSw; go_simp; (try with_reducible rfl)
                        change wpAnyH _ _ _ _ _ _ _ (Act.put _ (some 152) _) _; simp only [Act.put, List.setIfInBounds_toArray, List.set_cons_zero, List.set_cons_succ]
                        refine wpAnyH_take (i := 12) (v := ?_) rfl (by kernel_rfl) (by kernel_rfl) (by kernel_rfl) (fun _ _ _ h => h) (Or.inl ⟨by rfl, ?_⟩) (by first | assumption | trivial) ?_
                        rotate_left
                        · intro w hSw; go_simp; (try with_reducible rfl)
                        change wpAnyH _ _ _ _ _ _ _ (Act.put _ (some 153) _) _; simp only [Act.put, List.setIfInBounds_toArray, List.set_cons_zero, List.set_cons_succ]
                        refine wpAnyH_take (i := 13) (v := ?_) rfl (by kernel_rfl) (by kernel_rfl) (by kernel_rfl) (fun _ _ _ h => h) (Or.inl ⟨by rfl, ?_⟩) (by first | assumption | trivial) ?_
                        rotate_left
                        · intro w hSw; go_simp; (try with_reducible rfl)
                        change wpAnyH _ _ _ _ _ _ _ (Act.put _ (some 154) _) _; simp only [Act.put, List.setIfInBounds_toArray, List.set_cons_zero, List.set_cons_succ]
                        refine wpAnyH_take (i := 14) (v := ?_) rfl (by kernel_rfl) (by kernel_rfl) (by kernel_rfl) (fun _ _ _ h => h) (Or.inl ⟨by rfl, ?_⟩) (by first | assumption | trivial) ?_
                        rotate_left
                        · intro w hSw; go_simp; (try with_reducible rfl)
                        change wpAnyH _ _ _ _ _ _ _ (Act.put _ (some 155) _) _; simp only [Act.put, List.setIfInBounds_toArray, List.set_cons_zero, List.set_cons_succ]
                        refine wpAnyH_take (i := 15) (v := ?_) rfl (by kernel_rfl) (by kernel_rfl) (by kernel_rfl) (fun _ _ _ h => h) (Or.inl ⟨by rfl, ?_⟩) (by first | assumption | trivial) ?_
                        rotate_left
                        · intro w hSw; go_simp; (try with_reducible rfl)
                        change wpAnyH _ _ _ _ _ _ _ (Act.put _ (some 156) _) _; simp only [Act.put, List.setIfInBounds_toArray, List.set_cons_zero, List.set_cons_succ]
                        refine wpAnyH_take (i := 16) (v := ?_) rfl (by kernel_rfl) (by kernel_rfl) (by kernel_rfl) (fun _ _ _ h => h) (Or.inl ⟨by rfl, ?_⟩) (by first | assumption | trivial) ?_
                        rotate_left
                        · intro w hSw; go_simp; (try with_reducible rfl)
                        change wpAnyH _ _ _ _ _ _ _ (Act.put _ (some 157) _) _; simp only [Act.put, List.setIfInBounds_toArray, List.set_cons_zero, List.set_cons_succ]
                        refine wpAnyH_take (i := 17) (v := ?_) rfl (by kernel_rfl) (by kernel_rfl) (by kernel_rfl) (fun _ _ _ h => h) (Or.inl ⟨by rfl, ?_⟩) (by first | assumption | trivial) ?_
                        rotate_left
                        · intro w hSw; go_simp; (try with_reducible rfl)
                        change wpAnyH _ _ _ _ _ _ _ (Act.put _ (some 158) _) _; simp only [Act.put, List.setIfInBounds_toArray, List.set_cons_zero, List.set_cons_succ]
                        refine wpAnyH_take (i := 18) (v := ?_) rfl (by kernel_rfl) (by kernel_rfl) (by kernel_rfl) (fun _ _ _ h => h) (Or.inl ⟨by rfl, ?_⟩) (by first | assumption | trivial) ?_
                        rotate_left
                        · intro w hSw; go_simp; (try with_reducible rfl)
                        change wpAnyH _ _ _ _ _ _ _ (Act.put _ (some 159) _) _; simp only [Act.put, List.setIfInBounds_toArray, List.set_cons_zero, List.set_cons_succ]
                        refine wpAnyH_take (i := 19) (v := ?_) rfl (by kernel_rfl) (by kernel_rfl) (by kernel_rfl) (fun _ _ _ h => h) (Or.inl ⟨by rfl, ?_⟩) (by first | assumption | trivial) ?_
                        rotate_left
                        · intro w hSw; go_simp; (try with_reducible rfl)
                        change wpAnyH _ _ _ _ _ _ _ (Act.put _ (some 160) _) _; simp only [Act.put, List.setIfInBounds_toArray, List.set_cons_zero, List.set_cons_succ]
                        refine wpAnyH_take (i := 20) (v := ?_) rfl (by kernel_rfl) (by kernel_rfl) (by kernel_rfl) (fun _ _ _ h => h) (Or.inl ⟨by rfl, ?_⟩) (by first | assumption | trivial) ?_
                        rotate_left
                        · intro w hSw; go_simp; (try with_reducible rfl)
                        change wpAnyH _ _ _ _ _ _ _ (Act.put _ (some 161) _) _; simp only [Act.put, List.setIfInBounds_toArray, List.set_cons_zero, List.set_cons_succ]
                        refine wpAnyH_take (i := 21) (v := ?_) rfl (by kernel_rfl) (by kernel_rfl) (by kernel_rfl) (fun _ _ _ h => h) (Or.inl ⟨by rfl, ?_⟩) (by first | assumption | trivial) ?_
                        rotate_left
                        · intro w hSw; go_simp; (try with_reducible rfl)
                        change wpAnyH _ _ _ _ _ _ _ (Act.put _ (some 162) _) _; simp only [Act.put, List.setIfInBounds_toArray, List.set_cons_zero, List.set_cons_succ]
                        refine wpAnyH_take (i := 22) (v := ?_) rfl (by kernel_rfl) (by kernel_rfl) (by kernel_rfl) (fun _ _ _ h => h) (Or.inl ⟨by rfl, ?_⟩) (by first | assumption | trivial) ?_
                        rotate_left
                        · intro w hSw; go_simp; (try with_reducible rfl)
                        change wpAnyH _ _ _ _ _ _ _ (Act.put _ (some 163) _) _; simp only [Act.put, List.setIfInBounds_toArray, List.set_cons_zero, List.set_cons_succ]
                        refine wpAnyH_take (i := 23) (v := ?_) rfl (by kernel_rfl) (by kernel_rfl) (by kernel_rfl) (fun _ _ _ h => h) (Or.inl ⟨by rfl, ?_⟩) (by first | assumption | trivial) ?_
                        rotate_left
                        · intro w hSw; go_simp; (try with_reducible rfl)
                        change wpAnyH _ _ _ _ _ _ _ (Act.put _ (some 164) _) _; simp only [Act.put, List.setIfInBounds_toArray, List.set_cons_zero, List.set_cons_succ]
                        refine wpAnyH_take (i := 24) (v := ?_) rfl (by kernel_rfl) (by kernel_rfl) (by kernel_rfl) (fun _ _ _ h => h) (Or.inl ⟨by rfl, ?_⟩) (by first | assumption | trivial) ?_
                        rotate_left
                        · intro w hSw; go_simp; (try with_reducible rfl)
                        change wpAnyH _ _ _ _ _ _ _ (Act.put _ (some 165) _) _; simp only [Act.put, List.setIfInBounds_toArray, List.set_cons_zero, List.set_cons_succ]
                        refine wpAnyH_take (i := 25) (v := ?_) rfl (by kernel_rfl) (by kernel_rfl) (by kernel_rfl) (fun _ _ _ h => h) (Or.inl ⟨by rfl, ?_⟩) (by first | assumption | trivial) ?_
                        rotate_left
                        · intro w hSw; go_simp; (try with_reducible rfl)
                        change wpAnyH _ _ _ _ _ _ _ (Act.put _ (some 166) _) _; simp only [Act.put, List.setIfInBounds_toArray, List.set_cons_zero, List.set_cons_succ]
                        refine wpAnyH_take (i := 26) (v := ?_) rfl (by kernel_rfl) (by kernel_rfl) (by kernel_rfl) (fun _ _ _ h => h) (Or.inl ⟨by rfl, ?_⟩) (by first | assumption | trivial) ?_
                        rotate_left
                        · intro w hSw; go_simp; (try with_reducible rfl)
                        change wpAnyH _ _ _ _ _ _ _ (Act.put _ (some 167) _) _; simp only [Act.put, List.setIfInBounds_toArray, List.set_cons_zero, List.set_cons_succ]
                        refine wpAnyH_take (i := 27) (v := ?_) rfl (by kernel_rfl) (by kernel_rfl) (by kernel_rfl) (fun _ _ _ h => h) (Or.inl ⟨by rfl, ?_⟩) (by first | assumption | trivial) ?_
                        rotate_left
                        · intro w hSw; go_simp; (try with_reducible rfl)
                        change wpAnyH _ _ _ _ _ _ _ (Act.put _ (some 168) _) _; simp only [Act.put, List.setIfInBounds_toArray, List.set_cons_zero, List.set_cons_succ]
                        refine wpAnyH_take (i := 28) (v := ?_) rfl (by kernel_rfl) (by kernel_rfl) (by kernel_rfl) (fun _ _ _ h => h) (Or.inl ⟨by rfl, ?_⟩) (by first | assumption | trivial) ?_
                        rotate_left
                        · intro w hSw; go_simp; (try with_reducible rfl)
                        change wpAnyH _ _ _ _ _ _ _ (Act.put _ (some 169) _) _; simp only [Act.put, List.setIfInBounds_toArray, List.set_cons_zero, List.set_cons_succ]
                        refine wpAnyH_take (i := 29) (v := ?_) rfl (by kernel_rfl) (by kernel_rfl) (by kernel_rfl) (fun _ _ _ h => h) (Or.inl ⟨by rfl, ?_⟩) (by first | assumption | trivial) ?_
                        rotate_left
                        · intro w hSw; go_simp; (try with_reducible rfl)
                        change wpAnyH _ _ _ _ _ _ _ (Act.put _ (some 170) _) _; simp only [Act.put, List.setIfInBounds_toArray, List.set_cons_zero, List.set_cons_succ]
                        refine wpAnyH_take (i := 30) (v := ?_) rfl (by kernel_rfl) (by kernel_rfl) (by kernel_rfl) (fun _ _ _ h => h) (Or.inl ⟨by rfl, ?_⟩) (by first | assumption | trivial) ?_
                        rotate_left
                        · intro w hSw; go_simp; (try with_reducible rfl)
                        change wpAnyH _ _ _ _ _ _ _ (Act.put _ (some 171) _) _; simp only [Act.put, List.setIfInBounds_toArray, List.set_cons_zero, List.set_cons_succ]
                        refine wpAnyH_take (i := 31) (v := ?_) rfl (by kernel_rfl) (by kernel_rfl) (by kernel_rfl) (fun _ _ _ h => h) (Or.inl ⟨by rfl, ?_⟩) (by first | assumption | trivial) ?_
                        rotate_left
                        · intro w hSw; go_simp; (try with_reducible rfl)
                        change wpAnyH _ _ _ _ _ _ _ (Act.put _ (some 172) _) _; simp only [Act.put, List.setIfInBounds_toArray, List.set_cons_zero, List.set_cons_succ]
                        refine wpAnyH_take (i := 32) (v := ?_) rfl (by kernel_rfl) (by kernel_rfl) (by kernel_rfl) (fun _ _ _ h => h) (Or.inl ⟨by rfl, ?_⟩) (by first | assumption | trivial) ?_
                        rotate_left
                        · intro w hSw; go_simp; (try with_reducible rfl)
                        change wpAnyH _ _ _ _ _ _ _ (Act.put _ (some 173) _) _; simp only [Act.put, List.setIfInBounds_toArray, List.set_cons_zero, List.set_cons_succ]
                        refine wpAnyH_take (i := 33) (v := ?_) rfl (by kernel_rfl) (by kernel_rfl) (by kernel_rfl) (fun _ _ _ h => h) (Or.inl ⟨by rfl, ?_⟩) (by first | assumption | trivial) ?_
                        rotate_left
                        · intro w hSw; go_simp; (try with_reducible rfl)
                        change wpAnyH _ _ _ _ _ _ _ (Act.put _ (some 174) _) _; simp only [Act.put, List.setIfInBounds_toArray, List.set_cons_zero, List.set_cons_succ]
                        refine wpAnyH_done (by kernel_rfl) ?_ _
                        clear hHeld
                        go_wp2_with fail
                        go_roundw
                        case rel => exact ⟨i + 1, by go_num, by omega, HND⟩
                        case measure => simp [intOf]; omega
                    · have d1 : decide ((i : Int) < (N : Int)) = false := decide_eq_false (by omega)
                      obtain ⟨⟨t0, t1, t2, t3⟩, t4, t5, t6⟩ := HR.out wr HB.out
                      have hBw : Below w.heap.size w wr := HX11.out.2.1.trans (HB.out.mono HX11.out.2.1.size)
                      have cL := load_sep _ _ _ S wr (HX11.out.2.2.1.below HB.out (Nat.le_refl _)) HX8.out.2.2.2.1.ok (fun x hx => by have := (HX8.out.2.2.2.1.bx x hx).len; omega) (HE.out.1.below hBw).1 (HE.out.2.1.below hBw HE.out.2.1.lt)
                      rw [HX8.out.2.2.2.2.1] at cL
                      have HX12 : Hid (Hst w.heap.size (H1 + 1) H1 l' nx Ws C' wv wr ∧ Below w.heap.size w wr) := ⟨HX11.out.1.below HB.out, hBw⟩
                      clear hBw HB
                      go_wp2_with fail
                      refine cL.mono ?_
                      rintro e w16 ⟨⟨hb2, mb2, wvg, lg, Cg, rfl, hg, hSg, hs1, hs2⟩, hb16⟩
                      have hst16 := HX12.out.1.below hb16
                      have hB16 : Below w.heap.size w w16 := HX12.out.2.trans (hb16.mono HX12.out.2.size)
                      have hTi : m.data.toList ≠ inboxN := fun e0 => by
                        have h1 := HX9.out.2.2.2.2.1.noT
                        rw [e0, HXm.out.2.1.inbox] at h1
                        cases h1
                      have hnz := HXm.out.2.2.2.2.2.2.2.1
                      have hmz := HXm.out.2.2.2.2.2.2.2.2
                      have cM := mv_back w.heap.size (H1 + 1) H1 (len + 1) l l' nx Ws C' wv m n n.data.toList m.data.toList w16 (HE.out.1.below hB16).1 (Nat.le_trans HE.out.1.2.2 hB16.size) hst16 HX9.out.2.1 HX9.out.2.2.2.2.1 (by omega) (by omega) (by omega) (nameB_idem HXm.out.2.2.2.2.2.1) (nameB_idem HXm.out.2.2.2.2.1) hTi
                      have hl1 := HX12.out.1.hse.hs.lt
                      have hl2 := HX12.out.1.hse.hs.2.lt
                      have HX16 : Hid (Hst w.heap.size (H1 + 1) H1 l' nx Ws C' wv w16 ∧ Below w.heap.size w w16 ∧ Hse w16 hb2 mb2 lg nx wvg S.wants Cg ∧ svOf lg S.wants nx Cg = S ∧ hb2 ≠ H1 + 1 ∧ hb2 ≠ H1 ∧ mb2 ≠ H1 + 1 ∧ mb2 ≠ H1) := ⟨hst16, hB16, hg, hSg, by omega, by omega, by omega, by omega⟩
                      clear cL hb16 hst16 hB16 hg hSg hs1 hs2 hl1 hl2 t0 t1 t2 t3 t4 t5 t6
                      go_wp2_with fail
                      refine cM.mono ?_
                      rintro e w17 ⟨rfl, hk17, hlow17, C2, hC2, hst17⟩
                      have hB17 : Below w.heap.size w w17 := HX16.out.2.1.trans hlow17
                      have hsv17 : svOf l Ws nx C2 = S := by
                        rw [← HX8.out.2.2.2.2.2.1]
                        unfold svOf
                        congr 1
                        refine List.map_congr_left fun p hp => ?_
                        rw [hC2 _ (HX9.out.2.2.2.2.1.at (s := p.1) (c := p.2) hp)]
                        exact HX9.out.2.2.2.2.2.1 p hp
                      have cA1 := all_is len (H1 + 1) H1 l nx wv Ws C2 w17 hst17.hse (by rw [hsv17]; exact HX8.out.2.2.2.1) (by omega) (HE.out.2.2.below hB17)
                      rw [hsv17] at cA1
                      have hg17 : Hse w17 hb2 mb2 lg nx wvg S.wants Cg := by
                        have h1 := HX16.out.1
                        obtain ⟨aw, cw, ew⟩ := h1.form
                        have h2 := h1.hse.hs
                        rw [ew] at h2
                        exact HX16.out.2.2.1.hk h2 hk17 HX16.out.2.2.2.2.1 HX16.out.2.2.2.2.2.1 HX16.out.2.2.2.2.2.2.1 HX16.out.2.2.2.2.2.2.2
                      have HX17 : Hid (Below w.heap.size w w17 ∧ Hse w17 hb2 mb2 lg nx wvg S.wants Cg) := ⟨hB17, hg17⟩
                      clear cM hk17 hlow17 hC2 hst17 hB17 hsv17 hg17
                      go_wp2_with fail
                      refine cA1.mono ?_
                      rintro e w18 ⟨⟨th, rfl, hth⟩, hb18⟩
                      have hB18 : Below w.heap.size w w18 := HX17.out.1.trans (hb18.mono HX17.out.1.size)
                      have cA2 := all_is len hb2 mb2 lg nx wvg S.wants Cg w18 (HX17.out.2.below hb18) (by rw [HX16.out.2.2.2.1]; exact HX8.out.2.2.2.1) (by omega) (HE.out.2.2.below hB18)
                      rw [HX16.out.2.2.2.1] at cA2
                      have HB18 : Hid (Below w.heap.size w w18) := hB18
                      clear cA1 hb18 hB18
                      go_wp2_with fail
                      refine cA2.mono ?_
                      rintro e w19 ⟨⟨tg, rfl, htg⟩, hb19⟩
                      obtain rfl : tg = th := by rw [ba_list htg, ba_list hth]
                      have HF : Hid (Below w.heap.size w w19) := HB18.out.trans (hb19.mono HB18.out.size)
                      clear cA2 hb19 htg hth
                      go_wp2_with fail
                      go_ret
                      exact ⟨by simp, HF.out⟩
              · have HF : Hid (Below w.heap.size w w5) := HX4.out.2.2.1.trans (hb5.mono HX4.out.2.2.1.size)
                clear cG hb5
                go_wp2_with fail
                go_ret
                exact ⟨rfl, HF.out⟩
        · have HF : Hid (Below w.heap.size w w4) := HX3.out.2.2.1.trans (hb4.mono HX3.out.2.2.1.size)
          clear cB hb4
          go_wp2_with fail
          go_ret
          exact ⟨rfl, HF.out⟩
      · have hB3 : Below w.heap.size w w3 := HX1.out.2.2.trans (hb3.mono HX1.out.2.2.size)
        have cB := name_is b w3 (HE.out.1.below hB3).1 (by omega)
        have HB3 : Hid (Below w.heap.size w w3) := hB3
        clear cA hb3 hB3
        go_wp2_with fail
        refine cB.mono ?_
        rintro e w4 ⟨hb4, ⟨m, hm, hm2, rfl⟩ | ⟨hm, rfl⟩⟩
        · have HF : Hid (Below w.heap.size w w4) := HB3.out.trans (hb4.mono HB3.out.size)
          clear cB hb4
          go_wp2_with fail
          go_ret
          exact ⟨rfl, HF.out⟩
        · have HF : Hid (Below w.heap.size w w4) := HB3.out.trans (hb4.mono HB3.out.size)
          clear cB hb4
          go_wp2_with fail
          go_ret
          exact ⟨rfl, HF.out⟩
end Go.Proofs.YtfdlopimncodcaaGreatDoor
