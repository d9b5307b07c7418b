/-
  What HousePlays does.
-/
import Derived.Test.YtfdlopimncodcaaGreatDoorBpHsLoad
namespace Go.Proofs.YtfdlopimncodcaaGreatDoor
open Go.RowKit Go.Proofs.Aid Go.Proofs.Bx
set_option maxHeartbeats 16000000
set_option maxRecDepth 100000
def PEnv (w : World) : Prop := NEnv w ∧ ErrType w ∧ SysAt w
theorem PEnv.below {w w' : World} (h : PEnv w) (hb : Below w.heap.size w w') : PEnv w' := ⟨h.1.below hb, h.2.1.below hb, h.2.2.below hb h.2.2.lt⟩
theorem Two.asks {H K hb rb : Nat} {w : World} (h : Two H K hb rb w) (hK : K ≤ 90) : ∃ L S, Asks hb rb w L S := by
 obtain ⟨mb, rm, rq, l, l2, Wl, nx, W, C, C2, wv, t⟩ := h
 exact ⟨_, _, two_asks t hK⟩
theorem both_name (s : ByteArray) (w : World) (hE : NEnv w) (hs : s.size ≤ 1000) :
  Calls Tryz.prog 14 #[.string s] w fun e w1 => ∃ (n : ByteArray) (c : Int), e = .returned (.tuple #[.string n, .int .i64 c]) ∧ Below w.heap.size w w1 ∧
   Calls Tryz.prog 15 #[.string s] w1 fun e2 w2 => e2 = .returned (.tuple #[.string n, errV c]) ∧ Below w1.heap.size w1 w2 := by
 refine (rname_is s w hE hs).mono ?_
 rintro e w1 ⟨hb1, ⟨r, hr, _, rfl⟩ | ⟨hr, rfl⟩⟩
 ·refine ⟨r, 0, rfl, hb1, (name_is s w1 (hE.below hb1) hs).mono ?_⟩
  rintro e2 w2 ⟨hb2, ⟨r', hr', _, rfl⟩ | ⟨hr', _⟩⟩
  ·rw [hr] at hr'
   obtain rfl : r = r' := ba_eq (Option.some.inj hr')
   exact ⟨by rw [errV_zero], hb2⟩
  ·rw [hr] at hr'
   cases hr'
 ·refine ⟨⟨#[]⟩, 1, rfl, hb1, (name_is s w1 (hE.below hb1) hs).mono ?_⟩
  rintro e2 w2 ⟨hb2, ⟨r', hr', _⟩ | ⟨_, rfl⟩⟩
  ·rw [hr] at hr'
   cases hr'
  ·exact ⟨by rw [errV_ne (by decide)], hb2⟩
theorem hpl_big (fill : Int) (v : Value) (L : List Dd) (w : World) (h : Dds w v L) (hb : 50 < L.length) :
  Calls Tryz.prog 3 #[.int .i64 fill, v] w fun e w' => e = .returned (.bool true) ∧ Below w.heap.size w w' := by
 obtain ⟨a, c, rfl, _⟩ := h
 obtain ⟨len, hn⟩ : ∃ n, L.length = n := ⟨_, rfl⟩
 rw [hn] at hb ⊢
 have d0 : decide ((50 : Int) < (len : Int)) = true := decide_eq_true (by omega)
 clear hn hb
 go_enter Tryz.func3, Tryz.ntmps3
 go_wp2_with fail
 go_ret
 exact ⟨rfl, Below.refl _ _⟩
theorem hpl_walk (fill : Int) (v : Value) (L : List Dd) (w : World) (h : Dds w v L) (hE : PEnv w) (hL : L.length ≤ 50) :
  Calls Tryz.prog 3 #[.int .i64 fill, v] w fun e w' => e = .returned (.bool true) ∧ Below w.heap.size w w' := by
 obtain ⟨a0, c0, rfl, _⟩ := id h
 obtain ⟨len, hn⟩ : ∃ n, L.length = n := ⟨_, rfl⟩
 rw [hn] at hL ⊢
 have HD : Hid (Dds w (.slice a0 len c0) L ∧ L.length = len ∧ len ≤ 50) := ⟨by rw [← hn]; exact h, hn, hL⟩
 have HE : Hid (∀ W, Below w.heap.size w W → PEnv W) := fun W hW => hE.below hW
 have d0 : decide ((50 : Int) < (len : Int)) = false := decide_eq_false (by omega)
 have cN := new_is w
 obtain ⟨H1, hH1⟩ : ∃ k, w.heap.size = k := ⟨_, rfl⟩
 have HH1 : Hid (w.heap.size = H1) := hH1
 rw [hH1] at cN
 clear h hE hn hH1 hL
 go_enter Tryz.func3, Tryz.ntmps3
 go_wp2_with fail
 refine cN.mono ?_
 rintro e w2 ⟨rfl, h2, hn2, hb2⟩
 have cR := rnew_is w2
 have HX2 : Hid (HsAt w2 (H1 + 1) H1 [(inboxN, H1 + 2)] 2 (.slice none 0 0) ∧ NewBox w2 (H1 + 2) 1 ∧ Below w.heap.size w w2) := ⟨h2, hn2, by rw [HH1.out]; exact hb2⟩
 clear cN h2 hn2 hb2
 go_wp2_with fail
 refine cR.mono ?_
 rintro e w3 ⟨rb, rm, rq, bb, rfl, r1, r2, r3, r4, r5, r6, r7, r8, hb3⟩
 have HI3 : Hid (Two w.heap.size 0 (H1 + 1) rb w3 ∧ Below w.heap.size w w3) := ⟨two_new (Nat.le_of_eq HH1.out) HX2.out.1 HX2.out.2.1 r1 r2 r3 r4 r5 r6 r7 r8 hb3, HX2.out.2.2.trans (hb3.mono HX2.out.2.2.size)⟩
 clear cR r1 r2 r3 r4 r5 r6 r7 r8 hb3 HX2 HH1
 obtain ⟨hb0, hhb⟩ : ∃ n, H1 + 1 = n := ⟨_, rfl⟩
 rw [hhb] at HI3 ⊢
 clear hhb
 obtain ⟨F, hF, hF31⟩ : ∃ F : Nat, wrap64 ((IntKind.u64.wrap fill).tmod 32) = (F : Int) ∧ F ≤ 31 := by
  have h0 : 0 ≤ IntKind.u64.wrap fill := by
   simp only [IntKind.wrap, IntKind.bits, IntKind.signed]
   simp
   omega
  have h1 : (IntKind.u64.wrap fill).tmod 32 = IntKind.u64.wrap fill % 32 := Int.tmod_eq_emod_of_nonneg h0
  have h2 : wrap64 ((IntKind.u64.wrap fill).tmod 32) = IntKind.u64.wrap fill % 32 := by
   rw [h1]
   unfold wrap64
   omega
  refine ⟨(IntKind.u64.wrap fill % 32).toNat, ?_, ?_⟩
  ·rw [h2]; omega
  ·omega
 go_wp2_with fail
 go_loopw [7] (fun iv wr => ∃ i : Nat, iv = .int .i64 (i : Int) ∧ i ≤ F ∧ Hid (Two w.heap.size i hb0 rb wr ∧ Below w.heap.size w wr)) (fun iv _ => F - (intOf iv).toNat)
 case atStart => exact ⟨0, rfl, Nat.zero_le _, HI3⟩
 case round =>
  clear HI3
  obtain ⟨i, rfl, hi, HQ⟩ := hrel
  by_cases hlt : i < F
  ·have d1 : decide ((i : Int) < (F : Int)) = true := decide_eq_true (by omega)
   obtain ⟨c, hc⟩ : ∃ c : UInt8, (c.toNat : Int) = 97 + (i : Int) := ⟨UInt8.ofNat (97 + i), by simp; omega⟩
   have cZ := conv_z c (97 + (i : Int)) hc wr
   have w8 : IntKind.u8.wrap (97 + (i : Int)) = 97 + (i : Int) := by simp only [IntKind.wrap, IntKind.bits, IntKind.signed]; simp; omega
   have w6 : wrap64 (97 + (i : Int)) = 97 + (i : Int) := by unfold wrap64; omega
   obtain ⟨W1, hW1⟩ : ∃ W, wr.alloc (.cells #[.int .u8 (97 + (i : Int))] 5) = W := ⟨_, rfl⟩
   have b1 : Below wr.heap.size wr W1 := by rw [← hW1]; exact (Below.refl _ _).alloc (Nat.le_refl _) _
   rw [hW1] at cZ
   have hl1 : Below w.heap.size w W1 := HQ.out.2.trans (b1.mono HQ.out.2.size)
   have cD := deeds_is w.heap.size i hb0 rb 0 ((⟨#[102]⟩ : ByteArray) ++ ⟨#[c]⟩) ⟨#[]⟩ false W1 (HQ.out.1.below b1) (fun W hW => ⟨(HE.out W (hl1.trans hW)).1, (HE.out W (hl1.trans hW)).2.1⟩) (by omega) (by rw [back_size]; decide) (by decide)
   have HL1 : Hid (Below w.heap.size w W1) := hl1
   clear b1 hl1 HQ hc
   go_wp2_with fail
   refine cD.mono ?_
   rintro e w5 ⟨rfl, hb5, _, hT5⟩
   have HN : Hid (Two w.heap.size (i + 1) hb0 rb w5 ∧ Below w.heap.size w w5) := ⟨hT5, HL1.out.trans hb5⟩
   clear cD cZ hb5 hT5
   go_wp2_with fail
   go_roundw
   case rel => exact ⟨i + 1, by go_num, by omega, HN⟩
   case measure => simp [intOf]; omega
  ·have d1 : decide ((i : Int) < (F : Int)) = false := decide_eq_false (by omega)
   have HI4 : Hid (Two w.heap.size (31 + 0) hb0 rb wr ∧ Below w.heap.size w wr) := ⟨HQ.out.1.more (by omega), HQ.out.2⟩
   clear HQ
   go_wp2_with fail
   clear hF hF31 hlt d1
   go_loopw [5, 8] (fun hv iv wr => ∃ hb k : Nat, hv = .pointer (some ⟨hb, 0, none⟩) ∧ iv = .int .i64 (k : Int) ∧ k ≤ len ∧ Hid (Two w.heap.size (31 + k) hb rb wr ∧ Below w.heap.size w wr)) (fun _ iv _ => len - (intOf iv).toNat)
   case atStart => exact ⟨hb0, 0, rfl, rfl, Nat.zero_le _, HI4⟩
   case round =>
    clear HI4
    obtain ⟨hb, k, rfl, rfl, hk, HQ⟩ := hrel
    have hk50 : len ≤ 50 := HD.out.2.2
    by_cases hlt : k < len
    ·have q1 : decide ((k : Int) < (len : Int)) = true := decide_eq_true (by omega)
     have i1 : (0 : Int) ≤ (k : Int) := by omega
     have i2 : (k : Int) < (len : Int) := by omega
     obtain ⟨x, hxk⟩ : ∃ x, L[k]? = some x := ⟨_, List.getElem?_eq_getElem (by have := HD.out.2.1; omega)⟩
     obtain ⟨xb, xo, rfl, x0, x1, x2, x3⟩ := dds_at (HD.out.1.below HQ.out.2 (Nat.le_refl _)) hxk
     obtain ⟨xw, xs, xt, xy⟩ := x
     have x0 : wr.cell? ⟨xb, xo + k * 4, none⟩ = some (.int .i64 xw) := x0
     have x1 : wr.cell? ⟨xb, xo + k * 4 + 1, none⟩ = some (.string xs) := x1
     have x2 : wr.cell? ⟨xb, xo + k * 4 + 2, none⟩ = some (.string xt) := x2
     have x3 : wr.cell? ⟨xb, xo + k * 4 + 3, none⟩ = some (.bool xy) := x3
     obtain ⟨W1, hW1⟩ : ∃ W, wr.alloc (.cells #[.int .i64 0, .string ⟨#[]⟩, .string ⟨#[]⟩, .bool false] 31) = W := ⟨_, rfl⟩
     have b1 : Below wr.heap.size wr W1 := by rw [← hW1]; exact (Below.refl _ _).alloc (Nat.le_refl _) _
     have e1 : W1.heap[wr.heap.size]? = some (.cells #[.int .i64 0, .string ⟨#[]⟩, .string ⟨#[]⟩, .bool false] 31 (0, 0)) := by rw [← hW1]; exact heap_alloc_new _ _
     obtain ⟨⟨o0, o1, o2, o3⟩, ⟨f0, f1, f2, f3⟩, u⟩ := four_facts e1 (.int .i64 xw) (.string xs) (.string xt) (.bool xy)
     have hbut : But wr.heap.size wr.heap.size wr ((((W1.setCell ⟨wr.heap.size, 0, none⟩ (.int .i64 xw)).setCell ⟨wr.heap.size, 1, none⟩ (.string xs)).setCell ⟨wr.heap.size, 2, none⟩ (.string xt)).setCell ⟨wr.heap.size, 3, none⟩ (.bool xy)) := ((((to_but b1).setB 0 (.int .i64 xw)).setB 1 (.string xs)).setB 2 (.string xt)).setB 3 (.bool xy)
     have hbb := hbut.below (Nat.le_refl _) (Nat.le_refl _)
     have HF : Hid (Two w.heap.size (31 + k) hb rb ((((W1.setCell ⟨wr.heap.size, 0, none⟩ (.int .i64 xw)).setCell ⟨wr.heap.size, 1, none⟩ (.string xs)).setCell ⟨wr.heap.size, 2, none⟩ (.string xt)).setCell ⟨wr.heap.size, 3, none⟩ (.bool xy)) ∧ Below w.heap.size w ((((W1.setCell ⟨wr.heap.size, 0, none⟩ (.int .i64 xw)).setCell ⟨wr.heap.size, 1, none⟩ (.string xs)).setCell ⟨wr.heap.size, 2, none⟩ (.string xt)).setCell ⟨wr.heap.size, 3, none⟩ (.bool xy)) ∧ ((((W1.setCell ⟨wr.heap.size, 0, none⟩ (.int .i64 xw)).setCell ⟨wr.heap.size, 1, none⟩ (.string xs)).setCell ⟨wr.heap.size, 2, none⟩ (.string xt)).setCell ⟨wr.heap.size, 3, none⟩ (.bool xy)).heap[wr.heap.size]? = some (.cells #[.int .i64 xw, .string xs, .string xt, .bool xy] 31 (0, 0))) := ⟨HQ.out.1.below hbb, HQ.out.2.trans (hbb.mono HQ.out.2.size), u⟩
     clear b1 e1 u hbut hbb hxk HQ
     go_upto_region 14 with fail
     go_cut [9] (fun sv wx => ∃ XB, sv = .pointer (some ⟨XB, 0, none⟩) ∧ Hid (Two w.heap.size (31 + k) hb rb wx ∧ Below w.heap.size w wx ∧ wx.heap[XB]? = some (.cells #[.int .i64 xw, .string xs, .string xt, .bool xy] 31 (0, 0))))
     case first =>
      go_wp2_with fail
      go_meet
      exact ⟨_, rfl, HF⟩
     case rest =>
      obtain ⟨XB, rfl, HX⟩ := hcut
      clear HF x0 x1 x2 x3 o0 o1 o2 o3 f0 f1 f2 f3 hW1 W1
      have n0 : wc.cell? ⟨XB, 0, none⟩ = some (.int .i64 xw) := rd_cell HX.out.2.2 rfl
      have n1 : wc.cell? ⟨XB, 1, none⟩ = some (.string xs) := rd_cell HX.out.2.2 rfl
      have n2 : wc.cell? ⟨XB, 2, none⟩ = some (.string xt) := rd_cell HX.out.2.2 rfl
      have n3 : wc.cell? ⟨XB, 3, none⟩ = some (.bool xy) := rd_cell HX.out.2.2 rfl
      have HNX : Hid (Two w.heap.size (31 + (k + 1)) hb rb wc ∧ Below w.heap.size w wc) := ⟨HX.out.1.more (by omega), HX.out.2.1⟩
      by_cases hsz : 100 < xs.size
      ·have g1 : decide ((100 : Int) < (xs.size : Int)) = true := decide_eq_true (by omega)
       clear HX
       go_wp2_with fail
       go_roundw
       case rel => exact ⟨hb, k + 1, rfl, by go_num, by omega, HNX⟩
       case measure => simp [intOf]; omega
      have g1 : decide ((100 : Int) < (xs.size : Int)) = false := decide_eq_false (by omega)
      by_cases htz : 100 < xt.size
      ·have g2 : decide ((100 : Int) < (xt.size : Int)) = true := decide_eq_true (by omega)
       clear HX
       go_wp2_with fail
       go_roundw
       case rel => exact ⟨hb, k + 1, rfl, by go_num, by omega, HNX⟩
       case measure => simp [intOf]; omega
      have g2 : decide ((100 : Int) < (xt.size : Int)) = false := decide_eq_false (by omega)
      clear HNX
      obtain ⟨T6, hT6⟩ : ∃ b, (xw == 6) = b := ⟨_, rfl⟩
      go_upto_if 65 with fail
      go_cut [5] (fun hv wx => ∃ hb, hv = .pointer (some ⟨hb, 0, none⟩) ∧ Hid (Two w.heap.size (31 + (k + 1)) hb rb wx ∧ Below w.heap.size w wx ∧ wx.heap[XB]? = some (.cells #[.int .i64 xw, .string xs, .string xt, .bool xy] 31 (0, 0))))
      case first =>
       cases T6 with
       | false =>
        have cD := deeds_is w.heap.size (31 + k) hb rb xw xs xt xy wc HX.out.1 (fun W hW => ⟨(HE.out W (HX.out.2.1.trans hW)).1, (HE.out W (HX.out.2.1.trans hW)).2.1⟩) (by omega) (by omega) (by omega)
        go_wp2_with fail
        refine cD.mono ?_
        rintro e w5 ⟨rfl, hb5, hk5, hT5⟩
        have HN : Hid (Two w.heap.size (31 + (k + 1)) hb rb w5 ∧ Below w.heap.size w w5 ∧ w5.heap[XB]? = some (.cells #[.int .i64 xw, .string xs, .string xt, .bool xy] 31 (0, 0))) := ⟨hT5, HX.out.2.1.trans hb5, hk5 _ _ _ _ HX.out.2.2 (by decide) (by decide) (by decide) (by decide) (by decide)⟩
        clear cD hb5 hk5 hT5
        go_wp2_with fail
        go_meet
        exact ⟨_, rfl, HN⟩
       | true =>
        obtain ⟨mb, rm, rq, l, l2, Wl, nx, Ws, C, C2, wv, t⟩ := HX.out.1
        have HT : Hid (TwoAt w.heap.size (31 + k) hb mb rb rm rq l l2 Wl nx Ws C C2 wv wc) := t
        have cS := save_is hb mb l nx wv Ws C wc t.p.st.hse (t.p.hi.sml (by omega))
        clear t
        go_upto_region 17 with fail
        go_cut [10] (fun sv wx => ∃ sb nv bv wv1, sv = .pointer (some ⟨sb, 0, none⟩) ∧ Hid (Below wc.heap.size wc wx ∧ wx.heap[sb]? = some (.cells #[nv, bv, wv1, .int .i64 nx] 35 (0, 0)) ∧ SvAt wx nv bv wv1 (svOf l Ws nx C)))
        case first =>
         go_wp2_with fail
         refine cS.mono ?_
         rintro e w3 ⟨⟨nv, bv, wv1, rfl, hsv⟩, hb3⟩
         obtain ⟨na, nl, nc, rfl⟩ : ∃ a n c, nv = .slice a n c := by obtain ⟨a, c, e, _⟩ := hsv.1; exact ⟨a, _, c, e⟩
         obtain ⟨ba, bl, bc, rfl⟩ : ∃ a n c, bv = .slice a n c := by obtain ⟨a, c, e, _⟩ := hsv.2.1; exact ⟨a, _, c, e⟩
         obtain ⟨va, vl, vc, rfl⟩ : ∃ a n c, wv1 = .slice a n c := by obtain ⟨a, c, e, _⟩ := hsv.2.2; exact ⟨a, _, c, e⟩
         obtain ⟨W4, hW4⟩ : ∃ W, w3.alloc (.cells #[.slice none 0 0, .slice none 0 0, .slice none 0 0, .int .i64 0] 35) = W := ⟨_, rfl⟩
         have b4 : Below w3.heap.size w3 W4 := by rw [← hW4]; exact (Below.refl _ _).alloc (Nat.le_refl _) _
         have e4 : W4.heap[w3.heap.size]? = some (.cells #[.slice none 0 0, .slice none 0 0, .slice none 0 0, .int .i64 0] 35 (0, 0)) := by rw [← hW4]; exact heap_alloc_new _ _
         obtain ⟨⟨o0, o1, o2, o3⟩, ⟨f0, f1, f2, f3⟩, u⟩ := four_facts e4 (.slice na nl nc) (.slice ba bl bc) (.slice va vl vc) (.int .i64 nx)
         have hbut : But w3.heap.size w3.heap.size w3 ((((W4.setCell ⟨w3.heap.size, 0, none⟩ (.slice na nl nc)).setCell ⟨w3.heap.size, 1, none⟩ (.slice ba bl bc)).setCell ⟨w3.heap.size, 2, none⟩ (.slice va vl vc)).setCell ⟨w3.heap.size, 3, none⟩ (.int .i64 nx)) := ((((to_but b4).setB 0 (.slice na nl nc)).setB 1 (.slice ba bl bc)).setB 2 (.slice va vl vc)).setB 3 (.int .i64 nx)
         have hbb := hbut.below (Nat.le_refl _) (Nat.le_refl _)
         have HF : Hid (Below wc.heap.size wc ((((W4.setCell ⟨w3.heap.size, 0, none⟩ (.slice na nl nc)).setCell ⟨w3.heap.size, 1, none⟩ (.slice ba bl bc)).setCell ⟨w3.heap.size, 2, none⟩ (.slice va vl vc)).setCell ⟨w3.heap.size, 3, none⟩ (.int .i64 nx)) ∧ _ ∧ _) := ⟨hb3.trans (hbb.mono hb3.size), u, hsv.below hbb (Nat.le_refl _)⟩
         clear cS hsv hb3 b4 e4 u hbut hbb
         go_wp2_with fail
         go_meet
         exact ⟨_, _, _, _, rfl, HF⟩
        case rest =>
         obtain ⟨sb, nv, bv, wv1, rfl, HS⟩ := hcut
         have s0 : wc.cell? ⟨sb, 0, none⟩ = some nv := rd_cell HS.out.2.1 rfl
         have s1 : wc.cell? ⟨sb, 1, none⟩ = some bv := rd_cell HS.out.2.1 rfl
         have s2 : wc.cell? ⟨sb, 2, none⟩ = some wv1 := rd_cell HS.out.2.1 rfl
         have s3 : wc.cell? ⟨sb, 3, none⟩ = some (.int .i64 nx) := rd_cell HS.out.2.1 rfl
         have hsb := (Array.getElem?_eq_some_iff.1 HS.out.2.1).1
         have hEy := HE.out wc (HX.out.2.1.trans (HS.out.1.mono HX.out.2.1.size))
         have hok := HT.out.p.hi.svOk (by omega)
         have cL := load_w nv bv wv1 (svOf l Ws nx C) wc HS.out.2.2 hok (fun x hx => by have := (svOk_len HT.out.p.hi x hx).1; omega) hEy.1 hEy.2.2
         have cL : Calls Tryz.prog 12 #[.agg #[nv, bv, wv1, .int .i64 nx]] wc _ := cL
         have HR : Hid (∀ W, Below wc.heap.size wc W → Calls Tryz.prog 13 #[.agg #[nv, bv, wv1, .int .i64 nx]] W fun e w' => e = .returned (.bool true) ∧ Below W.heap.size W w') := fun W hW => right_true nv bv wv1 (svOf l Ws nx C) W (HS.out.2.2.below hW (Nat.le_refl _)) hok (hEy.1.below hW) (hEy.2.2.below hW hEy.2.2.lt)
         clear hEy hok cS
         go_wp2_with fail
         refine cL.mono ?_
         rintro e w5 ⟨⟨hb', mb', wv', l', C', rfl, hse, hsv, z1, z2, z3, hrow, hown⟩, hb5⟩
         have e5 := (hb5.block _ hsb).trans HS.out.2.1
         have s0 : w5.cell? ⟨sb, 0, none⟩ = some nv := rd_cell e5 rfl
         have s1 : w5.cell? ⟨sb, 1, none⟩ = some bv := rd_cell e5 rfl
         have s2 : w5.cell? ⟨sb, 2, none⟩ = some wv1 := rd_cell e5 rfl
         have s3 : w5.cell? ⟨sb, 3, none⟩ = some (.int .i64 nx) := rd_cell e5 rfl
         have hT5 : Two w.heap.size (31 + k) hb' rb w5 := two_load (HT.out.below HS.out.1) hb5 hse hsv z1 z2 z3 hrow hown
         have cR := HR.out w5 hb5
         have hl5 := HS.out.1.trans (hb5.mono HS.out.1.size)
         have HV : Hid (Two w.heap.size (31 + k) hb' rb w5 ∧ _) := ⟨hT5, hl5⟩
         clear cL hse hsv z1 z2 z3 hrow hown hb5 e5 hT5 hl5
         go_wp2_with fail
         refine cR.mono ?_
         rintro e w6 ⟨rfl, hb6⟩
         have hl6 := HV.out.2.trans (hb6.mono HV.out.2.size)
         have HN : Hid (Two w.heap.size (31 + (k + 1)) hb' rb w6 ∧ Below w.heap.size w w6 ∧ w6.heap[XB]? = some (.cells #[.int .i64 xw, .string xs, .string xt, .bool xy] 31 (0, 0))) := ⟨(HV.out.1.below hb6).more (by omega), HX.out.2.1.trans (hl6.mono HX.out.2.1.size), (hl6.block _ (Array.getElem?_eq_some_iff.1 HX.out.2.2).1).trans HX.out.2.2⟩
         clear cR hb6 hl6
         go_wp2_with fail
         go_meet
         exact ⟨_, rfl, HN⟩
      case rest =>
       clear HX n0 n1 n2 n3
       obtain ⟨hb, rfl, HY⟩ := hcut
       have n1 : wc.cell? ⟨XB, 1, none⟩ = some (.string xs) := rd_cell HY.out.2.2 rfl
       have hXB := (Array.getElem?_eq_some_iff.1 HY.out.2.2).1
       have HXR : Hid (∀ W, Below wc.heap.size wc W → W.cell? ⟨XB, 1, none⟩ = some (.string xs) ∧ W.cell? ⟨XB, 2, none⟩ = some (.string xt)) := fun W hW => by
        have g := (hW.block _ hXB).trans HY.out.2.2
        exact ⟨rd_cell g rfl, rd_cell g rfl⟩
       obtain ⟨LN, SS, hAS⟩ := HY.out.1.asks (by omega)
       have AS : Hid (Asks hb rb wc LN SS) := hAS
       have hE5 : ∀ W, Below wc.heap.size wc W → PEnv W := fun W hW => HE.out W (HY.out.2.1.trans (hW.mono HY.out.2.1.size))
       have cN := both_name xs wc (hE5 wc (Below.refl _ _)).1 (by omega)
       have HE5 : Hid (∀ W, Below wc.heap.size wc W → PEnv W) := hE5
       clear hAS hE5 hXB
       go_wp2_with fail
       refine cN.mono ?_
       rintro e y1 ⟨nm, c, rfl, hb1, cN2⟩
       have n1 := (HXR.out y1 hb1).1
       have HB1 : Hid (Below wc.heap.size wc y1) := hb1
       clear cN hb1
       go_wp2_with fail
       refine cN2.mono ?_
       rintro e y2 ⟨rfl, hb2⟩
       have hl2 := HB1.out.trans (hb2.mono HB1.out.size)
       obtain ⟨m1, m2⟩ := HXR.out y2 hl2
       obtain ⟨WD, hWD⟩ : ∃ W, y2.drew = W := ⟨_, rfl⟩
       have HB0 : Hid (Below wc.heap.size wc WD) := by rw [← hWD]; exact hl2.drew
       have cB := bare_same c WD (HE5.out WD HB0.out).2.1
       obtain ⟨RR, hRR⟩ : ∃ b, matchB xt.data.toList xs.data.toList = b := ⟨_, rfl⟩
       clear cN2 hb2 hl2 HB1 n1
       go_upto_region 26 with fail
       refine wp_region_held_drew (S := fun W => W.cell? ⟨XB, 1, none⟩ = some (.string xs) ∧ W.cell? ⟨XB, 2, none⟩ = some (.string xt)) (by kernel_rfl) ?_ (fun hHeld => ?_)
       ·exact ⟨by simpa using m1, by simpa using m2⟩
       rw [hWD] at hHeld ⊢
       refine wpAnyH_take (i := 0) (v := ?_) rfl (by kernel_rfl) (by kernel_rfl) (by kernel_rfl) (fun _ _ _ h => h) (Or.inl ⟨by rfl, ?_⟩) (by assumption) ?_
       rotate_left
       ·intro w hSw; go_simp; (try with_reducible rfl)
       change wpAnyH _ _ _ _ _ _ _ (Act.put _ (some 102) _) _; simp only [Act.put, List.setIfInBounds_toArray, List.set_cons_zero, List.set_cons_succ]
       refine wpAnyH_take (i := 1) (v := ?_) rfl (by kernel_rfl) (by kernel_rfl) (by kernel_rfl) (fun _ _ _ h => h) (Or.inl ⟨by rfl, ?_⟩) (by assumption) ?_
       rotate_left
       ·intro w hSw; go_simp; (try with_reducible rfl)
       change wpAnyH _ _ _ _ _ _ _ (Act.put _ (some 103) _) _; simp only [Act.put, List.setIfInBounds_toArray, List.set_cons_zero, List.set_cons_succ]
       refine wpAnyH_ready (rs := [2]) (by kernel_rfl) (by simp) ?_
       refine AllReadyH.cons rfl (fun K hK => ?_) AllReadyH.nil
       go_simp
       refine (cB).mono ?_
       rintro e u1 ⟨rfl, hb1⟩
       have l1 : Below wc.heap.size wc u1 := (HB0.out).trans (hb1.mono (HB0.out).size)
       have k1 := HXR.out u1 l1
       have HB1 : Hid (Below wc.heap.size wc u1) := l1
       clear hb1 l1 cB
       refine hK.out _ _ ?_ (fun hHeld => ?_)
       ·exact k1
       clear hK K
       refine wpAnyH_take (i := 3) (v := ?_) rfl (by kernel_rfl) (by kernel_rfl) (by kernel_rfl) (fun _ _ _ h => h) (Or.inl ⟨by rfl, ?_⟩) (by assumption) ?_
       rotate_left
       ·intro w hSw; go_simp; (try with_reducible rfl)
       change wpAnyH _ _ _ _ _ _ _ (Act.put _ (some 105) _) _; simp only [Act.put, List.setIfInBounds_toArray, List.set_cons_zero, List.set_cons_succ]
       refine wpAnyH_take (i := 4) (v := ?_) rfl (by kernel_rfl) (by kernel_rfl) (by kernel_rfl) (fun _ _ _ h => h) (Or.inl ⟨by rfl, ?_⟩) (by assumption) ?_
       rotate_left
       ·intro w hSw; go_simp; (try with_reducible rfl)
       change wpAnyH _ _ _ _ _ _ _ (Act.put _ (some 106) _) _; simp only [Act.put, List.setIfInBounds_toArray, List.set_cons_zero, List.set_cons_succ]
       refine wpAnyH_take (i := 5) (v := ?_) rfl (by kernel_rfl) (by kernel_rfl) (by kernel_rfl) (fun _ _ _ h => h) (Or.inl ⟨by rfl, ?_⟩) (by assumption) ?_
       rotate_left
       ·intro w hSw; go_simp; (try with_reducible rfl)
       change wpAnyH _ _ _ _ _ _ _ (Act.put _ (some 107) _) _; simp only [Act.put, List.setIfInBounds_toArray, List.set_cons_zero, List.set_cons_succ]
       refine wpAnyH_take (i := 6) (v := ?_) rfl (by kernel_rfl) (by kernel_rfl) (by kernel_rfl) (fun _ _ _ h => h) (Or.inl ⟨by rfl, ?_⟩) (by assumption) ?_
       rotate_left
       ·intro w hSw; go_simp; (try with_reducible rfl)
       change wpAnyH _ _ _ _ _ _ _ (Act.put _ (some 108) _) _; simp only [Act.put, List.setIfInBounds_toArray, List.set_cons_zero, List.set_cons_succ]
       refine wpAnyH_take (i := 7) (v := ?_) rfl (by kernel_rfl) (by kernel_rfl) (by kernel_rfl) (fun _ _ _ h => h) (Or.inl ⟨by rfl, ?_⟩) (by assumption) ?_
       rotate_left
       ·intro w hSw; go_simp; (try with_reducible rfl)
       change wpAnyH _ _ _ _ _ _ _ (Act.put _ (some 109) _) _; simp only [Act.put, List.setIfInBounds_toArray, List.set_cons_zero, List.set_cons_succ]
       refine wpAnyH_take (i := 8) (v := ?_) rfl (by kernel_rfl) (by kernel_rfl) (by kernel_rfl) (fun _ _ _ h => h) (Or.inl ⟨by rfl, ?_⟩) (by assumption) ?_
       rotate_left
       ·intro w hSw; go_simp; (try with_reducible rfl)
       change wpAnyH _ _ _ _ _ _ _ (Act.put _ (some 110) _) _; simp only [Act.put, List.setIfInBounds_toArray, List.set_cons_zero, List.set_cons_succ]
       refine wpAnyH_take (i := 9) (v := ?_) rfl (by kernel_rfl) (by kernel_rfl) (by kernel_rfl) (fun _ _ _ h => h) (Or.inl ⟨by rfl, ?_⟩) (by assumption) ?_
       rotate_left
       ·intro w hSw; go_simp; (try with_reducible rfl)
       change wpAnyH _ _ _ _ _ _ _ (Act.put _ (some 111) _) _; simp only [Act.put, List.setIfInBounds_toArray, List.set_cons_zero, List.set_cons_succ]
       refine wpAnyH_take (i := 10) (v := ?_) rfl (by kernel_rfl) (by kernel_rfl) (by kernel_rfl) (fun _ _ _ h => h) (Or.inl ⟨by rfl, ?_⟩) (by assumption) ?_
       rotate_left
       ·intro w hSw; go_simp; (try with_reducible rfl)
       change wpAnyH _ _ _ _ _ _ _ (Act.put _ (some 112) _) _; simp only [Act.put, List.setIfInBounds_toArray, List.set_cons_zero, List.set_cons_succ]
       refine wpAnyH_take (i := 12) (v := ?_) rfl (by kernel_rfl) (by kernel_rfl) (by kernel_rfl) (fun _ _ _ h => h) (Or.inl ⟨by rfl, ?_⟩) (by assumption) ?_
       rotate_left
       ·intro w hSw; go_simp; (try with_reducible rfl)
       change wpAnyH _ _ _ _ _ _ _ (Act.put _ (some 114) _) _; simp only [Act.put, List.setIfInBounds_toArray, List.set_cons_zero, List.set_cons_succ]
       refine wpAnyH_ready (rs := [11]) (by kernel_rfl) (by simp) ?_
       refine AllReadyH.cons rfl (fun K hK => ?_) AllReadyH.nil
       go_simp
       refine (AS.out.pn u1 HB1.out).mono ?_
       rintro e u2 ⟨⟨v1, rfl, s1⟩, hb2⟩
       have l2 : Below wc.heap.size wc u2 := (HB1.out).trans (hb2.mono (HB1.out).size)
       have k2 := HXR.out u2 l2
       have HB2 : Hid (Below wc.heap.size wc u2) := l2
       clear hb2 l2 
       refine hK.out _ _ ?_ (fun hHeld => ?_)
       ·exact k2
       clear hK K
       refine wpAnyH_ready (rs := [13]) (by kernel_rfl) (by simp) ?_
       refine AllReadyH.cons rfl (fun K hK => ?_) AllReadyH.nil
       go_simp
       refine (AS.out.dn u2 HB2.out).mono ?_
       rintro e u3 ⟨⟨v2, rfl, s2⟩, hb3⟩
       have l3 : Below wc.heap.size wc u3 := (HB2.out).trans (hb3.mono (HB2.out).size)
       have k3 := HXR.out u3 l3
       have s1 := s1.below hb3 (Nat.le_refl _)
       have cT := same_texts v1 v2 LN LN u3 s1 s2 (by have := AS.out.nlen; omega) (by have := AS.out.nlen; omega)
       rw [show decide (LN = LN) = true from decide_eq_true rfl] at cT
       have HB3 : Hid (Below wc.heap.size wc u3) := l3
       clear hb3 l3 s1 s2
       refine hK.out _ _ ?_ (fun hHeld => ?_)
       ·exact k3
       clear hK K
       refine wpAnyH_ready (rs := [14]) (by kernel_rfl) (by simp) ?_
       refine AllReadyH.cons rfl (fun K hK => ?_) AllReadyH.nil
       go_simp
       refine cT.mono ?_
       rintro e u4 ⟨rfl, q, hq⟩
       have l4 : Below wc.heap.size wc u4 := by rw [hq]; exact below_drewN HB3.out q
       have k4 := HXR.out u4 l4
       have HB4 : Hid (Below wc.heap.size wc u4) := l4
       clear cT hq l4
       refine hK.out _ _ ?_ (fun hHeld => ?_)
       ·exact k4
       clear hK K
       refine wpAnyH_take (i := 15) (v := ?_) rfl (by kernel_rfl) (by kernel_rfl) (by kernel_rfl) (fun _ _ _ h => h) (Or.inl ⟨by rfl, ?_⟩) (by assumption) ?_
       rotate_left
       ·intro w hSw; go_simp; (try with_reducible rfl)
       change wpAnyH _ _ _ _ _ _ _ (Act.put _ (some 117) _) _; simp only [Act.put, List.setIfInBounds_toArray, List.set_cons_zero, List.set_cons_succ]
       refine wpAnyH_take (i := 16) (v := ?_) rfl (by kernel_rfl) (by kernel_rfl) (by kernel_rfl) (fun _ _ _ h => h) (Or.inl ⟨by rfl, ?_⟩) (by assumption) ?_
       rotate_left
       ·intro w hSw; go_simp; (try with_reducible rfl)
       change wpAnyH _ _ _ _ _ _ _ (Act.put _ (some 118) _) _; simp only [Act.put, List.setIfInBounds_toArray, List.set_cons_zero, List.set_cons_succ]
       refine wpAnyH_take (i := 17) (v := ?_) rfl (by kernel_rfl) (by kernel_rfl) (by kernel_rfl) (fun _ _ _ h => h) (Or.inl ⟨by rfl, ?_⟩) (by assumption) ?_
       rotate_left
       ·intro w hSw; go_simp; (try with_reducible rfl)
       change wpAnyH _ _ _ _ _ _ _ (Act.put _ (some 119) _) _; simp only [Act.put, List.setIfInBounds_toArray, List.set_cons_zero, List.set_cons_succ]
       refine wpAnyH_take (i := 18) (v := ?_) rfl (by kernel_rfl) (by kernel_rfl) (by kernel_rfl) (fun _ _ _ h => h) (Or.inl ⟨by rfl, ?_⟩) (by assumption) ?_
       rotate_left
       ·intro w hSw; go_simp; (try with_reducible rfl)
       change wpAnyH _ _ _ _ _ _ _ (Act.put _ (some 120) _) _; simp only [Act.put, List.setIfInBounds_toArray, List.set_cons_zero, List.set_cons_succ]
       refine wpAnyH_take (i := 20) (v := ?_) rfl (by kernel_rfl) (by kernel_rfl) (by kernel_rfl) (fun _ _ _ h => h) (Or.inl ⟨by rfl, ?_⟩) (by assumption) ?_
       rotate_left
       ·intro w hSw; go_simp; (try with_reducible rfl)
       change wpAnyH _ _ _ _ _ _ _ (Act.put _ (some 122) _) _; simp only [Act.put, List.setIfInBounds_toArray, List.set_cons_zero, List.set_cons_succ]
       refine wpAnyH_ready (rs := [19]) (by kernel_rfl) (by simp) ?_
       refine AllReadyH.cons rfl (fun K hK => ?_) AllReadyH.nil
       go_simp
       refine (AS.out.ps u4 HB4.out).mono ?_
       rintro e u5 ⟨⟨nv1, bv1, wv1, rfl, sv1⟩, hb5⟩
       have l5 : Below wc.heap.size wc u5 := (HB4.out).trans (hb5.mono (HB4.out).size)
       have k5 := HXR.out u5 l5
       have HV1 : Hid (SvAt u5 nv1 bv1 wv1 SS) := sv1
       have HB5 : Hid (Below wc.heap.size wc u5) := l5
       clear hb5 l5 sv1
       refine hK.out _ _ ?_ (fun hHeld => ?_)
       ·exact k5
       clear hK K
       refine wpAnyH_ready (rs := [21]) (by kernel_rfl) (by simp) ?_
       refine AllReadyH.cons rfl (fun K hK => ?_) AllReadyH.nil
       go_simp
       refine (AS.out.ds u5 HB5.out).mono ?_
       rintro e u6 ⟨⟨nv2, bv2, wv2, rfl, sv2⟩, hb6⟩
       have l6 : Below wc.heap.size wc u6 := (HB5.out).trans (hb6.mono (HB5.out).size)
       have k6 := HXR.out u6 l6
       have cS := AS.out.ss u6 nv1 bv1 wv1 nv2 bv2 wv2 (HV1.out.below hb6 (Nat.le_refl _)) sv2
       have HB6 : Hid (Below wc.heap.size wc u6) := l6
       clear hb6 l6 sv2
       refine hK.out _ _ ?_ (fun hHeld => ?_)
       ·exact k6
       clear hK K
       refine wpAnyH_ready (rs := [22]) (by kernel_rfl) (by simp) ?_
       refine AllReadyH.cons rfl (fun K hK => ?_) AllReadyH.nil
       go_simp
       refine (cS).mono ?_
       rintro e u7 ⟨rfl, hb7⟩
       have l7 : Below wc.heap.size wc u7 := (HB6.out).trans (hb7.mono (HB6.out).size)
       have k7 := HXR.out u7 l7
       have cM := match_is xt xs u7 (by omega) (by omega)
       rw [hRR] at cM
       have HB7 : Hid (Below wc.heap.size wc u7) := l7
       clear hb7 l7 cS
       refine hK.out _ _ ?_ (fun hHeld => ?_)
       ·exact k7
       clear hK K
       refine wpAnyH_take (i := 23) (v := ?_) rfl (by kernel_rfl) (by kernel_rfl) (by kernel_rfl) (fun _ _ _ h => h) (Or.inl ⟨by rfl, ?_⟩) (by assumption) ?_
       rotate_left
       ·intro w hSw; go_simp; (try with_reducible rfl)
       change wpAnyH _ _ _ _ _ _ _ (Act.put _ (some 125) _) _; simp only [Act.put, List.setIfInBounds_toArray, List.set_cons_zero, List.set_cons_succ]
       refine wpAnyH_take (i := 24) (v := ?_) rfl (by kernel_rfl) (by kernel_rfl) (by kernel_rfl) (fun _ _ _ h => h) (Or.inl ⟨by rfl, ?_⟩) (by assumption) ?_
       rotate_left
       ·intro w hSw; go_simp; (try with_reducible rfl)
       change wpAnyH _ _ _ _ _ _ _ (Act.put _ (some 126) _) _; simp only [Act.put, List.setIfInBounds_toArray, List.set_cons_zero, List.set_cons_succ]
       refine wpAnyH_take (i := 25) (v := ?_) rfl (by kernel_rfl) (by kernel_rfl) (by kernel_rfl) (fun _ _ _ h => h) (Or.inl ⟨by rfl, ?_⟩) (by assumption) ?_
       rotate_left
       ·intro w hSw; go_simp; (try with_reducible rfl)
       change wpAnyH _ _ _ _ _ _ _ (Act.put _ (some 127) _) _; simp only [Act.put, List.setIfInBounds_toArray, List.set_cons_zero, List.set_cons_succ]
       refine wpAnyH_take (i := 26) (v := ?_) rfl (by kernel_rfl) (by kernel_rfl) (by kernel_rfl) (fun _ _ _ h => h) (Or.inl ⟨by rfl, ?_⟩) (by assumption) ?_
       rotate_left
       ·intro w hSw; go_simp; (try with_reducible rfl)
       change wpAnyH _ _ _ _ _ _ _ (Act.put _ (some 128) _) _; simp only [Act.put, List.setIfInBounds_toArray, List.set_cons_zero, List.set_cons_succ]
       refine wpAnyH_take (i := 27) (v := ?_) rfl (by kernel_rfl) (by kernel_rfl) (by kernel_rfl) (fun _ _ _ h => h) (Or.inl ⟨by rfl, ?_⟩) (by assumption) ?_
       rotate_left
       ·intro w hSw; go_simp; (try with_reducible rfl)
       change wpAnyH _ _ _ _ _ _ _ (Act.put _ (some 129) _) _; simp only [Act.put, List.setIfInBounds_toArray, List.set_cons_zero, List.set_cons_succ]
       refine wpAnyH_take (i := 28) (v := ?_) rfl (by kernel_rfl) (by kernel_rfl) (by kernel_rfl) (fun _ _ _ h => h) (Or.inl ⟨by rfl, ?_⟩) (by assumption) ?_
       rotate_left
       ·intro w hSw; go_simp; (try with_reducible rfl)
       change wpAnyH _ _ _ _ _ _ _ (Act.put _ (some 130) _) _; simp only [Act.put, List.setIfInBounds_toArray, List.set_cons_zero, List.set_cons_succ]
       refine wpAnyH_take (i := 29) (v := ?_) rfl (by kernel_rfl) (by kernel_rfl) (by kernel_rfl) (fun _ _ _ h => h) (Or.inl ⟨by rfl, ?_⟩) (by assumption) ?_
       rotate_left
       ·intro w hSw; go_simp; (try with_reducible rfl)
       change wpAnyH _ _ _ _ _ _ _ (Act.put _ (some 131) _) _; simp only [Act.put, List.setIfInBounds_toArray, List.set_cons_zero, List.set_cons_succ]
       refine wpAnyH_take (i := 31) (v := ?_) rfl (by kernel_rfl) (by kernel_rfl) (by kernel_rfl) (fun _ _ _ h => h) (Or.inl ⟨by rfl, ?_⟩) (by assumption) ?_
       rotate_left
       ·intro w hSw; go_simp; (try with_reducible rfl)
       change wpAnyH _ _ _ _ _ _ _ (Act.put _ (some 133) _) _; simp only [Act.put, List.setIfInBounds_toArray, List.set_cons_zero, List.set_cons_succ]
       refine wpAnyH_take (i := 32) (v := ?_) rfl (by kernel_rfl) (by kernel_rfl) (by kernel_rfl) (fun _ _ _ h => h) (Or.inl ⟨by rfl, ?_⟩) (by assumption) ?_
       rotate_left
       ·intro w hSw; go_simp; (try with_reducible rfl)
       change wpAnyH _ _ _ _ _ _ _ (Act.put _ (some 134) _) _; simp only [Act.put, List.setIfInBounds_toArray, List.set_cons_zero, List.set_cons_succ]
       refine wpAnyH_take (i := 33) (v := ?_) rfl (by kernel_rfl) (by kernel_rfl) (by kernel_rfl) (fun _ _ _ h => h) (Or.inl ⟨by rfl, ?_⟩) (by assumption) ?_
       rotate_left
       ·intro w hSw; go_simp; (try with_reducible rfl)
       change wpAnyH _ _ _ _ _ _ _ (Act.put _ (some 135) _) _; simp only [Act.put, List.setIfInBounds_toArray, List.set_cons_zero, List.set_cons_succ]
       refine wpAnyH_take (i := 34) (v := ?_) rfl (by kernel_rfl) (by kernel_rfl) (by kernel_rfl) (fun _ _ _ h => h) (Or.inl ⟨by rfl, ?_⟩) (by assumption) ?_
       rotate_left
       ·intro w hSw; go_simp; (try with_reducible rfl)
       change wpAnyH _ _ _ _ _ _ _ (Act.put _ (some 136) _) _; simp only [Act.put, List.setIfInBounds_toArray, List.set_cons_zero, List.set_cons_succ]
       refine wpAnyH_ready (rs := [30]) (by kernel_rfl) (by simp) ?_
       refine AllReadyH.cons rfl (fun K hK => ?_) AllReadyH.nil
       go_simp
       refine (cM).mono ?_
       rintro e u8 ⟨rfl, hb8⟩
       have l8 : Below wc.heap.size wc u8 := (HB7.out).trans (hb8.mono (HB7.out).size)
       have k8 := HXR.out u8 l8
       have cM2 := rmatch_is xt xs u8 (by omega) (by omega)
       rw [hRR] at cM2
       have HB8 : Hid (Below wc.heap.size wc u8) := l8
       clear hb8 l8 cM
       refine hK.out _ _ ?_ (fun hHeld => ?_)
       ·exact k8
       clear hK K
       refine wpAnyH_ready (rs := [35]) (by kernel_rfl) (by simp) ?_
       refine AllReadyH.cons rfl (fun K hK => ?_) AllReadyH.nil
       go_simp
       refine (cM2).mono ?_
       rintro e u9 ⟨rfl, hb9⟩
       have l9 : Below wc.heap.size wc u9 := (HB8.out).trans (hb9.mono (HB8.out).size)
       have k9 := HXR.out u9 l9
       have HB9 : Hid (Below wc.heap.size wc u9) := l9
       clear hb9 l9 cM2
       refine hK.out _ _ ?_ (fun hHeld => ?_)
       ·exact k9
       clear hK K
       refine wpAnyH_take (i := 36) (v := ?_) rfl (by kernel_rfl) (by kernel_rfl) (by kernel_rfl) (fun _ _ _ h => h) (Or.inl ⟨by rfl, ?_⟩) (by assumption) ?_
       rotate_left
       ·intro w hSw; go_simp; (try with_reducible rfl)
       change wpAnyH _ _ _ _ _ _ _ (Act.put _ (some 138) _) _; simp only [Act.put, List.setIfInBounds_toArray, List.set_cons_zero, List.set_cons_succ]
       refine wpAnyH_take (i := 37) (v := ?_) rfl (by kernel_rfl) (by kernel_rfl) (by kernel_rfl) (fun _ _ _ h => h) (Or.inl ⟨by rfl, ?_⟩) (by assumption) ?_
       rotate_left
       ·intro w hSw; go_simp; (try with_reducible rfl)
       change wpAnyH _ _ _ _ _ _ _ (Act.put _ (some 139) _) _; simp only [Act.put, List.setIfInBounds_toArray, List.set_cons_zero, List.set_cons_succ]
       refine wpAnyH_done (by kernel_rfl) ?_ _
       clear hHeld k9
       have HN : Hid (Two w.heap.size (31 + (k + 1)) hb rb u9 ∧ Below w.heap.size w u9) := ⟨HY.out.1.below HB9.out, HY.out.2.1.trans (HB9.out.mono HY.out.2.1.size)⟩
       go_wp2_with fail
       go_roundw
       case rel => exact ⟨hb, k + 1, rfl, by go_num, by omega, HN⟩
       case measure => simp [intOf]; omega
    ·have q1 : decide ((k : Int) < (len : Int)) = false := decide_eq_false (by omega)
     obtain rfl : k = len := by omega
     have HF : Hid (Below w.heap.size w wr) := HQ.out.2
     clear HQ HD
     go_wp2_with fail
     go_ret
     exact ⟨rfl, HF.out⟩
end Go.Proofs.YtfdlopimncodcaaGreatDoor
