/-
  SearchAlgebra, walked.
-/
import Derived.Test.YtligkpcoajnjmaaGreatDoorRAl33
namespace Go.Proofs.YtligkpcoajnjmaaGreatDoorR
open Go.RowKit Go.Proofs.Aid Go.Proofs.Sq Go.Proofs.Hd

set_option maxHeartbeats 8000000 in
set_option maxRecDepth 100000 in
theorem salg_is (m : Sr.Lt) (a b : List Sr.Ar) (va vb : Value) (tb : ByteArray) (fa : Option Addr) (fn fc : Nat) (w : World) (htb : tb.data.toList = m.text) (hF : Trow w fa fn m.flags) (ha : Aw w a va) (hb : Aw w b vb)
    (hg : ∀ W, Below w.heap.size w W → SysAt W ∧ ErrType W ∧ NumAt W ∧ ∃ m, W.cell? ⟨1, 0, none⟩ = some (.int .i64 m)) :
    Calls Tryz.prog 3 #[va, vb, .agg #[.int .i64 m.uid, .slice fa fn fc, .int .i64 m.day, .string tb], .int .i64 m.which, .int .i64 m.many, .int .i64 m.greatest] w fun e w' => e = .returned (.bool true) ∧ Below w.heap.size w w' := by
  have hmf : ∀ (fn : Fn) (first cap : Array Value) (w : World), (Instr.makeFunc fn first cap).run Tryz.prog w = .ok (.func fn first cap) w := fun _ _ _ _ => rfl
  have eg1 : ∀ args w, (callFunc 9 args).run Tryz.prog w = .ok (.enter 9 args) w := enters_of Tryz.func9 (by kernel_rfl) rfl
  have eg2 : ∀ args w, (callFunc 12 args).run Tryz.prog w = .ok (.enter 12 args) w := enters_of Tryz.func12 (by kernel_rfl) rfl
  have eg3 : ∀ args w, (callFunc 13 args).run Tryz.prog w = .ok (.enter 13 args) w := enters_of Tryz.func13 (by kernel_rfl) rfl
  obtain ⟨W2, hW2, hz2, e1, e2, hb2⟩ := two_boxes w #[.int .i64 m.uid, .slice fa fn fc, .int .i64 m.day, .string tb] #[.int .i64 m.which] 25 3
  have r1 : W2.cell? ⟨w.heap.size, 1, none⟩ = some (.slice fa fn fc) := rd_cell e1 rfl
  have r3 : W2.cell? ⟨w.heap.size, 3, none⟩ = some (.string tb) := rd_cell e1 rfl
  have HE : Hid (∀ W, Below W2.heap.size W2 W → W.heap[w.heap.size]? = some (.cells #[.int .i64 m.uid, .slice fa fn fc, .int .i64 m.day, .string tb] 25 (0, 0)) ∧ W.heap[w.heap.size + 1]? = some (.cells #[.int .i64 m.which] 3 (0, 0))) := fun W hW =>
    ⟨(hW.block _ (Array.getElem?_eq_some_iff.1 e1).1).trans e1, (hW.block _ (Array.getElem?_eq_some_iff.1 e2).1).trans e2⟩
  have HA : Hid (∀ W, Below w.heap.size w W → Aw W a va ∧ Aw W b vb) := fun W hW => ⟨ha.below hW, hb.below hW⟩
  have HG : Hid (∀ W, Below w.heap.size w W → SysAt W ∧ ErrType W ∧ NumAt W ∧ ∃ m, W.cell? ⟨1, 0, none⟩ = some (.int .i64 m)) := hg
  have HF : Hid (∀ W, Below w.heap.size w W → Trow W fa fn m.flags) := fun W hW => hF.below hW
  have HT : Hid (tb.data.toList = m.text) := htb
  have HB2 : Hid (Below w.heap.size w W2) := hb2
  have cT := texts_trow fa fn fc m.flags W2 (hF.below hb2)
  obtain ⟨T, hT⟩ : ∃ T, (decide (m.flags.length ≤ 40) && m.flags.all fun t => decide (t.length ≤ 100)) = T := ⟨_, rfl⟩
  rw [hT] at cT
  have HTT : Hid (T = true → m.flags.length ≤ 40) := fun h => by
    rw [h, Bool.and_eq_true] at hT
    exact of_decide_eq_true hT.1
  obtain ⟨aa, ac, rfl⟩ := ha.form
  obtain ⟨ba, bc, rfl⟩ := hb.form
  obtain ⟨AN, hAN⟩ : ∃ x, a.length = x := ⟨_, rfl⟩
  obtain ⟨BN, hBN⟩ : ∃ x, b.length = x := ⟨_, rfl⟩
  rw [hAN, hBN] at HA ⊢
  clear hT hF ha hb hg e1 e2 hb2 htb hAN hBN
  by_cases h1 : 20 < AN
  · have d1 : decide ((20 : Int) < (AN : Int)) = true := decide_eq_true (by omega)
    go_enter Tryz.func3, Tryz.ntmps3
    go_wp2_with fail
    go_ret
    exact ⟨rfl, HB2.out⟩
  have d1 : decide ((20 : Int) < (AN : Int)) = false := decide_eq_false (by omega)
  by_cases h2 : 20 < BN
  · have d2 : decide ((20 : Int) < (BN : Int)) = true := decide_eq_true (by omega)
    go_enter Tryz.func3, Tryz.ntmps3
    go_wp2_with fail
    go_ret
    exact ⟨rfl, HB2.out⟩
  have d2 : decide ((20 : Int) < (BN : Int)) = false := decide_eq_false (by omega)
  cases T with
  | false =>
    go_enter Tryz.func3, Tryz.ntmps3
    go_wp2_with fail
    refine cT.mono ?_
    rintro e w5 ⟨rfl, rfl⟩
    clear cT
    go_wp2_with fail
    go_ret
    exact ⟨rfl, HB2.out⟩
  | true =>
    by_cases h500 : 500 < tb.size
    · have d3 : decide ((500 : Int) < (tb.size : Int)) = true := decide_eq_true (by omega)
      go_enter Tryz.func3, Tryz.ntmps3
      go_wp2_with fail
      refine cT.mono ?_
      rintro e w5 ⟨rfl, rfl⟩
      clear cT
      go_wp2_with fail
      go_ret
      exact ⟨rfl, HB2.out⟩
    have d3 : decide ((500 : Int) < (tb.size : Int)) = false := decide_eq_false (by omega)
    have cK := looked_is W2 (fun W hW => HG.out W (HB2.out.trans (hW.mono HB2.out.size)))
    go_enter Tryz.func3, Tryz.ntmps3
    go_wp2_with fail
    refine cT.mono ?_
    rintro e w5 ⟨rfl, hw5⟩
    obtain rfl : W2 = w5 := hw5.symm
    clear cT
    go_wp2_with fail
    refine cK.mono ?_
    rintro e w6 ⟨rfl, hb6⟩
    clear cK
    have hb06 := HB2.out.trans (hb6.mono HB2.out.size)
    have hb67 : Below w6.heap.size w6 (w6.alloc (.cells #[.int .i64 m.many, .int .i64 m.greatest] 29)) := (Below.refl _ _).alloc (Nat.le_refl _) _
    obtain ⟨W7, hW7⟩ : ∃ W, w6.alloc (.cells #[.int .i64 m.many, .int .i64 m.greatest] 29) = W := ⟨_, rfl⟩
    have eB : W7.heap[w6.heap.size]? = some (.cells #[.int .i64 m.many, .int .i64 m.greatest] 29 (0, 0)) := by rw [← hW7]; exact heap_alloc_new w6 _
    rw [hW7] at hb67
    have hb27 := hb6.trans (hb67.mono hb6.size)
    have hb07 := hb06.trans (hb67.mono hb06.size)
    have cH : ∀ W l v, Below W7.heap.size W7 W → Aw W l v → Calls Tryz.prog 9 #[v, .pointer (some ⟨w.heap.size, 0, none⟩), .pointer (some ⟨w.heap.size + 1, 0, none⟩), .pointer (some ⟨w6.heap.size, 0, none⟩)] W fun e w' => e = .returned (.tuple #[.bool (askH m l), .bool (askO l)]) ∧ Below W.heap.size W w' := fun W l v hW hl => by
      have h2 := HE.out W (hb27.trans (hW.mono hb27.size))
      have h0 := hb07.trans (hW.mono hb07.size)
      exact askA_is m l v _ _ _ tb fa fn fc W HT.out (by omega) hl h2.1 h2.2 ((hW.block _ (Array.getElem?_eq_some_iff.1 eB).1).trans eB) (HF.out W h0) (by have h40 : m.flags.length ≤ 40 := (by first | exact HTT.out trivial | exact HTT.out rfl); omega) fun W' hW' => HG.out W' (h0.trans (hW'.mono h0.size))
    have HA7 : Hid (∀ W, Below W7.heap.size W7 W → Aw W a (.slice aa AN ac) ∧ Aw W b (.slice ba BN bc)) := fun W hW => HA.out W (hb07.trans (hW.mono hb07.size))
    have HB0 : Hid (Below w.heap.size w W7) := hb07
    have cA := cH W7 a (.slice aa AN ac) (Below.refl _ _) (HA7.out W7 (Below.refl _ _)).1
    have cB := fun W hW => cH W b (.slice ba BN bc) hW (HA7.out W hW).2
    have CH : Hid (∀ W l v, Below W7.heap.size W7 W → Aw W l v → Calls Tryz.prog 9 #[v, .pointer (some ⟨w.heap.size, 0, none⟩), .pointer (some ⟨w.heap.size + 1, 0, none⟩), .pointer (some ⟨w6.heap.size, 0, none⟩)] W fun e w' => e = .returned (.tuple #[.bool (askH m l), .bool (askO l)]) ∧ Below W.heap.size W w') := cH
    obtain ⟨X, hX⟩ : ∃ X, askH m a = X := ⟨_, rfl⟩
    obtain ⟨E1, hE1⟩ : ∃ E, askO a = E := ⟨_, rfl⟩
    obtain ⟨Y, hY⟩ : ∃ X, askH m b = X := ⟨_, rfl⟩
    obtain ⟨E2, hE2⟩ : ∃ E, askO b = E := ⟨_, rfl⟩
    rw [hX, hE1] at cA
    rw [hY, hE2] at cB
    have HX : Hid (askH m a = X ∧ askH m b = Y ∧ askO a = E1 ∧ askO b = E2) := ⟨hX, hY, hE1, hE2⟩
    clear hb6 hb06 hb67 eB hb27 hb07 cH HA HE HF HG HT HTT HB2 r1 r3 hX hE1 hY hE2
    go_wp2_with fail
    refine cA.mono ?_
    rintro e w8 ⟨rfl, hb8⟩
    clear cA
    go_wp2_with fail
    refine (cB w8 hb8).mono ?_
    rintro e w9 ⟨rfl, hb9⟩
    clear cB
    have HB9 : Hid (Below W7.heap.size W7 w9) := hb8.trans (hb9.mono hb8.size)
    clear hb8 hb9
    cases E1 with
    | false =>
      go_wp2_with fail
      go_ret
      exact ⟨rfl, HB0.out.trans (HB9.out.mono HB0.out.size)⟩
    | true =>
    cases E2 with
    | false =>
      go_wp2_with fail
      go_ret
      exact ⟨rfl, HB0.out.trans (HB9.out.mono HB0.out.size)⟩
    | true =>
    go_wp2_with fail
    refine (wordA_is _ w9).mono ?_
    rintro e w10 ⟨rfl, hb10⟩
    have HB10 : Hid (Below W7.heap.size W7 w10) := HB9.out.trans (hb10.mono HB9.out.size)
    clear hb10
    go_wp2_with fail
    refine (listA_is _ _ _ w10).mono ?_
    rintro e w11 ⟨rfl, hb11⟩
    have HB11 : Hid (Below W7.heap.size W7 w11) := HB10.out.trans (hb11.mono HB10.out.size)
    clear hb11
    have hq11 : Below w11.heap.size w11 (w11.alloc (.cells #[.int .i64 1, .string ⟨#[78, 79, 84]⟩, .slice none 0 0, .int .i64 3, .string ⟨#[]⟩, .slice aa AN ac] 41)) := (Below.refl _ _).alloc (Nat.le_refl _) _
    have cQ := CH.out (w11.alloc (.cells #[.int .i64 1, .string ⟨#[78, 79, 84]⟩, .slice none 0 0, .int .i64 3, .string ⟨#[]⟩, .slice aa AN ac] 41)) [Sr.wd [78, 79, 84], Sr.la a] _ (HB11.out.trans (hq11.mono HB11.out.size)) (aw_2 (Sr.wd [78, 79, 84]) (Sr.la a) ⟨#[78, 79, 84]⟩ ⟨#[]⟩ (.slice none 0 0) _ w11 rfl (by decide) (aw_nil _) rfl (by decide) (HA7.out _ HB11.out).1)
    obtain ⟨Nt, hNt⟩ : ∃ X, askH m [Sr.wd [78, 79, 84], Sr.la a] = X := ⟨_, rfl⟩
    obtain ⟨ENt, hENt⟩ : ∃ X, askO [Sr.wd [78, 79, 84], Sr.la a] = X := ⟨_, rfl⟩
    rw [hNt, hENt] at cQ
    have HNt : Hid (askH m [Sr.wd [78, 79, 84], Sr.la a] = Nt ∧ askO [Sr.wd [78, 79, 84], Sr.la a] = ENt) := ⟨hNt, hENt⟩
    have HQ11 : Hid (Below w11.heap.size w11 (w11.alloc (.cells #[.int .i64 1, .string ⟨#[78, 79, 84]⟩, .slice none 0 0, .int .i64 3, .string ⟨#[]⟩, .slice aa AN ac] 41))) := hq11
    clear hNt hENt hq11
    go_wp2_with fail
    refine cQ.mono ?_
    rintro e w12 ⟨rfl, hb12⟩
    have HB12 : Hid (Below W7.heap.size W7 w12) := (HB11.out.trans (HQ11.out.mono HB11.out.size)).trans (hb12.mono (Nat.le_trans HB11.out.size HQ11.out.size))
    clear hb12 HQ11 cQ
    go_wp2_with fail
    refine (listA_is _ _ _ w12).mono ?_
    rintro e w13 ⟨rfl, hb13⟩
    have HB13 : Hid (Below W7.heap.size W7 w13) := HB12.out.trans (hb13.mono HB12.out.size)
    clear hb13
    go_wp2_with fail
    refine (listA_is _ _ _ w13).mono ?_
    rintro e w14 ⟨rfl, hb14⟩
    have HB14 : Hid (Below W7.heap.size W7 w14) := HB13.out.trans (hb14.mono HB13.out.size)
    clear hb14
    have hq14 : Below w14.heap.size w14 (w14.alloc (.cells #[.int .i64 3, .string ⟨#[]⟩, .slice aa AN ac, .int .i64 3, .string ⟨#[]⟩, .slice ba BN bc] 41)) := (Below.refl _ _).alloc (Nat.le_refl _) _
    have cQ := CH.out (w14.alloc (.cells #[.int .i64 3, .string ⟨#[]⟩, .slice aa AN ac, .int .i64 3, .string ⟨#[]⟩, .slice ba BN bc] 41)) [Sr.la a, Sr.la b] _ (HB14.out.trans (hq14.mono HB14.out.size)) (aw_2 (Sr.la a) (Sr.la b) ⟨#[]⟩ ⟨#[]⟩ _ _ w14 rfl (by decide) (HA7.out _ HB14.out).1 rfl (by decide) (HA7.out _ HB14.out).2)
    obtain ⟨An, hAn⟩ : ∃ X, askH m [Sr.la a, Sr.la b] = X := ⟨_, rfl⟩
    obtain ⟨EAn, hEAn⟩ : ∃ X, askO [Sr.la a, Sr.la b] = X := ⟨_, rfl⟩
    rw [hAn, hEAn] at cQ
    have HAn : Hid (askH m [Sr.la a, Sr.la b] = An ∧ askO [Sr.la a, Sr.la b] = EAn) := ⟨hAn, hEAn⟩
    have HQ14 : Hid (Below w14.heap.size w14 (w14.alloc (.cells #[.int .i64 3, .string ⟨#[]⟩, .slice aa AN ac, .int .i64 3, .string ⟨#[]⟩, .slice ba BN bc] 41))) := hq14
    clear hAn hEAn hq14
    go_wp2_with fail
    refine cQ.mono ?_
    rintro e w15 ⟨rfl, hb15⟩
    have HB15 : Hid (Below W7.heap.size W7 w15) := (HB14.out.trans (HQ14.out.mono HB14.out.size)).trans (hb15.mono (Nat.le_trans HB14.out.size HQ14.out.size))
    clear hb15 HQ14 cQ
    go_wp2_with fail
    refine (listA_is _ _ _ w15).mono ?_
    rintro e w16 ⟨rfl, hb16⟩
    have HB16 : Hid (Below W7.heap.size W7 w16) := HB15.out.trans (hb16.mono HB15.out.size)
    clear hb16
    go_wp2_with fail
    refine (listA_is _ _ _ w16).mono ?_
    rintro e w17 ⟨rfl, hb17⟩
    have HB17 : Hid (Below W7.heap.size W7 w17) := HB16.out.trans (hb17.mono HB16.out.size)
    clear hb17
    have hq17 : Below w17.heap.size w17 (w17.alloc (.cells #[.int .i64 3, .string ⟨#[]⟩, .slice ba BN bc, .int .i64 3, .string ⟨#[]⟩, .slice aa AN ac] 41)) := (Below.refl _ _).alloc (Nat.le_refl _) _
    have cQ := CH.out (w17.alloc (.cells #[.int .i64 3, .string ⟨#[]⟩, .slice ba BN bc, .int .i64 3, .string ⟨#[]⟩, .slice aa AN ac] 41)) [Sr.la b, Sr.la a] _ (HB17.out.trans (hq17.mono HB17.out.size)) (aw_2 (Sr.la b) (Sr.la a) ⟨#[]⟩ ⟨#[]⟩ _ _ w17 rfl (by decide) (HA7.out _ HB17.out).2 rfl (by decide) (HA7.out _ HB17.out).1)
    obtain ⟨Dn, hDn⟩ : ∃ X, askH m [Sr.la b, Sr.la a] = X := ⟨_, rfl⟩
    obtain ⟨EDn, hEDn⟩ : ∃ X, askO [Sr.la b, Sr.la a] = X := ⟨_, rfl⟩
    rw [hDn, hEDn] at cQ
    have HDn : Hid (askH m [Sr.la b, Sr.la a] = Dn ∧ askO [Sr.la b, Sr.la a] = EDn) := ⟨hDn, hEDn⟩
    have HQ17 : Hid (Below w17.heap.size w17 (w17.alloc (.cells #[.int .i64 3, .string ⟨#[]⟩, .slice ba BN bc, .int .i64 3, .string ⟨#[]⟩, .slice aa AN ac] 41))) := hq17
    clear hDn hEDn hq17
    go_wp2_with fail
    refine cQ.mono ?_
    rintro e w18 ⟨rfl, hb18⟩
    have HB18 : Hid (Below W7.heap.size W7 w18) := (HB17.out.trans (HQ17.out.mono HB17.out.size)).trans (hb18.mono (Nat.le_trans HB17.out.size HQ17.out.size))
    clear hb18 HQ17 cQ
    go_wp2_with fail
    refine (wordA_is _ w18).mono ?_
    rintro e w19 ⟨rfl, hb19⟩
    have HB19 : Hid (Below W7.heap.size W7 w19) := HB18.out.trans (hb19.mono HB18.out.size)
    clear hb19
    go_wp2_with fail
    refine (listA_is _ _ _ w19).mono ?_
    rintro e w20 ⟨rfl, hb20⟩
    have HB20 : Hid (Below W7.heap.size W7 w20) := HB19.out.trans (hb20.mono HB19.out.size)
    clear hb20
    go_wp2_with fail
    refine (listA_is _ _ _ w20).mono ?_
    rintro e w21 ⟨rfl, hb21⟩
    have HB21 : Hid (Below W7.heap.size W7 w21) := HB20.out.trans (hb21.mono HB20.out.size)
    clear hb21
    have hq21 : Below w21.heap.size w21 (w21.alloc (.cells #[.int .i64 1, .string ⟨#[111, 114]⟩, .slice none 0 0, .int .i64 3, .string ⟨#[]⟩, .slice aa AN ac, .int .i64 3, .string ⟨#[]⟩, .slice ba BN bc] 41)) := (Below.refl _ _).alloc (Nat.le_refl _) _
    have cQ := CH.out (w21.alloc (.cells #[.int .i64 1, .string ⟨#[111, 114]⟩, .slice none 0 0, .int .i64 3, .string ⟨#[]⟩, .slice aa AN ac, .int .i64 3, .string ⟨#[]⟩, .slice ba BN bc] 41)) [Sr.wd [111, 114], Sr.la a, Sr.la b] _ (HB21.out.trans (hq21.mono HB21.out.size)) (aw_3 (Sr.wd [111, 114]) (Sr.la a) (Sr.la b) ⟨#[111, 114]⟩ ⟨#[]⟩ ⟨#[]⟩ (.slice none 0 0) _ _ w21 rfl (by decide) (aw_nil _) rfl (by decide) (HA7.out _ HB21.out).1 rfl (by decide) (HA7.out _ HB21.out).2)
    obtain ⟨Or, hOr⟩ : ∃ X, askH m [Sr.wd [111, 114], Sr.la a, Sr.la b] = X := ⟨_, rfl⟩
    obtain ⟨EOr, hEOr⟩ : ∃ X, askO [Sr.wd [111, 114], Sr.la a, Sr.la b] = X := ⟨_, rfl⟩
    rw [hOr, hEOr] at cQ
    have HOr : Hid (askH m [Sr.wd [111, 114], Sr.la a, Sr.la b] = Or ∧ askO [Sr.wd [111, 114], Sr.la a, Sr.la b] = EOr) := ⟨hOr, hEOr⟩
    have HQ21 : Hid (Below w21.heap.size w21 (w21.alloc (.cells #[.int .i64 1, .string ⟨#[111, 114]⟩, .slice none 0 0, .int .i64 3, .string ⟨#[]⟩, .slice aa AN ac, .int .i64 3, .string ⟨#[]⟩, .slice ba BN bc] 41))) := hq21
    clear hOr hEOr hq21
    go_wp2_with fail
    refine cQ.mono ?_
    rintro e w22 ⟨rfl, hb22⟩
    have HB22 : Hid (Below W7.heap.size W7 w22) := (HB21.out.trans (HQ21.out.mono HB21.out.size)).trans (hb22.mono (Nat.le_trans HB21.out.size HQ21.out.size))
    clear hb22 HQ21 cQ
    go_wp2_with fail
    refine (wordA_is _ w22).mono ?_
    rintro e w23 ⟨rfl, hb23⟩
    have HB23 : Hid (Below W7.heap.size W7 w23) := HB22.out.trans (hb23.mono HB22.out.size)
    clear hb23
    go_wp2_with fail
    refine (wordA_is _ w23).mono ?_
    rintro e w24 ⟨rfl, hb24⟩
    have HB24 : Hid (Below W7.heap.size W7 w24) := HB23.out.trans (hb24.mono HB23.out.size)
    clear hb24
    go_wp2_with fail
    refine (listA_is _ _ _ w24).mono ?_
    rintro e w25 ⟨rfl, hb25⟩
    have HB25 : Hid (Below W7.heap.size W7 w25) := HB24.out.trans (hb25.mono HB24.out.size)
    clear hb25
    go_wp2_with fail
    refine (listA_is _ _ _ w25).mono ?_
    rintro e w26 ⟨rfl, hb26⟩
    have HB26 : Hid (Below W7.heap.size W7 w26) := HB25.out.trans (hb26.mono HB25.out.size)
    clear hb26
    have hq26 : Below w26.heap.size w26 (w26.alloc (.cells #[.int .i64 1, .string ⟨#[79, 82]⟩, .slice none 0 0, .int .i64 3, .string ⟨#[]⟩, .slice aa AN ac, .int .i64 3, .string ⟨#[]⟩, .slice ba BN bc] 41)) := (Below.refl _ _).alloc (Nat.le_refl _) _
    have hI := aw_3 (Sr.wd [79, 82]) (Sr.la a) (Sr.la b) ⟨#[79, 82]⟩ ⟨#[]⟩ ⟨#[]⟩ (.slice none 0 0) _ _ w26 rfl (by decide) (aw_nil _) rfl (by decide) (HA7.out _ HB26.out).1 rfl (by decide) (HA7.out _ HB26.out).2
    have cL := listA_is (some ⟨w26.heap.size, 0, none⟩) 3 3 (w26.alloc (.cells #[.int .i64 1, .string ⟨#[79, 82]⟩, .slice none 0 0, .int .i64 3, .string ⟨#[]⟩, .slice aa AN ac, .int .i64 3, .string ⟨#[]⟩, .slice ba BN bc] 41))
    have HI : Hid (Aw (w26.alloc (.cells #[.int .i64 1, .string ⟨#[79, 82]⟩, .slice none 0 0, .int .i64 3, .string ⟨#[]⟩, .slice aa AN ac, .int .i64 3, .string ⟨#[]⟩, .slice ba BN bc] 41)) [Sr.wd [79, 82], Sr.la a, Sr.la b] (.slice (some ⟨w26.heap.size, 0, none⟩) 3 3) ∧ Below W7.heap.size W7 (w26.alloc (.cells #[.int .i64 1, .string ⟨#[79, 82]⟩, .slice none 0 0, .int .i64 3, .string ⟨#[]⟩, .slice aa AN ac, .int .i64 3, .string ⟨#[]⟩, .slice ba BN bc] 41))) := ⟨hI, HB26.out.trans (hq26.mono HB26.out.size)⟩
    obtain ⟨WI, hWI⟩ : ∃ W, w26.alloc (.cells #[.int .i64 1, .string ⟨#[79, 82]⟩, .slice none 0 0, .int .i64 3, .string ⟨#[]⟩, .slice aa AN ac, .int .i64 3, .string ⟨#[]⟩, .slice ba BN bc] 41) = W := ⟨_, rfl⟩
    rw [hWI] at cL HI
    clear hq26 hI
    go_wp2_with fail
    refine cL.mono ?_
    rintro e w27 ⟨rfl, hb27⟩
    have HI2 : Hid (Aw w27 [Sr.wd [79, 82], Sr.la a, Sr.la b] (.slice (some ⟨w26.heap.size, 0, none⟩) 3 3)) := HI.out.1.below hb27
    have HB27 : Hid (Below W7.heap.size W7 w27) := HI.out.2.trans (hb27.mono HI.out.2.size)
    clear hb27 HI cL
    have hq27 : Below w27.heap.size w27 (w27.alloc (.cells #[.int .i64 1, .string ⟨#[78, 79, 84]⟩, .slice none 0 0, .int .i64 3, .string ⟨#[]⟩, .slice (some ⟨w26.heap.size, 0, none⟩) 3 3] 41)) := (Below.refl _ _).alloc (Nat.le_refl _) _
    have cQ := CH.out (w27.alloc (.cells #[.int .i64 1, .string ⟨#[78, 79, 84]⟩, .slice none 0 0, .int .i64 3, .string ⟨#[]⟩, .slice (some ⟨w26.heap.size, 0, none⟩) 3 3] 41)) [Sr.wd [78, 79, 84], Sr.la [Sr.wd [79, 82], Sr.la a, Sr.la b]] _ (HB27.out.trans (hq27.mono HB27.out.size)) (aw_2 (Sr.wd [78, 79, 84]) (Sr.la [Sr.wd [79, 82], Sr.la a, Sr.la b]) ⟨#[78, 79, 84]⟩ ⟨#[]⟩ (.slice none 0 0) _ w27 rfl (by decide) (aw_nil _) rfl (by decide) (HI2.out))
    obtain ⟨No, hNo⟩ : ∃ X, askH m [Sr.wd [78, 79, 84], Sr.la [Sr.wd [79, 82], Sr.la a, Sr.la b]] = X := ⟨_, rfl⟩
    obtain ⟨ENo, hENo⟩ : ∃ X, askO [Sr.wd [78, 79, 84], Sr.la [Sr.wd [79, 82], Sr.la a, Sr.la b]] = X := ⟨_, rfl⟩
    rw [hNo, hENo] at cQ
    have HNo : Hid (askH m [Sr.wd [78, 79, 84], Sr.la [Sr.wd [79, 82], Sr.la a, Sr.la b]] = No ∧ askO [Sr.wd [78, 79, 84], Sr.la [Sr.wd [79, 82], Sr.la a, Sr.la b]] = ENo) := ⟨hNo, hENo⟩
    have HQ27 : Hid (Below w27.heap.size w27 (w27.alloc (.cells #[.int .i64 1, .string ⟨#[78, 79, 84]⟩, .slice none 0 0, .int .i64 3, .string ⟨#[]⟩, .slice (some ⟨w26.heap.size, 0, none⟩) 3 3] 41))) := hq27
    clear hNo hENo hq27
    go_wp2_with fail
    refine cQ.mono ?_
    rintro e w28 ⟨rfl, hb28⟩
    have HB28 : Hid (Below W7.heap.size W7 w28) := (HB27.out.trans (HQ27.out.mono HB27.out.size)).trans (hb28.mono (Nat.le_trans HB27.out.size HQ27.out.size))
    clear hb28 HQ27 cQ
    cases ENt with
    | false =>
      go_wp2_with fail
      go_ret
      exact ⟨rfl, HB0.out.trans (HB28.out.mono HB0.out.size)⟩
    | true =>
    cases EAn with
    | false =>
      go_wp2_with fail
      go_ret
      exact ⟨rfl, HB0.out.trans (HB28.out.mono HB0.out.size)⟩
    | true =>
    cases EDn with
    | false =>
      go_wp2_with fail
      go_ret
      exact ⟨rfl, HB0.out.trans (HB28.out.mono HB0.out.size)⟩
    | true =>
    cases EOr with
    | false =>
      go_wp2_with fail
      go_ret
      exact ⟨rfl, HB0.out.trans (HB28.out.mono HB0.out.size)⟩
    | true =>
    cases ENo with
    | false =>
      go_wp2_with fail
      go_ret
      exact ⟨rfl, HB0.out.trans (HB28.out.mono HB0.out.size)⟩
    | true =>
    have q1 := law_not (m := m) (w := [78, 79, 84]) (by decide) HX.out.2.2.1 HNt.out.2
    have q2 := law_and (m := m) HX.out.2.2.1 HX.out.2.2.2 HAn.out.2
    have q3 := law_and (m := m) HX.out.2.2.2 HX.out.2.2.1 HDn.out.2
    have q4 := law_or (m := m) (w := [111, 114]) (by decide) HX.out.2.2.1 HX.out.2.2.2 HOr.out.2
    have q5 := law_none (m := m) (w := [78, 79, 84]) (v := [79, 82]) (by decide) (by decide) HX.out.2.2.1 HX.out.2.2.2 HNo.out.2
    rw [HX.out.1, HNt.out.1] at q1
    rw [HX.out.1, HX.out.2.1, HAn.out.1] at q2
    rw [HX.out.1, HX.out.2.1, HDn.out.1] at q3
    rw [HX.out.1, HX.out.2.1, HOr.out.1] at q4
    rw [HX.out.1, HX.out.2.1, HNo.out.1] at q5
    clear HNt HAn HDn HOr HNo HX
    go_wp2_with fail
    refine (wordA_is _ w28).mono ?_
    rintro e w29 ⟨rfl, hb29⟩
    have HB29 : Hid (Below W7.heap.size W7 w29) := HB28.out.trans (hb29.mono HB28.out.size)
    clear hb29
    have hq29 : Below w29.heap.size w29 (w29.alloc (.cells #[.int .i64 1, .string ⟨#[97, 108, 108]⟩, .slice none 0 0] 41)) := (Below.refl _ _).alloc (Nat.le_refl _) _
    have cQ := CH.out (w29.alloc (.cells #[.int .i64 1, .string ⟨#[97, 108, 108]⟩, .slice none 0 0] 41)) [Sr.wd [97, 108, 108]] _ (HB29.out.trans (hq29.mono HB29.out.size)) (aw_1 (Sr.wd [97, 108, 108]) ⟨#[97, 108, 108]⟩ (.slice none 0 0) w29 rfl (by decide) (aw_nil _))
    rw [(law_all (m := m) (w := [97, 108, 108]) (by decide)).1, (law_all (m := m) (w := [97, 108, 108]) (by decide)).2] at cQ
    have HQ29 : Hid (Below w29.heap.size w29 (w29.alloc (.cells #[.int .i64 1, .string ⟨#[97, 108, 108]⟩, .slice none 0 0] 41))) := hq29
    clear hq29
    go_wp2_with fail
    refine cQ.mono ?_
    rintro e w30 ⟨rfl, hb30⟩
    have HB30 : Hid (Below W7.heap.size W7 w30) := (HB29.out.trans (HQ29.out.mono HB29.out.size)).trans (hb30.mono (Nat.le_trans HB29.out.size HQ29.out.size))
    clear hb30 HQ29 cQ
    subst q1 q2 q3 q4 q5
    cases X <;> cases Y
    all_goals
      (go_wp2_with fail
       go_ret
       exact ⟨rfl, HB0.out.trans (HB30.out.mono HB0.out.size)⟩)
end Go.Proofs.YtligkpcoajnjmaaGreatDoorR
