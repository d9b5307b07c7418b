/-
  What the method quoted of wire.reader does.
-/
import Derived.Test.YtligkpcoajnjmaaDoorWireCount
import Derived.Test.YtligkpcoajnjmaaDoorBuildShelf
import Derived.Shelf.Strings.BuilderF
namespace Go.Proofs.YtligkpcoajnjmaaDoor
open Go.RowKit Go.Proofs.Aid Go.Proofs.Hd

/-- Where a reader is. -/
def atOf (w : World) (rb : Nat) : Nat := match w.cell? ⟨rb, 1, none⟩ with
  | some v => (intOf v).toNat
  | none => 0
theorem RdW.at {w : World} {rb p c : Nat} {s : ByteArray} (h : RdW w rb s p c) : atOf w rb = p := by
  have p1 : w.cell? ⟨rb, 1, none⟩ = some (.int .i64 (p : Int)) := rd_cell h rfl
  unfold atOf
  rw [p1]
  rfl
theorem builder_but {T e : TypeId} {B b rb : Nat} {bs : List Value} {w w' : World} (h : Lib.IsBuilderF T e B b bs w) (hb : But w.heap.size rb w w') (hrb : rb < B) : Lib.IsBuilderF T e B b bs w' := by
  have key : ∀ p, Lib.BuilderAtF T e B b p bs w → Lib.BuilderAtF T e B b p bs w' := by
    rintro p ⟨h1, v, h2, h3, h4⟩
    refine ⟨h1, v, (hb.block b (Array.getElem?_eq_some_iff.1 h2).1 (by omega)).trans h2, ?_, h4⟩
    refine ⟨h3.1, ?_⟩
    rcases h3.2 with h5 | ⟨g, cap, cur, fz, hv, hg, hh, r⟩
    · exact Or.inl h5
    · exact Or.inr ⟨g, cap, cur, fz, hv, hg, (hb.block g (Array.getElem?_eq_some_iff.1 hh).1 (by omega)).trans hh, r⟩
  rcases h with h | h
  · exact Or.inl (key _ h)
  · exact Or.inr (key _ h)
theorem offQ_true {x : UInt8} : offQ true x = true ↔ x.toNat ≠ 34 ∧ x.toNat ≠ 92 := by
  have h : ∀ n : Fin 256, offQ true (UInt8.ofNat n.val) = true ↔ (UInt8.ofNat n.val).toNat ≠ 34 ∧ (UInt8.ofNat n.val).toNat ≠ 92 := by decide +kernel
  have := h ⟨x.toNat, x.toNat_lt⟩
  simpa using this
theorem offQ_false {x : UInt8} : offQ false x = true ↔ x.toNat = 13 ∨ x.toNat = 10 ∨ x.toNat = 0 := by
  have h : ∀ n : Fin 256, offQ false (UInt8.ofNat n.val) = true ↔ (UInt8.ofNat n.val).toNat = 13 ∨ (UInt8.ofNat n.val).toNat = 10 ∨ (UInt8.ofNat n.val).toNat = 0 := by decide +kernel
  have := h ⟨x.toNat, x.toNat_lt⟩
  simpa using this
/-- How far quoted has come. -/
def QAt (w : World) (rb : Nat) (s : ByteArray) (c : Nat) (T : Wd Tx) (wr : World) : Prop :=
  ∃ (P f : Nat) (acc : Tx), RdW wr rb s P c ∧ P + 2 ≤ s.size ∧ s.size ≤ P + f ∧ quotedW s.data.toList P c acc f = T ∧ acc.length ≤ P ∧
    Lib.IsBuilderF 79 5 w.heap.size w.heap.size (Lib.byteCells acc) wr ∧ But w.heap.size rb w wr ∧ w.heap.size + 1 ≤ wr.heap.size
set_option maxHeartbeats 4000000 in
set_option maxRecDepth 100000 in
theorem quoted_is (rb p c : Nat) (s : ByteArray) (w : World) (hr : RdW w rb s p c) (hs : s.size ≤ 1000000) (hE : Ends s.data.toList) (hp : p + 2 ≤ s.size) :
    Calls Tryd.prog 76 #[.pointer (some ⟨rb, 0, none⟩)] w fun e w' => OutT w rb s (quotedW s.data.toList p c [] s.size) e w' := by
  obtain ⟨T, hT⟩ : ∃ T, quotedW s.data.toList p c [] s.size = T := ⟨_, rfl⟩
  rw [hT]
  have hrb := hr.lt
  have b1 : Below w.heap.size w (w.alloc (.cells #[.pointer none, .slice none 0 0] 79)) := (Below.refl _ _).alloc (Nat.le_refl _) _
  have HQ : Hid (QAt w rb s c T (w.alloc (.cells #[.pointer none, .slice none 0 0] 79))) :=
    ⟨p, s.size, [], hr.kept (b1.block rb hrb), hp, by omega, hT, by simp, Lib.IsBuilderF.of (Lib.fresh_isBuilder 79 5 w), to_but b1, by simp⟩
  have HE : Hid (Ends s.data.toList) := hE
  clear hr hT b1 hE
  go_enter Tryd.func76, Tryd.ntmps76
  go_wp2_with fail
  go_loopw [] (fun wr => Hid (QAt w rb s c T wr)) (fun wr => s.size - atOf wr rb)
  case atStart => exact HQ
  case round =>
    clear HQ
    obtain ⟨P, f, acc, hr, hP, hf, hT, hacc, hB, hbut, hsz⟩ := hrel.out
    clear hrel
    match f, hf, hT with
    | 0, hf, hT => exact absurd hf (by omega)
    | f + 1, hf, hT =>
    rw [quotedW] at hT
    cases hq : tookW [34] s.data.toList P with
    | true =>
      rw [hq, if_pos rfl] at hT
      subst hT
      have cT := took_yes 34 rb P c s wr hr hs (by omega) hq
      have HB : Hid (Lib.IsBuilderF 79 5 w.heap.size w.heap.size (Lib.byteCells acc) wr ∧ But w.heap.size rb w wr) := ⟨hB, hbut⟩
      clear hr hB hbut hq
      go_wp2_with fail
      refine cT.mono ?_
      rintro e w1 ⟨rfl, hr1, hb1⟩
      have hs1 := hb1.size
      have cS := Any.Builder_String_any_f Tryd.lays169 Tryd.Builder_Extra_169 w.heap.size w.heap.size acc w1 (builder_but HB.out.1 hb1 hrb) (by omega)
      have HD : Hid (RdW w1 rb s (P + 1) c ∧ But w.heap.size rb w w1) := ⟨hr1, HB.out.2.trans (hb1.less (by omega))⟩
      obtain ⟨X, hX⟩ : ∃ X : ByteArray, ⟨acc.toArray⟩ = X := ⟨_, rfl⟩
      have HX : Hid (X.data.toList = acc) := by rw [← hX]; exact rfl
      rw [hX] at cS
      clear cT hr1 hb1 HB hX
      go_wp2_with fail
      refine cS.mono ?_
      rintro e w2 ⟨rfl, _, hb2⟩
      have HD2 : Hid (RdW w2 rb s (P + 1) c ∧ But w.heap.size rb w w2) := ⟨HD.out.1.kept (hb2.block rb hrb), HD.out.2.trans (to_but hb2)⟩
      clear cS hb2
      go_wp2_with fail
      go_ret
      exact ⟨X, rfl, HX.out, HD2.out⟩
    | false =>
      rw [hq, if_neg (by simp)] at hT
      have cT := took_no 34 rb P c s wr hr (by omega) hq
      have HB : Hid (RdW wr rb s P c ∧ Lib.IsBuilderF 79 5 w.heap.size w.heap.size (Lib.byteCells acc) wr ∧ But w.heap.size rb w wr) := ⟨hr, hB, hbut⟩
      have hat := hr.at
      have HAT : Hid (atOf wr rb = P) := hat
      clear hr hB hbut hq hat
      go_wp2_with fail
      refine cT.mono ?_
      rintro e w1 ⟨rfl, hb1⟩
      have hs1 := hb1.size
      have HB1 : Hid (RdW w1 rb s P c ∧ Lib.IsBuilderF 79 5 w.heap.size w.heap.size (Lib.byteCells acc) w1 ∧ But w.heap.size rb w w1) := ⟨HB.out.1.kept (hb1.block rb (by omega)), isBuilderW_below HB.out.2.1 hb1, HB.out.2.2.trans (to_but (hb1.mono (by omega)))⟩
      clear cT HB hb1
      cases hq2 : tookW [92] s.data.toList P with
      | true =>
        rw [hq2, if_pos rfl] at hT
        have hP1 := HE.out.took hq2 (by decide) (by decide)
        rw [wsize] at hP1
        have cU := took_yes 92 rb P c s w1 HB1.out.1 hs (by omega) hq2
        obtain ⟨P1, hPP⟩ : ∃ q, P + 1 = q := ⟨_, rfl⟩
        rw [show P + 2 = P1 + 1 by omega, hPP] at hT
        rw [hPP] at cU hP1
        have hlt : P1 < s.size := by omega
        have hck : s.data.toList.getD P1 0 = s[P1]'hlt := by
          rw [List.getD_eq_getElem?_getD, List.getElem?_eq_getElem (by rw [wsize]; exact hlt)]; rfl
        rw [hck] at hT
        generalize hc : s[P1] = x at hT
        have h256 := x.toNat_lt
        have HT : Hid ((if offQ true x = true then Wd.bad 3 P1 else quotedW s.data.toList (P1 + 1) c (acc ++ [x]) f) = T) := hT
        clear hT hq2 hck
        go_wp2_with fail
        refine cU.mono ?_
        rintro e w2 ⟨rfl, hr2, hb2⟩
        have hs2 := hb2.size
        have HB2 : Hid (RdW w2 rb s P1 c ∧ Lib.IsBuilderF 79 5 w.heap.size w.heap.size (Lib.byteCells acc) w2 ∧ But w.heap.size rb w w2) := ⟨hr2, builder_but HB1.out.2.1 hb2 hrb, HB1.out.2.2.trans (hb2.less (by omega))⟩
        have p0 : w2.cell? ⟨rb, 0, none⟩ = some (.string s) := rd_cell HB2.out.1 rfl
        have p1 : w2.cell? ⟨rb, 1, none⟩ = some (.int .i64 (P1 : Int)) := rd_cell HB2.out.1 rfl
        clear cU HB1 hb2 hr2
        go_wp2_with fail
        have HB3 : Hid (RdW w2.drew rb s P1 c ∧ Lib.IsBuilderF 79 5 w.heap.size w.heap.size (Lib.byteCells acc) w2.drew ∧ But w.heap.size rb w w2.drew) := ⟨HB2.out.1, isBuilderW_below HB2.out.2.1 (Below.refl _ _).drew, HB2.out.2.2.trans (to_but (Below.refl _ _).drew)⟩
        have hs3 : w.heap.size + 1 ≤ w2.drew.heap.size := by show _ ≤ w2.heap.size; omega
        clear HB2
        cases hoff : offQ true x with
        | true =>
          have hT := HT.out
          rw [hoff, if_pos rfl] at hT
          subst hT
          clear HT
          have h3 := offQ_true.1 hoff
          have e1 : ((x.toNat : Int) != 34) = true := by simp; omega
          have e2 : ((x.toNat : Int) != 92) = true := by simp; omega
          clear h3
          have cF := fail_is rb P1 c 3 s w2.drew HB3.out.1
          unfold thrownA at cF
          go_region
          all_goals
            go_wp2_with fail
            refine cF.mono ?_
            rintro e w4 ⟨rfl, ha, hb4⟩
            have HD : Hid (AtIs w4 w2.drew.heap.size 3 P1 ∧ But w.heap.size rb w w4) := ⟨ha, HB3.out.2.2.trans (to_but (hb4.mono (by omega)))⟩
            clear cF ha hb4
            go_wp2_with fail
            exact ⟨rfl, _, rfl, by omega, HD.out.1, HD.out.2⟩
        | false =>
          have hT := HT.out
          rw [hoff, if_neg (by simp)] at hT
          have HT2 : Hid (quotedW s.data.toList (P1 + 1) c (acc ++ [x]) f = T) := hT
          clear HT hT
          have h3 : x.toNat = 34 ∨ x.toNat = 92 := by
            by_cases h : x.toNat ≠ 34 ∧ x.toNat ≠ 92
            · rw [offQ_true.2 h] at hoff; cases hoff
            · omega
          have HP2 : P1 + 1 + 2 ≤ s.size := by
            have := HE.out.ahead (p := P1) (x := x) (by rw [← hc, List.getElem?_eq_getElem (by rw [wsize]; exact hlt)]; rfl) (fun e => by rw [e] at h3; revert h3; decide) (fun e => by rw [e] at h3; revert h3; decide)
            rw [wsize] at this
            omega
          have e4 : ((x.toNat : Int) == 13) = false := by simp; omega
          have e5 : ((x.toNat : Int) == 10) = false := by simp; omega
          have e6 : ((x.toNat : Int) == 0) = false := by simp; omega
          clear hoff
          rcases h3 with h3 | h3
          · have e1 : ((x.toNat : Int) != 34) = false := by simp; omega
            clear h3
            have cW := wbyte_is w.heap.size w.heap.size acc x w2.drew HB3.out.2.1 (by omega) (by omega)
            go_region
            all_goals
              go_wp2_with fail
              refine cW.mono ?_
              rintro e w4 ⟨rfl, hB4, hb4, _⟩
              have hr4 : RdW w4 rb s P1 c := HB3.out.1.kept (hb4.block rb hrb)
              have p4 : w4.cell? ⟨rb, 1, none⟩ = some (.int .i64 ((P1 : Int))) := rd_cell hr4 rfl
              have f4 : w4.frozen? ⟨rb, 1, none⟩ = false := rd_free hr4 1
              have hset : RdW (w4.setCell ⟨rb, 1, none⟩ (.int .i64 ((P1 : Int) + 1))) rb s (P1 + 1) c := by
                have := rd_set (i := 1) (.int .i64 ((P1 : Int) + 1)) hr4
                unfold RdW
                rw [this]
                simp
              have hb4s := hb4.size
              have HN : Hid (QAt w rb s c T (w4.setCell ⟨rb, 1, none⟩ (.int .i64 ((P1 : Int) + 1)))) := ⟨P1 + 1, f, acc ++ [x], hset, HP2, by omega, HT2.out, by simp; omega, builder_but hB4 ((to_but (Below.refl _ _)).setB 1 _) hrb, (HB3.out.2.2.trans (to_but hb4)).setB 1 _, by simp; omega⟩
              have HM : Hid (atOf (w4.setCell ⟨rb, 1, none⟩ (.int .i64 ((P1 : Int) + 1))) rb = P1 + 1) := hset.at
              clear cW hB4 hb4 hr4 hset HT2 HB3
              go_wp2_with fail
              go_roundw
              case rel => exact HN
              case measure => rw [HM.out, HAT.out]; omega
          · have e1 : ((x.toNat : Int) != 34) = true := by simp; omega
            have e2 : ((x.toNat : Int) != 92) = false := by simp; omega
            clear h3
            have cW := wbyte_is w.heap.size w.heap.size acc x w2.drew HB3.out.2.1 (by omega) (by omega)
            go_region
            all_goals
              go_wp2_with fail
              refine cW.mono ?_
              rintro e w4 ⟨rfl, hB4, hb4, _⟩
              have hr4 : RdW w4 rb s P1 c := HB3.out.1.kept (hb4.block rb hrb)
              have p4 : w4.cell? ⟨rb, 1, none⟩ = some (.int .i64 ((P1 : Int))) := rd_cell hr4 rfl
              have f4 : w4.frozen? ⟨rb, 1, none⟩ = false := rd_free hr4 1
              have hset : RdW (w4.setCell ⟨rb, 1, none⟩ (.int .i64 ((P1 : Int) + 1))) rb s (P1 + 1) c := by
                have := rd_set (i := 1) (.int .i64 ((P1 : Int) + 1)) hr4
                unfold RdW
                rw [this]
                simp
              have hb4s := hb4.size
              have HN : Hid (QAt w rb s c T (w4.setCell ⟨rb, 1, none⟩ (.int .i64 ((P1 : Int) + 1)))) := ⟨P1 + 1, f, acc ++ [x], hset, HP2, by omega, HT2.out, by simp; omega, builder_but hB4 ((to_but (Below.refl _ _)).setB 1 _) hrb, (HB3.out.2.2.trans (to_but hb4)).setB 1 _, by simp; omega⟩
              have HM : Hid (atOf (w4.setCell ⟨rb, 1, none⟩ (.int .i64 ((P1 : Int) + 1))) rb = P1 + 1) := hset.at
              clear cW hB4 hb4 hr4 hset HT2 HB3
              go_wp2_with fail
              go_roundw
              case rel => exact HN
              case measure => rw [HM.out, HAT.out]; omega
      | false =>
        rw [hq2, if_neg (by simp)] at hT
        have cU := took_no 92 rb P c s w1 HB1.out.1 (by omega) hq2
        have hlt : P < s.size := by omega
        have hck : s.data.toList.getD P 0 = s[P]'hlt := by
          rw [List.getD_eq_getElem?_getD, List.getElem?_eq_getElem (by rw [wsize]; exact hlt)]; rfl
        rw [hck] at hT
        generalize hc : s[P] = x at hT
        have h256 := x.toNat_lt
        have HT : Hid ((if offQ false x = true then Wd.bad 3 P else quotedW s.data.toList (P + 1) c (acc ++ [x]) f) = T) := hT
        clear hT hq2 hck
        go_wp2_with fail
        refine cU.mono ?_
        rintro e w2 ⟨rfl, hb2⟩
        have hs2 := hb2.size
        have HB2 : Hid (RdW w2 rb s P c ∧ Lib.IsBuilderF 79 5 w.heap.size w.heap.size (Lib.byteCells acc) w2 ∧ But w.heap.size rb w w2) := ⟨HB1.out.1.kept (hb2.block rb (by omega)), isBuilderW_below HB1.out.2.1 hb2, HB1.out.2.2.trans (to_but (hb2.mono (by omega)))⟩
        have p0 : w2.cell? ⟨rb, 0, none⟩ = some (.string s) := rd_cell HB2.out.1 rfl
        have p1 : w2.cell? ⟨rb, 1, none⟩ = some (.int .i64 (P : Int)) := rd_cell HB2.out.1 rfl
        clear cU HB1 hb2
        go_wp2_with fail
        have HB3 : Hid (RdW w2.drew rb s P c ∧ Lib.IsBuilderF 79 5 w.heap.size w.heap.size (Lib.byteCells acc) w2.drew ∧ But w.heap.size rb w w2.drew) := ⟨HB2.out.1, isBuilderW_below HB2.out.2.1 (Below.refl _ _).drew, HB2.out.2.2.trans (to_but (Below.refl _ _).drew)⟩
        have hs3 : w.heap.size + 1 ≤ w2.drew.heap.size := by show _ ≤ w2.heap.size; omega
        clear HB2
        cases hoff : offQ false x with
        | true =>
          have hT := HT.out
          rw [hoff, if_pos rfl] at hT
          subst hT
          clear HT
          rcases offQ_false.1 hoff with h3 | h3 | h3
          · have e1 : ((x.toNat : Int) == 13) = true := by simp; omega
            clear h3
            have cF := fail_is rb P c 3 s w2.drew HB3.out.1
            unfold thrownA at cF
            go_region
            all_goals
              go_wp2_with fail
              refine cF.mono ?_
              rintro e w4 ⟨rfl, ha, hb4⟩
              have HD : Hid (AtIs w4 w2.drew.heap.size 3 P ∧ But w.heap.size rb w w4) := ⟨ha, HB3.out.2.2.trans (to_but (hb4.mono (by omega)))⟩
              clear cF ha hb4
              go_wp2_with fail
              exact ⟨rfl, _, rfl, by omega, HD.out.1, HD.out.2⟩
          · have e1 : ((x.toNat : Int) == 13) = false := by simp; omega
            have e2 : ((x.toNat : Int) == 10) = true := by simp; omega
            clear h3
            have cF := fail_is rb P c 3 s w2.drew HB3.out.1
            unfold thrownA at cF
            go_region
            all_goals
              go_wp2_with fail
              refine cF.mono ?_
              rintro e w4 ⟨rfl, ha, hb4⟩
              have HD : Hid (AtIs w4 w2.drew.heap.size 3 P ∧ But w.heap.size rb w w4) := ⟨ha, HB3.out.2.2.trans (to_but (hb4.mono (by omega)))⟩
              clear cF ha hb4
              go_wp2_with fail
              exact ⟨rfl, _, rfl, by omega, HD.out.1, HD.out.2⟩
          · have e1 : ((x.toNat : Int) == 13) = false := by simp; omega
            have e2 : ((x.toNat : Int) == 10) = false := by simp; omega
            have e3 : ((x.toNat : Int) == 0) = true := by simp; omega
            clear h3
            have cF := fail_is rb P c 3 s w2.drew HB3.out.1
            unfold thrownA at cF
            go_region
            all_goals
              go_wp2_with fail
              refine cF.mono ?_
              rintro e w4 ⟨rfl, ha, hb4⟩
              have HD : Hid (AtIs w4 w2.drew.heap.size 3 P ∧ But w.heap.size rb w w4) := ⟨ha, HB3.out.2.2.trans (to_but (hb4.mono (by omega)))⟩
              clear cF ha hb4
              go_wp2_with fail
              exact ⟨rfl, _, rfl, by omega, HD.out.1, HD.out.2⟩
        | false =>
          have hT := HT.out
          rw [hoff, if_neg (by simp)] at hT
          have HT2 : Hid (quotedW s.data.toList (P + 1) c (acc ++ [x]) f = T) := hT
          clear HT hT
          have h3 : ¬ (x.toNat = 13 ∨ x.toNat = 10 ∨ x.toNat = 0) := fun h => by rw [offQ_false.2 h] at hoff; cases hoff
          have e1 : ((x.toNat : Int) == 13) = false := by simp; omega
          have e2 : ((x.toNat : Int) == 10) = false := by simp; omega
          have e3 : ((x.toNat : Int) == 0) = false := by simp; omega
          have HP2 : P + 1 + 2 ≤ s.size := by
            have := HE.out.ahead (p := P) (x := x) (by rw [← hc, List.getElem?_eq_getElem (by rw [wsize]; exact hlt)]; rfl) (fun e => h3 (Or.inl (by rw [e]; rfl))) (fun e => h3 (Or.inr (Or.inl (by rw [e]; rfl))))
            rw [wsize] at this
            omega
          clear hoff h3
          have cW := wbyte_is w.heap.size w.heap.size acc x w2.drew HB3.out.2.1 (by omega) (by omega)
          go_region
          all_goals
            go_wp2_with fail
            refine cW.mono ?_
            rintro e w4 ⟨rfl, hB4, hb4, _⟩
            have hr4 : RdW w4 rb s P c := HB3.out.1.kept (hb4.block rb hrb)
            have p4 : w4.cell? ⟨rb, 1, none⟩ = some (.int .i64 ((P : Int))) := rd_cell hr4 rfl
            have f4 : w4.frozen? ⟨rb, 1, none⟩ = false := rd_free hr4 1
            have hset : RdW (w4.setCell ⟨rb, 1, none⟩ (.int .i64 ((P : Int) + 1))) rb s (P + 1) c := by
              have := rd_set (i := 1) (.int .i64 ((P : Int) + 1)) hr4
              unfold RdW
              rw [this]
              simp
            have hb4s := hb4.size
            have HN : Hid (QAt w rb s c T (w4.setCell ⟨rb, 1, none⟩ (.int .i64 ((P : Int) + 1)))) := ⟨P + 1, f, acc ++ [x], hset, HP2, by omega, HT2.out, by simp; omega, builder_but hB4 ((to_but (Below.refl _ _)).setB 1 _) hrb, (HB3.out.2.2.trans (to_but hb4)).setB 1 _, by simp; omega⟩
            have HM : Hid (atOf (w4.setCell ⟨rb, 1, none⟩ (.int .i64 ((P : Int) + 1))) rb = P + 1) := hset.at
            clear cW hB4 hb4 hr4 hset HT2 HB3
            go_wp2_with fail
            go_roundw
            case rel => exact HN
            case measure => rw [HM.out, HAT.out]; omega
end Go.Proofs.YtligkpcoajnjmaaDoor
