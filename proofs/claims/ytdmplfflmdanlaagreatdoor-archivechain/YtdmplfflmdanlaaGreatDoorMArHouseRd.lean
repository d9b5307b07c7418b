/-
  A house that a reader of package archive reads, whatever is read of its letters.
-/
import Derived.Test.YtdmplfflmdanlaaGreatDoorBpArLetter
namespace Go.Proofs.YtdmplfflmdanlaaGreatDoor
open Go.RowKit Go.Proofs.Aid Go.Proofs.Bx

theorem atrim_len (s p : Nm) : (Lib.trimPrefix s p).length ≤ s.length := by
  unfold Lib.trimPrefix
  split
  · simp
  · exact Nat.le_refl _
theorem HoI.frame {w wr : World} {rb sb : Nat} {s : Nm} {nx : Int} {nv bv wv : Value} {N W : List Nm} {L : List Bxd} (h : HoI w rb sb s nx nv bv wv N W L wr) (i : Nat) (v : Value) : Below w.heap.size wr (wr.setCell ⟨sb, i, none⟩ v) ∧ Oth 26 wr (wr.setCell ⟨sb, i, none⟩ v) ∧ (wr.setCell ⟨sb, i, none⟩ v).heap[w.heap.size]? = wr.heap[w.heap.size]? := by
  have hb : But wr.heap.size sb wr (wr.setCell ⟨sb, i, none⟩ v) := (to_but (Below.refl _ _)).setB i v
  have hl := h.low
  refine ⟨hb.below h.but.size (by omega), fun j o hj _ hn => ?_, hb.block _ (Array.getElem?_eq_some_iff.1 h.res).1 (by omega)⟩
  refine (hb.block j (Array.getElem?_eq_some_iff.1 hj).1 fun e => ?_).trans hj
  rw [e, h.cells] at hj
  exact hn _ _ (Option.some.inj hj).symm
theorem HoI.put {w wr : World} {rb sb : Nat} {s : Nm} {nx nx' : Int} {nv nv' bv wv wv' : Value} {N N' W W' : List Nm} {L : List Bxd} (h : HoI w rb sb s nx nv bv wv N W L wr) (i : Nat) (v : Value) (hc : (#[nv, bv, wv, .int .i64 nx] : Array Value).setIfInBounds i v = #[nv', bv, wv', .int .i64 nx']) (hn : NRow wr w.heap.size nv' N') (hw : NRow wr w.heap.size wv' W') : HoI w rb sb s nx' nv' bv wv' N' W' L (wr.setCell ⟨sb, i, none⟩ v) := by
  obtain ⟨b1, o1, r1⟩ := h.frame i v
  obtain ⟨R, q1, q2⟩ := h.rd
  exact ⟨⟨R, q1, oth_cells o1 q2 (by decide)⟩, h.env.low b1 h.glob, h.but.trans (to_but b1), hc ▸ rd_set v h.cells, r1.trans h.res, own_oth hn o1 (by decide), own_oth hw o1 (by decide), h.boxes.oth o1 (by decide) (by decide) (by decide), h.low, h.glob⟩
set_option maxHeartbeats 16000000 in
set_option maxRecDepth 100000 in
theorem rhouse_is (f : FuncId) (caps : List Value) (One : Int → Nm → List Lt → Nm → Prop) (rb : Nat) (bg sx : ByteArray) (s0 : Nm) (w : World) (h : Rdr rb s0 w) (hE : RdE w) (hs : sx.size ≤ 1000000000) (hlen : ∀ v s l s', One v s l s' → s'.length ≤ s.length) (eg : ∀ args w, (callFunc f args).run Tryz.prog w = .ok (.enter f args) w) (HC : Reads f caps One rb w) :
    Calls Tryz.prog 49 #[.pointer (some ⟨rb, 0, none⟩), .string bg, .string sx, .func (.func f) #[] caps.toArray] w fun e w' => (∃ nv bv wv S s', HouseR One (Lib.trimPrefix sx.data.toList bg.data.toList) S s' ∧ e = .returned (.agg #[nv, bv, wv, .int .i64 S.next]) ∧ NRow w' w.heap.size nv S.names ∧ BNew w' w.heap.size bv S.boxes ∧ NRow w' w.heap.size wv S.wants) ∧ But w.heap.size rb w w' := by
  have cP := fun W => Tryz.strings_TrimPrefix sx bg W
  have hz := atrim_len sx.data.toList bg.data.toList
  rw [asz] at hz
  obtain ⟨pb, hpb⟩ : ∃ t : ByteArray, ⟨(Lib.trimPrefix sx.data.toList bg.data.toList).toArray⟩ = t := ⟨_, rfl⟩
  have hpl : pb.data.toList = Lib.trimPrefix sx.data.toList bg.data.toList := by rw [← hpb]
  rw [hpb] at cP
  rw [← hpl] at hz ⊢
  obtain ⟨S, hS⟩ : ∃ t, pb.data.toList = t := ⟨_, rfl⟩
  rw [hS] at hz ⊢
  have l1 := until_len 59 S
  have l2 := readRow_len (fun s => (atext_len s).1) 60 (untilS 59 S).2
  have l3 := readRow_len (fun s => (atext_len s).1) 30 (readRowS 60 textS (untilS 59 S).2).2
  have hG : ∀ Z s', HouseR One S Z s' ↔ (Z.next = (untilS 59 S).1 ∧ Z.wants = (readRowS 60 textS (untilS 59 S).2).1 ∧ Z.names = (readRowS 30 textS (readRowS 60 textS (untilS 59 S).2).2).1 ∧ RowR (BoxR One) Z.names.length (readRowS 30 textS (readRowS 60 textS (untilS 59 S).2).2).2 Z.boxes s') := fun Z s' => Iff.rfl
  have cN := fun W (hr : Rdr rb S W) (he : RdE W) => rnumber_is rb S W hr he (by omega)
  have cW := fun W (hr : Rdr rb (untilS 59 S).2 W) (he : RdE W) => rtexts_is rb 60 _ W hr he (by omega) (by omega)
  have cA := fun W (hr : Rdr rb (readRowS 60 textS (untilS 59 S).2).2 W) (he : RdE W) => rtexts_is rb 30 _ W hr he (by omega) (by omega)
  have hNl : (readRowS 30 textS (readRowS 60 textS (untilS 59 S).2).2).1.length ≤ 30 := by
    have key : ∀ k s, (rowS textS k s).1.length = k := by
      intro k
      induction k with
      | zero => intro s; rfl
      | succ k ih => intro s; rw [rowS_succ, List.length_cons, ih]
    unfold readRowS
    rw [key]
    exact Nat.min_le_right _ _
  obtain ⟨X, hX⟩ : ∃ x, (untilS 59 S).1 = x := ⟨_, rfl⟩
  obtain ⟨s1, hs1⟩ : ∃ x, (untilS 59 S).2 = x := ⟨_, rfl⟩
  rw [hX, hs1] at cN
  rw [hs1] at cW cA hNl l2 l3
  obtain ⟨WL, hWL⟩ : ∃ x, (readRowS 60 textS s1).1 = x := ⟨_, rfl⟩
  obtain ⟨s2, hs2⟩ : ∃ x, (readRowS 60 textS s1).2 = x := ⟨_, rfl⟩
  rw [hWL, hs2] at cW
  rw [hs2] at cA hNl l2 l3
  obtain ⟨NL, hNL⟩ : ∃ x, (readRowS 30 textS s2).1 = x := ⟨_, rfl⟩
  obtain ⟨s3, hs3⟩ : ∃ x, (readRowS 30 textS s2).2 = x := ⟨_, rfl⟩
  rw [hNL, hs3] at cA
  rw [hNL] at hNl
  rw [hs3] at l3
  simp only [hX, hs1, hWL, hs2, hNL, hs3] at hG
  rw [hs1] at l1
  obtain ⟨M, hM⟩ : ∃ n, NL.length = n := ⟨_, rfl⟩
  rw [hM] at hNl
  have HHR : Hid (∀ L s', RowR (BoxR One) M s3 L s' → HouseR One S ⟨NL, L, WL, X⟩ s') := fun L s' hL => (hG _ _).2 ⟨rfl, rfl, rfl, by show RowR (BoxR One) NL.length s3 L s'; rw [hM]; exact hL⟩
  -- the two cells of a house, the reader's own
  obtain ⟨R0, hR0, hh0⟩ := id h
  obtain ⟨W1, hW1⟩ : ∃ W, w.alloc (.cells #[.slice none 0 0, .slice none 0 0, .slice none 0 0, .int .i64 0] 26) = W := ⟨_, rfl⟩
  have b1 : Below w.heap.size w W1 := by rw [← hW1]; exact (Below.refl _ _).alloc (Nat.le_refl _) _
  have e1 : W1.heap[w.heap.size]? = some (.cells #[.slice none 0 0, .slice none 0 0, .slice none 0 0, .int .i64 0] 26 (0, 0)) := by rw [← hW1]; exact heap_alloc_new _ _
  have z1 : W1.heap.size = w.heap.size + 1 := by rw [← hW1]; simp
  have r1 : W1.heap[rb]? = some (.cells #[.string R0] 108 (0, 0)) := (b1.block rb h.lt).trans hh0
  have c1 : W1.cell? ⟨rb, 0, none⟩ = some (.string R0) := rd_cell r1 rfl
  have f1 : W1.frozen? ⟨rb, 0, none⟩ = false := rd_free r1 0
  obtain ⟨W2, hW2⟩ : ∃ W, W1.setCell ⟨rb, 0, none⟩ (.string pb) = W := ⟨_, rfl⟩
  have r2 : Rdr rb S W2 := by rw [← hW2]; exact ⟨pb, hS, rd_set (i := 0) (.string pb) r1⟩
  have b2 : But W1.heap.size rb W1 W2 := by rw [← hW2]; exact (to_but (Below.refl _ _)).setB 0 _
  have z2 : W2.heap.size = w.heap.size + 1 := by rw [← z1, ← hW2]; simp
  obtain ⟨sb, hsb⟩ : ∃ n, W2.heap.size = n := ⟨_, rfl⟩
  obtain ⟨W3, hW3⟩ : ∃ W, W2.alloc (.cells #[.slice none 0 0, .slice none 0 0, .slice none 0 0, .int .i64 0] 26) = W := ⟨_, rfl⟩
  have b3 : Below W2.heap.size W2 W3 := by rw [← hW3]; exact (Below.refl _ _).alloc (Nat.le_refl _) _
  have e3 : W3.heap[sb]? = some (.cells #[.slice none 0 0, .slice none 0 0, .slice none 0 0, .int .i64 0] 26 (0, 0)) := by rw [← hW3, ← hsb]; exact heap_alloc_new _ _
  have hrlt := h.lt
  have HST : Hid (HoI w rb sb S 0 (.slice none 0 0) (.slice none 0 0) (.slice none 0 0) [] [] [] W3) :=
    ⟨r2.below b3, ((hE.below b1).but ⟨R0, hR0, r1⟩ b2).below b3, ((to_but b1).trans (b2.less (by omega))).trans (to_but (b3.mono (by omega))), e3, (b3.block _ (by omega)).trans ((b2.block _ (by omega) (by omega)).trans e1), World.ownsRow_nil _ _ _ _, World.ownsRow_nil _ _ _ _, BNew.nil _ _, ⟨hrlt, by omega⟩, hE.lt⟩
  have HX : Hid (Reads f caps One rb w ∧ (∀ v s l s', One v s l s' → s'.length ≤ s.length) ∧ s3.length ≤ 1000000000 ∧ NL.length = M) := ⟨HC, hlen, by omega, hM⟩
  have HSG : Hid (rb < w.heap.size ∧ w.heap.size < sb) := HST.out.low
  clear hG l1 l2 l3 hX hs1 hWL hs2 hNL hs3 hM HC hlen hz hpb hpl hS hR0 hh0 b1 e1 z1 r1 r2 b2 z2 b3 e3 hrlt h hE hs
  go_enter Tryz.func49, Tryz.ntmps49
  go_wp2_with fail
  refine (cP W1).mono ?_
  rintro e w' ⟨rfl, rfl⟩
  clear cP
  go_wp2_with fail
  refine (cN W3 HST.out.rd HST.out.env).mono ?_
  rintro e w5 ⟨rfl, h5, k5⟩
  have H5 : Hid (HoI w rb sb s1 0 (.slice none 0 0) (.slice none 0 0) (.slice none 0 0) [] [] [] w5) := HST.out.call h5 k5
  clear cN h5 k5 HST hW3 hW2 hW1 hsb
  obtain ⟨⟨c0, c1, c2, c3⟩, ⟨f0, f1, f2, f3⟩, _⟩ := four_facts H5.out.cells (.slice none 0 0) (.slice none 0 0) (.slice none 0 0) (.int .i64 0)
  have H6 : Hid (HoI w rb sb s1 X (.slice none 0 0) (.slice none 0 0) (.slice none 0 0) [] [] [] (w5.setCell ⟨sb, 3, none⟩ (.int .i64 X))) := H5.out.put 3 _ rfl H5.out.names H5.out.wants
  obtain ⟨W6, hW6⟩ : ∃ W, w5.setCell ⟨sb, 3, none⟩ (.int .i64 X) = W := ⟨_, rfl⟩
  rw [hW6] at H6
  clear H5
  go_wp2_with fail
  refine (cW W6 H6.out.rd H6.out.env).mono ?_
  rintro e w7 ⟨⟨wv, rfl, hn7⟩, h7, k7⟩
  obtain ⟨wa, wc, rfl⟩ := row_form hn7
  have H7 : Hid (HoI w rb sb s2 X (.slice none 0 0) (.slice none 0 0) (.slice none 0 0) [] [] [] w7) := H6.out.call h7 k7
  have HN7 : Hid (NRow w7 w.heap.size (.slice wa WL.length wc) WL) := own_lower hn7 H6.out.but.size
  clear cW h7 k7 hn7 H6 c0 c1 c2 c3 f0 f1 f2 f3 hW6
  obtain ⟨⟨c0, c1, c2, c3⟩, ⟨f0, f1, f2, f3⟩, _⟩ := four_facts H7.out.cells (.slice none 0 0) (.slice none 0 0) (.slice none 0 0) (.int .i64 0)
  obtain ⟨WN, hWN⟩ : ∃ n, WL.length = n := ⟨_, rfl⟩
  have HWN : Hid (WL.length = WN) := hWN
  have H8 : Hid (HoI w rb sb s2 X (.slice none 0 0) (.slice none 0 0) (.slice wa WL.length wc) [] WL [] (w7.setCell ⟨sb, 2, none⟩ (.slice wa WL.length wc))) := H7.out.put 2 _ rfl H7.out.names HN7.out
  rw [hWN] at H8 ⊢
  obtain ⟨W8, hW8⟩ : ∃ W, w7.setCell ⟨sb, 2, none⟩ (.slice wa WN wc) = W := ⟨_, rfl⟩
  rw [hW8] at H8
  clear H7 HN7 hWN
  go_wp2_with fail
  refine (cA W8 H8.out.rd H8.out.env).mono ?_
  rintro e w9 ⟨⟨nv, rfl, hn9⟩, h9, k9⟩
  obtain ⟨na, nc, rfl⟩ := row_form hn9
  have H9 : Hid (HoI w rb sb s3 X (.slice none 0 0) (.slice none 0 0) (.slice wa WN wc) [] WL [] w9) := H8.out.call h9 k9
  have HN9 : Hid (NRow w9 w.heap.size (.slice na NL.length nc) NL) := own_lower hn9 H8.out.but.size
  clear cA h9 k9 hn9 H8 c0 c1 c2 c3 f0 f1 f2 f3 hW8
  obtain ⟨⟨c0, c1, c2, c3⟩, ⟨f0, f1, f2, f3⟩, _⟩ := four_facts H9.out.cells (.slice none 0 0) (.slice none 0 0) (.slice none 0 0) (.int .i64 0)
  have H10 : Hid (HoI w rb sb s3 X (.slice na NL.length nc) (.slice none 0 0) (.slice wa WN wc) NL WL [] (w9.setCell ⟨sb, 0, none⟩ (.slice na NL.length nc))) := H9.out.put 0 _ rfl HN9.out H9.out.wants
  rw [HX.out.2.2.2] at H10 ⊢
  obtain ⟨W10, hW10⟩ : ∃ W, w9.setCell ⟨sb, 0, none⟩ (.slice na M nc) = W := ⟨_, rfl⟩
  rw [hW10] at H10
  clear H9 HN9
  obtain ⟨⟨e0, e1, e2, e3⟩, ⟨_, _, _, _⟩, _⟩ := four_facts H10.out.cells (.slice none 0 0) (.slice none 0 0) (.slice none 0 0) (.int .i64 0)
  go_wp2_with fail
  clear c0 c1 c2 c3 e0 e1 e2 e3 f0 f1 f2 f3 hW10
  go_loopw [33] (fun iv wr => ∃ k : Nat, iv = .int .i64 (k : Int) ∧ k ≤ M ∧ Hid (∃ s' bv L, HoI w rb sb s' X (.slice na M nc) bv (.slice wa WN wc) NL WL L wr ∧ L.length = k ∧ s'.length ≤ 1000000000 ∧ RowR (BoxR One) k s3 L s')) (fun iv _ => M - (intOf iv).toNat)
  case atStart => exact ⟨0, rfl, Nat.zero_le _, s3, _, [], H10.out, rfl, HX.out.2.2.1, rfl, rfl⟩
  case round =>
    obtain ⟨k, rfl, hk, HI⟩ := hrel
    obtain ⟨s', bv, L, h1, h2, h3, h4⟩ := HI.out
    clear HI
    obtain ⟨ba, bc, rfl⟩ := h1.boxes.form
    rw [h2] at h1
    have HI : Hid (HoI w rb sb s' X (.slice na M nc) (.slice ba k bc) (.slice wa WN wc) NL WL L wr) := h1
    have HJ : Hid (L.length = k ∧ s'.length ≤ 1000000000 ∧ RowR (BoxR One) k s3 L s') := ⟨h2, h3, h4⟩
    clear h1 h2 h3 h4
    by_cases hlt : k < M
    · have d1 : decide ((k : Int) < (M : Int)) = true := decide_eq_true (by omega)
      have HS : Hid (k < M) := hlt
      obtain ⟨bb, hbb⟩ : ∃ n, wr.heap.size = n := ⟨_, rfl⟩
      have HB : Hid (BxI wr rb wr.heap.size s' #[.int .i64 0, .int .i64 0, .slice none 0 0] (wr.alloc (.cells #[.int .i64 0, .int .i64 0, .slice none 0 0] 66))) := BxI.start HI.out.rd HI.out.env
      obtain ⟨Wb, hWb⟩ : ∃ W, wr.alloc (.cells #[.int .i64 0, .int .i64 0, .slice none 0 0] 66) = W := ⟨_, rfl⟩
      rw [hWb, hbb] at HB
      have l1 := until_len 59 s'
      have l2 := until_len 59 (untilS 59 s').2
      have l4 := HJ.out.2.1
      have hge := (until_ge 59 s').1
      have cV := fun W (hr : Rdr rb s' W) (he : RdE W) => rnumber_is rb s' W hr he (by omega)
      have cX := fun W (hr : Rdr rb (untilS 59 s').2 W) (he : RdE W) => rnumber_is rb _ W hr he (by omega)
      have cF := fun W (hw : But w.heap.size rb w W) (hr : Rdr rb (untilS 59 (untilS 59 s').2).2 W) (he : RdE W) => HX.out.1 (untilS 59 s').1 _ W hge hw hr he (by omega)
      have hG : ∀ x s'', BoxR One s' x s'' ↔ (x.v = (untilS 59 s').1 ∧ x.n = (untilS 59 (untilS 59 s').2).1 ∧ One x.v (untilS 59 (untilS 59 s').2).2 x.ls s'') := fun x s'' => Iff.rfl
      obtain ⟨A, hA⟩ : ∃ x, (untilS 59 s').1 = x := ⟨_, rfl⟩
      obtain ⟨t1, ht1⟩ : ∃ x, (untilS 59 s').2 = x := ⟨_, rfl⟩
      rw [hA, ht1] at cV
      rw [ht1] at cX
      rw [hA, ht1] at cF
      obtain ⟨Y, hY⟩ : ∃ x, (untilS 59 t1).1 = x := ⟨_, rfl⟩
      obtain ⟨t2, ht2⟩ : ∃ x, (untilS 59 t1).2 = x := ⟨_, rfl⟩
      rw [hY, ht2] at cX
      rw [ht2] at cF
      simp only [hA, ht1, hY, ht2] at hG
      rw [ht1] at l1
      rw [ht1, ht2] at l2
      have HG : Hid ((∀ ls t3, One A t2 ls t3 → BoxR One s' ⟨A, Y, ls⟩ t3) ∧ t2.length ≤ 1000000000) := ⟨fun ls t3 h => (hG _ _).2 ⟨rfl, rfl, h⟩, by omega⟩
      have HLW : Hid (wr.heap.size = bb) := hbb
      clear l1 l2 l4 hge hG hA ht1 hY ht2
      go_wp2_with fail
      refine (cV Wb HB.out.rd HB.out.env).mono ?_
      rintro e w11 ⟨rfl, h11, k11⟩
      have H11 : Hid (BxI wr rb bb t1 #[.int .i64 0, .int .i64 0, .slice none 0 0] w11) := HB.out.call h11 k11
      obtain ⟨⟨c0, c1, c2⟩, f0, f1, f2⟩ := box3_facts H11.out.cells
      have H12 : Hid (BxI wr rb bb t1 #[.int .i64 A, .int .i64 0, .slice none 0 0] (w11.setCell ⟨bb, 0, none⟩ (.int .i64 A))) := H11.out.set 0 _
      obtain ⟨W12, hW12⟩ : ∃ W, w11.setCell ⟨bb, 0, none⟩ (.int .i64 A) = W := ⟨_, rfl⟩
      rw [hW12] at H12
      clear cV h11 k11 HB H11 hWb hbb
      go_wp2_with fail
      refine (cX W12 H12.out.rd H12.out.env).mono ?_
      rintro e w13 ⟨rfl, h13, k13⟩
      have H13 : Hid (BxI wr rb bb t2 #[.int .i64 A, .int .i64 0, .slice none 0 0] w13) := H12.out.call h13 k13
      clear c0 c1 c2 f0 f1 f2
      obtain ⟨⟨c0, c1, c2⟩, f0, f1, f2⟩ := box3_facts H13.out.cells
      have H14 : Hid (BxI wr rb bb t2 #[.int .i64 A, .int .i64 Y, .slice none 0 0] (w13.setCell ⟨bb, 1, none⟩ (.int .i64 Y))) := H13.out.set 1 _
      obtain ⟨W14, hW14⟩ : ∃ W, w13.setCell ⟨bb, 1, none⟩ (.int .i64 Y) = W := ⟨_, rfl⟩
      rw [hW14] at H14
      clear cX h13 k13 H12 H13 hW12
      obtain ⟨⟨e0, e1, e2⟩, _, _, _⟩ := box3_facts H14.out.cells
      have cF2 := cF W14 (HI.out.but.trans (H14.out.but.less HI.out.but.size)) H14.out.rd H14.out.env
      clear cF
      go_wp2_with fail
      refine cF2.mono ?_
      rintro e w15 ⟨ls, t3, hOne, ⟨la, lc, rfl, hl15⟩, h15, k15⟩
      have HG3 : Hid (BoxR One s' ⟨A, Y, ls⟩ t3 ∧ t3.length ≤ 1000000000) := ⟨HG.out.1 _ _ hOne, Nat.le_trans (HX.out.2.1 _ _ _ _ hOne) HG.out.2⟩
      clear hOne
      have H15 : Hid (BxI wr rb bb t3 #[.int .i64 A, .int .i64 Y, .slice none 0 0] w15) := H14.out.call h15 k15
      clear c0 c1 c2 e0 e1 e2 f0 f1 f2
      obtain ⟨⟨c0, c1, c2⟩, f0, f1, f2⟩ := box3_facts H15.out.cells
      have H16 : Hid (BxI wr rb bb t3 #[.int .i64 A, .int .i64 Y, .slice la ls.length lc] (w15.setCell ⟨bb, 2, none⟩ (.slice la ls.length lc))) := H15.out.set 2 _
      have HL16 : Hid (LNew (w15.setCell ⟨bb, 2, none⟩ (.slice la ls.length lc)) w.heap.size (.slice la ls.length lc) ls) := lnew_set (hl15.lower (Nat.le_trans HI.out.but.size H14.out.but.size)) H15.out.cells
      obtain ⟨LN, hLN⟩ : ∃ n, ls.length = n := ⟨_, rfl⟩
      have HLN : Hid (ls.length = LN) := hLN
      rw [hLN] at H16 HL16 ⊢
      obtain ⟨W16, hW16⟩ : ∃ W, w15.setCell ⟨bb, 2, none⟩ (.slice la LN lc) = W := ⟨_, rfl⟩
      rw [hW16] at H16 HL16
      clear cF2 h15 k15 H14 H15 hW14 hl15 hLN
      obtain ⟨⟨e0, e1, e2⟩, _, _, _⟩ := box3_facts H16.out.cells
      have HI2 : Hid (HoI w rb sb t3 X (.slice na M nc) (.slice ba k bc) (.slice wa WN wc) NL WL L W16) := HI.out.call H16.out.rd H16.out.but
      have s1 : W16.cell? ⟨sb, 1, none⟩ = some (.slice ba k bc) := rd_cell HI2.out.cells rfl
      obtain ⟨g9, cap9, W9, hap, hnew, hb9, ho9⟩ := bnew_push (by rw [HJ.out.1]; exact HI2.out.boxes) (by have := HJ.out.1; have := HS.out; omega) ⟨A, Y, ls⟩ la lc (by rw [HLN.out]; exact HL16.out) HI2.out.but.size
      rw [HJ.out.1] at hap hnew
      simp only [HLN.out] at hap
      have HAP : Hid ((Builtin.append_ #[24, 24] 24 #[.slice ba k bc, .slice (some ⟨W16.heap.size, 0, none⟩) 1 1]).run Tryz.prog (W16.alloc (.cells #[.int .i64 A, .int .i64 Y, .slice la LN lc] 66)) = .ok (.slice (some ⟨g9, 0, none⟩) (k + 1) cap9) W9) := hap
      have hc9 := oth_cells ho9 HI2.out.cells (by decide)
      have s9 : W9.cell? ⟨sb, 1, none⟩ = some (.slice ba k bc) := rd_cell hc9 rfl
      have g91 : W9.frozen? ⟨sb, 1, none⟩ = false := rd_free hc9 1
      have HF : Hid (∃ s' bv L', HoI w rb sb s' X (.slice na M nc) bv (.slice wa WN wc) NL WL L' (W9.setCell ⟨sb, 1, none⟩ (.slice (some ⟨g9, 0, none⟩) (k + 1) cap9)) ∧ L'.length = k + 1 ∧ s'.length ≤ 1000000000 ∧ RowR (BoxR One) (k + 1) s3 L' s') := by
        refine ⟨t3, _, L ++ [⟨A, Y, ls⟩], HI2.out.oth hb9 ho9 (by decide) (by decide) (by decide) hnew, by rw [List.length_append, HJ.out.1]; rfl, HG3.out.2, L, _, s', rfl, HJ.out.2.2, HG3.out.1⟩
      clear hap hnew hb9 ho9 hc9 H16 HL16 HI HI2 HJ HG HG3
      go_wp2_with (at_builtin; go_must (refine Go.Lib.wpList_append_run _ rfl (.tmp 47) (.tmp 49) 24 24 rfl _ _ rfl rfl _ W9 HAP.out ?_))
      go_roundw
      case rel => exact ⟨k + 1, by go_num, by have := HS.out; omega, HF⟩
      case measure => have := HS.out; simp [intOf]; omega
    · have d1 : decide ((k : Int) < (M : Int)) = false := decide_eq_false (by omega)
      obtain rfl : k = M := by omega
      obtain ⟨⟨c0, c1, c2, c3⟩, _, _⟩ := four_facts HI.out.cells (.slice none 0 0) (.slice none 0 0) (.slice none 0 0) (.int .i64 0)
      obtain ⟨⟨q0, q1, q2, q3⟩, ⟨f0, f1, f2, f3⟩, u⟩ := four_facts HI.out.res (.slice na k nc) (.slice ba k bc) (.slice wa WN wc) (.int .i64 X)
      obtain ⟨W9, hW9⟩ : ∃ W, ((((wr.setCell ⟨w.heap.size, 0, none⟩ (.slice na k nc)).setCell ⟨w.heap.size, 1, none⟩ (.slice ba k bc)).setCell ⟨w.heap.size, 2, none⟩ (.slice wa WN wc)).setCell ⟨w.heap.size, 3, none⟩ (.int .i64 X)) = W := ⟨_, rfl⟩
      have hbut : But wr.heap.size w.heap.size wr W9 := by rw [← hW9]; exact ((((to_but (Below.refl _ _)).setB 0 _).setB 1 _).setB 2 _).setB 3 _
      rw [hW9] at u
      have ho : Oth 26 wr W9 := fun j o hj _ hn => by
        refine (hbut.block j (Array.getElem?_eq_some_iff.1 hj).1 fun e => ?_).trans hj
        rw [e, HI.out.res] at hj
        exact hn _ _ (Option.some.inj hj).symm
      have u0 : W9.cell? ⟨w.heap.size, 0, none⟩ = some (.slice na k nc) := rd_cell u rfl
      have u1 : W9.cell? ⟨w.heap.size, 1, none⟩ = some (.slice ba k bc) := rd_cell u rfl
      have u2 : W9.cell? ⟨w.heap.size, 2, none⟩ = some (.slice wa WN wc) := rd_cell u rfl
      have u3 : W9.cell? ⟨w.heap.size, 3, none⟩ = some (.int .i64 X) := rd_cell u rfl
      have HF : Hid ((NRow W9 w.heap.size (.slice na k nc) NL ∧ BNew W9 w.heap.size (.slice ba k bc) L ∧ NRow W9 w.heap.size (.slice wa WN wc) WL) ∧ HouseR One S ⟨NL, L, WL, X⟩ s' ∧ But w.heap.size rb w W9) := by
        exact ⟨⟨own_oth HI.out.names ho (by decide), HI.out.boxes.oth ho (by decide) (by decide) (by decide), own_oth HI.out.wants ho (by decide)⟩, HHR.out _ _ HJ.out.2.2, HI.out.but.trans (to_but (hbut.below HI.out.but.size (Nat.le_refl _)))⟩
      subst hW9
      clear HI HJ u ho hbut
      go_wp2_with fail
      exact bodyPost_ret (v := .agg #[.slice na k nc, .slice ba k bc, .slice wa WN wc, .int .i64 X]) (by simp [results, Tryz.results49, go_sem, u0, u1, u2, u3]) rfl ⟨⟨_, _, _, _, _, HF.out.2.1, rfl, HF.out.1⟩, HF.out.2.2⟩
end Go.Proofs.YtdmplfflmdanlaaGreatDoor
