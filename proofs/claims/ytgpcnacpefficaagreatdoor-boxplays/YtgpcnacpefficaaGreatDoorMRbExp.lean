/-
  The document's box: messages go.
-/
import Derived.Test.YtgpcnacpefficaaGreatDoorMRbKnow
import Derived.Test.YtgpcnacpefficaaGreatDoorMBoxExp
import Derived.Test.YtgpcnacpefficaaGreatDoorBpLawTexts
namespace Go.Proofs.YtgpcnacpefficaaGreatDoor
open Go.RowKit Go.Proofs.Aid Go.Proofs.Bx

/-- The document's box, its row laid at B or behind it. -/
def RBoxNew (B : Nat) (w : World) (wb : Nat) (v n : Int) (l : List Lt) : Prop := ∃ lv, RBox w wb v n lv l ∧ ∀ q, lv.ownBlock = some q → B ≤ q
theorem has_del (l : List Fl.Tx) : l.contains (sysB 3).data.toList = Fl.hasF l [92, 68, 101, 108, 101, 116, 101, 100] := by
  unfold Fl.hasF
  rw [show Fl.fname [92, 68, 101, 108, 101, 116, 101, 100] = ([92, 68, 101, 108, 101, 116, 101, 100], 0) by decide]
  rfl
set_option maxHeartbeats 8000000 in
set_option maxRecDepth 100000 in
theorem rexpunge_is (bb : Nat) (vv n : Int) (lv : Value) (l : List Lt) (f : FuncId) (caps : List Value) (p : Int → Bool) (w : World) (h : RBox w bb vv n lv l) (hl : l.length ≤ 1000) (hfl : ∀ x ∈ l, x.flags.length ≤ 1000)
    (eg : ∀ args w, (callFunc f args).run Tryz.prog w = .ok (.enter f args) w)
    (cH : ∀ x ∈ l, ∀ W, Below w.heap.size w W → Calls Tryz.prog f (Value.int .i64 x.uid :: caps).toArray W fun e w' => e = .returned (.bool (p x.uid)) ∧ Below W.heap.size W w') :
    Calls Tryz.prog 30 #[.pointer (some ⟨bb, 0, none⟩), .func (.func f) #[] caps.toArray] w fun e w' =>
      ∃ ov, e = .returned ov ∧ NOwn w' w.heap.size ov (went p l) ∧ RBoxNew w.heap.size w' bb vv n (stay p l) ∧ But w.heap.size bb w w' := by
  obtain ⟨y1, y2⟩ := h
  obtain ⟨a, c, rfl, hcap, hrest⟩ := id y2
  have p2 : w.cell? ⟨bb, 2, none⟩ = some (.slice a l.length c) := rd_cell y1 rfl
  have hbl : bb < w.heap.size := (Array.getElem?_eq_some_iff.1 y1).1
  have hns : NoStr w bb := noStr_box y1 ⟨_, _, _, rfl⟩
  have HL : Hid (l = [] ∨ ∃ b o, a = some ⟨b, o, none⟩ ∧ ∀ (j : Nat) x, l[j]? = some x → LtAt w b (o + j * 4) x) := hrest
  have HCH : Hid (∀ x ∈ l, ∀ W, Below w.heap.size w W → Calls Tryz.prog f (Value.int .i64 x.uid :: caps).toArray W fun e w' => e = .returned (.bool (p x.uid)) ∧ Below W.heap.size W w') := cH
  obtain ⟨m, hm⟩ : ∃ m, l.length = m := ⟨_, rfl⟩
  have HM : Hid (l.length = m) := hm
  have HSL : Hid (∀ k, (stay p (l.take k)).length ≤ 1000 ∧ (went p (l.take k)).length ≤ 1000) := fun k => by
    have h1 := stay_le p (l.take k)
    have h2 := went_le p (l.take k)
    have h3 : (l.take k).length ≤ l.length := by rw [List.length_take]; omega
    omega
  rw [hm] at p2 hl
  have HDONE : Hid (∀ W sv ov, LOwn w W w.heap.size sv (stay p l) → NOwn W w.heap.size ov (went p l) → Below w.heap.size w W → W.cell? ⟨bb, 2, none⟩ = some (.slice a m c) ∧ W.frozen? ⟨bb, 2, none⟩ = false ∧ NOwn (W.setCell ⟨bb, 2, none⟩ sv) w.heap.size ov (went p l) ∧ RBoxNew w.heap.size (W.setCell ⟨bb, 2, none⟩ sv) bb vv n (stay p l) ∧ But w.heap.size bb w (W.setCell ⟨bb, 2, none⟩ sv)) := fun W sv ov h1 h2 hb => by
    have z := (hb.block bb hbl).trans y1
    have hb2 : But w.heap.size bb w (W.setCell ⟨bb, 2, none⟩ sv) := (to_but hb).setB 2 _
    rw [hm] at z
    refine ⟨rd_cell z rfl, rd_free z 2, own_same h2 fun q hq => Below.heap_setCell _ _ _ _ (by have := (h2.lt q hq).1; show q ≠ bb; omega), ⟨sv, ⟨rd_set (i := 2) sv z, ?_⟩, fun q hq => (h1.blk hq).1⟩, hb2⟩
    obtain ⟨rows, r1, r2, r3, r4⟩ := h1
    refine lts_own (own_same r1 fun q hq => Below.heap_setCell _ _ _ _ (by have := (r1.lt q hq).1; show q ≠ bb; omega)) r2 (fun j x xs h1 h2 => ?_) r4
    obtain ⟨fv, e1, e2⟩ := r3 j x xs h1 h2
    exact ⟨fv, e1, e2.but hns hb2 (Nat.le_refl _)⟩
  have cFive : ∀ W, Calls Tryz.prog 55 #[.int .i64 3] W fun e w' => e = .returned (.string (sysB 3)) ∧ w' = W := fun W => ref_five 3 (by decide) W
  obtain ⟨DB, hDB⟩ : ∃ z, sysB 3 = z := ⟨_, rfl⟩
  rw [hDB] at cFive
  have HDB : Hid (sysB 3 = DB) := hDB
  clear y1 y2 hcap hrest hns cH hm hDB
  go_enter Tryz.func30, Tryz.ntmps30
  go_wp2_with fail
  go_loopw [5, 6, 14] (fun ov sv i wr => ∃ (k : Nat) (va vb : Option Addr) (n1 n2 c1 c2 : Nat), i = .int .i64 (k : Int) ∧ k ≤ m ∧ sv = .slice va n1 c1 ∧ ov = .slice vb n2 c2 ∧ Hid (n1 = (stay p (l.take k)).length ∧ n2 = (went p (l.take k)).length ∧ LOwn w wr w.heap.size (.slice va n1 c1) (stay p (l.take k)) ∧ NOwn wr w.heap.size (.slice vb n2 c2) (went p (l.take k)) ∧ Below w.heap.size w wr)) (fun _ _ i _ => m - (intOf i).toNat)
  case atStart => exact ⟨0, none, none, 0, 0, 0, 0, rfl, Nat.zero_le _, rfl, rfl, rfl, rfl, LOwn.nil _ _ _, World.ownsRow_nil _ _ _ _, Below.refl _ _⟩
  case round =>
    obtain ⟨k, va, vb, n1, n2, c1, c2, rfl, hk, rfl, rfl, HI⟩ := hrel
    by_cases hlt : k < m
    · have hkl : k < l.length := by rw [HM.out]; exact hlt
      obtain ⟨x, hx⟩ : ∃ x, l[k] = x := ⟨_, rfl⟩
      have hxk : l[k]? = some x := by rw [List.getElem?_eq_getElem hkl, hx]
      have hmem := List.mem_of_getElem? hxk
      obtain ⟨b, o, rfl, hat⟩ : ∃ b o, a = some ⟨b, o, none⟩ ∧ ∀ (j : Nat) x, l[j]? = some x → LtAt w b (o + j * 4) x := by
        rcases HL.out with h | h
        · rw [h] at hkl; simp at hkl
        · exact h
      obtain ⟨g0, ⟨fw, g1, sw⟩, g3, g4⟩ := hat k x hxk
      have hbB := World.block_lt_of_cell? _ _ g0
      have ec : ∀ i, wr.cell? ⟨b, i, none⟩ = w.cell? ⟨b, i, none⟩ := fun i => HI.out.2.2.2.2.cell (p := ⟨b, i, none⟩) hbB
      have q0 := (ec _).trans g0
      have q1 := (ec _).trans g1
      have q3 := (ec _).trans g3
      have q4 := (ec _).trans g4
      obtain ⟨fa, fc, hfv, hfr⟩ := id sw
      clear hfr
      have hrow : LtRow w x [.int .i64 x.uid, fw, .int .i64 x.day, .string ⟨x.text.toArray⟩] := ⟨fw, rfl, sw⟩
      have hst := stay_next (p := p) hxk
      have hwt := went_next (p := p) hxk
      have hle1 := (HSL.out k).1
      have hle2 := (HSL.out k).2
      obtain ⟨XU, hXU⟩ : ∃ z, x.uid = z := ⟨_, rfl⟩
      obtain ⟨XD, hXD⟩ : ∃ z, x.day = z := ⟨_, rfl⟩
      obtain ⟨XT, hXT⟩ : ∃ z : ByteArray, ⟨x.text.toArray⟩ = z := ⟨_, rfl⟩
      obtain ⟨FL, hFL⟩ : ∃ n, x.flags.length = n := ⟨_, rfl⟩
      have cP := HCH.out x hmem
      rw [hXU] at q0 hrow hst hwt cP
      rw [hXD] at q3 hrow
      rw [hXT] at q4 hrow
      rw [hFL] at hfv
      have hfx := hfl x hmem
      subst hfv
      have eA := heap_alloc_new wr (.cells #[.int .i64 XU, .slice fa FL fc, .int .i64 XD, .string XT] 51)
      have bA : Below wr.heap.size wr (wr.alloc (.cells #[.int .i64 XU, .slice fa FL fc, .int .i64 XD, .string XT] 51)) := (Below.refl _ _).alloc (Nat.le_refl _) _
      have HROW : Hid (LtRow w x [.int .i64 XU, .slice fa FL fc, .int .i64 XD, .string XT]) := hrow
      have HPU : Hid (∀ W, Below w.heap.size w W → Calls Tryz.prog f (Value.int .i64 XU :: caps).toArray W fun e w' => e = .returned (.bool (p XU)) ∧ Below W.heap.size W w') := cP
      have HSW : Hid (Sl w (.slice fa FL fc) x.flags ∧ x.flags.length ≤ 1000) := ⟨sw, hfx⟩
      have HSTW : Hid (stay p (l.take (k + 1)) = stay p (l.take k) ++ (if (Fl.hasF x.flags [92, 68, 101, 108, 101, 116, 101, 100] && p XU) = true then [] else [x]) ∧ went p (l.take (k + 1)) = went p (l.take k) ++ (if (Fl.hasF x.flags [92, 68, 101, 108, 101, 116, 101, 100] && p XU) = true then [XU] else [])) := ⟨hst, hwt⟩
      clear hx hxk hmem hat sw hXU hXD hXT hFL hrow cP hfx hst hwt ec hkl g0 g1 g3 g4 hfl
      go_upto_region 6 with fail
      obtain ⟨W2, hW2⟩ : ∃ W, wr.alloc (.cells #[.int .i64 XU, .slice fa FL fc, .int .i64 XD, .string XT] 51) = W := ⟨_, rfl⟩
      rw [hW2] at eA bA ⊢
      have z2 : W2.heap.size = wr.heap.size + 1 := by rw [← hW2]; simp
      obtain ⟨XB, hXB⟩ : ∃ n, wr.heap.size = n := ⟨_, rfl⟩
      rw [hXB] at eA bA z2 ⊢
      obtain ⟨WD, hWD⟩ : ∃ W, W2.drew = W := ⟨_, rfl⟩
      have hbD : Below W2.heap.size W2 WD := by rw [← hWD]; exact (Below.refl _ _).drew
      have HBD : Hid (Below W2.heap.size W2 WD) := hbD
      have hb02 : Below w.heap.size w W2 := HI.out.2.2.2.2.trans (bA.mono (by have := HI.out.2.2.2.2.size; omega))
      have hb0D : Below w.heap.size w WD := hb02.trans (hbD.mono hb02.size)
      have K2 : Hid (∀ W, Below W2.heap.size W2 W → W.cell? ⟨XB, 0, none⟩ = some (.int .i64 XU) ∧ W.cell? ⟨XB, 1, none⟩ = some (.slice fa FL fc) ∧ W.cell? ⟨XB, 2, none⟩ = some (.int .i64 XD) ∧ W.cell? ⟨XB, 3, none⟩ = some (.string XT) ∧ Below w.heap.size w W ∧ LOwn w W w.heap.size (.slice va n1 c1) (stay p (l.take k)) ∧ NOwn W w.heap.size (.slice vb n2 c2) (went p (l.take k))) := fun W hW => by
        have e := (hW.block XB (by omega)).trans eA
        have hbW := bA.trans (hW.mono (by omega))
        rw [← hXB] at hbW
        exact ⟨rd_cell e rfl, rd_cell e rfl, rd_cell e rfl, rd_cell e rfl, hb02.trans (hW.mono hb02.size), HI.out.2.2.1.below hbW, HI.out.2.2.2.1.below hbW⟩
      obtain ⟨a0, a1, _⟩ := K2.out W2 (Below.refl _ _)
      have HN12 : Hid (n1 = (stay p (l.take k)).length ∧ n2 = (went p (l.take k)).length) := ⟨HI.out.1, HI.out.2.1⟩
      have cHas := ref_holds (.slice fa FL fc) x.flags DB WD (HSW.out.1.below hb0D (Nat.le_refl _)) HSW.out.2
      have hcd : x.flags.contains DB.data.toList = Fl.hasF x.flags [92, 68, 101, 108, 101, 116, 101, 100] := by rw [← HDB.out]; exact has_del _
      obtain ⟨HB, hHB⟩ : ∃ z, Fl.hasF x.flags [92, 68, 101, 108, 101, 116, 101, 100] = z := ⟨_, rfl⟩
      rw [hcd, hHB] at cHas
      have HNX : Hid (stay p (l.take (k + 1)) = stay p (l.take k) ++ (if (HB && p XU) = true then [] else [x]) ∧ went p (l.take (k + 1)) = went p (l.take k) ++ (if (HB && p XU) = true then [XU] else [])) := by
        have := HSTW.out
        rw [hHB] at this
        exact this
      have cP := HPU.out WD hb0D
      obtain ⟨PB, hPB⟩ : ∃ z, p XU = z := ⟨_, rfl⟩
      rw [hPB] at cP
      have HPB : Hid (p XU = PB) := hPB
      clear HSTW HPU HSW hcd hHB hPB eA bA z2 hW2 hXB hb02 hb0D HI
      cases HB with
      | false =>
        clear cP
        refine wp_region_held_drew (S := fun W => W.cell? ⟨XB, 0, none⟩ = some (.int .i64 XU) ∧ W.cell? ⟨XB, 1, none⟩ = some (.slice fa FL fc)) (by kernel_rfl) ?_ (fun hHeld => ?_)
        · exact ⟨by simpa using a0, by simpa using a1⟩
        rw [hWD] at hHeld ⊢
        refine wpAnyH_take (i := 0) (v := ?_) rfl (by kernel_rfl) (by kernel_rfl) (by kernel_rfl) (fun _ _ _ h => h) (Or.inl ⟨by rfl, ?_⟩) (by assumption) ?_
        rotate_left
        · intro w hSw; go_simp; (try with_reducible rfl)
        change wpAnyH _ _ _ _ _ _ _ (Act.put _ (some 18) _) _; simp only [Act.put, List.setIfInBounds_toArray, List.set_cons_zero, List.set_cons_succ]
        refine wpAnyH_take (i := 1) (v := ?_) rfl (by kernel_rfl) (by kernel_rfl) (by kernel_rfl) (fun _ _ _ h => h) (Or.inl ⟨by rfl, ?_⟩) (by assumption) ?_
        rotate_left
        · intro w hSw; go_simp; (try with_reducible rfl)
        change wpAnyH _ _ _ _ _ _ _ (Act.put _ (some 19) _) _; simp only [Act.put, List.setIfInBounds_toArray, List.set_cons_zero, List.set_cons_succ]
        refine wpAnyH_ready (rs := [2]) (by kernel_rfl) (by simp) ?_
        refine AllReadyH.cons rfl (fun K hK => ?_) AllReadyH.nil
        go_simp
        refine (cFive _).mono ?_
        rintro e w5 ⟨rfl, hw5⟩
        obtain rfl : WD = w5 := hw5.symm
        clear hw5
        refine hK.out _ _ ?_ (fun hHeld => ?_)
        · exact hHeld
        clear hK K
        refine wpAnyH_ready (rs := [3]) (by kernel_rfl) (by simp) ?_
        refine AllReadyH.cons rfl (fun K hK => ?_) AllReadyH.nil
        go_simp
        refine cHas.mono ?_
        rintro e w6 ⟨rfl, hw6⟩
        obtain rfl : WD = w6 := hw6.symm
        clear hw6
        refine hK.out _ _ ?_ (fun hHeld => ?_)
        · exact hHeld
        clear hK K
        refine wpAnyH_take (i := 4) (v := ?_) rfl (by kernel_rfl) (by kernel_rfl) (by kernel_rfl) (fun _ _ _ h => h) (Or.inl ⟨by rfl, ?_⟩) (by assumption) ?_
        rotate_left
        · intro w hSw; go_simp; (try with_reducible rfl)
        change wpAnyH _ _ _ _ _ _ _ (Act.put _ (some 22) _) _; simp only [Act.put, List.setIfInBounds_toArray, List.set_cons_zero, List.set_cons_succ]
        refine wpAnyH_take (i := 5) (v := undef) rfl (by kernel_rfl) (by kernel_rfl) (by kernel_rfl) (fun _ _ _ h => h) (Or.inr ⟨by rfl, rfl⟩) (by assumption) ?_
        change wpAnyH _ _ _ _ _ _ _ (Act.put _ (some 23) _) _; simp only [Act.put, List.setIfInBounds_toArray, List.set_cons_zero, List.set_cons_succ]
        refine wpAnyH_take (i := 6) (v := undef) rfl (by kernel_rfl) (by kernel_rfl) (by kernel_rfl) (fun _ _ _ h => h) (Or.inr ⟨by rfl, rfl⟩) (by assumption) ?_
        change wpAnyH _ _ _ _ _ _ _ (Act.put _ (some 24) _) _; simp only [Act.put, List.setIfInBounds_toArray, List.set_cons_zero, List.set_cons_succ]
        refine wpAnyH_take (i := 7) (v := undef) rfl (by kernel_rfl) (by kernel_rfl) (by kernel_rfl) (fun _ _ _ h => h) (Or.inr ⟨by rfl, rfl⟩) (by assumption) ?_
        change wpAnyH _ _ _ _ _ _ _ (Act.put _ (some 25) _) _; simp only [Act.put, List.setIfInBounds_toArray, List.set_cons_zero, List.set_cons_succ]
        refine wpAnyH_take (i := 8) (v := undef) rfl (by kernel_rfl) (by kernel_rfl) (by kernel_rfl) (fun _ _ _ h => h) (Or.inr ⟨by rfl, rfl⟩) (by assumption) ?_
        change wpAnyH _ _ _ _ _ _ _ (Act.put _ (some 26) _) _; simp only [Act.put, List.setIfInBounds_toArray, List.set_cons_zero, List.set_cons_succ]
        refine wpAnyH_take (i := 9) (v := ?_) rfl (by kernel_rfl) (by kernel_rfl) (by kernel_rfl) (fun _ _ _ h => h) (Or.inl ⟨by rfl, ?_⟩) (by assumption) ?_
        rotate_left
        · intro w hSw; go_simp; (try with_reducible rfl)
        change wpAnyH _ _ _ _ _ _ _ (Act.put _ (some 27) _) _; simp only [Act.put, List.setIfInBounds_toArray, List.set_cons_zero, List.set_cons_succ]
        refine wpAnyH_done (by kernel_rfl) ?_ _
        clear hHeld
        obtain ⟨k0, k1, k2, k3, kb, kL, kN⟩ := K2.out WD HBD.out
        rw [HN12.out.1] at kL
        rw [HN12.out.2] at kN
        obtain ⟨g9, cap9, W9, hrun, hL9, hN9, hb9⟩ := push_stay kL kN hle1 x _ HROW.out (by simp [Value.oneCell']) kb.size
        rw [← HN12.out.1] at hrun hL9
        rw [← HN12.out.2] at hN9
        have HRUN : Hid ((Builtin.append_ #[22, 22] 22 #[.slice va n1 c1, .slice (some ⟨(WD).heap.size, 0, none⟩) 1 1]).run Tryz.prog ((WD).alloc (.cells #[.int .i64 XU, .slice fa FL fc, .int .i64 XD, .string XT] 51)) = .ok (.slice (some ⟨g9, 0, none⟩) (n1 + 1) cap9) W9) := hrun
        have HD : Hid (n1 + 1 = (stay p (l.take (k + 1))).length ∧ n2 = (went p (l.take (k + 1))).length ∧ LOwn w W9 w.heap.size (.slice (some ⟨g9, 0, none⟩) (n1 + 1) cap9) (stay p (l.take (k + 1))) ∧ NOwn W9 w.heap.size (.slice vb n2 c2) (went p (l.take (k + 1))) ∧ Below w.heap.size w W9) := by
          obtain ⟨u1, u2⟩ := HNX.out
          rw [if_neg (by simp)] at u1 u2
          rw [List.append_nil] at u2
          rw [u1, u2]
          exact ⟨by rw [List.length_append, ← HN12.out.1]; rfl, HN12.out.2, hL9, hN9, kb.trans hb9⟩
        clear hrun hL9 hN9 hb9 kL kN kb
        go_wp2_with (at_builtin; go_must (refine Go.Lib.wpList_append_run _ rfl (.tmp 33) (.tmp 35) 22 22 rfl _ _ rfl rfl _ W9 HRUN.out ?_))
        go_roundw
        case rel => exact ⟨k + 1, _, _, _, _, _, _, by go_num, by omega, rfl, rfl, HD⟩
        case measure => simp [intOf]; omega
      | true =>
        refine wp_region_held_drew (S := fun W => W.cell? ⟨XB, 0, none⟩ = some (.int .i64 XU) ∧ W.cell? ⟨XB, 1, none⟩ = some (.slice fa FL fc)) (by kernel_rfl) ?_ (fun hHeld => ?_)
        · exact ⟨by simpa using a0, by simpa using a1⟩
        rw [hWD] at hHeld ⊢
        refine wpAnyH_take (i := 0) (v := ?_) rfl (by kernel_rfl) (by kernel_rfl) (by kernel_rfl) (fun _ _ _ h => h) (Or.inl ⟨by rfl, ?_⟩) (by assumption) ?_
        rotate_left
        · intro w hSw; go_simp; (try with_reducible rfl)
        change wpAnyH _ _ _ _ _ _ _ (Act.put _ (some 18) _) _; simp only [Act.put, List.setIfInBounds_toArray, List.set_cons_zero, List.set_cons_succ]
        refine wpAnyH_take (i := 1) (v := ?_) rfl (by kernel_rfl) (by kernel_rfl) (by kernel_rfl) (fun _ _ _ h => h) (Or.inl ⟨by rfl, ?_⟩) (by assumption) ?_
        rotate_left
        · intro w hSw; go_simp; (try with_reducible rfl)
        change wpAnyH _ _ _ _ _ _ _ (Act.put _ (some 19) _) _; simp only [Act.put, List.setIfInBounds_toArray, List.set_cons_zero, List.set_cons_succ]
        refine wpAnyH_ready (rs := [2]) (by kernel_rfl) (by simp) ?_
        refine AllReadyH.cons rfl (fun K hK => ?_) AllReadyH.nil
        go_simp
        refine (cFive _).mono ?_
        rintro e w5 ⟨rfl, hw5⟩
        obtain rfl : WD = w5 := hw5.symm
        clear hw5
        refine hK.out _ _ ?_ (fun hHeld => ?_)
        · exact hHeld
        clear hK K
        refine wpAnyH_ready (rs := [3]) (by kernel_rfl) (by simp) ?_
        refine AllReadyH.cons rfl (fun K hK => ?_) AllReadyH.nil
        go_simp
        refine cHas.mono ?_
        rintro e w6 ⟨rfl, hw6⟩
        obtain rfl : WD = w6 := hw6.symm
        clear hw6
        refine hK.out _ _ ?_ (fun hHeld => ?_)
        · exact hHeld
        clear hK K
        refine wpAnyH_take (i := 4) (v := ?_) rfl (by kernel_rfl) (by kernel_rfl) (by kernel_rfl) (fun _ _ _ h => h) (Or.inl ⟨by rfl, ?_⟩) (by assumption) ?_
        rotate_left
        · intro w hSw; go_simp; (try with_reducible rfl)
        change wpAnyH _ _ _ _ _ _ _ (Act.put _ (some 22) _) _; simp only [Act.put, List.setIfInBounds_toArray, List.set_cons_zero, List.set_cons_succ]
        refine wpAnyH_take (i := 5) (v := ?_) rfl (by kernel_rfl) (by kernel_rfl) (by kernel_rfl) (fun _ _ _ h => h) (Or.inl ⟨by rfl, ?_⟩) (by assumption) ?_
        rotate_left
        · intro w hSw; go_simp; (try with_reducible rfl)
        change wpAnyH _ _ _ _ _ _ _ (Act.put _ (some 23) _) _; simp only [Act.put, List.setIfInBounds_toArray, List.set_cons_zero, List.set_cons_succ]
        refine wpAnyH_take (i := 6) (v := ?_) rfl (by kernel_rfl) (by kernel_rfl) (by kernel_rfl) (fun _ _ _ h => h) (Or.inl ⟨by rfl, ?_⟩) (by assumption) ?_
        rotate_left
        · intro w hSw; go_simp; (try with_reducible rfl)
        change wpAnyH _ _ _ _ _ _ _ (Act.put _ (some 24) _) _; simp only [Act.put, List.setIfInBounds_toArray, List.set_cons_zero, List.set_cons_succ]
        refine wpAnyH_take (i := 7) (v := ?_) rfl (by kernel_rfl) (by kernel_rfl) (by kernel_rfl) (fun _ _ _ h => h) (Or.inl ⟨by rfl, ?_⟩) (by assumption) ?_
        rotate_left
        · intro w hSw; go_simp; (try with_reducible rfl)
        change wpAnyH _ _ _ _ _ _ _ (Act.put _ (some 25) _) _; simp only [Act.put, List.setIfInBounds_toArray, List.set_cons_zero, List.set_cons_succ]
        refine wpAnyH_ready (rs := [8]) (by kernel_rfl) (by simp) ?_
        refine AllReadyH.cons rfl (fun K hK => ?_) AllReadyH.nil
        go_simp
        refine cP.mono ?_
        rintro e w4 ⟨rfl, hb4⟩
        have HB4 : Hid (Below W2.heap.size W2 w4) := hbD.trans (hb4.mono hbD.size)
        obtain ⟨e0, e1, _⟩ := K2.out w4 HB4.out
        refine hK.out _ _ ?_ (fun hHeld => ?_)
        · exact ⟨e0, e1⟩
        clear hK K
        refine wpAnyH_take (i := 9) (v := ?_) rfl (by kernel_rfl) (by kernel_rfl) (by kernel_rfl) (fun _ _ _ h => h) (Or.inl ⟨by rfl, ?_⟩) (by assumption) ?_
        rotate_left
        · intro w hSw; go_simp; (try with_reducible rfl)
        change wpAnyH _ _ _ _ _ _ _ (Act.put _ (some 27) _) _; simp only [Act.put, List.setIfInBounds_toArray, List.set_cons_zero, List.set_cons_succ]
        refine wpAnyH_done (by kernel_rfl) ?_ _
        clear hHeld e0 e1 hb4
        cases PB with
        | false =>
          obtain ⟨k0, k1, k2, k3, kb, kL, kN⟩ := K2.out w4 HB4.out
          rw [HN12.out.1] at kL
          rw [HN12.out.2] at kN
          obtain ⟨g9, cap9, W9, hrun, hL9, hN9, hb9⟩ := push_stay kL kN hle1 x _ HROW.out (by simp [Value.oneCell']) kb.size
          rw [← HN12.out.1] at hrun hL9
          rw [← HN12.out.2] at hN9
          have HRUN : Hid ((Builtin.append_ #[22, 22] 22 #[.slice va n1 c1, .slice (some ⟨(w4).heap.size, 0, none⟩) 1 1]).run Tryz.prog ((w4).alloc (.cells #[.int .i64 XU, .slice fa FL fc, .int .i64 XD, .string XT] 51)) = .ok (.slice (some ⟨g9, 0, none⟩) (n1 + 1) cap9) W9) := hrun
          have HD : Hid (n1 + 1 = (stay p (l.take (k + 1))).length ∧ n2 = (went p (l.take (k + 1))).length ∧ LOwn w W9 w.heap.size (.slice (some ⟨g9, 0, none⟩) (n1 + 1) cap9) (stay p (l.take (k + 1))) ∧ NOwn W9 w.heap.size (.slice vb n2 c2) (went p (l.take (k + 1))) ∧ Below w.heap.size w W9) := by
            obtain ⟨u1, u2⟩ := HNX.out
            rw [if_neg (by simp [HPB.out])] at u1 u2
            rw [List.append_nil] at u2
            rw [u1, u2]
            exact ⟨by rw [List.length_append, ← HN12.out.1]; rfl, HN12.out.2, hL9, hN9, kb.trans hb9⟩
          clear hrun hL9 hN9 hb9 kL kN kb
          go_wp2_with (at_builtin; go_must (refine Go.Lib.wpList_append_run _ rfl (.tmp 33) (.tmp 35) 22 22 rfl _ _ rfl rfl _ W9 HRUN.out ?_))
          go_roundw
          case rel => exact ⟨k + 1, _, _, _, _, _, _, by go_num, by omega, rfl, rfl, HD⟩
          case measure => simp [intOf]; omega
        | true =>
          obtain ⟨k0, k1, k2, k3, kb, kL, kN⟩ := K2.out w4 HB4.out
          rw [HN12.out.1] at kL
          rw [HN12.out.2] at kN
          obtain ⟨g9, cap9, W9, hrun, hL9, hN9, hb9⟩ := push_went kL kN hle2 XU kb.size
          rw [← HN12.out.1] at hL9
          rw [← HN12.out.2] at hrun hN9
          have HRUN : Hid ((Builtin.append_ #[46, 46] 46 #[.slice vb n2 c2, .slice (some ⟨w4.heap.size, 0, none⟩) 1 1]).run Tryz.prog (w4.alloc (.cells #[.int .i64 XU] 3)) = .ok (.slice (some ⟨g9, 0, none⟩) (n2 + 1) cap9) W9) := hrun
          have HD : Hid (n1 = (stay p (l.take (k + 1))).length ∧ n2 + 1 = (went p (l.take (k + 1))).length ∧ LOwn w W9 w.heap.size (.slice va n1 c1) (stay p (l.take (k + 1))) ∧ NOwn W9 w.heap.size (.slice (some ⟨g9, 0, none⟩) (n2 + 1) cap9) (went p (l.take (k + 1))) ∧ Below w.heap.size w W9) := by
            obtain ⟨u1, u2⟩ := HNX.out
            rw [if_pos (by simp [HPB.out])] at u1 u2
            rw [List.append_nil] at u1
            rw [u1, u2]
            exact ⟨HN12.out.1, by rw [List.length_append, ← HN12.out.2]; rfl, hL9, hN9, kb.trans hb9⟩
          clear hrun hL9 hN9 hb9 kL kN kb
          go_wp2_with (at_builtin; go_must (refine Go.Lib.wpList_append_run _ rfl (.tmp 28) (.tmp 31) 46 46 rfl _ _ rfl rfl _ W9 HRUN.out ?_))
          go_roundw
          case rel => exact ⟨k + 1, _, _, _, _, _, _, by go_num, by omega, rfl, rfl, HD⟩
          case measure => simp [intOf]; omega
    · obtain rfl : k = m := by omega
      have hI := HI.out
      rw [List.take_of_length_le (by rw [HM.out]; exact Nat.le_refl _)] at hI
      obtain ⟨r1, r2, r3, r4, r5⟩ := HDONE.out wr _ _ hI.2.2.1 hI.2.2.2.1 hI.2.2.2.2
      have HF : Hid (NOwn (wr.setCell ⟨bb, 2, none⟩ (.slice va n1 c1)) w.heap.size (.slice vb n2 c2) (went p l) ∧ RBoxNew w.heap.size (wr.setCell ⟨bb, 2, none⟩ (.slice va n1 c1)) bb vv n (stay p l) ∧ But w.heap.size bb w (wr.setCell ⟨bb, 2, none⟩ (.slice va n1 c1))) := ⟨r3, r4, r5⟩
      clear hI r3 r4 r5 HI
      go_wp2_with fail
      go_ret
      exact ⟨_, rfl, HF.out⟩
end Go.Proofs.YtgpcnacpefficaaGreatDoor
