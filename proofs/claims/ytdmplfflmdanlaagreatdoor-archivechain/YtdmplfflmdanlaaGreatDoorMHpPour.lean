/-
  A new box has the messages of INBOX: just what is left.
-/
import Derived.Test.YtdmplfflmdanlaaGreatDoorBpHxSt
namespace Go.Proofs.YtdmplfflmdanlaaGreatDoor
open Go.RowKit Go.Proofs.Aid Go.Proofs.Bx

/-- What pour leaves. -/
def PourP (H hb mb K : Nat) (l : Bxs) (nx : Int) (W : List Nm) (C : Nat → Bxd) (wv : Value) (T : Nm) (w : World) (e : Ending) (w' : World) : Prop :=
  (30 < l.length + (lackB l T ++ [T]).length ∧ e = .returned (errN 12) ∧ Below w.heap.size w w') ∨
  (l.length + (lackB l T ++ [T]).length ≤ 30 ∧ e = .returned .nilIface ∧ Tn (PS hb mb wv l) w w' ∧ Below H w w' ∧ ∃ ps fb tb, Made w.heap.size (lackB l T ++ [T]) ps ∧ (inboxN, fb) ∈ l ∧ (T, tb) ∈ putAll l ps ∧
    Hst H hb mb (putAll l ps) (nx + ((lackB l T ++ [T]).length : Int)) W (setC (setC (withNew w.heap.size nx ps C) tb ⟨(withNew w.heap.size nx ps C tb).v, (C fb).n, (C fb).ls⟩) fb ⟨(C fb).v, (C fb).n, []⟩) wv w' ∧
    HI H (K + 1) (putAll l ps) (nx + ((lackB l T ++ [T]).length : Int)) W (setC (setC (withNew w.heap.size nx ps C) tb ⟨(withNew w.heap.size nx ps C tb).v, (C fb).n, (C fb).ls⟩) fb ⟨(C fb).v, (C fb).n, []⟩))
set_option maxHeartbeats 8000000 in
set_option maxRecDepth 100000 in
theorem pour_p (H hb mb K : Nat) (l : Bxs) (nx : Int) (W : List Nm) (C : Nat → Bxd) (a : Option Addr) (wn wc : Nat) (t : ByteArray) (w : World) (nB : Nm → Option Nm) (hN : NameC nB w) (h : Hst H hb mb l nx W C (.slice a wn wc) w) (hI : HI H K l nx W C) (hK : K ≤ 400) (ht : t.size ≤ 60) (e1 : nB t.data.toList = some t.data.toList) (e2 : hasB l t.data.toList = false) (e3 : hasB l inboxN = true) (e4 : nameB t.data.toList = some t.data.toList) :
    Calls Tryz.prog 129 #[.pointer (some ⟨hb, 0, none⟩), .string t] w fun e w' => PourP H hb mb K l nx W C (.slice a wn wc) t.data.toList w e w' := by
  have hl0 := hI.len
  have hn0 := hI.nxt
  have cC := create_is nB hb mb l nx (.slice a wn wc) t w hN h.hse.hs (by omega) (by omega) (by omega)
  have HH : Hid (HsAt w hb mb l nx (.slice a wn wc) ∧ Hst H hb mb l nx W C (.slice a wn wc) w ∧ nB t.data.toList = some t.data.toList ∧ hasB l t.data.toList = false ∧ hasB l inboxN = true ∧ HI H K l nx W C ∧ nameB t.data.toList = some t.data.toList) := ⟨h.hse.hs, h, e1, e2, e3, hI, e4⟩
  clear hN h hI e1 e2 e3 e4 hl0 hn0
  go_enter Tryz.func129, Tryz.ntmps129
  go_wp2_with fail
  refine cC.mono ?_
  rintro e w2 (⟨c1, _⟩ | ⟨r, c1, c2, _⟩ | ⟨r, c1, _, c3, rfl, c4⟩ | ⟨r, ps, c1, _, c3, rfl, c5, c6, c7⟩)
  · rw [HH.out.2.2.1] at c1
    cases c1
  · rw [HH.out.2.2.1] at c1
    obtain rfl := Option.some.inj c1
    rw [HH.out.2.2.2.1] at c2
    cases c2
  · rw [HH.out.2.2.1] at c1
    obtain rfl := Option.some.inj c1
    have HF : Hid (PourP H hb mb K l nx W C (.slice a wn wc) t.data.toList w (.returned (errN 12)) w2) := Or.inl ⟨c3, rfl, c4⟩
    clear cC c1 c3 c4
    go_wp2_with fail
    go_ret
    exact HF.out
  · rw [HH.out.2.2.1] at c1
    obtain rfl := Option.some.inj c1
    have hso := HH.out.1.2.sorted
    obtain ⟨fb, hfb0⟩ := hasB_true.1 HH.out.2.2.2.2.1
    obtain ⟨tb, j, htb, hj⟩ := last_putAll (l := l) hso c6.1
    have hfb : (inboxN, fb) ∈ putAll l ps := keep_putAll ps l hso hfb0 (by
      rw [c6.1]
      intro hm
      rcases List.mem_append.1 hm with hm | hm
      · have := lack_free hm
        rw [HH.out.2.2.2.2.1] at this
        cases this
      · have e := List.mem_singleton.1 hm
        have h3 := HH.out.2.2.2.1
        rw [← show inboxN = t.data.toList from e, HH.out.2.2.2.2.1] at h3
        cases h3)
    obtain ⟨htn, hnb⟩ := c6.2.1 j _ hj
    have hfB := HH.out.2.1.hse.bx (inboxN, fb) hfb0
    have hfG := HH.out.2.2.2.2.2.1.bx (inboxN, fb) hfb0
    obtain ⟨⟨fv, fn, fl⟩, hfC⟩ : ∃ x, C fb = x := ⟨_, rfl⟩
    have hfB : BoxAt w fb (C fb).v (C fb).n (C fb).ls := hfB
    have hfG : GoodBx K nx (C fb) := hfG
    rw [hfC] at hfB hfG
    have hfB : BoxAt w fb fv fn fl := hfB
    have hfBlt := hfB.lt
    have hne : tb ≠ fb := by
      have : w.heap.size ≤ tb := htn
      have : fb < w.heap.size := hfBlt
      omega
    have hO2 := HH.out.2.1.turn c5 c7 (HH.out.2.1.built c5 c6)
    have hI2 := HH.out.2.2.2.2.2.1.create c6 HH.out.2.1.old HH.out.2.1.h0 c3 HH.out.2.2.2.2.2.2
    have hTC := withNew_new (C := C) c6 hj
    have hFC : withNew w.heap.size nx ps C fb = C fb := withNew_old hfBlt
    have hfB2 : BoxAt w2 fb fv fn fl := hfB.hk HH.out.1 c5
    obtain ⟨lv, hfh, la, lc, rfl, hl0, hl1⟩ := id hfB2
    obtain ⟨ln, hln⟩ : ∃ m, fl.length = m := ⟨_, rfl⟩
    rw [hln] at hfh
    have hth : w2.heap[tb]? = some (.cells #[.int .i64 (nx + (j : Int)), .int .i64 1, .slice none 0 0] 66 (0, 0)) := hnb
    obtain ⟨TV, hTV⟩ : ∃ m, nx + (j : Int) = m := ⟨_, rfl⟩
    rw [hTV] at hth
    obtain ⟨WD, hWD⟩ : ∃ W, w2.drew = W := ⟨_, rfl⟩
    obtain ⟨WE, hWE⟩ : ∃ W, WD.drew = W := ⟨_, rfl⟩
    have bE : Below w2.heap.size w2 WE := by rw [← hWE, ← hWD]; exact (Below.refl _ _).drew.drew
    have bD : Below w2.heap.size w2 WD := by rw [← hWD]; exact (Below.refl _ _).drew
    have hSD := c7.below bD (Nat.le_refl _)
    have hSE := c7.below bE (Nat.le_refl _)
    have c0 := c7.cell.1
    have hlk1 := mp_look hSD.2 ⟨#[73, 78, 66, 79, 88]⟩ (by decide) (b := fb) hfb
    have hlk2 := mp_look hSD.2 t (by omega) (b := tb) htb
    have eF := (bE.block fb (Array.getElem?_eq_some_iff.1 hfh).1).trans hfh
    have eT := (bE.block tb (Array.getElem?_eq_some_iff.1 hth).1).trans hth
    have dF := (bD.block fb (Array.getElem?_eq_some_iff.1 hfh).1).trans hfh
    have x1 : WD.cell? ⟨fb, 1, none⟩ = some (.int .i64 fn) := rd_cell dF rfl
    have x2 : WD.cell? ⟨fb, 2, none⟩ = some (.slice la ln lc) := rd_cell dF rfl
    have g2 := rd_free eT 2
    have eT1 : (WE.setCell ⟨tb, 2, none⟩ (.slice la ln lc)).heap[tb]? = some (.cells #[.int .i64 TV, .int .i64 1, .slice la ln lc] 66 (0, 0)) := by simpa using rd_set (i := 2) (.slice la ln lc) eT
    have eF1 : (WE.setCell ⟨tb, 2, none⟩ (.slice la ln lc)).heap[fb]? = some (.cells #[.int .i64 fv, .int .i64 fn, .slice la ln lc] 66 (0, 0)) := (Below.heap_setCell _ _ _ _ (fun e => hne e.symm)).trans eF
    have bA : But WE.heap.size tb WE (WE.setCell ⟨tb, 2, none⟩ (.slice la ln lc)) := (to_but (Below.refl _ _)).setB 2 _
    obtain ⟨WA, hWA⟩ : ∃ W, WE.setCell ⟨tb, 2, none⟩ (.slice la ln lc) = W := ⟨_, rfl⟩
    rw [hWA] at eT1 eF1 bA
    have ya1 : WA.cell? ⟨fb, 1, none⟩ = some (.int .i64 fn) := rd_cell eF1 rfl
    have ya2 : WA.cell? ⟨fb, 2, none⟩ = some (.slice la ln lc) := rd_cell eF1 rfl
    have g1 := rd_free eT1 1
    have eT2 : (WA.setCell ⟨tb, 1, none⟩ (.int .i64 fn)).heap[tb]? = some (.cells #[.int .i64 TV, .int .i64 fn, .slice la ln lc] 66 (0, 0)) := by simpa using rd_set (i := 1) (.int .i64 fn) eT1
    have eF2 : (WA.setCell ⟨tb, 1, none⟩ (.int .i64 fn)).heap[fb]? = some (.cells #[.int .i64 fv, .int .i64 fn, .slice la ln lc] 66 (0, 0)) := (Below.heap_setCell _ _ _ _ (fun e => hne e.symm)).trans eF1
    have bB : But WA.heap.size tb WA (WA.setCell ⟨tb, 1, none⟩ (.int .i64 fn)) := (to_but (Below.refl _ _)).setB 1 _
    obtain ⟨WC, hWC⟩ : ∃ W, WA.setCell ⟨tb, 1, none⟩ (.int .i64 fn) = W := ⟨_, rfl⟩
    rw [hWC] at eT2 eF2 bB
    have yc1 : WC.cell? ⟨fb, 1, none⟩ = some (.int .i64 fn) := rd_cell eF2 rfl
    have yc2 : WC.cell? ⟨fb, 2, none⟩ = some (.slice la ln lc) := rd_cell eF2 rfl
    have gf := rd_free eF2 2
    have eF3 : (WC.setCell ⟨fb, 2, none⟩ (.slice none 0 0)).heap[fb]? = some (.cells #[.int .i64 fv, .int .i64 fn, .slice none 0 0] 66 (0, 0)) := by simpa using rd_set (i := 2) (.slice none 0 0) eF2
    have eT3 : (WC.setCell ⟨fb, 2, none⟩ (.slice none 0 0)).heap[tb]? = some (.cells #[.int .i64 TV, .int .i64 fn, .slice la ln lc] 66 (0, 0)) := (Below.heap_setCell _ _ _ _ hne).trans eT2
    have bC : But WC.heap.size fb WC (WC.setCell ⟨fb, 2, none⟩ (.slice none 0 0)) := (to_but (Below.refl _ _)).setB 2 _
    obtain ⟨WF, hWF⟩ : ∃ W, WC.setCell ⟨fb, 2, none⟩ (.slice none 0 0) = W := ⟨_, rfl⟩
    rw [hWF] at eT3 eF3 bC
    have HFIN : Hid (PourP H hb mb K l nx W C (.slice a wn wc) t.data.toList w (.returned .nilIface) WF) := by
      have hz2 := c5.size
      have hz3 := bE.size
      have hzA := bA.size
      have hzB := bB.size
      have ht2 : w.heap.size ≤ tb := htn
      have L2 : Lts w2 (.slice la ln lc) fl := by rw [← hln]; exact ⟨la, lc, rfl, hl0, hl1⟩
      have LE := L2.below bE (Nat.le_refl _)
      have hXE := hO2.below bE
      have hTE : (C' : Nat → Bxd) → C' = withNew w.heap.size nx ps C → C' tb = ⟨TV, 1, []⟩ := fun C' e => by
        rw [e, ← hTV]
        exact hTC
      have x1 := hXE.boxed (x := ⟨TV, 1, fl⟩) htb (⟨_, eT1, LE.tx (TxKeep.but (⟨_, eT, Lts.nil _⟩ : BoxAt WE tb TV 1 []) bA)⟩) bA
      have LA := LE.tx (TxKeep.but (⟨_, eT, Lts.nil _⟩ : BoxAt WE tb TV 1 []) bA)
      have LC := LA.tx (TxKeep.but (⟨_, eT1, LA⟩ : BoxAt WA tb TV 1 fl) bB)
      have x2 := x1.boxed (x := ⟨TV, fn, fl⟩) htb (⟨_, eT2, LC⟩) bB
      have hlow : Below H w WF := (c5.below HH.out.2.1.h0 HH.out.2.1.h1 HH.out.2.1.h2).trans ((bE.mono hO2.h0).trans (((bA.below hXE.h0 (hI2.low _ htb)).trans (bB.below x1.h0 (hI2.low _ htb))).trans (bC.below x2.h0 (hI2.low _ hfb))))
      have g1 : GoodBx (K + 1) (nx + ((lackB l t.data.toList ++ [t.data.toList]).length : Int)) ⟨TV, fn, fl⟩ := by
        have q1 := hfG.more (K' := K + 1) (nx' := nx + ((lackB l t.data.toList ++ [t.data.toList]).length : Int)) (by omega) (by omega)
        have q2 := (hI2.bx _ htb).num
        have q3 : (withNew w.heap.size nx ps C tb).v = TV := by rw [hTE _ rfl]
        have q2 : 1 ≤ (withNew w.heap.size nx ps C tb).v ∧ (withNew w.heap.size nx ps C tb).v < nx + ((lackB l t.data.toList ++ [t.data.toList]).length : Int) := q2
        rw [q3] at q2
        exact ⟨q1.inv, q1.plain, q2, q1.next, q1.len, q1.most⟩
      have g2 : GoodBx (K + 1) (nx + ((lackB l t.data.toList ++ [t.data.toList]).length : Int)) ⟨fv, fn, []⟩ := by
        have q1 := hfG.more (K' := K + 1) (nx' := nx + ((lackB l t.data.toList ++ [t.data.toList]).length : Int)) (by omega) (by omega)
        exact ⟨⟨List.Pairwise.nil, fun x hx => absurd hx List.not_mem_nil, fun x hx => absurd hx List.not_mem_nil, q1.inv.next⟩, fun x hx => absurd hx List.not_mem_nil, q1.num, q1.next, Nat.zero_le _, Nat.zero_le _⟩
      rw [setC_twice] at x2
      have x3 := x2.boxed (x := ⟨fv, fn, []⟩) hfb (⟨_, eF3, Lts.nil _⟩) bC
      have i2 := hI2.box (x := ⟨TV, fn, fl⟩) (K' := K + 1) (Nat.le_refl _) htb (by rw [hTE _ rfl]) g1
      have i3 := i2.box (x := ⟨fv, fn, []⟩) (K' := K + 1) (Nat.le_refl _) hfb (by rw [setC_other (fun e => hne e.symm), hFC, hfC]) g2
      have t1 : Tn (PS hb mb (.slice a wn wc) l) w w2 := Tn.hk c5 (Or.inl rfl) (Or.inr (Or.inl rfl))
      have t2 := (((t1.trans (Tn.of bE)).butN bA (Or.inr ht2)).butN bB (Or.inr ht2)).butN bC (Or.inl (Or.inr (Or.inr (Or.inr ⟨_, hfb0, rfl⟩))))
      refine Or.inr ⟨c3, rfl, t2, hlow, ps, fb, tb, c6.made, hfb0, htb, ?_, ?_⟩
      · rw [hfC, show (withNew w.heap.size nx ps C tb).v = TV from by rw [hTE _ rfl]]
        exact x3
      · rw [hfC, show (withNew w.heap.size nx ps C tb).v = TV from by rw [hTE _ rfl]]
        exact i3
    have u2 : WE.cell? ⟨tb, 2, none⟩ = some (.slice none 0 0) := rd_cell eT rfl
    have u1 : WA.cell? ⟨tb, 1, none⟩ = some (.int .i64 1) := rd_cell eT1 rfl
    clear bE bD hSD hSE eF eT dF eT1 eF1 bA eT2 eF2 bB eF3 eT3 bC hth hfh hln hTV hnb hl0 hl1 hfB2 hO2 hI2 hTC hFC hfB hfG hfC hfBlt htn hj htb hfb hfb0 hso c3 c5 c6 c7 cC hne c1
    go_upto_region 4 with fail
    refine wp_region_held_drew (S := fun W => W.cell? ⟨hb, 0, none⟩ = some (.map (some mb))) (by kernel_rfl) ?_ (fun hHeld => ?_)
    · simpa using c0
    rw [hWD] at hHeld ⊢
    refine wpAnyH_take (i := 0) (v := ?_) rfl (by kernel_rfl) (by kernel_rfl) (by kernel_rfl) (fun _ _ _ h => h) (Or.inl ⟨by rfl, ?_⟩) (by first | assumption | trivial) ?_
    rotate_left
    · intro w hSw; go_simp; (try with_reducible rfl)
    change wpAnyH _ _ _ _ _ _ _ (Act.put _ (some 14) _) _; simp only [Act.put, List.setIfInBounds_toArray, List.set_cons_zero, List.set_cons_succ]
    refine wpAnyH_take (i := 1) (v := ?_) rfl (by kernel_rfl) (by kernel_rfl) (by kernel_rfl) (fun _ _ _ h => h) (Or.inl ⟨by rfl, ?_⟩) (by first | assumption | trivial) ?_
    rotate_left
    · intro w hSw; go_simp; (try with_reducible rfl)
    change wpAnyH _ _ _ _ _ _ _ (Act.put _ (some 15) _) _; simp only [Act.put, List.setIfInBounds_toArray, List.set_cons_zero, List.set_cons_succ]
    refine wpAnyH_take (i := 2) (v := ?_) rfl (by kernel_rfl) (by kernel_rfl) (by kernel_rfl) (fun _ _ _ h => h) (Or.inl ⟨by rfl, ?_⟩) (by first | assumption | trivial) ?_
    rotate_left
    · intro w hSw; go_simp; (try with_reducible rfl)
    change wpAnyH _ _ _ _ _ _ _ (Act.put _ (some 16) _) _; simp only [Act.put, List.setIfInBounds_toArray, List.set_cons_zero, List.set_cons_succ]
    refine wpAnyH_take (i := 3) (v := ?_) rfl (by kernel_rfl) (by kernel_rfl) (by kernel_rfl) (fun _ _ _ h => h) (Or.inl ⟨by rfl, ?_⟩) (by first | assumption | trivial) ?_
    rotate_left
    · intro w hSw; go_simp; (try with_reducible rfl)
    change wpAnyH _ _ _ _ _ _ _ (Act.put _ (some 17) _) _; simp only [Act.put, List.setIfInBounds_toArray, List.set_cons_zero, List.set_cons_succ]
    refine wpAnyH_take (i := 5) (v := ?_) rfl (by kernel_rfl) (by kernel_rfl) (by kernel_rfl) (fun _ _ _ h => h) (Or.inl ⟨by rfl, ?_⟩) (by first | assumption | trivial) ?_
    rotate_left
    · intro w hSw; go_simp; (try with_reducible rfl)
    change wpAnyH _ _ _ _ _ _ _ (Act.put _ (some 19) _) _; simp only [Act.put, List.setIfInBounds_toArray, List.set_cons_zero, List.set_cons_succ]
    refine wpAnyH_take (i := 6) (v := ?_) rfl (by kernel_rfl) (by kernel_rfl) (by kernel_rfl) (fun _ _ _ h => h) (Or.inl ⟨by rfl, ?_⟩) (by first | assumption | trivial) ?_
    rotate_left
    · intro w hSw; go_simp; (try with_reducible rfl)
    change wpAnyH _ _ _ _ _ _ _ (Act.put _ (some 20) _) _; simp only [Act.put, List.setIfInBounds_toArray, List.set_cons_zero, List.set_cons_succ]
    refine wpAnyH_take (i := 7) (v := ?_) rfl (by kernel_rfl) (by kernel_rfl) (by kernel_rfl) (fun _ _ _ h => h) (Or.inl ⟨by rfl, ?_⟩) (by first | assumption | trivial) ?_
    rotate_left
    · intro w hSw; go_simp; (try with_reducible rfl)
    change wpAnyH _ _ _ _ _ _ _ (Act.put _ (some 21) _) _; simp only [Act.put, List.setIfInBounds_toArray, List.set_cons_zero, List.set_cons_succ]
    refine wpAnyH_take (i := 8) (v := ?_) rfl (by kernel_rfl) (by kernel_rfl) (by kernel_rfl) (fun _ _ _ h => h) (Or.inl ⟨by rfl, ?_⟩) (by first | assumption | trivial) ?_
    rotate_left
    · intro w hSw; go_simp; (try with_reducible rfl)
    change wpAnyH _ _ _ _ _ _ _ (Act.put _ (some 22) _) _; simp only [Act.put, List.setIfInBounds_toArray, List.set_cons_zero, List.set_cons_succ]
    refine wpAnyH_take (i := 9) (v := ?_) rfl (by kernel_rfl) (by kernel_rfl) (by kernel_rfl) (fun _ _ _ h => h) (Or.inl ⟨by rfl, ?_⟩) (by first | assumption | trivial) ?_
    rotate_left
    · intro w hSw; go_simp; (try with_reducible rfl)
    change wpAnyH _ _ _ _ _ _ _ (Act.put _ (some 23) _) _; simp only [Act.put, List.setIfInBounds_toArray, List.set_cons_zero, List.set_cons_succ]
    refine wpAnyH_ready (rs := [4, 10]) (by kernel_rfl) (by simp) ?_
    refine AllReadyH.cons rfl (fun K hK => ?_) ?_
    · go_simp
      refine hK.out _ _ ?_ (fun hHeld => ?_)
      · exact hHeld
      clear hK K
      refine wpAnyH_take (i := 11) (v := ?_) rfl (by kernel_rfl) (by kernel_rfl) (by kernel_rfl) (fun _ _ _ h => h) (Or.inl ⟨by rfl, ?_⟩) (by first | assumption | trivial) ?_
      rotate_left
      · intro w hSw; go_simp; (try with_reducible rfl)
      change wpAnyH _ _ _ _ _ _ _ (Act.put _ (some 6) _) _; simp only [Act.put, List.setIfInBounds_toArray, List.set_cons_zero, List.set_cons_succ]
      refine wpAnyH_ready (rs := [10]) (by kernel_rfl) (by simp) ?_
      refine AllReadyH.cons rfl (fun K hK => ?_) AllReadyH.nil
      go_simp
      refine hK.out _ _ ?_ (fun hHeld => ?_)
      · exact hHeld
      clear hK K
      refine wpAnyH_take (i := 12) (v := ?_) rfl (by kernel_rfl) (by kernel_rfl) (by kernel_rfl) (fun _ _ _ h => h) (Or.inl ⟨by rfl, ?_⟩) (by first | assumption | trivial) ?_
      rotate_left
      · intro w hSw; go_simp; (try with_reducible rfl)
      change wpAnyH _ _ _ _ _ _ _ (Act.put _ (some 7) _) _; simp only [Act.put, List.setIfInBounds_toArray, List.set_cons_zero, List.set_cons_succ]
      refine wpAnyH_done (by kernel_rfl) ?_ _
      clear hHeld
      go_upto_region 5 with fail
      refine wp_region_held_drew (S := fun W => W.cell? ⟨fb, 2, none⟩ = some (.slice la ln lc) ∧ W.cell? ⟨fb, 1, none⟩ = some (.int .i64 fn)) (by kernel_rfl) ?_ (fun hHeld => ?_)
      · exact ⟨by simpa using x2, by simpa using x1⟩
      rw [hWE] at hHeld ⊢
      refine wpAnyH_take (i := 0) (v := ?_) rfl (by kernel_rfl) (by kernel_rfl) (by kernel_rfl) (fun _ _ _ h => h) (Or.inl ⟨by rfl, ?_⟩) (by first | assumption | trivial) ?_
      rotate_left
      · intro w hSw; go_simp; (try with_reducible rfl)
      change wpAnyH _ _ _ _ _ _ _ (Act.put _ (some 25) _) _; simp only [Act.put, List.setIfInBounds_toArray, List.set_cons_zero, List.set_cons_succ]
      refine wpAnyH_take (i := 1) (v := ?_) rfl (by kernel_rfl) (by kernel_rfl) (by kernel_rfl) (fun _ _ _ h => h) (Or.inl ⟨by rfl, ?_⟩) (by first | assumption | trivial) ?_
      rotate_left
      · intro w hSw; go_simp; (try with_reducible rfl)
      change wpAnyH _ _ _ _ _ _ _ (Act.put _ (some 26) _) _; simp only [Act.put, List.setIfInBounds_toArray, List.set_cons_zero, List.set_cons_succ]
      refine wpAnyH_take (i := 2) (v := ?_) rfl (by kernel_rfl) (by kernel_rfl) (by kernel_rfl) (fun _ _ _ h => h) (Or.inl ⟨by rfl, ?_⟩) (by first | assumption | trivial) ?_
      rotate_left
      · intro w hSw; go_simp; (try with_reducible rfl)
      change wpAnyH _ _ _ _ _ _ _ (Act.put _ (some 27) _) _; simp only [Act.put, List.setIfInBounds_toArray, List.set_cons_zero, List.set_cons_succ]
      refine wpAnyH_take (i := 3) (v := ?_) rfl (by kernel_rfl) (by kernel_rfl) (by kernel_rfl) (fun _ _ _ h => h) (Or.inl ⟨by rfl, ?_⟩) (by first | assumption | trivial) ?_
      rotate_left
      · intro w hSw; go_simp; (try with_reducible rfl)
      change wpAnyH _ _ _ _ _ _ _ (Act.put _ (some 28) _) _; simp only [Act.put, List.setIfInBounds_toArray, List.set_cons_zero, List.set_cons_succ]
      refine wpAnyH_take (i := 4) (v := ?_) rfl (by kernel_rfl) (by kernel_rfl) (by kernel_rfl) (fun _ _ _ h => h) (Or.inl ⟨by rfl, ?_⟩) (by first | assumption | trivial) ?_
      rotate_left
      · intro w hSw; go_simp; (try with_reducible rfl)
      change wpAnyH _ _ _ _ _ _ _ (Act.put _ (some 29) _) _; simp only [Act.put, List.setIfInBounds_toArray, List.set_cons_zero, List.set_cons_succ]
      refine wpAnyH_take (i := 5) (v := ?_) rfl (by kernel_rfl) (by kernel_rfl) (by kernel_rfl) (fun _ _ _ h => h) (Or.inl ⟨by rfl, ?_⟩) (by first | assumption | trivial) ?_
      rotate_left
      · intro w hSw; go_simp; (try with_reducible rfl)
      change wpAnyH _ _ _ _ _ _ _ (Act.put _ (some 30) _) _; simp only [Act.put, List.setIfInBounds_toArray, List.set_cons_zero, List.set_cons_succ]
      refine wpAnyH_take (i := 6) (v := ?_) rfl (by kernel_rfl) (by kernel_rfl) (by kernel_rfl) (fun _ _ _ h => h) (Or.inl ⟨by rfl, ?_⟩) (by first | assumption | trivial) ?_
      rotate_left
      · intro w hSw; go_simp; (try with_reducible rfl)
      change wpAnyH _ _ _ _ _ _ _ (Act.put _ (some 31) _) _; simp only [Act.put, List.setIfInBounds_toArray, List.set_cons_zero, List.set_cons_succ]
      refine wpAnyH_take (i := 7) (v := ?_) rfl (by kernel_rfl) (by kernel_rfl) (by kernel_rfl) (fun _ _ _ h => h) (Or.inl ⟨by rfl, ?_⟩) (by first | assumption | trivial) ?_
      rotate_left
      · intro w hSw; go_simp; (try with_reducible rfl)
      change wpAnyH _ _ _ _ _ _ _ (Act.put _ (some 32) _) _; simp only [Act.put, List.setIfInBounds_toArray, List.set_cons_zero, List.set_cons_succ]
      refine wpAnyH_take (i := 8) (v := ?_) rfl (by kernel_rfl) (by kernel_rfl) (by kernel_rfl) (fun _ _ _ h => h) (Or.inl ⟨by rfl, ?_⟩) (by first | assumption | trivial) ?_
      rotate_left
      · intro w hSw; go_simp; (try with_reducible rfl)
      change wpAnyH _ _ _ _ _ _ _ (Act.put _ (some 33) _) _; simp only [Act.put, List.setIfInBounds_toArray, List.set_cons_zero, List.set_cons_succ]
      refine wpAnyH_take (i := 9) (v := ?_) rfl (by kernel_rfl) (by kernel_rfl) (by kernel_rfl) (fun _ _ _ h => h) (Or.inl ⟨by rfl, ?_⟩) (by first | assumption | trivial) ?_
      rotate_left
      · intro w hSw; go_simp; (try with_reducible rfl)
      change wpAnyH _ _ _ _ _ _ _ (Act.put _ (some 34) _) _; simp only [Act.put, List.setIfInBounds_toArray, List.set_cons_zero, List.set_cons_succ]
      refine wpAnyH_take (i := 10) (v := ?_) rfl (by kernel_rfl) (by kernel_rfl) (by kernel_rfl) (fun _ _ _ h => h) (Or.inl ⟨by rfl, ?_⟩) (by first | assumption | trivial) ?_
      rotate_left
      · intro w hSw; go_simp; (try with_reducible rfl)
      change wpAnyH _ _ _ _ _ _ _ (Act.put _ (some 35) _) _; simp only [Act.put, List.setIfInBounds_toArray, List.set_cons_zero, List.set_cons_succ]
      refine wpAnyH_take (i := 11) (v := ?_) rfl (by kernel_rfl) (by kernel_rfl) (by kernel_rfl) (fun _ _ _ h => h) (Or.inl ⟨by rfl, ?_⟩) (by first | assumption | trivial) ?_
      rotate_left
      · intro w hSw; go_simp; (try with_reducible rfl)
      change wpAnyH _ _ _ _ _ _ _ (Act.put _ (some 36) _) _; simp only [Act.put, List.setIfInBounds_toArray, List.set_cons_zero, List.set_cons_succ]
      refine wpAnyH_ready (rs := [12]) (by kernel_rfl) (by simp) ?_
      refine AllReadyH.cons rfl (fun K hK => ?_) AllReadyH.nil
      go_simp
      refine hK.out _ _ ?_ (fun hHeld => ?_)
      · exact ⟨ya2, ya1⟩
      clear hK K
      refine wpAnyH_take (i := 13) (v := ?_) rfl (by kernel_rfl) (by kernel_rfl) (by kernel_rfl) (fun _ _ _ h => h) (Or.inl ⟨by rfl, ?_⟩) (by first | assumption | trivial) ?_
      rotate_left
      · intro w hSw; go_simp; (try with_reducible rfl)
      change wpAnyH _ _ _ _ _ _ _ (Act.put _ (some 37) _) _; simp only [Act.put, List.setIfInBounds_toArray, List.set_cons_zero, List.set_cons_succ]
      refine wpAnyH_take (i := 14) (v := ?_) rfl (by kernel_rfl) (by kernel_rfl) (by kernel_rfl) (fun _ _ _ h => h) (Or.inl ⟨by rfl, ?_⟩) (by first | assumption | trivial) ?_
      rotate_left
      · intro w hSw; go_simp; (try with_reducible rfl)
      change wpAnyH _ _ _ _ _ _ _ (Act.put _ (some 38) _) _; simp only [Act.put, List.setIfInBounds_toArray, List.set_cons_zero, List.set_cons_succ]
      refine wpAnyH_ready (rs := [15]) (by kernel_rfl) (by simp) ?_
      refine AllReadyH.cons rfl (fun K hK => ?_) AllReadyH.nil
      go_simp
      refine hK.out _ _ ?_ (fun hHeld => ?_)
      · exact ⟨yc2, yc1⟩
      clear hK K
      refine wpAnyH_done (by kernel_rfl) ?_ _
      clear hHeld
      go_wp2_with fail
      go_ret
      exact HFIN.out
    refine AllReadyH.cons rfl (fun K hK => ?_) AllReadyH.nil
    go_simp
    refine hK.out _ _ ?_ (fun hHeld => ?_)
    · exact hHeld
    clear hK K
    refine wpAnyH_ready (rs := [4]) (by kernel_rfl) (by simp) ?_
    refine AllReadyH.cons rfl (fun K hK => ?_) AllReadyH.nil
    go_simp
    refine hK.out _ _ ?_ (fun hHeld => ?_)
    · exact hHeld
    clear hK K
    refine wpAnyH_take (i := 11) (v := ?_) rfl (by kernel_rfl) (by kernel_rfl) (by kernel_rfl) (fun _ _ _ h => h) (Or.inl ⟨by rfl, ?_⟩) (by first | assumption | trivial) ?_
    rotate_left
    · intro w hSw; go_simp; (try with_reducible rfl)
    change wpAnyH _ _ _ _ _ _ _ (Act.put _ (some 6) _) _; simp only [Act.put, List.setIfInBounds_toArray, List.set_cons_zero, List.set_cons_succ]
    refine wpAnyH_take (i := 12) (v := ?_) rfl (by kernel_rfl) (by kernel_rfl) (by kernel_rfl) (fun _ _ _ h => h) (Or.inl ⟨by rfl, ?_⟩) (by first | assumption | trivial) ?_
    rotate_left
    · intro w hSw; go_simp; (try with_reducible rfl)
    change wpAnyH _ _ _ _ _ _ _ (Act.put _ (some 7) _) _; simp only [Act.put, List.setIfInBounds_toArray, List.set_cons_zero, List.set_cons_succ]
    refine wpAnyH_done (by kernel_rfl) ?_ _
    clear hHeld
    go_upto_region 5 with fail
    refine wp_region_held_drew (S := fun W => W.cell? ⟨fb, 2, none⟩ = some (.slice la ln lc) ∧ W.cell? ⟨fb, 1, none⟩ = some (.int .i64 fn)) (by kernel_rfl) ?_ (fun hHeld => ?_)
    · exact ⟨by simpa using x2, by simpa using x1⟩
    rw [hWE] at hHeld ⊢
    refine wpAnyH_take (i := 0) (v := ?_) rfl (by kernel_rfl) (by kernel_rfl) (by kernel_rfl) (fun _ _ _ h => h) (Or.inl ⟨by rfl, ?_⟩) (by first | assumption | trivial) ?_
    rotate_left
    · intro w hSw; go_simp; (try with_reducible rfl)
    change wpAnyH _ _ _ _ _ _ _ (Act.put _ (some 25) _) _; simp only [Act.put, List.setIfInBounds_toArray, List.set_cons_zero, List.set_cons_succ]
    refine wpAnyH_take (i := 1) (v := ?_) rfl (by kernel_rfl) (by kernel_rfl) (by kernel_rfl) (fun _ _ _ h => h) (Or.inl ⟨by rfl, ?_⟩) (by first | assumption | trivial) ?_
    rotate_left
    · intro w hSw; go_simp; (try with_reducible rfl)
    change wpAnyH _ _ _ _ _ _ _ (Act.put _ (some 26) _) _; simp only [Act.put, List.setIfInBounds_toArray, List.set_cons_zero, List.set_cons_succ]
    refine wpAnyH_take (i := 2) (v := ?_) rfl (by kernel_rfl) (by kernel_rfl) (by kernel_rfl) (fun _ _ _ h => h) (Or.inl ⟨by rfl, ?_⟩) (by first | assumption | trivial) ?_
    rotate_left
    · intro w hSw; go_simp; (try with_reducible rfl)
    change wpAnyH _ _ _ _ _ _ _ (Act.put _ (some 27) _) _; simp only [Act.put, List.setIfInBounds_toArray, List.set_cons_zero, List.set_cons_succ]
    refine wpAnyH_take (i := 3) (v := ?_) rfl (by kernel_rfl) (by kernel_rfl) (by kernel_rfl) (fun _ _ _ h => h) (Or.inl ⟨by rfl, ?_⟩) (by first | assumption | trivial) ?_
    rotate_left
    · intro w hSw; go_simp; (try with_reducible rfl)
    change wpAnyH _ _ _ _ _ _ _ (Act.put _ (some 28) _) _; simp only [Act.put, List.setIfInBounds_toArray, List.set_cons_zero, List.set_cons_succ]
    refine wpAnyH_take (i := 4) (v := ?_) rfl (by kernel_rfl) (by kernel_rfl) (by kernel_rfl) (fun _ _ _ h => h) (Or.inl ⟨by rfl, ?_⟩) (by first | assumption | trivial) ?_
    rotate_left
    · intro w hSw; go_simp; (try with_reducible rfl)
    change wpAnyH _ _ _ _ _ _ _ (Act.put _ (some 29) _) _; simp only [Act.put, List.setIfInBounds_toArray, List.set_cons_zero, List.set_cons_succ]
    refine wpAnyH_take (i := 5) (v := ?_) rfl (by kernel_rfl) (by kernel_rfl) (by kernel_rfl) (fun _ _ _ h => h) (Or.inl ⟨by rfl, ?_⟩) (by first | assumption | trivial) ?_
    rotate_left
    · intro w hSw; go_simp; (try with_reducible rfl)
    change wpAnyH _ _ _ _ _ _ _ (Act.put _ (some 30) _) _; simp only [Act.put, List.setIfInBounds_toArray, List.set_cons_zero, List.set_cons_succ]
    refine wpAnyH_take (i := 6) (v := ?_) rfl (by kernel_rfl) (by kernel_rfl) (by kernel_rfl) (fun _ _ _ h => h) (Or.inl ⟨by rfl, ?_⟩) (by first | assumption | trivial) ?_
    rotate_left
    · intro w hSw; go_simp; (try with_reducible rfl)
    change wpAnyH _ _ _ _ _ _ _ (Act.put _ (some 31) _) _; simp only [Act.put, List.setIfInBounds_toArray, List.set_cons_zero, List.set_cons_succ]
    refine wpAnyH_take (i := 7) (v := ?_) rfl (by kernel_rfl) (by kernel_rfl) (by kernel_rfl) (fun _ _ _ h => h) (Or.inl ⟨by rfl, ?_⟩) (by first | assumption | trivial) ?_
    rotate_left
    · intro w hSw; go_simp; (try with_reducible rfl)
    change wpAnyH _ _ _ _ _ _ _ (Act.put _ (some 32) _) _; simp only [Act.put, List.setIfInBounds_toArray, List.set_cons_zero, List.set_cons_succ]
    refine wpAnyH_take (i := 8) (v := ?_) rfl (by kernel_rfl) (by kernel_rfl) (by kernel_rfl) (fun _ _ _ h => h) (Or.inl ⟨by rfl, ?_⟩) (by first | assumption | trivial) ?_
    rotate_left
    · intro w hSw; go_simp; (try with_reducible rfl)
    change wpAnyH _ _ _ _ _ _ _ (Act.put _ (some 33) _) _; simp only [Act.put, List.setIfInBounds_toArray, List.set_cons_zero, List.set_cons_succ]
    refine wpAnyH_take (i := 9) (v := ?_) rfl (by kernel_rfl) (by kernel_rfl) (by kernel_rfl) (fun _ _ _ h => h) (Or.inl ⟨by rfl, ?_⟩) (by first | assumption | trivial) ?_
    rotate_left
    · intro w hSw; go_simp; (try with_reducible rfl)
    change wpAnyH _ _ _ _ _ _ _ (Act.put _ (some 34) _) _; simp only [Act.put, List.setIfInBounds_toArray, List.set_cons_zero, List.set_cons_succ]
    refine wpAnyH_take (i := 10) (v := ?_) rfl (by kernel_rfl) (by kernel_rfl) (by kernel_rfl) (fun _ _ _ h => h) (Or.inl ⟨by rfl, ?_⟩) (by first | assumption | trivial) ?_
    rotate_left
    · intro w hSw; go_simp; (try with_reducible rfl)
    change wpAnyH _ _ _ _ _ _ _ (Act.put _ (some 35) _) _; simp only [Act.put, List.setIfInBounds_toArray, List.set_cons_zero, List.set_cons_succ]
    refine wpAnyH_take (i := 11) (v := ?_) rfl (by kernel_rfl) (by kernel_rfl) (by kernel_rfl) (fun _ _ _ h => h) (Or.inl ⟨by rfl, ?_⟩) (by first | assumption | trivial) ?_
    rotate_left
    · intro w hSw; go_simp; (try with_reducible rfl)
    change wpAnyH _ _ _ _ _ _ _ (Act.put _ (some 36) _) _; simp only [Act.put, List.setIfInBounds_toArray, List.set_cons_zero, List.set_cons_succ]
    refine wpAnyH_ready (rs := [12]) (by kernel_rfl) (by simp) ?_
    refine AllReadyH.cons rfl (fun K hK => ?_) AllReadyH.nil
    go_simp
    refine hK.out _ _ ?_ (fun hHeld => ?_)
    · exact ⟨ya2, ya1⟩
    clear hK K
    refine wpAnyH_take (i := 13) (v := ?_) rfl (by kernel_rfl) (by kernel_rfl) (by kernel_rfl) (fun _ _ _ h => h) (Or.inl ⟨by rfl, ?_⟩) (by first | assumption | trivial) ?_
    rotate_left
    · intro w hSw; go_simp; (try with_reducible rfl)
    change wpAnyH _ _ _ _ _ _ _ (Act.put _ (some 37) _) _; simp only [Act.put, List.setIfInBounds_toArray, List.set_cons_zero, List.set_cons_succ]
    refine wpAnyH_take (i := 14) (v := ?_) rfl (by kernel_rfl) (by kernel_rfl) (by kernel_rfl) (fun _ _ _ h => h) (Or.inl ⟨by rfl, ?_⟩) (by first | assumption | trivial) ?_
    rotate_left
    · intro w hSw; go_simp; (try with_reducible rfl)
    change wpAnyH _ _ _ _ _ _ _ (Act.put _ (some 38) _) _; simp only [Act.put, List.setIfInBounds_toArray, List.set_cons_zero, List.set_cons_succ]
    refine wpAnyH_ready (rs := [15]) (by kernel_rfl) (by simp) ?_
    refine AllReadyH.cons rfl (fun K hK => ?_) AllReadyH.nil
    go_simp
    refine hK.out _ _ ?_ (fun hHeld => ?_)
    · exact ⟨yc2, yc1⟩
    clear hK K
    refine wpAnyH_done (by kernel_rfl) ?_ _
    clear hHeld
    go_wp2_with fail
    go_ret
    exact HFIN.out
end Go.Proofs.YtdmplfflmdanlaaGreatDoor
