/-
  Whether a box may be: rightLetter, Right.
-/
import Derived.Test.YtdmplfflmdanlaaGreatDoorBpFlagsRow
namespace Go.Proofs.YtdmplfflmdanlaaGreatDoor
open Go.RowKit Go.Proofs.Aid Go.Proofs.Bx

/-- Whether a message may be, whatever its number is. -/
def okLt (x : Lt) : Bool := decide ((Fl.setOf x.flags).2 = 0) && decide ((Fl.setOf x.flags).1 = x.flags) && decide (0 ≤ x.day ∧ x.day ≤ 2147483647) && decide (x.text.length ≤ 2000)
/-- Messages that rise behind one, below the next number, each as it may be. -/
def riseB (n : Int) : Int → List Lt → Bool
  | _, [] => true
  | last, x :: r => decide (last < x.uid) && decide (x.uid < n) && okLt x && riseB n x.uid r
def mayB (v : Int) : Bool := decide (1 ≤ v) && decide (v ≤ 2147483647)
def rightB (v n : Int) (l : List Lt) : Bool := mayB v && mayB n && decide (l.length ≤ 60) && riseB n 0 l
set_option maxHeartbeats 1000000 in
theorem may_is (v : Int) (w : World) : Calls Tryz.prog 146 #[.int .i64 v] w fun e w' => e = .returned (.bool (mayB v)) ∧ w' = w := by
  unfold mayB
  by_cases h1 : 1 ≤ v
  · have d1 : decide (1 ≤ v) = true := decide_eq_true h1
    by_cases h2 : v ≤ 2147483647
    · have d2 : decide (v ≤ 2147483647) = true := decide_eq_true h2
      rw [d1, d2]
      go_enter Tryz.func146, Tryz.ntmps146
      go_wp2_with fail
      go_ret
      exact ⟨rfl, rfl⟩
    · have d2 : decide (v ≤ 2147483647) = false := decide_eq_false h2
      rw [d1, d2]
      go_enter Tryz.func146, Tryz.ntmps146
      go_wp2_with fail
      go_ret
      exact ⟨rfl, rfl⟩
  · have d1 : decide (1 ≤ v) = false := decide_eq_false h1
    rw [d1]
    go_enter Tryz.func146, Tryz.ntmps146
    go_wp2_with fail
    go_ret
    exact ⟨rfl, rfl⟩
set_option maxHeartbeats 2000000 in
set_option maxRecDepth 100000 in
theorem rightLetter_is (x : Lt) (fv : Value) (t : ByteArray) (w : World) (hs : Sl w fv x.flags) (ht : t.data.toList = x.text) (hl : x.flags.length ≤ 400) (hz : ∀ s ∈ x.flags, s.length ≤ 1000000) (hg : SysAt w) (hsl : (Fl.setOf x.flags).1.length ≤ 1000) :
    Calls Tryz.prog 147 #[.agg #[.int .i64 x.uid, fv, .int .i64 x.day, .string t]] w fun e w' => e = .returned (.bool (okLt x)) ∧ Below w.heap.size w w' := by
  have eA := heap_alloc_new w (.cells #[.int .i64 x.uid, fv, .int .i64 x.day, .string t] 71)
  have bA : Below w.heap.size w (w.alloc (.cells #[.int .i64 x.uid, fv, .int .i64 x.day, .string t] 71)) := (Below.refl _ _).alloc (Nat.le_refl _) _
  obtain ⟨R, hR⟩ : ∃ R, okLt x = R := ⟨_, rfl⟩
  rw [hR]
  unfold okLt at hR
  have hts : x.text.length = t.size := by rw [← ht]; show t.data.toList.length = t.data.size; simp
  rw [hts] at hR
  obtain ⟨F, hF⟩ : ∃ F, Fl.setOf x.flags = F := ⟨_, rfl⟩
  have hsA := hs.below bA (Nat.le_refl _)
  have hgl := hg.lt
  have hgA := hg.below bA hgl
  have cS := set_any fv x.flags _ hsA hl hz hgA
  rw [hF] at hR cS hsl
  obtain ⟨W1, hW1⟩ : ∃ W, w.alloc (.cells #[.int .i64 x.uid, fv, .int .i64 x.day, .string t] 71) = W := ⟨_, rfl⟩
  rw [hW1] at eA bA cS hsA
  have z1 : W1.heap.size = w.heap.size + 1 := by rw [← hW1]; simp
  have a1 : W1.cell? ⟨w.heap.size, 1, none⟩ = some fv := rd_cell eA rfl
  obtain ⟨fa, fc, hfv, _⟩ := id hs
  obtain ⟨XU, hXU⟩ : ∃ z, x.uid = z := ⟨_, rfl⟩
  obtain ⟨XD, hXD⟩ : ∃ z, x.day = z := ⟨_, rfl⟩
  obtain ⟨XF, hXF⟩ : ∃ z, x.flags = z := ⟨_, rfl⟩
  obtain ⟨FL, hFL⟩ : ∃ z, x.flags.length = z := ⟨_, rfl⟩
  rw [hFL] at hfv
  rw [hXF] at hsA hR hl
  rw [hXD] at hR eA hW1 ⊢
  rw [hXU] at eA hW1 ⊢
  have K1 : Hid (∀ W, Below W1.heap.size W1 W → W.cell? ⟨w.heap.size, 1, none⟩ = some fv ∧ W.cell? ⟨w.heap.size, 2, none⟩ = some (.int .i64 XD) ∧ W.cell? ⟨w.heap.size, 3, none⟩ = some (.string t) ∧ Sl W fv XF ∧ Below w.heap.size w W) := fun W hW => by
    have e := (hW.block w.heap.size (by omega)).trans eA
    exact ⟨rd_cell e rfl, rd_cell e rfl, rd_cell e rfl, hsA.below hW (Nat.le_refl _), bA.trans (hW.mono (by omega))⟩
  have HR : Hid ((decide (F.2 = 0) && decide (F.1 = XF) && decide (0 ≤ XD ∧ XD ≤ 2147483647) && decide (t.size ≤ 2000)) = R) := hR
  clear hs hsA hg hgA hR hF hts ht hz hXU hXD hXF hFL eA bA z1
  subst hfv
  go_enter Tryz.func147, Tryz.ntmps147
  go_wp2_with fail
  refine cS.mono ?_
  rintro e w2 ⟨hout, hb2⟩
  obtain ⟨k1, k2, k3, k4, k5⟩ := K1.out w2 hb2
  clear cS
  rcases hout with ⟨hF0, sv, rfl, hsv⟩ | ⟨hF0, rfl⟩
  rotate_left
  · have hR := HR.out
    rw [decide_eq_false hF0] at hR
    have hR : false = R := by simpa using hR
    subst hR
    have HB : Hid (Below w.heap.size w w2) := k5
    clear hb2 k1 k2 k3 k4 k5 HR K1
    go_wp2_with fail
    go_ret
    exact ⟨rfl, HB.out⟩
  have cE := equal_txs sv (.slice fa FL fc) F.1 XF w2 hsv k4 hsl (by omega)
  obtain ⟨EQ, hEQ⟩ : ∃ z, decide (F.1 = XF) = z := ⟨_, rfl⟩
  have hR := HR.out
  rw [decide_eq_true hF0, hEQ] at hR
  rw [hEQ] at cE
  have HR2 : Hid ((true && EQ && decide (0 ≤ XD ∧ XD ≤ 2147483647) && decide (t.size ≤ 2000)) = R) := hR
  obtain ⟨sa, sc, hsvf, _⟩ := id hsv
  have HB2 : Hid (Below w.heap.size w w2 ∧ Below W1.heap.size W1 w2) := ⟨k5, hb2⟩
  subst hsvf
  clear hb2 hsv hF0 hR hEQ HR k4 k5 hsl
  go_wp2_with fail
  refine cE.mono ?_
  rintro e w3 ⟨rfl, q, hw3⟩
  have hb3 : Below W1.heap.size W1 w3 := by rw [hw3]; exact below_drewN HB2.out.2 q
  obtain ⟨m1, m2, m3, m4, m5⟩ := K1.out w3 hb3
  have HB3 : Hid (Below w.heap.size w w3) := m5
  clear cE hw3 hb3 k1 k2 k3 m4 m5 HB2
  cases EQ with
  | false =>
    have hR : false = R := by have := HR2.out; simpa using this
    subst hR
    clear HR2
    go_wp2_with fail
    go_ret
    exact ⟨rfl, HB3.out⟩
  | true =>
    have cD := isDay_is XD w3
    obtain ⟨DD, hDD⟩ : ∃ z, decide (0 ≤ XD ∧ XD ≤ 2147483647) = z := ⟨_, rfl⟩
    rw [hDD] at cD
    have hR := HR2.out
    rw [hDD] at hR
    have HR3 : Hid ((true && true && DD && decide (t.size ≤ 2000)) = R) := hR
    clear HR2 hR hDD
    go_wp2_with fail
    refine cD.mono ?_
    rintro e w4 ⟨rfl, hw⟩
    obtain rfl : w3 = w4 := hw.symm
    clear cD hw
    cases DD with
    | false =>
      have hR : false = R := by have := HR3.out; simpa using this
      subst hR
      clear HR3
      go_wp2_with fail
      go_ret
      exact ⟨rfl, HB3.out⟩
    | true =>
      have HR4 : Hid (decide (t.size ≤ 2000) = R) := by show _ = R; have := HR3.out; simpa using this
      clear HR3
      by_cases hz : t.size ≤ 2000
      · have d1 : decide ((t.size : Int) ≤ 2000) = true := decide_eq_true (by omega)
        have hR : true = R := by rw [← HR4.out, decide_eq_true hz]
        subst hR
        clear HR4
        go_wp2_with fail
        go_ret
        exact ⟨rfl, HB3.out⟩
      · have d1 : decide ((t.size : Int) ≤ 2000) = false := decide_eq_false (by omega)
        have hR : false = R := by rw [← HR4.out, decide_eq_false hz]
        subst hR
        clear HR4
        go_wp2_with fail
        go_ret
        exact ⟨rfl, HB3.out⟩
theorem riseB_take {n : Int} : ∀ {l : List Lt} {last : Int} {k : Nat} {x : Lt}, l[k]? = some x → riseB n last (l.take k) = true → riseB n last (l.take (k + 1)) = (decide ((match (l.take k).getLast? with | some y => y.uid | none => last) < x.uid) && decide (x.uid < n) && okLt x)
  | [], _, k, x, h, _ => by simp at h
  | y :: l, last, 0, x, h, _ => by
    obtain rfl : y = x := by simpa using h
    show riseB n last [y] = _
    rw [riseB, riseB, Bool.and_true]
    rfl
  | y :: l, last, k + 1, x, h, hr => by
    rw [List.take_succ_cons, riseB, Bool.and_eq_true] at hr
    rw [List.take_succ_cons, riseB, hr.1, Bool.true_and, riseB_take (l := l) (by simpa using h) hr.2]
    have : ((y :: l).take (k + 1)).getLast? = some ((((l.take k).getLast?)).getD y) := by
      rw [List.take_succ_cons, List.getLast?_cons]
    rw [this]
    cases (l.take k).getLast? <;> rfl
theorem riseB_false {n : Int} : ∀ {l : List Lt} {last : Int} {k : Nat}, riseB n last (l.take k) = false → riseB n last l = false
  | [], _, k, h => by rw [List.take_nil] at h; exact h
  | y :: l, last, 0, h => by simp [riseB] at h
  | y :: l, last, k + 1, h => by
    rw [List.take_succ_cons, riseB] at h
    rw [riseB]
    cases hq : (decide (last < y.uid) && decide (y.uid < n) && okLt y) with
    | false => rfl
    | true =>
      rw [hq, Bool.true_and] at h
      rw [riseB_false h]
      rfl
/-- The last number that was looked at. -/
def lastU (l : List Lt) : Int := match l.getLast? with
  | some y => y.uid
  | none => 0
theorem lastU_snoc {l : List Lt} {k : Nat} {x : Lt} (h : l[k]? = some x) : lastU (l.take (k + 1)) = x.uid := by
  unfold lastU
  rw [List.take_add_one, h]
  show (match (l.take k ++ [x]).getLast? with | some y => y.uid | none => 0) = _
  rw [List.getLast?_concat]
set_option maxHeartbeats 4000000 in
set_option maxRecDepth 100000 in
theorem right_is (vv n : Int) (l : List Lt) (lv : Value) (w : World) (h : Lts w lv l) (hl : l.length ≤ 1000) (hfl : ∀ x ∈ l, x.flags.length ≤ 400 ∧ (∀ s ∈ x.flags, s.length ≤ 1000000) ∧ (Fl.setOf x.flags).1.length ≤ 1000) (hg : SysAt w) :
    Calls Tryz.prog 88 #[.agg #[.int .i64 vv, .int .i64 n, lv]] w fun e w' => e = .returned (.bool (rightB vv n l)) ∧ Below w.heap.size w w' := by
  obtain ⟨a, c, rfl, hcap, hrest⟩ := id h
  have eA := heap_alloc_new w (.cells #[.int .i64 vv, .int .i64 n, .slice a l.length c] 66)
  have bA : Below w.heap.size w (w.alloc (.cells #[.int .i64 vv, .int .i64 n, .slice a l.length c] 66)) := (Below.refl _ _).alloc (Nat.le_refl _) _
  obtain ⟨R, hR⟩ : ∃ R, rightB vv n l = R := ⟨_, rfl⟩
  rw [hR]
  have HL : Hid (l = [] ∨ ∃ b o, a = some ⟨b, o, none⟩ ∧ ∀ (j : Nat) x, l[j]? = some x → LtAt w b (o + j * 4) x) := hrest
  have HFL : Hid (∀ x ∈ l, x.flags.length ≤ 400 ∧ (∀ s ∈ x.flags, s.length ≤ 1000000) ∧ (Fl.setOf x.flags).1.length ≤ 1000) := hfl
  have HSY : Hid (SysAt w) := hg
  have hgl := hg.lt
  obtain ⟨m, hm⟩ : ∃ m, l.length = m := ⟨_, rfl⟩
  have HM : Hid (l.length = m) := hm
  rw [hm] at eA bA hl ⊢
  have HR : Hid ((mayB vv && mayB n && decide (m ≤ 60) && riseB n 0 l) = R) := by show _ = R; rw [← hR, ← hm]; rfl
  obtain ⟨W1, hW1⟩ : ∃ W, w.alloc (.cells #[.int .i64 vv, .int .i64 n, .slice a m c] 66) = W := ⟨_, rfl⟩
  rw [hW1] at eA bA
  have z1 : W1.heap.size = w.heap.size + 1 := by rw [← hW1]; simp
  have K1 : Hid (∀ W, Below W1.heap.size W1 W → W.cell? ⟨w.heap.size, 0, none⟩ = some (.int .i64 vv) ∧ W.cell? ⟨w.heap.size, 1, none⟩ = some (.int .i64 n) ∧ W.cell? ⟨w.heap.size, 2, none⟩ = some (.slice a m c) ∧ Below w.heap.size w W) := fun W hW => by
    have e := (hW.block w.heap.size (by omega)).trans eA
    exact ⟨rd_cell e rfl, rd_cell e rfl, rd_cell e rfl, bA.trans (hW.mono (by omega))⟩
  obtain ⟨k0, k1, k2, k3⟩ := K1.out W1 (Below.refl _ _)
  have eg : ∀ args w, (callFunc 146 args).run Tryz.prog w = .ok (.enter 146 args) w := enters_of Tryz.func146 (by kernel_rfl) rfl
  have c1 := may_is vv W1
  have c2 := may_is n W1
  obtain ⟨M1, hM1⟩ : ∃ z, mayB vv = z := ⟨_, rfl⟩
  obtain ⟨M2, hM2⟩ : ∃ z, mayB n = z := ⟨_, rfl⟩
  rw [hM1] at c1
  rw [hM2] at c2
  have HR1 : Hid ((M1 && M2 && decide (m ≤ 60) && riseB n 0 l) = R) := by have := HR.out; rw [hM1, hM2] at this; exact this
  have HB1 : Hid (Below w.heap.size w W1) := k3
  clear h hcap hrest hfl hg hm hR HR eA bA z1 hM1 hM2 k3
  go_enter Tryz.func88, Tryz.ntmps88
  go_wp2_with fail
  refine c1.mono ?_
  rintro e w2 ⟨rfl, hw⟩
  obtain rfl : W1 = w2 := hw.symm
  clear c1 hw
  cases M1 with
  | false =>
    have hR : false = R := by have := HR1.out; simpa using this
    subst hR
    clear HR1 c2
    go_wp2_with fail
    go_ret
    exact ⟨rfl, HB1.out⟩
  | true =>
    go_wp2_with fail
    refine c2.mono ?_
    rintro e w2 ⟨rfl, hw⟩
    obtain rfl : W1 = w2 := hw.symm
    clear c2 hw
    cases M2 with
    | false =>
      have hR : false = R := by have := HR1.out; simpa using this
      subst hR
      clear HR1
      go_wp2_with fail
      go_ret
      exact ⟨rfl, HB1.out⟩
    | true =>
      by_cases h60 : 60 < m
      · have hR : false = R := by have := HR1.out; rw [decide_eq_false (by omega)] at this; simpa using this
        subst hR
        have d1 : decide ((60 : Int) < (m : Int)) = true := decide_eq_true (by omega)
        have d2 : decide (60 < m) = true := decide_eq_true h60
        clear HR1
        go_wp2_with fail
        go_ret
        exact ⟨rfl, HB1.out⟩
      have d1 : decide ((60 : Int) < (m : Int)) = false := decide_eq_false (by omega)
      have d2 : decide (60 < m) = false := decide_eq_false h60
      have HR2 : Hid (riseB n 0 l = R) := by show _ = R; have := HR1.out; rw [decide_eq_true (by omega)] at this; simpa using this
      clear HR1
      go_wp2_with fail
      go_loopw [4, 28] (fun lu i wr => ∃ k : Nat, i = .int .i64 (k : Int) ∧ k ≤ m ∧ lu = .int .i64 (lastU (l.take k)) ∧ Hid (riseB n 0 (l.take k) = true ∧ Below W1.heap.size W1 wr)) (fun _ i _ => m - (intOf i).toNat)
      case atStart => exact ⟨0, rfl, Nat.zero_le _, rfl, rfl, Below.refl _ _⟩
      case round =>
        obtain ⟨k, rfl, hk, rfl, HI⟩ := hrel
        obtain ⟨p0, p1, p2, p3⟩ := K1.out wr HI.out.2
        by_cases hlt : k < m
        · have hkl : k < l.length := by rw [HM.out]; exact hlt
          obtain ⟨x, hx⟩ : ∃ x, l[k] = x := ⟨_, rfl⟩
          have hxk : l[k]? = some x := by rw [List.getElem?_eq_getElem hkl, hx]
          have hmem := List.mem_of_getElem? hxk
          obtain ⟨b, o, rfl, hat⟩ : ∃ b o, a = some ⟨b, o, none⟩ ∧ ∀ (j : Nat) x, l[j]? = some x → LtAt w b (o + j * 4) x := by
            rcases HL.out with h | h
            · rw [h] at hkl; simp at hkl
            · exact h
          obtain ⟨q0, ⟨fv, q1, hsf⟩, q3, q4⟩ := (hat k x hxk).below p3 (Nat.le_refl _)
          have eB := heap_alloc_new wr (.cells #[.int .i64 x.uid, fv, .int .i64 x.day, .string ⟨x.text.toArray⟩] 71)
          have bB : Below wr.heap.size wr (wr.alloc (.cells #[.int .i64 x.uid, fv, .int .i64 x.day, .string ⟨x.text.toArray⟩] 71)) := (Below.refl _ _).alloc (Nat.le_refl _) _
          obtain ⟨W2, hW2⟩ : ∃ W, wr.alloc (.cells #[.int .i64 x.uid, fv, .int .i64 x.day, .string ⟨x.text.toArray⟩] 71) = W := ⟨_, rfl⟩
          rw [hW2] at eB bB
          have z2 : W2.heap.size = wr.heap.size + 1 := by rw [← hW2]; simp
          have hb12 : Below W1.heap.size W1 W2 := HI.out.2.trans (bB.mono HI.out.2.size)
          obtain ⟨_, r1, _, r3⟩ := K1.out W2 hb12
          obtain ⟨f1, f2, f3⟩ := HFL.out x hmem
          have cL := rightLetter_is x fv ⟨x.text.toArray⟩ W2 (hsf.below bB (Nat.le_refl _)) rfl f1 f2 (HSY.out.below r3 hgl) f3
          have hstep := riseB_take (n := n) hxk HI.out.1
          have hlast := lastU_snoc hxk
          obtain ⟨OK, hOK⟩ : ∃ z, okLt x = z := ⟨_, rfl⟩
          rw [hOK] at cL hstep
          obtain ⟨fa, fc, hfv, _⟩ := id hsf
          obtain ⟨XU, hXU⟩ : ∃ z, x.uid = z := ⟨_, rfl⟩
          obtain ⟨XD, hXD⟩ : ∃ z, x.day = z := ⟨_, rfl⟩
          obtain ⟨XT, hXT⟩ : ∃ z : ByteArray, ⟨x.text.toArray⟩ = z := ⟨_, rfl⟩
          obtain ⟨FL, hFL⟩ : ∃ z, x.flags.length = z := ⟨_, rfl⟩
          rw [hFL] at hfv
          rw [hXU] at q0 eB hW2 cL hstep hlast
          rw [hXD] at q3 eB hW2 cL
          rw [hXT] at q4 eB hW2 cL
          obtain ⟨LU, hLU⟩ : ∃ z, lastU (l.take k) = z := ⟨_, rfl⟩
          have hstep : riseB n 0 (l.take (k + 1)) = (decide (LU < XU) && decide (XU < n) && OK) := by rw [← hLU]; exact hstep
          have a0 : W2.cell? ⟨wr.heap.size, 0, none⟩ = some (.int .i64 XU) := rd_cell eB rfl
          have a1 : W2.cell? ⟨wr.heap.size, 1, none⟩ = some fv := rd_cell eB rfl
          have a2 : W2.cell? ⟨wr.heap.size, 2, none⟩ = some (.int .i64 XD) := rd_cell eB rfl
          have a3 : W2.cell? ⟨wr.heap.size, 3, none⟩ = some (.string XT) := rd_cell eB rfl
          have K2 : Hid (∀ W, Below W2.heap.size W2 W → W.cell? ⟨wr.heap.size, 0, none⟩ = some (.int .i64 XU) ∧ Below W1.heap.size W1 W ∧ Below w.heap.size w W) := fun W hW => by
            have e := (hW.block wr.heap.size (by omega)).trans eB
            have h9 := hb12.trans (hW.mono hb12.size)
            exact ⟨rd_cell e rfl, h9, (K1.out W h9).2.2.2⟩
          have HST : Hid (riseB n 0 (l.take (k + 1)) = (decide (LU < XU) && decide (XU < n) && OK)) := hstep
          have HLA : Hid (lastU (l.take (k + 1)) = XU) := hlast
          have HW2 : Hid (Below w.heap.size w W2) := r3
          rw [hLU]
          subst hfv
          clear hx hxk hmem hat hsf eB bB z2 hb12 f1 f2 f3 hstep hlast hOK hXU hXD hXT hFL hLU r3 hkl HI p3
          by_cases e1 : XU ≤ LU
          · have hR : false = R := by
              rw [← HR2.out]
              exact (riseB_false (k := k + 1) (by rw [HST.out, decide_eq_false (by omega)]; rfl)).symm
            subst hR
            have g1 : decide (XU ≤ LU) = true := decide_eq_true e1
            clear HR2 HST HLA cL
            go_wp2_with fail
            go_ret
            exact ⟨rfl, HW2.out⟩
          have g1 : decide (XU ≤ LU) = false := decide_eq_false e1
          by_cases e2 : n ≤ XU
          · have hR : false = R := by
              rw [← HR2.out]
              exact (riseB_false (k := k + 1) (by rw [HST.out, decide_eq_false (show ¬ XU < n by omega)]; simp)).symm
            subst hR
            have g2 : decide (n ≤ XU) = true := decide_eq_true e2
            clear HR2 HST HLA cL
            go_wp2_with fail
            go_ret
            exact ⟨rfl, HW2.out⟩
          have g2 : decide (n ≤ XU) = false := decide_eq_false e2
          go_wp2_with fail
          refine cL.mono ?_
          rintro e w3 ⟨rfl, hb3⟩
          obtain ⟨v0, v1, v2⟩ := K2.out w3 hb3
          have HB3 : Hid (Below W1.heap.size W1 w3 ∧ Below w.heap.size w w3) := ⟨v1, v2⟩
          clear cL a0 a1 a2 a3 hb3 v1 v2
          cases OK with
          | false =>
            have hR : false = R := by
              rw [← HR2.out]
              exact (riseB_false (k := k + 1) (by rw [HST.out]; simp)).symm
            subst hR
            clear HR2 HST HLA
            go_wp2_with fail
            go_ret
            exact ⟨rfl, HB3.out.2⟩
          | true =>
            have HN : Hid (riseB n 0 (l.take (k + 1)) = true) := by show _ = true; rw [HST.out, decide_eq_true (show LU < XU by omega), decide_eq_true (show XU < n by omega)]; rfl
            clear HST
            go_wp2_with fail
            go_roundw
            case rel => exact ⟨k + 1, by go_num, by omega, by rw [HLA.out], HN.out, HB3.out.1⟩
            case measure => simp [intOf]; omega
        · obtain rfl : k = m := by omega
          have hR : true = R := by
            have := HI.out.1
            rw [List.take_of_length_le (by rw [HM.out]; exact Nat.le_refl _), HR2.out] at this
            exact this.symm
          subst hR
          have HB : Hid (Below w.heap.size w wr) := p3
          clear HI p3 HR2
          go_wp2_with fail
          go_ret
          exact ⟨rfl, HB.out⟩
end Go.Proofs.YtdmplfflmdanlaaGreatDoor
