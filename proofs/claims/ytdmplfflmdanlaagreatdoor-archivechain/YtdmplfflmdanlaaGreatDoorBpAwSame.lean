/-
  Which letters are the same; where one is, among others; a box by its n, and more.
-/
import Derived.Test.YtdmplfflmdanlaaGreatDoorMAwHouse
namespace Go.Proofs.YtdmplfflmdanlaaGreatDoor
open Go.RowKit Go.Proofs.Aid Go.Proofs.Bx

/-- A letter is small enough to be looked at. -/
def LtSm (x : Lt) : Prop := x.flags.length ≤ 1000
/-- A yes or no that tells whether it is so. -/
def BIs (e : Ending) (p : Prop) : Prop := ∃ r, e = .returned (.bool r) ∧ (r = true ↔ p)
/-- A place, where there is one. -/
def IIs (e : Ending) (p : Prop) : Prop := ∃ i : Int, e = .returned (.int .i64 i) ∧ (0 ≤ i ↔ p)
theorem lt_same {XU YU XD YD : Int} {XF YF : List Nm} {XT YT : Nm} : (⟨XU, XF, XD, XT⟩ : Lt) = ⟨YU, YF, YD, YT⟩ ↔ XU = YU ∧ XF = YF ∧ XD = YD ∧ XT = YT := by
  constructor
  · intro e; injection e with a b c d; exact ⟨a, b, c, d⟩
  · rintro ⟨rfl, rfl, rfl, rfl⟩; rfl
set_option maxHeartbeats 4000000 in
set_option maxRecDepth 100000 in
theorem same_is (x y : Lt) (fx fy : Value) (w : World) (hx : Sl w fx x.flags) (hy : Sl w fy y.flags) (sx : LtSm x) (sy : LtSm y) :
    Calls Tryz.prog 110 #[.agg #[.int .i64 x.uid, fx, .int .i64 x.day, .string ⟨x.text.toArray⟩], .agg #[.int .i64 y.uid, fy, .int .i64 y.day, .string ⟨y.text.toArray⟩]] w fun e w' => BIs e (x = y) ∧ Below w.heap.size w w' := by
  obtain ⟨fa, fc, rfl, _⟩ := id hx
  obtain ⟨ga, gc, rfl, _⟩ := id hy
  obtain ⟨XU, XF, XD, XT⟩ := x
  obtain ⟨YU, YF, YD, YT⟩ := y
  unfold LtSm at sx sy
  simp only at hx hy sx sy ⊢
  obtain ⟨tx, htx⟩ : ∃ t : ByteArray, ⟨XT.toArray⟩ = t := ⟨_, rfl⟩
  obtain ⟨ty, hty⟩ : ∃ t : ByteArray, ⟨YT.toArray⟩ = t := ⟨_, rfl⟩
  have htt : XT = YT ↔ tx = ty := by rw [← htx, ← hty]; exact ⟨fun e => by rw [e], fun e => by injection e with e; simpa using e⟩
  rw [lt_same, htt, htx, hty]
  obtain ⟨N, hN⟩ : ∃ n, XF.length = n := ⟨_, rfl⟩
  obtain ⟨M, hM⟩ : ∃ n, YF.length = n := ⟨_, rfl⟩
  obtain ⟨W1, hW1⟩ : ∃ W, w.alloc (.cells #[.int .i64 XU, .slice fa N fc, .int .i64 XD, .string tx] 71) = W := ⟨_, rfl⟩
  have b1 : Below w.heap.size w W1 := by rw [← hW1]; exact (Below.refl _ _).alloc (Nat.le_refl _) _
  have e1 : W1.heap[w.heap.size]? = some (.cells #[.int .i64 XU, .slice fa N fc, .int .i64 XD, .string tx] 71 (0, 0)) := by rw [← hW1]; exact heap_alloc_new _ _
  obtain ⟨W2, hW2⟩ : ∃ W, W1.alloc (.cells #[.int .i64 YU, .slice ga M gc, .int .i64 YD, .string ty] 71) = W := ⟨_, rfl⟩
  have b2 : Below W1.heap.size W1 W2 := by rw [← hW2]; exact (Below.refl _ _).alloc (Nat.le_refl _) _
  have e2 : W2.heap[W1.heap.size]? = some (.cells #[.int .i64 YU, .slice ga M gc, .int .i64 YD, .string ty] 71 (0, 0)) := by rw [← hW2]; exact heap_alloc_new _ _
  have hl1 : w.heap.size < W1.heap.size := (Array.getElem?_eq_some_iff.1 e1).1
  have e1' := (b2.block _ hl1).trans e1
  have b12 : Below w.heap.size w W2 := b1.trans (b2.mono b1.size)
  have cE := equal_txs (.slice fa XF.length fc) (.slice ga YF.length gc) XF YF W2 (hx.below b12 (Nat.le_refl _)) (hy.below b12 (Nat.le_refl _)) sx sy
  rw [hN, hM] at cE ⊢
  obtain ⟨YB, hYB⟩ : ∃ n, W1.heap.size = n := ⟨_, rfl⟩
  rw [hYB] at e2
  have HRD : Hid (∀ W, Below W2.heap.size W2 W → (W.cell? ⟨w.heap.size, 0, none⟩ = some (.int .i64 XU) ∧ W.cell? ⟨w.heap.size, 1, none⟩ = some (.slice fa N fc) ∧ W.cell? ⟨w.heap.size, 2, none⟩ = some (.int .i64 XD) ∧ W.cell? ⟨w.heap.size, 3, none⟩ = some (.string tx)) ∧ W.cell? ⟨YB, 0, none⟩ = some (.int .i64 YU) ∧ W.cell? ⟨YB, 1, none⟩ = some (.slice ga M gc) ∧ W.cell? ⟨YB, 2, none⟩ = some (.int .i64 YD) ∧ W.cell? ⟨YB, 3, none⟩ = some (.string ty)) := fun W hW => by
    have g1 := (hW.block _ (Array.getElem?_eq_some_iff.1 e1').1).trans e1'
    have g2 := (hW.block _ (Array.getElem?_eq_some_iff.1 e2).1).trans e2
    exact ⟨⟨rd_cell g1 rfl, rd_cell g1 rfl, rd_cell g1 rfl, rd_cell g1 rfl⟩, rd_cell g2 rfl, rd_cell g2 rfl, rd_cell g2 rfl, rd_cell g2 rfl⟩
  obtain ⟨⟨s0, s1, s2, s3⟩, t0, t1, t2, t3⟩ := HRD.out W2 (Below.refl _ _)
  have HB2 : Hid (Below w.heap.size w W2) := b12
  clear hx hy sx sy htx hty htt hN hM b1 e1 b2 e2 hl1 e1' b12
  by_cases qu : XU = YU
  · have d0 : (XU == YU) = true := beq_iff_eq.2 qu
    go_enter Tryz.func110, Tryz.ntmps110
    by_cases qd : XD = YD
    · have d1 : (XD == YD) = true := beq_iff_eq.2 qd
      by_cases qt : tx = ty
      · have d2 : (tx.toList == ty.toList) = true := by rw [qt]; simp
        by_cases qf : XF = YF
        · have HF : Hid (XU = YU ∧ XF = YF ∧ XD = YD ∧ tx = ty) := ⟨qu, qf, qd, qt⟩
          rw [decide_eq_true qf] at cE
          clear qu qd qt qf
          go_wp2_with fail
          refine cE.mono ?_
          rintro e w3 ⟨rfl, q3, hq3⟩
          have hb3 : Below W2.heap.size W2 w3 := by rw [hq3]; exact ⟨rfl, rfl, rfl, Nat.le_refl _, fun _ _ => rfl⟩
          clear hq3
          have HB3 : Hid (Below w.heap.size w w3) := HB2.out.trans (hb3.mono HB2.out.size)
          obtain ⟨⟨u0, u1, u2, u3⟩, v0, v1, v2, v3⟩ := HRD.out w3 hb3
          clear cE hb3 s0 s1 s2 s3 t0 t1 t2 t3
          go_wp2_with fail
          go_ret
          exact ⟨⟨true, rfl, fun _ => HF.out, fun _ => rfl⟩, HB3.out⟩
        · have HF : Hid (¬ XF = YF) := qf
          rw [decide_eq_false qf] at cE
          clear qu qd qt qf
          go_wp2_with fail
          refine cE.mono ?_
          rintro e w3 ⟨rfl, q3, hq3⟩
          have hb3 : Below W2.heap.size W2 w3 := by rw [hq3]; exact ⟨rfl, rfl, rfl, Nat.le_refl _, fun _ _ => rfl⟩
          clear hq3
          have HB3 : Hid (Below w.heap.size w w3) := HB2.out.trans (hb3.mono HB2.out.size)
          obtain ⟨⟨u0, u1, u2, u3⟩, v0, v1, v2, v3⟩ := HRD.out w3 hb3
          clear cE hb3 s0 s1 s2 s3 t0 t1 t2 t3
          go_wp2_with fail
          go_ret
          exact ⟨⟨false, rfl, fun h => (by cases h), fun h => absurd h.2.1 HF.out⟩, HB3.out⟩
      · have d2 : (tx.toList == ty.toList) = false := beq_eq_false_iff_ne.2 fun e => qt (by
          rw [Lib.toList_data, Lib.toList_data] at e
          rw [ba_list e])
        have HT : Hid (¬ tx = ty) := qt
        obtain ⟨B, hB⟩ : ∃ B, decide (XF = YF) = B := ⟨_, rfl⟩
        rw [hB] at cE
        clear qu qd qt hB
        cases B <;>
        · go_wp2_with fail
          refine cE.mono ?_
          rintro e w3 ⟨rfl, q3, hq3⟩
          have hb3 : Below W2.heap.size W2 w3 := by rw [hq3]; exact ⟨rfl, rfl, rfl, Nat.le_refl _, fun _ _ => rfl⟩
          clear hq3
          have HB3 : Hid (Below w.heap.size w w3) := HB2.out.trans (hb3.mono HB2.out.size)
          obtain ⟨⟨u0, u1, u2, u3⟩, v0, v1, v2, v3⟩ := HRD.out w3 hb3
          clear cE hb3 s0 s1 s2 s3 t0 t1 t2 t3
          go_wp2_with fail
          go_ret
          exact ⟨⟨false, rfl, fun h => (by cases h), fun h => absurd h.2.2.2 HT.out⟩, HB3.out⟩
    · have d1 : (XD == YD) = false := beq_eq_false_iff_ne.2 qd
      have HT : Hid (¬ XD = YD) := qd
      obtain ⟨B, hB⟩ : ∃ B, decide (XF = YF) = B := ⟨_, rfl⟩
      rw [hB] at cE
      clear qu qd hB
      cases B <;>
      · go_wp2_with fail
        refine cE.mono ?_
        rintro e w3 ⟨rfl, q3, hq3⟩
        have hb3 : Below W2.heap.size W2 w3 := by rw [hq3]; exact ⟨rfl, rfl, rfl, Nat.le_refl _, fun _ _ => rfl⟩
        clear hq3
        have HB3 : Hid (Below w.heap.size w w3) := HB2.out.trans (hb3.mono HB2.out.size)
        obtain ⟨⟨u0, u1, u2, u3⟩, v0, v1, v2, v3⟩ := HRD.out w3 hb3
        clear cE hb3 s0 s1 s2 s3 t0 t1 t2 t3
        go_wp2_with fail
        go_ret
        exact ⟨⟨false, rfl, fun h => (by cases h), fun h => absurd h.2.2.1 HT.out⟩, HB3.out⟩
  · have d0 : (XU == YU) = false := beq_eq_false_iff_ne.2 qu
    have HT : Hid (¬ XU = YU) := qu
    clear qu cE
    go_enter Tryz.func110, Tryz.ntmps110
    go_wp2_with fail
    go_ret
    exact ⟨⟨false, rfl, fun h => (by cases h), fun h => absurd h.1 HT.out⟩, HB2.out⟩
/-- The letter that is looked for lies at lb. -/
theorem parted1_is (x y : Lt) (fx fy : Value) (lb : Nat) (w : World) (hx : Sl w fx x.flags) (hy : Sl w fy y.flags) (sx : LtSm x) (sy : LtSm y) (hl : w.heap[lb]? = some (.cells #[.int .i64 y.uid, fy, .int .i64 y.day, .string ⟨y.text.toArray⟩] 71 (0, 0))) :
    Calls Tryz.prog 109 #[.agg #[.int .i64 x.uid, fx, .int .i64 x.day, .string ⟨x.text.toArray⟩], .pointer (some ⟨lb, 0, none⟩)] w fun e w' => BIs e (x = y) ∧ Below w.heap.size w w' := by
  obtain ⟨fa, fc, rfl, _⟩ := id hx
  obtain ⟨ga, gc, rfl, _⟩ := id hy
  have b1 : Below w.heap.size w (w.alloc (.cells #[.int .i64 x.uid, .slice fa x.flags.length fc, .int .i64 x.day, .string ⟨x.text.toArray⟩] 71)) := (Below.refl _ _).alloc (Nat.le_refl _) _
  have e1 := heap_alloc_new w (.cells #[.int .i64 x.uid, .slice fa x.flags.length fc, .int .i64 x.day, .string ⟨x.text.toArray⟩] 71)
  obtain ⟨W1, hW1⟩ : ∃ W, w.alloc (.cells #[.int .i64 x.uid, .slice fa x.flags.length fc, .int .i64 x.day, .string ⟨x.text.toArray⟩] 71) = W := ⟨_, rfl⟩
  rw [hW1] at b1 e1
  have e2 := (b1.block lb (Array.getElem?_eq_some_iff.1 hl).1).trans hl
  have cS := same_is x y _ _ W1 (hx.below b1 (Nat.le_refl _)) (hy.below b1 (Nat.le_refl _)) sx sy
  have HB : Hid (Below w.heap.size w W1) := b1
  clear hx hy sx sy hl b1
  obtain ⟨XU, XF, XD, XT⟩ := x
  obtain ⟨YU, YF, YD, YT⟩ := y
  simp only at e1 e2 cS hW1 ⊢
  obtain ⟨tx, htx⟩ : ∃ t : ByteArray, ⟨XT.toArray⟩ = t := ⟨_, rfl⟩
  obtain ⟨ty, hty⟩ : ∃ t : ByteArray, ⟨YT.toArray⟩ = t := ⟨_, rfl⟩
  obtain ⟨N, hN⟩ : ∃ n, XF.length = n := ⟨_, rfl⟩
  obtain ⟨M, hM⟩ : ∃ n, YF.length = n := ⟨_, rfl⟩
  rw [htx, hN] at e1 cS hW1 ⊢
  rw [hty, hM] at e2 cS
  obtain ⟨p, hp⟩ : ∃ p : Prop, ((⟨XU, XF, XD, XT⟩ : Lt) = ⟨YU, YF, YD, YT⟩) = p := ⟨_, rfl⟩
  rw [hp] at cS ⊢
  clear htx hty hN hM hp
  have c0 : W1.cell? ⟨w.heap.size, 0, none⟩ = some (.int .i64 XU) := rd_cell e1 rfl
  have c1 : W1.cell? ⟨w.heap.size, 1, none⟩ = some (.slice fa N fc) := rd_cell e1 rfl
  have c2 : W1.cell? ⟨w.heap.size, 2, none⟩ = some (.int .i64 XD) := rd_cell e1 rfl
  have c3 : W1.cell? ⟨w.heap.size, 3, none⟩ = some (.string tx) := rd_cell e1 rfl
  have g0 : W1.cell? ⟨lb, 0, none⟩ = some (.int .i64 YU) := rd_cell e2 rfl
  have g1 : W1.cell? ⟨lb, 1, none⟩ = some (.slice ga M gc) := rd_cell e2 rfl
  have g2 : W1.cell? ⟨lb, 2, none⟩ = some (.int .i64 YD) := rd_cell e2 rfl
  have g3 : W1.cell? ⟨lb, 3, none⟩ = some (.string ty) := rd_cell e2 rfl
  clear e1 e2
  go_enter Tryz.func109, Tryz.ntmps109
  go_wp2_with fail
  refine cS.mono ?_
  rintro e w3 ⟨⟨r, rfl, hr⟩, hb3⟩
  have HF : Hid ((r = true ↔ p) ∧ Below w.heap.size w w3) := ⟨hr, HB.out.trans (hb3.mono HB.out.size)⟩
  clear cS hr hb3
  go_wp2_with fail
  go_ret
  exact ⟨⟨r, rfl, HF.out.1⟩, HF.out.2⟩
theorem lts_at2 {w : World} {a : Option Addr} {n c : Nat} {l : List Lt} (h : Lts w (.slice a n c) l) {k : Nat} {x : Lt} (hk : l[k]? = some x) : ∃ b o, a = some ⟨b, o, none⟩ ∧ LtAt w b (o + k * 4) x := by
  obtain ⟨a', c', h1, _, h2⟩ := h
  injection h1 with h1 _ _
  subst h1
  rcases h2 with h2 | ⟨b, o, h3, h4⟩
  · rw [h2] at hk; simp at hk
  · exact ⟨b, o, h3, h4 k x hk⟩
set_option maxHeartbeats 4000000 in
set_option maxRecDepth 100000 in
/-- Whether one is among others. -/
theorem lindex_is (v : Value) (l : List Lt) (y : Lt) (fy : Value) (lb : Nat) (w : World) (h : Lts w v l) (hl : l.length ≤ 1000) (hs : ∀ x ∈ l, LtSm x) (hy : Sl w fy y.flags) (sy : LtSm y) (hlb : w.heap[lb]? = some (.cells #[.int .i64 y.uid, fy, .int .i64 y.day, .string ⟨y.text.toArray⟩] 71 (0, 0))) :
    Calls Tryz.prog 159 #[v, .func (.func 109) #[] #[.pointer (some ⟨lb, 0, none⟩)]] w fun e w' => IIs e (y ∈ l) ∧ Below w.heap.size w w' := by
  obtain ⟨a, c, rfl, _⟩ := id h
  obtain ⟨M, hM⟩ : ∃ m, l.length = m := ⟨_, rfl⟩
  have HX : Hid (Lts w (.slice a M c) l ∧ l.length = M ∧ (∀ x ∈ l, LtSm x) ∧ Sl w fy y.flags ∧ LtSm y ∧ w.heap[lb]? = some (.cells #[.int .i64 y.uid, fy, .int .i64 y.day, .string ⟨y.text.toArray⟩] 71 (0, 0))) := ⟨by rw [← hM]; exact h, hM, hs, hy, sy, hlb⟩
  rw [hM] at hl ⊢
  clear h hM hs hy sy hlb
  go_enter Tryz.func159, Tryz.ntmps159
  go_wp2_with fail
  go_loopw [8] (fun iv wr => ∃ k : Nat, iv = .int .i64 (k : Int) ∧ k ≤ M ∧ Hid (Below w.heap.size w wr ∧ ∀ j x, l[j]? = some x → j < k → ¬ x = y)) (fun iv _ => M - (intOf iv).toNat)
  case atStart => exact ⟨0, rfl, Nat.zero_le _, Below.refl _ _, fun j x _ hj => absurd hj (by omega)⟩
  case round =>
    obtain ⟨k, rfl, hk, HB⟩ := hrel
    by_cases hlt : k < M
    · have d1 : decide ((k : Int) < (M : Int)) = true := decide_eq_true (by omega)
      have i1 : (0 : Int) ≤ (k : Int) := by omega
      have i2 : (k : Int) < (M : Int) := by omega
      obtain ⟨x, hxk⟩ : ∃ x, l[k]? = some x := ⟨_, List.getElem?_eq_getElem (by have := HX.out.2.1; omega)⟩
      have hxm := List.mem_of_getElem? hxk
      obtain ⟨g, o, hva, q1, ⟨fx, q2, q3⟩, q4, q5⟩ := lts_at2 (HX.out.1.below HB.out.1 (Nat.le_refl _)) hxk
      subst hva
      have cP := parted1_is x y fx fy lb wr q3 (HX.out.2.2.2.1.below HB.out.1 (Nat.le_refl _)) (HX.out.2.2.1 x hxm) HX.out.2.2.2.2.1 ((HB.out.1.block lb (Array.getElem?_eq_some_iff.1 HX.out.2.2.2.2.2).1).trans HX.out.2.2.2.2.2)
      obtain ⟨fa, fc, rfl, _⟩ := id q3
      have HK : Hid (l[k]? = some x) := hxk
      obtain ⟨XU, XF, XD, XT⟩ := x
      simp only at q1 q2 q4 q5 cP
      obtain ⟨tx, htx⟩ : ∃ t : ByteArray, ⟨XT.toArray⟩ = t := ⟨_, rfl⟩
      obtain ⟨N, hN⟩ : ∃ n, XF.length = n := ⟨_, rfl⟩
      rw [hN] at q2 cP
      rw [htx] at q5 cP
      obtain ⟨p, hp⟩ : ∃ p : Prop, ((⟨XU, XF, XD, XT⟩ : Lt) = y) = p := ⟨_, rfl⟩
      have HP : Hid (((⟨XU, XF, XD, XT⟩ : Lt) = y) = p) := hp
      rw [hp] at cP
      clear hxk hxm q3 htx hN hp
      go_wp2_with fail
      refine cP.mono ?_
      rintro e w1 ⟨⟨r, rfl, hr⟩, hb1⟩
      cases r with
      | true =>
        have HF : Hid (((0 : Int) ≤ (k : Int) ↔ y ∈ l) ∧ Below w.heap.size w w1) := by
          refine ⟨⟨fun _ => ?_, fun _ => by omega⟩, HB.out.1.trans (hb1.mono HB.out.1.size)⟩
          have h1 := HP.out.mpr (hr.1 rfl)
          rw [← h1]
          exact List.mem_of_getElem? HK.out
        clear cP hb1 hr
        go_wp2_with fail
        go_ret
        exact ⟨⟨_, rfl, HF.out.1⟩, HF.out.2⟩
      | false =>
        have HB1 : Hid (Below w.heap.size w w1 ∧ ∀ j x, l[j]? = some x → j < k + 1 → ¬ x = y) := by
          refine ⟨HB.out.1.trans (hb1.mono HB.out.1.size), fun j x hj hlt2 => ?_⟩
          by_cases e : j = k
          · rw [e, HK.out] at hj
            obtain rfl := Option.some.inj hj
            intro e2
            have := hr.2 (HP.out.mp e2)
            cases this
          · exact HB.out.2 j x hj (by omega)
        clear cP hb1 hr
        go_wp2_with fail
        go_roundw
        case rel => exact ⟨k + 1, by go_num, by omega, HB1⟩
        case measure => simp [intOf]; omega
    · have d1 : decide ((k : Int) < (M : Int)) = false := decide_eq_false (by omega)
      have HF : Hid (((0 : Int) ≤ -1 ↔ y ∈ l) ∧ Below w.heap.size w wr) := by
        refine ⟨⟨fun h => absurd h (by decide), fun h => ?_⟩, HB.out.1⟩
        obtain ⟨j, hj⟩ := List.getElem?_of_mem h
        exact absurd rfl (HB.out.2 j y hj (by have := (List.getElem?_eq_some_iff.1 hj).1; have := HX.out.2.1; omega))
      clear HB
      go_wp2_with fail
      go_ret
      exact ⟨⟨_, rfl, HF.out.1⟩, HF.out.2⟩
theorem lcontains_is (v : Value) (l : List Lt) (y : Lt) (fy : Value) (lb : Nat) (w : World) (h : Lts w v l) (hl : l.length ≤ 1000) (hs : ∀ x ∈ l, LtSm x) (hy : Sl w fy y.flags) (sy : LtSm y) (hlb : w.heap[lb]? = some (.cells #[.int .i64 y.uid, fy, .int .i64 y.day, .string ⟨y.text.toArray⟩] 71 (0, 0))) :
    Calls Tryz.prog 108 #[v, .func (.func 109) #[] #[.pointer (some ⟨lb, 0, none⟩)]] w fun e w' => BIs e (y ∈ l) ∧ Below w.heap.size w w' := by
  have cI := lindex_is v l y fy lb w h hl hs hy sy hlb
  obtain ⟨a, c, rfl, _⟩ := id h
  obtain ⟨M, hM⟩ : ∃ m, l.length = m := ⟨_, rfl⟩
  rw [hM] at cI ⊢
  obtain ⟨p, hp⟩ : ∃ p : Prop, (y ∈ l) = p := ⟨_, rfl⟩
  rw [hp] at cI ⊢
  clear h hM hs hy sy hlb hl hp
  go_enter Tryz.func108, Tryz.ntmps108
  go_wp2_with fail
  refine cI.mono ?_
  rintro e w1 ⟨⟨i, rfl, hi⟩, hb1⟩
  by_cases h0 : 0 ≤ i
  · have d1 : decide ((0 : Int) ≤ i) = true := decide_eq_true h0
    have HF : Hid (p ∧ Below w.heap.size w w1) := ⟨hi.1 h0, hb1⟩
    clear cI hi hb1 h0
    go_wp2_with fail
    go_ret
    exact ⟨⟨_, rfl, fun _ => HF.out.1, fun _ => rfl⟩, HF.out.2⟩
  · have d1 : decide ((0 : Int) ≤ i) = false := decide_eq_false h0
    have HF : Hid (¬ p ∧ Below w.heap.size w w1) := ⟨fun h => h0 (hi.2 h), hb1⟩
    clear cI hi hb1 h0
    go_wp2_with fail
    go_ret
    exact ⟨⟨_, rfl, fun h => (by cases h), fun h => absurd h HF.out.1⟩, HF.out.2⟩
end Go.Proofs.YtdmplfflmdanlaaGreatDoor
namespace Go.Proofs.YtdmplfflmdanlaaGreatDoor
open Go.RowKit Go.Proofs.Aid Go.Proofs.Bx

theorem uid_one {l : List Lt} (h : l.Pairwise fun a b => a.uid < b.uid) {x y : Lt} (hx : x ∈ l) (hy : y ∈ l) (e : x.uid = y.uid) : x = y := by
  induction l with
  | nil => cases hx
  | cons a l ih =>
    obtain ⟨h1, h2⟩ := List.pairwise_cons.1 h
    rcases List.mem_cons.1 hx with ex | hx2
    · rcases List.mem_cons.1 hy with ey | hy2
      · rw [ex, ey]
      · have := h1 y hy2; rw [← ex] at this; omega
    · rcases List.mem_cons.1 hy with ey | hy2
      · have := h1 x hx2; rw [← ey] at this; omega
      · exact ih h2 hx2 hy2
/-- Two lists that rise by their numbers and have the same letters are one. -/
theorem rising_ext : ∀ {a b : List Lt}, (a.Pairwise fun x y => x.uid < y.uid) → (b.Pairwise fun x y => x.uid < y.uid) → (∀ x, x ∈ a ↔ x ∈ b) → a = b
  | [], [], _, _, _ => rfl
  | [], y :: b, _, _, h => absurd ((h y).2 List.mem_cons_self) List.not_mem_nil
  | x :: a, [], _, _, h => absurd ((h x).1 List.mem_cons_self) List.not_mem_nil
  | x :: a, y :: b, h1, h2, h => by
    obtain ⟨p1, p2⟩ := List.pairwise_cons.1 h1
    obtain ⟨q1, q2⟩ := List.pairwise_cons.1 h2
    have e : x = y := by
      rcases List.mem_cons.1 ((h x).1 List.mem_cons_self) with e | hx
      · exact e
      · rcases List.mem_cons.1 ((h y).2 List.mem_cons_self) with e | hy
        · exact e.symm
        · have := q1 x hx; have := p1 y hy; omega
    subst e
    congr 1
    refine rising_ext p2 q2 fun z => ⟨fun hz => ?_, fun hz => ?_⟩
    · rcases List.mem_cons.1 ((h z).1 (List.mem_cons_of_mem _ hz)) with rfl | h3
      · have := p1 z hz; omega
      · exact h3
    · rcases List.mem_cons.1 ((h z).2 (List.mem_cons_of_mem _ hz)) with rfl | h3
      · have := q1 z hz; omega
      · exact h3
open Classical in
/-- The numbers of those that were there before, just so; and the others. -/
noncomputable def keptU (now before : List Lt) : List Int := (now.filter fun y => decide (y ∈ before)).map Lt.uid
open Classical in
noncomputable def othersL (now before : List Lt) : List Lt := now.filter fun y => !decide (y ∈ before)
open Classical in
/-- What was kept is what was there before under those numbers. -/
theorem kept_back {now before : List Lt} (h1 : now.Pairwise fun a b => a.uid < b.uid) (h2 : before.Pairwise fun a b => a.uid < b.uid) : (before.filter fun b => decide (b.uid ∈ keptU now before)) = now.filter fun y => decide (y ∈ before) := by
  refine rising_ext (h2.filter _) (h1.filter _) fun x => ?_
  simp only [List.mem_filter, decide_eq_true_eq, keptU, List.mem_map]
  constructor
  · rintro ⟨hx, y, ⟨hy, hyb⟩, e⟩
    obtain rfl := uid_one h2 hyb hx e
    exact ⟨hy, hx⟩
  · rintro ⟨hx, hb⟩
    exact ⟨hb, x, ⟨hx, hb⟩, rfl⟩
open Classical in
/-- Both together are all letters, in some order. -/
theorem joined_perm {now before : List Lt} (h1 : now.Pairwise fun a b => a.uid < b.uid) (h2 : before.Pairwise fun a b => a.uid < b.uid) : ((before.filter fun b => decide (b.uid ∈ keptU now before)) ++ othersL now before).Perm now := by
  rw [kept_back h1 h2]
  exact List.filter_append_perm (fun y => decide (y ∈ before)) now
/-- Put in order by their numbers they are the letters as they were. -/
theorem joined_back {now out : List Lt} (h1 : now.Pairwise fun a b => a.uid < b.uid) (h3 : out.Perm now) (h4 : out.Pairwise fun a b => a.uid < b.uid) : out = now := rising_ext h4 h1 fun _ => h3.mem_iff
end Go.Proofs.YtdmplfflmdanlaaGreatDoor
