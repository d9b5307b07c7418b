/-
  What a writer of package archive writes of a house, whatever is written of its letters.
-/
import Derived.Test.YtdmplfflmdanlaaGreatDoorMAwRow
namespace Go.Proofs.YtdmplfflmdanlaaGreatDoor
open Go.RowKit Go.Proofs.Aid Go.Proofs.Bx

/-- A slice of boxes, in all these worlds. -/
def BxQ (P : World → Prop) (v : Value) (L : List Bxd) : Prop := ∃ a c, v = .slice a L.length c ∧ (L = [] ∨ ∃ b o, a = some ⟨b, o, none⟩ ∧ ∀ (j : Nat) x, L[j]? = some x → ∃ lv, LtQ P lv x.ls ∧ ∀ W, P W → W.cell? ⟨b, o + j * 3, none⟩ = some (.int .i64 x.v) ∧ W.cell? ⟨b, o + j * 3 + 1, none⟩ = some (.int .i64 x.n) ∧ W.cell? ⟨b, o + j * 3 + 2, none⟩ = some lv)
theorem bxq_at {P : World → Prop} {a : Option Addr} {n c : Nat} {L : List Bxd} (h : BxQ P (.slice a n c) L) {k : Nat} {x : Bxd} (hk : L[k]? = some x) : ∃ b o lv, a = some ⟨b, o, none⟩ ∧ LtQ P lv x.ls ∧ ∀ W, P W → W.cell? ⟨b, o + k * 3, none⟩ = some (.int .i64 x.v) ∧ W.cell? ⟨b, o + k * 3 + 1, none⟩ = some (.int .i64 x.n) ∧ W.cell? ⟨b, o + k * 3 + 2, none⟩ = some lv := by
  obtain ⟨a', c', h1, h2⟩ := h
  injection h1 with h1 _ _
  subst h1
  rcases h2 with h2 | ⟨b, o, h3, h4⟩
  · rw [h2] at hk; simp at hk
  · obtain ⟨lv, h5, h6⟩ := h4 k x hk
    exact ⟨b, o, lv, h3, h5, h6⟩
theorem bxq_of {P : World → Prop} {w : World} {v : Value} {L : List Bxd} (h : Bxr w v L) (hp : ∀ W, P W → Below w.heap.size w W) : BxQ P v L := by
  obtain ⟨a, c, h1, h2⟩ := h
  refine ⟨a, c, h1, h2.imp id fun ⟨b, o, h3, h4⟩ => ⟨b, o, h3, fun j x hj => ?_⟩⟩
  obtain ⟨q1, q2, lv, q3, q4⟩ := h4 j x hj
  have hlt : b < w.heap.size := World.block_lt_of_cell? _ _ q1
  exact ⟨lv, ltq_of q4 hp, fun W hW => ⟨((hp W hW).cell (p := ⟨b, _, none⟩) hlt).trans q1, ((hp W hW).cell (p := ⟨b, _, none⟩) hlt).trans q2, ((hp W hW).cell (p := ⟨b, _, none⟩) hlt).trans q3⟩⟩
/-- What may be written of a house. -/
structure SvS (S : Svd) : Prop where
  next : 0 ≤ S.next ∧ S.next ≤ 9000000000
  nlen : S.names.length ≤ 1000
  wlen : S.wants.length ≤ 1000
  blen : S.boxes.length ≤ 1000
  n : ∀ s ∈ S.names, s.length ≤ 1000000
  w : ∀ s ∈ S.wants, s.length ≤ 1000000
  b : ∀ x ∈ S.boxes, (0 ≤ x.v ∧ x.v ≤ 9000000000) ∧ (0 ≤ x.n ∧ x.n ≤ 9000000000) ∧ x.ls.length ≤ 900 ∧ ∀ y ∈ x.ls, LtS y
def pieceB (g : Bxd → Nm) (x : Bxd) : Nm := numB x.v ++ (numB x.n ++ g x)
def bodyB (g : Bxd → Nm) (S : Svd) : Nm := numB S.next ++ (rowB textB S.wants ++ (rowB textB S.names ++ (S.boxes.map (pieceB g)).flatten))
/-- What a function writes of a box's letters. -/
def Tells (f : FuncId) (caps : List Value) (g : Bxd → Nm) (B b : Nat) (w : World) (L : List Bxd) : Prop :=
  ∀ (x : Bxd) (la : Option Addr) (lc : Nat) (o : Nm) (W : World), x ∈ L → LtQ (Wk B b w) (.slice la x.ls.length lc) x.ls → Wk B b w W → IsAw B b o W → o.length + (g x).length ≤ 100000000 → Calls Tryz.prog f (Value.agg #[.int .i64 x.v, .int .i64 x.n, .slice la x.ls.length lc] :: caps).toArray W fun e w' => e = .returned (.tuple #[]) ∧ IsAw B b (o ++ g x) w' ∧ Wk B b W w'
theorem aw_lt {B b : Nat} {out : Nm} {w : World} (h : IsAw B b out w) : b < w.heap.size := by
  obtain ⟨p, hp⟩ : ∃ p, Lib.BuilderAtF 90 5 B b p (Lib.byteCells out) w := by
    rcases h with h | h
    · exact ⟨_, h⟩
    · exact ⟨_, h⟩
  obtain ⟨_, v, hb, _⟩ := hp
  exact (Array.getElem?_eq_some_iff.1 hb).1
set_option maxHeartbeats 8000000 in
set_option maxRecDepth 100000 in
theorem awhouse_is (f : FuncId) (caps : List Value) (g : Bxd → Nm) (B b : Nat) (bg : ByteArray) (nv bv wv : Value) (S : Svd) (w : World) (h : IsAw B b [] w) (hBw : B ≤ w.heap.size) (hS : SvS S) (hn : ∀ W, Wk B b w W → Sl W nv S.names) (hb : BxQ (Wk B b w) bv S.boxes) (hw : ∀ W, Wk B b w W → Sl W wv S.wants) (hbg : bg.size ≤ 100)
    (hlen : (bodyB g S).length ≤ 50000000) (htab : TabW B w) (eg : ∀ args w, (callFunc f args).run Tryz.prog w = .ok (.enter f args) w) (HC : Tells f caps g B b w S.boxes) :
    Calls Tryz.prog 39 #[.pointer (some ⟨b, 0, none⟩), .string bg, .agg #[nv, bv, wv, .int .i64 S.next], .func (.func f) #[] caps.toArray] w fun e w' => e = .returned (.tuple #[]) ∧ IsAw B b (bg.data.toList ++ bodyB g S) w' ∧ Wk B b w w' := by
  obtain ⟨na, nc, rfl, _⟩ := id (hn w (Wk.refl _ _ _))
  obtain ⟨wa, wc, rfl, _⟩ := id (hw w (Wk.refl _ _ _))
  obtain ⟨ba, bc, rfl, _⟩ := id hb
  obtain ⟨NL, hNL⟩ : ∃ n, S.names.length = n := ⟨_, rfl⟩
  obtain ⟨WL, hWL⟩ : ∃ n, S.wants.length = n := ⟨_, rfl⟩
  obtain ⟨N, hN⟩ : ∃ n, S.boxes.length = n := ⟨_, rfl⟩
  obtain ⟨X, hX⟩ : ∃ n, S.next = n := ⟨_, rfl⟩
  have hfin : bg.data.toList ++ bodyB g S = bg.data.toList ++ numB X ++ rowB textB S.wants ++ rowB textB S.names ++ (S.boxes.map (pieceB g)).flatten := by unfold bodyB; rw [hX]; simp only [List.append_assoc]
  have hle : (numB X).length + (rowB textB S.wants).length + (rowB textB S.names).length + (S.boxes.map (pieceB g)).flatten.length ≤ 50000000 := by
    have := hlen
    unfold bodyB at this
    rw [hX] at this
    simp only [List.length_append] at this
    omega
  have hbl : bg.data.toList.length ≤ 100 := by rw [asz]; exact hbg
  rw [hNL] at hn ⊢
  rw [hWL] at hw ⊢
  rw [hN] at hb ⊢
  rw [hX]
  obtain ⟨FIN, hFIN⟩ : ∃ t, bg.data.toList ++ bodyB g S = t := ⟨_, rfl⟩
  rw [hFIN] at hfin ⊢
  have b1 : Below w.heap.size w (w.alloc (.cells #[.slice na NL nc, .slice ba N bc, .slice wa WL wc, .int .i64 X] 26)) := (Below.refl _ _).alloc (Nat.le_refl _) _
  have e1 := heap_alloc_new w (.cells #[.slice na NL nc, .slice ba N bc, .slice wa WL wc, .int .i64 X] 26)
  obtain ⟨W1, hW1⟩ : ∃ W, w.alloc (.cells #[.slice na NL nc, .slice ba N bc, .slice wa WL wc, .int .i64 X] 26) = W := ⟨_, rfl⟩
  rw [hW1] at b1 e1
  have k1 : Wk B b w W1 := Wk.of b1 hBw
  have hbw : w.heap.size ≠ b := fun e => by have := aw_lt h; omega
  have HRD : Hid (∀ W, Wk B b W1 W → W.cell? ⟨w.heap.size, 0, none⟩ = some (.slice na NL nc) ∧ W.cell? ⟨w.heap.size, 1, none⟩ = some (.slice ba N bc) ∧ W.cell? ⟨w.heap.size, 2, none⟩ = some (.slice wa WL wc) ∧ W.cell? ⟨w.heap.size, 3, none⟩ = some (.int .i64 X)) := fun W hW => by
    have e2 := hW.cells e1 hbw (by decide)
    exact ⟨rd_cell e2 rfl, rd_cell e2 rfl, rd_cell e2 rfl, rd_cell e2 rfl⟩
  have h1 := aw_below h b1
  have HX : Hid (Wk B b w W1 ∧ TabW B w ∧ B ≤ w.heap.size ∧ SvS S ∧ (∀ W, Wk B b w W → Sl W (.slice na NL nc) S.names) ∧ (∀ W, Wk B b w W → Sl W (.slice wa WL wc) S.wants) ∧ BxQ (Wk B b w) (.slice ba N bc) S.boxes ∧ S.next = X ∧ S.boxes.length = N ∧ Tells f caps g B b w S.boxes) := ⟨k1, htab, hBw, hS, hn, hw, hb, hX, hN, HC⟩
  have HFN : Hid (FIN = bg.data.toList ++ numB X ++ rowB textB S.wants ++ rowB textB S.names ++ (S.boxes.map (pieceB g)).flatten) := hfin
  have HLE : Hid ((numB X).length + (rowB textB S.wants).length + (rowB textB S.names).length + (S.boxes.map (pieceB g)).flatten.length ≤ 50000000 ∧ bg.data.toList.length ≤ 100) := ⟨hle, hbl⟩
  have cB := aw_more B b [] bg W1 h1 (by simp; omega) (Nat.le_trans hBw k1.size)
  rw [List.nil_append] at cB
  clear h h1 hn hw hb b1 e1 hNL hWL hX hN hlen hle hfin hFIN htab hbw k1 hBw hS HC hbl
  go_enter Tryz.func39, Tryz.ntmps39
  go_wp2_with fail
  refine cB.mono ?_
  rintro e w2 ⟨rfl, h2, k2⟩
  have K2 : Hid (Wk B b W1 w2) := k2
  obtain ⟨t0, t1, t2, t3⟩ := HRD.out w2 k2
  have cN := awnum_is B b _ X w2 h2 (Nat.le_trans HX.out.2.2.1 (HX.out.1.trans k2).size) (by rw [← HX.out.2.2.2.2.2.2.2.1]; exact HX.out.2.2.2.1.next) (by have := HLE.out; omega) (HX.out.2.1.wk (HX.out.1.trans k2))
  clear cB h2 k2
  go_wp2_with fail
  refine cN.mono ?_
  rintro e w3 ⟨rfl, h3, k3⟩
  have K3 : Hid (Wk B b W1 w3) := K2.out.trans k3
  clear t0 t1 t2 t3
  obtain ⟨t0, t1, t2, t3⟩ := HRD.out w3 K3.out
  have cR := awtexts_is B b _ (.slice wa WL wc) S.wants w3 h3 (Nat.le_trans HX.out.2.2.1 (HX.out.1.trans K3.out).size) HX.out.2.2.2.1.wlen HX.out.2.2.2.1.w (fun W hW => HX.out.2.2.2.2.2.1 W ((HX.out.1.trans K3.out).trans hW)) (by have := HLE.out; simp only [List.length_append]; omega) (HX.out.2.1.wk (HX.out.1.trans K3.out))
  clear cN h3 k3
  go_wp2_with fail
  refine cR.mono ?_
  rintro e w4 ⟨rfl, h4, k4⟩
  have K4 : Hid (Wk B b W1 w4) := K3.out.trans k4
  clear t0 t1 t2 t3
  obtain ⟨t0, t1, t2, t3⟩ := HRD.out w4 K4.out
  have cQ := awtexts_is B b _ (.slice na NL nc) S.names w4 h4 (Nat.le_trans HX.out.2.2.1 (HX.out.1.trans K4.out).size) HX.out.2.2.2.1.nlen HX.out.2.2.2.1.n (fun W hW => HX.out.2.2.2.2.1 W ((HX.out.1.trans K4.out).trans hW)) (by have := HLE.out; simp only [List.length_append]; omega) (HX.out.2.1.wk (HX.out.1.trans K4.out))
  clear cR h4 k4
  go_wp2_with fail
  refine cQ.mono ?_
  rintro e w5 ⟨rfl, h5, k5⟩
  have K5 : Hid (IsAw B b (bg.data.toList ++ numB X ++ rowB textB S.wants ++ rowB textB S.names) w5 ∧ Wk B b W1 w5) := ⟨h5, K4.out.trans k5⟩
  clear t0 t1 t2 t3
  obtain ⟨t0, t1, t2, t3⟩ := HRD.out w5 K5.out.2
  clear cQ h5 k5
  go_wp2_with fail
  have hN1000 : N ≤ 1000 := by rw [← HX.out.2.2.2.2.2.2.2.2.1]; exact HX.out.2.2.2.1.blen
  go_loopw [33] (fun iv wr => ∃ k : Nat, iv = .int .i64 (k : Int) ∧ k ≤ N ∧ Hid (IsAw B b (bg.data.toList ++ numB X ++ rowB textB S.wants ++ rowB textB S.names ++ ((S.boxes.take k).map (pieceB g)).flatten) wr ∧ Wk B b W1 wr)) (fun iv _ => N - (intOf iv).toNat)
  case atStart => exact ⟨0, rfl, Nat.zero_le _, by simpa using K5.out.1, K5.out.2⟩
  case round =>
    clear t0 t1 t2 t3
    obtain ⟨k, rfl, hk, HI⟩ := hrel
    by_cases hlt : k < N
    · have d1 : decide ((k : Int) < (N : Int)) = true := decide_eq_true (by omega)
      have i1 : (0 : Int) ≤ (k : Int) := by omega
      have i2 : (k : Int) < (N : Int) := by omega
      obtain ⟨x, hxk⟩ : ∃ x, S.boxes[k]? = some x := ⟨_, List.getElem?_eq_getElem (by have := HX.out.2.2.2.2.2.2.2.2.1; omega)⟩
      have hxm := List.mem_of_getElem? hxk
      have hst := flat_step (pieceB g) hxk
      have hp := flat_pre (pieceB g) S.boxes (k + 1)
      rw [hst, List.length_append] at hp
      have hpx : (pieceB g x).length = (numB x.v).length + ((numB x.n).length + (g x).length) := by unfold pieceB; simp only [List.length_append]
      have hle := HLE.out
      obtain ⟨gb, o, lv, hva, hlq, hat⟩ := bxq_at HX.out.2.2.2.2.2.2.1 hxk
      subst hva
      obtain ⟨la, lc, rfl, _⟩ := id hlq
      obtain ⟨hx1, hx2, _, _⟩ := HX.out.2.2.2.1.b x hxm
      have hlb : (bg.data.toList ++ numB X ++ rowB textB S.wants ++ rowB textB S.names ++ ((S.boxes.take k).map (pieceB g)).flatten).length + (pieceB g x).length ≤ 50000100 := by simp only [List.length_append]; omega
      obtain ⟨o0, ho0⟩ : ∃ t, bg.data.toList ++ numB X ++ rowB textB S.wants ++ rowB textB S.names ++ ((S.boxes.take k).map (pieceB g)).flatten = t := ⟨_, rfl⟩
      have HI2 : Hid (IsAw B b o0 wr ∧ Wk B b W1 wr) := by rw [← ho0]; exact HI.out
      rw [ho0] at hlb
      have HN : Hid (∀ w', IsAw B b (o0 ++ numB x.v ++ numB x.n ++ g x) w' → Wk B b wr w' → IsAw B b (bg.data.toList ++ numB X ++ rowB textB S.wants ++ rowB textB S.names ++ ((S.boxes.take (k + 1)).map (pieceB g)).flatten) w' ∧ Wk B b W1 w') := fun w' q1 q2 => by
        refine ⟨?_, HI2.out.2.trans q2⟩
        rw [hst, ← List.append_assoc, ho0]
        unfold pieceB
        simpa only [List.append_assoc] using q1
      have HQ : Hid (x ∈ S.boxes ∧ LtQ (Wk B b w) (.slice la x.ls.length lc) x.ls ∧ (∀ W, Wk B b w W → W.cell? ⟨gb, o + k * 3, none⟩ = some (.int .i64 x.v) ∧ W.cell? ⟨gb, o + k * 3 + 1, none⟩ = some (.int .i64 x.n) ∧ W.cell? ⟨gb, o + k * 3 + 2, none⟩ = some (.slice la x.ls.length lc)) ∧ o0.length + ((numB x.v).length + ((numB x.n).length + (g x).length)) ≤ 50000100 ∧ (0 ≤ x.n ∧ x.n ≤ 9000000000)) := ⟨hxm, hlq, hat, by omega, hx2⟩
      obtain ⟨t0, t1, t2, t3⟩ := HRD.out wr HI2.out.2
      obtain ⟨c0, c1, c2⟩ := hat wr (HX.out.1.trans HI2.out.2)
      have cV := awnum_is B b o0 x.v wr HI2.out.1 (Nat.le_trans HX.out.2.2.1 (HX.out.1.trans HI2.out.2).size) hx1 (by omega) (HX.out.2.1.wk (HX.out.1.trans HI2.out.2))
      obtain ⟨xv, xn, xl⟩ := x
      obtain ⟨XL, hXL⟩ : ∃ n, xl.length = n := ⟨_, rfl⟩
      have HXL : Hid (xl.length = XL) := hXL
      simp only at c0 c1 c2 cV
      rw [hXL] at c2
      clear hxk hxm hst hp hpx hle hlq hat hx1 hx2 hlb ho0 HI hXL
      go_wp2_with fail
      refine cV.mono ?_
      rintro e w6 ⟨rfl, h6, k6⟩
      have K6 : Hid (Wk B b wr w6) := k6
      clear t0 t1 t2 t3 c0 c1 c2
      obtain ⟨t0, t1, t2, t3⟩ := HRD.out w6 (HI2.out.2.trans k6)
      obtain ⟨c0, c1, c2⟩ := HQ.out.2.2.1 w6 ((HX.out.1.trans HI2.out.2).trans k6)
      have cW := awnum_is B b _ xn w6 h6 (Nat.le_trans HX.out.2.2.1 ((HX.out.1.trans HI2.out.2).trans k6).size) HQ.out.2.2.2.2 (by have := HQ.out.2.2.2.1; simp only [List.length_append] at this ⊢; omega) (HX.out.2.1.wk ((HX.out.1.trans HI2.out.2).trans k6))
      simp only [HXL.out] at c0 c1 c2
      clear cV h6 k6
      go_wp2_with fail
      refine cW.mono ?_
      rintro e w7 ⟨rfl, h7, k7⟩
      have K7 : Hid (Wk B b wr w7) := K6.out.trans k7
      clear t0 t1 t2 t3 c0 c1 c2
      obtain ⟨t0, t1, t2, t3⟩ := HRD.out w7 (HI2.out.2.trans K7.out)
      obtain ⟨c0, c1, c2⟩ := HQ.out.2.2.1 w7 ((HX.out.1.trans HI2.out.2).trans K7.out)
      have cF := HX.out.2.2.2.2.2.2.2.2.2 ⟨xv, xn, xl⟩ la lc _ w7 HQ.out.1 HQ.out.2.1 ((HX.out.1.trans HI2.out.2).trans K7.out) h7 (by have := HQ.out.2.2.2.1; simp only [List.length_append] at this ⊢; omega)
      simp only [HXL.out] at c0 c1 c2 cF
      clear cW h7 k7
      go_wp2_with fail
      refine cF.mono ?_
      rintro e w8 ⟨rfl, h8, k8⟩
      have HF : Hid _ := HN.out w8 h8 (K7.out.trans k8)
      clear t0 t1 t2 t3 c0 c1 c2 cF h8 k8
      go_wp2_with fail
      go_roundw
      case rel => exact ⟨k + 1, by go_num, by omega, HF⟩
      case measure => simp [intOf]; omega
    · have d1 : decide ((k : Int) < (N : Int)) = false := decide_eq_false (by omega)
      obtain rfl : k = N := by omega
      have HF : Hid (IsAw B b FIN wr ∧ Wk B b w wr) := by
        rw [HFN.out]
        have := HI.out.1
        rw [List.take_of_length_le (by have := HX.out.2.2.2.2.2.2.2.2.1; omega)] at this
        exact ⟨this, HX.out.1.trans HI.out.2⟩
      clear HI
      go_wp2_with fail
      go_end0
      exact ⟨rfl, HF.out.1, HF.out.2⟩
end Go.Proofs.YtdmplfflmdanlaaGreatDoor
