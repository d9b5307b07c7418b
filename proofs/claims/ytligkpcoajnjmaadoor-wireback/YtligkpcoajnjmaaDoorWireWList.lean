/-
  What a writer of package wire writes of a list.
-/
import Derived.Test.YtligkpcoajnjmaaDoorWireWrite
namespace Go.Proofs.YtligkpcoajnjmaaDoor
open Go.RowKit Go.Proofs.Aid Go.Proofs.Sq Go.Proofs.Hd
open Go.Proofs.Sr (Ar)

theorem prL_take_le : ∀ (l : List Ar) (first : Bool) (k : Nat), (prL first (l.take k)).length ≤ (prL first l).length
  | [], first, k => by rw [List.take_nil]; exact Nat.le_refl _
  | a :: l, first, 0 => by rw [List.take_zero, prL]; simp
  | a :: l, first, k + 1 => by
    rw [List.take_succ_cons, prL, prL]
    simp only [List.length_append]
    have := prL_take_le l false k
    omega
theorem prL_next {l : List Ar} {k : Nat} {x : Ar} (h : l[k]? = some x) : prL true (l.take (k + 1)) = prL true (l.take k) ++ ((if k = 0 then [] else [32]) ++ prA x) := by
  rw [List.take_add_one, h]
  show prL true (l.take k ++ [x]) = _
  rw [prL_snoc]
  have hk : k < l.length := (List.getElem?_eq_some_iff.1 h).1
  cases k with
  | zero => simp
  | succ k =>
    cases l with
    | nil => simp at hk
    | cons a l => simp
theorem agw_at {w : World} {Ok : Nat → Prop} {l : List Ar} {va : Option Addr} {N vc : Nat} (h : Agw w Ok l (.slice va N vc)) {k : Nat} {x : Ar} (hk : l[k]? = some x) :
    ∃ (bb o : Nat) (tb : ByteArray) (xa : Option Addr) (xn xc : Nat), va = some ⟨bb, o, none⟩ ∧ tb.data.toList = x.text ∧ Agw w Ok x.list (.slice xa xn xc) ∧ w.cell? ⟨bb, o + k * 3, none⟩ = some (.int .i64 x.kind) ∧ w.cell? ⟨bb, o + k * 3 + 1, none⟩ = some (.string tb) ∧ w.cell? ⟨bb, o + k * 3 + 2, none⟩ = some (.slice xa xn xc) := by
  generalize hv : Value.slice va N vc = v at h
  cases h with
  | mk _ a c txt vs htx hkk ha =>
    injection hv with e1 e2 e3
    subst e1
    rcases ha with rfl | ⟨bb, o, rfl, _, h3⟩
    · simp at hk
    · obtain ⟨c0, c1, c2⟩ := h3 k x hk
      have h4 := hkk k x hk
      obtain ⟨xa, xc, h5⟩ := h4.form
      rw [h5] at h4 c2
      exact ⟨bb, o, txt k, xa, _, xc, rfl, htx k x hk, h4, c0, c1, c2⟩
set_option maxHeartbeats 4000000 in
set_option maxRecDepth 100000 in
theorem wlist_at (B b d : Nat) (out : Hd.Tx) (l : List Ar) (va : Option Addr) (vc : Nat) (w : World) (h : IsWr B b out w) (hBw : B ≤ w.heap.size) (hl : Agw w (fun k => k < B) l (.slice va l.length vc)) (hll : l.length ≤ 100000)
    (hlen : out.length + (prL true l).length + 2 ≤ 100000000)
    (cA : ∀ (x : Ar), x ∈ l → ∀ (tb : ByteArray) (xa : Option Addr) (xn xc : Nat) (o : Hd.Tx) (W : World), IsWr B b o W → Below B w W → tb.data.toList = x.text → Agw W (fun k => k < B) x.list (.slice xa xn xc) → o.length + (prA x).length ≤ 100000000 →
      Calls Tryd.prog 28 #[.pointer (some ⟨b, 0, none⟩), .agg #[.int .i64 x.kind, .string tb, .slice xa xn xc], .int .i64 (d : Int)] W fun e w' => e = .returned (.tuple #[]) ∧ IsWr B b (o ++ prA x) w' ∧ Below B W w' ∧ Lib.OthersKept 5 (some b) W w') :
    Calls Tryd.prog 55 #[.pointer (some ⟨b, 0, none⟩), .slice va l.length vc, .int .i64 (d : Int)] w fun e w' => e = .returned (.tuple #[]) ∧ IsWr B b (out ++ 40 :: (prL true l ++ [41])) w' ∧ Below B w w' ∧ Lib.OthersKept 5 (some b) w w' := by
  obtain ⟨N, hN⟩ : ∃ N, l.length = N := ⟨_, rfl⟩
  have HL : Hid (∀ W, Below B w W → Agw W (fun k => k < B) l (.slice va N vc)) := fun W hW => by
    rw [← hN]
    exact hl.kept fun k hk _ => ⟨hk, hW.block k hk⟩
  have HN : Hid (l.length = N) := hN
  have HT : Hid (∀ k, (prL true (l.take k)).length ≤ (prL true l).length) := fun k => prL_take_le l true k
  have HC : Hid (∀ (x : Ar), x ∈ l → ∀ (tb : ByteArray) (xa : Option Addr) (xn xc : Nat) (o : Hd.Tx) (W : World), IsWr B b o W → Below B w W → tb.data.toList = x.text → Agw W (fun k => k < B) x.list (.slice xa xn xc) → o.length + (prA x).length ≤ 100000000 →
      Calls Tryd.prog 28 #[.pointer (some ⟨b, 0, none⟩), .agg #[.int .i64 x.kind, .string tb, .slice xa xn xc], .int .i64 (d : Int)] W fun e w' => e = .returned (.tuple #[]) ∧ IsWr B b (o ++ prA x) w' ∧ Below B W w' ∧ Lib.OthersKept 5 (some b) W w') := cA
  have c0 := wr_text B b out ⟨#[40]⟩ w h (by show out.length + 1 ≤ _; omega) hBw
  rw [hN] at hll ⊢
  obtain ⟨PL, hPL⟩ : ∃ n, (prL true l).length = n := ⟨_, rfl⟩
  rw [hPL] at hlen HT
  obtain ⟨OL, hOL⟩ : ∃ n, out.length = n := ⟨_, rfl⟩
  rw [hOL] at hlen
  have HOL : Hid (out.length = OL) := hOL
  clear hl cA h hN hPL hOL
  go_enter Tryd.func55, Tryd.ntmps55
  go_wp2_with fail
  refine c0.mono ?_
  rintro e w1 ⟨rfl, h1, hb1, ho1⟩
  clear c0
  go_wp2_with fail
  go_loopw [14] (fun i wr => ∃ k : Nat, i = .int .i64 (k : Int) ∧ k ≤ N ∧ Hid (IsWr B b (out ++ 40 :: prL true (l.take k)) wr ∧ Below B w wr ∧ Lib.OthersKept 5 (some b) w wr)) (fun i _ => N - (intOf i).toNat)
  case atStart => exact ⟨0, rfl, by omega, by rw [List.take_zero, prL]; exact h1, hb1, ho1⟩
  case round =>
    obtain ⟨k, rfl, hk, HI⟩ := hrel
    have hsz : w.heap.size ≤ wr.heap.size := HI.out.2.1.size
    by_cases hlt : k < N
    · have hkl : k < l.length := by rw [HN.out]; exact hlt
      obtain ⟨x, hx⟩ : ∃ x, l[k] = x := ⟨_, rfl⟩
      have hxk : l[k]? = some x := by rw [List.getElem?_eq_getElem hkl, hx]
      obtain ⟨bb, o, tb, xa, xn, xc, rfl, htb, hag, q0, q1, q2⟩ := agw_at (HL.out wr HI.out.2.1) hxk
      have hnext := prL_next hxk
      have hmem : x ∈ l := List.mem_of_getElem? hxk
      have hT1 := HT.out (k + 1)
      have eA := heap_alloc_new wr (.cells #[.int .i64 x.kind, .string tb, .slice xa xn xc] 68)
      have hbA : Below wr.heap.size wr (wr.alloc (.cells #[.int .i64 x.kind, .string tb, .slice xa xn xc] 68)) := (Below.refl _ _).alloc (Nat.le_refl _) _
      obtain ⟨W2, hW2⟩ : ∃ W, wr.alloc (.cells #[.int .i64 x.kind, .string tb, .slice xa xn xc] 68) = W := ⟨_, rfl⟩
      rw [hW2] at eA hbA
      have hb2 : Below B w W2 := HI.out.2.1.trans (hbA.mono (by omega))
      have ho2 : Lib.OthersKept 5 (some b) w W2 := HI.out.2.2.below hbA
      have h2 : IsWr B b (out ++ 40 :: prL true (l.take k)) W2 := isWr_below HI.out.1 hbA
      have hag2 : Agw W2 (fun k => k < B) x.list (.slice xa xn xc) := hag.kept fun q hq hlt => ⟨hq, hbA.block q hlt⟩
      have hzb : b ≠ wr.heap.size := by
        intro e
        have hlt : b < wr.heap.size := by
          rcases HI.out.1 with h | h
          · exact h.lt
          · exact h.lt
        omega
      by_cases hk0 : k = 0
      · rw [if_pos hk0, List.nil_append] at hnext
        rw [hnext, List.length_append] at hT1
        have cQ := HC.out x hmem tb xa xn xc (out ++ 40 :: prL true (l.take k)) W2 h2 hb2 htb hag2 (by rw [List.length_append, List.length_cons, HOL.out]; omega)
        have a0 : W2.cell? ⟨wr.heap.size, 0, none⟩ = some (.int .i64 x.kind) := rd_cell eA rfl
        have a1 : W2.cell? ⟨wr.heap.size, 1, none⟩ = some (.string tb) := rd_cell eA rfl
        have a2 : W2.cell? ⟨wr.heap.size, 2, none⟩ = some (.slice xa xn xc) := rd_cell eA rfl
        have HX : Hid ((out ++ 40 :: prL true (l.take k)) ++ prA x = out ++ 40 :: prL true (l.take (k + 1))) := by show _ = _; rw [hnext]; simp
        have HB2 : Hid (Below B w W2 ∧ Lib.OthersKept 5 (some b) w W2) := ⟨hb2, ho2⟩
        have dk : decide ((0 : Int) < (k : Int)) = false := decide_eq_false (by omega)
        have dn : decide (0 < k) = false := decide_eq_false (by omega)
        clear hnext hx hxk hag hag2 htb hmem hT1 eA hbA hb2 ho2 h2 hzb HI hkl hk0
        go_wp2_with fail
        refine cQ.mono ?_
        rintro e w3 ⟨rfl, h3, hb3, ho3⟩
        clear cQ
        go_wp2_with fail
        go_roundw
        case rel => exact ⟨k + 1, by go_num, by omega, by rw [← HX.out]; exact h3, HB2.out.1.trans (hb3.mono (Nat.le_refl _)), HB2.out.2.trans ho3⟩
        case measure => simp [intOf]; omega
      · rw [if_neg hk0] at hnext
        rw [hnext, List.length_append, List.length_append, List.length_singleton] at hT1
        have cS := wr_text B b (out ++ 40 :: prL true (l.take k)) ⟨#[32]⟩ W2 h2 (by rw [List.length_append, List.length_cons, HOL.out]; show _ + 1 ≤ _; omega) (by have := hbA.size; omega)
        have cQ : ∀ W3, IsWr B b ((out ++ 40 :: prL true (l.take k)) ++ [32]) W3 → Below B W2 W3 → Lib.OthersKept 5 (some b) W2 W3 → (W3.cell? ⟨wr.heap.size, 0, none⟩ = some (.int .i64 x.kind) ∧ W3.cell? ⟨wr.heap.size, 1, none⟩ = some (.string tb) ∧ W3.cell? ⟨wr.heap.size, 2, none⟩ = some (.slice xa xn xc)) ∧
            Calls Tryd.prog 28 #[.pointer (some ⟨b, 0, none⟩), .agg #[.int .i64 x.kind, .string tb, .slice xa xn xc], .int .i64 (d : Int)] W3 fun e w' => e = .returned (.tuple #[]) ∧ Hid (IsWr B b (out ++ 40 :: prL true (l.take (k + 1))) w' ∧ Below B w w' ∧ Lib.OthersKept 5 (some b) w w') := fun W3 h3 hb3 ho3 => by
          have e3 := ho3 wr.heap.size _ eA (fun e => hzb (Option.some.inj e).symm) (fun c fz e => by injection e with _ e _; exact absurd e (by decide))
          refine ⟨⟨rd_cell e3 rfl, rd_cell e3 rfl, rd_cell e3 rfl⟩, ?_⟩
          refine (HC.out x hmem tb xa xn xc _ W3 h3 (hb2.trans (hb3.mono (Nat.le_refl _))) htb (hag2.kept fun q hq _ => ⟨hq, hb3.block q hq⟩) (by rw [List.length_append, List.length_append, List.length_cons, List.length_singleton, HOL.out]; omega)).mono ?_
          rintro e w4 ⟨rfl, h4, hb4, ho4⟩
          refine ⟨rfl, ?_, (hb2.trans (hb3.mono (Nat.le_refl _))).trans (hb4.mono (Nat.le_refl _)), (ho2.trans ho3).trans ho4⟩
          rw [hnext]
          simpa using h4
        have dk : decide ((0 : Int) < (k : Int)) = true := decide_eq_true (by omega)
        have dn : decide (0 < k) = true := decide_eq_true (by omega)
        clear hnext hx hxk hag hag2 htb hmem hT1 eA hbA hb2 ho2 h2 hzb HI hkl hk0
        go_wp2_with fail
        refine cS.mono ?_
        rintro e w3 ⟨rfl, h3, hb3, ho3⟩
        clear cS
        obtain ⟨⟨a0, a1, a2⟩, cR⟩ := cQ w3 h3 hb3 ho3
        clear cQ h3 hb3 ho3
        go_wp2_with fail
        refine cR.mono ?_
        rintro e w4 ⟨rfl, H4⟩
        clear cR
        go_wp2_with fail
        go_roundw
        case rel => exact ⟨k + 1, by go_num, by omega, H4⟩
        case measure => simp [intOf]; omega
    · obtain rfl : k = N := by omega
      have hT1 := HT.out k
      have cE := wr_text B b (out ++ 40 :: prL true (l.take k)) ⟨#[41]⟩ wr HI.out.1 (by rw [List.length_append, List.length_cons, HOL.out]; show _ + 1 ≤ _; omega) (by omega)
      have HX : Hid ((out ++ 40 :: prL true (l.take k)) ++ [41] = out ++ 40 :: (prL true l ++ [41])) := by
        show _ = _
        rw [List.take_of_length_le (by rw [HN.out]; exact Nat.le_refl _)]
        simp
      have HB2 : Hid (Below B w wr ∧ Lib.OthersKept 5 (some b) w wr) := HI.out.2
      clear HI hT1
      go_wp2_with fail
      refine cE.mono ?_
      rintro e w3 ⟨rfl, h3, hb3, ho3⟩
      clear cE
      go_wp2_with fail
      go_end0
      exact ⟨rfl, by rw [← HX.out]; exact h3, HB2.out.1.trans (hb3.mono (Nat.le_refl _)), HB2.out.2.trans ho3⟩
/-- Parts as they are read: not too deep, not too many, not too long. -/
def Pr : Nat → List Ar → Prop
  | 0, _ => False
  | f + 1, l => l.length ≤ 100000 ∧ ∀ x ∈ l, x.text.length ≤ 100000 ∧ (x.kind = 1 ∨ x.kind = 2 ∨ (x.kind = 3 ∧ Pr f x.list))
theorem warg_is (f B b d : Nat) (out : Hd.Tx) (x : Ar) (tb : ByteArray) (xa : Option Addr) (xn xc : Nat) (w : World) (hx : x.text.length ≤ 100000) (hk : x.kind = 1 ∨ x.kind = 2 ∨ (x.kind = 3 ∧ Pr f x.list)) (hd : d + f ≤ 999) (h : IsWr B b out w) (hBw : B ≤ w.heap.size)
    (htb : tb.data.toList = x.text) (hag : Agw w (fun k => k < B) x.list (.slice xa xn xc)) (hlen : out.length + (prA x).length ≤ 100000000)
    (hg : ∀ W, Below B w W → NumAt W ∧ ∃ m, W.cell? ⟨0, 0, none⟩ = some (.int .i64 m))
    (cL : Pr f x.list → ∀ (va : Option Addr) (vc : Nat) W, IsWr B b out W → Below B w W → Agw W (fun k => k < B) x.list (.slice va x.list.length vc) → out.length + (prL true x.list).length + 2 ≤ 100000000 →
      Calls Tryd.prog 55 #[.pointer (some ⟨b, 0, none⟩), .slice va x.list.length vc, .int .i64 ((d + 1 : Nat) : Int)] W fun e w' => e = .returned (.tuple #[]) ∧ IsWr B b (out ++ 40 :: (prL true x.list ++ [41])) w' ∧ Below B W w' ∧ Lib.OthersKept 5 (some b) W w') :
    Calls Tryd.prog 28 #[.pointer (some ⟨b, 0, none⟩), .agg #[.int .i64 x.kind, .string tb, .slice xa xn xc], .int .i64 (d : Int)] w fun e w' => e = .returned (.tuple #[]) ∧ IsWr B b (out ++ prA x) w' ∧ Below B w w' ∧ Lib.OthersKept 5 (some b) w w' := by
  have hxn : xn = x.list.length := by
    obtain ⟨a, c, e⟩ := hag.form
    injection e
  subst hxn
  refine warg_at B b d out x tb xa _ xc w h hBw htb (by rw [← tx_size, htb]; exact hx) (by omega) (hk.imp id fun h => h.imp id And.left) hlen hg fun h3 W hW hb => ?_
  have hP : Pr f x.list := by
    rcases hk with h | h | h
    · rw [h] at h3; exact absurd h3 (by decide)
    · rw [h] at h3; exact absurd h3 (by decide)
    · exact h.2
  rw [prA_3 h3] at hlen
  simp only [List.length_cons, List.length_append, List.length_nil] at hlen
  have := cL hP xa xc W hW hb (hag.kept fun q hq _ => ⟨hq, hb.block q hq⟩) (by omega)
  rwa [show ((d + 1 : Nat) : Int) = (d : Int) + 1 from rfl] at this
theorem wlist_is : ∀ (f B b d : Nat) (out : Hd.Tx) (l : List Ar) (va : Option Addr) (vc : Nat) (w : World), Pr f l → d + f ≤ 999 → IsWr B b out w → B ≤ w.heap.size → Agw w (fun k => k < B) l (.slice va l.length vc) → out.length + (prL true l).length + 2 ≤ 100000000 →
    (∀ W, Below B w W → NumAt W ∧ ∃ m, W.cell? ⟨0, 0, none⟩ = some (.int .i64 m)) →
    Calls Tryd.prog 55 #[.pointer (some ⟨b, 0, none⟩), .slice va l.length vc, .int .i64 (d : Int)] w fun e w' => e = .returned (.tuple #[]) ∧ IsWr B b (out ++ 40 :: (prL true l ++ [41])) w' ∧ Below B w w' ∧ Lib.OthersKept 5 (some b) w w'
  | 0, _, _, _, _, _, _, _, _, hp, _, _, _, _, _, _ => hp.elim
  | f + 1, B, b, d, out, l, va, vc, w, hp, hd, h, hBw, hl, hlen, hg => by
    refine wlist_at B b d out l va vc w h hBw hl hp.1 hlen fun x hx tb xa xn xc o W hW hb htb hag ho => ?_
    have hBW : B ≤ W.heap.size := Nat.le_trans hBw hb.size
    exact warg_is f B b d o x tb xa xn xc W (hp.2 x hx).1 (hp.2 x hx).2 (by omega) hW hBW htb hag ho (fun W' hW' => hg W' (hb.trans (hW'.mono (Nat.le_refl _)))) fun hP va vc W' hW' hb' hag' hl' =>
      wlist_is f B b (d + 1) o x.list va vc W' hP (by omega) hW' (Nat.le_trans hBW hb'.size) hag' hl' fun W2 h2 => hg W2 ((hb.trans (hb'.mono (Nat.le_refl _))).trans (h2.mono (Nat.le_refl _)))
end Go.Proofs.YtligkpcoajnjmaaDoor
