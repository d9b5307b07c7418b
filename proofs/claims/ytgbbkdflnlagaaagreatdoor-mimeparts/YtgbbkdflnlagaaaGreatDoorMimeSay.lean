/-
  What mime.write does at a part that has none in it.
  What mime.write and mime.Print do.
  What mime.Print does.
-/
import Derived.Test.YtgbbkdflnlagaaaGreatDoorMimeFresh
import Derived.Test.YtgbbkdflnlagaaaGreatDoorMimeItoa
import Derived.Test.YtgbbkdflnlagaaaGreatDoorMimePut
import Derived.Deep.RegionHeld3
import Derived.Lib.ItoaLen
namespace Go.Proofs.YtgbbkdflnlagaaaGreatDoor
open Go.RowKit Go.Proofs.Aid Go.Proofs.Sq Go.Proofs.Hd Go.Proofs.Mm

def TabB (B : Nat) (w : World) : Prop := ∀ W, Below B w W → Lib.TabIs Tryz.prog W "internal/strconv.uint64pow10" .u64 Lib.pow10Tab
theorem others_below {e : TypeId} {b : Option Nat} {w w' : World} (h : Below w.heap.size w w') : Lib.OthersKept e b w w' := fun k _ hk _ _ => (h.block k (Array.getElem?_eq_some_iff.1 hk).1).trans hk
/-- The part's own box, and what the walk keeps beside it. -/
def KW (B b bx : Nat) (box : Array Value) (w W : World) : Prop := W.heap[bx]? = some (.cells box 25 (0, 0)) ∧ Below B w W ∧ Lib.OthersKept 5 (some b) w W ∧ b ≠ bx
theorem KW.below {B b bx : Nat} {box : Array Value} {w W W' : World} (h : KW B b bx box w W) (hB : B ≤ w.heap.size) (hb : Below W.heap.size W W') : KW B b bx box w W' :=
  ⟨(hb.block bx (Array.getElem?_eq_some_iff.1 h.1).1).trans h.1, h.2.1.trans (hb.mono (Nat.le_trans hB h.2.1.size)), h.2.2.1.trans (others_below hb), h.2.2.2⟩
theorem KW.others {B b bx : Nat} {box : Array Value} {w W W' : World} (h : KW B b bx box w W) (hb : Below B W W') (ho : Lib.OthersKept 5 (some b) W W') : KW B b bx box w W' :=
  ⟨ho bx _ h.1 (fun e => h.2.2.2 (Option.some.inj e).symm) (fun c fz e => by injection e with _ e _; exact absurd e (by decide)), h.2.1.trans hb, h.2.2.1.trans ho, h.2.2.2⟩
theorem KW.cell {B b bx j : Nat} {box : Array Value} {w W : World} {v : Value} (h : KW B b bx box w W) (hv : box[j]? = some v) : W.cell? ⟨bx, j, none⟩ = some v := rd_cell h.1 hv
set_option maxHeartbeats 4000000 in
set_option maxRecDepth 100000 in
theorem write_leaf (B b : Nat) (t bn : Tx) (lo hi ln : Nat) (xs : List Value) (Ok : Nat → Prop) (out : Tx) (w : World) (h : Six w Ok (.mk t bn lo hi ln []) xs) (hf : Fits 100000 (.mk t bn lo hi ln [])) (hB : Lib.IsBuilderF 94 5 B b (Lib.byteCells out) w) (hBw : B ≤ w.heap.size) (hlen : out.length + (printP (.mk t bn lo hi ln [])).length ≤ 100000000) (htab : TabB B w) :
    Calls Tryz.prog 38 #[.pointer (some ⟨b, 0, none⟩), .agg xs.toArray] w fun e w' => e = .returned (.tuple #[]) ∧ Lib.IsBuilderF 94 5 B b (Lib.byteCells (out ++ printP (.mk t bn lo hi ln []))) w' ∧ Below B w w' ∧ Lib.OthersKept 5 (some b) w w' := by
  obtain ⟨f1, f2, f3, f4, _⟩ := hf
  obtain ⟨tb, bb, a, c, rfl, rfl, rfl, _⟩ := six_kids h
  have ht : ([.string tb, .string bb, .int .i64 (lo : Int), .int .i64 (hi : Int), .int .i64 (ln : Int), .slice a 0 c] : List Value).toArray = #[.string tb, .string bb, .int .i64 (lo : Int), .int .i64 (hi : Int), .int .i64 (ln : Int), .slice a 0 c] := rfl
  rw [show ([] : List Mm.Pt).length = 0 from rfl, ht]
  rw [list_size] at f1
  obtain ⟨d, hd⟩ : ∃ d, hi - lo = d := ⟨_, rfl⟩
  have hwd : IntKind.i64.wrap ((hi : Int) - (lo : Int)) = (d : Int) := by rw [IntKind.wrap_i64]; omega
  have hpr : printP (.mk tb.data.toList bb.data.toList lo hi ln []) = 40 :: 34 :: (tb.data.toList ++ 34 :: 32 :: (Lib.itoa (ln : Int) ++ 32 :: (Lib.itoa (d : Int) ++ [41]))) := by
    rw [printP, if_pos (by rfl), show (hi : Int) - (lo : Int) = (d : Int) by omega]
  rw [hpr] at hlen ⊢
  obtain ⟨I1, hI1⟩ : ∃ t : ByteArray, ⟨(Lib.itoa (ln : Int)).toArray⟩ = t := ⟨_, rfl⟩
  obtain ⟨I2, hI2⟩ : ∃ t : ByteArray, ⟨(Lib.itoa (d : Int)).toArray⟩ = t := ⟨_, rfl⟩
  have hl1 : Lib.itoa (ln : Int) = I1.data.toList := by rw [← hI1]
  have hl2 : Lib.itoa (d : Int) = I2.data.toList := by rw [← hI2]
  have hblt : b < w.heap.size := by rcases hB with h | h <;> exact h.lt
  have hb1 : Below w.heap.size w (w.alloc (.cells #[.string tb, .string bb, .int .i64 (lo : Int), .int .i64 (hi : Int), .int .i64 (ln : Int), .slice a 0 c] 25)) := (Below.refl _ _).alloc (Nat.le_refl _) _
  have e1 := heap_alloc_new w (.cells #[.string tb, .string bb, .int .i64 (lo : Int), .int .i64 (hi : Int), .int .i64 (ln : Int), .slice a 0 c] 25)
  have HT : Hid (TabB B w) := htab
  have HB1 : Hid (Lib.IsBuilderF 94 5 B b (Lib.byteCells out) (w.alloc (.cells #[.string tb, .string bb, .int .i64 (lo : Int), .int .i64 (hi : Int), .int .i64 (ln : Int), .slice a 0 c] 25))) := isBuilderF_below hB hb1
  rw [hl1, hl2] at hlen ⊢
  have hsz : out.length + (I1.size + I2.size + tb.size + 8) ≤ 100000010 := by
    simp only [List.length_cons, List.length_append, List.length_nil, list_size] at hlen
    omega
  clear hpr h hB htab hl1 hl2 ht
  go_enter Tryz.func38, Tryz.ntmps38
  go_upto_region 3 with fail
  have z1 : (w.alloc (.cells #[.string tb, .string bb, .int .i64 (lo : Int), .int .i64 (hi : Int), .int .i64 (ln : Int), .slice a 0 c] 25)).heap.size = w.heap.size + 1 := by simp
  generalize w.alloc (.cells #[.string tb, .string bb, .int .i64 (lo : Int), .int .i64 (hi : Int), .int .i64 (ln : Int), .slice a 0 c] 25) = W1 at e1 hb1 z1 HB1 ⊢
  obtain ⟨CL, hCL⟩ : ∃ t : ByteArray, (⟨#[34]⟩ ++ tb ++ ⟨#[34]⟩ : ByteArray) = t := ⟨_, rfl⟩
  have hCl : CL.data.toList = 34 :: (tb.data.toList ++ [34]) := by rw [← hCL, cat_list, cat_list]; rfl
  have hCz : CL.size = tb.size + 2 := by rw [← hCL, cat_size, cat_size]; show 1 + tb.size + 1 = _; omega
  rw [hCL]
  clear hCL
  have hFL : (⟨#[40]⟩ ++ CL ++ ⟨#[32]⟩ ++ I1 ++ ⟨#[32]⟩ ++ I2 ++ ⟨#[41]⟩ : ByteArray).data.toList = 40 :: 34 :: (tb.data.toList ++ 34 :: 32 :: (I1.data.toList ++ 32 :: (I2.data.toList ++ [41]))) := by
    rw [cat_list, cat_list, cat_list, cat_list, cat_list, cat_list, hCl]
    simp
  have hFz : out.length + (⟨#[40]⟩ ++ CL ++ ⟨#[32]⟩ ++ I1 ++ ⟨#[32]⟩ ++ I2 ++ ⟨#[41]⟩ : ByteArray).size ≤ 100000000 := by
    rw [← list_size, hFL]
    exact hlen
  have HFL : Hid ((⟨#[40]⟩ ++ CL ++ ⟨#[32]⟩ ++ I1 ++ ⟨#[32]⟩ ++ I2 ++ ⟨#[41]⟩ : ByteArray).data.toList = 40 :: 34 :: (tb.data.toList ++ 34 :: 32 :: (I1.data.toList ++ 32 :: (I2.data.toList ++ [41])))) := hFL
  have c1 : ∀ W, Below B w W → Calls Tryz.prog 30 #[.int .i64 (ln : Int)] W fun e w' => e = .returned (.string I1) ∧ Below W.heap.size W w' := fun W hW => by
    rw [← hI1]; exact itoa_is (ln : Int) W (by omega) (by omega) (HT.out W hW)
  have c2 : ∀ W, Below B w W → Calls Tryz.prog 30 #[.int .i64 (d : Int)] W fun e w' => e = .returned (.string I2) ∧ Below W.heap.size W w' := fun W hW => by
    rw [← hI2]; exact itoa_is (d : Int) W (by omega) (by omega) (HT.out W hW)
  have q1 : (9223372036854775807 < 1 + CL.size) = False := eq_false (by omega)
  have q2 : (9223372036854775807 < 1 + CL.size + 1) = False := eq_false (by omega)
  have q3 : (9223372036854775807 < 1 + CL.size + 1 + I1.size) = False := eq_false (by omega)
  have q4 : (9223372036854775807 < 1 + CL.size + 1 + I1.size + 1) = False := eq_false (by omega)
  have q5 : (9223372036854775807 < 1 + CL.size + 1 + I1.size + 1 + I2.size) = False := eq_false (by omega)
  have q6 : (9223372036854775807 < 1 + CL.size + 1 + I1.size + 1 + I2.size + 1) = False := eq_false (by omega)
  clear hCz
  have l1 : Below W1.heap.size W1 W1.drew := (Below.refl _ _).drew
  have kw : KW B b w.heap.size #[.string tb, .string bb, .int .i64 (lo : Int), .int .i64 (hi : Int), .int .i64 (ln : Int), .slice a 0 c] w W1.drew := ⟨e1, (hb1.mono hBw).drew, (others_below hb1).trans (others_below l1), by omega⟩
  have hd1 : Lib.IsBuilderF 94 5 B b (Lib.byteCells out) W1.drew := isBuilderF_below HB1.out l1
  have hHB : Hid (B ≤ w.heap.size) := hBw
  clear hI1 hI2 hFL hlen e1 hCl HB1 l1 hb1 HT
  go_region_held3 (fun W => W.cell? ⟨w.heap.size, 2, none⟩ = some (.int .i64 (lo : Int)) ∧ W.cell? ⟨w.heap.size, 3, none⟩ = some (.int .i64 (hi : Int)) ∧ W.cell? ⟨w.heap.size, 4, none⟩ = some (.int .i64 (ln : Int)) ∧ KW B b w.heap.size #[.string tb, .string bb, .int .i64 (lo : Int), .int .i64 (hi : Int), .int .i64 (ln : Int), .slice a 0 c] w W)
    (first
      | exact ⟨kw.cell rfl, kw.cell rfl, kw.cell rfl, kw⟩
      | exact ⟨k2.cell rfl, k2.cell rfl, k2.cell rfl, k2⟩
      | exact ⟨k3.cell rfl, k3.cell rfl, k3.cell rfl, k3⟩
      | exact ⟨k4.cell rfl, k4.cell rfl, k4.cell rfl, k4⟩)
    (first
      | (go_at_call_of 30 (Value.int IntKind.i64 (ln : Int)); refine (c1 _ ?_).mono ?_; (focus (first | exact kw.2.1 | exact k3.2.1)); rintro e w2 ⟨rfl, hb2⟩; (first | have k2 := kw.below hHB.out hb2 | have k2 := k3.below hHB.out hb2); (first | have hd2 := isBuilderF_below hd1 hb2 | have hd2 := isBuilderF_below hd3 hb2))
      | (go_at_call_of 30 (Value.int IntKind.i64 (d : Int)); refine (c2 _ ?_).mono ?_; (focus (first | exact kw.2.1 | exact k2.2.1)); rintro e w3 ⟨rfl, hb3⟩; (first | have k3 := kw.below hHB.out hb3 | have k3 := k2.below hHB.out hb3); (first | have hd3 := isBuilderF_below hd1 hb3 | have hd3 := isBuilderF_below hd2 hb3))
      | (go_at_call 70; refine (text_is B b out _ _ ?_ ?_ ?_).mono ?_; (focus (first | with_reducible exact hd2 | with_reducible exact hd3)); (focus with_reducible exact hFz); (focus (first | exact Nat.le_trans hHB.out k2.2.1.size | exact Nat.le_trans hHB.out k3.2.1.size)); rintro e w4 ⟨rfl, hbd4, hb4, ho4⟩; (first | have k4 := k2.others hb4 ho4 | have k4 := k3.others hb4 ho4)))
  all_goals
    go_wp2_with fail
    refine bodyPost_ret (results_none rfl _ _ _) rfl ?_
    rw [HFL.out] at hbd4
    exact ⟨rfl, hbd4, k4.2.1, k4.2.2.1⟩
end Go.Proofs.YtgbbkdflnlagaaaGreatDoor
namespace Go.Proofs.YtgbbkdflnlagaaaGreatDoor
open Go.RowKit Go.Proofs.Aid Go.Proofs.Sq Go.Proofs.Hd Go.Proofs.Mm

theorem printPs_snoc {ps : List Mm.Pt} {k : Nat} {q : Mm.Pt} (h : ps[k]? = some q) : printPs (ps.take (k + 1)) = printPs (ps.take k) ++ (printP q ++ [32]) := by
  have hk : k < ps.length := (List.getElem?_eq_some_iff.1 h).1
  have e : ps[k] = q := (List.getElem?_eq_some_iff.1 h).2
  rw [List.take_succ_eq_append_getElem hk, printPs_append, e, printPs, printPs]
theorem printPs_take (ps : List Mm.Pt) (k : Nat) : (printPs (ps.take k)).length ≤ (printPs ps).length := by
  have h := printPs_append (ps.take k) (ps.drop k)
  rw [List.take_append_drop] at h
  rw [h, List.length_append]
  omega
theorem TabB.below {B : Nat} {w W : World} (h : TabB B w) (hb : Below B w W) : TabB B W := fun W' h' => h W' (hb.trans h')
def WritePost (B b : Nat) (p : Mm.Pt) (out : Tx) (w : World) (e : Ending) (w' : World) : Prop :=
  e = .returned (.tuple #[]) ∧ Lib.IsBuilderF 94 5 B b (Lib.byteCells (out ++ printP p)) w' ∧ Below B w w' ∧ Lib.OthersKept 5 (some b) w w'
def WriteIs (n : Nat) : Prop := ∀ (B b : Nat) (p : Mm.Pt) (xs : List Value) (out : Tx) (w : World), countP p ≤ n → countP p ≤ 30 → Six w (fun k => k < B) p xs → Fits 100000 p → Lib.IsBuilderF 94 5 B b (Lib.byteCells out) w → B ≤ w.heap.size → out.length + (printP p).length ≤ 100000000 → TabB B w → Calls Tryz.prog 38 #[.pointer (some ⟨b, 0, none⟩), .agg xs.toArray] w (WritePost B b p out w)
set_option maxHeartbeats 4000000 in
set_option maxRecDepth 100000 in
theorem write_node (n : Nat) (IH : WriteIs n) (B b : Nat) (t bn : Tx) (lo hi ln : Nat) (ps : List Mm.Pt) (xs : List Value) (out : Tx) (w : World) (hne : ps ≠ []) (hn : countP (.mk t bn lo hi ln ps) ≤ n + 1) (hc : countP (.mk t bn lo hi ln ps) ≤ 30) (h : Six w (fun k => k < B) (.mk t bn lo hi ln ps) xs) (hf : Fits 100000 (.mk t bn lo hi ln ps)) (hB : Lib.IsBuilderF 94 5 B b (Lib.byteCells out) w) (hBw : B ≤ w.heap.size) (hlen : out.length + (printP (.mk t bn lo hi ln ps)).length ≤ 100000000) (htab : TabB B w) :
    Calls Tryz.prog 38 #[.pointer (some ⟨b, 0, none⟩), .agg xs.toArray] w (WritePost B b (.mk t bn lo hi ln ps) out w) := by
  obtain ⟨f1, f2, f3, f4, f5⟩ := hf
  obtain ⟨N, hN⟩ : ∃ N, ps.length = N := ⟨_, rfl⟩
  have HN : Hid (ps.length = N) := hN
  have hps : N ≤ 29 := by rw [countP] at hc; have := parts_few ps; omega
  have hN0 : 1 ≤ N := by cases ps with
    | nil => exact absurd rfl hne
    | cons _ _ => rw [← hN, List.length_cons]; omega
  have HCH : Hid (∀ (j : Nat) q, ps[j]? = some q → countP q ≤ n ∧ countP q ≤ 30 ∧ Fits 100000 q) := by
    intro j q hj
    have hm := List.mem_of_getElem? hj
    have h2 := part_few hm
    rw [countP] at hc hn
    exact ⟨by omega, by omega, fitsAll_get f5 hj⟩
  obtain ⟨tb, bb, a, c, rfl, rfl, rfl, hkids⟩ := six_kids h
  have HIH : Hid (WriteIs n) := IH
  have HK : Hid (∀ W, Below B w W → ∀ j q, ps[j]? = some q → ∃ b o ys, a = some ⟨b, o, none⟩ ∧ Six W (fun k => k < B) q ys ∧ ∀ i x, ys[i]? = some x → W.cell? ⟨b, o + j * 6 + i, none⟩ = some x) := by
    intro W hW j q hj
    obtain ⟨b', o, ys, h1, h2, h3, h4⟩ := hkids j q hj
    exact ⟨b', o, ys, h1, h3.kept fun k hk _ => ⟨hk, hW.block k hk⟩, fun i x hx => (hW.cell (p := ⟨b', o + j * 6 + i, none⟩) h2).trans (h4 i x hx)⟩
  rw [list_size] at f1
  have hpr : printP (.mk tb.data.toList bb.data.toList lo hi ln ps) = 40 :: (printPs ps ++ 34 :: (tb.data.toList ++ [34, 41])) := by
    rw [printP, if_neg (by cases ps with
      | nil => exact absurd rfl hne
      | cons _ _ => simp)]
  have hlen2 : out.length + ((printPs ps).length + (tb.size + 4)) ≤ 100000000 := by
    rw [hpr] at hlen
    simp only [List.length_cons, List.length_append, List.length_nil, list_size] at hlen
    omega
  have HP : Hid (printP (.mk tb.data.toList bb.data.toList lo hi ln ps) = 40 :: (printPs ps ++ 34 :: (tb.data.toList ++ [34, 41]))) := hpr
  have hblt : b < w.heap.size := by rcases hB with h | h <;> exact h.lt
  have hb1 : Below w.heap.size w (w.alloc (.cells #[.string tb, .string bb, .int .i64 (lo : Int), .int .i64 (hi : Int), .int .i64 (ln : Int), .slice a N c] 25)) := (Below.refl _ _).alloc (Nat.le_refl _) _
  have e1 := heap_alloc_new w (.cells #[.string tb, .string bb, .int .i64 (lo : Int), .int .i64 (hi : Int), .int .i64 (ln : Int), .slice a N c] 25)
  have HT : Hid (TabB B w) := htab
  have cB := byte_is B b out 40 (w.alloc (.cells #[.string tb, .string bb, .int .i64 (lo : Int), .int .i64 (hi : Int), .int .i64 (ln : Int), .slice a N c] 25)) (isBuilderF_below hB hb1) (by omega) (Nat.le_trans hBw hb1.size)
  rw [show ((40 : UInt8).toNat : Int) = 40 from rfl] at cB
  have ht : ([.string tb, .string bb, .int .i64 (lo : Int), .int .i64 (hi : Int), .int .i64 (ln : Int), .slice a ps.length c] : List Value).toArray = #[.string tb, .string bb, .int .i64 (lo : Int), .int .i64 (hi : Int), .int .i64 (ln : Int), .slice a N c] := by rw [hN]
  rw [ht]
  have hN1 : ((N : Int) == 0) = false := by simp; omega
  have kw1 : KW B b w.heap.size #[.string tb, .string bb, .int .i64 (lo : Int), .int .i64 (hi : Int), .int .i64 (ln : Int), .slice a N c] w (w.alloc (.cells #[.string tb, .string bb, .int .i64 (lo : Int), .int .i64 (hi : Int), .int .i64 (ln : Int), .slice a N c] 25)) := ⟨e1, hb1.mono hBw, others_below hb1, by omega⟩
  clear hpr h hB htab ht IH hn hc hkids hlen hN hne f5 hb1 e1
  go_enter Tryz.func38, Tryz.ntmps38
  go_wp2_with fail
  refine cB.mono ?_
  clear cB
  rintro e w2 ⟨rfl, hbd2, hb2, ho2⟩
  have kw2 := kw1.others hb2 ho2
  clear kw1 hb2 ho2
  have x5 := kw2.cell (j := 5) rfl
  obtain ⟨CL, hCL⟩ : ∃ t : ByteArray, (⟨#[34]⟩ ++ tb ++ ⟨#[34]⟩ : ByteArray) = t := ⟨_, rfl⟩
  have HCl : Hid (CL.data.toList = 34 :: (tb.data.toList ++ [34])) := by show _ = _; rw [← hCL, cat_list, cat_list]; rfl
  have hCz : CL.size = tb.size + 2 := by rw [← hCL, cat_size, cat_size]; show 1 + tb.size + 1 = _; omega
  rw [hCL]
  clear hCL
  go_wp2_with fail
  have HK2 : Hid (KW B b w.heap.size #[.string tb, .string bb, .int .i64 (lo : Int), .int .i64 (hi : Int), .int .i64 (ln : Int), .slice a N c] w w2) := kw2
  clear kw2 x5
  go_loopw [38] (fun i wr => ∃ (k : Nat), i = .int .i64 (k : Int) ∧ k ≤ N ∧ Hid (Lib.IsBuilderF 94 5 B b (Lib.byteCells (out ++ 40 :: printPs (ps.take k))) wr) ∧ Hid (Below B w wr ∧ Lib.OthersKept 5 (some b) w wr)) (fun i _ => N - (intOf i).toNat)
  case atStart => exact ⟨0, rfl, by omega, hbd2, ⟨HK2.out.2.1, HK2.out.2.2.1⟩⟩
  case round =>
    obtain ⟨k, rfl, hk, HBD, HW⟩ := hrel
    obtain ⟨hbW, hoW⟩ := HW.out
    clear HW
    by_cases hlt : k < N
    · have hkp : k < ps.length := by rw [HN.out]; exact hlt
      obtain ⟨q, hq⟩ : ∃ q, ps[k] = q := ⟨_, rfl⟩
      have hpk : ps[k]? = some q := by rw [List.getElem?_eq_getElem hkp, hq]
      obtain ⟨b', o, ys, ha, hsix, hcells⟩ := HK.out wr hbW k q hpk
      obtain ⟨xb, yb, l1, h1, n1, a1, k1, cc1, rfl⟩ := six_cells hsix
      subst ha
      have c0 := hcells 0 _ rfl
      have c1 := hcells 1 _ rfl
      have c2 := hcells 2 _ rfl
      have c3 := hcells 3 _ rfl
      have c4 := hcells 4 _ rfl
      have c5 := hcells 5 _ rfl
      rw [Nat.add_zero] at c0
      have hbA : Below wr.heap.size wr (wr.alloc (.cells #[.string xb, .string yb, .int .i64 (l1 : Int), .int .i64 (h1 : Int), .int .i64 (n1 : Int), .slice a1 k1 cc1] 25)) := (Below.refl _ _).alloc (Nat.le_refl _) _
      have eA := heap_alloc_new wr (.cells #[.string xb, .string yb, .int .i64 (l1 : Int), .int .i64 (h1 : Int), .int .i64 (n1 : Int), .slice a1 k1 cc1] 25)
      have t0 := rd_cell (j := 0) eA rfl
      have t1 := rd_cell (j := 1) eA rfl
      have t2 := rd_cell (j := 2) eA rfl
      have t3 := rd_cell (j := 3) eA rfl
      have t4 := rd_cell (j := 4) eA rfl
      have t5 := rd_cell (j := 5) eA rfl
      have hBr : B ≤ wr.heap.size := Nat.le_trans hBw hbW.size
      have hbWA := hbW.trans (hbA.mono hBr)
      have hoWA := hoW.trans (others_below (e := 5) (b := some b) hbA)
      have hsn := printPs_snoc hpk
      have htk := printPs_take ps (k + 1)
      rw [hsn] at htk
      simp only [List.length_append, List.length_cons, List.length_nil] at htk
      have cF := HIH.out B b q [.string xb, .string yb, .int .i64 (l1 : Int), .int .i64 (h1 : Int), .int .i64 (n1 : Int), .slice a1 k1 cc1] (out ++ 40 :: printPs (ps.take k)) (wr.alloc (.cells #[.string xb, .string yb, .int .i64 (l1 : Int), .int .i64 (h1 : Int), .int .i64 (n1 : Int), .slice a1 k1 cc1] 25)) (HCH.out k q hpk).1 (HCH.out k q hpk).2.1 (hsix.under hbA) (HCH.out k q hpk).2.2 (isBuilderF_below HBD.out hbA) (Nat.le_trans hBr hbA.size) (by simp only [List.length_append, List.length_cons]; omega) (HT.out.below hbWA)
      rw [show ([.string xb, .string yb, .int .i64 (l1 : Int), .int .i64 (h1 : Int), .int .i64 (n1 : Int), .slice a1 k1 cc1] : List Value).toArray = #[.string xb, .string yb, .int .i64 (l1 : Int), .int .i64 (h1 : Int), .int .i64 (n1 : Int), .slice a1 k1 cc1] from rfl] at cF
      have HSN : Hid (out ++ 40 :: printPs (ps.take (k + 1)) = out ++ 40 :: printPs (ps.take k) ++ printP q ++ [32]) := by show _ = _; rw [hsn]; simp
      have hll : (out ++ 40 :: printPs (ps.take k) ++ printP q).length ≤ 100000000 := by simp only [List.length_append, List.length_cons]; omega
      clear hcells hq hsix eA hsn htk HBD
      go_wp2_with fail
      refine cF.mono ?_
      clear cF
      rintro e w5 ⟨rfl, hbd5, hb5, ho5⟩
      have hb05 := hbWA.trans hb5
      have ho05 := hoWA.trans ho5
      have cB := byte_is B b (out ++ 40 :: printPs (ps.take k) ++ printP q) 32 w5 hbd5 hll (Nat.le_trans hBw hb05.size)
      rw [show ((32 : UInt8).toNat : Int) = 32 from rfl, ← HSN.out] at cB
      clear hbd5 hll t0 t1 t2 t3 t4 t5 c0 c1 c2 c3 c4 c5 hoWA hbWA hbA hb5 ho5
      go_wp2_with fail
      refine cB.mono ?_
      clear cB
      rintro e w6 ⟨rfl, hbd6, hb6, ho6⟩
      go_wp2_with fail
      go_roundw
      case rel => exact ⟨k + 1, by go_num, by omega, hbd6, ⟨hb05.trans hb6, ho05.trans ho6⟩⟩
      case measure => simp [intOf]; omega
    · obtain rfl : k = N := by omega
      have hz : (CL ++ ⟨#[41]⟩ : ByteArray).size = tb.size + 3 := by rw [cat_size]; show CL.size + 1 = _; omega
      have hbdE := HBD.out
      rw [List.take_of_length_le (by rw [HN.out]; omega)] at hbdE
      have y1 : CL.size + (⟨#[41]⟩ : ByteArray).size ≤ 100001000 := by show CL.size + 1 ≤ _; omega
      have cW := text_is B b (out ++ 40 :: printPs ps) (CL ++ ⟨#[41]⟩) wr hbdE (by simp only [List.length_append, List.length_cons]; omega) (Nat.le_trans hBw hbW.size)
      have he : out ++ 40 :: printPs ps ++ (CL ++ ⟨#[41]⟩ : ByteArray).data.toList = out ++ printP (.mk tb.data.toList bb.data.toList lo hi ln ps) := by
        rw [HP.out, cat_list, HCl.out]
        simp
      rw [he] at cW
      clear he hbdE HBD hz
      go_wp2_with fail
      refine cW.mono ?_
      clear cW
      rintro e w6 ⟨rfl, hbd6, hb6, ho6⟩
      go_wp2_with fail
      go_end0
      exact ⟨rfl, hbd6, hbW.trans hb6, hoW.trans ho6⟩
theorem write_is : ∀ n, WriteIs n
  | 0 => fun _ _ p _ _ _ h => absurd h (by have := countP_pos p; omega)
  | n + 1 => fun B b p xs out w hn hc h hf hB hBw hlen htab => by
    obtain ⟨t, bn, lo, hi, ln, ps⟩ := p
    by_cases hne : ps = []
    · subst hne
      exact write_leaf B b t bn lo hi ln xs _ out w h hf hB hBw hlen htab
    · exact write_node n (write_is n) B b t bn lo hi ln ps xs out w hne hn hc h hf hB hBw hlen htab
end Go.Proofs.YtgbbkdflnlagaaaGreatDoor
namespace Go.Proofs.Mm
open Go.Proofs.Sq Go.Proofs.Hd
mutual
theorem print_short {B : Nat} (hB : B ≤ 1000000) : ∀ p : Pt, Fits B p → (printP p).length + 1 ≤ countP p * (B + 70)
  | .mk t bn lo hi ln ps, h => by
    obtain ⟨h1, h2, h3, h4, h5⟩ := h
    have ih := print_shorts hB ps h5
    have i1 := Lib.itoa_length_le (ln : Int) (by omega) (by omega)
    have i2 := Lib.itoa_length_le ((hi : Int) - (lo : Int)) (by omega) (by omega)
    rw [countP, Nat.add_mul, Nat.one_mul, printP]
    split
    · simp only [List.length_cons, List.length_append, List.length_nil]
      omega
    · simp only [List.length_cons, List.length_append, List.length_nil]
      omega
theorem print_shorts {B : Nat} (hB : B ≤ 1000000) : ∀ ps : List Pt, FitsAll B ps → (printPs ps).length ≤ countPs ps * (B + 70)
  | [], _ => by simp [printPs]
  | p :: ps, h => by
    have h1 := print_short hB p h.1
    have h2 := print_shorts hB ps h.2
    rw [printPs, countPs, Nat.add_mul, List.length_append, List.length_cons]
    omega
end
theorem printP_ne (p : Pt) : printP p ≠ [] := by
  obtain ⟨t, bn, lo, hi, ln, ps⟩ := p
  rw [printP]
  split <;> simp
mutual
theorem fits_mono {A B : Nat} (h : A ≤ B) : ∀ p : Pt, Fits A p → Fits B p
  | .mk t bn lo hi ln ps, ⟨h1, h2, h3, h4, h5⟩ => ⟨by omega, h2, by omega, by omega, fits_monos h ps h5⟩
theorem fits_monos {A B : Nat} (h : A ≤ B) : ∀ ps : List Pt, FitsAll A ps → FitsAll B ps
  | [], _ => trivial
  | p :: ps, hf => ⟨fits_mono h p hf.1, fits_monos h ps hf.2⟩
end
end Go.Proofs.Mm
namespace Go.Proofs.YtgbbkdflnlagaaaGreatDoor
open Go.RowKit Go.Proofs.Aid Go.Proofs.Sq Go.Proofs.Hd Go.Proofs.Mm
set_option maxHeartbeats 2000000 in
set_option maxRecDepth 100000 in
theorem mprint_is (p : Mm.Pt) (xs : List Value) (Ok : Nat → Prop) (w : World) (hc : countP p ≤ 30) (h : Six w Ok p xs) (hf : Fits 100000 p) (htab : TabB w.heap.size w) :
    Calls Tryz.prog 13 #[.agg xs.toArray] w fun e w' => e = .returned (.string ⟨(printP p).toArray⟩) ∧ Below w.heap.size w w' := by
  have hsh := print_short (by omega) p hf
  have hlen : (printP p).length ≤ 100000000 := by
    have : countP p * (100000 + 70) ≤ 30 * (100000 + 70) := Nat.mul_le_mul_right _ hc
    omega
  have hne := printP_ne p
  obtain ⟨tb, bb, l1, h1, n1, a1, k1, cc1, rfl⟩ := six_cells h
  have ht : ([.string tb, .string bb, .int .i64 (l1 : Int), .int .i64 (h1 : Int), .int .i64 (n1 : Int), .slice a1 k1 cc1] : List Value).toArray = #[.string tb, .string bb, .int .i64 (l1 : Int), .int .i64 (h1 : Int), .int .i64 (n1 : Int), .slice a1 k1 cc1] := rfl
  have hb1 : Below w.heap.size w (w.alloc (.cells #[.string tb, .string bb, .int .i64 (l1 : Int), .int .i64 (h1 : Int), .int .i64 (n1 : Int), .slice a1 k1 cc1] 25)) := (Below.refl _ _).alloc (Nat.le_refl _) _
  have e1 := heap_alloc_new w (.cells #[.string tb, .string bb, .int .i64 (l1 : Int), .int .i64 (h1 : Int), .int .i64 (n1 : Int), .slice a1 k1 cc1] 25)
  have z1 : (w.alloc (.cells #[.string tb, .string bb, .int .i64 (l1 : Int), .int .i64 (h1 : Int), .int .i64 (n1 : Int), .slice a1 k1 cc1] 25)).heap.size = w.heap.size + 1 := by simp
  rw [ht]
  go_enter Tryz.func13, Tryz.ntmps13
  obtain ⟨W1, hW1⟩ : ∃ W, w.alloc (.cells #[.string tb, .string bb, .int .i64 (l1 : Int), .int .i64 (h1 : Int), .int .i64 (n1 : Int), .slice a1 k1 cc1] 25) = W := ⟨_, rfl⟩
  have hB0 := Lib.IsBuilderF.of (Lib.fresh_isBuilder 94 5 W1)
  have hb2 : Below W1.heap.size W1 (W1.alloc (.cells #[.pointer none, .slice none 0 0] 94)) := (Below.refl _ _).alloc (Nat.le_refl _) _
  rw [hW1] at hb1 e1 z1
  have hb02 := hb1.trans (hb2.mono (by omega))
  have e2 := (hb2.block w.heap.size (by omega)).trans e1
  have cW := write_is 30 W1.heap.size W1.heap.size p _ [] (W1.alloc (.cells #[.pointer none, .slice none 0 0] 94)) hc hc ((h.kept (Ok' := fun k => k < W1.heap.size) fun k hk hlt => ⟨by omega, hb02.block k hlt⟩)) hf hB0 hb2.size (by simpa using hlen) (fun W hW => htab W (hb02.trans (hW.mono (by omega))))
  rw [ht, z1] at cW
  have c0 := rd_cell (j := 0) e2 rfl
  have c1 := rd_cell (j := 1) e2 rfl
  have c2 := rd_cell (j := 2) e2 rfl
  have c3 := rd_cell (j := 3) e2 rfl
  have c4 := rd_cell (j := 4) e2 rfl
  have c5 := rd_cell (j := 5) e2 rfl
  go_wp2_with fail
  clear h hf htab hB0 e1 ht hW1
  refine cW.mono ?_
  clear cW
  rintro e w3 ⟨rfl, hbd3, hb3, _⟩
  have cS := Any.Builder_String_k Tryz.lays169 Tryz.Builder_Extra_169 (w.heap.size + 1) (w.heap.size + 1) ([] ++ printP p) w3 hbd3 (by simpa using hne)
  rw [List.nil_append] at cS
  clear hbd3
  go_wp2_with fail
  refine cS.mono ?_
  rintro e w4 ⟨rfl, _, hb4, _⟩
  go_wp2_with fail
  go_ret
  exact ⟨rfl, (hb02.trans (hb3.mono (by omega))).trans (hb4.mono (by omega))⟩
end Go.Proofs.YtgbbkdflnlagaaaGreatDoor
