/-
  What mime.write does at a part that has none in it.
-/
import Derived.Test.YtgbbkdflnlagaaaDoorMimeFresh
import Derived.Test.YtgbbkdflnlagaaaDoorMimeItoa
import Derived.Test.YtgbbkdflnlagaaaDoorMimeTies
import Derived.Test.YtgbbkdflnlagaaaDoorMimeFits
import Derived.Deep.RegionHeld3
namespace Go.Proofs.YtgbbkdflnlagaaaDoor
open Go.RowKit Go.Proofs.Aid Go.Proofs.Sq Go.Proofs.Hd Go.Proofs.Mm

def TabB (B : Nat) (w : World) : Prop := ∀ W, Below B w W → Lib.TabIs Tryd.prog W "internal/strconv.uint64pow10" .u64 Lib.pow10Tab
theorem others_below {e : TypeId} {b : Option Nat} {w w' : World} (h : Below w.heap.size w w') : Lib.OthersKept e b w w' := fun k _ hk _ _ => (h.block k (Array.getElem?_eq_some_iff.1 hk).1).trans hk
/-- The part's own box, and what the walk keeps beside it. -/
def KW (B b bx : Nat) (box : Array Value) (w W : World) : Prop := W.heap[bx]? = some (.cells box 26 (0, 0)) ∧ Below B w W ∧ Lib.OthersKept 5 (some b) w W ∧ b ≠ bx
theorem KW.below {B b bx : Nat} {box : Array Value} {w W W' : World} (h : KW B b bx box w W) (hB : B ≤ w.heap.size) (hb : Below W.heap.size W W') : KW B b bx box w W' :=
  ⟨(hb.block bx (Array.getElem?_eq_some_iff.1 h.1).1).trans h.1, h.2.1.trans (hb.mono (Nat.le_trans hB h.2.1.size)), h.2.2.1.trans (others_below hb), h.2.2.2⟩
theorem KW.others {B b bx : Nat} {box : Array Value} {w W W' : World} (h : KW B b bx box w W) (hb : Below B W W') (ho : Lib.OthersKept 5 (some b) W W') : KW B b bx box w W' :=
  ⟨ho bx _ h.1 (fun e => h.2.2.2 (Option.some.inj e).symm) (fun c fz e => by injection e with _ e _; exact absurd e (by decide)), h.2.1.trans hb, h.2.2.1.trans ho, h.2.2.2⟩
theorem KW.cell {B b bx j : Nat} {box : Array Value} {w W : World} {v : Value} (h : KW B b bx box w W) (hv : box[j]? = some v) : W.cell? ⟨bx, j, none⟩ = some v := rd_cell h.1 hv
set_option maxHeartbeats 4000000 in
set_option maxRecDepth 100000 in
theorem write_leaf (B b : Nat) (t bn : Tx) (lo hi ln : Nat) (xs : List Value) (Ok : Nat → Prop) (out : Tx) (w : World) (h : Six w Ok (.mk t bn lo hi ln []) xs) (hf : Fits 100000 (.mk t bn lo hi ln [])) (hB : Lib.IsBuilderF 50 5 B b (Lib.byteCells out) w) (hBw : B ≤ w.heap.size) (hlen : out.length + (printP (.mk t bn lo hi ln [])).length ≤ 100000000) (htab : TabB B w) :
    Calls Tryd.prog 16 #[.pointer (some ⟨b, 0, none⟩), .agg xs.toArray] w fun e w' => e = .returned (.tuple #[]) ∧ Lib.IsBuilderF 50 5 B b (Lib.byteCells (out ++ printP (.mk t bn lo hi ln []))) w' ∧ Below B w w' ∧ Lib.OthersKept 5 (some b) w w' := by
  obtain ⟨f1, f2, f3, f4, _⟩ := hf
  obtain ⟨tb, bb, a, c, rfl, rfl, rfl, _⟩ := six_kids h
  have ht : ([.string tb, .string bb, .int .i64 (lo : Int), .int .i64 (hi : Int), .int .i64 (ln : Int), .slice a 0 c] : List Value).toArray = #[.string tb, .string bb, .int .i64 (lo : Int), .int .i64 (hi : Int), .int .i64 (ln : Int), .slice a 0 c] := rfl
  rw [show ([] : List Mm.Pt).length = 0 from rfl, ht]
  rw [list_size] at f1
  obtain ⟨d, hd⟩ : ∃ d, hi - lo = d := ⟨_, rfl⟩
  have hwd : IntKind.i64.wrap ((hi : Int) - (lo : Int)) = (d : Int) := by rw [IntKind.wrap_i64]; omega
  have hpr : printP (.mk tb.data.toList bb.data.toList lo hi ln []) = 40 :: 34 :: (tb.data.toList ++ 34 :: 32 :: (Lib.itoa (ln : Int) ++ 32 :: (Lib.itoa (d : Int) ++ [41]))) := by
    rw [printP, if_pos (by rfl), show (hi : Int) - (lo : Int) = (d : Int) by omega]
  rw [hpr] at hlen ⊢
  obtain ⟨I1, hI1⟩ : ∃ t : ByteArray, ⟨(Lib.itoa (ln : Int)).toArray⟩ = t := ⟨_, rfl⟩
  obtain ⟨I2, hI2⟩ : ∃ t : ByteArray, ⟨(Lib.itoa (d : Int)).toArray⟩ = t := ⟨_, rfl⟩
  have hl1 : Lib.itoa (ln : Int) = I1.data.toList := by rw [← hI1]
  have hl2 : Lib.itoa (d : Int) = I2.data.toList := by rw [← hI2]
  have hblt : b < w.heap.size := by rcases hB with h | h <;> exact h.lt
  have hb1 : Below w.heap.size w (w.alloc (.cells #[.string tb, .string bb, .int .i64 (lo : Int), .int .i64 (hi : Int), .int .i64 (ln : Int), .slice a 0 c] 26)) := (Below.refl _ _).alloc (Nat.le_refl _) _
  have e1 := heap_alloc_new w (.cells #[.string tb, .string bb, .int .i64 (lo : Int), .int .i64 (hi : Int), .int .i64 (ln : Int), .slice a 0 c] 26)
  have HT : Hid (TabB B w) := htab
  have HB1 : Hid (Lib.IsBuilderF 50 5 B b (Lib.byteCells out) (w.alloc (.cells #[.string tb, .string bb, .int .i64 (lo : Int), .int .i64 (hi : Int), .int .i64 (ln : Int), .slice a 0 c] 26))) := isBuilderF_below hB hb1
  rw [hl1, hl2] at hlen ⊢
  have hsz : out.length + (I1.size + I2.size + tb.size + 8) ≤ 100000010 := by
    simp only [List.length_cons, List.length_append, List.length_nil, list_size] at hlen
    omega
  clear hpr h hB htab hl1 hl2 ht
  go_enter Tryd.func16, Tryd.ntmps16
  go_upto_region 3 with fail
  have z1 : (w.alloc (.cells #[.string tb, .string bb, .int .i64 (lo : Int), .int .i64 (hi : Int), .int .i64 (ln : Int), .slice a 0 c] 26)).heap.size = w.heap.size + 1 := by simp
  generalize w.alloc (.cells #[.string tb, .string bb, .int .i64 (lo : Int), .int .i64 (hi : Int), .int .i64 (ln : Int), .slice a 0 c] 26) = W1 at e1 hb1 z1 HB1 ⊢
  obtain ⟨CL, hCL⟩ : ∃ t : ByteArray, (⟨#[34]⟩ ++ tb ++ ⟨#[34]⟩ : ByteArray) = t := ⟨_, rfl⟩
  have hCl : CL.data.toList = 34 :: (tb.data.toList ++ [34]) := by rw [← hCL, cat_list, cat_list]; rfl
  have hCz : CL.size = tb.size + 2 := by rw [← hCL, cat_size, cat_size]; show 1 + tb.size + 1 = _; omega
  rw [hCL]
  clear hCL
  have hFL : (⟨#[40]⟩ ++ CL ++ ⟨#[32]⟩ ++ I1 ++ ⟨#[32]⟩ ++ I2 ++ ⟨#[41]⟩ : ByteArray).data.toList = 40 :: 34 :: (tb.data.toList ++ 34 :: 32 :: (I1.data.toList ++ 32 :: (I2.data.toList ++ [41]))) := by
    rw [cat_list, cat_list, cat_list, cat_list, cat_list, cat_list, hCl]
    simp
  have hFz : out.length + (⟨#[40]⟩ ++ CL ++ ⟨#[32]⟩ ++ I1 ++ ⟨#[32]⟩ ++ I2 ++ ⟨#[41]⟩ : ByteArray).size ≤ 100000000 := by
    rw [← list_size, hFL]
    exact hlen
  have HFL : Hid ((⟨#[40]⟩ ++ CL ++ ⟨#[32]⟩ ++ I1 ++ ⟨#[32]⟩ ++ I2 ++ ⟨#[41]⟩ : ByteArray).data.toList = 40 :: 34 :: (tb.data.toList ++ 34 :: 32 :: (I1.data.toList ++ 32 :: (I2.data.toList ++ [41])))) := hFL
  have c1 : ∀ W, Below B w W → Calls Tryd.prog 29 #[.int .i64 (ln : Int)] W fun e w' => e = .returned (.string I1) ∧ Below W.heap.size W w' := fun W hW => by
    rw [← hI1]; exact itoa_is (ln : Int) W (by omega) (by omega) (HT.out W hW)
  have c2 : ∀ W, Below B w W → Calls Tryd.prog 29 #[.int .i64 (d : Int)] W fun e w' => e = .returned (.string I2) ∧ Below W.heap.size W w' := fun W hW => by
    rw [← hI2]; exact itoa_is (d : Int) W (by omega) (by omega) (HT.out W hW)
  have q1 : (9223372036854775807 < 1 + CL.size) = False := eq_false (by omega)
  have q2 : (9223372036854775807 < 1 + CL.size + 1) = False := eq_false (by omega)
  have q3 : (9223372036854775807 < 1 + CL.size + 1 + I1.size) = False := eq_false (by omega)
  have q4 : (9223372036854775807 < 1 + CL.size + 1 + I1.size + 1) = False := eq_false (by omega)
  have q5 : (9223372036854775807 < 1 + CL.size + 1 + I1.size + 1 + I2.size) = False := eq_false (by omega)
  have q6 : (9223372036854775807 < 1 + CL.size + 1 + I1.size + 1 + I2.size + 1) = False := eq_false (by omega)
  clear hCz
  have l1 : Below W1.heap.size W1 W1.drew := (Below.refl _ _).drew
  have kw : KW B b w.heap.size #[.string tb, .string bb, .int .i64 (lo : Int), .int .i64 (hi : Int), .int .i64 (ln : Int), .slice a 0 c] w W1.drew := ⟨e1, (hb1.mono hBw).drew, (others_below hb1).trans (others_below l1), by omega⟩
  have hd1 : Lib.IsBuilderF 50 5 B b (Lib.byteCells out) W1.drew := isBuilderF_below HB1.out l1
  have hHB : Hid (B ≤ w.heap.size) := hBw
  clear hI1 hI2 hFL hlen e1 hCl HB1 l1 hb1 HT
  go_region_held3 (fun W => W.cell? ⟨w.heap.size, 2, none⟩ = some (.int .i64 (lo : Int)) ∧ W.cell? ⟨w.heap.size, 3, none⟩ = some (.int .i64 (hi : Int)) ∧ W.cell? ⟨w.heap.size, 4, none⟩ = some (.int .i64 (ln : Int)) ∧ KW B b w.heap.size #[.string tb, .string bb, .int .i64 (lo : Int), .int .i64 (hi : Int), .int .i64 (ln : Int), .slice a 0 c] w W)
    (first
      | exact ⟨kw.cell rfl, kw.cell rfl, kw.cell rfl, kw⟩
      | exact ⟨k2.cell rfl, k2.cell rfl, k2.cell rfl, k2⟩
      | exact ⟨k3.cell rfl, k3.cell rfl, k3.cell rfl, k3⟩
      | exact ⟨k4.cell rfl, k4.cell rfl, k4.cell rfl, k4⟩)
    (first
      | (go_at_call_of 29 (Value.int IntKind.i64 (ln : Int)); refine (c1 _ ?_).mono ?_; (focus (first | exact kw.2.1 | exact k3.2.1)); rintro e w2 ⟨rfl, hb2⟩; (first | have k2 := kw.below hHB.out hb2 | have k2 := k3.below hHB.out hb2); (first | have hd2 := isBuilderF_below hd1 hb2 | have hd2 := isBuilderF_below hd3 hb2))
      | (go_at_call_of 29 (Value.int IntKind.i64 (d : Int)); refine (c2 _ ?_).mono ?_; (focus (first | exact kw.2.1 | exact k2.2.1)); rintro e w3 ⟨rfl, hb3⟩; (first | have k3 := kw.below hHB.out hb3 | have k3 := k2.below hHB.out hb3); (first | have hd3 := isBuilderF_below hd1 hb3 | have hd3 := isBuilderF_below hd2 hb3))
      | (go_at_call 28; refine (text_is B b out _ _ ?_ ?_ ?_).mono ?_; (focus (first | with_reducible exact hd2 | with_reducible exact hd3)); (focus with_reducible exact hFz); (focus (first | exact Nat.le_trans hHB.out k2.2.1.size | exact Nat.le_trans hHB.out k3.2.1.size)); rintro e w4 ⟨rfl, hbd4, hb4, ho4⟩; (first | have k4 := k2.others hb4 ho4 | have k4 := k3.others hb4 ho4)))
  all_goals
    go_wp2_with fail
    refine bodyPost_ret (results_none rfl _ _ _) rfl ?_
    rw [HFL.out] at hbd4
    exact ⟨rfl, hbd4, k4.2.1, k4.2.2.1⟩
end Go.Proofs.YtgbbkdflnlagaaaDoor
