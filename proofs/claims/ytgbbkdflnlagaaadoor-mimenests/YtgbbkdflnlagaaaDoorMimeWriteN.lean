/-
  What mime.write and mime.Print do.
-/
import Derived.Test.YtgbbkdflnlagaaaDoorMimeWrite
namespace Go.Proofs.YtgbbkdflnlagaaaDoor
open Go.RowKit Go.Proofs.Aid Go.Proofs.Sq Go.Proofs.Hd Go.Proofs.Mm

theorem printPs_snoc {ps : List Mm.Pt} {k : Nat} {q : Mm.Pt} (h : ps[k]? = some q) : printPs (ps.take (k + 1)) = printPs (ps.take k) ++ (printP q ++ [32]) := by
  have hk : k < ps.length := (List.getElem?_eq_some_iff.1 h).1
  have e : ps[k] = q := (List.getElem?_eq_some_iff.1 h).2
  rw [List.take_succ_eq_append_getElem hk, printPs_append, e, printPs, printPs]
theorem printPs_take (ps : List Mm.Pt) (k : Nat) : (printPs (ps.take k)).length ≤ (printPs ps).length := by
  have h := printPs_append (ps.take k) (ps.drop k)
  rw [List.take_append_drop] at h
  rw [h, List.length_append]
  omega
theorem TabB.below {B : Nat} {w W : World} (h : TabB B w) (hb : Below B w W) : TabB B W := fun W' h' => h W' (hb.trans h')
def WritePost (B b : Nat) (p : Mm.Pt) (out : Tx) (w : World) (e : Ending) (w' : World) : Prop :=
  e = .returned (.tuple #[]) ∧ Lib.IsBuilderF 50 5 B b (Lib.byteCells (out ++ printP p)) w' ∧ Below B w w' ∧ Lib.OthersKept 5 (some b) w w'
def WriteIs (n : Nat) : Prop := ∀ (B b : Nat) (p : Mm.Pt) (xs : List Value) (out : Tx) (w : World), countP p ≤ n → countP p ≤ 30 → Six w (fun k => k < B) p xs → Fits 100000 p → Lib.IsBuilderF 50 5 B b (Lib.byteCells out) w → B ≤ w.heap.size → out.length + (printP p).length ≤ 100000000 → TabB B w → Calls Tryd.prog 16 #[.pointer (some ⟨b, 0, none⟩), .agg xs.toArray] w (WritePost B b p out w)
set_option maxHeartbeats 4000000 in
set_option maxRecDepth 100000 in
theorem write_node (n : Nat) (IH : WriteIs n) (B b : Nat) (t bn : Tx) (lo hi ln : Nat) (ps : List Mm.Pt) (xs : List Value) (out : Tx) (w : World) (hne : ps ≠ []) (hn : countP (.mk t bn lo hi ln ps) ≤ n + 1) (hc : countP (.mk t bn lo hi ln ps) ≤ 30) (h : Six w (fun k => k < B) (.mk t bn lo hi ln ps) xs) (hf : Fits 100000 (.mk t bn lo hi ln ps)) (hB : Lib.IsBuilderF 50 5 B b (Lib.byteCells out) w) (hBw : B ≤ w.heap.size) (hlen : out.length + (printP (.mk t bn lo hi ln ps)).length ≤ 100000000) (htab : TabB B w) :
    Calls Tryd.prog 16 #[.pointer (some ⟨b, 0, none⟩), .agg xs.toArray] w (WritePost B b (.mk t bn lo hi ln ps) out w) := by
  obtain ⟨f1, f2, f3, f4, f5⟩ := hf
  obtain ⟨N, hN⟩ : ∃ N, ps.length = N := ⟨_, rfl⟩
  have HN : Hid (ps.length = N) := hN
  have hps : N ≤ 29 := by rw [countP] at hc; have := parts_few ps; omega
  have hN0 : 1 ≤ N := by cases ps with
    | nil => exact absurd rfl hne
    | cons _ _ => rw [← hN, List.length_cons]; omega
  have HCH : Hid (∀ (j : Nat) q, ps[j]? = some q → countP q ≤ n ∧ countP q ≤ 30 ∧ Fits 100000 q) := by
    intro j q hj
    have hm := List.mem_of_getElem? hj
    have h2 := part_few hm
    rw [countP] at hc hn
    exact ⟨by omega, by omega, fitsAll_get f5 hj⟩
  obtain ⟨tb, bb, a, c, rfl, rfl, rfl, hkids⟩ := six_kids h
  have HIH : Hid (WriteIs n) := IH
  have HK : Hid (∀ W, Below B w W → ∀ j q, ps[j]? = some q → ∃ b o ys, a = some ⟨b, o, none⟩ ∧ Six W (fun k => k < B) q ys ∧ ∀ i x, ys[i]? = some x → W.cell? ⟨b, o + j * 6 + i, none⟩ = some x) := by
    intro W hW j q hj
    obtain ⟨b', o, ys, h1, h2, h3, h4⟩ := hkids j q hj
    exact ⟨b', o, ys, h1, h3.kept fun k hk _ => ⟨hk, hW.block k hk⟩, fun i x hx => (hW.cell (p := ⟨b', o + j * 6 + i, none⟩) h2).trans (h4 i x hx)⟩
  rw [list_size] at f1
  have hpr : printP (.mk tb.data.toList bb.data.toList lo hi ln ps) = 40 :: (printPs ps ++ 34 :: (tb.data.toList ++ [34, 41])) := by
    rw [printP, if_neg (by cases ps with
      | nil => exact absurd rfl hne
      | cons _ _ => simp)]
  have hlen2 : out.length + ((printPs ps).length + (tb.size + 4)) ≤ 100000000 := by
    rw [hpr] at hlen
    simp only [List.length_cons, List.length_append, List.length_nil, list_size] at hlen
    omega
  have HP : Hid (printP (.mk tb.data.toList bb.data.toList lo hi ln ps) = 40 :: (printPs ps ++ 34 :: (tb.data.toList ++ [34, 41]))) := hpr
  have hblt : b < w.heap.size := by rcases hB with h | h <;> exact h.lt
  have hb1 : Below w.heap.size w (w.alloc (.cells #[.string tb, .string bb, .int .i64 (lo : Int), .int .i64 (hi : Int), .int .i64 (ln : Int), .slice a N c] 26)) := (Below.refl _ _).alloc (Nat.le_refl _) _
  have e1 := heap_alloc_new w (.cells #[.string tb, .string bb, .int .i64 (lo : Int), .int .i64 (hi : Int), .int .i64 (ln : Int), .slice a N c] 26)
  have HT : Hid (TabB B w) := htab
  have cB := byte_is B b out 40 (w.alloc (.cells #[.string tb, .string bb, .int .i64 (lo : Int), .int .i64 (hi : Int), .int .i64 (ln : Int), .slice a N c] 26)) (isBuilderF_below hB hb1) (by omega) (Nat.le_trans hBw hb1.size)
  rw [show ((40 : UInt8).toNat : Int) = 40 from rfl] at cB
  have ht : ([.string tb, .string bb, .int .i64 (lo : Int), .int .i64 (hi : Int), .int .i64 (ln : Int), .slice a ps.length c] : List Value).toArray = #[.string tb, .string bb, .int .i64 (lo : Int), .int .i64 (hi : Int), .int .i64 (ln : Int), .slice a N c] := by rw [hN]
  rw [ht]
  have hN1 : ((N : Int) == 0) = false := by simp; omega
  have kw1 : KW B b w.heap.size #[.string tb, .string bb, .int .i64 (lo : Int), .int .i64 (hi : Int), .int .i64 (ln : Int), .slice a N c] w (w.alloc (.cells #[.string tb, .string bb, .int .i64 (lo : Int), .int .i64 (hi : Int), .int .i64 (ln : Int), .slice a N c] 26)) := ⟨e1, hb1.mono hBw, others_below hb1, by omega⟩
  clear hpr h hB htab ht IH hn hc hkids hlen hN hne f5 hb1 e1
  go_enter Tryd.func16, Tryd.ntmps16
  go_wp2_with fail
  refine cB.mono ?_
  clear cB
  rintro e w2 ⟨rfl, hbd2, hb2, ho2⟩
  have kw2 := kw1.others hb2 ho2
  clear kw1 hb2 ho2
  have x5 := kw2.cell (j := 5) rfl
  obtain ⟨CL, hCL⟩ : ∃ t : ByteArray, (⟨#[34]⟩ ++ tb ++ ⟨#[34]⟩ : ByteArray) = t := ⟨_, rfl⟩
  have HCl : Hid (CL.data.toList = 34 :: (tb.data.toList ++ [34])) := by show _ = _; rw [← hCL, cat_list, cat_list]; rfl
  have hCz : CL.size = tb.size + 2 := by rw [← hCL, cat_size, cat_size]; show 1 + tb.size + 1 = _; omega
  rw [hCL]
  clear hCL
  go_wp2_with fail
  have HK2 : Hid (KW B b w.heap.size #[.string tb, .string bb, .int .i64 (lo : Int), .int .i64 (hi : Int), .int .i64 (ln : Int), .slice a N c] w w2) := kw2
  clear kw2 x5
  go_loopw [38] (fun i wr => ∃ (k : Nat), i = .int .i64 (k : Int) ∧ k ≤ N ∧ Hid (Lib.IsBuilderF 50 5 B b (Lib.byteCells (out ++ 40 :: printPs (ps.take k))) wr) ∧ Hid (Below B w wr ∧ Lib.OthersKept 5 (some b) w wr)) (fun i _ => N - (intOf i).toNat)
  case atStart => exact ⟨0, rfl, by omega, hbd2, ⟨HK2.out.2.1, HK2.out.2.2.1⟩⟩
  case round =>
    obtain ⟨k, rfl, hk, HBD, HW⟩ := hrel
    obtain ⟨hbW, hoW⟩ := HW.out
    clear HW
    by_cases hlt : k < N
    · have hkp : k < ps.length := by rw [HN.out]; exact hlt
      obtain ⟨q, hq⟩ : ∃ q, ps[k] = q := ⟨_, rfl⟩
      have hpk : ps[k]? = some q := by rw [List.getElem?_eq_getElem hkp, hq]
      obtain ⟨b', o, ys, ha, hsix, hcells⟩ := HK.out wr hbW k q hpk
      obtain ⟨xb, yb, l1, h1, n1, a1, k1, cc1, rfl⟩ := six_cells hsix
      subst ha
      have c0 := hcells 0 _ rfl
      have c1 := hcells 1 _ rfl
      have c2 := hcells 2 _ rfl
      have c3 := hcells 3 _ rfl
      have c4 := hcells 4 _ rfl
      have c5 := hcells 5 _ rfl
      rw [Nat.add_zero] at c0
      have hbA : Below wr.heap.size wr (wr.alloc (.cells #[.string xb, .string yb, .int .i64 (l1 : Int), .int .i64 (h1 : Int), .int .i64 (n1 : Int), .slice a1 k1 cc1] 26)) := (Below.refl _ _).alloc (Nat.le_refl _) _
      have eA := heap_alloc_new wr (.cells #[.string xb, .string yb, .int .i64 (l1 : Int), .int .i64 (h1 : Int), .int .i64 (n1 : Int), .slice a1 k1 cc1] 26)
      have t0 := rd_cell (j := 0) eA rfl
      have t1 := rd_cell (j := 1) eA rfl
      have t2 := rd_cell (j := 2) eA rfl
      have t3 := rd_cell (j := 3) eA rfl
      have t4 := rd_cell (j := 4) eA rfl
      have t5 := rd_cell (j := 5) eA rfl
      have hBr : B ≤ wr.heap.size := Nat.le_trans hBw hbW.size
      have hbWA := hbW.trans (hbA.mono hBr)
      have hoWA := hoW.trans (others_below (e := 5) (b := some b) hbA)
      have hsn := printPs_snoc hpk
      have htk := printPs_take ps (k + 1)
      rw [hsn] at htk
      simp only [List.length_append, List.length_cons, List.length_nil] at htk
      have cF := HIH.out B b q [.string xb, .string yb, .int .i64 (l1 : Int), .int .i64 (h1 : Int), .int .i64 (n1 : Int), .slice a1 k1 cc1] (out ++ 40 :: printPs (ps.take k)) (wr.alloc (.cells #[.string xb, .string yb, .int .i64 (l1 : Int), .int .i64 (h1 : Int), .int .i64 (n1 : Int), .slice a1 k1 cc1] 26)) (HCH.out k q hpk).1 (HCH.out k q hpk).2.1 (hsix.under hbA) (HCH.out k q hpk).2.2 (isBuilderF_below HBD.out hbA) (Nat.le_trans hBr hbA.size) (by simp only [List.length_append, List.length_cons]; omega) (HT.out.below hbWA)
      rw [show ([.string xb, .string yb, .int .i64 (l1 : Int), .int .i64 (h1 : Int), .int .i64 (n1 : Int), .slice a1 k1 cc1] : List Value).toArray = #[.string xb, .string yb, .int .i64 (l1 : Int), .int .i64 (h1 : Int), .int .i64 (n1 : Int), .slice a1 k1 cc1] from rfl] at cF
      have HSN : Hid (out ++ 40 :: printPs (ps.take (k + 1)) = out ++ 40 :: printPs (ps.take k) ++ printP q ++ [32]) := by show _ = _; rw [hsn]; simp
      have hll : (out ++ 40 :: printPs (ps.take k) ++ printP q).length ≤ 100000000 := by simp only [List.length_append, List.length_cons]; omega
      clear hcells hq hsix eA hsn htk HBD
      go_wp2_with fail
      refine cF.mono ?_
      clear cF
      rintro e w5 ⟨rfl, hbd5, hb5, ho5⟩
      have hb05 := hbWA.trans hb5
      have ho05 := hoWA.trans ho5
      have cB := byte_is B b (out ++ 40 :: printPs (ps.take k) ++ printP q) 32 w5 hbd5 hll (Nat.le_trans hBw hb05.size)
      rw [show ((32 : UInt8).toNat : Int) = 32 from rfl, ← HSN.out] at cB
      clear hbd5 hll t0 t1 t2 t3 t4 t5 c0 c1 c2 c3 c4 c5 hoWA hbWA hbA hb5 ho5
      go_wp2_with fail
      refine cB.mono ?_
      clear cB
      rintro e w6 ⟨rfl, hbd6, hb6, ho6⟩
      go_wp2_with fail
      go_roundw
      case rel => exact ⟨k + 1, by go_num, by omega, hbd6, ⟨hb05.trans hb6, ho05.trans ho6⟩⟩
      case measure => simp [intOf]; omega
    · obtain rfl : k = N := by omega
      have hz : (CL ++ ⟨#[41]⟩ : ByteArray).size = tb.size + 3 := by rw [cat_size]; show CL.size + 1 = _; omega
      have hbdE := HBD.out
      rw [List.take_of_length_le (by rw [HN.out]; omega)] at hbdE
      have y1 : CL.size + (⟨#[41]⟩ : ByteArray).size ≤ 100001000 := by show CL.size + 1 ≤ _; omega
      have cW := text_is B b (out ++ 40 :: printPs ps) (CL ++ ⟨#[41]⟩) wr hbdE (by simp only [List.length_append, List.length_cons]; omega) (Nat.le_trans hBw hbW.size)
      have he : out ++ 40 :: printPs ps ++ (CL ++ ⟨#[41]⟩ : ByteArray).data.toList = out ++ printP (.mk tb.data.toList bb.data.toList lo hi ln ps) := by
        rw [HP.out, cat_list, HCl.out]
        simp
      rw [he] at cW
      clear he hbdE HBD hz
      go_wp2_with fail
      refine cW.mono ?_
      clear cW
      rintro e w6 ⟨rfl, hbd6, hb6, ho6⟩
      go_wp2_with fail
      go_end0
      exact ⟨rfl, hbd6, hbW.trans hb6, hoW.trans ho6⟩
theorem write_is : ∀ n, WriteIs n
  | 0 => fun _ _ p _ _ _ h => absurd h (by have := countP_pos p; omega)
  | n + 1 => fun B b p xs out w hn hc h hf hB hBw hlen htab => by
    obtain ⟨t, bn, lo, hi, ln, ps⟩ := p
    by_cases hne : ps = []
    · subst hne
      exact write_leaf B b t bn lo hi ln xs _ out w h hf hB hBw hlen htab
    · exact write_node n (write_is n) B b t bn lo hi ln ps xs out w hne hn hc h hf hB hBw hlen htab
end Go.Proofs.YtgbbkdflnlagaaaDoor
