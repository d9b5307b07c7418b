/-
  What the statement SearchFinds does: it says yes.
-/
import Derived.Test.YtogigccbnohjjaaGreatDoorBpSfFound
import Derived.Test.YtogigccbnohjjaaGreatDoorBpSearchParse
namespace Go.Proofs.YtogigccbnohjjaaGreatDoor
open Go.RowKit Go.Proofs.Aid Go.Proofs.Sq Go.Proofs.Hd
set_option maxHeartbeats 8000000
set_option maxRecDepth 100000
theorem letter_is (uid day : Int) (tb : ByteArray) (fa : Option Addr) (fn fc : Nat) (fl : List Fl.Tx) (w : World) (hF : Sl w (.slice fa fn fc) fl) :
  Calls Tryz.prog 5 #[.agg #[.int .i64 uid, .slice fa fn fc, .int .i64 day, .string tb]] w fun e w' => ∃ b, e = .returned (.bool b) ∧ Below w.heap.size w w' ∧ (b = true → fl.length ≤ 40 ∧ tb.size ≤ 1500) := by
 have b1 : Below w.heap.size w (w.alloc (.cells #[.int .i64 uid, .slice fa fn fc, .int .i64 day, .string tb] 24)) := (Below.refl _ _).alloc (Nat.le_refl _) _
 have e1 := heap_alloc_new w (.cells #[.int .i64 uid, .slice fa fn fc, .int .i64 day, .string tb] 24)
 obtain ⟨W1, hW1⟩ : ∃ W, w.alloc (.cells #[.int .i64 uid, .slice fa fn fc, .int .i64 day, .string tb] 24) = W := ⟨_, rfl⟩
 rw [hW1] at b1 e1
 have cT := texts_any (.slice fa fn fc) fl W1 (hF.below b1 (Nat.le_refl _))
 have k1 := rd_cell (j := 1) e1 rfl
 have k3 := rd_cell (j := 3) e1 rfl
 obtain ⟨A, hA⟩ : ∃ A, (decide (fl.length ≤ 40) && fl.all fun t => decide (t.length ≤ 100)) = A := ⟨_, rfl⟩
 have HA : Hid (A = true → fl.length ≤ 40) := fun h => by
  rw [← hA, Bool.and_eq_true, decide_eq_true_eq] at h
  exact h.1
 rw [hA] at cT
 have HB : Hid (Below w.heap.size w W1) := b1
 clear hA e1 b1 hF
 go_enter Tryz.func5, Tryz.ntmps5
 go_wp2_with fail
 refine cT.mono ?_
 rintro e w2 ⟨rfl, hw2⟩
 obtain rfl : W1 = w2 := hw2.symm
 clear cT hw2
 cases A with
 | false =>
  go_wp2_with fail
  go_ret
  exact ⟨false, rfl, HB.out, fun h => by cases h⟩
 | true =>
  go_wp2_with fail
  go_ret
  exact ⟨decide ((tb.size : Int) ≤ 1500), rfl, HB.out, fun h => ⟨by first | exact HA.out rfl | exact HA.out trivial, by have := of_decide_eq_true h; omega⟩⟩
theorem trow_sl {w : World} {fa : Option Addr} {fn fc : Nat} {l : List Fl.Tx} (h : Sl w (.slice fa fn fc) l) : Trow w fa fn l := by
 obtain ⟨a, c, e, _, hd⟩ := h
 injection e with e1 e2 e3
 subst e1
 subst e2
 exact ⟨rfl, hd.imp id fun ⟨b, o, h1, h2⟩ => ⟨b, o, h1, h2⟩⟩
theorem sfinds_is (s tb : ByteArray) (m : Sr.Lt) (fa : Option Addr) (fn fc : Nat) (mx : Int) (w : World) (htb : tb.data.toList = m.text) (hF : Sl w (.slice fa fn fc) m.flags) (hfine : FineAt w) (hm : w.cell? ⟨1, 0, none⟩ = some (.int .i64 mx))
  (hg : ∀ W, Below w.heap.size w W → SysAt W ∧ ErrType W ∧ NumAt W) :
  Calls Tryz.prog 3 #[.string s, .agg #[.int .i64 m.uid, .slice fa fn fc, .int .i64 m.day, .string tb], .int .i64 m.which, .int .i64 m.many, .int .i64 m.greatest] w fun e w' => e = .returned (.bool true) ∧ Below w.heap.size w w' := by
 have K0 : Hid (∀ W, Below w.heap.size w W → (SysAt W ∧ ErrType W ∧ NumAt W ∧ ∃ m, W.cell? ⟨1, 0, none⟩ = some (.int .i64 m)) ∧ W.cell? ⟨1, 0, none⟩ = some (.int .i64 mx) ∧ FineAt W ∧ Sl W (.slice fa fn fc) m.flags) := fun W hW => by
  obtain ⟨h1, h2, h3⟩ := hg W hW
  have h4 := (hW.cell (World.block_lt_of_cell? _ _ hm)).trans hm
  exact ⟨⟨h1, h2, h3, mx, h4⟩, h4, hfine.below hW (Nat.le_refl _), hF.below hW (Nat.le_refl _)⟩
 have b1 : Below w.heap.size w (w.alloc (.cells #[.int .i64 m.uid, .slice fa fn fc, .int .i64 m.day, .string tb] 24)) := (Below.refl _ _).alloc (Nat.le_refl _) _
 have e1 := heap_alloc_new w (.cells #[.int .i64 m.uid, .slice fa fn fc, .int .i64 m.day, .string tb] 24)
 obtain ⟨W1, hW1⟩ : ∃ W, w.alloc (.cells #[.int .i64 m.uid, .slice fa fn fc, .int .i64 m.day, .string tb] 24) = W := ⟨_, rfl⟩
 have z1 : W1.heap.size = w.heap.size + 1 := by rw [← hW1]; simp
 rw [hW1] at b1 e1
 have cP := parts_is s W1 (K0.out W1 b1).2.2.1 (K0.out W1 b1).1.2.2.1
 have HX1 : Hid (∀ W, Below W1.heap.size W1 W → W.heap[w.heap.size]? = some (.cells #[.int .i64 m.uid, .slice fa fn fc, .int .i64 m.day, .string tb] 24 (0, 0)) ∧ Below w.heap.size w W) := fun W hb => ⟨(hb.block _ (by omega)).trans e1, b1.trans (hb.mono b1.size)⟩
 have HZ1 : Hid (W1.heap.size = w.heap.size + 1) := z1
 have HTB : Hid (tb.data.toList = m.text) := htb
 clear b1 e1 hF hfine hm hg htb z1
 go_enter Tryz.func3, Tryz.ntmps3
 go_wp2_with fail
 refine cP.mono ?_
 rintro e w2 ⟨hb2, ⟨a2, n2, c2, rfl⟩ | ⟨l, a2, n2, c2, rfl, hl⟩⟩
 ·have hfin := (HX1.out w2 hb2).2
  clear cP hb2
  go_wp2_with fail
  go_ret
  exact ⟨rfl, hfin⟩
 ·obtain ⟨g1, hbw⟩ := HX1.out w2 hb2
  have k0 := rd_cell (j := 0) g1 rfl
  have k1 := rd_cell (j := 1) g1 rfl
  have k2 := rd_cell (j := 2) g1 rfl
  have k3 := rd_cell (j := 3) g1 rfl
  have cL := letter_is m.uid m.day tb fa fn fc m.flags w2 (K0.out w2 hbw).2.2.2
  have HX2 : Hid (∀ W, Below w2.heap.size w2 W → W.heap[w.heap.size]? = some (.cells #[.int .i64 m.uid, .slice fa fn fc, .int .i64 m.day, .string tb] 24 (0, 0)) ∧ Below w.heap.size w W ∧ Ags W (fun q => W1.heap.size ≤ q ∧ q < w2.heap.size) 606 l (.slice a2 n2 c2)) := fun W hb => by
   have h := HX1.out W (hb2.trans (hb.mono hb2.size))
   exact ⟨h.1, h.2, hl.kept fun k hk hlt => ⟨⟨hk, hlt⟩, hb.block k hlt⟩⟩
  have hs2 := hb2.size
  clear cP hb2 hl g1 HX1
  go_wp2_with fail
  refine cL.mono ?_
  rintro e w3 ⟨b, rfl, hb3, hlet⟩
  clear cL
  cases b with
  | false =>
   have hfin := (HX2.out w3 hb3).2.1
   clear hb3 hlet k0 k1 k2 k3
   go_wp2_with fail
   go_ret
   exact ⟨rfl, hfin⟩
  | true =>
   obtain ⟨hfl, htx⟩ := hlet rfl
   obtain ⟨_, hb03, hl3⟩ := HX2.out w3 hb3
   have hs3 := hb3.size
   have cK := rparseK_is 606 l (.slice a2 n2 c2) (fun q => W1.heap.size ≤ q ∧ q < w2.heap.size) w3 (by omega) hl3 (fun k hk => by omega) (fun W hW => by
    have := K0.out W (hb03.trans (hW.mono hb03.size))
    exact ⟨this.1.2.2.1, mx, this.2.1⟩)
   obtain ⟨R, hR⟩ : ∃ R, Sr.parseK l = R := ⟨_, rfl⟩
   have HR : Hid (Sr.parseK l = R ∧ Sr.Sz 606 l) := ⟨hR, ags_sz hl3⟩
   rw [hR] at cK
   have HX3 : Hid (∀ W, Below w3.heap.size w3 W → W.heap[w.heap.size]? = some (.cells #[.int .i64 m.uid, .slice fa fn fc, .int .i64 m.day, .string tb] 24 (0, 0)) ∧ Below w.heap.size w W ∧ Ags W (fun q => W1.heap.size ≤ q ∧ q < w2.heap.size) 606 l (.slice a2 n2 c2)) := fun W hb => HX2.out W (hb3.trans (hb.mono hb3.size))
   clear hR hl3 hb3 HX2 k0 k1 k2 k3 hlet hb03 hbw
   go_wp2_with fail
   refine cK.mono ?_
   intro e w4 h4
   clear cK
   -- one way for both
   obtain ⟨ys, E, k, rfl, hk4, hb4, hE4⟩ : ∃ ys E k, e = .returned (.tuple #[.agg ys.toArray, .int .i64 E]) ∧ Kx w4 (fun q => w3.heap.size ≤ q) k ys ∧ Below w3.heap.size w3 w4 ∧ ((E = 0 ∧ ∃ r c, R = .ok k r c) ∨ (E ≠ 0 ∧ R = .bad E ∧ k = .mk 0 [] [] 0 [] [])) := by
    cases R with
    | bad n => obtain ⟨rfl, hn, hb⟩ := h4; exact ⟨_, n, _, rfl, kx_leaf w4 _ 0 0 ⟨#[]⟩ ⟨#[]⟩, hb, Or.inr ⟨hn, rfl, rfl⟩⟩
    | ok k r c => obtain ⟨ys, rfl, hk, hb⟩ := h4; exact ⟨ys, 0, k, rfl, hk, hb, Or.inl ⟨rfl, r, c, rfl⟩⟩
   clear h4
   obtain ⟨x0, x3, x1, x2, xa, xk, xc, ya, yk, yc, rfl⟩ := kx_cells hk4
   have hta : ([.int .i64 x0, .string x1, .string x2, .int .i64 x3, .slice xa xk xc, .slice ya yk yc] : List Value).toArray = #[.int .i64 x0, .string x1, .string x2, .int .i64 x3, .slice xa xk xc, .slice ya yk yc] := rfl
   rw [hta]
   have hs4 := hb4.size
   have e5 := heap_alloc_new w4 (.cells #[.int .i64 0, .string ⟨#[]⟩, .string ⟨#[]⟩, .int .i64 0, .slice none 0 0, .slice none 0 0] 32)
   have b5 : Below w4.heap.size w4 (w4.alloc (.cells #[.int .i64 0, .string ⟨#[]⟩, .string ⟨#[]⟩, .int .i64 0, .slice none 0 0, .slice none 0 0] 32)) := (Below.refl _ _).alloc (Nat.le_refl _) _
   obtain ⟨W5, hW5⟩ : ∃ W, w4.alloc (.cells #[.int .i64 0, .string ⟨#[]⟩, .string ⟨#[]⟩, .int .i64 0, .slice none 0 0, .slice none 0 0] 32) = W := ⟨_, rfl⟩
   rw [hW5] at e5 b5
   obtain ⟨B1, hB1⟩ : ∃ F, w4.heap.size = F := ⟨_, rfl⟩
   rw [hB1] at e5
   obtain ⟨⟨a0, a1, a2', a3, a4, a5⟩, ⟨af0, af1, af2, af3, af4, af5⟩, _⟩ := six_facts e5 (.int .i64 x0) (.string x1) (.string x2) (.int .i64 x3) (.slice xa xk xc) (.slice ya yk yc)
   have e6 := six_set e5 (.int .i64 x0) (.string x1) (.string x2) (.int .i64 x3) (.slice xa xk xc) (.slice ya yk yc)
   obtain ⟨W6, hW6⟩ : ∃ W, ((((((W5.setCell ⟨B1, 0, none⟩ (.int .i64 x0)).setCell ⟨B1, 1, none⟩ (.string x1)).setCell ⟨B1, 2, none⟩ (.string x2)).setCell ⟨B1, 3, none⟩ (.int .i64 x3)).setCell ⟨B1, 4, none⟩ (.slice xa xk xc)).setCell ⟨B1, 5, none⟩ (.slice ya yk yc)) = W := ⟨_, rfl⟩
   have b6 : Below B1 w4 W6 := by rw [← hW6]; exact (six_but (rb := B1) (to_but (b5.mono (show B1 ≤ w4.heap.size by omega))) (Nat.le_refl _) _ _ _ _ _ _).below (Nat.le_refl _) (Nat.le_refl _)
   rw [hW6] at e6
   have z6 : B1 < W6.heap.size := (Array.getElem?_eq_some_iff.1 e6).1
   have b36 : Below w3.heap.size w3 W6 := hb4.trans (b6.mono (by omega))
   have HX6 : Hid (∀ W, Below W6.heap.size W6 W → W.heap[w.heap.size]? = some (.cells #[.int .i64 m.uid, .slice fa fn fc, .int .i64 m.day, .string tb] 24 (0, 0)) ∧ Below w.heap.size w W ∧ W.heap[B1]? = some (.cells #[.int .i64 x0, .string x1, .string x2, .int .i64 x3, .slice xa xk xc, .slice ya yk yc] 32 (0, 0)) ∧ Kx W (fun q => q < B1) k [.int .i64 x0, .string x1, .string x2, .int .i64 x3, .slice xa xk xc, .slice ya yk yc]) := fun W hb => by
    obtain ⟨h1, h2, h3⟩ := HX3.out W (b36.trans (hb.mono b36.size))
    refine ⟨h1, h2, (hb.block B1 z6).trans e6, hk4.kept fun q hq hlt => ⟨by omega, (hb.block q (by omega)).trans (b6.block q (by omega))⟩⟩
   obtain ⟨_, hb06, hl6⟩ := HX3.out W6 b36
   have cQ := sparse_is 606 l (.slice a2 n2 c2) (fun q => W1.heap.size ≤ q ∧ q < w2.heap.size) W6 (by omega) hl6 (fun k hk => by omega) (fun W hW => (K0.out W (hb06.trans (hW.mono hb06.size))).1)
   rw [HR.out.1] at cQ
   have HB6 : Hid (Below w.heap.size w W6) := hb06
   clear hk4 hb4 hta e5 b5 e6 b6 b36 hl6 hb06 HX3 hs4
   go_wp2_with fail
   refine cQ.mono ?_
   intro e w7 h7
   clear cQ
   obtain ⟨zs, V, rfl, hk7, hb7, hV⟩ : ∃ zs V, e = .returned (.tuple #[.agg zs.toArray, V]) ∧ Kx w7 (fun q => W6.heap.size ≤ q) k zs ∧ Below W6.heap.size W6 w7 ∧ ((E = 0 ∧ V = .nilIface) ∨ (E ≠ 0 ∧ V = .iface 33 (.int .i64 E))) := by
    rcases hE4 with ⟨rfl, r, c, rfl⟩ | ⟨hE, rfl, rfl⟩
    ·obtain ⟨zs, rfl, h1, h2⟩ := h7; exact ⟨zs, _, rfl, h1, h2, Or.inl ⟨rfl, rfl⟩⟩
    ·obtain ⟨rfl, h2⟩ := h7; exact ⟨_, _, rfl, kx_leaf w7 _ 0 0 ⟨#[]⟩ ⟨#[]⟩, h2, Or.inr ⟨hE, rfl⟩⟩
   clear h7
   obtain ⟨X0, X3, X1, X2, Xa, Xk, Xc, Ya, Yk, Yc, rfl⟩ := kx_cells hk7
   have hta : ([.int .i64 X0, .string X1, .string X2, .int .i64 X3, .slice Xa Xk Xc, .slice Ya Yk Yc] : List Value).toArray = #[.int .i64 X0, .string X1, .string X2, .int .i64 X3, .slice Xa Xk Xc, .slice Ya Yk Yc] := rfl
   rw [hta]
   have hs7 := hb7.size
   have e8 := heap_alloc_new w7 (.cells #[.int .i64 0, .string ⟨#[]⟩, .string ⟨#[]⟩, .int .i64 0, .slice none 0 0, .slice none 0 0] 32)
   have b8 : Below w7.heap.size w7 (w7.alloc (.cells #[.int .i64 0, .string ⟨#[]⟩, .string ⟨#[]⟩, .int .i64 0, .slice none 0 0, .slice none 0 0] 32)) := (Below.refl _ _).alloc (Nat.le_refl _) _
   obtain ⟨W8, hW8⟩ : ∃ W, w7.alloc (.cells #[.int .i64 0, .string ⟨#[]⟩, .string ⟨#[]⟩, .int .i64 0, .slice none 0 0, .slice none 0 0] 32) = W := ⟨_, rfl⟩
   rw [hW8] at e8 b8
   obtain ⟨B2, hB2⟩ : ∃ F, w7.heap.size = F := ⟨_, rfl⟩
   rw [hB2] at e8
   obtain ⟨⟨d0, d1, d2, d3, d4, d5⟩, ⟨df0, df1, df2, df3, df4, df5⟩, _⟩ := six_facts e8 (.int .i64 X0) (.string X1) (.string X2) (.int .i64 X3) (.slice Xa Xk Xc) (.slice Ya Yk Yc)
   have e9 := six_set e8 (.int .i64 X0) (.string X1) (.string X2) (.int .i64 X3) (.slice Xa Xk Xc) (.slice Ya Yk Yc)
   obtain ⟨W9, hW9⟩ : ∃ W, ((((((W8.setCell ⟨B2, 0, none⟩ (.int .i64 X0)).setCell ⟨B2, 1, none⟩ (.string X1)).setCell ⟨B2, 2, none⟩ (.string X2)).setCell ⟨B2, 3, none⟩ (.int .i64 X3)).setCell ⟨B2, 4, none⟩ (.slice Xa Xk Xc)).setCell ⟨B2, 5, none⟩ (.slice Ya Yk Yc)) = W := ⟨_, rfl⟩
   have b9 : Below B2 w7 W9 := by rw [← hW9]; exact (six_but (rb := B2) (to_but (b8.mono (show B2 ≤ w7.heap.size by omega))) (Nat.le_refl _) _ _ _ _ _ _).below (Nat.le_refl _) (Nat.le_refl _)
   rw [hW9] at e9
   have z9 : B2 < W9.heap.size := (Array.getElem?_eq_some_iff.1 e9).1
   have b69 : Below W6.heap.size W6 W9 := hb7.trans (b9.mono (by omega))
   have KS : Hid (∀ W, Below W9.heap.size W9 W → ((W.cell? ⟨B2, 0, none⟩ = some (.int .i64 X0) ∧ W.cell? ⟨B2, 1, none⟩ = some (.string X1) ∧ W.cell? ⟨B2, 2, none⟩ = some (.string X2) ∧ W.cell? ⟨B2, 3, none⟩ = some (.int .i64 X3) ∧ W.cell? ⟨B2, 4, none⟩ = some (.slice Xa Xk Xc) ∧ W.cell? ⟨B2, 5, none⟩ = some (.slice Ya Yk Yc)) ∧ (W.cell? ⟨B1, 0, none⟩ = some (.int .i64 x0) ∧ W.cell? ⟨B1, 1, none⟩ = some (.string x1) ∧ W.cell? ⟨B1, 2, none⟩ = some (.string x2) ∧ W.cell? ⟨B1, 3, none⟩ = some (.int .i64 x3) ∧ W.cell? ⟨B1, 4, none⟩ = some (.slice xa xk xc) ∧ W.cell? ⟨B1, 5, none⟩ = some (.slice ya yk yc)) ∧ (W.cell? ⟨w.heap.size, 0, none⟩ = some (.int .i64 m.uid) ∧ W.cell? ⟨w.heap.size, 1, none⟩ = some (.slice fa fn fc) ∧ W.cell? ⟨w.heap.size, 2, none⟩ = some (.int .i64 m.day) ∧ W.cell? ⟨w.heap.size, 3, none⟩ = some (.string tb))) ∧ Below w.heap.size w W ∧ Kx W (fun q => q < B1) k [.int .i64 x0, .string x1, .string x2, .int .i64 x3, .slice xa xk xc, .slice ya yk yc] ∧ Kx W (fun q => q < B2) k [.int .i64 X0, .string X1, .string X2, .int .i64 X3, .slice Xa Xk Xc, .slice Ya Yk Yc]) := fun W hb => by
    obtain ⟨h1, h2, h3, h4⟩ := HX6.out W (b69.trans (hb.mono b69.size))
    have h5 := (hb.block B2 z9).trans e9
    exact ⟨⟨⟨rd_cell h5 rfl, rd_cell h5 rfl, rd_cell h5 rfl, rd_cell h5 rfl, rd_cell h5 rfl, rd_cell h5 rfl⟩, ⟨rd_cell h3 rfl, rd_cell h3 rfl, rd_cell h3 rfl, rd_cell h3 rfl, rd_cell h3 rfl, rd_cell h3 rfl⟩, ⟨rd_cell h1 rfl, rd_cell h1 rfl, rd_cell h1 rfl, rd_cell h1 rfl⟩⟩, h2, h4, hk7.kept fun q hq hlt => ⟨by omega, (hb.block q (by omega)).trans (b9.block q (by omega))⟩⟩
   have HSM : Hid (Sm k) := by
    rcases hE4 with ⟨_, r, c, h⟩ | ⟨_, _, rfl⟩
    ·exact parse_sm (HR.out.1.trans h)
    ·exact sm_leaf (by simp) (by omega)
   have HSK : Hid (∀ W, Below W9.heap.size W9 W → Calls Tryz.prog 9 #[.agg #[.int .i64 X0, .string X1, .string X2, .int .i64 X3, .slice Xa Xk Xc, .slice Ya Yk Yc], .agg #[.int .i64 x0, .string x1, .string x2, .int .i64 x3, .slice xa xk xc, .slice ya yk yc]] W fun e w' => e = .returned (.bool true) ∧ Below W.heap.size W w') := fun W hb => by
    obtain ⟨_, _, h1, h2⟩ := KS.out W hb
    exact same_key HSM.out [.int .i64 X0, .string X1, .string X2, .int .i64 X3, .slice Xa Xk Xc, .slice Ya Yk Yc] [.int .i64 x0, .string x1, .string x2, .int .i64 x3, .slice xa xk xc, .slice ya yk yc] _ _ W h2 h1
   have HBR : Hid (∀ W, Below W9.heap.size W9 W → Calls Tryz.prog 8 #[V, .int .i64 E] W fun e w' => e = .returned (.bool true) ∧ Below W.heap.size W w') := fun W hb => by
    rcases hV with ⟨rfl, rfl⟩ | ⟨_, rfl⟩
    ·exact bare_nil 0 W
    ·have := bare_err E E W (K0.out W (KS.out W hb).2.1).1.2.1
     rw [show (E == E) = true by simp] at this
     exact this
   have cB := HBR.out W9 (Below.refl _ _)
   obtain ⟨⟨⟨q0, q1, q2, q3, q4, q5⟩, ⟨p0, p1, p2, p3, p4, p5⟩, _⟩, _⟩ := KS.out W9 (Below.refl _ _)
   clear hk7 hb7 hta e8 b8 e9 b9 b69 HX6 q0 q1 q2 q3 q4 q5 p0 p1 p2 p3 p4 p5
   go_wp2_with fail
   refine cB.mono ?_
   rintro e w10 ⟨rfl, hb10⟩
   clear cB
   obtain ⟨⟨⟨q0, q1, q2, q3, q4, q5⟩, ⟨p0, p1, p2, p3, p4, p5⟩, _⟩, _⟩ := KS.out w10 hb10
   have cS := HSK.out w10 hb10
   go_wp2_with fail
   refine cS.mono ?_
   rintro e w11 ⟨rfl, hb11⟩
   have hb911 := hb10.trans (hb11.mono hb10.size)
   clear cS q0 q1 q2 q3 q4 q5 p0 p1 p2 p3 p4 p5 hb10 hb11
   by_cases hE : E = 0
   ·subst hE
    obtain ⟨r, c, hRk⟩ : ∃ r c, R = .ok k r c := by
     rcases hE4 with ⟨_, r, c, h⟩ | ⟨h, _⟩
     ·exact ⟨r, c, h⟩
     ·exact absurd rfl h
    have hpk : Sr.parseK l = .ok k r c := HR.out.1.trans hRk
    have HFL : Hid (Fit AllL 900 k ∧ Fit AllM 900 k) := ⟨parse_fit (by omega) HR.out.2 hpk, parse_fitm (by omega) HR.out.2 hpk⟩
    obtain ⟨A, hA⟩ : ∃ A, Sr.holdsK m k = A := ⟨_, rfl⟩
    have HCH : Hid (∀ W, Below W9.heap.size W9 W → Calls Tryz.prog 10 #[.agg #[.int .i64 X0, .string X1, .string X2, .int .i64 X3, .slice Xa Xk Xc, .slice Ya Yk Yc], .agg #[.int .i64 m.uid, .slice fa fn fc, .int .i64 m.day, .string tb], .int .i64 m.which, .agg #[.int .i64 m.many, .int .i64 m.greatest]] W fun e w' => e = .returned (.bool A) ∧ Below W.heap.size W w') := fun W hb => by
     obtain ⟨_, h1, _, h3⟩ := KS.out W hb
     rw [← hA]
     exact holds_is m AllL _ k [.int .i64 X0, .string X1, .string X2, .int .i64 X3, .slice Xa Xk Xc, .slice Ya Yk Yc] tb fa fn fc W HTB.out HFL.out.1 h3 (all_leafs m _ tb fa fn fc W HTB.out (by omega) (trow_sl (K0.out W h1).2.2.2) (by omega) (fun W' hW' => ⟨mx, (K0.out W' (h1.trans (hW'.mono h1.size))).2.1⟩))
    have HCF : Hid (∀ W, Below W9.heap.size W9 W → Calls Tryz.prog 11 #[.agg #[.int .i64 x0, .string x1, .string x2, .int .i64 x3, .slice xa xk xc, .slice ya yk yc], .agg #[.int .i64 m.uid, .slice fa fn fc, .int .i64 m.day, .string tb], .int .i64 m.which, .int .i64 m.many, .int .i64 m.greatest] W fun e w' => e = .returned (.bool A) ∧ Below W.heap.size W w') := fun W hb => by
     obtain ⟨_, h1, h2, _⟩ := KS.out W hb
     rw [← hA]
     have hk := K0.out W h1
     exact rfound_is m _ tb fa fn fc mx W HTB.out (by omega) hk.2.2.2 (by omega) hk.2.1 hk.2.2.1 900 k [.int .i64 x0, .string x1, .string x2, .int .i64 x3, .slice xa xk xc, .slice ya yk yc] W HFL.out.2 HSM.out (Below.refl _ _) h2
    have hbd : Below W9.heap.size W9 w11.drew := hb911.drew
    clear hE4 hRk hpk hA hV HSK HBR hb911
    go_wp2_with fail
    refine wp_region_held_drew (S := fun W => (W.cell? ⟨B2, 0, none⟩ = some (.int .i64 X0) ∧ W.cell? ⟨B2, 1, none⟩ = some (.string X1) ∧ W.cell? ⟨B2, 2, none⟩ = some (.string X2) ∧ W.cell? ⟨B2, 3, none⟩ = some (.int .i64 X3) ∧ W.cell? ⟨B2, 4, none⟩ = some (.slice Xa Xk Xc) ∧ W.cell? ⟨B2, 5, none⟩ = some (.slice Ya Yk Yc)) ∧ (W.cell? ⟨B1, 0, none⟩ = some (.int .i64 x0) ∧ W.cell? ⟨B1, 1, none⟩ = some (.string x1) ∧ W.cell? ⟨B1, 2, none⟩ = some (.string x2) ∧ W.cell? ⟨B1, 3, none⟩ = some (.int .i64 x3) ∧ W.cell? ⟨B1, 4, none⟩ = some (.slice xa xk xc) ∧ W.cell? ⟨B1, 5, none⟩ = some (.slice ya yk yc)) ∧ (W.cell? ⟨w.heap.size, 0, none⟩ = some (.int .i64 m.uid) ∧ W.cell? ⟨w.heap.size, 1, none⟩ = some (.slice fa fn fc) ∧ W.cell? ⟨w.heap.size, 2, none⟩ = some (.int .i64 m.day) ∧ W.cell? ⟨w.heap.size, 3, none⟩ = some (.string tb))) (by kernel_rfl) ?_ (fun hHeld => ?_)
    ·exact (KS.out _ hbd).1
    refine wpAnyH_take (i := 0) (v := ?_) rfl (by kernel_rfl) (by kernel_rfl) (by kernel_rfl) (fun _ _ _ h => h) (Or.inl ⟨by rfl, ?_⟩) (by assumption) ?_
    rotate_left
    ·intro w hSw; go_simp; (try with_reducible rfl)
    change wpAnyH _ _ _ _ _ _ _ (Act.put _ (some 61) _) _; simp only [Act.put, List.setIfInBounds_toArray, List.set_cons_zero, List.set_cons_succ]
    refine wpAnyH_take (i := 1) (v := ?_) rfl (by kernel_rfl) (by kernel_rfl) (by kernel_rfl) (fun _ _ _ h => h) (Or.inl ⟨by rfl, ?_⟩) (by assumption) ?_
    rotate_left
    ·intro w hSw; go_simp; (try with_reducible rfl)
    change wpAnyH _ _ _ _ _ _ _ (Act.put _ (some 62) _) _; simp only [Act.put, List.setIfInBounds_toArray, List.set_cons_zero, List.set_cons_succ]
    refine wpAnyH_take (i := 2) (v := ?_) rfl (by kernel_rfl) (by kernel_rfl) (by kernel_rfl) (fun _ _ _ h => h) (Or.inl ⟨by rfl, ?_⟩) (by assumption) ?_
    rotate_left
    ·intro w hSw; go_simp; (try with_reducible rfl)
    change wpAnyH _ _ _ _ _ _ _ (Act.put _ (some 63) _) _; simp only [Act.put, List.setIfInBounds_toArray, List.set_cons_zero, List.set_cons_succ]
    refine wpAnyH_take (i := 3) (v := ?_) rfl (by kernel_rfl) (by kernel_rfl) (by kernel_rfl) (fun _ _ _ h => h) (Or.inl ⟨by rfl, ?_⟩) (by assumption) ?_
    rotate_left
    ·intro w hSw; go_simp; (try with_reducible rfl)
    change wpAnyH _ _ _ _ _ _ _ (Act.put _ (some 64) _) _; simp only [Act.put, List.setIfInBounds_toArray, List.set_cons_zero, List.set_cons_succ]
    refine wpAnyH_take (i := 4) (v := ?_) rfl (by kernel_rfl) (by kernel_rfl) (by kernel_rfl) (fun _ _ _ h => h) (Or.inl ⟨by rfl, ?_⟩) (by assumption) ?_
    rotate_left
    ·intro w hSw; go_simp; (try with_reducible rfl)
    change wpAnyH _ _ _ _ _ _ _ (Act.put _ (some 65) _) _; simp only [Act.put, List.setIfInBounds_toArray, List.set_cons_zero, List.set_cons_succ]
    refine wpAnyH_take (i := 5) (v := ?_) rfl (by kernel_rfl) (by kernel_rfl) (by kernel_rfl) (fun _ _ _ h => h) (Or.inl ⟨by rfl, ?_⟩) (by assumption) ?_
    rotate_left
    ·intro w hSw; go_simp; (try with_reducible rfl)
    change wpAnyH _ _ _ _ _ _ _ (Act.put _ (some 66) _) _; simp only [Act.put, List.setIfInBounds_toArray, List.set_cons_zero, List.set_cons_succ]
    refine wpAnyH_take (i := 7) (v := ?_) rfl (by kernel_rfl) (by kernel_rfl) (by kernel_rfl) (fun _ _ _ h => h) (Or.inl ⟨by rfl, ?_⟩) (by assumption) ?_
    rotate_left
    ·intro w hSw; go_simp; (try with_reducible rfl)
    change wpAnyH _ _ _ _ _ _ _ (Act.put _ (some 68) _) _; simp only [Act.put, List.setIfInBounds_toArray, List.set_cons_zero, List.set_cons_succ]
    refine wpAnyH_take (i := 8) (v := ?_) rfl (by kernel_rfl) (by kernel_rfl) (by kernel_rfl) (fun _ _ _ h => h) (Or.inl ⟨by rfl, ?_⟩) (by assumption) ?_
    rotate_left
    ·intro w hSw; go_simp; (try with_reducible rfl)
    change wpAnyH _ _ _ _ _ _ _ (Act.put _ (some 69) _) _; simp only [Act.put, List.setIfInBounds_toArray, List.set_cons_zero, List.set_cons_succ]
    refine wpAnyH_take (i := 9) (v := ?_) rfl (by kernel_rfl) (by kernel_rfl) (by kernel_rfl) (fun _ _ _ h => h) (Or.inl ⟨by rfl, ?_⟩) (by assumption) ?_
    rotate_left
    ·intro w hSw; go_simp; (try with_reducible rfl)
    change wpAnyH _ _ _ _ _ _ _ (Act.put _ (some 70) _) _; simp only [Act.put, List.setIfInBounds_toArray, List.set_cons_zero, List.set_cons_succ]
    refine wpAnyH_take (i := 10) (v := ?_) rfl (by kernel_rfl) (by kernel_rfl) (by kernel_rfl) (fun _ _ _ h => h) (Or.inl ⟨by rfl, ?_⟩) (by assumption) ?_
    rotate_left
    ·intro w hSw; go_simp; (try with_reducible rfl)
    change wpAnyH _ _ _ _ _ _ _ (Act.put _ (some 71) _) _; simp only [Act.put, List.setIfInBounds_toArray, List.set_cons_zero, List.set_cons_succ]
    refine wpAnyH_take (i := 11) (v := ?_) rfl (by kernel_rfl) (by kernel_rfl) (by kernel_rfl) (fun _ _ _ h => h) (Or.inl ⟨by rfl, ?_⟩) (by assumption) ?_
    rotate_left
    ·intro w hSw; go_simp; (try with_reducible rfl)
    change wpAnyH _ _ _ _ _ _ _ (Act.put _ (some 72) _) _; simp only [Act.put, List.setIfInBounds_toArray, List.set_cons_zero, List.set_cons_succ]
    refine wpAnyH_ready (rs := [6]) (by kernel_rfl) (by simp) ?_
    refine AllReadyH.cons rfl (fun K hK => ?_) AllReadyH.nil
    go_simp
    refine (HCH.out _ hbd).mono ?_
    rintro e wa ⟨rfl, hqwa⟩
    have hbwa : Below W9.heap.size W9 wa := hbd.trans ((by simpa using hqwa : Below w11.drew.heap.size w11.drew wa).mono hbd.size)
    obtain ⟨kswa, kbwa, _⟩ := KS.out wa hbwa
    refine hK.out _ _ ?_ (fun hHeld => ?_)
    ·exact kswa
    clear hK K
    refine wpAnyH_ready (rs := [12]) (by kernel_rfl) (by simp) ?_
    refine AllReadyH.cons rfl (fun K hK => ?_) AllReadyH.nil
    go_simp
    refine (HCF.out _ hbwa).mono ?_
    rintro e wb ⟨rfl, hqwb⟩
    have hbwb : Below W9.heap.size W9 wb := hbwa.trans ((by simpa using hqwb : Below wa.heap.size wa wb).mono hbwa.size)
    obtain ⟨kswb, kbwb, _⟩ := KS.out wb hbwb
    refine hK.out _ _ ?_ (fun hHeld => ?_)
    ·exact kswb
    clear hK K
    refine wpAnyH_take (i := 13) (v := ?_) rfl (by kernel_rfl) (by kernel_rfl) (by kernel_rfl) (fun _ _ _ h => h) (Or.inl ⟨by rfl, ?_⟩) (by assumption) ?_
    rotate_left
    ·intro w hSw; go_simp; (try with_reducible rfl)
    change wpAnyH _ _ _ _ _ _ _ (Act.put _ (some 74) _) _; simp only [Act.put, List.setIfInBounds_toArray, List.set_cons_zero, List.set_cons_succ]
    refine wpAnyH_take (i := 14) (v := ?_) rfl (by kernel_rfl) (by kernel_rfl) (by kernel_rfl) (fun _ _ _ h => h) (Or.inl ⟨by rfl, ?_⟩) (by assumption) ?_
    rotate_left
    ·intro w hSw; go_simp; (try with_reducible rfl)
    change wpAnyH _ _ _ _ _ _ _ (Act.put _ (some 10) _) _; simp only [Act.put, List.setIfInBounds_toArray, List.set_cons_zero, List.set_cons_succ]
    refine wpAnyH_done (by kernel_rfl) ?_ _
    go_wp2_with fail
    go_ret
    exact ⟨by first | rfl | simp, kbwb⟩
   ·have i1 : (E != 0) = true := by simpa using hE
    have cB := HBR.out w11 hb911
    clear hE4 hV
    go_wp2_with fail
    refine cB.mono ?_
    rintro e w12 ⟨rfl, hb12⟩
    clear cB
    have hb912 := hb911.trans (hb12.mono hb911.size)
    obtain ⟨⟨⟨q0, q1, q2, q3, q4, q5⟩, ⟨p0, p1, p2, p3, p4, p5⟩, _⟩, _⟩ := KS.out w12 hb912
    have cS := HSK.out w12 hb912
    clear hb12
    go_wp2_with fail
    refine cS.mono ?_
    rintro e w13 ⟨rfl, hb13⟩
    have hfin := (KS.out w13 (hb912.trans (hb13.mono hb912.size))).2.1
    clear cS
    go_wp2_with fail
    go_ret
    exact ⟨rfl, hfin⟩
end Go.Proofs.YtogigccbnohjjaaGreatDoor
