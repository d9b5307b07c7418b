/-
  archive.Apply, whole.
-/
import Derived.Test.YtdmplfflmdanlaaGreatDoorBpAwDiffs
namespace Go.Proofs.YtdmplfflmdanlaaGreatDoor
open Go.RowKit Go.Proofs.Aid Go.Proofs.Bx

set_option maxHeartbeats 8000000 in
set_option maxRecDepth 100000 in
theorem apply_is (ma mb mc : Value) (sx : ByteArray) (A S : Svd) (w : World) (hs : sx.data.toList = 68 :: changeB (lettersB A.boxes) S) (hA : SvAt w ma mb mc A) (hOA : ArOk A) (hN : NiceS S) (hO : ArOk S) (hrS : ∀ x ∈ S.boxes, Rise x.ls) (hrA : ∀ x ∈ A.boxes, Rise x.ls) (hAs : ∀ y ∈ A.boxes, y.ls.length ≤ 400 ∧ ∀ z ∈ y.ls, LtSm z) (hlen : (changeB (lettersB A.boxes) S).length ≤ 40000000) (hE : NEnv w) (hg : SysAt w) (htab : TabW w.heap.size w) (hR : RdE w) :
    Calls Tryz.prog 17 #[.agg #[ma, mb, mc, .int .i64 A.next], .string sx] w fun e w' => (∃ nv bv wv, e = .returned (.tuple #[.agg #[nv, bv, wv, .int .i64 S.next], .nilIface]) ∧ SvF w.heap.size w' nv bv wv S) ∧ Below w.heap.size w w' := by
  have hsz : sx.size ≤ 1000000000 := by rw [← asz, hs, List.length_cons]; omega
  obtain ⟨pa, pc, rfl, _⟩ := id hA.1
  obtain ⟨qa, qc, rfl, _⟩ := id hA.2.1
  obtain ⟨ra, rc, rfl, _⟩ := id hA.2.2
  obtain ⟨PL, hPL⟩ : ∃ n, A.names.length = n := ⟨_, rfl⟩
  obtain ⟨RL, hRL⟩ : ∃ n, A.wants.length = n := ⟨_, rfl⟩
  obtain ⟨Q, hQ⟩ : ∃ n, A.boxes.length = n := ⟨_, rfl⟩
  obtain ⟨Y, hY⟩ : ∃ n, A.next = n := ⟨_, rfl⟩
  rw [hPL, hRL, hQ, hY]
  rw [hPL, hRL, hQ] at hA
  have hQ1 : A.boxes.length ≤ 1000 := hOA.sv.blen
  -- what it is applied to, the answer's cells
  have b0 : Below w.heap.size w (w.alloc (.cells #[.slice pa PL pc, .slice qa Q qc, .slice ra RL rc, .int .i64 Y] 26)) := (Below.refl _ _).alloc (Nat.le_refl _) _
  have e0 := heap_alloc_new w (.cells #[.slice pa PL pc, .slice qa Q qc, .slice ra RL rc, .int .i64 Y] 26)
  have z0 : (w.alloc (.cells #[.slice pa PL pc, .slice qa Q qc, .slice ra RL rc, .int .i64 Y] 26)).heap.size = w.heap.size + 1 := World.size_alloc _ _
  obtain ⟨W0, hW0⟩ : ∃ W, w.alloc (.cells #[.slice pa PL pc, .slice qa Q qc, .slice ra RL rc, .int .i64 Y] 26) = W := ⟨_, rfl⟩
  rw [hW0] at b0 e0 z0
  obtain ⟨rs, hrs⟩ : ∃ n, W0.heap.size = n := ⟨_, rfl⟩
  have b1 : Below W0.heap.size W0 (W0.alloc (.cells #[.slice none 0 0, .slice none 0 0, .slice none 0 0, .int .i64 0] 26)) := (Below.refl _ _).alloc (Nat.le_refl _) _
  have e1 := heap_alloc_new W0 (.cells #[.slice none 0 0, .slice none 0 0, .slice none 0 0, .int .i64 0] 26)
  have z1 : (W0.alloc (.cells #[.slice none 0 0, .slice none 0 0, .slice none 0 0, .int .i64 0] 26)).heap.size = W0.heap.size + 1 := World.size_alloc _ _
  obtain ⟨W1, hW1⟩ : ∃ W, W0.alloc (.cells #[.slice none 0 0, .slice none 0 0, .slice none 0 0, .int .i64 0] 26) = W := ⟨_, rfl⟩
  rw [hW1] at b1 e1 z1
  rw [hrs] at e1 z1
  have b01 : Below w.heap.size w W1 := b0.trans (b1.mono (by omega))
  have e01 := (b1.block w.heap.size (by omega)).trans e0
  have hRT := right_true _ _ _ A W1 (hA.below b01 (Nat.le_refl _)) hOA.ok (hE.below b01) (hg.below b01 hg.lt)
  rw [hY] at hRT
  have HX : Hid (SvAt w (.slice pa PL pc) (.slice qa Q qc) (.slice ra RL rc) A ∧ ArOk A ∧ NiceS S ∧ ArOk S ∧ ((∀ x ∈ S.boxes, Rise x.ls) ∧ (∀ x ∈ A.boxes, Rise x.ls) ∧ (∀ y ∈ A.boxes, y.ls.length ≤ 400 ∧ ∀ z ∈ y.ls, LtSm z)) ∧ (changeB (lettersB A.boxes) S).length ≤ 40000000 ∧ (NEnv w ∧ SysAt w ∧ TabW w.heap.size w ∧ RdE w) ∧ sx.data.toList = 68 :: changeB (lettersB A.boxes) S ∧ A.next = Y ∧ sx.size ≤ 1000000000) := ⟨hA, hOA, hN, hO, ⟨hrS, hrA, hAs⟩, hlen, ⟨hE, hg, htab, hR⟩, hs, hY, hsz⟩
  have HW1 : Hid (Below w.heap.size w W1 ∧ W1.heap[w.heap.size]? = some (.cells #[.slice pa PL pc, .slice qa Q qc, .slice ra RL rc, .int .i64 Y] 26 (0, 0)) ∧ W1.heap[rs]? = some (.cells #[.slice none 0 0, .slice none 0 0, .slice none 0 0, .int .i64 0] 26 (0, 0)) ∧ W1.heap.size = rs + 1 ∧ rs = w.heap.size + 1) := ⟨b01, e01, e1, z1, by omega⟩
  have a0 : W1.cell? ⟨w.heap.size, 0, none⟩ = some (.slice pa PL pc) := rd_cell e01 rfl
  have a1 : W1.cell? ⟨w.heap.size, 1, none⟩ = some (.slice qa Q qc) := rd_cell e01 rfl
  have a2 : W1.cell? ⟨w.heap.size, 2, none⟩ = some (.slice ra RL rc) := rd_cell e01 rfl
  have a3 : W1.cell? ⟨w.heap.size, 3, none⟩ = some (.int .i64 Y) := rd_cell e01 rfl
  clear hs hA hOA hN hO hrS hrA hAs hlen hE hg htab hR hsz b0 e0 z0 b1 e1 z1 b01 e01 hPL hRL hQ hY hQ1
  go_enter Tryz.func17, Tryz.ntmps17
  go_wp2_with fail
  refine hRT.mono ?_
  rintro e V1 ⟨rfl, hV⟩
  have hv0 := (hV.block w.heap.size (Array.getElem?_eq_some_iff.1 HW1.out.2.1).1).trans HW1.out.2.1
  have hv1 := (hV.block rs (Array.getElem?_eq_some_iff.1 HW1.out.2.2.1).1).trans HW1.out.2.2.1
  have hbV : Below w.heap.size w V1 := HW1.out.1.trans (hV.mono HW1.out.1.size)
  have hzV := hV.size
  have hrz := HW1.out.2.2.2
  clear a0 a1 a2 a3 hRT
  -- the reader, where the closure finds it
  obtain ⟨rb, hrb⟩ : ∃ n, V1.heap.size = n := ⟨_, rfl⟩
  have b2 : Below V1.heap.size V1 (V1.alloc (.cells #[.string ⟨#[]⟩] 108)) := (Below.refl _ _).alloc (Nat.le_refl _) _
  have e2 := heap_alloc_new V1 (.cells #[.string ⟨#[]⟩] 108)
  have z2 : (V1.alloc (.cells #[.string ⟨#[]⟩] 108)).heap.size = V1.heap.size + 1 := World.size_alloc _ _
  obtain ⟨W2, hW2⟩ : ∃ W, V1.alloc (.cells #[.string ⟨#[]⟩] 108) = W := ⟨_, rfl⟩
  rw [hW2] at b2 e2 z2
  obtain ⟨cb, hcb⟩ : ∃ n, W2.heap.size = n := ⟨_, rfl⟩
  have b3 : Below W2.heap.size W2 (W2.alloc (.cells #[.pointer (some ⟨rb, 0, none⟩)] 106)) := (Below.refl _ _).alloc (Nat.le_refl _) _
  have e3 := heap_alloc_new W2 (.cells #[.pointer (some ⟨rb, 0, none⟩)] 106)
  obtain ⟨W3, hW3⟩ : ∃ W, W2.alloc (.cells #[.pointer (some ⟨rb, 0, none⟩)] 106) = W := ⟨_, rfl⟩
  rw [hW3] at b3 e3
  rw [hcb] at e3
  rw [hrb] at e2
  have z3 : cb < W3.heap.size := (Array.getElem?_eq_some_iff.1 e3).1
  have b13 : Below w.heap.size w W3 := hbV.trans ((b2.mono (by omega)).trans (b3.mono (by omega)))
  have r3 : Rdr rb [] W3 := ⟨⟨#[]⟩, rfl, (b3.block rb (by omega)).trans e2⟩
  have p3 := (b3.block w.heap.size (by omega)).trans ((b2.block _ (by omega)).trans hv0)
  have q3 := (b3.block rs (by omega)).trans ((b2.block _ (by omega)).trans hv1)
  have HC : Reads 65 [.pointer (some ⟨cb, 0, none⟩), .pointer (some ⟨w.heap.size, 0, none⟩)] (OneD A.boxes) rb W3 := fun v s W _ hb hr he hl =>
    apply1_is rb cb w.heap.size A.boxes pa qa ra PL pc Q qc RL rc Y v s W ((hb.block cb z3 (by omega)).trans e3) ((hb.block w.heap.size (by omega) (by omega)).trans p3) (fun W' hW' => HX.out.1.2.1.below (b13.trans (((hb.trans (hW'.less hb.size))).below (by omega) (by omega))) (Nat.le_refl _)) HX.out.2.1.sv.blen HX.out.2.2.2.2.1.2.2 hr he hl
  have cH := rhouse_is 65 [.pointer (some ⟨cb, 0, none⟩), .pointer (some ⟨w.heap.size, 0, none⟩)] (OneD A.boxes) rb ⟨#[68]⟩ sx [] W3 r3 (HX.out.2.2.2.2.2.2.1.2.2.2.below b13) HX.out.2.2.2.2.2.2.2.2.2 (oneD_len _) (enters_of Tryz.func65 (by kernel_rfl) rfl) HC
  have htr : Lib.trimPrefix sx.data.toList (⟨#[68]⟩ : ByteArray).data.toList = changeB (lettersB A.boxes) S := by rw [HX.out.2.2.2.2.2.2.2.1]; exact trim_F 68 _
  rw [htr] at cH
  have HBK : Hid (∀ S' s', HouseR (OneD A.boxes) (changeB (lettersB A.boxes) S) S' s' → S' = S) := fun S' s' h => houseR_back HX.out.2.2.1 HX.out.2.2.2.2.1.1 HX.out.2.2.2.2.1.2.1 h
  have c3 : W3.cell? ⟨cb, 0, none⟩ = some (.pointer (some ⟨rb, 0, none⟩)) := rd_cell e3 rfl
  have HW : Hid (Below w.heap.size w W3 ∧ W3.heap[rs]? = some (.cells #[.slice none 0 0, .slice none 0 0, .slice none 0 0, .int .i64 0] 26 (0, 0)) ∧ rs < rb ∧ rb < W3.heap.size ∧ W3.heap[w.heap.size]? = some (.cells #[.slice pa PL pc, .slice qa Q qc, .slice ra RL rc, .int .i64 Y] 26 (0, 0)) ∧ w.heap.size < rs) := ⟨b13, q3, by omega, by have := r3.lt; omega, p3, by omega⟩
  clear b2 e2 z2 b3 e3 z3 b13 r3 q3 p3 HC htr hv0 hv1 hbV hzV hrz hV HW1
  go_wp2_with fail
  refine cH.mono ?_
  rintro e w4 ⟨⟨nv, bv, wv, S', s', hR', rfl, hn, hb, hw⟩, k4⟩
  obtain rfl := HBK.out _ _ hR'
  obtain ⟨na, nc, rfl⟩ := row_form hn
  obtain ⟨ba, bc, rfl⟩ := hb.form
  obtain ⟨wa, wc, rfl⟩ := row_form hw
  have hb4 : Below w.heap.size w w4 := HW.out.1.trans (k4.below HW.out.1.size (by have := HW.out; omega))
  have q4 : w4.heap[rs]? = some (.cells #[.slice none 0 0, .slice none 0 0, .slice none 0 0, .int .i64 0] 26 (0, 0)) := (k4.block _ (Array.getElem?_eq_some_iff.1 HW.out.2.1).1 (by have := HW.out.2.2.1; omega)).trans HW.out.2.1
  have p4 := (k4.block _ (Array.getElem?_eq_some_iff.1 HW.out.2.2.2.2.1).1 (by have := HW.out; omega)).trans HW.out.2.2.2.2.1
  have hn : NRow w4 w.heap.size _ _ := own_lower hn HW.out.1.size
  have hw : NRow w4 w.heap.size _ _ := own_lower hw HW.out.1.size
  have hb := hb.lower HW.out.1.size
  obtain ⟨NN, hNN⟩ : ∃ n, S'.names.length = n := ⟨_, rfl⟩
  obtain ⟨BN, hBN⟩ : ∃ n, S'.boxes.length = n := ⟨_, rfl⟩
  obtain ⟨WN, hWN⟩ : ∃ n, S'.wants.length = n := ⟨_, rfl⟩
  obtain ⟨X, hX⟩ : ∃ n, S'.next = n := ⟨_, rfl⟩
  rw [hNN] at hn
  rw [hBN] at hb
  rw [hWN] at hw
  have b5 : Below w4.heap.size w4 (w4.alloc (.cells #[.slice na NN nc, .slice ba BN bc, .slice wa WN wc, .int .i64 X] 26)) := (Below.refl _ _).alloc (Nat.le_refl _) _
  have e5 := heap_alloc_new w4 (.cells #[.slice na NN nc, .slice ba BN bc, .slice wa WN wc, .int .i64 X] 26)
  obtain ⟨sb, hsb⟩ : ∃ n, w4.heap.size = n := ⟨_, rfl⟩
  obtain ⟨W5, hW5⟩ : ∃ W, w4.alloc (.cells #[.slice na NN nc, .slice ba BN bc, .slice wa WN wc, .int .i64 X] 26) = W := ⟨_, rfl⟩
  rw [hW5] at b5 e5
  have hz4 : rs < w4.heap.size := (Array.getElem?_eq_some_iff.1 q4).1
  have hz0 : w.heap.size < w4.heap.size := by have := HW.out; omega
  have hb5 : Below w.heap.size w W5 := hb4.trans (b5.mono (Nat.le_of_lt hz0))
  rw [hsb] at e5
  have q5 := (b5.block _ hz4).trans q4
  have p5 := (b5.block _ hz0).trans p4
  have hn5 := hn.below b5 (Nat.le_refl _)
  have hw5 := hw.below b5 (Nat.le_refl _)
  have hb5' := hb.below b5
  have hs5 := svf_of hn5 hb5' hw5
  have cF := diff_is (.slice pa PL pc) (.slice qa Q qc) (.slice ra RL rc) (.slice na NN nc) (.slice ba BN bc) (.slice wa WN wc) A S' W5 (HX.out.1.below hb5 (Nat.le_refl _)) hs5.at HX.out.2.1 HX.out.2.2.2.1 HX.out.2.2.2.2.2.1 (HX.out.2.2.2.2.2.2.1.1.below hb5) (HX.out.2.2.2.2.2.2.1.2.1.below hb5 HX.out.2.2.2.2.2.2.1.2.1.lt) (fun W hW => HX.out.2.2.2.2.2.2.1.2.2.1 W (hb5.trans (hW.mono hb5.size)))
  have HS5 : Hid ((NRow W5 w.heap.size (.slice na NN nc) S'.names ∧ BNew W5 w.heap.size (.slice ba BN bc) S'.boxes ∧ NRow W5 w.heap.size (.slice wa WN wc) S'.wants) ∧ Below w.heap.size w W5 ∧ W5.heap[sb]? = some (.cells #[.slice na NN nc, .slice ba BN bc, .slice wa WN wc, .int .i64 X] 26 (0, 0)) ∧ W5.heap[rs]? = some (.cells #[.slice none 0 0, .slice none 0 0, .slice none 0 0, .int .i64 0] 26 (0, 0)) ∧ rs < sb ∧ W5.heap[w.heap.size]? = some (.cells #[.slice pa PL pc, .slice qa Q qc, .slice ra RL rc, .int .i64 Y] 26 (0, 0)) ∧ w.heap.size < rs) := ⟨⟨hn5, hb5', hw5⟩, hb5, e5, q5, by omega, p5, HW.out.2.2.2.2.2⟩
  obtain ⟨⟨a0, a1, a2, a3⟩, _, _⟩ := four_facts p5 (.slice none 0 0) (.slice none 0 0) (.slice none 0 0) (.int .i64 0)
  obtain ⟨⟨s0, s1, s2, s3⟩, _, _⟩ := four_facts e5 (.slice none 0 0) (.slice none 0 0) (.slice none 0 0) (.int .i64 0)
  obtain ⟨R, hRR⟩ : ∃ r : ByteArray, ⟨(68 :: changeB (lettersB A.boxes) S').toArray⟩ = r := ⟨_, rfl⟩
  rw [hRR] at cF
  have hsR : R = sx := by
    have h1 : R.data.toList = sx.data.toList := by rw [HX.out.2.2.2.2.2.2.2.1, ← hRR]
    obtain ⟨⟨x⟩⟩ := R
    obtain ⟨⟨y⟩⟩ := sx
    have : x = y := h1
    rw [this]
  rw [hsR] at cF
  rw [hX, HX.out.2.2.2.2.2.2.2.2.1] at cF
  have HNX : Hid (S'.next = X) := hX
  have d1 : (sx.toList == sx.toList) = true := by simp
  rw [hNN, hBN, hWN, hX]
  clear cH hR' hn hb hw k4 hb4 q4 b5 e5 hb5 q5 hs5 hn5 hw5 hb5' hNN hBN hWN hX hRR hsR HX hW0 hW1 hW2 hW3 hrb hcb hrs c3 HBK p4 p5 hz0 hz4
  go_wp2_with fail
  refine cF.mono ?_
  rintro e w6 ⟨rfl, hb6⟩
  have hc6 := (hb6.block sb (Array.getElem?_eq_some_iff.1 HS5.out.2.2.1).1).trans HS5.out.2.2.1
  have hq6 := (hb6.block _ (Array.getElem?_eq_some_iff.1 HS5.out.2.2.2.1).1).trans HS5.out.2.2.2.1
  have hB6 : Below w.heap.size w w6 := HS5.out.2.1.trans (hb6.mono HS5.out.2.1.size)
  clear s0 s1 s2 s3 a0 a1 a2 a3
  obtain ⟨⟨s0, s1, s2, s3⟩, _, _⟩ := four_facts hc6 (.slice none 0 0) (.slice none 0 0) (.slice none 0 0) (.int .i64 0)
  obtain ⟨⟨q0, q1, q2, q3⟩, ⟨f0, f1, f2, f3⟩, u⟩ := four_facts hq6 (.slice na NN nc) (.slice ba BN bc) (.slice wa WN wc) (.int .i64 X)
  obtain ⟨W9, hW9⟩ : ∃ W, ((((w6.setCell ⟨rs, 0, none⟩ (.slice na NN nc)).setCell ⟨rs, 1, none⟩ (.slice ba BN bc)).setCell ⟨rs, 2, none⟩ (.slice wa WN wc)).setCell ⟨rs, 3, none⟩ (.int .i64 X)) = W := ⟨_, rfl⟩
  have hbut : But w6.heap.size rs w6 W9 := by rw [← hW9]; exact ((((to_but (Below.refl _ _)).setB 0 _).setB 1 _).setB 2 _).setB 3 _
  rw [hW9] at u
  have ho : Oth 26 w6 W9 := fun j o hj _ hn => by
    refine (hbut.block j (Array.getElem?_eq_some_iff.1 hj).1 fun e => ?_).trans hj
    rw [e, hq6] at hj
    exact hn _ _ (Option.some.inj hj).symm
  have u0 : W9.cell? ⟨rs, 0, none⟩ = some (.slice na NN nc) := rd_cell u rfl
  have u1 : W9.cell? ⟨rs, 1, none⟩ = some (.slice ba BN bc) := rd_cell u rfl
  have u2 : W9.cell? ⟨rs, 2, none⟩ = some (.slice wa WN wc) := rd_cell u rfl
  have u3 : W9.cell? ⟨rs, 3, none⟩ = some (.int .i64 X) := rd_cell u rfl
  have HF : Hid (SvF w.heap.size W9 (.slice na NN nc) (.slice ba BN bc) (.slice wa WN wc) S' ∧ Below w.heap.size w W9) := by
    have ho2 : Oth 26 W5 w6 := oth_below hb6
    exact ⟨svf_of (own_oth (own_oth HS5.out.1.1 ho2 (by decide)) ho (by decide)) ((HS5.out.1.2.1.oth ho2 (by decide) (by decide) (by decide)).oth ho (by decide) (by decide) (by decide)) (own_oth (own_oth HS5.out.1.2.2 ho2 (by decide)) ho (by decide)), hB6.trans (hbut.below hB6.size (Nat.le_of_lt HS5.out.2.2.2.2.2.2))⟩
  subst hW9
  clear cF hb6 hc6 hq6 hB6 HS5 u hbut ho HW
  go_wp2_with fail
  exact bodyPost_ret (v := .tuple #[.agg #[.slice na NN nc, .slice ba BN bc, .slice wa WN wc, .int .i64 X], .nilIface]) (by simp [results, Tryz.results17, go_sem, u0, u1, u2, u3]) rfl ⟨⟨_, _, _, by rw [HNX.out], HF.out.1⟩, HF.out.2⟩
end Go.Proofs.YtdmplfflmdanlaaGreatDoor
