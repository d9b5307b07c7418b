/-
  What wire.Print does.
-/
import Derived.Test.YtligkpcoajnjmaaDoorWireWList
import Derived.Test.YtligkpcoajnjmaaDoorWireParse
namespace Go.Proofs.YtligkpcoajnjmaaDoor
open Go.RowKit Go.Proofs.Aid Go.Proofs.Sq Go.Proofs.Hd
open Go.Proofs.Sr (Ar)

theorem pcaught_none (hb : Nat) (w : World) :
    CallsD Tryd.prog 26 #[.pointer (some ⟨hb, 0, none⟩)] .returning w fun e u' w' =>
      e = .returned (.tuple #[]) ∧ u' = .returning ∧ w' = w := by
  refine callsD_of_wpS Tryd.func26 rfl fun c₀ cs hu => ?_
  apply wpS_seq
  apply wpS_region
  simp [wpOpsS, go_sem, recoverD, hu, Tryd.ntmps26, Exit.thenS]
  refine (told_wnil w).mono ?_
  rintro e w1 ⟨rfl, rfl⟩
  simp [go_sem]
  refine wpS_cond (t := false) (by simp [Act.eval, Array.replicate]) ?_
  simp only [Bool.false_eq_true, if_false]
  refine wpS_of_wp (wp_skip ?_)
  cases c₀
  simp_all [bodyPostS, results, Tryd.results26]
theorem two_cells (w : World) (cs ks : Array Value) (t1 t2 : TypeId) : ∃ W2, (w.alloc (.cells cs t1)).alloc (.cells ks t2) = W2 ∧ W2.heap.size = w.heap.size + 2 ∧ W2.heap[w.heap.size]? = some (.cells cs t1 (0, 0)) ∧ W2.heap[w.heap.size + 1]? = some (.cells ks t2 (0, 0)) ∧ Below w.heap.size w W2 := by
  refine ⟨_, rfl, by simp, ?_, ?_, ((Below.refl _ _).alloc (Nat.le_refl _) _).alloc (by simp) _⟩
  · rw [Lib.alloc_old _ _ _ (by simp)]
    exact heap_alloc_new _ _
  · have := heap_alloc_new (w.alloc (.cells cs t1)) (.cells ks t2)
    have hz : (w.alloc (.cells cs t1)).heap.size = w.heap.size + 1 := by simp
    rw [hz] at this
    exact this
/-- How a command is written. -/
def prC (tag name : Hd.Tx) (l : List Ar) : Hd.Tx := tag ++ 32 :: name ++ prL false l ++ [13, 10]
theorem prF_next {l : List Ar} {k : Nat} {x : Ar} (h : l[k]? = some x) : prL false (l.take (k + 1)) = prL false (l.take k) ++ (32 :: prA x) := by
  rw [List.take_add_one, h]
  show prL false (l.take k ++ [x]) = _
  rw [prL_snoc]
  simp
theorem wr_new (w : World) : IsWr w.heap.size w.heap.size [] (w.alloc (.cells #[.pointer none, .slice none 0 0] 81)) :=
  Or.inl ⟨Nat.le_refl _, .slice none 0 0, heap_alloc_new w _, ⟨rfl, Or.inl ⟨rfl, rfl⟩⟩, by simp [Value.ownBlock]⟩
set_option maxHeartbeats 4000000 in
set_option maxRecDepth 100000 in
theorem wprint_is (tb nb : ByteArray) (l : List Ar) (va : Option Addr) (vc N : Nat) (w : World) (hN : l.length = N) (hl : Agw w (fun k => k < w.heap.size) l (.slice va N vc)) (hp : Pr 900 l) (htb : tb.size ≤ 100000) (hnb : nb.size ≤ 100000) (hlen : (prL false l).length ≤ 10000000)
    (hg : ∀ W, Below w.heap.size w W → NumAt W ∧ ∃ m, W.cell? ⟨0, 0, none⟩ = some (.int .i64 m)) :
    Calls Tryd.prog 8 #[.agg #[.string tb, .string nb, .slice va N vc]] w fun e w' => e = .returned (.string ⟨(prC tb.data.toList nb.data.toList l).toArray⟩) ∧ Below w.heap.size w w' := by
  have hmf : ∀ (fn : Fn) (first cap : Array Value) (w : World), (Instr.makeFunc fn first cap).run Tryd.prog w = .ok (.func fn first cap) w := fun _ _ _ _ => rfl
  have hll : N ≤ 100000 := by rw [← hN]; exact hp.1
  obtain ⟨W2, hW2, hz2, e1, e2, hb2⟩ := two_cells w #[.string tb, .string nb, .slice va N vc] #[.string ⟨#[]⟩] 25 9
  have hwr := wr_new W2
  obtain ⟨W3, hW3⟩ : ∃ W, W2.alloc (.cells #[.pointer none, .slice none 0 0] 81) = W := ⟨_, rfl⟩
  have hb23 : Below W2.heap.size W2 W3 := by rw [← hW3]; exact (Below.refl _ _).alloc (Nat.le_refl _) _
  rw [hW3] at hwr
  obtain ⟨B, hB⟩ : ∃ B, W2.heap.size = B := ⟨_, rfl⟩
  rw [hB] at hwr hb23
  have hBz : B = w.heap.size + 2 := by omega
  have HBz : Hid (B = w.heap.size + 2) := hBz
  have HW3 : Hid (((w.alloc (.cells #[.string tb, .string nb, .slice va N vc] 25)).alloc (.cells #[.string ⟨#[]⟩] 9)).alloc (.cells #[.pointer none, .slice none 0 0] 81) = W3) := by show _ = _; rw [hW2, hW3]
  have hb3 : Below w.heap.size w W3 := hb2.trans (hb23.mono (by omega))
  have HC : Hid (∀ W, Below B W3 W → W.heap[w.heap.size]? = some (.cells #[.string tb, .string nb, .slice va N vc] 25 (0, 0)) ∧ W.heap[w.heap.size + 1]? = some (.cells #[.string ⟨#[]⟩] 9 (0, 0)) ∧ Below w.heap.size w W ∧ Agw W (fun k => k < B) l (.slice va N vc)) := fun W hW => by
    have h1 := (hb23.block w.heap.size (by omega)).trans e1
    have h2 := (hb23.block (w.heap.size + 1) (by omega)).trans e2
    have h0 := hb3.trans (hW.mono (by omega))
    exact ⟨(hW.block _ (by omega)).trans h1, (hW.block _ (by omega)).trans h2, h0, hl.kept fun k hk _ => ⟨by omega, h0.block k hk⟩⟩
  have HG : Hid (∀ W, Below w.heap.size w W → NumAt W ∧ ∃ m, W.cell? ⟨0, 0, none⟩ = some (.int .i64 m)) := hg
  have HZ : Hid (B ≤ W3.heap.size) := by show B ≤ W3.heap.size; have := hb23.size; omega
  obtain ⟨hd, hhd⟩ : ∃ t : ByteArray, tb ++ ⟨#[32]⟩ ++ nb = t := ⟨_, rfl⟩
  have hhz : hd.size = tb.size + 1 + nb.size := by rw [← hhd, cat_sz, cat_sz]; rfl
  have HH : Hid (hd.data.toList = tb.data.toList ++ 32 :: nb.data.toList) := by show _ = _; rw [← hhd, cat_text, cat_text]; simp
  have hs1 : (9223372036854775807 < tb.size + 1) = False := eq_false (by omega)
  have hs2 : (9223372036854775807 < tb.size + 1 + nb.size) = False := eq_false (by omega)
  have k0 : W3.cell? ⟨w.heap.size, 0, none⟩ = some (.string tb) := rd_cell (HC.out W3 (Below.refl _ _)).1 rfl
  have k1 : W3.cell? ⟨w.heap.size, 1, none⟩ = some (.string nb) := rd_cell (HC.out W3 (Below.refl _ _)).1 rfl
  have cW := wr_text B B [] hd W3 hwr (by simp; omega) HZ.out
  have hhu : hd.size ≤ 200001 := by omega
  obtain ⟨RB, hRB⟩ : ∃ r : ByteArray, ⟨(prC tb.data.toList nb.data.toList l).toArray⟩ = r := ⟨_, rfl⟩
  have HRB : Hid (⟨(prC tb.data.toList nb.data.toList l).toArray⟩ = RB) := hRB
  rw [hRB]
  rw [List.nil_append] at cW
  have HP : Hid (Pr 900 l ∧ l.length = N) := ⟨hp, hN⟩
  have HLN : Hid (∀ k, (prL false (l.take k)).length ≤ 10000000) := fun k => Nat.le_trans (prL_take_le l false k) hlen
  clear hl hp hlen hg e1 e2 hb2 hwr hb23 hb3 hN hW2 hW3 hBz hz2 hB hhz hRB
  go_enter_defers Tryd.func8, Tryd.ntmps8
  go_wp2_with fail
  have hBe : w.heap.size + 1 + 1 = B := by have := HBz.out; omega
  rw [HW3.out, hBe]
  clear hBe
  refine cW.mono ?_
  rintro e w4 ⟨rfl, h4, hb4, _⟩
  clear cW k0 k1 HW3
  have c2 : w4.cell? ⟨w.heap.size, 2, none⟩ = some (.slice va N vc) := rd_cell (HC.out w4 hb4).1 rfl
  go_wp2_with fail
  go_loopw [18] (fun i wr => ∃ k : Nat, i = .int .i64 (k : Int) ∧ k ≤ N ∧ Hid (IsWr B B (hd.data.toList ++ prL false (l.take k)) wr ∧ Below B W3 wr)) (fun i _ => N - (intOf i).toNat)
  case atStart => exact ⟨0, rfl, by omega, by rw [List.take_zero, prL, List.append_nil]; exact h4, hb4⟩
  case round =>
    obtain ⟨k, rfl, hk, HI⟩ := hrel
    have hsz : W3.heap.size ≤ wr.heap.size := HI.out.2.size
    have hBr : B ≤ wr.heap.size := Nat.le_trans HZ.out hsz
    have hhl : hd.data.toList.length = hd.size := tx_size hd
    by_cases hlt : k < N
    · have hkl : k < l.length := by rw [HP.out.2]; exact hlt
      obtain ⟨x, hx⟩ : ∃ x, l[k] = x := ⟨_, rfl⟩
      have hxk : l[k]? = some x := by rw [List.getElem?_eq_getElem hkl, hx]
      obtain ⟨bb, o, xb, xa, xn, xc, rfl, hxb, hag, q0, q1, q2⟩ := agw_at (HC.out wr HI.out.2).2.2.2 hxk
      have hnext := prF_next hxk
      have hmem : x ∈ l := List.mem_of_getElem? hxk
      have hT1 := HLN.out (k + 1)
      rw [hnext, List.length_append, List.length_cons] at hT1
      have eA := heap_alloc_new wr (.cells #[.int .i64 x.kind, .string xb, .slice xa xn xc] 68)
      have hbA : Below wr.heap.size wr (wr.alloc (.cells #[.int .i64 x.kind, .string xb, .slice xa xn xc] 68)) := (Below.refl _ _).alloc (Nat.le_refl _) _
      obtain ⟨V2, hV2⟩ : ∃ W, wr.alloc (.cells #[.int .i64 x.kind, .string xb, .slice xa xn xc] 68) = W := ⟨_, rfl⟩
      rw [hV2] at eA hbA
      have hb2 : Below B W3 V2 := HI.out.2.trans (hbA.mono hBr)
      have h2 : IsWr B B (hd.data.toList ++ prL false (l.take k)) V2 := isWr_below HI.out.1 hbA
      have hzb : B ≠ wr.heap.size := by
        intro e
        have hlt : B < wr.heap.size := by
          rcases HI.out.1 with h | h
          · exact h.lt
          · exact h.lt
        omega
      have cS := wr_text B B (hd.data.toList ++ prL false (l.take k)) ⟨#[32]⟩ V2 h2 (by rw [List.length_append, hhl]; show _ + 1 ≤ _; omega) (by have := hbA.size; omega)
      have cQ : ∀ V3, IsWr B B ((hd.data.toList ++ prL false (l.take k)) ++ [32]) V3 → Below B V2 V3 → Lib.OthersKept 5 (some B) V2 V3 → (V3.cell? ⟨wr.heap.size, 0, none⟩ = some (.int .i64 x.kind) ∧ V3.cell? ⟨wr.heap.size, 1, none⟩ = some (.string xb) ∧ V3.cell? ⟨wr.heap.size, 2, none⟩ = some (.slice xa xn xc)) ∧
          Calls Tryd.prog 28 #[.pointer (some ⟨B, 0, none⟩), .agg #[.int .i64 x.kind, .string xb, .slice xa xn xc], .int .i64 0] V3 fun e w' => e = .returned (.tuple #[]) ∧ Hid (IsWr B B (hd.data.toList ++ prL false (l.take (k + 1))) w' ∧ Below B W3 w') := fun V3 h3 hb3 ho3 => by
        have e3 := ho3 wr.heap.size _ eA (fun e => hzb (Option.some.inj e).symm) (fun c fz e => by injection e with _ e _; exact absurd e (by decide))
        refine ⟨⟨rd_cell e3 rfl, rd_cell e3 rfl, rd_cell e3 rfl⟩, ?_⟩
        have hb03 := hb2.trans (hb3.mono (Nat.le_refl _))
        have hBV : B ≤ V3.heap.size := Nat.le_trans HZ.out hb03.size
        have hgW : ∀ W, Below B V3 W → NumAt W ∧ ∃ m, W.cell? ⟨0, 0, none⟩ = some (.int .i64 m) := fun W hW => HG.out W (HC.out W (hb03.trans (hW.mono (Nat.le_refl _)))).2.2.1
        have hagV : Agw V3 (fun k => k < B) x.list (.slice xa xn xc) := (hag.kept fun q hq hlt => ⟨hq, hbA.block q hlt⟩).kept fun q hq _ => ⟨hq, hb3.block q hq⟩
        have hpx := HP.out.1.2 x hmem
        have := warg_is 899 B B 0 _ x xb xa xn xc V3 hpx.1 hpx.2 (by omega) h3 hBV hxb hagV (by rw [List.length_append, List.length_append, hhl, List.length_singleton]; omega) hgW fun hP va vc W' hW' hb' hag' hl' =>
          wlist_is 899 B B 1 _ x.list va vc W' hP (by omega) hW' (Nat.le_trans hBV hb'.size) hag' hl' fun W2 h2 => hgW W2 (hb'.trans (h2.mono (Nat.le_refl _)))
        refine this.mono ?_
        rintro e w4 ⟨rfl, h4, hb4, ho4⟩
        refine ⟨rfl, ?_, hb03.trans (hb4.mono (Nat.le_refl _))⟩
        rw [hnext]
        simpa using h4
      clear hnext hx hxk hag hxb hmem hT1 eA hbA hb2 h2 hzb HI hkl
      go_wp2_with fail
      refine cS.mono ?_
      rintro e w5 ⟨rfl, h5, hb5, ho5⟩
      clear cS
      obtain ⟨⟨a0, a1, a2⟩, cR⟩ := cQ w5 h5 hb5 ho5
      clear cQ h5 hb5 ho5
      go_wp2_with fail
      refine cR.mono ?_
      rintro e w6 ⟨rfl, H6⟩
      clear cR
      go_wp2_with fail
      go_roundw
      case rel => exact ⟨k + 1, by go_num, by omega, H6⟩
      case measure => simp [intOf]; omega
    · obtain rfl : k = N := by omega
      have hT1 := HLN.out k
      have cE := wr_text B B (hd.data.toList ++ prL false (l.take k)) ⟨#[13, 10]⟩ wr HI.out.1 (by rw [List.length_append, hhl]; show _ + 2 ≤ _; omega) hBr
      obtain ⟨R, hR⟩ : ∃ R : Hd.Tx, (hd.data.toList ++ prL false (l.take k)) ++ [13, 10] = R := ⟨_, rfl⟩
      have hR0 : R ≠ [] := by rw [← hR]; simp
      have hRp : R = prC tb.data.toList nb.data.toList l := by
        rw [← hR, HH.out, List.take_of_length_le (by rw [HP.out.2]; exact Nat.le_refl _), prC]
      have hRA : (hd.data.toList ++ prL false (l.take k)) ++ (⟨#[13, 10]⟩ : ByteArray).data.toList = R := hR
      rw [hRA] at cE
      have HRR : Hid ((⟨R.toArray⟩ : ByteArray) = RB) := by show _ = _; rw [hRp]; exact HRB.out
      have HB5 : Hid (Below B W3 wr) := HI.out.2
      clear HI hT1 hR hRA hRp
      go_wp2_with fail
      refine cE.mono ?_
      rintro e w5 ⟨rfl, h5, hb5, _⟩
      clear cE
      have cT := wr_string B B R w5 h5 hR0
      rw [HRR.out] at cT
      have hb35 := HB5.out.trans (hb5.mono (Nat.le_refl _))
      clear h5
      go_wp2_with fail
      refine cT.mono ?_
      rintro e w6 ⟨rfl, hb6⟩
      clear cT
      have hb36 := hb35.trans (hb6.mono (Nat.le_refl _))
      have e6 := (HC.out w6 hb36).2.1
      have b6 := (HC.out w6 hb36).2.2.1
      have y0 : w6.cell? ⟨w.heap.size + 1, 0, none⟩ = some (.string ⟨#[]⟩) := rd_cell e6 rfl
      have y1 : w6.frozen? ⟨w.heap.size + 1, 0, none⟩ = false := rd_free e6 0
      have HF : Hid (∀ tmps, tmps[2]? = some (.pointer (some ⟨w.heap.size + 1, 0, none⟩)) →
          Leaves Tryd.prog Tryd.f8 tmps (fun e w' => e = .returned (.string RB) ∧ Below w.heap.size w w') [{ target := .fn (.func 26) #[.pointer (some ⟨w.heap.size + 1, 0, none⟩)], args := #[] }] .returning (w6.setCell ⟨w.heap.size + 1, 0, none⟩ (.string RB))) := by
        intro tmps ht
        have e7 := rd_set (i := 0) (.string RB) e6
        refine leaves_cons (f := 26) (args := #[.pointer (some ⟨w.heap.size + 1, 0, none⟩)]) (by simp) (by simp [go_sem]) ?_
        refine (pcaught_none (w.heap.size + 1) _).mono ?_
        rintro e u' w8 ⟨rfl, rfl, rfl⟩
        have r0 := rd_cell (j := 0) e7 rfl
        refine ⟨.string RB, by simp [results, Tryd.results8, go_sem, ht, r0], rfl, ?_⟩
        exact b6.setCell (p := ⟨w.heap.size + 1, 0, none⟩) (by show w.heap.size ≤ w.heap.size + 1; omega) _
      clear e6 b6 hb6 hb36 hb35 hb5
      go_wp2_with fail
      exact HF.out _ rfl
end Go.Proofs.YtligkpcoajnjmaaDoor
