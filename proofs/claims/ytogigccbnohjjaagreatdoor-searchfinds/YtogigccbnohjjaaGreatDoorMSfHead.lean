/-
  What the document's Found does at a field of the head.
-/
import Derived.Test.YtogigccbnohjjaaGreatDoorMRefFields
namespace Go.Proofs.YtogigccbnohjjaaGreatDoor
open Go.RowKit Go.Proofs.Aid Go.Proofs.Sq Go.Proofs.Hd
set_option maxHeartbeats 4000000
set_option maxRecDepth 100000
theorem rfound_3 (m : Sr.Lt) (name text : Sr.Tx) (n : Int) (set : List (Nat × Nat)) (keys : List Sr.Ky) (ys : List Value) (Ok : Nat → Prop) (tb : ByteArray) (fa : Option Addr) (fn fc : Nat) (mx : Int) (w : World) (hk : Kx w Ok (.mk 3 name text n set keys) ys) (htb : tb.data.toList = m.text) (ht : tb.size ≤ 90000) (hm : w.cell? ⟨1, 0, none⟩ = some (.int .i64 mx)) (hf : w.cell? ⟨0, 0, none⟩ = some (.int .i64 0) ∧ w.cell? ⟨0, 1, none⟩ = some (.int .i64 (-1))) (hx : text.length ≤ 900000) (hnm : small name = name) :
  Calls Tryz.prog 11 #[.agg ys.toArray, .agg #[.int .i64 m.uid, .slice fa fn fc, .int .i64 m.day, .string tb], .int .i64 m.which, .int .i64 m.many, .int .i64 m.greatest] w fun e w' => e = .returned (.bool (Sr.fieldT m.text name text)) ∧ Below w.heap.size w w' := by
 have hmf : ∀ (fn : Fn) (first cap : Array Value) (w : World), (Instr.makeFunc fn first cap).run Tryz.prog w = .ok (.func fn first cap) w := fun _ _ _ _ => rfl
 cases hk with
 | mk code n nb tx set sv ks a c rows hst hkk ha =>
  obtain ⟨sa, sc, rfl, hsa⟩ := hst
  obtain ⟨SN, hSN⟩ : ∃ n, set.length = n := ⟨_, rfl⟩
  obtain ⟨KN, hKN⟩ : ∃ n, keys.length = n := ⟨_, rfl⟩
  rw [hSN, hKN, show ([.int .i64 3, .string nb, .string tx, .int .i64 n, .slice sa SN sc, .slice a KN c] : List Value).toArray = #[.int .i64 3, .string nb, .string tx, .int .i64 n, .slice sa SN sc, .slice a KN c] from rfl]
  obtain ⟨W2, hW2, hz2, e1, e2, hb2⟩ := two_boxes w #[.int .i64 3, .string nb, .string tx, .int .i64 n, .slice sa SN sc, .slice a KN c] #[.int .i64 m.uid, .slice fa fn fc, .int .i64 m.day, .string tb] 32 24
  have r3 : W2.cell? ⟨w.heap.size + 1, 3, none⟩ = some (.string tb) := rd_cell e2 rfl
  have hm2 := (hb2.cell (World.block_lt_of_cell? _ _ hm)).trans hm
  have cS := rsplit_is tb mx W2 (by omega) hm2
  obtain ⟨HT, hHT⟩ : ∃ x : ByteArray, ⟨(headOf tb.data.toList).toArray⟩ = x := ⟨_, rfl⟩
  obtain ⟨BT, hBT⟩ : ∃ x : ByteArray, ⟨(bodyOf tb.data.toList).toArray⟩ = x := ⟨_, rfl⟩
  have HBT : Hid (BT.data.toList = bodyOf m.text) := by show _ = _; rw [← hBT, htb]
  have HTB : Hid (tb.data.toList = m.text) := htb
  rw [hHT, hBT] at cS
  have HX2 : Hid (∀ W, Below W2.heap.size W2 W → W.heap[w.heap.size]? = some (.cells #[.int .i64 3, .string nb, .string tx, .int .i64 n, .slice sa SN sc, .slice a KN c] 32 (0, 0)) ∧ W.heap[w.heap.size + 1]? = some (.cells #[.int .i64 m.uid, .slice fa fn fc, .int .i64 m.day, .string tb] 24 (0, 0)) ∧ Below w.heap.size w W ∧ W.cell? ⟨1, 0, none⟩ = some (.int .i64 mx)) := fun W hb =>
   ⟨(hb.block _ (by omega)).trans e1, (hb.block _ (by omega)).trans e2, hb2.trans (hb.mono hb2.size), (hb.cell (World.block_lt_of_cell? _ _ hm2)).trans hm2⟩
  obtain ⟨A, hA⟩ : ∃ A, Sr.fieldT m.text nb.data.toList tx.data.toList = A := ⟨_, rfl⟩
  rw [hA]
  obtain ⟨F, hF⟩ : ∃ F, fieldsOf m.text = F := ⟨_, rfl⟩
  have HA : Hid ((decide (F.1.1 = 0) && (onlyF F.2 [nb.data.toList]).any fun f => Sr.hasT f.2 tx.data.toList) = A) := by
   show _ = _
   rw [← hA, Sr.fieldT, hF]
  have HF : Hid (fieldsOf m.text = F) := hF
  have HV : Hid (∀ f ∈ F.2, f.2.length ≤ tb.size + 1 ∧ f.1.length ≤ 900000) := by
   intro f hf
   rw [← hF] at hf
   have h1 := values_short m.text f hf
   rw [← htb, list_size] at h1
   exact ⟨h1, by have := (name_ne ((fieldsOf_good m.text).1 f hf).name).2; omega⟩
  have HFI : Hid (∀ W, Below w.heap.size w W → W.cell? ⟨0, 0, none⟩ = some (.int .i64 0) ∧ W.cell? ⟨0, 1, none⟩ = some (.int .i64 (-1))) := fun W h => ⟨(h.cell (World.block_lt_of_cell? _ _ hf.1)).trans hf.1, (h.cell (World.block_lt_of_cell? _ _ hf.2)).trans hf.2⟩
  have HNM : Hid (small nb.data.toList = nb.data.toList) := hnm
  clear e1 e2 hb2 hm hm2 hBT hHT htb hkk ha hKN hSN hsa hA hF hf hnm
  go_enter Tryz.func11, Tryz.ntmps11
  go_wp2_with fail
  refine cS.mono ?_
  rintro e w3 ⟨rfl, hb3⟩
  obtain ⟨g1, g2, hbw, hm3⟩ := HX2.out w3 hb3
  have k0 := rd_cell (j := 0) g1 rfl
  have k1 := rd_cell (j := 1) g1 rfl
  have k2 := rd_cell (j := 2) g1 rfl
  have k3 := rd_cell (j := 3) g1 rfl
  have k4 := rd_cell (j := 4) g1 rfl
  have k5 := rd_cell (j := 5) g1 rfl
  have l0 := rd_cell (j := 0) g2 rfl
  have l1 := rd_cell (j := 1) g2 rfl
  have l2 := rd_cell (j := 2) g2 rfl
  have l3 := rd_cell (j := 3) g2 rfl
  have hfi := HFI.out w3 hbw
  have cF := rfields_is tb mx w3 (by omega) hm3 hfi.1 hfi.2
  rw [HTB.out, HF.out] at cF
  have HX3 : Hid (∀ W, Below w3.heap.size w3 W → W.heap[w.heap.size]? = some (.cells #[.int .i64 3, .string nb, .string tx, .int .i64 n, .slice sa SN sc, .slice a KN c] 32 (0, 0)) ∧ Below w.heap.size w W ∧ W.cell? ⟨1, 0, none⟩ = some (.int .i64 mx)) := fun W hb => by
   have h := HX2.out W (hb3.trans (hb.mono hb3.size))
   exact ⟨h.1, h.2.2.1, h.2.2.2⟩
  have hs3 : w.heap.size + 2 ≤ w3.heap.size := by have := hb3.size; omega
  clear cS g1 g2 hb3 HX2 hm3 hfi
  go_wp2_with fail
  refine cF.mono ?_
  rintro e w4 ⟨hb4, v, L, rfl, hfg, hL⟩
  clear cF
  obtain ⟨va, vc, rfl, hat⟩ := hfg
  have HL : Hid (L.map Go.Proofs.YtogigccbnohjjaaGreatDoor.tx = F.2) := hL
  obtain ⟨LN, hLN⟩ : ∃ x, L.length = x := ⟨_, rfl⟩
  have hL40 : LN ≤ 40 := by
   rw [← hLN]
   have h1 := congrArg List.length hL
   rw [List.length_map] at h1
   rw [h1, ← HF.out]
   exact (fieldsOf_good _).2
  rw [hLN]
  have HLN : Hid (L.length = LN) := hLN
  have HAT : Hid (L = [] ∨ ∃ b o, va = some ⟨b, o, none⟩ ∧ ∀ (j : Nat) f, L[j]? = some f → w4.cell? ⟨b, o + j * 2, none⟩ = some (.string f.1) ∧ w4.cell? ⟨b, o + j * 2 + 1, none⟩ = some (.string f.2)) := hat
  obtain ⟨E0, hE0⟩ : ∃ e, F.1.1 = e := ⟨_, rfl⟩
  obtain ⟨E1, hE1⟩ : ∃ e, faultAt F = e := ⟨_, rfl⟩
  have HEE : Hid (LN ≠ 0 → E0 = 0 ∧ E1 = -1) := fun h => by
   by_cases h0 : F.1.1 = 0
   ·exact ⟨by rw [← hE0, h0], by rw [← hE1, faultAt, if_pos h0]⟩
   ·exfalso
    have h2 := fieldsFrom_err _ _ _ (show (fieldsOf m.text).1.1 ≠ 0 by rw [HF.out]; exact h0)
    have h3 : F.2 = [] := by rw [← HF.out]; exact h2
    rw [h3] at hL
    have h4 := congrArg List.length hL
    rw [List.length_map, hLN] at h4
    exact h (by simpa using h4)
  have HE0 : Hid (LN = 0 ∨ F.1.1 = 0) := by
   show _ ∨ _
   by_cases h0 : F.1.1 = 0
   ·exact Or.inr h0
   ·left
    have h3 : F.2 = [] := by rw [← HF.out]; exact fieldsFrom_err _ _ _ (show (fieldsOf m.text).1.1 ≠ 0 by rw [HF.out]; exact h0)
    rw [h3] at hL
    have h4 := congrArg List.length hL
    rw [List.length_map, hLN] at h4
    simpa using h4
  rw [hE0, hE1]
  have b5 : Below w4.heap.size w4 (w4.alloc (.cells #[.int .i64 0, .int .i64 0] 50)) := (Below.refl _ _).alloc (Nat.le_refl _) _
  have e5 := heap_alloc_new w4 (.cells #[.int .i64 0, .int .i64 0] 50)
  obtain ⟨W5, hW5⟩ : ∃ W, w4.alloc (.cells #[.int .i64 0, .int .i64 0] 50) = W := ⟨_, rfl⟩
  rw [hW5] at b5 e5
  obtain ⟨XB, hXB⟩ : ∃ X, w4.heap.size = X := ⟨_, rfl⟩
  rw [hXB] at e5
  have x0 : W5.frozen? ⟨XB, 0, none⟩ = false := rd_free e5 0
  have x1 : W5.frozen? ⟨XB, 1, none⟩ = false := rd_free e5 1
  have x2 : W5.cell? ⟨XB, 0, none⟩ = some (.int .i64 0) := rd_cell e5 rfl
  have x3 : W5.cell? ⟨XB, 1, none⟩ = some (.int .i64 0) := rd_cell e5 rfl
  have e6 := rd_set (i := 1) (.int .i64 E1) (rd_set (i := 0) (.int .i64 E0) e5)
  obtain ⟨W6, hW6⟩ : ∃ W, (W5.setCell ⟨XB, 0, none⟩ (.int .i64 E0)).setCell ⟨XB, 1, none⟩ (.int .i64 E1) = W := ⟨_, rfl⟩
  have b6 : Below XB w4 W6 := by rw [← hW6]; exact ((b5.mono (show XB ≤ w4.heap.size by omega)).setCell (p := ⟨XB, 0, none⟩) (Nat.le_refl _) _).setCell (p := ⟨XB, 1, none⟩) (Nat.le_refl _) _
  rw [hW6] at e6
  have HX6 : Hid (∀ W, Below W6.heap.size W6 W → (W.cell? ⟨XB, 0, none⟩ = some (.int .i64 E0) ∧ W.cell? ⟨XB, 1, none⟩ = some (.int .i64 E1)) ∧ (W.cell? ⟨w.heap.size, 1, none⟩ = some (.string nb) ∧ W.cell? ⟨w.heap.size, 2, none⟩ = some (.string tx)) ∧ Below w.heap.size w W ∧ W.cell? ⟨1, 0, none⟩ = some (.int .i64 mx) ∧ (W.cell? ⟨0, 0, none⟩ = some (.int .i64 0) ∧ W.cell? ⟨0, 1, none⟩ = some (.int .i64 (-1))) ∧ Below XB w4 W) := fun W hb => by
   have hX : XB < W6.heap.size := (Array.getElem?_eq_some_iff.1 e6).1
   have hW : W.heap[XB]? = some (.cells #[.int .i64 E0, .int .i64 E1] 50 (0, 0)) := (hb.block XB hX).trans e6
   have h4 : Below XB w4 W := b6.trans (hb.mono (by omega))
   have h := HX3.out W (hb4.trans (h4.mono (by have := hb4.size; omega)))
   exact ⟨⟨rd_cell hW rfl, rd_cell hW rfl⟩, ⟨rd_cell h.1 rfl, rd_cell h.1 rfl⟩, h.2.1, h.2.2, HFI.out W h.2.1, h4⟩
  have z6 : w.heap.size + 2 ≤ XB := by have := hb4.size; omega
  have HZ6 : Hid (XB < W6.heap.size) := (Array.getElem?_eq_some_iff.1 e6).1
  have HXW : Hid (w4.heap.size = XB) := hXB
  clear hb4 hat hL hLN hE0 hE1 b5 e5 b6 e6 HX3 HF HTB HBT k0 k1 k2 k3 k4 k5 l0 l1 l2 l3 hbw
  go_wp2_with fail
  go_loopw [49] (fun i wr => ∃ k : Nat, i = .int .i64 (k : Int) ∧ k ≤ LN ∧ Hid (∀ f ∈ L.take k, ¬ (small f.1.data.toList = nb.data.toList ∧ Sr.hasT f.2.data.toList tx.data.toList = true)) ∧ Below W6.heap.size W6 wr) (fun i _ => LN - (intOf i).toNat)
  case atStart => exact ⟨0, rfl, Nat.zero_le _, fun f hf => by simp at hf, Below.refl _ _⟩
  case round =>
   obtain ⟨k, rfl, hk, HK, hbr⟩ := hrel
   by_cases hlt : k < LN
   ·have hkl : k < L.length := by rw [HLN.out]; exact hlt
    obtain ⟨bb, oo, rfl, hcc⟩ : ∃ b o, va = some ⟨b, o, none⟩ ∧ ∀ (j : Nat) f, L[j]? = some f → w4.cell? ⟨b, o + j * 2, none⟩ = some (.string f.1) ∧ w4.cell? ⟨b, o + j * 2 + 1, none⟩ = some (.string f.2) := by
     rcases HAT.out with h | h
     ·rw [h] at hkl; simp at hkl
     ·exact h
    obtain ⟨rfl, rfl⟩ := HEE.out (by omega)
    have hq := hcc k _ (List.getElem?_eq_getElem hkl)
    obtain ⟨f1, hf1⟩ : ∃ x, L[k].1 = x := ⟨_, rfl⟩
    obtain ⟨f2, hf2⟩ : ∃ x, L[k].2 = x := ⟨_, rfl⟩
    rw [hf1, hf2] at hq
    obtain ⟨_, _, _, _, _, h4r⟩ := HX6.out wr hbr
    have q1 : wr.cell? ⟨bb, oo + k * 2, none⟩ = some (.string f1) := (h4r.cell (p := ⟨bb, _, none⟩) (show bb < XB by have h9 : bb < w4.heap.size := World.block_lt_of_cell? _ _ hq.1; have := HXW.out; omega)).trans hq.1
    have q2 : wr.cell? ⟨bb, oo + k * 2 + 1, none⟩ = some (.string f2) := (h4r.cell (p := ⟨bb, _, none⟩) (show bb < XB by have h9 : bb < w4.heap.size := World.block_lt_of_cell? _ _ hq.1; have := HXW.out; omega)).trans hq.2
    have hmem : (f1.data.toList, f2.data.toList) ∈ F.2 := by
     rw [← HL.out, ← hf1, ← hf2]
     exact List.mem_map.2 ⟨L[k], List.getElem_mem _, rfl⟩
    have hvs := HV.out _ hmem
    have hsz2 : f2.size ≤ 900000 := by have := hvs.1; rw [← list_size]; simp only at this; omega
    have hsz1 : f1.size ≤ 900000 := by have := hvs.2; rw [← list_size]; exact this
    have HFK : Hid (L[k] = (f1, f2)) := Prod.ext hf1 hf2
    have b7 : Below wr.heap.size wr (wr.alloc (.cells #[.string ⟨#[]⟩, .string ⟨#[]⟩] 78)) := (Below.refl _ _).alloc (Nat.le_refl _) _
    have e7 := heap_alloc_new wr (.cells #[.string ⟨#[]⟩, .string ⟨#[]⟩] 78)
    obtain ⟨W7, hW7⟩ : ∃ W, wr.alloc (.cells #[.string ⟨#[]⟩, .string ⟨#[]⟩] 78) = W := ⟨_, rfl⟩
    rw [hW7] at b7 e7
    obtain ⟨FB, hFB⟩ : ∃ X, wr.heap.size = X := ⟨_, rfl⟩
    rw [hFB] at e7
    have t0 : W7.frozen? ⟨FB, 0, none⟩ = false := rd_free e7 0
    have t1 : W7.frozen? ⟨FB, 1, none⟩ = false := rd_free e7 1
    have t2 : W7.cell? ⟨FB, 0, none⟩ = some (.string ⟨#[]⟩) := rd_cell e7 rfl
    have t3 : W7.cell? ⟨FB, 1, none⟩ = some (.string ⟨#[]⟩) := rd_cell e7 rfl
    have e8 := rd_set (i := 1) (.string f2) (rd_set (i := 0) (.string f1) e7)
    obtain ⟨W8, hW8⟩ : ∃ W, (W7.setCell ⟨FB, 0, none⟩ (.string f1)).setCell ⟨FB, 1, none⟩ (.string f2) = W := ⟨_, rfl⟩
    have b8 : Below FB wr W8 := by rw [← hW8]; exact ((b7.mono (show FB ≤ wr.heap.size by omega)).setCell (p := ⟨FB, 0, none⟩) (Nat.le_refl _) _).setCell (p := ⟨FB, 1, none⟩) (Nat.le_refl _) _
    rw [hW8] at e8
    have hFB8 : FB < W8.heap.size := (Array.getElem?_eq_some_iff.1 e8).1
    have KS : Hid (∀ W, Below W8.heap.size W8 W → ((W.cell? ⟨XB, 0, none⟩ = some (.int .i64 0) ∧ W.cell? ⟨XB, 1, none⟩ = some (.int .i64 (-1))) ∧ (W.cell? ⟨0, 0, none⟩ = some (.int .i64 0) ∧ W.cell? ⟨0, 1, none⟩ = some (.int .i64 (-1))) ∧ (W.cell? ⟨FB, 0, none⟩ = some (.string f1) ∧ W.cell? ⟨FB, 1, none⟩ = some (.string f2)) ∧ W.cell? ⟨w.heap.size, 1, none⟩ = some (.string nb)) ∧ W.cell? ⟨w.heap.size, 2, none⟩ = some (.string tx) ∧ W.cell? ⟨1, 0, none⟩ = some (.int .i64 mx) ∧ Below w.heap.size w W ∧ Below W6.heap.size W6 W) := fun W hb => by
     have hb8 : Below FB wr W := b8.trans (hb.mono (by omega))
     have hb6 : Below W6.heap.size W6 W := hbr.trans (hb8.mono (by have := hbr.size; omega))
     obtain ⟨p1, p2, p3, p4, p5, _⟩ := HX6.out W hb6
     have hW : W.heap[FB]? = some (.cells #[.string f1, .string f2] 78 (0, 0)) := (hb.block FB hFB8).trans e8
     exact ⟨⟨p1, p5, ⟨rd_cell hW rfl, rd_cell hW rfl⟩, p2.1⟩, p2.2, p4, p3, hb6⟩
    have hbW0 : Below W8.heap.size W8 W8.drew := (Below.refl _ _).drew
    have cSm := fun W => rsmall_is f1 W (by omega)
    obtain ⟨SN1, hSN1⟩ : ∃ x : ByteArray, ⟨(small f1.data.toList).toArray⟩ = x := ⟨_, rfl⟩
    rw [hSN1] at cSm
    have HSN1 : Hid (SN1.data.toList = small f1.data.toList) := by show _ = _; rw [← hSN1]
    clear hq hcc hf1 hf2 h4r hmem hvs b7 e7 e8 b8 hSN1
    by_cases hsame : SN1 = nb
    ·have he1 : (SN1.toList == nb.toList) = true := by rw [hsame]; simp
     cases hhas : Sr.hasT f2.data.toList tx.data.toList with
     | true =>
      have HAT1 : Hid (A = true) := by
       show A = true
       rw [← HA.out]
       rcases HE0.out with h | h
       ·omega
       ·rw [h, decide_eq_true rfl, Bool.true_and, List.any_eq_true]
        refine ⟨(f1.data.toList, f2.data.toList), List.mem_filter.2 ⟨?_, ?_⟩, hhas⟩
        ·rw [← HL.out]
         exact List.mem_map.2 ⟨L[k], List.getElem_mem _, by rw [HFK.out]; rfl⟩
        ·simp only [List.map_cons, List.map_nil, List.contains_cons, List.contains_nil, Bool.or_false, beq_iff_eq]
         rw [HNM.out, ← hsame, HSN1.out]
      clear hsame
      go_wp2_with fail
      refine wp_region_held_drew (S := fun W => (W.cell? ⟨XB, 0, none⟩ = some (.int .i64 0) ∧ W.cell? ⟨XB, 1, none⟩ = some (.int .i64 (-1))) ∧ (W.cell? ⟨0, 0, none⟩ = some (.int .i64 0) ∧ W.cell? ⟨0, 1, none⟩ = some (.int .i64 (-1))) ∧ (W.cell? ⟨FB, 0, none⟩ = some (.string f1) ∧ W.cell? ⟨FB, 1, none⟩ = some (.string f2)) ∧ W.cell? ⟨w.heap.size, 1, none⟩ = some (.string nb)) (by kernel_rfl) ?_ (fun hHeld => ?_)
      ·exact (KS.out _ hbW0).1
      refine wpAnyH_take (i := 0) (v := ?_) rfl (by kernel_rfl) (by kernel_rfl) (by kernel_rfl) (fun _ _ _ h => h) (Or.inl ⟨by rfl, ?_⟩) (by assumption) ?_
      rotate_left
      ·intro w hSw; go_simp; (try with_reducible rfl)
      change wpAnyH _ _ _ _ _ _ _ (Act.put _ (some 53) _) _; simp only [Act.put, List.setIfInBounds_toArray, List.set_cons_zero, List.set_cons_succ]
      refine wpAnyH_take (i := 1) (v := ?_) rfl (by kernel_rfl) (by kernel_rfl) (by kernel_rfl) (fun _ _ _ h => h) (Or.inl ⟨by rfl, ?_⟩) (by assumption) ?_
      rotate_left
      ·intro w hSw; go_simp; (try with_reducible rfl)
      change wpAnyH _ _ _ _ _ _ _ (Act.put _ (some 54) _) _; simp only [Act.put, List.setIfInBounds_toArray, List.set_cons_zero, List.set_cons_succ]
      refine wpAnyH_take (i := 2) (v := ?_) rfl (by kernel_rfl) (by kernel_rfl) (by kernel_rfl) (fun _ _ _ h => h) (Or.inl ⟨by rfl, ?_⟩) (by assumption) ?_
      rotate_left
      ·intro w hSw; go_simp; (try with_reducible rfl)
      change wpAnyH _ _ _ _ _ _ _ (Act.put _ (some 55) _) _; simp only [Act.put, List.setIfInBounds_toArray, List.set_cons_zero, List.set_cons_succ]
      refine wpAnyH_take (i := 3) (v := ?_) rfl (by kernel_rfl) (by kernel_rfl) (by kernel_rfl) (fun _ _ _ h => h) (Or.inl ⟨by rfl, ?_⟩) (by assumption) ?_
      rotate_left
      ·intro w hSw; go_simp; (try with_reducible rfl)
      change wpAnyH _ _ _ _ _ _ _ (Act.put _ (some 56) _) _; simp only [Act.put, List.setIfInBounds_toArray, List.set_cons_zero, List.set_cons_succ]
      refine wpAnyH_take (i := 4) (v := ?_) rfl (by kernel_rfl) (by kernel_rfl) (by kernel_rfl) (fun _ _ _ h => h) (Or.inl ⟨by rfl, ?_⟩) (by assumption) ?_
      rotate_left
      ·intro w hSw; go_simp; (try with_reducible rfl)
      change wpAnyH _ _ _ _ _ _ _ (Act.put _ (some 57) _) _; simp only [Act.put, List.setIfInBounds_toArray, List.set_cons_zero, List.set_cons_succ]
      refine wpAnyH_take (i := 5) (v := ?_) rfl (by kernel_rfl) (by kernel_rfl) (by kernel_rfl) (fun _ _ _ h => h) (Or.inl ⟨by rfl, ?_⟩) (by assumption) ?_
      rotate_left
      ·intro w hSw; go_simp; (try with_reducible rfl)
      change wpAnyH _ _ _ _ _ _ _ (Act.put _ (some 58) _) _; simp only [Act.put, List.setIfInBounds_toArray, List.set_cons_zero, List.set_cons_succ]
      refine wpAnyH_take (i := 7) (v := ?_) rfl (by kernel_rfl) (by kernel_rfl) (by kernel_rfl) (fun _ _ _ h => h) (Or.inl ⟨by rfl, ?_⟩) (by assumption) ?_
      rotate_left
      ·intro w hSw; go_simp; (try with_reducible rfl)
      change wpAnyH _ _ _ _ _ _ _ (Act.put _ (some 60) _) _; simp only [Act.put, List.setIfInBounds_toArray, List.set_cons_zero, List.set_cons_succ]
      refine wpAnyH_take (i := 8) (v := ?_) rfl (by kernel_rfl) (by kernel_rfl) (by kernel_rfl) (fun _ _ _ h => h) (Or.inl ⟨by rfl, ?_⟩) (by assumption) ?_
      rotate_left
      ·intro w hSw; go_simp; (try with_reducible rfl)
      change wpAnyH _ _ _ _ _ _ _ (Act.put _ (some 61) _) _; simp only [Act.put, List.setIfInBounds_toArray, List.set_cons_zero, List.set_cons_succ]
      refine wpAnyH_ready (rs := [6]) (by kernel_rfl) (by simp) ?_
      refine AllReadyH.cons rfl (fun K hK => ?_) AllReadyH.nil
      go_simp
      refine (cSm _).mono ?_
      rintro e wa ⟨rfl, hqa⟩
      have hbwa : Below W8.heap.size W8 wa := hbW0.trans (by simpa using hqa)
      obtain ⟨ksa, ktx, kmx, kbw, kb6⟩ := KS.out wa hbwa
      refine hK.out _ _ ?_ (fun hHeld => ?_)
      ·exact ksa
      clear hK K
      refine wpAnyH_take (i := 9) (v := ?_) rfl (by kernel_rfl) (by kernel_rfl) (by kernel_rfl) (fun _ _ _ h => h) (Or.inl ⟨by rfl, ?_⟩) (by assumption) ?_
      rotate_left
      ·intro w hSw; go_simp; (try with_reducible rfl)
      change wpAnyH _ _ _ _ _ _ _ (Act.put _ (some 62) _) _; simp only [Act.put, List.setIfInBounds_toArray, List.set_cons_zero, List.set_cons_succ]
      refine wpAnyH_take (i := 10) (v := ?_) rfl (by kernel_rfl) (by kernel_rfl) (by kernel_rfl) (fun _ _ _ h => h) (Or.inl ⟨by rfl, ?_⟩) (by assumption) ?_
      rotate_left
      ·intro w hSw; go_simp; (try with_reducible rfl)
      change wpAnyH _ _ _ _ _ _ _ (Act.put _ (some 63) _) _; simp only [Act.put, List.setIfInBounds_toArray, List.set_cons_zero, List.set_cons_succ]
      refine wpAnyH_take (i := 11) (v := ?_) rfl (by kernel_rfl) (by kernel_rfl) (by kernel_rfl) (fun _ _ _ h => h) (Or.inl ⟨by rfl, ?_⟩) (by assumption) ?_
      rotate_left
      ·intro w hSw; go_simp; (try with_reducible rfl)
      change wpAnyH _ _ _ _ _ _ _ (Act.put _ (some 64) _) _; simp only [Act.put, List.setIfInBounds_toArray, List.set_cons_zero, List.set_cons_succ]
      refine wpAnyH_take (i := 12) (v := ?_) rfl (by kernel_rfl) (by kernel_rfl) (by kernel_rfl) (fun _ _ _ h => h) (Or.inl ⟨by rfl, ?_⟩) (by assumption) ?_
      rotate_left
      ·intro w hSw; go_simp; (try with_reducible rfl)
      change wpAnyH _ _ _ _ _ _ _ (Act.put _ (some 65) _) _; simp only [Act.put, List.setIfInBounds_toArray, List.set_cons_zero, List.set_cons_succ]
      refine wpAnyH_take (i := 13) (v := ?_) rfl (by kernel_rfl) (by kernel_rfl) (by kernel_rfl) (fun _ _ _ h => h) (Or.inl ⟨by rfl, ?_⟩) (by assumption) ?_
      rotate_left
      ·intro w hSw; go_simp; (try with_reducible rfl)
      change wpAnyH _ _ _ _ _ _ _ (Act.put _ (some 66) _) _; simp only [Act.put, List.setIfInBounds_toArray, List.set_cons_zero, List.set_cons_succ]
      refine wpAnyH_take (i := 14) (v := ?_) rfl (by kernel_rfl) (by kernel_rfl) (by kernel_rfl) (fun _ _ _ h => h) (Or.inl ⟨by rfl, ?_⟩) (by assumption) ?_
      rotate_left
      ·intro w hSw; go_simp; (try with_reducible rfl)
      change wpAnyH _ _ _ _ _ _ _ (Act.put _ (some 67) _) _; simp only [Act.put, List.setIfInBounds_toArray, List.set_cons_zero, List.set_cons_succ]
      refine wpAnyH_ready (rs := [15]) (by kernel_rfl) (by simp) ?_
      refine AllReadyH.cons rfl (fun K hK => ?_) AllReadyH.nil
      go_simp
      have cH := rfhas w.heap.size f2 tx mx wa hsz2 (by rw [← list_size]; exact hx) ktx kmx
      rw [hhas] at cH
      refine cH.mono ?_
      rintro e wb ⟨rfl, hqb⟩
      have hbwb : Below W8.heap.size W8 wb := hbwa.trans (hqb.mono hbwa.size)
      obtain ⟨ksb, _, _, kbwb, kb6b⟩ := KS.out wb hbwb
      refine hK.out _ _ ?_ (fun hHeld => ?_)
      ·exact ksb
      clear hK K
      refine wpAnyH_take (i := 16) (v := ?_) rfl (by kernel_rfl) (by kernel_rfl) (by kernel_rfl) (fun _ _ _ h => h) (Or.inl ⟨by rfl, ?_⟩) (by assumption) ?_
      rotate_left
      ·intro w hSw; go_simp; (try with_reducible rfl)
      change wpAnyH _ _ _ _ _ _ _ (Act.put _ (some 69) _) _; simp only [Act.put, List.setIfInBounds_toArray, List.set_cons_zero, List.set_cons_succ]
      refine wpAnyH_done (by kernel_rfl) ?_ _
      go_wp2_with fail
      go_ret
      exact ⟨by rw [HAT1.out]; rfl, kbwb⟩
     | false =>
      have HNX : Hid (¬ (small f1.data.toList = nb.data.toList ∧ Sr.hasT f2.data.toList tx.data.toList = true)) := fun h => by rw [hhas] at h; cases h.2
      clear hsame
      go_wp2_with fail
      refine wp_region_held_drew (S := fun W => (W.cell? ⟨XB, 0, none⟩ = some (.int .i64 0) ∧ W.cell? ⟨XB, 1, none⟩ = some (.int .i64 (-1))) ∧ (W.cell? ⟨0, 0, none⟩ = some (.int .i64 0) ∧ W.cell? ⟨0, 1, none⟩ = some (.int .i64 (-1))) ∧ (W.cell? ⟨FB, 0, none⟩ = some (.string f1) ∧ W.cell? ⟨FB, 1, none⟩ = some (.string f2)) ∧ W.cell? ⟨w.heap.size, 1, none⟩ = some (.string nb)) (by kernel_rfl) ?_ (fun hHeld => ?_)
      ·exact (KS.out _ hbW0).1
      refine wpAnyH_take (i := 0) (v := ?_) rfl (by kernel_rfl) (by kernel_rfl) (by kernel_rfl) (fun _ _ _ h => h) (Or.inl ⟨by rfl, ?_⟩) (by assumption) ?_
      rotate_left
      ·intro w hSw; go_simp; (try with_reducible rfl)
      change wpAnyH _ _ _ _ _ _ _ (Act.put _ (some 53) _) _; simp only [Act.put, List.setIfInBounds_toArray, List.set_cons_zero, List.set_cons_succ]
      refine wpAnyH_take (i := 1) (v := ?_) rfl (by kernel_rfl) (by kernel_rfl) (by kernel_rfl) (fun _ _ _ h => h) (Or.inl ⟨by rfl, ?_⟩) (by assumption) ?_
      rotate_left
      ·intro w hSw; go_simp; (try with_reducible rfl)
      change wpAnyH _ _ _ _ _ _ _ (Act.put _ (some 54) _) _; simp only [Act.put, List.setIfInBounds_toArray, List.set_cons_zero, List.set_cons_succ]
      refine wpAnyH_take (i := 2) (v := ?_) rfl (by kernel_rfl) (by kernel_rfl) (by kernel_rfl) (fun _ _ _ h => h) (Or.inl ⟨by rfl, ?_⟩) (by assumption) ?_
      rotate_left
      ·intro w hSw; go_simp; (try with_reducible rfl)
      change wpAnyH _ _ _ _ _ _ _ (Act.put _ (some 55) _) _; simp only [Act.put, List.setIfInBounds_toArray, List.set_cons_zero, List.set_cons_succ]
      refine wpAnyH_take (i := 3) (v := ?_) rfl (by kernel_rfl) (by kernel_rfl) (by kernel_rfl) (fun _ _ _ h => h) (Or.inl ⟨by rfl, ?_⟩) (by assumption) ?_
      rotate_left
      ·intro w hSw; go_simp; (try with_reducible rfl)
      change wpAnyH _ _ _ _ _ _ _ (Act.put _ (some 56) _) _; simp only [Act.put, List.setIfInBounds_toArray, List.set_cons_zero, List.set_cons_succ]
      refine wpAnyH_take (i := 4) (v := ?_) rfl (by kernel_rfl) (by kernel_rfl) (by kernel_rfl) (fun _ _ _ h => h) (Or.inl ⟨by rfl, ?_⟩) (by assumption) ?_
      rotate_left
      ·intro w hSw; go_simp; (try with_reducible rfl)
      change wpAnyH _ _ _ _ _ _ _ (Act.put _ (some 57) _) _; simp only [Act.put, List.setIfInBounds_toArray, List.set_cons_zero, List.set_cons_succ]
      refine wpAnyH_take (i := 5) (v := ?_) rfl (by kernel_rfl) (by kernel_rfl) (by kernel_rfl) (fun _ _ _ h => h) (Or.inl ⟨by rfl, ?_⟩) (by assumption) ?_
      rotate_left
      ·intro w hSw; go_simp; (try with_reducible rfl)
      change wpAnyH _ _ _ _ _ _ _ (Act.put _ (some 58) _) _; simp only [Act.put, List.setIfInBounds_toArray, List.set_cons_zero, List.set_cons_succ]
      refine wpAnyH_take (i := 7) (v := ?_) rfl (by kernel_rfl) (by kernel_rfl) (by kernel_rfl) (fun _ _ _ h => h) (Or.inl ⟨by rfl, ?_⟩) (by assumption) ?_
      rotate_left
      ·intro w hSw; go_simp; (try with_reducible rfl)
      change wpAnyH _ _ _ _ _ _ _ (Act.put _ (some 60) _) _; simp only [Act.put, List.setIfInBounds_toArray, List.set_cons_zero, List.set_cons_succ]
      refine wpAnyH_take (i := 8) (v := ?_) rfl (by kernel_rfl) (by kernel_rfl) (by kernel_rfl) (fun _ _ _ h => h) (Or.inl ⟨by rfl, ?_⟩) (by assumption) ?_
      rotate_left
      ·intro w hSw; go_simp; (try with_reducible rfl)
      change wpAnyH _ _ _ _ _ _ _ (Act.put _ (some 61) _) _; simp only [Act.put, List.setIfInBounds_toArray, List.set_cons_zero, List.set_cons_succ]
      refine wpAnyH_ready (rs := [6]) (by kernel_rfl) (by simp) ?_
      refine AllReadyH.cons rfl (fun K hK => ?_) AllReadyH.nil
      go_simp
      refine (cSm _).mono ?_
      rintro e wa ⟨rfl, hqa⟩
      have hbwa : Below W8.heap.size W8 wa := hbW0.trans (by simpa using hqa)
      obtain ⟨ksa, ktx, kmx, kbw, kb6⟩ := KS.out wa hbwa
      refine hK.out _ _ ?_ (fun hHeld => ?_)
      ·exact ksa
      clear hK K
      refine wpAnyH_take (i := 9) (v := ?_) rfl (by kernel_rfl) (by kernel_rfl) (by kernel_rfl) (fun _ _ _ h => h) (Or.inl ⟨by rfl, ?_⟩) (by assumption) ?_
      rotate_left
      ·intro w hSw; go_simp; (try with_reducible rfl)
      change wpAnyH _ _ _ _ _ _ _ (Act.put _ (some 62) _) _; simp only [Act.put, List.setIfInBounds_toArray, List.set_cons_zero, List.set_cons_succ]
      refine wpAnyH_take (i := 10) (v := ?_) rfl (by kernel_rfl) (by kernel_rfl) (by kernel_rfl) (fun _ _ _ h => h) (Or.inl ⟨by rfl, ?_⟩) (by assumption) ?_
      rotate_left
      ·intro w hSw; go_simp; (try with_reducible rfl)
      change wpAnyH _ _ _ _ _ _ _ (Act.put _ (some 63) _) _; simp only [Act.put, List.setIfInBounds_toArray, List.set_cons_zero, List.set_cons_succ]
      refine wpAnyH_take (i := 11) (v := ?_) rfl (by kernel_rfl) (by kernel_rfl) (by kernel_rfl) (fun _ _ _ h => h) (Or.inl ⟨by rfl, ?_⟩) (by assumption) ?_
      rotate_left
      ·intro w hSw; go_simp; (try with_reducible rfl)
      change wpAnyH _ _ _ _ _ _ _ (Act.put _ (some 64) _) _; simp only [Act.put, List.setIfInBounds_toArray, List.set_cons_zero, List.set_cons_succ]
      refine wpAnyH_take (i := 12) (v := ?_) rfl (by kernel_rfl) (by kernel_rfl) (by kernel_rfl) (fun _ _ _ h => h) (Or.inl ⟨by rfl, ?_⟩) (by assumption) ?_
      rotate_left
      ·intro w hSw; go_simp; (try with_reducible rfl)
      change wpAnyH _ _ _ _ _ _ _ (Act.put _ (some 65) _) _; simp only [Act.put, List.setIfInBounds_toArray, List.set_cons_zero, List.set_cons_succ]
      refine wpAnyH_take (i := 13) (v := ?_) rfl (by kernel_rfl) (by kernel_rfl) (by kernel_rfl) (fun _ _ _ h => h) (Or.inl ⟨by rfl, ?_⟩) (by assumption) ?_
      rotate_left
      ·intro w hSw; go_simp; (try with_reducible rfl)
      change wpAnyH _ _ _ _ _ _ _ (Act.put _ (some 66) _) _; simp only [Act.put, List.setIfInBounds_toArray, List.set_cons_zero, List.set_cons_succ]
      refine wpAnyH_take (i := 14) (v := ?_) rfl (by kernel_rfl) (by kernel_rfl) (by kernel_rfl) (fun _ _ _ h => h) (Or.inl ⟨by rfl, ?_⟩) (by assumption) ?_
      rotate_left
      ·intro w hSw; go_simp; (try with_reducible rfl)
      change wpAnyH _ _ _ _ _ _ _ (Act.put _ (some 67) _) _; simp only [Act.put, List.setIfInBounds_toArray, List.set_cons_zero, List.set_cons_succ]
      refine wpAnyH_ready (rs := [15]) (by kernel_rfl) (by simp) ?_
      refine AllReadyH.cons rfl (fun K hK => ?_) AllReadyH.nil
      go_simp
      have cH := rfhas w.heap.size f2 tx mx wa hsz2 (by rw [← list_size]; exact hx) ktx kmx
      rw [hhas] at cH
      refine cH.mono ?_
      rintro e wb ⟨rfl, hqb⟩
      have hbwb : Below W8.heap.size W8 wb := hbwa.trans (hqb.mono hbwa.size)
      obtain ⟨ksb, _, _, kbwb, kb6b⟩ := KS.out wb hbwb
      refine hK.out _ _ ?_ (fun hHeld => ?_)
      ·exact ksb
      clear hK K
      refine wpAnyH_take (i := 16) (v := ?_) rfl (by kernel_rfl) (by kernel_rfl) (by kernel_rfl) (fun _ _ _ h => h) (Or.inl ⟨by rfl, ?_⟩) (by assumption) ?_
      rotate_left
      ·intro w hSw; go_simp; (try with_reducible rfl)
      change wpAnyH _ _ _ _ _ _ _ (Act.put _ (some 69) _) _; simp only [Act.put, List.setIfInBounds_toArray, List.set_cons_zero, List.set_cons_succ]
      refine wpAnyH_done (by kernel_rfl) ?_ _
      go_wp2_with fail
      go_roundw
      case rel => exact ⟨k + 1, by go_num, by omega, fun f hf => by
       rw [List.take_succ_eq_append_getElem hkl, List.mem_append, List.mem_singleton] at hf
       rcases hf with hf | hf
       ·exact HK.out f hf
       ·rw [hf, HFK.out]; exact HNX.out, kb6b⟩
      case measure => simp [intOf]; omega
    ·have he1 : (SN1.toList == nb.toList) = false := by
      rw [Lib.toList_data, Lib.toList_data, beq_eq_false_iff_ne]
      exact fun h => hsame (text_ext h)
     have HNX : Hid (¬ (small f1.data.toList = nb.data.toList ∧ Sr.hasT f2.data.toList tx.data.toList = true)) := fun h => hsame (text_ext (by rw [HSN1.out]; exact h.1))
     clear hsame
     go_wp2_with fail
     refine wp_region_held_drew (S := fun W => (W.cell? ⟨XB, 0, none⟩ = some (.int .i64 0) ∧ W.cell? ⟨XB, 1, none⟩ = some (.int .i64 (-1))) ∧ (W.cell? ⟨0, 0, none⟩ = some (.int .i64 0) ∧ W.cell? ⟨0, 1, none⟩ = some (.int .i64 (-1))) ∧ (W.cell? ⟨FB, 0, none⟩ = some (.string f1) ∧ W.cell? ⟨FB, 1, none⟩ = some (.string f2)) ∧ W.cell? ⟨w.heap.size, 1, none⟩ = some (.string nb)) (by kernel_rfl) ?_ (fun hHeld => ?_)
     ·exact (KS.out _ hbW0).1
     refine wpAnyH_take (i := 0) (v := ?_) rfl (by kernel_rfl) (by kernel_rfl) (by kernel_rfl) (fun _ _ _ h => h) (Or.inl ⟨by rfl, ?_⟩) (by assumption) ?_
     rotate_left
     ·intro w hSw; go_simp; (try with_reducible rfl)
     change wpAnyH _ _ _ _ _ _ _ (Act.put _ (some 53) _) _; simp only [Act.put, List.setIfInBounds_toArray, List.set_cons_zero, List.set_cons_succ]
     refine wpAnyH_take (i := 1) (v := ?_) rfl (by kernel_rfl) (by kernel_rfl) (by kernel_rfl) (fun _ _ _ h => h) (Or.inl ⟨by rfl, ?_⟩) (by assumption) ?_
     rotate_left
     ·intro w hSw; go_simp; (try with_reducible rfl)
     change wpAnyH _ _ _ _ _ _ _ (Act.put _ (some 54) _) _; simp only [Act.put, List.setIfInBounds_toArray, List.set_cons_zero, List.set_cons_succ]
     refine wpAnyH_take (i := 2) (v := ?_) rfl (by kernel_rfl) (by kernel_rfl) (by kernel_rfl) (fun _ _ _ h => h) (Or.inl ⟨by rfl, ?_⟩) (by assumption) ?_
     rotate_left
     ·intro w hSw; go_simp; (try with_reducible rfl)
     change wpAnyH _ _ _ _ _ _ _ (Act.put _ (some 55) _) _; simp only [Act.put, List.setIfInBounds_toArray, List.set_cons_zero, List.set_cons_succ]
     refine wpAnyH_take (i := 3) (v := ?_) rfl (by kernel_rfl) (by kernel_rfl) (by kernel_rfl) (fun _ _ _ h => h) (Or.inl ⟨by rfl, ?_⟩) (by assumption) ?_
     rotate_left
     ·intro w hSw; go_simp; (try with_reducible rfl)
     change wpAnyH _ _ _ _ _ _ _ (Act.put _ (some 56) _) _; simp only [Act.put, List.setIfInBounds_toArray, List.set_cons_zero, List.set_cons_succ]
     refine wpAnyH_take (i := 4) (v := ?_) rfl (by kernel_rfl) (by kernel_rfl) (by kernel_rfl) (fun _ _ _ h => h) (Or.inl ⟨by rfl, ?_⟩) (by assumption) ?_
     rotate_left
     ·intro w hSw; go_simp; (try with_reducible rfl)
     change wpAnyH _ _ _ _ _ _ _ (Act.put _ (some 57) _) _; simp only [Act.put, List.setIfInBounds_toArray, List.set_cons_zero, List.set_cons_succ]
     refine wpAnyH_take (i := 5) (v := ?_) rfl (by kernel_rfl) (by kernel_rfl) (by kernel_rfl) (fun _ _ _ h => h) (Or.inl ⟨by rfl, ?_⟩) (by assumption) ?_
     rotate_left
     ·intro w hSw; go_simp; (try with_reducible rfl)
     change wpAnyH _ _ _ _ _ _ _ (Act.put _ (some 58) _) _; simp only [Act.put, List.setIfInBounds_toArray, List.set_cons_zero, List.set_cons_succ]
     refine wpAnyH_take (i := 7) (v := ?_) rfl (by kernel_rfl) (by kernel_rfl) (by kernel_rfl) (fun _ _ _ h => h) (Or.inl ⟨by rfl, ?_⟩) (by assumption) ?_
     rotate_left
     ·intro w hSw; go_simp; (try with_reducible rfl)
     change wpAnyH _ _ _ _ _ _ _ (Act.put _ (some 60) _) _; simp only [Act.put, List.setIfInBounds_toArray, List.set_cons_zero, List.set_cons_succ]
     refine wpAnyH_take (i := 8) (v := ?_) rfl (by kernel_rfl) (by kernel_rfl) (by kernel_rfl) (fun _ _ _ h => h) (Or.inl ⟨by rfl, ?_⟩) (by assumption) ?_
     rotate_left
     ·intro w hSw; go_simp; (try with_reducible rfl)
     change wpAnyH _ _ _ _ _ _ _ (Act.put _ (some 61) _) _; simp only [Act.put, List.setIfInBounds_toArray, List.set_cons_zero, List.set_cons_succ]
     refine wpAnyH_ready (rs := [6]) (by kernel_rfl) (by simp) ?_
     refine AllReadyH.cons rfl (fun K hK => ?_) AllReadyH.nil
     go_simp
     refine (cSm _).mono ?_
     rintro e wa ⟨rfl, hqa⟩
     have hbwa : Below W8.heap.size W8 wa := hbW0.trans (by simpa using hqa)
     obtain ⟨ksa, ktx, kmx, kbw, kb6⟩ := KS.out wa hbwa
     refine hK.out _ _ ?_ (fun hHeld => ?_)
     ·exact ksa
     clear hK K
     refine wpAnyH_take (i := 9) (v := ?_) rfl (by kernel_rfl) (by kernel_rfl) (by kernel_rfl) (fun _ _ _ h => h) (Or.inl ⟨by rfl, ?_⟩) (by assumption) ?_
     rotate_left
     ·intro w hSw; go_simp; (try with_reducible rfl)
     change wpAnyH _ _ _ _ _ _ _ (Act.put _ (some 62) _) _; simp only [Act.put, List.setIfInBounds_toArray, List.set_cons_zero, List.set_cons_succ]
     refine wpAnyH_take (i := 10) (v := ?_) rfl (by kernel_rfl) (by kernel_rfl) (by kernel_rfl) (fun _ _ _ h => h) (Or.inl ⟨by rfl, ?_⟩) (by assumption) ?_
     rotate_left
     ·intro w hSw; go_simp; (try with_reducible rfl)
     change wpAnyH _ _ _ _ _ _ _ (Act.put _ (some 63) _) _; simp only [Act.put, List.setIfInBounds_toArray, List.set_cons_zero, List.set_cons_succ]
     refine wpAnyH_take (i := 11) (v := ?_) rfl (by kernel_rfl) (by kernel_rfl) (by kernel_rfl) (fun _ _ _ h => h) (Or.inl ⟨by rfl, ?_⟩) (by assumption) ?_
     rotate_left
     ·intro w hSw; go_simp; (try with_reducible rfl)
     change wpAnyH _ _ _ _ _ _ _ (Act.put _ (some 64) _) _; simp only [Act.put, List.setIfInBounds_toArray, List.set_cons_zero, List.set_cons_succ]
     refine wpAnyH_take (i := 12) (v := undef) rfl (by kernel_rfl) (by kernel_rfl) (by kernel_rfl) (fun _ _ _ h => h) (Or.inr ⟨by rfl, rfl⟩) (by assumption) ?_
     change wpAnyH _ _ _ _ _ _ _ (Act.put _ (some 65) _) _; simp only [Act.put, List.setIfInBounds_toArray, List.set_cons_zero, List.set_cons_succ]
     refine wpAnyH_take (i := 13) (v := undef) rfl (by kernel_rfl) (by kernel_rfl) (by kernel_rfl) (fun _ _ _ h => h) (Or.inr ⟨by rfl, rfl⟩) (by assumption) ?_
     change wpAnyH _ _ _ _ _ _ _ (Act.put _ (some 66) _) _; simp only [Act.put, List.setIfInBounds_toArray, List.set_cons_zero, List.set_cons_succ]
     refine wpAnyH_take (i := 14) (v := undef) rfl (by kernel_rfl) (by kernel_rfl) (by kernel_rfl) (fun _ _ _ h => h) (Or.inr ⟨by rfl, rfl⟩) (by assumption) ?_
     change wpAnyH _ _ _ _ _ _ _ (Act.put _ (some 67) _) _; simp only [Act.put, List.setIfInBounds_toArray, List.set_cons_zero, List.set_cons_succ]
     refine wpAnyH_take (i := 15) (v := undef) rfl (by kernel_rfl) (by kernel_rfl) (by kernel_rfl) (fun _ _ _ h => h) (Or.inr ⟨by rfl, rfl⟩) (by assumption) ?_
     change wpAnyH _ _ _ _ _ _ _ (Act.put _ (some 68) _) _; simp only [Act.put, List.setIfInBounds_toArray, List.set_cons_zero, List.set_cons_succ]
     refine wpAnyH_take (i := 16) (v := ?_) rfl (by kernel_rfl) (by kernel_rfl) (by kernel_rfl) (fun _ _ _ h => h) (Or.inl ⟨by rfl, ?_⟩) (by assumption) ?_
     rotate_left
     ·intro w hSw; go_simp; (try with_reducible rfl)
     change wpAnyH _ _ _ _ _ _ _ (Act.put _ (some 69) _) _; simp only [Act.put, List.setIfInBounds_toArray, List.set_cons_zero, List.set_cons_succ]
     refine wpAnyH_done (by kernel_rfl) ?_ _
     go_wp2_with fail
     go_roundw
     case rel => exact ⟨k + 1, by go_num, by omega, fun f hf => by
      rw [List.take_succ_eq_append_getElem hkl, List.mem_append, List.mem_singleton] at hf
      rcases hf with hf | hf
      ·exact HK.out f hf
      ·rw [hf, HFK.out]; exact HNX.out, kb6⟩
     case measure => simp [intOf]; omega
   ·have HAF : Hid (A = false) := by
     show A = false
     rw [← HA.out, Bool.eq_false_iff]
     intro h
     rw [Bool.and_eq_true, List.any_eq_true] at h
     obtain ⟨_, f, hf, hh⟩ := h
     obtain ⟨hf1, hf2⟩ := List.mem_filter.1 hf
     rw [← HL.out] at hf1
     obtain ⟨q, hq, rfl⟩ := List.mem_map.1 hf1
     simp only [List.map_cons, List.map_nil, List.contains_cons, List.contains_nil, Bool.or_false, beq_iff_eq] at hf2
     rw [HNM.out] at hf2
     refine HK.out q ?_ ⟨hf2, hh⟩
     rw [List.take_of_length_le (by rw [HLN.out]; omega)]
     exact hq
    have hfin := (HX6.out wr hbr).2.2.1
    clear HK
    go_wp2_with fail
    go_ret
    exact ⟨by rw [HAF.out]; rfl, hfin⟩
end Go.Proofs.YtogigccbnohjjaaGreatDoor
