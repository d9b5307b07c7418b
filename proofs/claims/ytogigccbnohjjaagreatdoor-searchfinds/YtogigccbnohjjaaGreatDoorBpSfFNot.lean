/-
  What the document's Found does at Not, and more.
-/
import Derived.Test.YtogigccbnohjjaaGreatDoorBpSfLeaf
namespace Go.Proofs.YtogigccbnohjjaaGreatDoor
open Go.RowKit Go.Proofs.Aid Go.Proofs.Sq Go.Proofs.Hd
set_option maxHeartbeats 4000000
set_option maxRecDepth 100000
theorem rfound_13 (m : Sr.Lt) (name text : Sr.Tx) (n : Int) (set : List (Nat × Nat)) (keys : List Sr.Ky) (ys : List Value) (Ok : Nat → Prop) (tb : ByteArray) (fa : Option Addr) (fn fc : Nat) (mx : Int) (w : World) (hk : Kx w Ok (.mk 13 name text n set keys) ys) (htb : tb.data.toList = m.text) (ht : tb.size ≤ 90000) (hm : w.cell? ⟨1, 0, none⟩ = some (.int .i64 mx)) (q : Sr.Ky) (hq : keys[0]? = some q) (cI : ∀ W q xs, q ∈ keys → Below w.heap.size w W → Kx W Ok q xs → Calls Tryz.prog 11 #[.agg xs.toArray, .agg #[.int .i64 m.uid, .slice fa fn fc, .int .i64 m.day, .string tb], .int .i64 m.which, .int .i64 m.many, .int .i64 m.greatest] W fun e w' => e = .returned (.bool (Sr.holdsK m q)) ∧ Below W.heap.size W w') :
  Calls Tryz.prog 11 #[.agg ys.toArray, .agg #[.int .i64 m.uid, .slice fa fn fc, .int .i64 m.day, .string tb], .int .i64 m.which, .int .i64 m.many, .int .i64 m.greatest] w fun e w' => e = .returned (.bool (!Sr.holdsK m q)) ∧ Below w.heap.size w w' := by
 have hmf : ∀ (fn : Fn) (first cap : Array Value) (w : World), (Instr.makeFunc fn first cap).run Tryz.prog w = .ok (.func fn first cap) w := fun _ _ _ _ => rfl
 cases hk with
 | mk code n nb tx set sv ks a c rows hst hkk ha =>
  obtain ⟨sa, sc, rfl, hsa⟩ := hst
  obtain ⟨SN, hSN⟩ : ∃ n, set.length = n := ⟨_, rfl⟩
  obtain ⟨KN, hKN⟩ : ∃ n, keys.length = n := ⟨_, rfl⟩
  rw [hSN, hKN, show ([.int .i64 13, .string nb, .string tx, .int .i64 n, .slice sa SN sc, .slice a KN c] : List Value).toArray = #[.int .i64 13, .string nb, .string tx, .int .i64 n, .slice sa SN sc, .slice a KN c] from rfl]
  obtain ⟨W2, hW2, hz2, e1, e2, hb2⟩ := two_boxes w #[.int .i64 13, .string nb, .string tx, .int .i64 n, .slice sa SN sc, .slice a KN c] #[.int .i64 m.uid, .slice fa fn fc, .int .i64 m.day, .string tb] 32 24
  have r3 : W2.cell? ⟨w.heap.size + 1, 3, none⟩ = some (.string tb) := rd_cell e2 rfl
  have hm2 := (hb2.cell (World.block_lt_of_cell? _ _ hm)).trans hm
  have cS := rsplit_is tb mx W2 (by omega) hm2
  obtain ⟨HT, hHT⟩ : ∃ x : ByteArray, ⟨(headOf tb.data.toList).toArray⟩ = x := ⟨_, rfl⟩
  obtain ⟨BT, hBT⟩ : ∃ x : ByteArray, ⟨(bodyOf tb.data.toList).toArray⟩ = x := ⟨_, rfl⟩
  have HBT : Hid (BT.data.toList = bodyOf m.text) := by show _ = _; rw [← hBT, htb]
  have HTB : Hid (tb.data.toList = m.text) := htb
  rw [hHT, hBT] at cS
  have HX2 : Hid (∀ W, Below W2.heap.size W2 W → W.heap[w.heap.size]? = some (.cells #[.int .i64 13, .string nb, .string tx, .int .i64 n, .slice sa SN sc, .slice a KN c] 32 (0, 0)) ∧ W.heap[w.heap.size + 1]? = some (.cells #[.int .i64 m.uid, .slice fa fn fc, .int .i64 m.day, .string tb] 24 (0, 0)) ∧ Below w.heap.size w W ∧ W.cell? ⟨1, 0, none⟩ = some (.int .i64 mx)) := fun W hb =>
   ⟨(hb.block _ (by omega)).trans e1, (hb.block _ (by omega)).trans e2, hb2.trans (hb.mono hb2.size), (hb.cell (World.block_lt_of_cell? _ _ hm2)).trans hm2⟩
  obtain ⟨A, hA⟩ : ∃ A, Sr.holdsK m q = A := ⟨_, rfl⟩
  rw [hA]
  have HAA : Hid (Sr.holdsK m q = A) := hA
  have HCI : Hid ( ∀ W q xs, q ∈ keys → Below w.heap.size w W → Kx W Ok q xs → Calls Tryz.prog 11 #[.agg xs.toArray, .agg #[.int .i64 m.uid, .slice fa fn fc, .int .i64 m.day, .string tb], .int .i64 m.which, .int .i64 m.many, .int .i64 m.greatest] W fun e w' => e = .returned (.bool (Sr.holdsK m q)) ∧ Below W.heap.size W w') := cI
  have hq6 := hkk 0 q hq
  obtain ⟨b, o, rfl, hOb, hcl⟩ : ∃ b o, a = some ⟨b, o, none⟩ ∧ Ok b ∧ ∀ i x, (rows 0)[i]? = some x → w.cell? ⟨b, o + i, none⟩ = some x := by
   rcases ha with h | ⟨b, o, h1, h2, h3⟩
   ·rw [h] at hq; cases hq
   ·exact ⟨b, o, h1, h2, fun i x hx => by have := h3 0 q hq i x hx; rw [Nat.zero_mul, Nat.add_zero] at this; exact this⟩
  have hqm : q ∈ keys := List.mem_of_getElem? hq
  have hKN1 : (0 : Int) < (KN : Int) := by rw [← hKN]; have := (List.getElem?_eq_some_iff.1 hq).1; omega
  have hKN0 : 0 < KN := by omega
  generalize rows 0 = xs at hq6 hcl
  obtain ⟨x0, x3, x1, x2, xa, xk, xc, ya, yk, yc, rfl⟩ := kx_cells hq6
  have HQ : Hid (∀ W, Below w.heap.size w W → (W.cell? ⟨b, o, none⟩ = some (.int .i64 x0) ∧ W.cell? ⟨b, o + 1, none⟩ = some (.string x1) ∧ W.cell? ⟨b, o + 2, none⟩ = some (.string x2) ∧ W.cell? ⟨b, o + 3, none⟩ = some (.int .i64 x3) ∧ W.cell? ⟨b, o + 4, none⟩ = some (.slice xa xk xc) ∧ W.cell? ⟨b, o + 5, none⟩ = some (.slice ya yk yc)) ∧ Kx W Ok q [.int .i64 x0, .string x1, .string x2, .int .i64 x3, .slice xa xk xc, .slice ya yk yc]) := fun W hW => by
   have hlt : b < w.heap.size := World.block_lt_of_cell? _ _ (hcl 0 _ rfl)
   have hc := fun i x (h : [.int .i64 x0, .string x1, .string x2, .int .i64 x3, .slice xa xk xc, .slice ya yk yc][i]? = some x) => (hW.cell (p := ⟨b, o + i, none⟩) hlt).trans (hcl i x h)
   exact ⟨⟨hc 0 _ rfl, hc 1 _ rfl, hc 2 _ rfl, hc 3 _ rfl, hc 4 _ rfl, hc 5 _ rfl⟩, hq6.under hW⟩
  have HQM : Hid (q ∈ keys) := hqm
  clear e1 e2 hb2 hm hm2 hBT hHT htb hkk ha hKN hSN hsa hA cI hq6 hcl hq hqm
  go_enter Tryz.func11, Tryz.ntmps11
  go_wp2_with fail
  refine cS.mono ?_
  rintro e w3 ⟨rfl, hb3⟩
  obtain ⟨g1, g2, hbw, hm3⟩ := HX2.out w3 hb3
  have k0 := rd_cell (j := 0) g1 rfl
  have k1 := rd_cell (j := 1) g1 rfl
  have k2 := rd_cell (j := 2) g1 rfl
  have k3 := rd_cell (j := 3) g1 rfl
  have k4 := rd_cell (j := 4) g1 rfl
  have k5 := rd_cell (j := 5) g1 rfl
  have l0 := rd_cell (j := 0) g2 rfl
  have l1 := rd_cell (j := 1) g2 rfl
  have l2 := rd_cell (j := 2) g2 rfl
  have l3 := rd_cell (j := 3) g2 rfl
  have KS : Hid (∀ W, Below w3.heap.size w3 W → ((W.cell? ⟨w.heap.size, 5, none⟩ = some (.slice (some ⟨b, o, none⟩) KN c)) ∧ (W.cell? ⟨b, o, none⟩ = some (.int .i64 x0) ∧ W.cell? ⟨b, o + 1, none⟩ = some (.string x1) ∧ W.cell? ⟨b, o + 2, none⟩ = some (.string x2) ∧ W.cell? ⟨b, o + 3, none⟩ = some (.int .i64 x3) ∧ W.cell? ⟨b, o + 4, none⟩ = some (.slice xa xk xc) ∧ W.cell? ⟨b, o + 5, none⟩ = some (.slice ya yk yc)) ∧ (W.cell? ⟨w.heap.size + 1, 0, none⟩ = some (.int .i64 m.uid) ∧ W.cell? ⟨w.heap.size + 1, 1, none⟩ = some (.slice fa fn fc) ∧ W.cell? ⟨w.heap.size + 1, 2, none⟩ = some (.int .i64 m.day) ∧ W.cell? ⟨w.heap.size + 1, 3, none⟩ = some (.string tb))) ∧ Below w.heap.size w W) := fun W hb => by
   have hb0 : Below w.heap.size w W := hbw.trans (hb.mono hbw.size)
   have h1 := (hb.block w.heap.size (Array.getElem?_eq_some_iff.1 g1).1).trans g1
   have h2 := (hb.block (w.heap.size + 1) (Array.getElem?_eq_some_iff.1 g2).1).trans g2
   exact ⟨⟨rd_cell h1 rfl, (HQ.out W hb0).1, ⟨rd_cell h2 rfl, rd_cell h2 rfl, rd_cell h2 rfl, rd_cell h2 rfl⟩⟩, hb0⟩
  have hb30 : Below w3.heap.size w3 w3.drew := (Below.refl _ _).drew
  have cC := HCI.out w3.drew q [.int .i64 x0, .string x1, .string x2, .int .i64 x3, .slice xa xk xc, .slice ya yk yc] HQM.out (KS.out _ hb30).2 (HQ.out _ (KS.out _ hb30).2).2
  rw [HAA.out] at cC
  clear cS g1 g2 hb3 HX2 hm3
  go_wp2_with fail
  refine wp_region_held_drew (S := fun W => (W.cell? ⟨w.heap.size, 5, none⟩ = some (.slice (some ⟨b, o, none⟩) KN c)) ∧ (W.cell? ⟨b, o, none⟩ = some (.int .i64 x0) ∧ W.cell? ⟨b, o + 1, none⟩ = some (.string x1) ∧ W.cell? ⟨b, o + 2, none⟩ = some (.string x2) ∧ W.cell? ⟨b, o + 3, none⟩ = some (.int .i64 x3) ∧ W.cell? ⟨b, o + 4, none⟩ = some (.slice xa xk xc) ∧ W.cell? ⟨b, o + 5, none⟩ = some (.slice ya yk yc)) ∧ (W.cell? ⟨w.heap.size + 1, 0, none⟩ = some (.int .i64 m.uid) ∧ W.cell? ⟨w.heap.size + 1, 1, none⟩ = some (.slice fa fn fc) ∧ W.cell? ⟨w.heap.size + 1, 2, none⟩ = some (.int .i64 m.day) ∧ W.cell? ⟨w.heap.size + 1, 3, none⟩ = some (.string tb))) (by kernel_rfl) ?_ (fun hHeld => ?_)
  ·exact (KS.out _ hb30).1
  refine wpAnyH_take (i := 0) (v := ?_) rfl (by kernel_rfl) (by kernel_rfl) (by kernel_rfl) (fun _ _ _ h => h) (Or.inl ⟨by rfl, ?_⟩) (by assumption) ?_
  rotate_left
  ·intro w hSw; go_simp; (try with_reducible rfl)
  change wpAnyH _ _ _ _ _ _ _ (Act.put _ (some 137) _) _; simp only [Act.put, List.setIfInBounds_toArray, List.set_cons_zero, List.set_cons_succ]
  refine wpAnyH_take (i := 1) (v := ?_) rfl (by kernel_rfl) (by kernel_rfl) (by kernel_rfl) (fun _ _ _ h => h) (Or.inl ⟨by rfl, ?_⟩) (by assumption) ?_
  rotate_left
  ·intro w hSw; go_simp; (try with_reducible rfl)
  change wpAnyH _ _ _ _ _ _ _ (Act.put _ (some 138) _) _; simp only [Act.put, List.setIfInBounds_toArray, List.set_cons_zero, List.set_cons_succ]
  refine wpAnyH_take (i := 2) (v := ?_) rfl (by kernel_rfl) (by kernel_rfl) (by kernel_rfl) (fun _ _ _ h => h) (Or.inl ⟨by rfl, ?_⟩) (by assumption) ?_
  rotate_left
  ·intro w hSw; go_simp; (try with_reducible rfl)
  change wpAnyH _ _ _ _ _ _ _ (Act.put _ (some 139) _) _; simp only [Act.put, List.setIfInBounds_toArray, List.set_cons_zero, List.set_cons_succ]
  refine wpAnyH_take (i := 3) (v := ?_) rfl (by kernel_rfl) (by kernel_rfl) (by kernel_rfl) (fun _ _ _ h => h) (Or.inl ⟨by rfl, ?_⟩) (by assumption) ?_
  rotate_left
  ·intro w hSw; go_simp; (try with_reducible rfl)
  change wpAnyH _ _ _ _ _ _ _ (Act.put _ (some 140) _) _; simp only [Act.put, List.setIfInBounds_toArray, List.set_cons_zero, List.set_cons_succ]
  refine wpAnyH_take (i := 4) (v := ?_) rfl (by kernel_rfl) (by kernel_rfl) (by kernel_rfl) (fun _ _ _ h => h) (Or.inl ⟨by rfl, ?_⟩) (by assumption) ?_
  rotate_left
  ·intro w hSw; go_simp; (try with_reducible rfl)
  change wpAnyH _ _ _ _ _ _ _ (Act.put _ (some 141) _) _; simp only [Act.put, List.setIfInBounds_toArray, List.set_cons_zero, List.set_cons_succ]
  refine wpAnyH_take (i := 5) (v := ?_) rfl (by kernel_rfl) (by kernel_rfl) (by kernel_rfl) (fun _ _ _ h => h) (Or.inl ⟨by rfl, ?_⟩) (by assumption) ?_
  rotate_left
  ·intro w hSw; go_simp; (try with_reducible rfl)
  change wpAnyH _ _ _ _ _ _ _ (Act.put _ (some 142) _) _; simp only [Act.put, List.setIfInBounds_toArray, List.set_cons_zero, List.set_cons_succ]
  refine wpAnyH_take (i := 6) (v := ?_) rfl (by kernel_rfl) (by kernel_rfl) (by kernel_rfl) (fun _ _ _ h => h) (Or.inl ⟨by rfl, ?_⟩) (by assumption) ?_
  rotate_left
  ·intro w hSw; go_simp; (try with_reducible rfl)
  change wpAnyH _ _ _ _ _ _ _ (Act.put _ (some 143) _) _; simp only [Act.put, List.setIfInBounds_toArray, List.set_cons_zero, List.set_cons_succ]
  refine wpAnyH_take (i := 7) (v := ?_) rfl (by kernel_rfl) (by kernel_rfl) (by kernel_rfl) (fun _ _ _ h => h) (Or.inl ⟨by rfl, ?_⟩) (by assumption) ?_
  rotate_left
  ·intro w hSw; go_simp; (try with_reducible rfl)
  change wpAnyH _ _ _ _ _ _ _ (Act.put _ (some 144) _) _; simp only [Act.put, List.setIfInBounds_toArray, List.set_cons_zero, List.set_cons_succ]
  refine wpAnyH_ready (rs := [8]) (by kernel_rfl) (by simp) ?_
  refine AllReadyH.cons rfl (fun K hK => ?_) AllReadyH.nil
  go_simp
  refine cC.mono ?_
  rintro e w4 ⟨rfl, hq4⟩
  have hb34 : Below w3.heap.size w3 w4 := hb30.trans (by simpa using hq4)
  obtain ⟨ks4, kb4⟩ := KS.out w4 hb34
  refine hK.out _ _ ?_ (fun hHeld => ?_)
  ·exact ks4
  clear hK K
  refine wpAnyH_take (i := 9) (v := ?_) rfl (by kernel_rfl) (by kernel_rfl) (by kernel_rfl) (fun _ _ _ h => h) (Or.inl ⟨by rfl, ?_⟩) (by assumption) ?_
  rotate_left
  ·intro w hSw; go_simp; (try with_reducible rfl)
  change wpAnyH _ _ _ _ _ _ _ (Act.put _ (some 146) _) _; simp only [Act.put, List.setIfInBounds_toArray, List.set_cons_zero, List.set_cons_succ]
  refine wpAnyH_take (i := 10) (v := ?_) rfl (by kernel_rfl) (by kernel_rfl) (by kernel_rfl) (fun _ _ _ h => h) (Or.inl ⟨by rfl, ?_⟩) (by assumption) ?_
  rotate_left
  ·intro w hSw; go_simp; (try with_reducible rfl)
  change wpAnyH _ _ _ _ _ _ _ (Act.put _ (some 10) _) _; simp only [Act.put, List.setIfInBounds_toArray, List.set_cons_zero, List.set_cons_succ]
  refine wpAnyH_done (by kernel_rfl) ?_ _
  go_wp2_with fail
  go_ret
  exact ⟨rfl, kb4⟩
end Go.Proofs.YtogigccbnohjjaaGreatDoor
namespace Go.Proofs.YtogigccbnohjjaaGreatDoor
open Go.RowKit Go.Proofs.Aid Go.Proofs.Sq Go.Proofs.Hd
set_option maxHeartbeats 4000000
set_option maxRecDepth 100000
theorem rfound_14 (m : Sr.Lt) (name text : Sr.Tx) (n : Int) (set : List (Nat × Nat)) (keys : List Sr.Ky) (ys : List Value) (Ok : Nat → Prop) (tb : ByteArray) (fa : Option Addr) (fn fc : Nat) (mx : Int) (w : World) (hk : Kx w Ok (.mk 14 name text n set keys) ys) (htb : tb.data.toList = m.text) (ht : tb.size ≤ 90000) (hm : w.cell? ⟨1, 0, none⟩ = some (.int .i64 mx)) (hkl : keys.length ≤ 1000) (cI : ∀ W q xs, q ∈ keys → Below w.heap.size w W → Kx W Ok q xs → Calls Tryz.prog 11 #[.agg xs.toArray, .agg #[.int .i64 m.uid, .slice fa fn fc, .int .i64 m.day, .string tb], .int .i64 m.which, .int .i64 m.many, .int .i64 m.greatest] W fun e w' => e = .returned (.bool (Sr.holdsK m q)) ∧ Below W.heap.size W w') :
  Calls Tryz.prog 11 #[.agg ys.toArray, .agg #[.int .i64 m.uid, .slice fa fn fc, .int .i64 m.day, .string tb], .int .i64 m.which, .int .i64 m.many, .int .i64 m.greatest] w fun e w' => e = .returned (.bool (decide (0 < ((keys.filter (Sr.holdsK m)).length : Int)))) ∧ Below w.heap.size w w' := by
 have hmf : ∀ (fn : Fn) (first cap : Array Value) (w : World), (Instr.makeFunc fn first cap).run Tryz.prog w = .ok (.func fn first cap) w := fun _ _ _ _ => rfl
 cases hk with
 | mk code n nb tx set sv ks a c rows hst hkk ha =>
  obtain ⟨sa, sc, rfl, hsa⟩ := hst
  obtain ⟨SN, hSN⟩ : ∃ n, set.length = n := ⟨_, rfl⟩
  obtain ⟨KN, hKN⟩ : ∃ n, keys.length = n := ⟨_, rfl⟩
  rw [hSN, hKN, show ([.int .i64 14, .string nb, .string tx, .int .i64 n, .slice sa SN sc, .slice a KN c] : List Value).toArray = #[.int .i64 14, .string nb, .string tx, .int .i64 n, .slice sa SN sc, .slice a KN c] from rfl]
  obtain ⟨W2, hW2, hz2, e1, e2, hb2⟩ := two_boxes w #[.int .i64 14, .string nb, .string tx, .int .i64 n, .slice sa SN sc, .slice a KN c] #[.int .i64 m.uid, .slice fa fn fc, .int .i64 m.day, .string tb] 32 24
  have r3 : W2.cell? ⟨w.heap.size + 1, 3, none⟩ = some (.string tb) := rd_cell e2 rfl
  have hm2 := (hb2.cell (World.block_lt_of_cell? _ _ hm)).trans hm
  have cS := rsplit_is tb mx W2 (by omega) hm2
  obtain ⟨HT, hHT⟩ : ∃ x : ByteArray, ⟨(headOf tb.data.toList).toArray⟩ = x := ⟨_, rfl⟩
  obtain ⟨BT, hBT⟩ : ∃ x : ByteArray, ⟨(bodyOf tb.data.toList).toArray⟩ = x := ⟨_, rfl⟩
  have HBT : Hid (BT.data.toList = bodyOf m.text) := by show _ = _; rw [← hBT, htb]
  have HTB : Hid (tb.data.toList = m.text) := htb
  rw [hHT, hBT] at cS
  have HX2 : Hid (∀ W, Below W2.heap.size W2 W → W.heap[w.heap.size]? = some (.cells #[.int .i64 14, .string nb, .string tx, .int .i64 n, .slice sa SN sc, .slice a KN c] 32 (0, 0)) ∧ W.heap[w.heap.size + 1]? = some (.cells #[.int .i64 m.uid, .slice fa fn fc, .int .i64 m.day, .string tb] 24 (0, 0)) ∧ Below w.heap.size w W ∧ W.cell? ⟨1, 0, none⟩ = some (.int .i64 mx)) := fun W hb =>
   ⟨(hb.block _ (by omega)).trans e1, (hb.block _ (by omega)).trans e2, hb2.trans (hb.mono hb2.size), (hb.cell (World.block_lt_of_cell? _ _ hm2)).trans hm2⟩
  obtain ⟨A, hA⟩ : ∃ A, (decide (0 < ((keys.filter (Sr.holdsK m)).length : Int))) = A := ⟨_, rfl⟩
  rw [hA]
  have HA : Hid ((decide (0 < ((keys.filter (Sr.holdsK m)).length : Int))) = A) := hA
  have HCI : Hid ( ∀ W q xs, q ∈ keys → Below w.heap.size w W → Kx W Ok q xs → Calls Tryz.prog 11 #[.agg xs.toArray, .agg #[.int .i64 m.uid, .slice fa fn fc, .int .i64 m.day, .string tb], .int .i64 m.which, .int .i64 m.many, .int .i64 m.greatest] W fun e w' => e = .returned (.bool (Sr.holdsK m q)) ∧ Below W.heap.size W w') := cI
  have hKL : KN ≤ 1000 := by rw [← hKN]; exact hkl
  have HKN : Hid (keys.length = KN) := hKN
  have HROW : Hid (∀ (k : Nat) q, keys[k]? = some q → ∃ b o x0 x1 x2 x3 xa xk xc ya yk yc, a = some ⟨b, o, none⟩ ∧ ∀ W, Below w.heap.size w W → (W.cell? ⟨b, o + k * 6, none⟩ = some (.int .i64 x0) ∧ W.cell? ⟨b, o + k * 6 + 1, none⟩ = some (.string x1) ∧ W.cell? ⟨b, o + k * 6 + 2, none⟩ = some (.string x2) ∧ W.cell? ⟨b, o + k * 6 + 3, none⟩ = some (.int .i64 x3) ∧ W.cell? ⟨b, o + k * 6 + 4, none⟩ = some (.slice xa xk xc) ∧ W.cell? ⟨b, o + k * 6 + 5, none⟩ = some (.slice ya yk yc)) ∧ Kx W Ok q [.int .i64 x0, .string x1, .string x2, .int .i64 x3, .slice xa xk xc, .slice ya yk yc]) := fun k q hq => by
   have hq6 := hkk k q hq
   rcases ha with h | ⟨b, o, h1, h2, h3⟩
   ·rw [h] at hq; cases hq
   ·have hcl := h3 k q hq
    generalize rows k = xs at hq6 hcl
    obtain ⟨x0, x3, x1, x2, xa, xk, xc, ya, yk, yc, rfl⟩ := kx_cells hq6
    refine ⟨b, o, x0, x1, x2, x3, xa, xk, xc, ya, yk, yc, h1, fun W hW => ?_⟩
    have hlt : b < w.heap.size := World.block_lt_of_cell? _ _ (hcl 0 _ rfl)
    have hc := fun i x (h : [.int .i64 x0, .string x1, .string x2, .int .i64 x3, .slice xa xk xc, .slice ya yk yc][i]? = some x) => (hW.cell (p := ⟨b, o + k * 6 + i, none⟩) hlt).trans (hcl i x h)
    exact ⟨⟨hc 0 _ rfl, hc 1 _ rfl, hc 2 _ rfl, hc 3 _ rfl, hc 4 _ rfl, hc 5 _ rfl⟩, hq6.under hW⟩
  clear e1 e2 hb2 hm hm2 hBT hHT htb hkk ha hKN hSN hsa hA cI hkl
  go_enter Tryz.func11, Tryz.ntmps11
  go_wp2_with fail
  refine cS.mono ?_
  rintro e w3 ⟨rfl, hb3⟩
  obtain ⟨g1, g2, hbw, hm3⟩ := HX2.out w3 hb3
  have k0 := rd_cell (j := 0) g1 rfl
  have k1 := rd_cell (j := 1) g1 rfl
  have k2 := rd_cell (j := 2) g1 rfl
  have k3 := rd_cell (j := 3) g1 rfl
  have k4 := rd_cell (j := 4) g1 rfl
  have k5 := rd_cell (j := 5) g1 rfl
  have l0 := rd_cell (j := 0) g2 rfl
  have l1 := rd_cell (j := 1) g2 rfl
  have l2 := rd_cell (j := 2) g2 rfl
  have l3 := rd_cell (j := 3) g2 rfl
  have KS : Hid (∀ W, Below w3.heap.size w3 W → ((W.cell? ⟨w.heap.size, 0, none⟩ = some (.int .i64 14) ∧ W.cell? ⟨w.heap.size, 5, none⟩ = some (.slice a KN c)) ∧ (W.cell? ⟨w.heap.size + 1, 0, none⟩ = some (.int .i64 m.uid) ∧ W.cell? ⟨w.heap.size + 1, 1, none⟩ = some (.slice fa fn fc) ∧ W.cell? ⟨w.heap.size + 1, 2, none⟩ = some (.int .i64 m.day) ∧ W.cell? ⟨w.heap.size + 1, 3, none⟩ = some (.string tb))) ∧ Below w.heap.size w W) := fun W hb => by
   have hb0 : Below w.heap.size w W := hbw.trans (hb.mono hbw.size)
   have h1 := (hb.block w.heap.size (Array.getElem?_eq_some_iff.1 g1).1).trans g1
   have h2 := (hb.block (w.heap.size + 1) (Array.getElem?_eq_some_iff.1 g2).1).trans g2
   exact ⟨⟨⟨rd_cell h1 rfl, rd_cell h1 rfl⟩, ⟨rd_cell h2 rfl, rd_cell h2 rfl, rd_cell h2 rfl, rd_cell h2 rfl⟩⟩, hb0⟩
  clear cS g1 g2 hb3 HX2 hm3 hbw
  go_wp2_with fail
  go_loopw [18, 150] (fun j i wr => ∃ k : Nat, i = .int .i64 (k : Int) ∧ j = .int .i64 (((keys.take k).filter (Sr.holdsK m)).length : Int) ∧ k ≤ KN ∧ Below w3.heap.size w3 wr) (fun _ i _ => KN - (intOf i).toNat)
  case atStart => exact ⟨0, rfl, by simp, Nat.zero_le _, Below.refl _ _⟩
  case round =>
   obtain ⟨k, rfl, rfl, hk, hbr⟩ := hrel
   clear k0 k1 k2 k3 k4 k5 l0 l1 l2 l3
   by_cases hlt : k < KN
   ·have hkl : k < keys.length := by rw [HKN.out]; exact hlt
    obtain ⟨q, hq⟩ : ∃ q, keys[k] = q := ⟨_, rfl⟩
    obtain ⟨b, o, x0, x1, x2, x3, xa, xk, xc, ya, yk, yc, rfl, hrow⟩ := HROW.out k q (by rw [List.getElem?_eq_getElem hkl, hq])
    obtain ⟨⟨_, _⟩, hbwr⟩ := KS.out wr hbr
    obtain ⟨⟨y0, y1, y2, y3, y4, y5⟩, _⟩ := hrow wr hbwr
    have HROWK : Hid (∀ W, Below w.heap.size w W → Kx W Ok q [.int .i64 x0, .string x1, .string x2, .int .i64 x3, .slice xa xk xc, .slice ya yk yc]) := fun W h => (hrow W h).2
    have b7 : Below wr.heap.size wr (wr.alloc (.cells #[.int .i64 0, .string ⟨#[]⟩, .string ⟨#[]⟩, .int .i64 0, .slice none 0 0, .slice none 0 0] 32)) := (Below.refl _ _).alloc (Nat.le_refl _) _
    have e7 := heap_alloc_new wr (.cells #[.int .i64 0, .string ⟨#[]⟩, .string ⟨#[]⟩, .int .i64 0, .slice none 0 0, .slice none 0 0] 32)
    obtain ⟨W7, hW7⟩ : ∃ W, wr.alloc (.cells #[.int .i64 0, .string ⟨#[]⟩, .string ⟨#[]⟩, .int .i64 0, .slice none 0 0, .slice none 0 0] 32) = W := ⟨_, rfl⟩
    rw [hW7] at b7 e7
    obtain ⟨FB, hFB⟩ : ∃ X, wr.heap.size = X := ⟨_, rfl⟩
    rw [hFB] at e7
    obtain ⟨⟨a0, a1, a2, a3, a4, a5⟩, ⟨af0, af1, af2, af3, af4, af5⟩, _⟩ := six_facts e7 (.int .i64 x0) (.string x1) (.string x2) (.int .i64 x3) (.slice xa xk xc) (.slice ya yk yc)
    have e8 := six_set e7 (.int .i64 x0) (.string x1) (.string x2) (.int .i64 x3) (.slice xa xk xc) (.slice ya yk yc)
    obtain ⟨W8, hW8⟩ : ∃ W, ((((((W7.setCell ⟨FB, 0, none⟩ (.int .i64 x0)).setCell ⟨FB, 1, none⟩ (.string x1)).setCell ⟨FB, 2, none⟩ (.string x2)).setCell ⟨FB, 3, none⟩ (.int .i64 x3)).setCell ⟨FB, 4, none⟩ (.slice xa xk xc)).setCell ⟨FB, 5, none⟩ (.slice ya yk yc)) = W := ⟨_, rfl⟩
    have b8 : Below FB wr W8 := by rw [← hW8]; exact (six_but (rb := FB) (to_but (b7.mono (show FB ≤ wr.heap.size by omega))) (Nat.le_refl _) _ _ _ _ _ _).below (Nat.le_refl _) (Nat.le_refl _)
    rw [hW8] at e8
    have z0 := rd_cell (j := 0) e8 rfl
    have z1 := rd_cell (j := 1) e8 rfl
    have z2 := rd_cell (j := 2) e8 rfl
    have z3 := rd_cell (j := 3) e8 rfl
    have z4 := rd_cell (j := 4) e8 rfl
    have z5 := rd_cell (j := 5) e8 rfl
    have hb38 : Below w3.heap.size w3 W8 := hbr.trans (b8.mono (by have := hbr.size; omega))
    obtain ⟨⟨⟨m0, m5⟩, m1, m2, m3, m4⟩, hbw8⟩ := KS.out W8 hb38
    have cC := HCI.out W8 q [.int .i64 x0, .string x1, .string x2, .int .i64 x3, .slice xa xk xc, .slice ya yk yc] (by rw [← hq]; exact List.getElem_mem _) hbw8 (HROWK.out W8 hbw8)
    have HB38 : Hid (Below w3.heap.size w3 W8) := hb38
    have HCNT : Hid ((keys.take (k + 1)).filter (Sr.holdsK m) = (keys.take k).filter (Sr.holdsK m) ++ (if Sr.holdsK m q = true then [q] else [])) := by
     show _ = _
     rw [List.take_succ_eq_append_getElem hkl, hq, List.filter_append]
     simp [List.filter_cons]
    obtain ⟨CN, hCN⟩ : ∃ n, ((keys.take k).filter (Sr.holdsK m)).length = n := ⟨_, rfl⟩
    have hCN1 : CN ≤ 1000 := by
     rw [← hCN]
     have h1 := List.length_filter_le (Sr.holdsK m) (keys.take k)
     rw [List.length_take] at h1
     omega
    have HCN : Hid (((keys.take k).filter (Sr.holdsK m)).length = CN) := hCN
    rw [hCN]
    clear hrow b7 e7 e8 b8 hb38 hbw8 hbwr hCN
    cases hh : Sr.holdsK m q with
    | true =>
     rw [hh] at cC
     have HN : Hid (((keys.take (k + 1)).filter (Sr.holdsK m)).length = CN + 1) := by show _ = _; rw [HCNT.out, hh, List.length_append, HCN.out]; rfl
     clear hh HCNT
     go_wp2_with fail
     refine cC.mono ?_
     rintro e w9 ⟨rfl, hb9⟩
     clear cC
     have hb39 := HB38.out.trans (hb9.mono HB38.out.size)
     go_wp2_with fail
     go_roundw
     case rel => exact ⟨k + 1, by go_num, by rw [HN.out]; go_num, by omega, hb39⟩
     case measure => simp [intOf]; omega
    | false =>
     rw [hh] at cC
     have HN : Hid (((keys.take (k + 1)).filter (Sr.holdsK m)).length = CN) := by show _ = _; rw [HCNT.out, hh, List.length_append, HCN.out]; rfl
     clear hh HCNT
     go_wp2_with fail
     refine cC.mono ?_
     rintro e w9 ⟨rfl, hb9⟩
     clear cC
     have hb39 := HB38.out.trans (hb9.mono HB38.out.size)
     go_wp2_with fail
     go_roundw
     case rel => exact ⟨k + 1, by go_num, by rw [HN.out], by omega, hb39⟩
     case measure => simp [intOf]; omega
   ·obtain ⟨⟨⟨m0, m5⟩, m1, m2, m3, m4⟩, hbw8⟩ := KS.out wr hbr
    have hkK : k = KN := by omega
    have HAA : Hid (decide (0 < (((keys.take k).filter (Sr.holdsK m)).length : Int)) = A) := by
     show _ = _
     rw [← HA.out, hkK, List.take_of_length_le (by rw [HKN.out]; exact Nat.le_refl _)]
    obtain ⟨CN, hCN⟩ : ∃ n, ((keys.take k).filter (Sr.holdsK m)).length = n := ⟨_, rfl⟩
    rw [hCN] at HAA ⊢
    clear hCN hkK
    by_cases hc0 : 0 < CN
    ·have i1 : decide ((0 : Int) < (CN : Int)) = true := decide_eq_true (by omega)
     have i2 : (0 : Int) < (CN : Int) := by omega
     rw [i1] at HAA
     go_wp2_with fail
     go_ret
     exact ⟨by rw [← HAA.out]; rfl, hbw8⟩
    ·obtain rfl : CN = 0 := by omega
     go_wp2_with fail
     go_ret
     exact ⟨by rw [← HAA.out]; rfl, hbw8⟩
theorem rfound_15 (m : Sr.Lt) (name text : Sr.Tx) (n : Int) (set : List (Nat × Nat)) (keys : List Sr.Ky) (ys : List Value) (Ok : Nat → Prop) (tb : ByteArray) (fa : Option Addr) (fn fc : Nat) (mx : Int) (w : World) (hk : Kx w Ok (.mk 15 name text n set keys) ys) (htb : tb.data.toList = m.text) (ht : tb.size ≤ 90000) (hm : w.cell? ⟨1, 0, none⟩ = some (.int .i64 mx)) (hkl : keys.length ≤ 1000) (cI : ∀ W q xs, q ∈ keys → Below w.heap.size w W → Kx W Ok q xs → Calls Tryz.prog 11 #[.agg xs.toArray, .agg #[.int .i64 m.uid, .slice fa fn fc, .int .i64 m.day, .string tb], .int .i64 m.which, .int .i64 m.many, .int .i64 m.greatest] W fun e w' => e = .returned (.bool (Sr.holdsK m q)) ∧ Below W.heap.size W w') :
  Calls Tryz.prog 11 #[.agg ys.toArray, .agg #[.int .i64 m.uid, .slice fa fn fc, .int .i64 m.day, .string tb], .int .i64 m.which, .int .i64 m.many, .int .i64 m.greatest] w fun e w' => e = .returned (.bool (((keys.filter (Sr.holdsK m)).length : Int) == (keys.length : Int))) ∧ Below w.heap.size w w' := by
 have hmf : ∀ (fn : Fn) (first cap : Array Value) (w : World), (Instr.makeFunc fn first cap).run Tryz.prog w = .ok (.func fn first cap) w := fun _ _ _ _ => rfl
 cases hk with
 | mk code n nb tx set sv ks a c rows hst hkk ha =>
  obtain ⟨sa, sc, rfl, hsa⟩ := hst
  obtain ⟨SN, hSN⟩ : ∃ n, set.length = n := ⟨_, rfl⟩
  obtain ⟨KN, hKN⟩ : ∃ n, keys.length = n := ⟨_, rfl⟩
  rw [hSN, hKN, show ([.int .i64 15, .string nb, .string tx, .int .i64 n, .slice sa SN sc, .slice a KN c] : List Value).toArray = #[.int .i64 15, .string nb, .string tx, .int .i64 n, .slice sa SN sc, .slice a KN c] from rfl]
  obtain ⟨W2, hW2, hz2, e1, e2, hb2⟩ := two_boxes w #[.int .i64 15, .string nb, .string tx, .int .i64 n, .slice sa SN sc, .slice a KN c] #[.int .i64 m.uid, .slice fa fn fc, .int .i64 m.day, .string tb] 32 24
  have r3 : W2.cell? ⟨w.heap.size + 1, 3, none⟩ = some (.string tb) := rd_cell e2 rfl
  have hm2 := (hb2.cell (World.block_lt_of_cell? _ _ hm)).trans hm
  have cS := rsplit_is tb mx W2 (by omega) hm2
  obtain ⟨HT, hHT⟩ : ∃ x : ByteArray, ⟨(headOf tb.data.toList).toArray⟩ = x := ⟨_, rfl⟩
  obtain ⟨BT, hBT⟩ : ∃ x : ByteArray, ⟨(bodyOf tb.data.toList).toArray⟩ = x := ⟨_, rfl⟩
  have HBT : Hid (BT.data.toList = bodyOf m.text) := by show _ = _; rw [← hBT, htb]
  have HTB : Hid (tb.data.toList = m.text) := htb
  rw [hHT, hBT] at cS
  have HX2 : Hid (∀ W, Below W2.heap.size W2 W → W.heap[w.heap.size]? = some (.cells #[.int .i64 15, .string nb, .string tx, .int .i64 n, .slice sa SN sc, .slice a KN c] 32 (0, 0)) ∧ W.heap[w.heap.size + 1]? = some (.cells #[.int .i64 m.uid, .slice fa fn fc, .int .i64 m.day, .string tb] 24 (0, 0)) ∧ Below w.heap.size w W ∧ W.cell? ⟨1, 0, none⟩ = some (.int .i64 mx)) := fun W hb =>
   ⟨(hb.block _ (by omega)).trans e1, (hb.block _ (by omega)).trans e2, hb2.trans (hb.mono hb2.size), (hb.cell (World.block_lt_of_cell? _ _ hm2)).trans hm2⟩
  obtain ⟨A, hA⟩ : ∃ A, (((keys.filter (Sr.holdsK m)).length : Int) == (KN : Int)) = A := ⟨_, rfl⟩
  rw [hA]
  have HA : Hid ((((keys.filter (Sr.holdsK m)).length : Int) == (KN : Int)) = A) := hA
  have HCI : Hid ( ∀ W q xs, q ∈ keys → Below w.heap.size w W → Kx W Ok q xs → Calls Tryz.prog 11 #[.agg xs.toArray, .agg #[.int .i64 m.uid, .slice fa fn fc, .int .i64 m.day, .string tb], .int .i64 m.which, .int .i64 m.many, .int .i64 m.greatest] W fun e w' => e = .returned (.bool (Sr.holdsK m q)) ∧ Below W.heap.size W w') := cI
  have hKL : KN ≤ 1000 := by rw [← hKN]; exact hkl
  have HKN : Hid (keys.length = KN) := hKN
  have HROW : Hid (∀ (k : Nat) q, keys[k]? = some q → ∃ b o x0 x1 x2 x3 xa xk xc ya yk yc, a = some ⟨b, o, none⟩ ∧ ∀ W, Below w.heap.size w W → (W.cell? ⟨b, o + k * 6, none⟩ = some (.int .i64 x0) ∧ W.cell? ⟨b, o + k * 6 + 1, none⟩ = some (.string x1) ∧ W.cell? ⟨b, o + k * 6 + 2, none⟩ = some (.string x2) ∧ W.cell? ⟨b, o + k * 6 + 3, none⟩ = some (.int .i64 x3) ∧ W.cell? ⟨b, o + k * 6 + 4, none⟩ = some (.slice xa xk xc) ∧ W.cell? ⟨b, o + k * 6 + 5, none⟩ = some (.slice ya yk yc)) ∧ Kx W Ok q [.int .i64 x0, .string x1, .string x2, .int .i64 x3, .slice xa xk xc, .slice ya yk yc]) := fun k q hq => by
   have hq6 := hkk k q hq
   rcases ha with h | ⟨b, o, h1, h2, h3⟩
   ·rw [h] at hq; cases hq
   ·have hcl := h3 k q hq
    generalize rows k = xs at hq6 hcl
    obtain ⟨x0, x3, x1, x2, xa, xk, xc, ya, yk, yc, rfl⟩ := kx_cells hq6
    refine ⟨b, o, x0, x1, x2, x3, xa, xk, xc, ya, yk, yc, h1, fun W hW => ?_⟩
    have hlt : b < w.heap.size := World.block_lt_of_cell? _ _ (hcl 0 _ rfl)
    have hc := fun i x (h : [.int .i64 x0, .string x1, .string x2, .int .i64 x3, .slice xa xk xc, .slice ya yk yc][i]? = some x) => (hW.cell (p := ⟨b, o + k * 6 + i, none⟩) hlt).trans (hcl i x h)
    exact ⟨⟨hc 0 _ rfl, hc 1 _ rfl, hc 2 _ rfl, hc 3 _ rfl, hc 4 _ rfl, hc 5 _ rfl⟩, hq6.under hW⟩
  clear e1 e2 hb2 hm hm2 hBT hHT htb hkk ha hKN hSN hsa hA cI hkl
  go_enter Tryz.func11, Tryz.ntmps11
  go_wp2_with fail
  refine cS.mono ?_
  rintro e w3 ⟨rfl, hb3⟩
  obtain ⟨g1, g2, hbw, hm3⟩ := HX2.out w3 hb3
  have k0 := rd_cell (j := 0) g1 rfl
  have k1 := rd_cell (j := 1) g1 rfl
  have k2 := rd_cell (j := 2) g1 rfl
  have k3 := rd_cell (j := 3) g1 rfl
  have k4 := rd_cell (j := 4) g1 rfl
  have k5 := rd_cell (j := 5) g1 rfl
  have l0 := rd_cell (j := 0) g2 rfl
  have l1 := rd_cell (j := 1) g2 rfl
  have l2 := rd_cell (j := 2) g2 rfl
  have l3 := rd_cell (j := 3) g2 rfl
  have KS : Hid (∀ W, Below w3.heap.size w3 W → ((W.cell? ⟨w.heap.size, 0, none⟩ = some (.int .i64 15) ∧ W.cell? ⟨w.heap.size, 5, none⟩ = some (.slice a KN c)) ∧ (W.cell? ⟨w.heap.size + 1, 0, none⟩ = some (.int .i64 m.uid) ∧ W.cell? ⟨w.heap.size + 1, 1, none⟩ = some (.slice fa fn fc) ∧ W.cell? ⟨w.heap.size + 1, 2, none⟩ = some (.int .i64 m.day) ∧ W.cell? ⟨w.heap.size + 1, 3, none⟩ = some (.string tb))) ∧ Below w.heap.size w W) := fun W hb => by
   have hb0 : Below w.heap.size w W := hbw.trans (hb.mono hbw.size)
   have h1 := (hb.block w.heap.size (Array.getElem?_eq_some_iff.1 g1).1).trans g1
   have h2 := (hb.block (w.heap.size + 1) (Array.getElem?_eq_some_iff.1 g2).1).trans g2
   exact ⟨⟨⟨rd_cell h1 rfl, rd_cell h1 rfl⟩, ⟨rd_cell h2 rfl, rd_cell h2 rfl, rd_cell h2 rfl, rd_cell h2 rfl⟩⟩, hb0⟩
  clear cS g1 g2 hb3 HX2 hm3 hbw
  go_wp2_with fail
  go_loopw [18, 150] (fun j i wr => ∃ k : Nat, i = .int .i64 (k : Int) ∧ j = .int .i64 (((keys.take k).filter (Sr.holdsK m)).length : Int) ∧ k ≤ KN ∧ Below w3.heap.size w3 wr) (fun _ i _ => KN - (intOf i).toNat)
  case atStart => exact ⟨0, rfl, by simp, Nat.zero_le _, Below.refl _ _⟩
  case round =>
   obtain ⟨k, rfl, rfl, hk, hbr⟩ := hrel
   clear k0 k1 k2 k3 k4 k5 l0 l1 l2 l3
   by_cases hlt : k < KN
   ·have hkl : k < keys.length := by rw [HKN.out]; exact hlt
    obtain ⟨q, hq⟩ : ∃ q, keys[k] = q := ⟨_, rfl⟩
    obtain ⟨b, o, x0, x1, x2, x3, xa, xk, xc, ya, yk, yc, rfl, hrow⟩ := HROW.out k q (by rw [List.getElem?_eq_getElem hkl, hq])
    obtain ⟨⟨_, _⟩, hbwr⟩ := KS.out wr hbr
    obtain ⟨⟨y0, y1, y2, y3, y4, y5⟩, _⟩ := hrow wr hbwr
    have HROWK : Hid (∀ W, Below w.heap.size w W → Kx W Ok q [.int .i64 x0, .string x1, .string x2, .int .i64 x3, .slice xa xk xc, .slice ya yk yc]) := fun W h => (hrow W h).2
    have b7 : Below wr.heap.size wr (wr.alloc (.cells #[.int .i64 0, .string ⟨#[]⟩, .string ⟨#[]⟩, .int .i64 0, .slice none 0 0, .slice none 0 0] 32)) := (Below.refl _ _).alloc (Nat.le_refl _) _
    have e7 := heap_alloc_new wr (.cells #[.int .i64 0, .string ⟨#[]⟩, .string ⟨#[]⟩, .int .i64 0, .slice none 0 0, .slice none 0 0] 32)
    obtain ⟨W7, hW7⟩ : ∃ W, wr.alloc (.cells #[.int .i64 0, .string ⟨#[]⟩, .string ⟨#[]⟩, .int .i64 0, .slice none 0 0, .slice none 0 0] 32) = W := ⟨_, rfl⟩
    rw [hW7] at b7 e7
    obtain ⟨FB, hFB⟩ : ∃ X, wr.heap.size = X := ⟨_, rfl⟩
    rw [hFB] at e7
    obtain ⟨⟨a0, a1, a2, a3, a4, a5⟩, ⟨af0, af1, af2, af3, af4, af5⟩, _⟩ := six_facts e7 (.int .i64 x0) (.string x1) (.string x2) (.int .i64 x3) (.slice xa xk xc) (.slice ya yk yc)
    have e8 := six_set e7 (.int .i64 x0) (.string x1) (.string x2) (.int .i64 x3) (.slice xa xk xc) (.slice ya yk yc)
    obtain ⟨W8, hW8⟩ : ∃ W, ((((((W7.setCell ⟨FB, 0, none⟩ (.int .i64 x0)).setCell ⟨FB, 1, none⟩ (.string x1)).setCell ⟨FB, 2, none⟩ (.string x2)).setCell ⟨FB, 3, none⟩ (.int .i64 x3)).setCell ⟨FB, 4, none⟩ (.slice xa xk xc)).setCell ⟨FB, 5, none⟩ (.slice ya yk yc)) = W := ⟨_, rfl⟩
    have b8 : Below FB wr W8 := by rw [← hW8]; exact (six_but (rb := FB) (to_but (b7.mono (show FB ≤ wr.heap.size by omega))) (Nat.le_refl _) _ _ _ _ _ _).below (Nat.le_refl _) (Nat.le_refl _)
    rw [hW8] at e8
    have z0 := rd_cell (j := 0) e8 rfl
    have z1 := rd_cell (j := 1) e8 rfl
    have z2 := rd_cell (j := 2) e8 rfl
    have z3 := rd_cell (j := 3) e8 rfl
    have z4 := rd_cell (j := 4) e8 rfl
    have z5 := rd_cell (j := 5) e8 rfl
    have hb38 : Below w3.heap.size w3 W8 := hbr.trans (b8.mono (by have := hbr.size; omega))
    obtain ⟨⟨⟨m0, m5⟩, m1, m2, m3, m4⟩, hbw8⟩ := KS.out W8 hb38
    have cC := HCI.out W8 q [.int .i64 x0, .string x1, .string x2, .int .i64 x3, .slice xa xk xc, .slice ya yk yc] (by rw [← hq]; exact List.getElem_mem _) hbw8 (HROWK.out W8 hbw8)
    have HB38 : Hid (Below w3.heap.size w3 W8) := hb38
    have HCNT : Hid ((keys.take (k + 1)).filter (Sr.holdsK m) = (keys.take k).filter (Sr.holdsK m) ++ (if Sr.holdsK m q = true then [q] else [])) := by
     show _ = _
     rw [List.take_succ_eq_append_getElem hkl, hq, List.filter_append]
     simp [List.filter_cons]
    obtain ⟨CN, hCN⟩ : ∃ n, ((keys.take k).filter (Sr.holdsK m)).length = n := ⟨_, rfl⟩
    have hCN1 : CN ≤ 1000 := by
     rw [← hCN]
     have h1 := List.length_filter_le (Sr.holdsK m) (keys.take k)
     rw [List.length_take] at h1
     omega
    have HCN : Hid (((keys.take k).filter (Sr.holdsK m)).length = CN) := hCN
    rw [hCN]
    clear hrow b7 e7 e8 b8 hb38 hbw8 hbwr hCN
    cases hh : Sr.holdsK m q with
    | true =>
     rw [hh] at cC
     have HN : Hid (((keys.take (k + 1)).filter (Sr.holdsK m)).length = CN + 1) := by show _ = _; rw [HCNT.out, hh, List.length_append, HCN.out]; rfl
     clear hh HCNT
     go_wp2_with fail
     refine cC.mono ?_
     rintro e w9 ⟨rfl, hb9⟩
     clear cC
     have hb39 := HB38.out.trans (hb9.mono HB38.out.size)
     go_wp2_with fail
     go_roundw
     case rel => exact ⟨k + 1, by go_num, by rw [HN.out]; go_num, by omega, hb39⟩
     case measure => simp [intOf]; omega
    | false =>
     rw [hh] at cC
     have HN : Hid (((keys.take (k + 1)).filter (Sr.holdsK m)).length = CN) := by show _ = _; rw [HCNT.out, hh, List.length_append, HCN.out]; rfl
     clear hh HCNT
     go_wp2_with fail
     refine cC.mono ?_
     rintro e w9 ⟨rfl, hb9⟩
     clear cC
     have hb39 := HB38.out.trans (hb9.mono HB38.out.size)
     go_wp2_with fail
     go_roundw
     case rel => exact ⟨k + 1, by go_num, by rw [HN.out], by omega, hb39⟩
     case measure => simp [intOf]; omega
   ·obtain ⟨⟨⟨m0, m5⟩, m1, m2, m3, m4⟩, hbw8⟩ := KS.out wr hbr
    have hkK : k = KN := by omega
    have HAA : Hid (((((keys.take k).filter (Sr.holdsK m)).length : Int) == (KN : Int)) = A) := by
     show _ = _
     rw [← HA.out, hkK, List.take_of_length_le (by rw [HKN.out]; exact Nat.le_refl _)]
    obtain ⟨CN, hCN⟩ : ∃ n, ((keys.take k).filter (Sr.holdsK m)).length = n := ⟨_, rfl⟩
    rw [hCN] at HAA ⊢
    clear hCN hkK
    go_wp2_with fail
    go_ret
    exact ⟨by rw [← HAA.out]; first | rfl | simp, hbw8⟩
end Go.Proofs.YtogigccbnohjjaaGreatDoor
