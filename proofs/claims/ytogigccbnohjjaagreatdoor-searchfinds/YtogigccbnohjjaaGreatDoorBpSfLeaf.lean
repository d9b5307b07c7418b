/-
  What the document's Found does at a key that holds no others, and more.
-/
import Derived.Test.YtogigccbnohjjaaGreatDoorBpSearchFit
import Derived.Lib.Builder
namespace Go.Proofs.YtogigccbnohjjaaGreatDoor
open Go.RowKit Go.Proofs.Aid Go.Proofs.Sq Go.Proofs.Hd
set_option maxHeartbeats 20000000
set_option maxRecDepth 100000
theorem rfound_num (m : Sr.Lt) (code : Int) (name text : Sr.Tx) (n : Int) (set : List (Nat × Nat)) (keys : List Sr.Ky) (ys : List Value) (Ok : Nat → Prop) (tb : ByteArray) (fa : Option Addr) (fn fc : Nat) (mx : Int) (w : World) (hk : Kx w Ok (.mk code name text n set keys) ys) (htb : tb.data.toList = m.text) (ht : tb.size ≤ 90000) (hm : w.cell? ⟨1, 0, none⟩ = some (.int .i64 mx)) (A : Bool) (hc : (code = 1 ∧ A = true) ∨ (code = 6 ∧ A = decide (n < (tb.size : Int))) ∨ (code = 7 ∧ A = decide ((tb.size : Int) < n)) ∨ (code = 8 ∧ A = decide (m.day < n)) ∨ (code = 9 ∧ A = (m.day == n)) ∨ (code = 10 ∧ A = !decide (m.day < n))) :
  Calls Tryz.prog 11 #[.agg ys.toArray, .agg #[.int .i64 m.uid, .slice fa fn fc, .int .i64 m.day, .string tb], .int .i64 m.which, .int .i64 m.many, .int .i64 m.greatest] w fun e w' => e = .returned (.bool (A)) ∧ Below w.heap.size w w' := by
 have hmf : ∀ (fn : Fn) (first cap : Array Value) (w : World), (Instr.makeFunc fn first cap).run Tryz.prog w = .ok (.func fn first cap) w := fun _ _ _ _ => rfl
 cases hk with
 | mk code n nb tx set sv ks a c rows hst hkk ha =>
  obtain ⟨sa, sc, rfl, hsa⟩ := hst
  obtain ⟨SN, hSN⟩ : ∃ n, set.length = n := ⟨_, rfl⟩
  obtain ⟨KN, hKN⟩ : ∃ n, keys.length = n := ⟨_, rfl⟩
  rw [hSN, hKN, show ([.int .i64 code, .string nb, .string tx, .int .i64 n, .slice sa SN sc, .slice a KN c] : List Value).toArray = #[.int .i64 code, .string nb, .string tx, .int .i64 n, .slice sa SN sc, .slice a KN c] from rfl]
  obtain ⟨W2, hW2, hz2, e1, e2, hb2⟩ := two_boxes w #[.int .i64 code, .string nb, .string tx, .int .i64 n, .slice sa SN sc, .slice a KN c] #[.int .i64 m.uid, .slice fa fn fc, .int .i64 m.day, .string tb] 32 24
  have r3 : W2.cell? ⟨w.heap.size + 1, 3, none⟩ = some (.string tb) := rd_cell e2 rfl
  have hm2 := (hb2.cell (World.block_lt_of_cell? _ _ hm)).trans hm
  have cS := rsplit_is tb mx W2 (by omega) hm2
  obtain ⟨HT, hHT⟩ : ∃ x : ByteArray, ⟨(headOf tb.data.toList).toArray⟩ = x := ⟨_, rfl⟩
  obtain ⟨BT, hBT⟩ : ∃ x : ByteArray, ⟨(bodyOf tb.data.toList).toArray⟩ = x := ⟨_, rfl⟩
  have HBT : Hid (BT.data.toList = bodyOf m.text) := by show _ = _; rw [← hBT, htb]
  have HTB : Hid (tb.data.toList = m.text) := htb
  rw [hHT, hBT] at cS
  have HX2 : Hid (∀ W, Below W2.heap.size W2 W → W.heap[w.heap.size]? = some (.cells #[.int .i64 code, .string nb, .string tx, .int .i64 n, .slice sa SN sc, .slice a KN c] 32 (0, 0)) ∧ W.heap[w.heap.size + 1]? = some (.cells #[.int .i64 m.uid, .slice fa fn fc, .int .i64 m.day, .string tb] 24 (0, 0)) ∧ Below w.heap.size w W ∧ W.cell? ⟨1, 0, none⟩ = some (.int .i64 mx)) := fun W hb =>
   ⟨(hb.block _ (by omega)).trans e1, (hb.block _ (by omega)).trans e2, hb2.trans (hb.mono hb2.size), (hb.cell (World.block_lt_of_cell? _ _ hm2)).trans hm2⟩
  skip
  clear e1 e2 hb2 hm hm2 hBT hHT htb hkk ha hKN hSN hsa
  rcases hc with ⟨rfl, rfl⟩ | ⟨rfl, rfl⟩ | ⟨rfl, rfl⟩ | ⟨rfl, rfl⟩ | ⟨rfl, rfl⟩ | ⟨rfl, rfl⟩
  all_goals
   go_enter Tryz.func11, Tryz.ntmps11
   go_wp2_with fail
   refine cS.mono ?_
   rintro e w3 ⟨rfl, hb3⟩
   obtain ⟨g1, g2, hbw, hm3⟩ := HX2.out w3 hb3
   have k0 := rd_cell (j := 0) g1 rfl
   have k1 := rd_cell (j := 1) g1 rfl
   have k2 := rd_cell (j := 2) g1 rfl
   have k3 := rd_cell (j := 3) g1 rfl
   have k4 := rd_cell (j := 4) g1 rfl
   have k5 := rd_cell (j := 5) g1 rfl
   have l0 := rd_cell (j := 0) g2 rfl
   have l1 := rd_cell (j := 1) g2 rfl
   have l2 := rd_cell (j := 2) g2 rfl
   have l3 := rd_cell (j := 3) g2 rfl
   clear cS g1 g2 hb3 HX2 hm3
   go_wp2_with fail
   go_ret
   exact ⟨by first | rfl | simp, hbw⟩
theorem rfound_2 (m : Sr.Lt) (name text : Sr.Tx) (n : Int) (set : List (Nat × Nat)) (keys : List Sr.Ky) (ys : List Value) (Ok : Nat → Prop) (tb : ByteArray) (fa : Option Addr) (fn fc : Nat) (mx : Int) (w : World) (hk : Kx w Ok (.mk 2 name text n set keys) ys) (htb : tb.data.toList = m.text) (ht : tb.size ≤ 90000) (hm : w.cell? ⟨1, 0, none⟩ = some (.int .i64 mx)) (hF : Sl w (.slice fa fn fc) m.flags) (hFl : m.flags.length ≤ 1000) :
  Calls Tryz.prog 11 #[.agg ys.toArray, .agg #[.int .i64 m.uid, .slice fa fn fc, .int .i64 m.day, .string tb], .int .i64 m.which, .int .i64 m.many, .int .i64 m.greatest] w fun e w' => e = .returned (.bool (m.flags.contains name)) ∧ Below w.heap.size w w' := by
 have hmf : ∀ (fn : Fn) (first cap : Array Value) (w : World), (Instr.makeFunc fn first cap).run Tryz.prog w = .ok (.func fn first cap) w := fun _ _ _ _ => rfl
 cases hk with
 | mk code n nb tx set sv ks a c rows hst hkk ha =>
  obtain ⟨sa, sc, rfl, hsa⟩ := hst
  obtain ⟨SN, hSN⟩ : ∃ n, set.length = n := ⟨_, rfl⟩
  obtain ⟨KN, hKN⟩ : ∃ n, keys.length = n := ⟨_, rfl⟩
  rw [hSN, hKN, show ([.int .i64 2, .string nb, .string tx, .int .i64 n, .slice sa SN sc, .slice a KN c] : List Value).toArray = #[.int .i64 2, .string nb, .string tx, .int .i64 n, .slice sa SN sc, .slice a KN c] from rfl]
  obtain ⟨W2, hW2, hz2, e1, e2, hb2⟩ := two_boxes w #[.int .i64 2, .string nb, .string tx, .int .i64 n, .slice sa SN sc, .slice a KN c] #[.int .i64 m.uid, .slice fa fn fc, .int .i64 m.day, .string tb] 32 24
  have r3 : W2.cell? ⟨w.heap.size + 1, 3, none⟩ = some (.string tb) := rd_cell e2 rfl
  have hm2 := (hb2.cell (World.block_lt_of_cell? _ _ hm)).trans hm
  have cS := rsplit_is tb mx W2 (by omega) hm2
  obtain ⟨HT, hHT⟩ : ∃ x : ByteArray, ⟨(headOf tb.data.toList).toArray⟩ = x := ⟨_, rfl⟩
  obtain ⟨BT, hBT⟩ : ∃ x : ByteArray, ⟨(bodyOf tb.data.toList).toArray⟩ = x := ⟨_, rfl⟩
  have HBT : Hid (BT.data.toList = bodyOf m.text) := by show _ = _; rw [← hBT, htb]
  have HTB : Hid (tb.data.toList = m.text) := htb
  rw [hHT, hBT] at cS
  have HX2 : Hid (∀ W, Below W2.heap.size W2 W → W.heap[w.heap.size]? = some (.cells #[.int .i64 2, .string nb, .string tx, .int .i64 n, .slice sa SN sc, .slice a KN c] 32 (0, 0)) ∧ W.heap[w.heap.size + 1]? = some (.cells #[.int .i64 m.uid, .slice fa fn fc, .int .i64 m.day, .string tb] 24 (0, 0)) ∧ Below w.heap.size w W ∧ W.cell? ⟨1, 0, none⟩ = some (.int .i64 mx)) := fun W hb =>
   ⟨(hb.block _ (by omega)).trans e1, (hb.block _ (by omega)).trans e2, hb2.trans (hb.mono hb2.size), (hb.cell (World.block_lt_of_cell? _ _ hm2)).trans hm2⟩
  have HF : Hid (∀ W, Below w.heap.size w W → Sl W (.slice fa fn fc) m.flags) := fun W h => hF.below h (Nat.le_refl _)
  obtain ⟨A, hA⟩ : ∃ A, m.flags.contains nb.data.toList = A := ⟨_, rfl⟩
  rw [hA]
  have HA : Hid (m.flags.contains nb.data.toList = A) := hA
  clear e1 e2 hb2 hm hm2 hBT hHT htb hkk ha hKN hSN hsa hF hA
  go_enter Tryz.func11, Tryz.ntmps11
  go_wp2_with fail
  refine cS.mono ?_
  rintro e w3 ⟨rfl, hb3⟩
  obtain ⟨g1, g2, hbw, hm3⟩ := HX2.out w3 hb3
  have k0 := rd_cell (j := 0) g1 rfl
  have k1 := rd_cell (j := 1) g1 rfl
  have k2 := rd_cell (j := 2) g1 rfl
  have k3 := rd_cell (j := 3) g1 rfl
  have k4 := rd_cell (j := 4) g1 rfl
  have k5 := rd_cell (j := 5) g1 rfl
  have l0 := rd_cell (j := 0) g2 rfl
  have l1 := rd_cell (j := 1) g2 rfl
  have l2 := rd_cell (j := 2) g2 rfl
  have l3 := rd_cell (j := 3) g2 rfl
  have cC := ref_holds (.slice fa fn fc) m.flags nb w3 (HF.out w3 hbw) hFl
  rw [HA.out] at cC
  clear cS g1 g2 hb3 HX2 hm3
  go_wp2_with fail
  refine cC.mono ?_
  rintro e w4 ⟨rfl, hb4⟩
  clear cC
  go_wp2_with fail
  go_ret
  exact ⟨rfl, hbw⟩
theorem rfound_11 (m : Sr.Lt) (name text : Sr.Tx) (n : Int) (set : List (Nat × Nat)) (keys : List Sr.Ky) (ys : List Value) (Ok : Nat → Prop) (tb : ByteArray) (fa : Option Addr) (fn fc : Nat) (mx : Int) (w : World) (hk : Kx w Ok (.mk 11 name text n set keys) ys) (htb : tb.data.toList = m.text) (ht : tb.size ≤ 90000) (hm : w.cell? ⟨1, 0, none⟩ = some (.int .i64 mx)) (hset : set.length ≤ 1000) :
  Calls Tryz.prog 11 #[.agg ys.toArray, .agg #[.int .i64 m.uid, .slice fa fn fc, .int .i64 m.day, .string tb], .int .i64 m.which, .int .i64 m.many, .int .i64 m.greatest] w fun e w' => e = .returned (.bool (hasSet m.uid m.greatest (Sr.setI set))) ∧ Below w.heap.size w w' := by
 have hmf : ∀ (fn : Fn) (first cap : Array Value) (w : World), (Instr.makeFunc fn first cap).run Tryz.prog w = .ok (.func fn first cap) w := fun _ _ _ _ => rfl
 cases hk with
 | mk code n nb tx set sv ks a c rows hst hkk ha =>
  obtain ⟨sa, sc, rfl, hsa⟩ := hst
  obtain ⟨SN, hSN⟩ : ∃ n, set.length = n := ⟨_, rfl⟩
  obtain ⟨KN, hKN⟩ : ∃ n, keys.length = n := ⟨_, rfl⟩
  rw [hSN, hKN, show ([.int .i64 11, .string nb, .string tx, .int .i64 n, .slice sa SN sc, .slice a KN c] : List Value).toArray = #[.int .i64 11, .string nb, .string tx, .int .i64 n, .slice sa SN sc, .slice a KN c] from rfl]
  obtain ⟨W2, hW2, hz2, e1, e2, hb2⟩ := two_boxes w #[.int .i64 11, .string nb, .string tx, .int .i64 n, .slice sa SN sc, .slice a KN c] #[.int .i64 m.uid, .slice fa fn fc, .int .i64 m.day, .string tb] 32 24
  have r3 : W2.cell? ⟨w.heap.size + 1, 3, none⟩ = some (.string tb) := rd_cell e2 rfl
  have hm2 := (hb2.cell (World.block_lt_of_cell? _ _ hm)).trans hm
  have cS := rsplit_is tb mx W2 (by omega) hm2
  obtain ⟨HT, hHT⟩ : ∃ x : ByteArray, ⟨(headOf tb.data.toList).toArray⟩ = x := ⟨_, rfl⟩
  obtain ⟨BT, hBT⟩ : ∃ x : ByteArray, ⟨(bodyOf tb.data.toList).toArray⟩ = x := ⟨_, rfl⟩
  have HBT : Hid (BT.data.toList = bodyOf m.text) := by show _ = _; rw [← hBT, htb]
  have HTB : Hid (tb.data.toList = m.text) := htb
  rw [hHT, hBT] at cS
  have HX2 : Hid (∀ W, Below W2.heap.size W2 W → W.heap[w.heap.size]? = some (.cells #[.int .i64 11, .string nb, .string tx, .int .i64 n, .slice sa SN sc, .slice a KN c] 32 (0, 0)) ∧ W.heap[w.heap.size + 1]? = some (.cells #[.int .i64 m.uid, .slice fa fn fc, .int .i64 m.day, .string tb] 24 (0, 0)) ∧ Below w.heap.size w W ∧ W.cell? ⟨1, 0, none⟩ = some (.int .i64 mx)) := fun W hb =>
   ⟨(hb.block _ (by omega)).trans e1, (hb.block _ (by omega)).trans e2, hb2.trans (hb.mono hb2.size), (hb.cell (World.block_lt_of_cell? _ _ hm2)).trans hm2⟩
  have HS : Hid (∀ W, Below w.heap.size w W → Rg W (.slice sa SN sc) (Sr.setI set)) := fun W hb => by
   have h1 : StS W (fun q => Ok q ∧ q < w.heap.size) (.slice sa SN sc) set := by
    rw [← hSN]
    exact StS.kept (Ok := Ok) ⟨sa, sc, rfl, hsa⟩ fun q hq hlt => ⟨⟨hq, hlt⟩, hb.block q hlt⟩
   obtain ⟨a', c', h2, h3⟩ := h1
   refine ⟨a', c', by rw [h2]; simp [Sr.setI], ?_⟩
   rcases h3 with rfl | ⟨b, o, h4, _, h5⟩
   ·exact Or.inl rfl
   ·refine Or.inr ⟨b, o, h4, fun j x hj => ?_⟩
    unfold Sr.setI at hj
    rw [List.getElem?_map] at hj
    cases hs : set[j]? with
    | none => rw [hs] at hj; cases hj
    | some y => rw [hs] at hj; cases hj; exact h5 j y hs
  have HSL : Hid ((Sr.setI set).length ≤ 1000) := by show _ ≤ _; unfold Sr.setI; rw [List.length_map]; exact hset
  obtain ⟨A, hA⟩ : ∃ A, hasSet m.uid m.greatest (Sr.setI set) = A := ⟨_, rfl⟩
  rw [hA]
  have HA : Hid (hasSet m.uid m.greatest (Sr.setI set) = A) := hA
  clear e1 e2 hb2 hm hm2 hBT hHT htb hkk ha hKN hSN hsa hset hA
  go_enter Tryz.func11, Tryz.ntmps11
  go_wp2_with fail
  refine cS.mono ?_
  rintro e w3 ⟨rfl, hb3⟩
  obtain ⟨g1, g2, hbw, hm3⟩ := HX2.out w3 hb3
  have k0 := rd_cell (j := 0) g1 rfl
  have k1 := rd_cell (j := 1) g1 rfl
  have k2 := rd_cell (j := 2) g1 rfl
  have k3 := rd_cell (j := 3) g1 rfl
  have k4 := rd_cell (j := 4) g1 rfl
  have k5 := rd_cell (j := 5) g1 rfl
  have l0 := rd_cell (j := 0) g2 rfl
  have l1 := rd_cell (j := 1) g2 rfl
  have l2 := rd_cell (j := 2) g2 rfl
  have l3 := rd_cell (j := 3) g2 rfl
  have cC := ref_inset (.slice sa SN sc) (Sr.setI set) (m.uid) (m.greatest) w3 (HS.out w3 hbw) HSL.out
  rw [HA.out] at cC
  clear cS g1 g2 hb3 HX2 hm3
  go_wp2_with fail
  refine cC.mono ?_
  rintro e w4 ⟨rfl, hb4⟩
  clear cC
  go_wp2_with fail
  go_ret
  exact ⟨rfl, hbw.trans (hb4.mono hbw.size)⟩
theorem rfound_12 (m : Sr.Lt) (name text : Sr.Tx) (n : Int) (set : List (Nat × Nat)) (keys : List Sr.Ky) (ys : List Value) (Ok : Nat → Prop) (tb : ByteArray) (fa : Option Addr) (fn fc : Nat) (mx : Int) (w : World) (hk : Kx w Ok (.mk 12 name text n set keys) ys) (htb : tb.data.toList = m.text) (ht : tb.size ≤ 90000) (hm : w.cell? ⟨1, 0, none⟩ = some (.int .i64 mx)) (hset : set.length ≤ 1000) :
  Calls Tryz.prog 11 #[.agg ys.toArray, .agg #[.int .i64 m.uid, .slice fa fn fc, .int .i64 m.day, .string tb], .int .i64 m.which, .int .i64 m.many, .int .i64 m.greatest] w fun e w' => e = .returned (.bool (hasSet m.which m.many (Sr.setI set))) ∧ Below w.heap.size w w' := by
 have hmf : ∀ (fn : Fn) (first cap : Array Value) (w : World), (Instr.makeFunc fn first cap).run Tryz.prog w = .ok (.func fn first cap) w := fun _ _ _ _ => rfl
 cases hk with
 | mk code n nb tx set sv ks a c rows hst hkk ha =>
  obtain ⟨sa, sc, rfl, hsa⟩ := hst
  obtain ⟨SN, hSN⟩ : ∃ n, set.length = n := ⟨_, rfl⟩
  obtain ⟨KN, hKN⟩ : ∃ n, keys.length = n := ⟨_, rfl⟩
  rw [hSN, hKN, show ([.int .i64 12, .string nb, .string tx, .int .i64 n, .slice sa SN sc, .slice a KN c] : List Value).toArray = #[.int .i64 12, .string nb, .string tx, .int .i64 n, .slice sa SN sc, .slice a KN c] from rfl]
  obtain ⟨W2, hW2, hz2, e1, e2, hb2⟩ := two_boxes w #[.int .i64 12, .string nb, .string tx, .int .i64 n, .slice sa SN sc, .slice a KN c] #[.int .i64 m.uid, .slice fa fn fc, .int .i64 m.day, .string tb] 32 24
  have r3 : W2.cell? ⟨w.heap.size + 1, 3, none⟩ = some (.string tb) := rd_cell e2 rfl
  have hm2 := (hb2.cell (World.block_lt_of_cell? _ _ hm)).trans hm
  have cS := rsplit_is tb mx W2 (by omega) hm2
  obtain ⟨HT, hHT⟩ : ∃ x : ByteArray, ⟨(headOf tb.data.toList).toArray⟩ = x := ⟨_, rfl⟩
  obtain ⟨BT, hBT⟩ : ∃ x : ByteArray, ⟨(bodyOf tb.data.toList).toArray⟩ = x := ⟨_, rfl⟩
  have HBT : Hid (BT.data.toList = bodyOf m.text) := by show _ = _; rw [← hBT, htb]
  have HTB : Hid (tb.data.toList = m.text) := htb
  rw [hHT, hBT] at cS
  have HX2 : Hid (∀ W, Below W2.heap.size W2 W → W.heap[w.heap.size]? = some (.cells #[.int .i64 12, .string nb, .string tx, .int .i64 n, .slice sa SN sc, .slice a KN c] 32 (0, 0)) ∧ W.heap[w.heap.size + 1]? = some (.cells #[.int .i64 m.uid, .slice fa fn fc, .int .i64 m.day, .string tb] 24 (0, 0)) ∧ Below w.heap.size w W ∧ W.cell? ⟨1, 0, none⟩ = some (.int .i64 mx)) := fun W hb =>
   ⟨(hb.block _ (by omega)).trans e1, (hb.block _ (by omega)).trans e2, hb2.trans (hb.mono hb2.size), (hb.cell (World.block_lt_of_cell? _ _ hm2)).trans hm2⟩
  have HS : Hid (∀ W, Below w.heap.size w W → Rg W (.slice sa SN sc) (Sr.setI set)) := fun W hb => by
   have h1 : StS W (fun q => Ok q ∧ q < w.heap.size) (.slice sa SN sc) set := by
    rw [← hSN]
    exact StS.kept (Ok := Ok) ⟨sa, sc, rfl, hsa⟩ fun q hq hlt => ⟨⟨hq, hlt⟩, hb.block q hlt⟩
   obtain ⟨a', c', h2, h3⟩ := h1
   refine ⟨a', c', by rw [h2]; simp [Sr.setI], ?_⟩
   rcases h3 with rfl | ⟨b, o, h4, _, h5⟩
   ·exact Or.inl rfl
   ·refine Or.inr ⟨b, o, h4, fun j x hj => ?_⟩
    unfold Sr.setI at hj
    rw [List.getElem?_map] at hj
    cases hs : set[j]? with
    | none => rw [hs] at hj; cases hj
    | some y => rw [hs] at hj; cases hj; exact h5 j y hs
  have HSL : Hid ((Sr.setI set).length ≤ 1000) := by show _ ≤ _; unfold Sr.setI; rw [List.length_map]; exact hset
  obtain ⟨A, hA⟩ : ∃ A, hasSet m.which m.many (Sr.setI set) = A := ⟨_, rfl⟩
  rw [hA]
  have HA : Hid (hasSet m.which m.many (Sr.setI set) = A) := hA
  clear e1 e2 hb2 hm hm2 hBT hHT htb hkk ha hKN hSN hsa hset hA
  go_enter Tryz.func11, Tryz.ntmps11
  go_wp2_with fail
  refine cS.mono ?_
  rintro e w3 ⟨rfl, hb3⟩
  obtain ⟨g1, g2, hbw, hm3⟩ := HX2.out w3 hb3
  have k0 := rd_cell (j := 0) g1 rfl
  have k1 := rd_cell (j := 1) g1 rfl
  have k2 := rd_cell (j := 2) g1 rfl
  have k3 := rd_cell (j := 3) g1 rfl
  have k4 := rd_cell (j := 4) g1 rfl
  have k5 := rd_cell (j := 5) g1 rfl
  have l0 := rd_cell (j := 0) g2 rfl
  have l1 := rd_cell (j := 1) g2 rfl
  have l2 := rd_cell (j := 2) g2 rfl
  have l3 := rd_cell (j := 3) g2 rfl
  have cC := ref_inset (.slice sa SN sc) (Sr.setI set) (m.which) (m.many) w3 (HS.out w3 hbw) HSL.out
  rw [HA.out] at cC
  clear cS g1 g2 hb3 HX2 hm3
  go_wp2_with fail
  refine cC.mono ?_
  rintro e w4 ⟨rfl, hb4⟩
  clear cC
  go_wp2_with fail
  go_ret
  exact ⟨rfl, hbw.trans (hb4.mono hbw.size)⟩
theorem rfound_4 (m : Sr.Lt) (name text : Sr.Tx) (n : Int) (set : List (Nat × Nat)) (keys : List Sr.Ky) (ys : List Value) (Ok : Nat → Prop) (tb : ByteArray) (fa : Option Addr) (fn fc : Nat) (mx : Int) (w : World) (hk : Kx w Ok (.mk 4 name text n set keys) ys) (htb : tb.data.toList = m.text) (ht : tb.size ≤ 90000) (hm : w.cell? ⟨1, 0, none⟩ = some (.int .i64 mx)) (hx : text.length ≤ 900000) :
  Calls Tryz.prog 11 #[.agg ys.toArray, .agg #[.int .i64 m.uid, .slice fa fn fc, .int .i64 m.day, .string tb], .int .i64 m.which, .int .i64 m.many, .int .i64 m.greatest] w fun e w' => e = .returned (.bool (Sr.hasT (bodyOf m.text) text)) ∧ Below w.heap.size w w' := by
 have hmf : ∀ (fn : Fn) (first cap : Array Value) (w : World), (Instr.makeFunc fn first cap).run Tryz.prog w = .ok (.func fn first cap) w := fun _ _ _ _ => rfl
 cases hk with
 | mk code n nb tx set sv ks a c rows hst hkk ha =>
  obtain ⟨sa, sc, rfl, hsa⟩ := hst
  obtain ⟨SN, hSN⟩ : ∃ n, set.length = n := ⟨_, rfl⟩
  obtain ⟨KN, hKN⟩ : ∃ n, keys.length = n := ⟨_, rfl⟩
  rw [hSN, hKN, show ([.int .i64 4, .string nb, .string tx, .int .i64 n, .slice sa SN sc, .slice a KN c] : List Value).toArray = #[.int .i64 4, .string nb, .string tx, .int .i64 n, .slice sa SN sc, .slice a KN c] from rfl]
  obtain ⟨W2, hW2, hz2, e1, e2, hb2⟩ := two_boxes w #[.int .i64 4, .string nb, .string tx, .int .i64 n, .slice sa SN sc, .slice a KN c] #[.int .i64 m.uid, .slice fa fn fc, .int .i64 m.day, .string tb] 32 24
  have r3 : W2.cell? ⟨w.heap.size + 1, 3, none⟩ = some (.string tb) := rd_cell e2 rfl
  have hm2 := (hb2.cell (World.block_lt_of_cell? _ _ hm)).trans hm
  have cS := rsplit_is tb mx W2 (by omega) hm2
  obtain ⟨HT, hHT⟩ : ∃ x : ByteArray, ⟨(headOf tb.data.toList).toArray⟩ = x := ⟨_, rfl⟩
  obtain ⟨BT, hBT⟩ : ∃ x : ByteArray, ⟨(bodyOf tb.data.toList).toArray⟩ = x := ⟨_, rfl⟩
  have HBT : Hid (BT.data.toList = bodyOf m.text) := by show _ = _; rw [← hBT, htb]
  have HTB : Hid (tb.data.toList = m.text) := htb
  rw [hHT, hBT] at cS
  have HX2 : Hid (∀ W, Below W2.heap.size W2 W → W.heap[w.heap.size]? = some (.cells #[.int .i64 4, .string nb, .string tx, .int .i64 n, .slice sa SN sc, .slice a KN c] 32 (0, 0)) ∧ W.heap[w.heap.size + 1]? = some (.cells #[.int .i64 m.uid, .slice fa fn fc, .int .i64 m.day, .string tb] 24 (0, 0)) ∧ Below w.heap.size w W ∧ W.cell? ⟨1, 0, none⟩ = some (.int .i64 mx)) := fun W hb =>
   ⟨(hb.block _ (by omega)).trans e1, (hb.block _ (by omega)).trans e2, hb2.trans (hb.mono hb2.size), (hb.cell (World.block_lt_of_cell? _ _ hm2)).trans hm2⟩
  have HBS : Hid (BT.size ≤ tb.size) := by show _ ≤ _; rw [← list_size, ← list_size tb, ← hBT]; unfold bodyOf; simp
  obtain ⟨A, hA⟩ : ∃ A, Sr.hasT (bodyOf m.text) tx.data.toList = A := ⟨_, rfl⟩
  rw [hA]
  have HA : Hid (Sr.hasT (bodyOf m.text) tx.data.toList = A) := hA
  clear e1 e2 hb2 hm hm2 hBT hHT htb hkk ha hKN hSN hsa hA
  go_enter Tryz.func11, Tryz.ntmps11
  go_wp2_with fail
  refine cS.mono ?_
  rintro e w3 ⟨rfl, hb3⟩
  obtain ⟨g1, g2, hbw, hm3⟩ := HX2.out w3 hb3
  have k0 := rd_cell (j := 0) g1 rfl
  have k1 := rd_cell (j := 1) g1 rfl
  have k2 := rd_cell (j := 2) g1 rfl
  have k3 := rd_cell (j := 3) g1 rfl
  have k4 := rd_cell (j := 4) g1 rfl
  have k5 := rd_cell (j := 5) g1 rfl
  have l0 := rd_cell (j := 0) g2 rfl
  have l1 := rd_cell (j := 1) g2 rfl
  have l2 := rd_cell (j := 2) g2 rfl
  have l3 := rd_cell (j := 3) g2 rfl
  have cC := rfhas w.heap.size BT tx mx w3 (by have := HBS.out; omega) (by rw [← list_size]; exact hx) k2 hm3
  rw [HBT.out] at cC
  rw [HA.out] at cC
  clear cS g1 g2 hb3 HX2 hm3
  go_wp2_with fail
  refine cC.mono ?_
  rintro e w4 ⟨rfl, hb4⟩
  clear cC
  go_wp2_with fail
  go_ret
  exact ⟨rfl, hbw.trans (hb4.mono hbw.size)⟩
theorem rfound_5 (m : Sr.Lt) (name text : Sr.Tx) (n : Int) (set : List (Nat × Nat)) (keys : List Sr.Ky) (ys : List Value) (Ok : Nat → Prop) (tb : ByteArray) (fa : Option Addr) (fn fc : Nat) (mx : Int) (w : World) (hk : Kx w Ok (.mk 5 name text n set keys) ys) (htb : tb.data.toList = m.text) (ht : tb.size ≤ 90000) (hm : w.cell? ⟨1, 0, none⟩ = some (.int .i64 mx)) (hx : text.length ≤ 900000) :
  Calls Tryz.prog 11 #[.agg ys.toArray, .agg #[.int .i64 m.uid, .slice fa fn fc, .int .i64 m.day, .string tb], .int .i64 m.which, .int .i64 m.many, .int .i64 m.greatest] w fun e w' => e = .returned (.bool (Sr.hasT m.text text)) ∧ Below w.heap.size w w' := by
 have hmf : ∀ (fn : Fn) (first cap : Array Value) (w : World), (Instr.makeFunc fn first cap).run Tryz.prog w = .ok (.func fn first cap) w := fun _ _ _ _ => rfl
 cases hk with
 | mk code n nb tx set sv ks a c rows hst hkk ha =>
  obtain ⟨sa, sc, rfl, hsa⟩ := hst
  obtain ⟨SN, hSN⟩ : ∃ n, set.length = n := ⟨_, rfl⟩
  obtain ⟨KN, hKN⟩ : ∃ n, keys.length = n := ⟨_, rfl⟩
  rw [hSN, hKN, show ([.int .i64 5, .string nb, .string tx, .int .i64 n, .slice sa SN sc, .slice a KN c] : List Value).toArray = #[.int .i64 5, .string nb, .string tx, .int .i64 n, .slice sa SN sc, .slice a KN c] from rfl]
  obtain ⟨W2, hW2, hz2, e1, e2, hb2⟩ := two_boxes w #[.int .i64 5, .string nb, .string tx, .int .i64 n, .slice sa SN sc, .slice a KN c] #[.int .i64 m.uid, .slice fa fn fc, .int .i64 m.day, .string tb] 32 24
  have r3 : W2.cell? ⟨w.heap.size + 1, 3, none⟩ = some (.string tb) := rd_cell e2 rfl
  have hm2 := (hb2.cell (World.block_lt_of_cell? _ _ hm)).trans hm
  have cS := rsplit_is tb mx W2 (by omega) hm2
  obtain ⟨HT, hHT⟩ : ∃ x : ByteArray, ⟨(headOf tb.data.toList).toArray⟩ = x := ⟨_, rfl⟩
  obtain ⟨BT, hBT⟩ : ∃ x : ByteArray, ⟨(bodyOf tb.data.toList).toArray⟩ = x := ⟨_, rfl⟩
  have HBT : Hid (BT.data.toList = bodyOf m.text) := by show _ = _; rw [← hBT, htb]
  have HTB : Hid (tb.data.toList = m.text) := htb
  rw [hHT, hBT] at cS
  have HX2 : Hid (∀ W, Below W2.heap.size W2 W → W.heap[w.heap.size]? = some (.cells #[.int .i64 5, .string nb, .string tx, .int .i64 n, .slice sa SN sc, .slice a KN c] 32 (0, 0)) ∧ W.heap[w.heap.size + 1]? = some (.cells #[.int .i64 m.uid, .slice fa fn fc, .int .i64 m.day, .string tb] 24 (0, 0)) ∧ Below w.heap.size w W ∧ W.cell? ⟨1, 0, none⟩ = some (.int .i64 mx)) := fun W hb =>
   ⟨(hb.block _ (by omega)).trans e1, (hb.block _ (by omega)).trans e2, hb2.trans (hb.mono hb2.size), (hb.cell (World.block_lt_of_cell? _ _ hm2)).trans hm2⟩
  have HBS : Hid (BT.size ≤ tb.size) := by show _ ≤ _; rw [← list_size, ← list_size tb, ← hBT]; unfold bodyOf; simp
  obtain ⟨A, hA⟩ : ∃ A, Sr.hasT m.text tx.data.toList = A := ⟨_, rfl⟩
  rw [hA]
  have HA : Hid (Sr.hasT m.text tx.data.toList = A) := hA
  clear e1 e2 hb2 hm hm2 hBT hHT htb hkk ha hKN hSN hsa hA
  go_enter Tryz.func11, Tryz.ntmps11
  go_wp2_with fail
  refine cS.mono ?_
  rintro e w3 ⟨rfl, hb3⟩
  obtain ⟨g1, g2, hbw, hm3⟩ := HX2.out w3 hb3
  have k0 := rd_cell (j := 0) g1 rfl
  have k1 := rd_cell (j := 1) g1 rfl
  have k2 := rd_cell (j := 2) g1 rfl
  have k3 := rd_cell (j := 3) g1 rfl
  have k4 := rd_cell (j := 4) g1 rfl
  have k5 := rd_cell (j := 5) g1 rfl
  have l0 := rd_cell (j := 0) g2 rfl
  have l1 := rd_cell (j := 1) g2 rfl
  have l2 := rd_cell (j := 2) g2 rfl
  have l3 := rd_cell (j := 3) g2 rfl
  have cC := rfhas w.heap.size tb tx mx w3 (by omega) (by rw [← list_size]; exact hx) k2 hm3
  rw [HTB.out] at cC
  rw [HA.out] at cC
  clear cS g1 g2 hb3 HX2 hm3
  go_wp2_with fail
  refine cC.mono ?_
  rintro e w4 ⟨rfl, hb4⟩
  clear cC
  go_wp2_with fail
  go_ret
  exact ⟨rfl, hbw.trans (hb4.mono hbw.size)⟩
end Go.Proofs.YtogigccbnohjjaaGreatDoor
namespace Go.Proofs
open Go.RowKit
end Go.Proofs
namespace Go.Proofs.YtogigccbnohjjaaGreatDoor
open Go.RowKit Go.Proofs.Aid Go.Proofs.Hd Go.Proofs.Sq
theorem cat_list (a b : ByteArray) : (a ++ b).data.toList = a.data.toList ++ b.data.toList := by rw [Joins.data_append]
theorem cat_size (a b : ByteArray) : (a ++ b).size = a.size + b.size := by rw [Lib.size_eq, cat_list, List.length_append, ← Lib.size_eq, ← Lib.size_eq]
end Go.Proofs.YtogigccbnohjjaaGreatDoor
namespace Go.Proofs.YtogigccbnohjjaaGreatDoor
open Go.RowKit Go.Proofs.Aid Go.Proofs.Hd Go.Proofs.Sq
theorem fg_nil (w : World) : Fg w (.slice none 0 0) [] := ⟨none, 0, rfl, Or.inl rfl⟩
theorem fieldsFrom_err : ∀ (ps : List Tx) (i : Nat) (l : List Hd.Fd), (fieldsFrom i l ps).1.1 ≠ 0 → (fieldsFrom i l ps).2 = []
 | [], _, _, h => absurd rfl h
 | p :: ps, i, l, h => by
  rw [fieldsFrom_cons] at h ⊢
  split at h
  ·next h0 => rw [if_pos h0]; exact fieldsFrom_err ps _ _ h
  ·next h0 => rw [if_neg h0]
end Go.Proofs.YtogigccbnohjjaaGreatDoor
namespace Go.Proofs.YtogigccbnohjjaaGreatDoor
open Go.RowKit Go.Proofs.Aid Go.Proofs.Hd Go.Proofs.Sq
def faultAt (F : (Int × Nat) × List Hd.Fd) : Int := if F.1.1 = 0 then -1 else (F.1.2 : Int)
def Told (w : World) (F : (Int × Nat) × List Hd.Fd) (e : Ending) (w' : World) : Prop :=
 Below w.heap.size w w' ∧ ∃ v L, e = .returned (.tuple #[v, .agg #[.int .i64 F.1.1, .int .i64 (faultAt F)]]) ∧ Fg w' v L ∧ L.map tx = F.2
end Go.Proofs.YtogigccbnohjjaaGreatDoor
namespace Go.Proofs.YtogigccbnohjjaaGreatDoor
open Go.RowKit Go.Proofs.Aid Go.Proofs.Hd
theorem bare_last {c : UInt8} {t : Tx} (h : blk c = true) : Hd.bare (t ++ [c]) = Hd.bare t := by
 have h' : ([32, 9] : Tx).contains c = true := h
 unfold Hd.bare Lib.trimS Lib.trimRightS
 rw [List.reverse_append, List.reverse_singleton, List.singleton_append, List.dropWhile_cons_of_pos h']
theorem bare_head {c : UInt8} {t : Tx} (h : blk c = true) : Hd.bare (c :: t) = Hd.bare t := by
 have h' : ([32, 9] : Tx).contains c = true := h
 unfold Hd.bare Lib.trimS Lib.trimRightS Lib.trimLeftS
 rw [List.reverse_cons, List.dropWhile_append]
 split
 ·rename_i he
  rw [List.isEmpty_iff.1 he, List.dropWhile_cons_of_pos h']
  rfl
 ·rw [List.reverse_append, List.reverse_singleton, List.singleton_append, List.dropWhile_cons_of_pos h']
theorem rblank_is (c : UInt8) (w : World) : Calls Tryz.prog 48 #[.int .u8 (c.toNat : Int)] w fun e w' => e = .returned (.bool (blk c)) ∧ w' = w := by
 by_cases h1 : c = 32
 ·subst h1
  go_enter Tryz.func48, Tryz.ntmps48
  go_wp2_with fail
  go_ret
  exact ⟨rfl, rfl⟩
 ·have q1 : ((c.toNat : Int) == 32) = false := by rw [beq_eq_false_iff_ne]; intro h; exact h1 (UInt8.toNat_inj.1 (by show c.toNat = 32; omega))
  by_cases h2 : c = 9
  ·subst h2
   go_enter Tryz.func48, Tryz.ntmps48
   go_wp2_with fail
   go_ret
   exact ⟨rfl, rfl⟩
  ·have q2 : ((c.toNat : Int) == 9) = false := by rw [beq_eq_false_iff_ne]; intro h; exact h2 (UInt8.toNat_inj.1 (by show c.toNat = 9; omega))
   have hb : blk c = false := by simp [blk, h1, h2]
   rw [hb]
   clear hb
   go_enter Tryz.func48, Tryz.ntmps48
   go_wp2_with fail
   go_ret
   exact ⟨rfl, rfl⟩
def strLen : Value → Nat
 | .string t => t.size
 | _ => 0
theorem empty_no {l : Tx} (h : ¬ l = []) : l.isEmpty = false := by cases l with
 | nil => exact absurd rfl h
 | cons c r => rfl
theorem size_pos {t : ByteArray} (h : ¬ t.data.toList = []) : 0 < t.size := by
 rw [← list_size]; exact List.length_pos_iff.2 h
theorem cons_of (t : ByteArray) (h : 0 < t.size) : t.data.toList = t[0] :: (t.extract 1 t.size).data.toList := by
 rw [Lib.extract_to_end]
 have hl := list_size t
 have := List.drop_eq_getElem_cons (l := t.data.toList) (i := 0) (by omega)
 exact this
theorem snoc_of (t : ByteArray) (h : 0 < t.size) (h1 : t.size - 1 < t.size) : t.data.toList = (t.extract 0 (t.size - 1)).data.toList ++ [t[t.size - 1]] := by
 rw [Lib.extract_from_zero]
 have hl := list_size t
 have := List.take_append_getElem (l := t.data.toList) (i := t.size - 1) (by omega)
 rw [show t.size - 1 + 1 = t.data.toList.length by omega, List.take_length] at this
 exact this.symm
theorem rbare_is (s : ByteArray) (w : World) (hs : s.size ≤ 1000000) :
  Calls Tryz.prog 49 #[.string s] w fun e w' => e = .returned (.string ⟨(Hd.bare s.data.toList).toArray⟩) ∧ w' = w := by
 obtain ⟨R, hR⟩ : ∃ R : ByteArray, ⟨(Hd.bare s.data.toList).toArray⟩ = R := ⟨_, rfl⟩
 rw [hR]
 have HR : Hid (Hd.bare s.data.toList = R.data.toList) := by show _ = _; rw [← hR]
 clear hR
 go_enter Tryz.func49, Tryz.ntmps49
 go_wp2_with fail
 go_loopw [0] (fun v wr => ∃ t : ByteArray, v = .string t ∧ t.size ≤ 1000000 ∧ Hid (Hd.bare t.data.toList = R.data.toList) ∧ wr = w) (fun v _ => strLen v)
 case atStart => exact ⟨s, rfl, hs, HR.out, rfl⟩
 case round =>
  obtain ⟨t, rfl, ht, HT, hw⟩ := hrel
  obtain rfl : w = wr := hw.symm
  have hl := list_size t
  by_cases h0 : t.data.toList = []
  ·obtain rfl : t = ⟨#[]⟩ := text_ext h0
   obtain rfl : R = ⟨#[]⟩ := text_ext HT.out.symm
   clear h0 hl
   go_wp2_with fail
   go_loopw [0] (fun v wr => v = .string ⟨#[]⟩ ∧ wr = w) (fun v _ => strLen v)
   case atStart => exact ⟨rfl, rfl⟩
   case round =>
    obtain ⟨rfl, hw⟩ := hrel
    obtain rfl : w = wr := hw.symm
    go_wp2_with fail
    go_ret
    exact ⟨rfl, rfl⟩
  ·have hv1 : ¬ t.toList = [] := by rw [Lib.toList_data]; exact h0
   have hv2 : t.toList.isEmpty = false := by rw [Lib.toList_data]; exact empty_no h0
   have hpos : 0 < t.size := size_pos h0
   have hcons := cons_of t hpos
   generalize hc : t[0] = c at hcons
   have HC : Hid (t.data.toList = c :: (t.extract 1 t.size).data.toList) := hcons
   have cB := rblank_is c w
   have hr : (t.extract 1 t.size).size < t.size := by rw [Lib.size_eq, Lib.extract_to_end, List.length_drop, hl]; omega
   clear h0 hcons
   obtain ⟨b, hb⟩ : ∃ b, blk c = b := ⟨_, rfl⟩
   rw [hb] at cB
   have HB : Hid (blk c = b) := hb
   clear hb
   go_wp2_with fail
   refine cB.mono ?_
   clear cB
   rintro e w1 ⟨rfl, hw⟩
   obtain rfl : w = w1 := hw.symm
   cases b
   ·go_wp2_with fail
    go_loopw [0] (fun v wr => ∃ u : ByteArray, v = .string u ∧ u.size ≤ 1000000 ∧ Hid (Hd.bare u.data.toList = R.data.toList) ∧ Hid (∀ d, u.data.toList.head? = some d → blk d = false) ∧ wr = w) (fun v _ => strLen v)
    case atStart => exact ⟨t, rfl, ht, HT.out, fun d hd => by rw [HC.out] at hd; cases hd; exact HB.out, rfl⟩
    case round =>
     obtain ⟨u, rfl, hu, HU, HH, hw⟩ := hrel
     obtain rfl : w = wr := hw.symm
     clear hc HC HB HT hv1 hv2 hpos hr hl
     have hl := list_size u
     by_cases h0 : u.data.toList = []
     ·obtain rfl : u = ⟨#[]⟩ := text_ext h0
      obtain rfl : R = ⟨#[]⟩ := text_ext HU.out.symm
      clear h0 hl
      go_wp2_with fail
      go_ret
      exact ⟨rfl, rfl⟩
     ·have hv1 : ¬ u.toList = [] := by rw [Lib.toList_data]; exact h0
      have hv2 : u.toList.isEmpty = false := by rw [Lib.toList_data]; exact empty_no h0
      have hpos : 0 < u.size := size_pos h0
      have h1 : u.size - 1 < u.size := by omega
      have hsnoc := snoc_of u hpos h1
      generalize hc : u[u.size - 1] = c1 at hsnoc
      have HC : Hid (u.data.toList = (u.extract 0 (u.size - 1)).data.toList ++ [c1]) := hsnoc
      have cB := rblank_is c1 w
      have hr : (u.extract 0 (u.size - 1)).size < u.size := by rw [Lib.size_eq, Lib.extract_from_zero, List.length_take, hl]; omega
      clear h0 hsnoc
      obtain ⟨b, hb⟩ : ∃ b, blk c1 = b := ⟨_, rfl⟩
      rw [hb] at cB
      have HB : Hid (blk c1 = b) := hb
      clear hb
      go_wp2_with fail
      refine cB.mono ?_
      clear cB
      rintro e w1 ⟨rfl, hw⟩
      obtain rfl : w = w1 := hw.symm
      cases b
      ·obtain rfl : R = u := by
        refine text_ext ?_
        rw [← HU.out]
        refine bare_of_trim ⟨HH.out, fun d hd => ?_⟩
        rw [HC.out, List.getLast?_concat] at hd
        cases hd
        exact HB.out
       go_wp2_with fail
       go_ret
       exact ⟨rfl, rfl⟩
      ·go_wp2_with fail
       go_roundw
       case rel =>
        refine ⟨_, rfl, by omega, ?_, ?_, trivial⟩
        ·show _ = _
         rw [← HU.out, HC.out, bare_last HB.out]
        ·intro d hd
         refine HH.out d ?_
         rw [HC.out, List.head?_append, hd]
         rfl
       case measure => simpa [strLen] using hr
   ·go_wp2_with fail
    go_roundw
    case rel =>
     refine ⟨_, rfl, by omega, ?_, trivial⟩
     show _ = _
     rw [← HT.out, HC.out, bare_head HB.out]
    case measure => simpa [strLen] using hr
end Go.Proofs.YtogigccbnohjjaaGreatDoor
namespace Go.Proofs.Hd
open Go.Proofs.Sq
def spb (t : Tx) : Tx := ((t.dropWhile (· == 32)).reverse.dropWhile (· == 32)).reverse
theorem spb_head (t : Tx) : spb (32 :: t) = spb t := by
 unfold spb
 rw [List.dropWhile_cons_of_pos (by rfl)]
theorem dw_of {t : Tx} (h : ∀ d, t.head? = some d → d ≠ 32) : t.dropWhile (· == 32) = t := by
 cases t with
 | nil => rfl
 | cons c r => rw [List.dropWhile_cons_of_neg]; have := h c rfl; simpa using this
theorem spb_last {t : Tx} (h : ∀ d, (t ++ [32]).head? = some d → d ≠ 32) : spb (t ++ [32]) = spb t := by
 have h2 : ∀ d, t.head? = some d → d ≠ 32 := fun d hd => h d (by rw [List.head?_append, hd]; rfl)
 unfold spb
 rw [dw_of h, dw_of h2, List.reverse_append, List.reverse_singleton, List.singleton_append, List.dropWhile_cons_of_pos (by rfl)]
theorem spb_of {t : Tx} (h1 : ∀ d, t.head? = some d → d ≠ 32) (h2 : ∀ d, t.getLast? = some d → d ≠ 32) : spb t = t := by
 unfold spb
 rw [dw_of h1, dw_of (by simpa using h2), List.reverse_reverse]
theorem blk_ne {c : UInt8} (h : blk c = false) : c ≠ 32 := by
 rintro rfl
 exact absurd h (by decide)
theorem spb_join {v b : Tx} (hv : Trim v) (hb : Trim b) : spb (v ++ 32 :: b) = joinV v b := by
 unfold joinV
 by_cases h1 : b = []
 ·subst h1
  rw [if_pos rfl]
  by_cases h2 : v = []
  ·subst h2; rfl
  ·rw [spb_last, spb_of (fun d hd => blk_ne (hv.1 d hd)) (fun d hd => blk_ne (hv.2 d hd))]
   intro d hd
   refine blk_ne (hv.1 d ?_)
   cases v with
   | nil => exact absurd rfl h2
   | cons c r => simpa using hd
 ·rw [if_neg h1]
  by_cases h2 : v = []
  ·subst h2
   rw [if_pos rfl, List.nil_append, spb_head, spb_of (fun d hd => blk_ne (hb.1 d hd)) (fun d hd => blk_ne (hb.2 d hd))]
  ·rw [if_neg h2]
   refine spb_of ?_ ?_
   ·intro d hd
    refine blk_ne (hv.1 d ?_)
    cases v with
    | nil => exact absurd rfl h2
    | cons c r => simpa using hd
   ·intro d hd
    refine blk_ne (hb.2 d ?_)
    rw [List.getLast?_append, List.getLast?_cons] at hd
    cases hx : b.getLast? with
    | none => exact absurd (List.getLast?_eq_none_iff.1 hx) h1
    | some e => rw [hx] at hd; simpa using hd
theorem name_no {n : Tx} (h : n = [] ∨ 60 < n.length) : nameOk n = false := by
 unfold nameOk
 rcases h with h | h
 ·simp [h]
 ·rw [show decide (n.length ≤ 60) = false from decide_eq_false (by omega)]; simp
theorem name_bad {n : Tx} {c : UInt8} (hc : c ∈ n) (h : ¬ (33 ≤ c.toNat ∧ c.toNat ≤ 126)) : nameOk n = false := by
 cases hn : nameOk n with
 | false => rfl
 | true => exact absurd (name_byte hn c hc) h
theorem name_yes {n : Tx} (h0 : n ≠ []) (h1 : n.length ≤ 60) (h : ∀ c ∈ n, 33 ≤ c.toNat ∧ c.toNat ≤ 126) : nameOk n = true := by
 unfold nameOk
 simp only [Bool.and_eq_true, decide_eq_true_eq, List.all_eq_true]
 exact ⟨⟨h0, h1⟩, h⟩
theorem step_bad {l : List Fd} {p : Tx} {c : UInt8} (hc : c ∈ p) (h : isBad c = true) : step l p = (3, []) := by
 unfold step
 rw [if_neg (fun e => by rw [e] at hc; simp at hc), if_pos (List.any_eq_true.2 ⟨c, hc, h⟩)]
theorem step_clean {l : List Fd} {p : Tx} (h0 : p ≠ []) (h : ∀ c ∈ p, isBad c = false) : step l p =
  if blk (p.headD 0) then (if l = [] then (3, []) else (0, onto l (bare p)))
  else if (cutAt 58 p).2.2 = false ∨ nameOk (cutAt 58 p).1 = false then (3, [])
  else if l.length = 40 then (4, [])
  else (0, l ++ [((cutAt 58 p).1, bare (cutAt 58 p).2.1)]) := by
 unfold step
 rw [if_neg h0, if_neg (c := p.any isBad = true)]
 intro e
 obtain ⟨c, hc, hb⟩ := List.any_eq_true.1 e
 rw [h c hc] at hb
 exact absurd hb (by simp)
end Go.Proofs.Hd
