/-
  archive, and more.
-/
import Derived.Test.YtdmplfflmdanlaaGreatDoorMAwDiff
import Derived.Test.YtdmplfflmdanlaaGreatDoorMArJoined
namespace Go.Proofs.YtdmplfflmdanlaaGreatDoor
open Go.RowKit Go.Proofs.Aid Go.Proofs.Bx

set_option maxHeartbeats 8000000 in
set_option maxRecDepth 100000 in
theorem diff_is (ma mb mc nv bv wv : Value) (A S : Svd) (w : World) (hA : SvAt w ma mb mc A) (h : SvAt w nv bv wv S) (hOA : ArOk A) (hO : ArOk S) (hlen : (changeB (lettersB A.boxes) S).length ≤ 40000000) (hE : NEnv w) (hg : SysAt w) (htab : TabW w.heap.size w) :
    Calls Tryz.prog 15 #[.agg #[ma, mb, mc, .int .i64 A.next], .agg #[nv, bv, wv, .int .i64 S.next]] w fun e w' => e = .returned (.tuple #[.string ⟨(68 :: changeB (lettersB A.boxes) S).toArray⟩, .nilIface]) ∧ Below w.heap.size w w' := by
  obtain ⟨pa, pc, rfl, _⟩ := id hA.1
  obtain ⟨qa, qc, rfl, _⟩ := id hA.2.1
  obtain ⟨ra, rc, rfl, _⟩ := id hA.2.2
  obtain ⟨na, nc, rfl, _⟩ := id h.1
  obtain ⟨ba, bc, rfl, _⟩ := id h.2.1
  obtain ⟨wa, wc, rfl, _⟩ := id h.2.2
  obtain ⟨NL, hNL⟩ : ∃ n, S.names.length = n := ⟨_, rfl⟩
  obtain ⟨WL, hWL⟩ : ∃ n, S.wants.length = n := ⟨_, rfl⟩
  obtain ⟨N, hN⟩ : ∃ n, S.boxes.length = n := ⟨_, rfl⟩
  obtain ⟨X, hX⟩ : ∃ n, S.next = n := ⟨_, rfl⟩
  obtain ⟨PL, hPL⟩ : ∃ n, A.names.length = n := ⟨_, rfl⟩
  obtain ⟨RL, hRL⟩ : ∃ n, A.wants.length = n := ⟨_, rfl⟩
  obtain ⟨Q, hQ⟩ : ∃ n, A.boxes.length = n := ⟨_, rfl⟩
  obtain ⟨Y, hY⟩ : ∃ n, A.next = n := ⟨_, rfl⟩
  rw [hNL, hWL, hN, hX, hPL, hRL, hQ, hY]
  obtain ⟨W0, hW0⟩ : ∃ W, w.alloc (.cells #[.slice pa PL pc, .slice qa Q qc, .slice ra RL rc, .int .i64 Y] 26) = W := ⟨_, rfl⟩
  have b0 : Below w.heap.size w W0 := by rw [← hW0]; exact (Below.refl _ _).alloc (Nat.le_refl _) _
  have e0 : W0.heap[w.heap.size]? = some (.cells #[.slice pa PL pc, .slice qa Q qc, .slice ra RL rc, .int .i64 Y] 26 (0, 0)) := by rw [← hW0]; exact heap_alloc_new _ _
  obtain ⟨W1, hW1⟩ : ∃ W, W0.alloc (.cells #[.slice na NL nc, .slice ba N bc, .slice wa WL wc, .int .i64 X] 26) = W := ⟨_, rfl⟩
  have b01 : Below W0.heap.size W0 W1 := by rw [← hW1]; exact (Below.refl _ _).alloc (Nat.le_refl _) _
  have e1 : W1.heap[W0.heap.size]? = some (.cells #[.slice na NL nc, .slice ba N bc, .slice wa WL wc, .int .i64 X] 26 (0, 0)) := by rw [← hW1]; exact heap_alloc_new _ _
  obtain ⟨sb, hsb⟩ : ∃ n, W0.heap.size = n := ⟨_, rfl⟩
  have hsb0 : w.heap.size < sb := by rw [← hsb]; exact (Array.getElem?_eq_some_iff.1 e0).1
  have e0 := (b01.block _ (by omega)).trans e0
  rw [hsb] at e1
  have b1 : Below w.heap.size w W1 := b0.trans (b01.mono b0.size)
  have hlt1 : sb < W1.heap.size := (Array.getElem?_eq_some_iff.1 e1).1
  have HRD : Hid (∀ W, Below W1.heap.size W1 W → (W.heap[w.heap.size]? = some (.cells #[.slice pa PL pc, .slice qa Q qc, .slice ra RL rc, .int .i64 Y] 26 (0, 0)) ∧ W.cell? ⟨w.heap.size, 0, none⟩ = some (.slice pa PL pc) ∧ W.cell? ⟨w.heap.size, 1, none⟩ = some (.slice qa Q qc) ∧ W.cell? ⟨w.heap.size, 2, none⟩ = some (.slice ra RL rc) ∧ W.cell? ⟨w.heap.size, 3, none⟩ = some (.int .i64 Y)) ∧ W.cell? ⟨sb, 0, none⟩ = some (.slice na NL nc) ∧ W.cell? ⟨sb, 1, none⟩ = some (.slice ba N bc) ∧ W.cell? ⟨sb, 2, none⟩ = some (.slice wa WL wc) ∧ W.cell? ⟨sb, 3, none⟩ = some (.int .i64 X)) := fun W hW => by
    have g0 := (hW.block _ (by omega)).trans e0
    have g2 := (hW.block _ hlt1).trans e1
    exact ⟨⟨g0, rd_cell g0 rfl, rd_cell g0 rfl, rd_cell g0 rfl, rd_cell g0 rfl⟩, rd_cell g2 rfl, rd_cell g2 rfl, rd_cell g2 rfl, rd_cell g2 rfl⟩
  have cA := right_true _ _ _ A W1 (hA.below b1 (Nat.le_refl _)) hOA.ok (hE.below b1) (hg.below b1 hg.lt)
  have HCR : Hid (∀ W, Below W1.heap.size W1 W → Calls Tryz.prog 6 #[.agg #[.slice na NL nc, .slice ba N bc, .slice wa WL wc, .int .i64 X]] W fun e w' => e = .returned (.bool true) ∧ Below W.heap.size W w') := fun W hW => by
    have hwW := b1.trans (hW.mono b1.size)
    have := right_true _ _ _ S W (h.below hwW (Nat.le_refl _)) hO.ok (hE.below hwW) (hg.below hwW hg.lt)
    rwa [hNL, hWL, hN, hX] at this
  have HX : Hid (SvAt w (.slice na NL nc) (.slice ba N bc) (.slice wa WL wc) S ∧ ArOk S ∧ (changeB (lettersB A.boxes) S).length ≤ 40000000 ∧ TabW w.heap.size w ∧ S.next = X ∧ Below w.heap.size w W1 ∧ SvAt w (.slice pa PL pc) (.slice qa Q qc) (.slice ra RL rc) A ∧ ArOk A ∧ A.next = Y) := ⟨by rw [← hNL, ← hN, ← hWL]; exact h, hO, hlen, htab, hX, b1, by rw [← hPL, ← hQ, ← hRL]; exact hA, hOA, hY⟩
  rw [hPL, hRL, hQ, hY] at cA
  obtain ⟨⟨_, s0, s1, s2, s3⟩, t0, t1, t2, t3⟩ := HRD.out W1 (Below.refl _ _)
  obtain ⟨R, hR⟩ : ∃ r : ByteArray, ⟨(68 :: changeB (lettersB A.boxes) S).toArray⟩ = r := ⟨_, rfl⟩
  have HR : Hid ((⟨(68 :: changeB (lettersB A.boxes) S).toArray⟩ : ByteArray) = R) := hR
  rw [hR]
  clear h hO hE hg hNL hWL hN hX b1 e1 hlen htab hR hA hOA hPL hRL hQ hY b0 e0 b01 hlt1
  go_enter Tryz.func15, Tryz.ntmps15
  go_wp2_with fail
  refine cA.mono ?_
  rintro e w2 ⟨rfl, hb2⟩
  have HB2 : Hid (Below W1.heap.size W1 w2) := hb2
  clear s0 s1 s2 s3 t0 t1 t2 t3 cA
  obtain ⟨⟨_, s0, s1, s2, s3⟩, t0, t1, t2, t3⟩ := HRD.out w2 hb2
  clear hb2
  go_wp2_with fail
  refine (HCR.out w2 HB2.out).mono ?_
  rintro e w3 ⟨rfl, hb23⟩
  have hb3 : Below W1.heap.size W1 w3 := HB2.out.trans (hb23.mono HB2.out.size)
  clear s0 s1 s2 s3 t0 t1 t2 t3 hb23 HCR
  -- the writer, and where the closure finds it
  obtain ⟨b, hbz⟩ : ∃ n, w3.heap.size = n := ⟨_, rfl⟩
  have hA := aw_new w3
  have b4 : Below w3.heap.size w3 (w3.alloc (.cells #[.pointer none, .slice none 0 0] 90)) := (Below.refl _ _).alloc (Nat.le_refl _) _
  have z4 : (w3.alloc (.cells #[.pointer none, .slice none 0 0] 90)).heap.size = w3.heap.size + 1 := World.size_alloc _ _
  obtain ⟨W4, hW4⟩ : ∃ W, w3.alloc (.cells #[.pointer none, .slice none 0 0] 90) = W := ⟨_, rfl⟩
  rw [hW4] at hA b4 z4
  rw [hbz] at hA b4 z4
  have b5 : Below W4.heap.size W4 (W4.alloc (.cells #[.pointer (some ⟨b, 0, none⟩)] 84)) := (Below.refl _ _).alloc (Nat.le_refl _) _
  have e6 := heap_alloc_new W4 (.cells #[.pointer (some ⟨b, 0, none⟩)] 84)
  have hcb : W4.heap.size = b + 1 := z4
  obtain ⟨W6, hW6⟩ : ∃ W, W4.alloc (.cells #[.pointer (some ⟨b, 0, none⟩)] 84) = W := ⟨_, rfl⟩
  rw [hW6] at b5 e6
  have h6 : IsAw b b [] W6 := aw_below hA b5
  rw [hcb] at b5 e6
  have b36 : Below b w3 W6 := b4.trans (b5.mono (by omega))
  have hz1 := hb3.size
  have hB13 : Below W1.heap.size W1 W6 := hb3.trans (b36.mono (by omega))
  have hw6 : Below w.heap.size w W6 := HX.out.2.2.2.2.2.1.trans (hB13.mono HX.out.2.2.2.2.2.1.size)
  have hwb : w.heap.size < b ∧ sb < b := by have := (Array.getElem?_eq_some_iff.1 (HRD.out w3 hb3).1.1).1; have h9 := World.block_lt_of_cell? _ _ (HRD.out w3 hb3).2.1; exact ⟨by omega, by have : sb < w3.heap.size := h9; omega⟩
  have htw : TabW b W6 := fun W hW => HX.out.2.2.2.1 W (hw6.trans (hW.mono (by omega)))
  have hsv : SvAt W6 (.slice na NL nc) (.slice ba N bc) (.slice wa WL wc) S := HX.out.1.below hw6 (Nat.le_refl _)
  have hbW6 : b ≤ W6.heap.size := by have := b36.size; omega
  have hP : ∀ W, Wk b b W6 W → Below w.heap.size w W := fun W hW => hw6.trans (hW.low.mono (by omega))
  have hab6 := (HRD.out W6 hB13).1.1
  have cH := awhouse_is 58 [.pointer (some ⟨w.heap.size, 0, none⟩), .pointer (some ⟨b + 1, 0, none⟩)] (changedB A.boxes) b b ⟨#[68]⟩ (.slice na NL nc) (.slice ba N bc) (.slice wa WL wc) S W6 h6 hbW6 HX.out.2.1.sv (fun W hW => HX.out.1.1.below (hP W hW) (Nat.le_refl _)) (bxq_of HX.out.1.2.1 hP) (fun W hW => HX.out.1.2.2.below (hP W hW) (Nat.le_refl _)) (by decide) (by rw [← changeB_body]; have := HX.out.2.2.1; omega) htw
    (enters_of Tryz.func58 (by kernel_rfl) rfl) (fun x la lc o W hx hl hW ho hlo => diff1_is b b w.heap.size (b + 1) x A pa qa ra la PL pc Q qc RL rc lc o W ho (Nat.le_trans hbW6 hW.size) (rd_cell (hW.cells e6 (by omega) (by decide)) rfl) (hW.cells e6 (by omega) (by decide)) (by omega) (by rw [HX.out.2.2.2.2.2.2.2.2]; exact hW.cells hab6 (by omega) (by decide)) (HX.out.2.2.2.2.2.2.1.2.1.below (hP W hW) (Nat.le_refl _)) HX.out.2.2.2.2.2.2.2.1.sv.blen (fun y hy => ⟨by have := (HX.out.2.2.2.2.2.2.2.1.sv.b y hy).2.2.1; omega, fun z hz => ((HX.out.2.2.2.2.2.2.2.1.sv.b y hy).2.2.2 z hz).2.1.1⟩) (hl.sub fun W2 h2 => hW.trans h2) (HX.out.2.1.sv.b x hx).2.2 hlo (htw.wk hW))
  rw [HX.out.2.2.2.2.1] at cH
  obtain ⟨⟨_, s0, s1, s2, s3⟩, t0, t1, t2, t3⟩ := HRD.out W6 hB13
  have t4 : W6.cell? ⟨b + 1, 0, none⟩ = some (.pointer (some ⟨b, 0, none⟩)) := rd_cell e6 rfl
  have HC6 : Hid (∀ W, Wk b b W6 W → W.cell? ⟨b + 1, 0, none⟩ = some (.pointer (some ⟨b, 0, none⟩))) := fun W hW => rd_cell (hW.cells e6 (by omega) (by decide)) rfl
  have HW6 : Hid (∀ W, Wk b b W6 W → Below w.heap.size w W) := hP
  have HBB : Hid (w.heap.size < b) := hwb.1
  clear hA b4 b5 e6 h6 b36 hz1 hB13 hw6 htw hsv hbW6 hP hb3 hwb hab6
  go_wp2_with fail
  refine cH.mono ?_
  rintro e w7 ⟨rfl, h7, k7⟩
  have u4 := HC6.out w7 k7
  have cS := aw_string b b _ w7 h7 (by simp)
  have hRR : (⟨((⟨#[68]⟩ : ByteArray).data.toList ++ bodyB (changedB A.boxes) S).toArray⟩ : ByteArray) = R := by rw [← HR.out]; rfl
  rw [hRR] at cS
  have HB7 : Hid (Below w.heap.size w w7) := HW6.out w7 k7
  clear cH h7 k7 s0 s1 s2 s3 t0 t1 t2 t3 t4 hRR
  go_wp2_with fail
  refine cS.mono ?_
  rintro e w8 ⟨rfl, hb8⟩
  have HF : Hid (Below w.heap.size w w8) := HB7.out.trans (hb8.mono (Nat.le_of_lt HBB.out))
  clear cS hb8
  go_wp2_with fail
  go_ret2
  exact ⟨rfl, HF.out⟩
end Go.Proofs.YtdmplfflmdanlaaGreatDoor
namespace Go.Proofs.YtdmplfflmdanlaaGreatDoor
open Go.RowKit Go.Proofs.Aid Go.Proofs.Bx

theorem readRow_le {α : Type} (one : Nm → α × Nm) (most : Nat) (s : Nm) : (readRowS most one s).1.length ≤ most := by
  have key : ∀ k s, (rowS one k s).1.length = k := by
    intro k
    induction k with
    | zero => intro s; rfl
    | succ k ih => intro s; rw [rowS_succ, List.length_cons, ih]
  unfold readRowS
  rw [key]
  exact Nat.min_le_right _ _
/-- What is read of letters that changed. -/
def OneD (A : List Bxd) (v : Int) (s : Nm) (l : List Lt) (s' : Nm) : Prop :=
  s' = (readRowS 60 letterS (readRowS 60 (untilS 59) s).2).2 ∧ l.Perm (keepL (readRowS 60 (untilS 59) s).1 (lettersB A v) ++ (readRowS 60 letterS (readRowS 60 (untilS 59) s).2).1) ∧ l.Pairwise fun a b => a.uid ≤ b.uid
theorem oneD_len (A : List Bxd) : ∀ v s l s', OneD A v s l s' → s'.length ≤ s.length := fun _ s _ s' h => by
  rw [h.1]
  exact Nat.le_trans (readRow_len rletter_len _ _) (readRow_len (until_len 59) _ _)
/-- Letters that rise by their numbers. -/
def Rise (l : List Lt) : Prop := l.Pairwise fun a b => a.uid < b.uid
theorem rise_was {A : List Bxd} (h : ∀ x ∈ A, Rise x.ls) (v : Int) : Rise (lettersB A v) := by
  unfold lettersB
  cases hf : A.find? fun x => x.v == v with
  | none => exact List.Pairwise.nil
  | some x => exact h x (List.mem_of_find?_eq_some hf)
theorem keepL_is {now before : List Lt} : keepL (keptU now before) before = before.filter fun b => decide (b.uid ∈ keptU now before) := by
  unfold keepL
  refine List.filter_congr fun x _ => ?_
  rw [Bool.eq_iff_iff]
  simp
/-- What was read is what it was. -/
theorem oneD_back {A : List Bxd} {now out : List Lt} {v : Int} (h1 : Rise now) (h2 : ∀ x ∈ A, Rise x.ls) (hp : out.Perm (keepL (keptU now (lettersB A v)) (lettersB A v) ++ othersL now (lettersB A v))) (hs : out.Pairwise fun a b => a.uid ≤ b.uid) : out = now := by
  rw [keepL_is] at hp
  have hp : out.Perm now := hp.trans (joined_perm h1 (rise_was h2 v))
  refine joined_back h1 hp ?_
  have hn : (out.map Lt.uid).Nodup := by
    rw [(hp.map _).nodup_iff]
    exact List.pairwise_map.2 (h1.imp fun h => by omega)
  have hn : out.Pairwise fun a b => a.uid ≠ b.uid := List.pairwise_map.1 hn
  exact (hs.and hn).imp fun ⟨q1, q2⟩ => by omega
theorem rowR_dbx {A : List Bxd} : ∀ {k : Nat} {s : Nm} {L : List Bxd} {s' : Nm}, RowR (BoxR (OneD A)) k s L s' → s' = (rowS dboxS k s).2 ∧ L.length = k ∧ ∀ (j : Nat) x d, L[j]? = some x → (rowS dboxS k s).1[j]? = some d → x.v = d.v ∧ x.n = d.n ∧ x.ls.Perm (keepL d.kept (lettersB A x.v) ++ d.others) ∧ x.ls.Pairwise fun a b => a.uid ≤ b.uid
  | 0, s, L, s', h => by
    rw [h.1, h.2]
    exact ⟨rfl, rfl, fun j x d hj => (by simp at hj)⟩
  | k + 1, s, L, s'', h => by
    obtain ⟨L0, x, s', rfl, h1, h2, h3, h4, h5, h6⟩ := h
    obtain ⟨e1, e2, e3⟩ := rowR_dbx h1
    have hlen : ∀ k s, (rowS dboxS k s).1.length = k := by
      intro k
      induction k with
      | zero => intro s; rfl
      | succ k ih => intro s; rw [rowS_succ, List.length_cons, ih]
    rw [rowS_snoc, ← e1]
    refine ⟨h4, by rw [List.length_append, e2]; rfl, fun j y d hj hd => ?_⟩
    by_cases hjk : j < k
    · rw [List.getElem?_append_left (by omega)] at hj
      rw [List.getElem?_append_left (by rw [hlen]; omega)] at hd
      exact e3 j y d hj hd
    · have hjl : j < (L0 ++ [x]).length := (List.getElem?_eq_some_iff.1 hj).1
      obtain rfl : j = k := by rw [List.length_append, e2] at hjl; simp at hjl; omega
      rw [List.getElem?_append_right (by omega), e2, Nat.sub_self] at hj
      rw [List.getElem?_append_right (by rw [hlen]; omega), hlen, Nat.sub_self] at hd
      obtain rfl : x = y := by simpa using hj
      obtain rfl : (dboxS s').1 = d := by simpa using hd
      exact ⟨h2, h3, h5, h6⟩
theorem bxd_ext {X Y : Bxd} (h1 : X.v = Y.v) (h2 : X.n = Y.n) (h3 : X.ls = Y.ls) : X = Y := by
  cases X
  cases Y
  simp only at h1 h2 h3
  rw [h1, h2, h3]
theorem dbx_back {A : List Bxd} {X Y : Bxd} (hr : Rise Y.ls) (hA : ∀ x ∈ A, Rise x.ls) (q1 : X.v = (dbxOf (lettersB A) Y).v) (q2 : X.n = (dbxOf (lettersB A) Y).n) (q3 : X.ls.Perm (keepL (dbxOf (lettersB A) Y).kept (lettersB A X.v) ++ (dbxOf (lettersB A) Y).others)) (q4 : X.ls.Pairwise fun a b => a.uid ≤ b.uid) : X = Y := by
  have q1 : X.v = Y.v := q1
  rw [q1] at q3
  exact bxd_ext q1 q2 (oneD_back hr hA q3 q4)
theorem houseR_back {A : List Bxd} {S S' : Svd} {s' : Nm} (hN : NiceS S) (hr : ∀ x ∈ S.boxes, Rise x.ls) (hA : ∀ x ∈ A, Rise x.ls) (h : HouseR (OneD A) (changeB (lettersB A) S) S' s') : S' = S := by
  have hb := change_back (was := lettersB A) hN []
  rw [List.append_nil] at hb
  obtain ⟨h1, h2, h3, h4⟩ := h
  unfold changeS at hb
  simp only [Prod.mk.injEq] at hb
  obtain ⟨⟨b1, b2, b3, b4⟩, _⟩ := hb
  obtain ⟨_, r2, r3⟩ := rowR_dbx h4
  rw [b1] at h1
  rw [b2] at h2
  rw [b3] at h3
  rw [h3] at r2 r3 h4
  rw [b3] at b4
  rw [b4] at r3
  obtain ⟨SN, SB, SW, SX⟩ := S'
  obtain ⟨TN, TB, TW, TX⟩ := S
  simp only at h1 h2 h3 r2 r3 hr
  have hlen := hN.len
  simp only at hlen
  have hB : SB = TB := by
    refine List.ext_getElem? fun j => ?_
    by_cases hj : j < TB.length
    · have e1 : TB[j]? = some TB[j] := List.getElem?_eq_getElem hj
      have e2 : SB[j]? = some (SB[j]'(by omega)) := List.getElem?_eq_getElem (by omega)
      have e3 : (TB.map (dbxOf (lettersB A)))[j]? = some (dbxOf (lettersB A) TB[j]) := by rw [List.getElem?_map, e1]; rfl
      obtain ⟨q1, q2, q3, q4⟩ := r3 j _ _ e2 e3
      rw [e1, e2]
      exact congrArg some (dbx_back (hr _ (List.getElem_mem hj)) hA q1 q2 q3 q4)
    · rw [List.getElem?_eq_none (by omega), List.getElem?_eq_none (by omega)]
  rw [h1, h2, h3, hB]
set_option maxHeartbeats 4000000 in
set_option maxRecDepth 100000 in
theorem apply1_is (rb cb ab : Nat) (A : List Bxd) (na ba wa : Option Addr) (nl nc bl bc wl wc : Nat) (nx v : Int) (s : Nm) (w : World) (hc : w.heap[cb]? = some (.cells #[.pointer (some ⟨rb, 0, none⟩)] 106 (0, 0))) (ha : w.heap[ab]? = some (.cells #[.slice na nl nc, .slice ba bl bc, .slice wa wl wc, .int .i64 nx] 26 (0, 0))) (hA : ∀ W, But w.heap.size rb w W → Bxr W (.slice ba bl bc) A) (hAl : A.length ≤ 1000) (hAs : ∀ y ∈ A, y.ls.length ≤ 400 ∧ ∀ z ∈ y.ls, LtSm z) (h : Rdr rb s w) (hE : RdE w) (hs : s.length ≤ 1000000000) :
    Calls Tryz.prog 65 #[.int .i64 v, .pointer (some ⟨cb, 0, none⟩), .pointer (some ⟨ab, 0, none⟩)] w fun e w' => ∃ ls s', OneD A v s ls s' ∧ (∃ la lc, e = .returned (.slice la ls.length lc) ∧ LNew w' w.heap.size (.slice la ls.length lc) ls) ∧ Rdr rb s' w' ∧ But w.heap.size rb w w' := by
  have cN := rnums_is rb 60 s w h hE hs (by omega)
  have l1 := readRow_len (until_len 59) 60 s
  have cL := fun W (hr : Rdr rb (readRowS 60 (untilS 59) s).2 W) (he : RdE W) => rletters_is rb 60 _ W hr he (by omega) (by omega)
  have HO : Hid (∀ l, l.Perm (keepL (readRowS 60 (untilS 59) s).1 (lettersB A v) ++ (readRowS 60 letterS (readRowS 60 (untilS 59) s).2).1) → (l.Pairwise fun a b => a.uid ≤ b.uid) → OneD A v s l (readRowS 60 letterS (readRowS 60 (untilS 59) s).2).2) := fun l q1 q2 => ⟨rfl, q1, q2⟩
  have k1 := readRow_le (untilS 59) 60 s
  have k2 := readRow_le letterS 60 (readRowS 60 (untilS 59) s).2
  obtain ⟨ks, hks⟩ : ∃ x, (readRowS 60 (untilS 59) s).1 = x := ⟨_, rfl⟩
  obtain ⟨s1, hs1⟩ : ∃ x, (readRowS 60 (untilS 59) s).2 = x := ⟨_, rfl⟩
  rw [hks, hs1] at cN HO
  rw [hs1] at cL k2
  rw [hks] at k1
  obtain ⟨os, hos⟩ : ∃ x, (readRowS 60 letterS s1).1 = x := ⟨_, rfl⟩
  obtain ⟨s2, hs2⟩ : ∃ x, (readRowS 60 letterS s1).2 = x := ⟨_, rfl⟩
  rw [hos, hs2] at cL HO
  rw [hos] at k2
  have hcb : cb ≠ rb := fun e => by
    obtain ⟨R, _, hh⟩ := h
    rw [← e, hc] at hh
    injection hh with hh
    injection hh with q1 _ _
    simp at q1
  have hab : ab ≠ rb := fun e => by
    obtain ⟨R, _, hh⟩ := h
    rw [← e, ha] at hh
    injection hh with hh
    injection hh with q1 _ _
    simp at q1
  have hbf : (lettersB A v).length ≤ 400 ∧ ∀ z ∈ lettersB A v, LtSm z := by
    unfold lettersB
    cases hf : A.find? fun x => x.v == v with
    | none => exact ⟨by simp, fun z hz => by simp at hz⟩
    | some x => exact hAs x (List.mem_of_find?_eq_some hf)
  have c0 : w.cell? ⟨cb, 0, none⟩ = some (.pointer (some ⟨rb, 0, none⟩)) := rd_cell hc rfl
  have HRD : Hid (∀ W, But w.heap.size rb w W → W.cell? ⟨cb, 0, none⟩ = some (.pointer (some ⟨rb, 0, none⟩)) ∧ (W.cell? ⟨ab, 0, none⟩ = some (.slice na nl nc) ∧ W.cell? ⟨ab, 1, none⟩ = some (.slice ba bl bc) ∧ W.cell? ⟨ab, 2, none⟩ = some (.slice wa wl wc) ∧ W.cell? ⟨ab, 3, none⟩ = some (.int .i64 nx))) := fun W hW => by
    have g1 := (hW.block cb (Array.getElem?_eq_some_iff.1 hc).1 hcb).trans hc
    have g2 := (hW.block ab (Array.getElem?_eq_some_iff.1 ha).1 hab).trans ha
    exact ⟨rd_cell g1 rfl, rd_cell g2 rfl, rd_cell g2 rfl, rd_cell g2 rfl, rd_cell g2 rfl⟩
  have HX : Hid (Rdr rb s w ∧ RdE w ∧ (∀ W, But w.heap.size rb w W → Bxr W (.slice ba bl bc) A) ∧ A.length ≤ 1000 ∧ ((lettersB A v).length ≤ 400 ∧ ∀ z ∈ lettersB A v, LtSm z) ∧ ks.length ≤ 60 ∧ os.length ≤ 60) := ⟨h, hE, hA, hAl, hbf, k1, k2⟩
  clear h hE hs hc ha hA hAl hAs l1 k1 k2 hks hs1 hos hs2 hcb hab hbf
  go_enter Tryz.func65, Tryz.ntmps65
  go_wp2_with fail
  refine cN.mono ?_
  rintro e w2 ⟨⟨kv, rfl, hn2⟩, h2, b2⟩
  obtain ⟨ka, kc, rfl⟩ := row_form hn2
  have H2 : Hid (NOwn w2 w.heap.size (.slice ka ks.length kc) ks ∧ Rdr rb s1 w2 ∧ But w.heap.size rb w w2 ∧ RdE w2) := ⟨hn2, h2, b2, HX.out.2.1.but HX.out.1 b2⟩
  obtain ⟨KN, hKN⟩ : ∃ n, ks.length = n := ⟨_, rfl⟩
  rw [hKN] at H2 ⊢
  clear cN hn2 h2 b2 c0
  obtain ⟨c0, _⟩ := HRD.out w2 H2.out.2.2.1
  go_wp2_with fail
  refine (cL w2 H2.out.2.1 H2.out.2.2.2).mono ?_
  rintro e w3 ⟨⟨ov, rfl, hn3⟩, h3, b3⟩
  obtain ⟨oa, oc, rfl⟩ := hn3.form
  have hb3 : But w.heap.size rb w w3 := H2.out.2.2.1.trans (b3.less H2.out.2.2.1.size)
  have H3 : Hid (NOwn w3 w.heap.size (.slice ka KN kc) ks ∧ LNew w3 w2.heap.size (.slice oa os.length oc) os ∧ Rdr rb s2 w3 ∧ But w.heap.size rb w w3) := ⟨own_oth H2.out.1 (rd_oth H2.out.2.1 b3) (by decide), hn3, h3, hb3⟩
  obtain ⟨ON, hON⟩ : ∃ n, os.length = n := ⟨_, rfl⟩
  rw [hON] at H3 ⊢
  clear cL hn3 h3 b3 hb3 c0 H2
  obtain ⟨c0, a0, a1, a2, a3⟩ := HRD.out w3 H3.out.2.2.2
  have cO := lettersOf_is na ba wa nl nc bl bc wl wc nx v A w3 (HX.out.2.2.1 w3 H3.out.2.2.2) HX.out.2.2.2.1
  go_wp2_with fail
  refine cO.mono ?_
  rintro e w4 ⟨⟨lv, rfl, hl4⟩, hb4⟩
  have cJ := joined_is (.slice ka KN kc) (.slice oa ON oc) lv ks os (lettersB A v) w.heap.size w2.heap.size w4 (own_oth H3.out.1 (oth_below (e := 108) hb4) (by decide)) (H3.out.2.1.below hb4) (hl4.below hb4 (Nat.le_refl _)) (by have := HX.out.2.2.2.2.2.1; omega) (by have := HX.out.2.2.2.2.2.2; omega) HX.out.2.2.2.2.1.1 HX.out.2.2.2.2.1.2
  have HB4 : Hid (Below w3.heap.size w3 w4) := hb4
  clear cO hl4 hb4 c0 a0 a1 a2 a3
  go_wp2_with fail
  refine cJ.mono ?_
  rintro e w5 ⟨⟨jv, l', rfl, hp, hso, hl5⟩, hb5⟩
  obtain ⟨ja, jc, rfl⟩ := hl5.form
  have hb35 : Below w3.heap.size w3 w5 := HB4.out.trans (hb5.mono HB4.out.size)
  have HF : Hid (OneD A v s l' s2 ∧ LNew w5 w.heap.size (.slice ja l'.length jc) l' ∧ Rdr rb s2 w5 ∧ But w.heap.size rb w w5) := ⟨HO.out _ hp hso, hl5.lower (Nat.le_trans H3.out.2.2.2.size HB4.out.size), H3.out.2.2.1.below hb35, H3.out.2.2.2.trans (to_but (hb35.mono H3.out.2.2.2.size))⟩
  clear cJ hp hso hl5 hb5 hb35
  go_wp2_with fail
  go_ret
  exact ⟨_, _, HF.out.1, ⟨_, _, rfl, HF.out.2.1⟩, HF.out.2.2⟩
end Go.Proofs.YtdmplfflmdanlaaGreatDoor
