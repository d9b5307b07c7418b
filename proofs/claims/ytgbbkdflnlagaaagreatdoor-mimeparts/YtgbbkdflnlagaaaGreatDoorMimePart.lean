/-
  What the method part of mime.reader does.
-/
import Derived.Test.YtgbbkdflnlagaaaGreatDoorMimeAid
import Derived.Deep.RegionHeld3
namespace Go.Proofs.YtgbbkdflnlagaaaGreatDoor
open Go.RowKit Go.Proofs.Aid Go.Proofs.Sq Go.Proofs.Hd Go.Proofs.Mm

set_option maxHeartbeats 4000000 in
set_option maxRecDepth 100000 in
theorem part_fail (s : ByteArray) (rb lo hi c depth : Nat) (w : World) (hr : RdM w rb s c) (hc : c ≤ 30) (hd : depth ≤ 100) (h : 30 < c + 1 ∨ 6 < depth) (f : Nat) (hR : (partF s.data.toList f lo hi c) = (c + 1, none)) :
    Calls Tryz.prog 33 #[.pointer (some ⟨rb, 0, none⟩), .agg #[.int .i64 (lo : Int), .int .i64 (hi : Int)], .int .i64 (depth : Int)] w (PartPost s rb w (partF s.data.toList f lo hi c)) := by
  rw [hR]
  have hrl : rb < w.heap.size := (Array.getElem?_eq_some_iff.1 hr).1
  have q1 : w.cell? ⟨rb, 1, none⟩ = some (.int .i64 (c : Int)) := rd_cell hr rfl
  have f1 : w.frozen? ⟨rb, 1, none⟩ = false := rd_free hr 1
  have s1 : (w.setCell ⟨rb, 1, none⟩ (.int .i64 ((c : Int) + 1))).cell? ⟨rb, 1, none⟩ = some (.int .i64 ((c : Int) + 1)) := setm_read hr (by simp) _
  have hh2 : (w.setCell ⟨rb, 1, none⟩ (.int .i64 ((c : Int) + 1))).heap[rb]? = some (.cells #[.string s, .int .i64 ((c : Int) + 1)] 81 (0, 0)) := rd_set (i := 1) _ hr
  have HR2 : Hid (RdM (w.setCell ⟨rb, 1, none⟩ (.int .i64 ((c : Int) + 1))) rb s (c + 1)) := by
    show _ = _
    rw [hh2]
    rfl
  clear hh2 hr hR
  have hB : But w.heap.size rb w (((w.setCell ⟨rb, 1, none⟩ (.int .i64 ((c : Int) + 1))).alloc (.cells #[.int .i64 (lo : Int), .int .i64 (hi : Int)] 84)).alloc (.cells #[.string ⟨#[]⟩, .string ⟨#[]⟩, .int .i64 0, .int .i64 0, .int .i64 0, .slice none 0 0] 25)) :=
    ((to_but (Below.refl _ w)).setB 1 _).trans (to_but (((Below.refl _ _).alloc (by simp) _).alloc (by simp) _))
  have hP : Below (w.setCell ⟨rb, 1, none⟩ (.int .i64 ((c : Int) + 1))).heap.size (w.setCell ⟨rb, 1, none⟩ (.int .i64 ((c : Int) + 1))) (((w.setCell ⟨rb, 1, none⟩ (.int .i64 ((c : Int) + 1))).alloc (.cells #[.int .i64 (lo : Int), .int .i64 (hi : Int)] 84)).alloc (.cells #[.string ⟨#[]⟩, .string ⟨#[]⟩, .int .i64 0, .int .i64 0, .int .i64 0, .slice none 0 0] 25)) :=
    ((Below.refl _ _).alloc (Nat.le_refl _) _).alloc (by simp) _
  have HQ : Hid (PartPost s rb w (c + 1, none) (.returned (.tuple #[.agg zeroSix.toArray, .bool false])) (((w.setCell ⟨rb, 1, none⟩ (.int .i64 ((c : Int) + 1))).alloc (.cells #[.int .i64 (lo : Int), .int .i64 (hi : Int)] 84)).alloc (.cells #[.string ⟨#[]⟩, .string ⟨#[]⟩, .int .i64 0, .int .i64 0, .int .i64 0, .slice none 0 0] 25))) :=
    ⟨rdM_below HR2.out hP, hB, Or.inl ⟨rfl, rfl⟩⟩
  clear hB hP HR2
  by_cases h30 : 30 < c + 1
  · have i1 : (30 : Int) < (c : Int) + 1 := by omega
    go_enter Tryz.func33, Tryz.ntmps33
    go_wp2_with fail
    exact bodyPost_ret (v := .tuple #[.agg zeroSix.toArray, .bool false]) (by simp [results, Tryz.results33, go_sem, zeroSix]) rfl HQ.out
  · have i1 : ¬ (30 : Int) < (c : Int) + 1 := by omega
    have i2 : (6 : Int) < (depth : Int) := by omega
    go_enter Tryz.func33, Tryz.ntmps33
    go_wp2_with fail
    exact bodyPost_ret (v := .tuple #[.agg zeroSix.toArray, .bool false]) (by simp [results, Tryz.results33, go_sem, zeroSix]) rfl HQ.out
theorem within_is (a b p : Nat) (ha : a ≤ 1000000) (hb : b ≤ 1000000) (hp : p ≤ 1000000) (w : World) : Calls Tryz.prog 68 #[.agg #[.int .i64 (a : Int), .int .i64 (b : Int)], .int .i64 (p : Int)] w fun e w' => e = .returned (.agg #[.int .i64 ((a + p : Nat) : Int), .int .i64 ((b + p : Nat) : Int)]) ∧ Below w.heap.size w w' := by
  go_enter Tryz.func68, Tryz.ntmps68
  go_wp2_with fail
  refine bodyPost_ret (v := .agg #[.int .i64 ((a : Int) + (p : Int)), .int .i64 ((b : Int) + (p : Int))]) (by simp [results, Tryz.results68, go_sem]) rfl ⟨by simp, ?_⟩
  exact ((Below.refl _ w).alloc (Nat.le_refl _) _).alloc (by simp) _
set_option maxHeartbeats 8000000 in
set_option maxRecDepth 100000 in
theorem part_step (s : ByteArray) (hs : s.size ≤ 90000) (rb f : Nat) (m : Int)
    (IH : ∀ (lo hi c depth : Nat) (w : World), depth + f = 7 → lo ≤ hi → hi ≤ s.size → c ≤ 30 → RdM w rb s c → w.cell? ⟨1, 0, none⟩ = some (.int .i64 m) → Calls Tryz.prog 33 #[.pointer (some ⟨rb, 0, none⟩), .agg #[.int .i64 (lo : Int), .int .i64 (hi : Int)], .int .i64 (depth : Int)] w (PartPost s rb w (partF s.data.toList f lo hi c)))
    (lo hi c depth : Nat) (w : World) (hd : depth + (f + 1) = 7) (hlo : lo ≤ hi) (hhi : hi ≤ s.size) (hc : c + 1 ≤ 30) (hr : RdM w rb s c) (hm : w.cell? ⟨1, 0, none⟩ = some (.int .i64 m)) :
    Calls Tryz.prog 33 #[.pointer (some ⟨rb, 0, none⟩), .agg #[.int .i64 (lo : Int), .int .i64 (hi : Int)], .int .i64 (depth : Int)] w (PartPost s rb w (partF s.data.toList (f + 1) lo hi c)) := by
  have hrl : rb < w.heap.size := (Array.getElem?_eq_some_iff.1 hr).1
  have hgl : 1 < w.heap.size := World.block_lt_of_cell? _ _ hm
  have hgr := maxLen_ne hr hm
  have HM : Hid (w.cell? ⟨1, 0, none⟩ = some (.int .i64 m)) := hm
  have q1 : w.cell? ⟨rb, 1, none⟩ = some (.int .i64 (c : Int)) := rd_cell hr rfl
  have f1 : w.frozen? ⟨rb, 1, none⟩ = false := rd_free hr 1
  have s1 : (w.setCell ⟨rb, 1, none⟩ (.int .i64 ((c : Int) + 1))).cell? ⟨rb, 1, none⟩ = some (.int .i64 ((c : Int) + 1)) := setm_read hr (by simp) _
  have hh2 : (w.setCell ⟨rb, 1, none⟩ (.int .i64 ((c : Int) + 1))).heap[rb]? = some (.cells #[.string s, .int .i64 ((c : Int) + 1)] 81 (0, 0)) := rd_set (i := 1) _ hr
  have HIH : Hid (∀ (lo hi c depth : Nat) (w : World), depth + f = 7 → lo ≤ hi → hi ≤ s.size → c ≤ 30 → RdM w rb s c → w.cell? ⟨1, 0, none⟩ = some (.int .i64 m) → Calls Tryz.prog 33 #[.pointer (some ⟨rb, 0, none⟩), .agg #[.int .i64 (lo : Int), .int .i64 (hi : Int)], .int .i64 (depth : Int)] w (PartPost s rb w (partF s.data.toList f lo hi c))) := IH
  have i1 : ¬ (30 : Int) < (c : Int) + 1 := by omega
  have i2 : ¬ (6 : Int) < (depth : Int) := by omega
  obtain ⟨j0, hj, hjz0, hjz1, hjz2⟩ := info_parts Tryz.infoPart
  obtain ⟨R, hR⟩ : ∃ R, partF s.data.toList (f + 1) lo hi c = R := ⟨_, rfl⟩
  have HR : Hid (partF s.data.toList (f + 1) lo hi c = R) := hR
  rw [hR]
  clear IH hR
  go_enter Tryz.func33, Tryz.ntmps33
  go_upto_region 4 with fail
  obtain ⟨w0, hw0⟩ : ∃ W, w.setCell ⟨rb, 1, none⟩ (.int .i64 ((c : Int) + 1)) = W := ⟨_, rfl⟩
  have z0 : w0.heap.size = w.heap.size := by rw [← hw0]; simp
  have B0 : But w.heap.size rb w w0 := by rw [← hw0]; exact (to_but (Below.refl _ w)).setB 1 _
  rw [hw0] at hh2 ⊢
  have e1 := heap_alloc_new w0 (.cells #[.int .i64 (lo : Int), .int .i64 (hi : Int)] 84)
  have l1 : Below w0.heap.size w0 (w0.alloc (.cells #[.int .i64 (lo : Int), .int .i64 (hi : Int)] 84)) := (Below.refl _ _).alloc (Nat.le_refl _) _
  have zz1 : (w0.alloc (.cells #[.int .i64 (lo : Int), .int .i64 (hi : Int)] 84)).heap.size = w0.heap.size + 1 := by simp
  generalize w0.alloc (.cells #[.int .i64 (lo : Int), .int .i64 (hi : Int)] 84) = w1 at e1 l1 zz1 ⊢
  have e2 := heap_alloc_new w1 (.cells #[.string ⟨#[]⟩, .string ⟨#[]⟩, .int .i64 0, .int .i64 0, .int .i64 0, .slice none 0 0] 25)
  have l2 : Below w1.heap.size w1 (w1.alloc (.cells #[.string ⟨#[]⟩, .string ⟨#[]⟩, .int .i64 0, .int .i64 0, .int .i64 0, .slice none 0 0] 25)) := (Below.refl _ _).alloc (Nat.le_refl _) _
  have zz2 : (w1.alloc (.cells #[.string ⟨#[]⟩, .string ⟨#[]⟩, .int .i64 0, .int .i64 0, .int .i64 0, .slice none 0 0] 25)).heap.size = w1.heap.size + 1 := by simp
  generalize w1.alloc (.cells #[.string ⟨#[]⟩, .string ⟨#[]⟩, .int .i64 0, .int .i64 0, .int .i64 0, .slice none 0 0] 25) = W2 at e2 l2 zz2 ⊢
  have l02 := l1.trans (l2.mono (by omega))
  have hR2 : RdM W2 rb s (c + 1) := (l02.block rb (by omega)).trans (by rw [hh2]; rfl)
  have eS : W2.heap[w.heap.size]? = some (.cells #[.int .i64 (lo : Int), .int .i64 (hi : Int)] 84 (0, 0)) := by rw [← z0]; exact (l2.block _ (by omega)).trans e1
  have eR : W2.heap[w.heap.size + 1]? = some (.cells #[.string ⟨#[]⟩, .string ⟨#[]⟩, .int .i64 0, .int .i64 0, .int .i64 0, .slice none 0 0] 25 (0, 0)) := by rw [← z0, ← zz1]; exact e2
  have B2 : But w.heap.size rb w W2 := B0.trans (to_but (l02.mono (by omega)))
  have zW2 : W2.heap.size = w.heap.size + 2 := by omega
  have hm2 : W2.cell? ⟨1, 0, none⟩ = some (.int .i64 m) := (B2.cell (p := ⟨1, 0, none⟩) hgl hgr).trans hm
  have p0 : W2.cell? ⟨rb, 0, none⟩ = some (.string s) := rd_cell hR2 rfl
  have p1 : W2.cell? ⟨w.heap.size, 0, none⟩ = some (.int .i64 (lo : Int)) := rd_cell eS rfl
  have p2 : W2.cell? ⟨w.heap.size, 1, none⟩ = some (.int .i64 (hi : Int)) := rd_cell eS rfl
  clear q1 f1 s1 hh2 hw0 z0 B0 e1 l1 zz1 e2 l2 zz2 l02 hr hm
  obtain ⟨T, hT⟩ : ∃ T, s.extract lo hi = T := ⟨_, rfl⟩
  have hTl : T.data.toList = textOf s.data.toList lo hi := by rw [← hT, extract_text]
  have hTs : T.size ≤ 90000 := by
    rw [← list_size, hTl, textOf_length _ hlo (by rw [list_size]; exact hhi)]
    omega
  have HF : Hid (partF s.data.toList (f + 1) lo hi c =
      if (kindOf (headOf T.data.toList)).2 = [] then (c + 1, some (.mk (kindOf (headOf T.data.toList)).1 [] (hi - (bodyOf T.data.toList).length) hi ((bodyOf T.data.toList).count 10) []))
      else match partsF (partF s.data.toList f) ((insideOf (bodyOf T.data.toList) (45 :: 45 :: (kindOf (headOf T.data.toList)).2)).map fun x => (x.1 + (hi - (bodyOf T.data.toList).length), x.2 + (hi - (bodyOf T.data.toList).length))) (c + 1) with
      | (c', none) => (c', none)
      | (c', some ps) => (c', some (.mk (kindOf (headOf T.data.toList)).1 (kindOf (headOf T.data.toList)).2 (hi - (bodyOf T.data.toList).length) hi ((bodyOf T.data.toList).count 10) ps))) := by
    show _ = _
    rw [partF, if_neg (by omega), ← hTl]
    rfl
  have hlo' : (lo : Int) ≤ (hi : Int) := by omega
  have hhi' : (hi : Int) ≤ (s.size : Int) := by omega
  have cS : Calls Tryz.prog 64 #[.string T] W2.drew fun e w' => e = .returned (.tuple #[.string ⟨(headOf T.data.toList).toArray⟩, .string ⟨(bodyOf T.data.toList).toArray⟩]) ∧ Below W2.heap.size W2 w' := (split_is T m W2.drew (by omega) (by simpa using hm2)).mono (by
    rintro e w' ⟨rfl, hb⟩
    exact ⟨rfl, (Below.refl _ _).drew.trans hb⟩)
  obtain ⟨hd1, hhd⟩ : ∃ h : ByteArray, ⟨(headOf T.data.toList).toArray⟩ = h := ⟨_, rfl⟩
  obtain ⟨bd, hbd⟩ : ∃ h : ByteArray, ⟨(bodyOf T.data.toList).toArray⟩ = h := ⟨_, rfl⟩
  have hdl : headOf T.data.toList = hd1.data.toList := by rw [← hhd]
  have hbl : bodyOf T.data.toList = bd.data.toList := by rw [← hbd]
  have hds : hd1.size ≤ 90000 := by rw [← list_size, ← hdl]; unfold headOf; rw [List.length_take, list_size]; omega
  have hbs : bd.size ≤ hi - lo := by
    rw [← list_size, ← hbl]
    refine Nat.le_trans (bodyOf_length _) ?_
    rw [hTl, textOf_length _ hlo (by rw [list_size]; exact hhi)]
    exact Nat.le_refl _
  rw [hhd, hbd] at cS
  rw [hdl, hbl, list_size] at HF
  clear hhd hbd hTl hdl hbl
  go_cut [8, 9] (fun hv bv wx => hv = .string hd1 ∧ bv = .string bd ∧ Below W2.heap.size W2 wx)
  case first =>
    go_region_with (go_at_call 64; refine cS.mono ?_; rintro e w3 ⟨rfl, hb3⟩)
    all_goals
      go_wp2_with fail
      go_meet
      exact ⟨rfl, rfl, hb3⟩
  case rest =>
    obtain ⟨rfl, rfl, hb3⟩ := hcut
    rename World => W3
    have hrl2 : rb < W2.heap.size := by omega
    have g2 := (hb3.cell (p := ⟨w.heap.size, 1, none⟩) (by show w.heap.size < _; omega)).trans p2
    have eR3 := (hb3.block (w.heap.size + 1) (by omega)).trans eR
    have hR3 := rdM_below hR2 hb3
    have hm3 := (hb3.cell (p := ⟨1, 0, none⟩) (by show 1 < _; omega)).trans hm2
    have B3 : But w.heap.size rb w W3 := B2.trans (to_but (hb3.mono (by omega)))
    have zW3 := hb3.size
    clear cS p0 p1 p2 eR hR2 hm2 B2 hb3
    obtain ⟨fr, hfr⟩ : ∃ k, hi - bd.size = k := ⟨_, rfl⟩
    have hwf : IntKind.i64.wrap ((hi : Int) - (bd.size : Int)) = (fr : Int) := by rw [IntKind.wrap_i64]; omega
    obtain ⟨cn, hcn⟩ : ∃ k, bd.data.toList.count 10 = k := ⟨_, rfl⟩
    have hcz : cn ≤ 90000 := by rw [← hcn]; refine Nat.le_trans List.count_le_length ?_; rw [list_size]; omega
    have cC : ∀ W, Calls Tryz.prog 65 #[.string bd, .string ⟨#[10]⟩] W fun e w' => e = .returned (.int .i64 (cn : Int)) ∧ w' = W := fun W => (Tryz.strings_Count_one bd 10 W).mono (by
      rintro e w' ⟨rfl, rfl⟩
      exact ⟨by rw [← hcn]; rfl, rfl⟩)
    rw [hfr, hcn] at HF
    have hfz : fr ≤ 90000 := by omega
    have hlt3 : w.heap.size < W3.heap.size := by omega
    have g2a : ∀ o, (W3.alloc o).cell? ⟨w.heap.size, 1, none⟩ = some (.int .i64 (hi : Int)) := fun o => by rw [World.cell?_alloc_lt _ _ ⟨w.heap.size, 1, none⟩ hlt3]; exact g2
    clear hcn
    go_upto_region 5 with fail
    go_cut [10] (fun pv wx => ∃ pb, pv = .pointer (some ⟨pb, 0, none⟩) ∧ W3.heap.size ≤ pb ∧ wx.heap[pb]? = some (.cells #[.string ⟨#[]⟩, .string ⟨#[]⟩, .int .i64 (fr : Int), .int .i64 (hi : Int), .int .i64 (cn : Int), .slice none 0 0] 25 (0, 0)) ∧ Below W3.heap.size W3 wx)
    case first =>
      go_region_with (go_at_call 65; refine (cC _).mono ?_; rintro e w4 ⟨rfl, hw4⟩; subst hw4)
      all_goals
        go_wp2_with fail
        go_meet
        first
          | exact ⟨_, rfl, Nat.le_refl _, heap_alloc_new W3 _, ((Below.refl _ W3).alloc (Nat.le_refl _) _).drew⟩
          | exact ⟨_, rfl, Nat.le_refl _, heap_alloc_new W3.drew _, ((Below.refl _ W3).drew).alloc (Nat.le_refl _) _⟩
    case rest =>
      obtain ⟨pb, rfl, hpb, ePB, hb4⟩ := hcut
      rename World => W4
      have zW4 := hb4.size
      have hpl4 : pb < W4.heap.size := (Array.getElem?_eq_some_iff.1 ePB).1
      have hR4 := rdM_below hR3 hb4
      have eR4 := (hb4.block (w.heap.size + 1) (by omega)).trans eR3
      have hm4 := (hb4.cell (p := ⟨1, 0, none⟩) (by show 1 < _; omega)).trans hm3
      have B4 : But w.heap.size rb w W4 := B3.trans (to_but (hb4.mono (by omega)))
      have cK := kind_is hd1 m W4 hds hm4
      obtain ⟨KK, hKK⟩ : ∃ k, kindOf hd1.data.toList = k := ⟨_, rfl⟩
      have HKL : Hid (KK.2.length ≤ 90001) := by
        have := kind_len hd1.data.toList
        rw [hKK, list_size] at this
        show _ ≤ _
        omega
      rw [hKK] at cK HF
      obtain ⟨k1, k2⟩ := KK
      simp only at cK HF HKL
      clear cC hwf hR3 eR3 hm3 B3 hb4 hKK g2 g2a
      go_wp2_with fail
      refine cK.mono ?_
      clear cK
      rintro e W5 ⟨⟨ty, bn, rfl, hty, hbn⟩, hb5⟩
      have HBZ : Hid (bn.size ≤ 90001) := by
        show _ ≤ _
        rw [← list_size, hbn]
        exact HKL.out
      subst hty
      subst hbn
      have zW5 := hb5.size
      have hpl5 : pb < W5.heap.size := by omega
      have hR5 := rdM_below hR4 hb5
      have eR5 := (hb5.block (w.heap.size + 1) (by omega)).trans eR4
      have hm5 := (hb5.cell (p := ⟨1, 0, none⟩) (by show 1 < _; omega)).trans hm4
      have ePB5 := (hb5.block pb hpl4).trans ePB
      have B5 : But w.heap.size rb w W5 := B4.trans (to_but (hb5.mono (by omega)))
      have u0 := rd_cell (j := 0) ePB5 rfl
      have uf0 := rd_free ePB5 0
      have ePB6 := rd_set (i := 0) (.string ty) ePB5
      have u1 := rd_cell (j := 1) ePB6 rfl
      have uf1 := rd_free ePB6 1
      have ePB7 := rd_set (i := 1) (.string bn) ePB6
      clear hR4 eR4 hm4 B4 hb5 ePB
      go_upto_region 7 with fail
      have hrp : rb ≠ pb := by omega
      have hRp : w.heap.size + 1 ≠ pb := by omega
      have hR7 : RdM ((W5.setCell ⟨pb, 0, none⟩ (.string ty)).setCell ⟨pb, 1, none⟩ (.string bn)) rb s (c + 1) := ((Below.heap_setCell _ _ _ _ hrp).trans (Below.heap_setCell _ _ _ _ hrp)).trans hR5
      have eR7 := ((Below.heap_setCell (W5.setCell ⟨pb, 0, none⟩ (.string ty)) ⟨pb, 1, none⟩ (.string bn) _ hRp).trans (Below.heap_setCell W5 ⟨pb, 0, none⟩ (.string ty) _ hRp)).trans eR5
      have B7 : But w.heap.size rb w ((W5.setCell ⟨pb, 0, none⟩ (.string ty)).setCell ⟨pb, 1, none⟩ (.string bn)) := B5.trans (to_but (((Below.refl _ W5).setCell (p := ⟨pb, 0, none⟩) (by show w.heap.size ≤ pb; omega) _).setCell (p := ⟨pb, 1, none⟩) (by show w.heap.size ≤ pb; omega) _))
      have zW7 : ((W5.setCell ⟨pb, 0, none⟩ (.string ty)).setCell ⟨pb, 1, none⟩ (.string bn)).heap.size = W5.heap.size := by simp
      generalize (W5.setCell ⟨pb, 0, none⟩ (.string ty)).setCell ⟨pb, 1, none⟩ (.string bn) = W7 at ePB7 hR7 eR7 B7 zW7 ⊢
      replace ePB7 : W7.heap[pb]? = some (.cells #[.string ty, .string bn, .int .i64 (fr : Int), .int .i64 (hi : Int), .int .i64 (cn : Int), .slice none 0 0] 25 (0, 0)) := ePB7
      clear u0 uf0 ePB6 u1 uf1 ePB5 hR5 eR5 hm5 B5
      have hm7 : W7.cell? ⟨1, 0, none⟩ = some (.int .i64 m) := (B7.cell (p := ⟨1, 0, none⟩) hgl hgr).trans HM.out
      have u0 := rd_cell (j := 0) ePB7 rfl
      have u1 := rd_cell (j := 1) ePB7 rfl
      have u2 := rd_cell (j := 2) ePB7 rfl
      have u3 := rd_cell (j := 3) ePB7 rfl
      have u4 := rd_cell (j := 4) ePB7 rfl
      have u5 := rd_cell (j := 5) ePB7 rfl
      have r0 := rd_cell (j := 0) eR7 rfl
      have r1 := rd_cell (j := 1) eR7 rfl
      have r2 := rd_cell (j := 2) eR7 rfl
      have r3 := rd_cell (j := 3) eR7 rfl
      have r4 := rd_cell (j := 4) eR7 rfl
      have r5 := rd_cell (j := 5) eR7 rfl
      have rf0 := rd_free eR7 0
      have rf1 := rd_free eR7 1
      have rf2 := rd_free eR7 2
      have rf3 := rd_free eR7 3
      have rf4 := rd_free eR7 4
      have rf5 := rd_free eR7 5
      by_cases hbe : bn.data.toList = []
      · obtain rfl : bn = ⟨#[]⟩ := text_ext hbe
        have e6 := six_set eR7 (.string ty) (.string ⟨#[]⟩) (.int .i64 (fr : Int)) (.int .i64 (hi : Int)) (.int .i64 (cn : Int)) (.slice none 0 0)
        have v0 := setm_read (i := 0) eR7 (by simp) (.string ty)
        have v1 := setm_read (i := 1) (rd_set (i := 0) (.string ty) eR7) (by simp) (.string ⟨#[]⟩)
        have v2 := setm_read (i := 2) (rd_set (i := 1) (.string ⟨#[]⟩) (rd_set (i := 0) (.string ty) eR7)) (by simp) (.int .i64 (fr : Int))
        have v3 := setm_read (i := 3) (rd_set (i := 2) (.int .i64 (fr : Int)) (rd_set (i := 1) (.string ⟨#[]⟩) (rd_set (i := 0) (.string ty) eR7))) (by simp) (.int .i64 (hi : Int))
        have v4 := setm_read (i := 4) (rd_set (i := 3) (.int .i64 (hi : Int)) (rd_set (i := 2) (.int .i64 (fr : Int)) (rd_set (i := 1) (.string ⟨#[]⟩) (rd_set (i := 0) (.string ty) eR7)))) (by simp) (.int .i64 (cn : Int))
        have v5 := setm_read (i := 5) (rd_set (i := 4) (.int .i64 (cn : Int)) (rd_set (i := 3) (.int .i64 (hi : Int)) (rd_set (i := 2) (.int .i64 (fr : Int)) (rd_set (i := 1) (.string ⟨#[]⟩) (rd_set (i := 0) (.string ty) eR7))))) (by simp) (.slice none 0 0)
        have HRR : Hid (R = (c + 1, some (.mk ty.data.toList [] fr hi cn []))) := by
          show _ = _
          rw [← HR.out, HF.out, if_pos rfl]
        go_wp2_with fail
        refine bodyPost_ret (v := .tuple #[.agg #[.string ty, .string ⟨#[]⟩, .int .i64 (fr : Int), .int .i64 (hi : Int), .int .i64 (cn : Int), .slice none 0 0], .bool true]) (by simp [results, Tryz.results33, go_sem, v0, v1, v2, v3, v4, v5]) rfl ?_
        rw [HRR.out]
        exact ⟨(six_other W7 (by omega) _ _ _ _ _ _).trans hR7, six_but B7 (by omega) _ _ _ _ _ _, Or.inr ⟨_, [.string ty, .string ⟨#[]⟩, .int .i64 (fr : Int), .int .i64 (hi : Int), .int .i64 (cn : Int), .slice none 0 0], rfl, rfl, Six.mk ty ⟨#[]⟩ fr hi cn [] none 0 (fun _ => []) (by simp) (Or.inl rfl)⟩⟩
      · have hv1 : ¬ bn.toList = [] := by rw [Lib.toList_data]; exact hbe
        have hv2 : bn.toList.isEmpty = false := by rw [Lib.toList_data]; cases hx : bn.data.toList with | nil => exact absurd hx hbe | cons _ _ => rfl
        have hbz : bn.size ≤ 90001 := HBZ.out
        have hz1 : (⟨#[45, 45]⟩ : ByteArray).size + bn.size ≤ 1000000 := by show 2 + bn.size ≤ _; omega
        obtain ⟨mk, hmk⟩ : ∃ t : ByteArray, ⟨#[45, 45]⟩ ++ bn = t := ⟨_, rfl⟩
        have hml : mk.data.toList = 45 :: 45 :: bn.data.toList := by rw [← hmk, cat_list]; rfl
        have hmz : mk.size ≤ 1000000 := by rw [← hmk, cat_size]; exact hz1
        have cI := inside_is bd mk m W7 (by omega) hmz hm7
        obtain ⟨L, hL⟩ : ∃ L, insideOf bd.data.toList mk.data.toList = L := ⟨_, rfl⟩
        have HIR : Hid (InRow L 0 bd.size) := by rw [← hL, ← list_size bd]; exact inside_row _ _
        have HLZ : Hid (L.length ≤ 90001) := by
          have := inside_length bd mk
          rw [hL] at this
          show _ ≤ _
          omega
        rw [hL] at cI
        have HRR : Hid (R = match partsF (partF s.data.toList f) (L.map fun x => (x.1 + fr, x.2 + fr)) (c + 1) with
            | (c', none) => (c', none)
            | (c', some ps) => (c', some (.mk ty.data.toList bn.data.toList fr hi cn ps))) := by
          show _ = _
          rw [← HR.out, HF.out, if_neg hbe, ← hml, hL]
        clear HF hL hml hbe r0 r1 r2 r3 r4 r5 rf0 rf1 rf2 rf3 rf4 rf5
        go_wp2_with fail
        refine cI.mono ?_
        clear cI
        rintro e W8 ⟨hb8, v8, rfl, hrow8⟩
        have zW8 := hb8.size
        have hR8 := rdM_below hR7 hb8
        have eR8 := (hb8.block (w.heap.size + 1) (by omega)).trans eR7
        have ePB8 := (hb8.block pb (by omega)).trans ePB7
        have hm8 := (hb8.cell (p := ⟨1, 0, none⟩) (by show 1 < _; omega)).trans hm7
        have B8 : But w.heap.size rb w W8 := B7.trans (to_but (hb8.mono (by omega)))
        obtain ⟨va, vc, rfl⟩ := row_slice hrow8
        have HROW : Hid (∀ k x y : Nat, L[k]? = some (x, y) → ∃ g, va = some ⟨g, 0, none⟩ ∧ W7.heap.size ≤ g ∧ g < W8.heap.size ∧ W8.cell? ⟨g, k * 2, none⟩ = some (.int .i64 (x : Int)) ∧ W8.cell? ⟨g, k * 2 + 1, none⟩ = some (.int .i64 (y : Int))) := by
          intro k x y hk
          have hkl : k < L.length := (List.getElem?_eq_some_iff.1 hk).1
          obtain ⟨g, cap, hv⟩ := row_some hrow8 (by omega)
          injection hv with hv1 _ _
          have hlt := hrow8.lt g (by rw [hv1]; rfl)
          have hcc := cellsS_at hk
          refine ⟨g, hv1, hlt.1, hlt.2, ?_, ?_⟩
          · have := hrow8
            rw [hv1] at this
            rw [this.cellAt (k * 2) (by omega), hcc.1]
          · have := hrow8
            rw [hv1] at this
            rw [this.cellAt (k * 2 + 1) (by omega), hcc.2]
        obtain ⟨N, hN⟩ : ∃ N, L.length = N := ⟨_, rfl⟩
        have HN : Hid (L.length = N) := hN
        have hNz : N ≤ 90001 := by rw [← hN]; exact HLZ.out
        rw [hN]
        clear hrow8 hR7 eR7 ePB7 hm7 B7 hb8 hN u0 u1 u2 u3 u4 u5
        go_wp2_with fail
        have HR0 : Hid (addP [] (partsF (partF s.data.toList f) ((L.map fun x => (x.1 + fr, x.2 + fr)).drop 0) (c + 1)) = partsF (partF s.data.toList f) (L.map fun x => (x.1 + fr, x.2 + fr)) (c + 1)) := by show _ = _; rw [addP_nil]; rfl
        obtain ⟨Q, hQ⟩ : ∃ Q, partsF (partF s.data.toList f) (L.map fun x => (x.1 + fr, x.2 + fr)) (c + 1) = Q := ⟨_, rfl⟩
        rw [hQ] at HR0 HRR
        clear hQ
        go_loopw [72] (fun i wr => ∃ (k c' : Nat) (ps : List Mm.Pt) (rows : List (List Value)) (vs : Value), i = .int .i64 (k : Int) ∧ k ≤ N ∧ c' ≤ 30 ∧ Hid (ps.length = k ∧ rows.length = k) ∧ Hid (addP ps (partsF (partF s.data.toList f) ((L.map fun x => (x.1 + fr, x.2 + fr)).drop k) c') = Q) ∧ RdM wr rb s c' ∧
            wr.heap[pb]? = some (.cells #[.string ty, .string bn, .int .i64 (fr : Int), .int .i64 (hi : Int), .int .i64 (cn : Int), vs] 25 (0, 0)) ∧ wr.ownsRow W8.heap.size 25 6 vs k rows.flatten ∧
            Hid (∀ (j : Nat) p xs, ps[j]? = some p → rows[j]? = some xs → Six wr (fun q => W8.heap.size ≤ q ∧ vs.ownBlock ≠ some q) p xs) ∧ Hid (∀ xs ∈ rows, xs.length = 6) ∧ Frm W8.heap.size (fun q => q = rb ∨ q = pb) W8 wr) (fun i _ => N - (intOf i).toNat)
        case atStart => exact ⟨0, c + 1, [], [], .slice none 0 0, rfl, by omega, by omega, ⟨rfl, rfl⟩, HR0.out, hR8, ePB8, World.ownsRow_nil _ _ _ _, by intro j p xs h; simp at h, by intro xs h; simp at h, Frm.refl _ _ _⟩
        case round =>
          obtain ⟨k, c', ps, rows, vs, rfl, hk, hc', HLL, HQ, hRr, ePBr, hrow, HSX, H6, hfrm⟩ := hrel
          have zwr := hfrm.size
          by_cases hlt : k < N
          · have hkL : k < L.length := by rw [HN.out]; exact hlt
            obtain ⟨⟨x, y⟩, hxy⟩ : ∃ q, L[k] = q := ⟨_, rfl⟩
            have hLk : L[k]? = some (x, y) := by rw [List.getElem?_eq_getElem hkL, hxy]
            obtain ⟨g, rfl, hg1, hg2, q0, q1⟩ := HROW.out k x y hLk
            have hxyb := inRow_get HIR.out hLk
            have hgw : wr.heap[g]? = W8.heap[g]? := hfrm.block g hg2 (by omega)
            have q0r := (World.cell?_of_block (w := W8) (a := ⟨g, k * 2, none⟩) hgw).trans q0
            have q1r := (World.cell?_of_block (w := W8) (a := ⟨g, k * 2 + 1, none⟩) hgw).trans q1
            have HQ2 : Hid (addP ps (partsF (partF s.data.toList f) ((x + fr, y + fr) :: (L.map fun x => (x.1 + fr, x.2 + fr)).drop (k + 1)) c') = Q) := by
              have := HQ.out
              rw [List.drop_eq_getElem_cons (by rw [List.length_map]; exact hkL), List.getElem_map, hxy] at this
              exact this
            obtain ⟨Wr, hWr⟩ : ∃ W, W = wr := ⟨_, rfl⟩
            subst hWr
            have hbA : Below Wr.heap.size Wr (Wr.alloc (.cells #[.int .i64 (x : Int), .int .i64 (y : Int)] 84)) := (Below.refl _ _).alloc (Nat.le_refl _) _
            have eA := heap_alloc_new Wr (.cells #[.int .i64 (x : Int), .int .i64 (y : Int)] 84)
            have hpbr : pb < Wr.heap.size := (Array.getElem?_eq_some_iff.1 ePBr).1
            have a0 := rd_cell (j := 0) eA rfl
            have a1 := rd_cell (j := 1) eA rfl
            have u2 : (Wr.alloc (.cells #[.int .i64 (x : Int), .int .i64 (y : Int)] 84)).cell? ⟨pb, 2, none⟩ = some (.int .i64 (fr : Int)) := (hbA.cell (p := ⟨pb, 2, none⟩) hpbr).trans (rd_cell (j := 2) ePBr rfl)
            have cW := within_is x y fr (by omega) (by omega) (by omega) (Wr.alloc (.cells #[.int .i64 (x : Int), .int .i64 (y : Int)] 84))
            clear hgw q0 q1 hxy
            go_wp2_with fail
            refine cW.mono ?_
            clear cW
            rintro e w9 ⟨rfl, hb9⟩
            have hbr9 := hbA.trans (hb9.mono hbA.size)
            have hR9 := rdM_below hRr hbr9
            have B9 : But w.heap.size rb w w9 := by
              refine B8.trans (But.trans ?_ (to_but (hbr9.mono (by omega))))
              exact ⟨hfrm.os, hfrm.tape, hfrm.output, hfrm.size, fun q hq hqr => hfrm.block q (by omega) (by omega)⟩
            have hm9 : w9.cell? ⟨1, 0, none⟩ = some (.int .i64 m) := (B9.cell (p := ⟨1, 0, none⟩) hgl hgr).trans HM.out
            have cP := HIH.out (x + fr) (y + fr) c' (depth + 1) w9 (by omega) (by omega) (by omega) hc' hR9 hm9
            have hcnt := partF_count s.data.toList f (x + fr) (y + fr) c' hc'
            obtain ⟨P, hP⟩ : ∃ P, partF s.data.toList f (x + fr) (y + fr) c' = P := ⟨_, rfl⟩
            rw [hP] at cP hcnt
            have HPF : Hid (partF s.data.toList f (x + fr) (y + fr) c' = P) := hP
            clear a0 a1 u2 hP q0r q1r
            go_wp2_with fail
            refine cP.mono ?_
            clear cP
            rintro e w10 ⟨hR10, B10, hcase⟩
            have z9 := hbr9.size
            have z10 := B10.size
            have hfar : ∀ q, q < Wr.heap.size → q ≠ rb → w10.heap[q]? = Wr.heap[q]? := fun q hq hqr => (B10.block q (by omega) hqr).trans (hbr9.block q hq)
            have ePB10 := (hfar pb hpbr (by omega)).trans ePBr
            have hos : w10.os = Wr.os ∧ w10.tape = Wr.tape ∧ w10.output = Wr.output := ⟨B10.os.trans hbr9.os, B10.tape.trans hbr9.tape, B10.output.trans hbr9.output⟩
            clear hbA eA hb9 hbr9 hR9 hm9
            rcases hcase with ⟨hn, rfl⟩ | ⟨p, xs, hp, rfl, hsix⟩
            · have HRN : Hid (R = (P.1, none)) := by
                show _ = _
                obtain ⟨P1, P2⟩ := P
                obtain rfl : P2 = none := hn
                rw [HRR.out, ← HQ2.out, partsF_none HPF.out]
                rfl
              have hz6 : zeroSix.toArray = #[.string ⟨#[]⟩, .string ⟨#[]⟩, .int .i64 0, .int .i64 0, .int .i64 0, .slice none 0 0] := rfl
              rw [hz6]
              have hbB : Below w10.heap.size w10 (w10.alloc (.cells #[.string ⟨#[]⟩, .string ⟨#[]⟩, .int .i64 0, .int .i64 0, .int .i64 0, .slice none 0 0] 25)) := (Below.refl _ _).alloc (Nat.le_refl _) _
              have eRr : Wr.heap[w.heap.size + 1]? = some (.cells #[.string ⟨#[]⟩, .string ⟨#[]⟩, .int .i64 0, .int .i64 0, .int .i64 0, .slice none 0 0] 25 (0, 0)) := (hfrm.block (w.heap.size + 1) (by omega) (by omega)).trans eR8
              have eR11 := (hbB.block (w.heap.size + 1) (by omega)).trans ((hfar (w.heap.size + 1) (by omega) (by omega)).trans eRr)
              have hR11 := rdM_below hR10 hbB
              have B11 : But w.heap.size rb w (w10.alloc (.cells #[.string ⟨#[]⟩, .string ⟨#[]⟩, .int .i64 0, .int .i64 0, .int .i64 0, .slice none 0 0] 25)) := (B9.trans ⟨B10.os, B10.tape, B10.output, B10.size, fun q hq hqr => B10.block q (by omega) hqr⟩).trans (to_but (hbB.mono (by omega)))
              have r0 := rd_cell (j := 0) eR11 rfl
              have r1 := rd_cell (j := 1) eR11 rfl
              have r2 := rd_cell (j := 2) eR11 rfl
              have r3 := rd_cell (j := 3) eR11 rfl
              have r4 := rd_cell (j := 4) eR11 rfl
              have r5 := rd_cell (j := 5) eR11 rfl
              have rf0 := rd_free eR11 0
              have rf1 := rd_free eR11 1
              have rf2 := rd_free eR11 2
              have rf3 := rd_free eR11 3
              have rf4 := rd_free eR11 4
              have rf5 := rd_free eR11 5
              have v0 := setm_read (i := 0) eR11 (by simp) (.string ⟨#[]⟩)
              have v1 := setm_read (i := 1) (rd_set (i := 0) (.string ⟨#[]⟩) eR11) (by simp) (.string ⟨#[]⟩)
              have v2 := setm_read (i := 2) (rd_set (i := 1) (.string ⟨#[]⟩) (rd_set (i := 0) (.string ⟨#[]⟩) eR11)) (by simp) (.int .i64 0)
              have v3 := setm_read (i := 3) (rd_set (i := 2) (.int .i64 0) (rd_set (i := 1) (.string ⟨#[]⟩) (rd_set (i := 0) (.string ⟨#[]⟩) eR11))) (by simp) (.int .i64 0)
              have v4 := setm_read (i := 4) (rd_set (i := 3) (.int .i64 0) (rd_set (i := 2) (.int .i64 0) (rd_set (i := 1) (.string ⟨#[]⟩) (rd_set (i := 0) (.string ⟨#[]⟩) eR11)))) (by simp) (.int .i64 0)
              have v5 := setm_read (i := 5) (rd_set (i := 4) (.int .i64 0) (rd_set (i := 3) (.int .i64 0) (rd_set (i := 2) (.int .i64 0) (rd_set (i := 1) (.string ⟨#[]⟩) (rd_set (i := 0) (.string ⟨#[]⟩) eR11))))) (by simp) (.slice none 0 0)
              clear hbB eRr hfar hz6
              go_wp2_with fail
              refine bodyPost_ret (v := .tuple #[.agg #[.string ⟨#[]⟩, .string ⟨#[]⟩, .int .i64 0, .int .i64 0, .int .i64 0, .slice none 0 0], .bool false]) (by simp [results, Tryz.results33, go_sem, v0, v1, v2, v3, v4, v5]) rfl ?_
              rw [HRN.out]
              exact ⟨(six_other _ (by omega) _ _ _ _ _ _).trans hR11, six_but B11 (by omega) _ _ _ _ _ _, Or.inl ⟨rfl, rfl⟩⟩
            · obtain ⟨tb, bb, l1, h1, n1, a1, k1, cc1, rfl⟩ := six_cells hsix
              have HC30 : Hid (P.1 ≤ 30) := (hcnt p hp).2
              have HQ3 : Hid (addP (ps ++ [p]) (partsF (partF s.data.toList f) ((L.map fun x => (x.1 + fr, x.2 + fr)).drop (k + 1)) P.1) = Q) := by
                show _ = _
                obtain ⟨P1, P2⟩ := P
                obtain rfl : P2 = some p := hp
                rw [← HQ2.out, partsF_some HPF.out, addP_add]
              have hrow10 : w10.ownsRow W8.heap.size 25 6 vs k rows.flatten := own_same hrow (fun q hq => hfar q (hrow.lt q hq).2 (by have := (hrow.lt q hq).1; omega))
              have hvl : ∀ q, vs.ownBlock = some q → W8.heap.size ≤ q ∧ q < Wr.heap.size := fun q hq => hrow.lt q hq
              have hk31 : k ≤ 90001 := by omega
              obtain ⟨va2, vc2, rfl⟩ := row_slice hrow10
              have hbB : Below w10.heap.size w10 (w10.alloc (.cells #[.string tb, .string bb, .int .i64 (l1 : Int), .int .i64 (h1 : Int), .int .i64 (n1 : Int), .slice a1 k1 cc1] 25)) := (Below.refl _ _).alloc (Nat.le_refl _) _
              have hrow11 := hrow10.alloc (.cells #[.string tb, .string bb, .int .i64 (l1 : Int), .int .i64 (h1 : Int), .int .i64 (n1 : Int), .slice a1 k1 cc1] 25)
              have e11 := heap_alloc_new w10 (.cells #[.string tb, .string bb, .int .i64 (l1 : Int), .int .i64 (h1 : Int), .int .i64 (n1 : Int), .slice a1 k1 cc1] 25)
              have ePB11 := (hbB.block pb (by omega)).trans ePB10
              have hR11 := rdM_below hR10 hbB
              have z11 : (w10.alloc (.cells #[.string tb, .string bb, .int .i64 (l1 : Int), .int .i64 (h1 : Int), .int .i64 (n1 : Int), .slice a1 k1 cc1] 25)).heap.size = w10.heap.size + 1 := by simp
              have u5 := rd_cell (j := 5) ePB11 rfl
              have t0 := rd_cell (j := 0) e11 rfl
              have t1 := rd_cell (j := 1) e11 rfl
              have t2 := rd_cell (j := 2) e11 rfl
              have t3 := rd_cell (j := 3) e11 rfl
              have t4 := rd_cell (j := 4) e11 rfl
              have t5 := rd_cell (j := 5) e11 rfl
              clear hcnt
              have hnews : ∀ (i : Nat) (u : Value), [Value.string tb, .string bb, .int .i64 (l1 : Int), .int .i64 (h1 : Int), .int .i64 (n1 : Int), .slice a1 k1 cc1][i]? = some u → ((w10.alloc (.cells #[.string tb, .string bb, .int .i64 (l1 : Int), .int .i64 (h1 : Int), .int .i64 (n1 : Int), .slice a1 k1 cc1] 25)).alloc (.cells #[.string tb, .string bb, .int .i64 (l1 : Int), .int .i64 (h1 : Int), .int .i64 (n1 : Int), .slice a1 k1 cc1] 25)).cell? (Addr.add ⟨w10.heap.size + 1, 0, none⟩ i) = some u := by
                have := World.news_of_block (heap_alloc_new (w10.alloc (.cells #[.string tb, .string bb, .int .i64 (l1 : Int), .int .i64 (h1 : Int), .int .i64 (n1 : Int), .slice a1 k1 cc1] 25)) (.cells #[.string tb, .string bb, .int .i64 (l1 : Int), .int .i64 (h1 : Int), .int .i64 (n1 : Int), .slice a1 k1 cc1] 25))
                rw [z11] at this
                exact this
              have hbC : Below (w10.alloc (.cells #[.string tb, .string bb, .int .i64 (l1 : Int), .int .i64 (h1 : Int), .int .i64 (n1 : Int), .slice a1 k1 cc1] 25)).heap.size (w10.alloc (.cells #[.string tb, .string bb, .int .i64 (l1 : Int), .int .i64 (h1 : Int), .int .i64 (n1 : Int), .slice a1 k1 cc1] 25)) ((w10.alloc (.cells #[.string tb, .string bb, .int .i64 (l1 : Int), .int .i64 (h1 : Int), .int .i64 (n1 : Int), .slice a1 k1 cc1] 25)).alloc (.cells #[.string tb, .string bb, .int .i64 (l1 : Int), .int .i64 (h1 : Int), .int .i64 (n1 : Int), .slice a1 k1 cc1] 25)) := (Below.refl _ _).alloc (Nat.le_refl _) _
              have ePB12 := (hbC.block pb (by omega)).trans ePB11
              have hR12 := rdM_below hR11 hbC
              have hnb : ∀ q, q < W8.heap.size → some q ≠ (Value.slice va2 k vc2).ownBlock := fun q hq e => by have := (hvl q e.symm).1; omega
              go_wp2_with (at_builtin; go_must (refine wpList_append_lies _ rfl (.tmp 91) (.tmp 93) 23 rfl W8.heap.size 25 j0 (.agg #[.string ⟨#[]⟩, .string ⟨#[]⟩, .int .i64 0, .int .i64 0, .int .i64 0, .slice none 0 0]) 6 80 Tryz.underlying23 hj hjz0 hjz1 hjz2 rfl (by decide) _ _ _ (by rfl) (hrow11.alloc _) ⟨w10.heap.size + 1, 0, none⟩ 1 1 [.string tb, .string bb, .int .i64 (l1 : Int), .int .i64 (h1 : Int), .int .i64 (n1 : Int), .slice a1 k1 cc1] (by rfl) rfl hnews (by simp [Value.oneCell']) (by decide) (by unfold maxLen; omega) (by omega) (by simp; omega) _ rfl ?_); intro g13 cap13 w13 hown13 hg13 hor13 hlt13; have ePB13 := (hg13.block pb (by simp; omega) (hnb pb (by omega))).trans ePB12; have y5 := rd_cell (j := 5) ePB13 rfl; have yf5 := rd_free ePB13 5)
              have hpb8 : pb < W8.heap.size := by omega
              have far13 : ∀ q, q < w10.heap.size → some q ≠ (Value.slice va2 k vc2).ownBlock → q ≠ pb → (w13.setCell ⟨pb, 5, none⟩ (.slice (some ⟨g13, 0, none⟩) (k + 1) cap13)).heap[q]? = w10.heap[q]? := fun q hq h1 h2 =>
                (Below.heap_setCell _ _ _ _ h2).trans ((hg13.block q (by simp; omega) h1).trans ((hbC.block q (by omega)).trans (hbB.block q hq)))
              have hog : ∀ q, q < w10.heap.size → some q ≠ (Value.slice va2 k vc2).ownBlock → q ≠ g13 := fun q hq h1 e => by
                subst e
                rcases hor13 with h | h
                · exact h1 h.symm
                · simp at h; omega
              have hsz13 := hg13.size
              simp only [World.size_alloc] at hsz13
              go_roundw
              case rel =>
                refine ⟨k + 1, P.1, ps ++ [p], rows ++ [[.string tb, .string bb, .int .i64 (l1 : Int), .int .i64 (h1 : Int), .int .i64 (n1 : Int), .slice a1 k1 cc1]], .slice (some ⟨g13, 0, none⟩) (k + 1) cap13, by go_num, by omega, HC30.out, ?_, HQ3.out, ?_, rd_set (i := 5) (.slice (some ⟨g13, 0, none⟩) (k + 1) cap13) ePB13, ?_, ?_, ?_, ?_⟩
                · exact ⟨by rw [List.length_append, HLL.out.1]; rfl, by rw [List.length_append, HLL.out.2]; rfl⟩
                · exact (Below.heap_setCell _ _ _ _ (by omega)).trans ((hg13.block rb (by simp; omega) (hnb rb (by omega))).trans hR12)
                · rw [List.flatten_append]
                  exact own_same hown13 (fun q hq => Below.heap_setCell _ _ _ _ (fun e => by have e' : q = pb := e; have := (hown13.lt q hq).1; omega))
                · intro j p' xs' hjp hjx
                  by_cases hjk : j < k
                  · rw [List.getElem?_append_left (by rw [HLL.out.1]; exact hjk)] at hjp
                    rw [List.getElem?_append_left (by rw [HLL.out.2]; exact hjk)] at hjx
                    refine (HSX.out j p' xs' hjp hjx).kept fun q hq hlt9 => ⟨⟨hq.1, fun e => ?_⟩, ?_⟩
                    · injection e with e
                      exact hog q (by omega) (Ne.symm hq.2) e.symm
                    · exact (far13 q (by omega) (Ne.symm hq.2) (by have := hq.1; omega)).trans (hfar q hlt9 (by have := hq.1; omega))
                  · have hjl : j < (ps ++ [p]).length := (List.getElem?_eq_some_iff.1 hjp).1
                    obtain rfl : j = k := by rw [List.length_append, HLL.out.1] at hjl; simp at hjl; omega
                    rw [List.getElem?_append_right (by rw [HLL.out.1]; omega), HLL.out.1, Nat.sub_self] at hjp
                    rw [List.getElem?_append_right (by rw [HLL.out.2]; omega), HLL.out.2, Nat.sub_self] at hjx
                    obtain rfl : p = p' := by simpa using hjp
                    obtain rfl := Option.some.inj hjx
                    have hown9 : ∀ q, w9.heap.size ≤ q → some q ≠ (Value.slice va2 j vc2).ownBlock := fun q hq e => by have := (hvl q e.symm).2; omega
                    refine hsix.kept fun q hq hlt9 => ⟨⟨by omega, fun e => ?_⟩, far13 q hlt9 (hown9 q hq) (by omega)⟩
                    injection e with e
                    exact hog q hlt9 (hown9 q hq) e.symm
                · intro xs' hxs
                  rcases List.mem_append.1 hxs with h | h
                  · exact H6.out xs' h
                  · rw [List.mem_singleton.1 h]; rfl
                · refine hfrm.trans ⟨hg13.os.trans (hbC.os.trans (hbB.os.trans hos.1)), hg13.tape.trans (hbC.tape.trans (hbB.tape.trans hos.2.1)), hg13.output.trans (hbC.output.trans (hbB.output.trans hos.2.2)), by simp; omega, fun q hq hx => ?_⟩
                  exact (far13 q (by omega) (hnb q hq) (fun e => hx (Or.inr e))).trans (hfar q (by omega) (fun e => hx (Or.inl e)))
              case measure => simp [intOf]; omega
          · obtain rfl : k = N := by omega
            have HRS : Hid (R = (c', some (.mk ty.data.toList bn.data.toList fr hi cn ps))) := by
              show _ = _
              have h1 := HQ.out
              rw [List.drop_eq_nil_of_le (by rw [List.length_map, HN.out]; exact Nat.le_refl _), partsF] at h1
              rw [HRR.out, ← h1]
              simp [addP]
            have hrowK := hrow
            obtain ⟨va2, vc2, rfl⟩ := row_slice hrow
            have eRr : wr.heap[w.heap.size + 1]? = some (.cells #[.string ⟨#[]⟩, .string ⟨#[]⟩, .int .i64 0, .int .i64 0, .int .i64 0, .slice none 0 0] 25 (0, 0)) := (hfrm.block (w.heap.size + 1) (by omega) (by omega)).trans eR8
            have Br : But w.heap.size rb w wr := B8.trans ⟨hfrm.os, hfrm.tape, hfrm.output, hfrm.size, fun q hq hqr => hfrm.block q (by omega) (by omega)⟩
            have HSIX : Hid (Six wr (fun q => W8.heap.size ≤ q) (.mk ty.data.toList bn.data.toList fr hi cn ps) [.string ty, .string bn, .int .i64 (fr : Int), .int .i64 (hi : Int), .int .i64 (cn : Int), .slice va2 k vc2]) := by
              show Six _ _ _ _
              have hpk := HLL.out.1
              have hmk := Six.mk (w := wr) (Ok := fun q => W8.heap.size ≤ q) ty bn fr hi cn ps va2 vc2 (fun j => rows.getD j []) (fun j p hjp => by
                have hjk : j < k := by have := (List.getElem?_eq_some_iff.1 hjp).1; omega
                have hjr : rows[j]? = some (rows.getD j []) := by
                  rw [List.getD_eq_getElem?_getD, List.getElem?_eq_getElem (by rw [HLL.out.2]; exact hjk)]; rfl
                exact (HSX.out j p _ hjp hjr).kept fun q hq _ => ⟨hq.1, rfl⟩) (by
                by_cases hps : ps = []
                · exact Or.inl hps
                · right
                  have hk0 : k ≠ 0 := fun e => hps (List.eq_nil_of_length_eq_zero (by omega))
                  obtain ⟨g2, cap2, hv2⟩ := row_some hrowK hk0
                  injection hv2 with hva _ _
                  subst hva
                  have hl2 := (hrowK.lt g2 rfl).1
                  refine ⟨g2, 0, rfl, hl2, fun j p hjp i x hx => ?_⟩
                  have hjk : j < k := by have := (List.getElem?_eq_some_iff.1 hjp).1; omega
                  have hjr : rows[j]? = some (rows.getD j []) := by
                    rw [List.getD_eq_getElem?_getD, List.getElem?_eq_getElem (by rw [HLL.out.2]; exact hjk)]; rfl
                  have hx6 : i < 6 := by
                    have h6 := H6.out _ (List.mem_of_getElem? hjr)
                    have := (List.getElem?_eq_some_iff.1 hx).1
                    omega
                  rw [Nat.zero_add, hrowK.cellAt (j * 6 + i) (by omega), flat_get H6.out hjr hx6]
                  exact hx)
              rw [hpk] at hmk
              exact hmk
            have u0 := rd_cell (j := 0) ePBr rfl
            have u1 := rd_cell (j := 1) ePBr rfl
            have u2 := rd_cell (j := 2) ePBr rfl
            have u3 := rd_cell (j := 3) ePBr rfl
            have u4 := rd_cell (j := 4) ePBr rfl
            have u5 := rd_cell (j := 5) ePBr rfl
            have r0 := rd_cell (j := 0) eRr rfl
            have r1 := rd_cell (j := 1) eRr rfl
            have r2 := rd_cell (j := 2) eRr rfl
            have r3 := rd_cell (j := 3) eRr rfl
            have r4 := rd_cell (j := 4) eRr rfl
            have r5 := rd_cell (j := 5) eRr rfl
            have rf0 := rd_free eRr 0
            have rf1 := rd_free eRr 1
            have rf2 := rd_free eRr 2
            have rf3 := rd_free eRr 3
            have rf4 := rd_free eRr 4
            have rf5 := rd_free eRr 5
            have v0 := setm_read (i := 0) eRr (by simp) (.string ty)
            have v1 := setm_read (i := 1) (rd_set (i := 0) (.string ty) eRr) (by simp) (.string bn)
            have v2 := setm_read (i := 2) (rd_set (i := 1) (.string bn) (rd_set (i := 0) (.string ty) eRr)) (by simp) (.int .i64 (fr : Int))
            have v3 := setm_read (i := 3) (rd_set (i := 2) (.int .i64 (fr : Int)) (rd_set (i := 1) (.string bn) (rd_set (i := 0) (.string ty) eRr))) (by simp) (.int .i64 (hi : Int))
            have v4 := setm_read (i := 4) (rd_set (i := 3) (.int .i64 (hi : Int)) (rd_set (i := 2) (.int .i64 (fr : Int)) (rd_set (i := 1) (.string bn) (rd_set (i := 0) (.string ty) eRr)))) (by simp) (.int .i64 (cn : Int))
            have v5 := setm_read (i := 5) (rd_set (i := 4) (.int .i64 (cn : Int)) (rd_set (i := 3) (.int .i64 (hi : Int)) (rd_set (i := 2) (.int .i64 (fr : Int)) (rd_set (i := 1) (.string bn) (rd_set (i := 0) (.string ty) eRr))))) (by simp) (.slice va2 k vc2)
            have hRp8 : w.heap.size + 1 < W8.heap.size := by omega
            clear HQ HRR HSX H6 HLL hrow HR0
            go_wp2_with fail
            refine bodyPost_ret (v := .tuple #[.agg #[.string ty, .string bn, .int .i64 (fr : Int), .int .i64 (hi : Int), .int .i64 (cn : Int), .slice va2 k vc2], .bool true]) (by simp [results, Tryz.results33, go_sem, v0, v1, v2, v3, v4, v5]) rfl ?_
            rw [HRS.out]
            refine ⟨(six_other wr (by omega) _ _ _ _ _ _).trans hRr, six_but Br (by omega) _ _ _ _ _ _, Or.inr ⟨_, _, rfl, rfl, HSIX.out.kept fun q hq hlt9 => ⟨by omega, six_other wr (by omega) _ _ _ _ _ _⟩⟩⟩
theorem part_is (s : ByteArray) (hs : s.size ≤ 90000) (rb : Nat) (m : Int) : ∀ (f lo hi c depth : Nat) (w : World), depth + f = 7 → lo ≤ hi → hi ≤ s.size → c ≤ 30 → RdM w rb s c → w.cell? ⟨1, 0, none⟩ = some (.int .i64 m) →
    Calls Tryz.prog 33 #[.pointer (some ⟨rb, 0, none⟩), .agg #[.int .i64 (lo : Int), .int .i64 (hi : Int)], .int .i64 (depth : Int)] w (PartPost s rb w (partF s.data.toList f lo hi c))
  | 0, lo, hi, c, depth, w, hd, _, _, hc, hr, _ => part_fail s rb lo hi c depth w hr hc (by omega) (Or.inr (by omega)) 0 rfl
  | f + 1, lo, hi, c, depth, w, hd, hlo, hhi, hc, hr, hm => by
    by_cases h30 : 30 < c + 1
    · exact part_fail s rb lo hi c depth w hr hc (by omega) (Or.inl h30) (f + 1) (by rw [partF, if_pos h30])
    · exact part_step s hs rb f m (part_is s hs rb m f) lo hi c depth w hd hlo hhi (by omega) hr hm
end Go.Proofs.YtgbbkdflnlagaaaGreatDoor
