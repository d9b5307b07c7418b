/-
  What is new in a box: Look.
-/
import Derived.Test.YtgpcnacpefficaaGreatDoorMViewForget
import Derived.Test.YtgpcnacpefficaaGreatDoorMViewLearn
import Derived.Test.YtgpcnacpefficaaGreatDoorMBoxExp
namespace Go.Proofs.YtgpcnacpefficaaGreatDoor
open Go.RowKit Go.Proofs.Aid Go.Proofs.Bx

theorem run_append_zero {P : Program} (w : World) (t ty e : TypeId) (i : TypeInfo) (ht : P.underlying t = some (.slice e)) (hi : P.info? e = some i) (b : Option Addr) (n cap : Nat) (h : n ≤ cap) (xa : Option Addr) (xc : Nat) :
    (Builtin.append_ #[t, t] ty #[.slice b n cap, .slice xa 0 xc]).run P w = .ok (.slice b n cap) w := by
  cases b <;> cases xa <;> simp [Builtin.append_, run_underlying ht, sizeOf, typeInfo, hi, Builtin.lenOf, Builtin.firstCells, loadCells, loadCellsFrom, storeCells, h]
theorem Nws.vkeep {vb : Nat} {sv v : Value} {w w' : World} {S : List Sg} {L : List Nw} (h : Nws w v L) (hk : VKeep vb sv w w') (hv : ViewAt w vb sv S) (hne : v.ownBlock ≠ some vb) : Nws w' v L := by
  refine h.same fun q hq hh => ?_
  rcases hh with hh | hh
  · refine hk.block q hq (fun e => hne (by rw [← e]; exact hh)) fun e => ?_
    obtain ⟨rows, h1, _⟩ := h
    obtain ⟨rows2, h2, _⟩ := hv.2
    exact own_apart h1 h2 (by decide) hh e
  · exact hk.texts hv hq hh
/-- Some news behind others. -/
theorem nws_cat {w : World} {va : Option Addr} {ca : Nat} {L M : List Nw} {v2 : Value} (h : Nws w (.slice va L.length ca) L) (h2 : Nws w v2 M) (hL : L.length + M.length ≤ 2000) :
    ∃ v' W, (Builtin.append_ #[77, 77] 77 #[.slice va L.length ca, v2]).run Tryz.prog w = .ok v' W ∧ Nws W v' (L ++ M) ∧ VKeep w.heap.size (.slice va L.length ca) w W ∧ Near w (.slice va L.length ca) v' := by
  obtain ⟨j0, hj, hz, hs, hby⟩ := info_parts Tryz.infoNw
  obtain ⟨a2, c2, rfl⟩ := nws_form h2
  by_cases hM : M = []
  · subst hM
    have hcap : L.length ≤ ca := by
      obtain ⟨rows, h1, _⟩ := h
      rcases h1.2 with ⟨h0, _⟩ | ⟨g2, _, _, h0, _, _, h6, _⟩
      · injection h0 with _ h0 _; omega
      · injection h0 with _ _ h0; omega
    exact ⟨_, w, run_append_zero w _ _ _ j0 Tryz.underlying77 hj va L.length ca hcap a2 c2, by rw [List.append_nil]; exact h, VKeep.of (Below.refl _ _), Near.refl _ _⟩
  obtain ⟨rows, h1, h1l, h3, h4, h5⟩ := id h
  obtain ⟨rows2, k1, k1l, k3, k4, k5⟩ := id h2
  have hMl : 0 < M.length := List.length_pos_iff.2 hM
  obtain ⟨g2, rfl⟩ : ∃ g2, a2 = some ⟨g2, 0, none⟩ := by
    rcases k1.2 with ⟨h0, _⟩ | ⟨g2, _, _, h0, _⟩
    · injection h0 with _ h0 _; omega
    · injection h0 with h0 _ _; exact ⟨g2, h0⟩
  have hsl : ∀ u ∈ rows2.flatten, u.oneCell' = true ∧ NoT u := fun u hu => by
    obtain ⟨xs, hxs, hux⟩ := List.mem_flatten.1 hu
    obtain ⟨j, hj2⟩ := List.getElem?_of_mem hxs
    have hjl := (List.getElem?_eq_some_iff.1 hj2).1
    obtain ⟨fv, e1, e2, _⟩ := k3 j (M[j]'(by omega)) xs (List.getElem?_eq_getElem (by omega)) hj2
    obtain ⟨fa, fc, rfl, _⟩ := e2
    rw [e1] at hux
    simp only [List.mem_cons, List.not_mem_nil, or_false] at hux
    rcases hux with rfl | rfl | rfl <;> exact ⟨rfl, fun s e => by cases e⟩
  have hnews := k1.cells (g := g2) rfl
  obtain ⟨g9, cap9, W9, hrun, hown9, hg9, hor9, hlt9, hnt9⟩ := run_append_clean (P := Tryz.prog) w NoT 77 77 0 103 j0 (.agg #[.int .i64 0, .int .i64 0, .slice none 0 0]) 3 40 Tryz.underlying77 hj hz hs hby rfl (by decide) (.slice va L.length ca) L.length _ h1 h5 (fun u hu s => by
    have : u = .int .i64 0 ∨ u = .slice none 0 0 := by simpa [Value.cells] using hu
    rcases this with rfl | rfl <;> (intro e; cases e)) ⟨g2, 0, none⟩ M.length c2 rows2.flatten k1.1 hnews (fun u hu => (hsl u hu).1) (fun u hu => (hsl u hu).2) hMl (by unfold maxLen; omega) (by omega) (Nat.zero_le _)
  have hkeep : ∀ q, q < w.heap.size → (Value.slice va L.length ca).ownBlock ≠ some q → W9.heap[q]? = w.heap[q]? := fun q hq hne => hg9.block q hq (fun e => hne e.symm)
  have hns : ∀ q, (Value.slice va L.length ca).ownBlock = some q → NoStr w q := fun q hq => noT_str (h5 q hq)
  have hrow : ∀ y fu, Sl w fu y → Sl W9 fu y ∧ (y = [] ∨ ∀ q, fu.ownBlock = some q → (Value.slice (some ⟨g9, 0, none⟩) (L.length + M.length) cap9).ownBlock ≠ some q) := fun y fu hy => by
    refine ⟨hy.same fun q hq hy0 hlt => hkeep q hlt fun e => hy.noStr hy0 hq (hns q e), ?_⟩
    by_cases hy0 : y = []
    · exact Or.inl hy0
    · refine Or.inr fun q hq e => ?_
      have hlt := hy.blk hy0 hq
      obtain rfl : g9 = q := by simpa [Value.ownBlock] using e
      rcases hor9 with e9 | e9
      · exact hy.noStr hy0 hq (hns _ e9)
      · omega
  refine ⟨_, W9, hrun, ⟨rows ++ rows2, ?_, by simp [h1l, k1l], fun j y ys hj hy => ?_, fun ys hy => ?_, fun g hg => ?_⟩, ⟨hg9.os, hg9.tape, hg9.output, hg9.size, fun q hq _ hne => hkeep q hq hne⟩, fun q hq => ?_⟩
  · rw [List.length_append, List.flatten_append]
    exact hown9
  · by_cases hjl : j < L.length
    · rw [List.getElem?_append_left hjl] at hj
      rw [List.getElem?_append_left (by omega)] at hy
      obtain ⟨fu, e1, e2, e3⟩ := h3 j y ys hj hy
      obtain ⟨r1, r2⟩ := hrow _ fu e2
      exact ⟨fu, e1, r1, r2⟩
    · rw [List.getElem?_append_right (by omega)] at hj
      rw [List.getElem?_append_right (by omega), h1l] at hy
      obtain ⟨fu, e1, e2, e3⟩ := k3 _ y ys hj hy
      obtain ⟨r1, r2⟩ := hrow _ fu e2
      exact ⟨fu, e1, r1, r2⟩
  · rcases List.mem_append.1 hy with h | h
    · exact h4 ys h
    · exact k4 ys h
  · obtain rfl : g9 = g := by simpa [Value.ownBlock] using hg
    exact hnt9
  · obtain rfl : g9 = q := by simpa [Value.ownBlock] using hq
    rcases hor9 with e9 | e9
    · exact Or.inl e9
    · exact Or.inr (by omega)
/-- What a view sees behind those that are gone. -/
def lookS1 (S : List Sg) (l : List Lt) (gone : Bool) : List Sg := if gone = true then keepS (fun u => !findB l u) S else S
def lookN1 (S : List Sg) (l : List Lt) (gone : Bool) : List Nw := if gone = true then goneN (fun u => !findB l u) (bk S 0) else []
def lookS2 (S : List Sg) (l : List Lt) (gone : Bool) : List Sg := lookS1 S l gone ++ newS (lastS (lookS1 S l gone)) l
def lookN2 (S : List Sg) (l : List Lt) (gone : Bool) : List Nw := lookN1 S l gone ++ (if 0 < (newS (lastS (lookS1 S l gone)) l).length then [⟨2, ((lookS2 S l gone).length : Int), []⟩] else [])
def lookS (S : List Sg) (l : List Lt) (gone : Bool) : List Sg := (lookS2 S l gone).map (learn1 l)
def lookN (S : List Sg) (l : List Lt) (gone : Bool) : List Nw := lookN2 S l gone ++ learnN l 0 (lookS2 S l gone)
/-- Amid Look. -/
def LookSt (w1 : World) (vb : Nat) (sv : Value) (S1 : List Sg) (N1 : List Nw) (wx : World) (ov : Value) : Prop :=
  ∃ sv1, ViewAt wx vb sv1 S1 ∧ VKeep vb sv w1 wx ∧ Near w1 sv sv1 ∧ Nws wx ov N1 ∧ ∀ q, ov.ownBlock = some q → w1.heap.size ≤ q
theorem keepS_sub (p : Int → Bool) (S : List Sg) : ∀ s ∈ keepS p S, s ∈ S := fun _ hs => (List.mem_filter.1 hs).1
theorem lookS1_le (S : List Sg) (l : List Lt) (gone : Bool) : (lookS1 S l gone).length ≤ S.length := by
  unfold lookS1
  split
  · exact keepS_le _ _
  · exact Nat.le_refl _
theorem lookS1_mem (S : List Sg) (l : List Lt) (gone : Bool) : ∀ s ∈ lookS1 S l gone, s ∈ S := by
  unfold lookS1
  split
  · exact keepS_sub _ _
  · exact fun _ hs => hs
theorem lookN1_le (S : List Sg) (l : List Lt) (gone : Bool) : (lookN1 S l gone).length ≤ S.length := by
  unfold lookN1
  split
  · have := goneN_le (fun u => !findB l u) (bk S 0)
    rw [bk_len] at this
    omega
  · simp
theorem newS_mem {u : Int} {l : List Lt} {s : Sg} (h : s ∈ newS u l) : ∃ x ∈ l, s = sgOf x := by
  obtain ⟨x, hx, rfl⟩ := List.mem_map.1 h
  exact ⟨x, (List.mem_filter.1 hx).1, rfl⟩
set_option maxHeartbeats 4000000 in
set_option maxRecDepth 100000 in
theorem look_is (vb : Nat) (sv : Value) (S : List Sg) (vv nn : Int) (lv : Value) (l : List Lt) (gone : Bool) (w : World) (h : ViewAt w vb sv S) (hl : Lts w lv l) (hr : Rise l) (hS : S.length + l.length ≤ 900) (hfl : ∀ x ∈ l, x.flags.length ≤ 1000) (hfs : ∀ x ∈ S, x.flags.length ≤ 1000) :
    Calls Tryz.prog 32 #[.pointer (some ⟨vb, 0, none⟩), .agg #[.int .i64 vv, .int .i64 nn, lv], .bool gone] w fun e w' =>
      ∃ ov, e = .returned ov ∧ Nws w' ov (lookN S l gone) ∧ VNext w vb sv w' (lookS S l gone) ∧ ∀ q, ov.ownBlock = some q → w.heap.size ≤ q := by
  obtain ⟨la, lc, rfl, lcap, lrest⟩ := id hl
  obtain ⟨m, hm⟩ : ∃ m, l.length = m := ⟨_, rfl⟩
  have HM : Hid (l.length = m) := hm
  have HFL : Hid (∀ x ∈ l, x.flags.length ≤ 1000) := hfl
  have HFS : Hid (∀ x ∈ S, x.flags.length ≤ 1000) := hfs
  have HRI : Hid (Rise l) := hr
  have HSN : Hid (S.length + l.length ≤ 900) := hS
  rw [hm] at hl ⊢
  have hvl := h.lt
  have b1 : Below w.heap.size w (w.alloc (.cells #[.int .i64 vv, .int .i64 nn, .slice la m lc] 28)) := (Below.refl _ _).alloc (Nat.le_refl _) _
  have e1 := heap_alloc_new w (.cells #[.int .i64 vv, .int .i64 nn, .slice la m lc] 28)
  have z1 : (w.alloc (.cells #[.int .i64 vv, .int .i64 nn, .slice la m lc] 28)).heap.size = w.heap.size + 1 := by simp
  go_enter Tryz.func32, Tryz.ntmps32
  go_upto_if 8 with fail
  obtain ⟨w1, hw1⟩ : ∃ W, w.alloc (.cells #[.int .i64 vv, .int .i64 nn, .slice la m lc] 28) = W := ⟨_, rfl⟩
  rw [hw1] at b1 e1 z1 ⊢
  obtain ⟨BB, hBB⟩ : ∃ B, w.heap.size = B := ⟨_, rfl⟩
  rw [hBB] at b1 e1 z1 hvl ⊢
  have hv1 := h.below (by rw [hBB]; exact b1)
  have HV1 : Hid (ViewAt w1 vb sv S ∧ Lts w1 (.slice la m lc) l ∧ w1.heap[BB]? = some (.cells #[.int .i64 vv, .int .i64 nn, .slice la m lc] 28 (0, 0)) ∧ (∀ q, sv.ownBlock = some q → q < BB) ∧ VKeep vb sv w w1 ∧ w.heap.size = BB ∧ w1.heap.size = BB + 1) := ⟨hv1, hl.below b1 (by omega), e1, fun q hq => by rw [← hBB]; exact h.2.lt hq, VKeep.of (by rw [hBB]; exact b1), hBB, z1⟩
  have HBX : Hid (∀ sv1 wx S1, ViewAt wx vb sv1 S1 → VKeep vb sv w1 wx → wx.heap[BB]? = some (.cells #[.int .i64 vv, .int .i64 nn, .slice la m lc] 28 (0, 0)) ∧ Lts wx (.slice la m lc) l) := fun sv1 wx S1 _ hk =>
    ⟨(hk.block BB (by have := HV1.out.2.2.2.2.2.2; omega) (by omega) (fun e => by have := HV1.out.2.2.2.1 BB e; omega)).trans HV1.out.2.2.1, HV1.out.2.1.vkeep hk HV1.out.1⟩
  have x0 : w1.cell? ⟨BB, 0, none⟩ = some (.int .i64 vv) := rd_cell e1 rfl
  have x1 : w1.cell? ⟨BB, 1, none⟩ = some (.int .i64 nn) := rd_cell e1 rfl
  have x2 : w1.cell? ⟨BB, 2, none⟩ = some (.slice la m lc) := rd_cell e1 rfl
  clear h hl b1 e1 hv1 hw1 lrest lcap hm hfl hfs hr z1 hS
  go_cut [7] (fun ov wx => ∃ (oa : Option Addr) (on oc : Nat), ov = .slice oa on oc ∧ Hid (LookSt w1 vb sv (lookS1 S l gone) (lookN1 S l gone) wx (.slice oa on oc)))
  case first =>
    cases gone with
    | true =>
      have cF := forget_is vb sv S vv nn (.slice la m lc) l w1 HV1.out.1 HV1.out.2.1 HRI.out (by have := HSN.out; omega) (by have := HSN.out; omega)
      go_wp2_with fail
      refine cF.mono ?_
      rintro e w2 ⟨ov, rfl, hn, ⟨sv1, k1, k2, k3⟩, ho⟩
      obtain ⟨oa, oc, rfl⟩ := nws_form hn
      obtain ⟨on, hon⟩ : ∃ n, (goneN (fun u => !findB l u) (bk S 0)).length = n := ⟨_, rfl⟩
      rw [hon] at hn ho ⊢
      have HX : Hid (LookSt w1 vb sv (lookS1 S l true) (lookN1 S l true) w2 (.slice oa on oc)) := ⟨sv1, k1, k2, k3, hn, ho⟩
      clear hn ho k1 k2 k3 hon cF
      go_wp2_with fail
      go_meet
      case rel => exact ⟨_, _, _, rfl, HX.out⟩
    | false =>
      have HX : Hid (LookSt w1 vb sv (lookS1 S l false) (lookN1 S l false) w1 (.slice none 0 0)) := ⟨sv, HV1.out.1, VKeep.of (Below.refl _ _), Near.refl _ _, Nws.nil _, fun q hq => (by cases hq)⟩
      go_wp2_with fail
      go_meet
      case rel => exact ⟨_, _, _, rfl, HX.out⟩
  case rest =>
    obtain ⟨oa, on, oc, rfl, HL1⟩ := hcut
    clear x0 x1 x2
    obtain ⟨sv1, k1, k2, k3, k4, k5⟩ := id HL1.out
    obtain ⟨y1, y2⟩ := HBX.out sv1 wc _ k1 k2
    have x0 : wc.cell? ⟨BB, 0, none⟩ = some (.int .i64 vv) := rd_cell y1 rfl
    have x1 : wc.cell? ⟨BB, 1, none⟩ = some (.int .i64 nn) := rd_cell y1 rfl
    have x2 : wc.cell? ⟨BB, 2, none⟩ = some (.slice la m lc) := rd_cell y1 rfl
    have cM := meet_is clone_sl vb sv1 _ vv nn (.slice la m lc) l wc k1 y2 (by have := lookS1_le S l gone; have := HSN.out; omega) HFL.out
    obtain ⟨mb, hmb⟩ : ∃ b, decide (0 < (newS (lastS (lookS1 S l gone)) l).length) = b := ⟨_, rfl⟩
    rw [hmb] at cM
    have HMB : Hid (decide (0 < (newS (lastS (lookS1 S l gone)) l).length) = mb) := hmb
    have HSV : Hid (wc.heap[vb]? = some (.cells #[sv1] 62 (0, 0))) := k1.1
    clear k1 k2 k3 k4 k5 y1 y2 hmb
    go_wp2_with fail
    refine cM.mono ?_
    rintro e w3 ⟨rfl, hvn⟩
    have HL3 : Hid (LookSt w1 vb sv (lookS2 S l gone) (lookN1 S l gone) w3 (.slice oa on oc)) := by
      obtain ⟨sv1', k1, k2, k3, k4, k5⟩ := HL1.out
      have hsv : sv1' = sv1 := by
        have h1 := HSV.out
        rw [k1.1] at h1
        injection h1 with h1
        injection h1 with h1 _ _
        simpa using h1
      subst hsv
      obtain ⟨sv3, m1, m2, m3⟩ := hvn
      exact ⟨sv3, m1, k2.trans k3 m2, k3.trans m3 k2.size, k4.vkeep m2 k1 (fun e => by have := k5 vb e; have := HV1.out.2.2.2.2.2.2; omega), k5⟩
    clear cM hvn x0 x1 x2 HL1 HSV
    go_upto_if 14 with fail
    go_cut [7] (fun ov wx => ∃ (oa : Option Addr) (on oc : Nat), ov = .slice oa on oc ∧ Hid (LookSt w1 vb sv (lookS2 S l gone) (lookN2 S l gone) wx (.slice oa on oc)))
    case first =>
      cases mb with
      | true =>
        obtain ⟨sv3, k1, k2, k3, k4, k5⟩ := HL3.out
        obtain ⟨a3, c3, rfl⟩ := sgs_form k1.2
        obtain ⟨N3, hN3⟩ : ∃ n, (lookS2 S l gone).length = n := ⟨_, rfl⟩
        rw [hN3] at k1 k3
        have pv : w3.cell? ⟨vb, 0, none⟩ = some (.slice a3 N3 c3) := rd_cell k1.1 rfl
        obtain ⟨oa', oc', ho⟩ := nws_form k4
        injection ho with ho1 ho2 ho3
        subst ho1
        subst ho3
        have hle : (lookN1 S l gone).length ≤ 1000 := by have := lookN1_le S l gone; have := HSN.out; omega
        rw [ho2] at k4
        have hz3 := k2.size
        obtain ⟨g9, cap9, W9, hrun, hnw, ⟨j1, j2, j3, j4, j5⟩, hnear⟩ := nws_push k4 hle ⟨2, (N3 : Int), []⟩ (.slice none 0 0) ⟨none, 0, rfl, ⟨fun _ => rfl, Nat.le_refl _⟩, Or.inl rfl⟩
        have HX : Hid (LookSt w1 vb sv (lookS2 S l gone) (lookN2 S l gone) W9 (.slice (some ⟨g9, 0, none⟩) ((lookN1 S l gone).length + 1) cap9)) := by
          have hb := HV1.out.2.2.2.2.2.2
          rw [ho2] at k5
          refine ⟨.slice a3 N3 c3, ⟨(j5 vb k1.lt (fun e => by have := k5 vb e; omega)).trans k1.1, ?_⟩, ?_, k3, ?_, fun q hq => ?_⟩
          · refine k1.2.same fun q hq hh => j5 q hq fun e => ?_
            rcases hh with hh | hh
            · obtain ⟨rows, h1, _⟩ := k4
              obtain ⟨rows2, h2, _⟩ := k1.2
              exact own_apart h1 h2 (by decide) e hh
            · exact hh (k4.noStr e)
          · exact ⟨j1.trans k2.os, j2.trans k2.tape, j3.trans k2.output, Nat.le_trans k2.size j4, fun q hq n1 n2 => (j5 q (by omega) (fun e => by have := k5 q e; omega)).trans (k2.block q hq n1 n2)⟩
          · have h2 : lookN2 S l gone = lookN1 S l gone ++ [⟨2, (N3 : Int), []⟩] := by
              unfold lookN2
              rw [if_pos (of_decide_eq_true HMB.out), hN3]
            rw [h2]
            exact hnw
          · rcases hnear q (by simpa [Value.ownBlock] using hq) with h | h
            · exact k5 q h
            · omega
        rw [← ho2] at hrun HX
        have HRUN : Hid ((Builtin.append_ #[77, 77] 77 #[.slice oa on oc, .slice (some ⟨w3.heap.size, 0, none⟩) 1 1]).run Tryz.prog (w3.alloc (.cells #[.int .i64 2, .int .i64 (N3 : Int), .slice none 0 0] 103)) = .ok (.slice (some ⟨g9, 0, none⟩) (on + 1) cap9) W9) := hrun
        clear hrun hnw hnear k1 k2 k3 k4 k5 ho2 hN3 hle j1 j2 j3 j4 j5 hz3
        go_wp2_with (at_builtin; go_must (refine Go.Lib.wpList_append_run _ rfl (.tmp 15) (.tmp 22) 77 77 rfl _ _ rfl rfl _ W9 HRUN.out ?_))
        go_meet
        case rel => exact ⟨_, _, _, rfl, HX.out⟩
      | false =>
        have HX : Hid (LookSt w1 vb sv (lookS2 S l gone) (lookN2 S l gone) w3 (.slice oa on oc)) := by
          obtain ⟨sv3, k1, k2, k3, k4, k5⟩ := HL3.out
          have h2 : lookN2 S l gone = lookN1 S l gone := by
            unfold lookN2
            rw [if_neg (of_decide_eq_false HMB.out), List.append_nil]
          exact ⟨sv3, k1, k2, k3, by rw [h2]; exact k4, k5⟩
        go_wp2_with fail
        go_meet
        case rel => exact ⟨_, _, _, rfl, HX.out⟩
    case rest =>
      obtain ⟨oa4, on4, oc4, rfl, HL4⟩ := hcut
      obtain ⟨sv3, k1, k2, k3, k4, k5⟩ := id HL4.out
      obtain ⟨y1, y2⟩ := HBX.out sv3 _ _ k1 k2
      have x0 : wc.cell? ⟨BB, 0, none⟩ = some (.int .i64 vv) := rd_cell y1 rfl
      have x1 : wc.cell? ⟨BB, 1, none⟩ = some (.int .i64 nn) := rd_cell y1 rfl
      have x2 : wc.cell? ⟨BB, 2, none⟩ = some (.slice la m lc) := rd_cell y1 rfl
      have hlen2 : (lookS2 S l gone).length ≤ 900 := by
        have h1 := lookS1_le S l gone
        have h2 := newS_le (lastS (lookS1 S l gone)) l
        have := HSN.out
        unfold lookS2
        rw [List.length_append]
        omega
      have cL := learn_is vb sv3 _ vv nn (.slice la m lc) l wc k1 y2 HRI.out hlen2 (by have := HSN.out; omega) HFL.out (fun x hx => by
        unfold lookS2 at hx
        rcases List.mem_append.1 hx with h | h
        · exact HFS.out x (lookS1_mem S l gone x h)
        · obtain ⟨y, hy, rfl⟩ := newS_mem h
          exact HFL.out y hy)
      have HSV : Hid (wc.heap[vb]? = some (.cells #[sv3] 62 (0, 0))) := k1.1
      have HLE : Hid ((lookN2 S l gone).length + (learnN l 0 (lookS2 S l gone)).length ≤ 2000) := by
        have h1 := lookN1_le S l gone
        have h2 := learnN_le l 0 (lookS2 S l gone)
        have h3 : (lookN2 S l gone).length ≤ (lookN1 S l gone).length + 1 := by
          unfold lookN2
          rw [List.length_append]
          split <;> simp
        have := HSN.out
        show _ ≤ _
        omega
      clear k1 k2 k3 k4 k5 y1 y2
      go_wp2_with fail
      refine cL.mono ?_
      rintro e w5 ⟨nv, rfl, hv5, hk5, hn5, ho5⟩
      have HFX : Hid (∃ v9 W9, (Builtin.append_ #[77, 77] 77 #[.slice oa4 on4 oc4, nv]).run Tryz.prog w5 = .ok v9 W9 ∧ Nws W9 v9 (lookN S l gone) ∧ VNext w vb sv W9 (lookS S l gone) ∧ ∀ q, v9.ownBlock = some q → w.heap.size ≤ q) := by
        obtain ⟨sv3', k1, k2, k3, k4, k5⟩ := HL4.out
        have hsv : sv3' = sv3 := by
          have h1 := HSV.out
          rw [k1.1] at h1
          injection h1 with h1
          injection h1 with h1 _ _
          simpa using h1
        subst hsv
        have hbb := HV1.out.2.2.2.2.2
        have n5 := k4.vkeep hk5 k1 (fun e => by have := k5 vb e; omega)
        obtain ⟨oa', oc', ho⟩ := nws_form n5
        injection ho with ho1 ho2 ho3
        subst ho1
        subst ho3
        rw [ho2] at n5 k5 ⊢
        obtain ⟨v9, W9, hrun, m1, m2, m3⟩ := nws_cat n5 hn5 HLE.out
        have hz := k2.size
        have hz5 := hk5.size
        have hkk : VKeep vb sv w1 w5 := k2.trans k3 hk5
        refine ⟨v9, W9, hrun, m1, ⟨sv3', ⟨(m2.block vb (by omega) (by omega) (fun e => by have := k5 vb e; omega)).trans hv5.1, ?_⟩, ?_, ?_⟩, fun q hq => ?_⟩
        · refine hv5.2.same fun q hq hh => m2.block q hq (by omega) fun e => ?_
          rcases hh with hh | hh
          · obtain ⟨rows, h1, _⟩ := n5
            obtain ⟨rows2, h2, _⟩ := hv5.2
            exact own_apart h1 h2 (by decide) e hh
          · exact hh (n5.noStr e)
        · have hk0 := HV1.out.2.2.2.2.1
          have hz0 := hk0.size
          exact ⟨m2.os.trans (hkk.os.trans hk0.os), m2.tape.trans (hkk.tape.trans hk0.tape), m2.output.trans (hkk.output.trans hk0.output), by have := m2.size; omega, fun q hq n1 n2 => (m2.block q (by omega) (by omega) (fun e => by have := k5 q e; omega)).trans ((hkk.block q (by omega) n1 n2).trans (hk0.block q hq n1 n2))⟩
        · intro q hq
          rcases k3 q hq with h | h
          · exact Or.inl h
          · exact Or.inr (by omega)
        · rcases m3 q hq with h | h
          · have := k5 q h; omega
          · omega
      obtain ⟨v9, W9, hrun, hF⟩ := HFX.out
      obtain ⟨na, nc, rfl⟩ := nws_form hn5
      obtain ⟨nl, hnl⟩ : ∃ n, (learnN l 0 (lookS2 S l gone)).length = n := ⟨_, rfl⟩
      rw [hnl] at hrun ⊢
      have HRUN : Hid ((Builtin.append_ #[77, 77] 77 #[.slice oa4 on4 oc4, .slice na nl nc]).run Tryz.prog w5 = .ok v9 W9) := hrun
      have HF : Hid (Nws W9 v9 (lookN S l gone) ∧ VNext w vb sv W9 (lookS S l gone) ∧ ∀ q, v9.ownBlock = some q → w.heap.size ≤ q) := hF
      clear hrun hF HFX hv5 hk5 hn5 ho5 cL hnl x0 x1 x2
      go_wp2_with (at_builtin; go_must (refine Go.Lib.wpList_append_run _ rfl (.tmp 24) (.tmp 27) 77 77 rfl _ _ rfl rfl _ W9 HRUN.out ?_))
      go_ret
      exact ⟨_, rfl, HF.out⟩
end Go.Proofs.YtgpcnacpefficaaGreatDoor
