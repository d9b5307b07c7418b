/-
  What head.Param does.
-/
import Derived.Test.YtgbbkdflnlagaaaGreatDoorHeadSeq
import Derived.Test.YtgbbkdflnlagaaaGreatDoorHeadUnq
import Derived.Test.YtgbbkdflnlagaaaGreatDoorHeadReader
import Derived.Test.YtgbbkdflnlagaaaGreatDoorHeadLetters
namespace Go.Proofs.YtgbbkdflnlagaaaGreatDoor
open Go.RowKit Go.Proofs.Aid Go.Proofs.Sq Go.Proofs.Hd
attribute [local go_sem] Oper.semAt_some

theorem cut1_call (c : UInt8) (s : ByteArray) (m : Int) (w : World) (hs : s.size ≤ 1000000) (hm : w.cell? ⟨1, 0, none⟩ = some (.int .i64 m)) :
    Calls Tryz.prog 99 #[.string s, .string ⟨#[c]⟩] w fun e w' => ∃ a b t, cutAt c s.data.toList = (a.data.toList, b.data.toList, t) ∧ a.size ≤ 1000000 ∧ b.size ≤ 1000000 ∧ e = .returned (.tuple #[.string a, .string b, .bool t]) ∧ ∃ n, w' = w.drewN n := by
  refine (Tryz.strings_Cut s ⟨#[c]⟩ m w (by omega) hm).mono ?_
  rintro e w' ⟨rfl, h⟩
  rw [show (⟨#[c]⟩ : ByteArray).data.toList = [c] from rfl, cut_eq]
  have hl := cutAt_length c s.data.toList
  rw [list_size] at hl
  exact ⟨⟨(cutAt c s.data.toList).1.toArray⟩, ⟨(cutAt c s.data.toList).2.1.toArray⟩, (cutAt c s.data.toList).2.2, rfl, by rw [Lib.size_eq]; simp; omega, by rw [Lib.size_eq]; simp; omega, rfl, h⟩

theorem but_turns {b base : Nat} {A W : World} (h : Turns b base A W) (hsz : base ≤ A.heap.size) : But base b A W := by
  obtain ⟨row, hg, hr⟩ := h
  exact ⟨hg.os, hg.tape, hg.output, hg.size, fun k hk hb => hg.block k (by omega) (fun e => by rcases hr k e.symm with h | ⟨h, _⟩ <;> omega)⟩
theorem box_but {b base B t : Nat} {A W : World} {v : Value} (h : Boxed A B t v) (hb : But base b A W) (hlt : B < base) (hne : B ≠ b) : Boxed W B t v := (hb.block B hlt hne).trans h

theorem find_tail {n v : Tx} : (between 59 (cutAt 59 v).2.1).find? (isParam n) = (between 59 v).tail.find? (isParam n) := by
  cases hb : (cutAt 59 v).2.2 with
  | false =>
    obtain ⟨_, h2, h3⟩ := cutAt_miss hb
    rw [h2, h3]
    rfl
  | true => rw [(cutAt_hit hb).2]; rfl

theorem all_snoc {n : Tx} {pre : List Pt} {x : Pt} (h : ∀ y ∈ pre, isParam n y.l = false) (hx : isParam n x.l = false) : ∀ y ∈ pre ++ [x], isParam n y.l = false := by
  intro y hy
  rcases List.mem_append.1 hy with h1 | h1
  · exact h y h1
  · rw [List.mem_singleton.1 h1]; exact hx
theorem find_snoc {n : Tx} {pre : List Pt} {x : Pt} (h : ∀ y ∈ pre, isParam n y.l = false) (hx : isParam n x.l = true) : ((pre ++ [x]).map Pt.l).find? (isParam n) = some x.l := by
  rw [List.map_append, List.find?_append, List.find?_eq_none.2]
  · rw [List.map_singleton, List.find?_cons_of_pos hx]; rfl
  · intro z hz
    obtain ⟨y, hy, rfl⟩ := List.mem_map.1 hz
    rw [h y hy]; simp
theorem far_two {base H : Nat} {W w8 : World} {u v : Value} (hH : H + 1 < base) (hb : Below W.heap.size W w8) : ∀ k, base ≤ k → k < W.heap.size → ((w8.setCell ⟨H, 0, none⟩ u).setCell ⟨H + 1, 0, none⟩ v).heap[k]? = W.heap[k]? := by
  intro k hk hlt
  rw [(grownBy_setCell' (w8.setCell ⟨H, 0, none⟩ u) (H + 1) v).block k (by have := hb.size; simp; omega) (by intro e; cases e; omega), (grownBy_setCell' w8 H u).block k (by have := hb.size; omega) (by intro e; cases e; omega)]
  exact hb.block k hlt

/-- Between two rounds. -/
def ParI (n : Tx) (B : Nat) (W0 : World) (pre : List Pt) (W : World) : Prop := (∀ x ∈ pre, isParam n x.l = false) ∧ But W0.heap.size B W0 W
/-- Behind a round that left. -/
def ParX (n : Tx) (H : Nat) (w : World) (base : Nat) (pre : List Pt) (W : World) : Prop :=
  ∃ (p : Tx) (r : ByteArray), (pre.map Pt.l).find? (isParam n) = some p ∧ r.data.toList = unq (Hd.bare (cutAt 61 p).2.1) ∧ Boxed W H 9 (.string r) ∧ Boxed W (H + 1) 4 (.bool true) ∧ Below H w W ∧ base ≤ W.heap.size
theorem parI_bears (n : Tx) (B : Nat) (W0 : World) : Bears B W0.heap.size (ParI n B W0) := fun _ _ _ h ht => ⟨h.1, h.2.trans (but_turns ht h.2.size)⟩
theorem parX_bears (n : Tx) (H B : Nat) (w : World) (base : Nat) (hB : H + 1 < B) (hb : H + 1 < base) : Bears B base (ParX n H w base) := by
  rintro s A W ⟨p, r, h1, h2, h3, h4, h5, h6⟩ ht
  have hk := but_turns ht h6
  exact ⟨p, r, h1, h2, box_but h3 hk (by omega) (by omega), box_but h4 hk hb (by omega), h5.trans (hk.below (by omega) (by omega)), Nat.le_trans h6 hk.size⟩

set_option maxRecDepth 100000 in
set_option maxHeartbeats 2000000 in
theorem param_in (s nm : ByteArray) (m : Int) (w : World) (hs : s.size ≤ 1000000) (hnm : nm.size ≤ 1000000) (hm : w.cell? ⟨1, 0, none⟩ = some (.int .i64 m)) :
    CallsIn Fence.wide 3 Tryz.prog 103 #[.string s, .string nm] w fun e w' => Below w.heap.size w w' ∧
      ((paramOf s.data.toList nm.data.toList = none ∧ e = .returned (.tuple #[.string ⟨#[]⟩, .bool false])) ∨
       ∃ r : ByteArray, paramOf s.data.toList nm.data.toList = some r.data.toList ∧ e = .returned (.tuple #[.string r, .bool true])) := by
  have hglt : 1 < w.heap.size := World.block_lt_of_cell? _ _ hm
  refine callsIn_of_wp_marks Tryz.func103 rfl trivial ?_ rfl
  simp only [Tryz.ntmps103, List.size_toArray, List.length_cons, List.length_nil, Nat.reduceAdd, Nat.reduceSub, Array.replicate_succ, Array.replicate_zero, List.push_toArray, List.append_toArray, List.nil_append, List.cons_append]
  gi_wp2_with fail
  refine ⟨trivial, ?_⟩
  refine (callsIn_wide.2 (small_is nm _ hnm)).mono ?_
  rintro e w1 ⟨rfl, hb1⟩
  obtain ⟨sm, hsm⟩ : ∃ sm : ByteArray, ⟨(small nm.data.toList).toArray⟩ = sm := ⟨_, rfl⟩
  rw [hsm]
  have HSM : Hid (sm.data.toList = small nm.data.toList) := by show _ = _; rw [← hsm]
  clear hsm
  gi_wp2_with fail
  have hz1 := hb1.size
  simp only [World.size_alloc] at hz1
  have b0 : Boxed w1 w.heap.size 9 (.string ⟨#[]⟩) := box_below ((Boxed.new w 9 (.string ⟨#[]⟩)).alloc _) hb1 (by simp; omega)
  have b1 : Boxed w1 (w.heap.size + 1) 4 (.bool false) := by
    have := Boxed.new (w.alloc (.cells #[.string ⟨#[]⟩] 9)) 4 (.bool false)
    rw [World.size_alloc] at this
    exact box_below this hb1 (by simp)
  have b2 : Boxed (w1.alloc (.cells #[.string sm] 9)) w1.heap.size 9 (.string sm) := Boxed.new w1 _ _
  have hB1 : Below w.heap.size w w1 := (((Below.refl _ w).alloc (Nat.le_refl _) _).alloc (by simp) _).trans (hb1.mono (by simp; omega))
  have hm1 : w1.cell? ⟨1, 0, none⟩ = some (.int .i64 m) := (hB1.cell (p := ⟨1, 0, none⟩) hglt).trans hm
  have hm2 : (w1.alloc (.cells #[.string sm] 9)).cell? ⟨1, 0, none⟩ = some (.int .i64 m) := by
    rw [((Below.refl w1.heap.size w1).alloc (Nat.le_refl _) (.cells #[.string sm] 9)).cell (p := ⟨1, 0, none⟩) (by show 1 < _; omega)]
    exact hm1
  refine ⟨trivial, ?_⟩
  refine (callsIn_wide.2 (cut1_call 59 s m _ hs hm2)).mono ?_
  rintro e w2 ⟨ca, cb, ct, hcut, hca, hcb, rfl, nd, rfl⟩
  have HC : Hid ((cutAt 59 s.data.toList).2.1 = cb.data.toList) := by show _ = _; rw [hcut]
  clear hcut hm2
  obtain ⟨w3, hw3⟩ : ∃ w3, (w1.alloc (.cells #[.string sm] 9)).drewN nd = w3 := ⟨_, rfl⟩
  have hz3 : w3.heap.size = w1.heap.size + 1 := by rw [← hw3]; simp
  have hB3 : Below w1.heap.size w1 w3 := by rw [← hw3]; exact below_drewN ((Below.refl _ w1).alloc (Nat.le_refl _) _) nd
  have c2 : Boxed w3 w1.heap.size 9 (.string sm) := by rw [← hw3]; exact b2
  have c0 := box_below b0 hB3 (by omega)
  have c1 := box_below b1 hB3 (by omega)
  have hm3 : w3.cell? ⟨1, 0, none⟩ = some (.int .i64 m) := (hB3.cell (p := ⟨1, 0, none⟩) (by show 1 < _; omega)).trans hm1
  rw [hw3]
  clear hw3 b0 b1 b2 hm1
  gi_wp2_with fail
  refine ⟨trivial, ?_⟩
  refine (callsIn_wide.2 (splitSeq_any cb _)).mono ?_
  rintro e w4 ⟨rfl, rfl⟩
  obtain ⟨W0, hW0⟩ : ∃ W0, ((w3.alloc (.cells #[.string cb] 9)).alloc (.cells #[.string ⟨#[59]⟩] 9)).alloc (.cells #[.int .i64 0] 3) = W0 := ⟨_, rfl⟩
  have hsz : W0.heap.size = w3.heap.size + 3 := by rw [← hW0]; simp
  have hB0 : Below w3.heap.size w3 W0 := by rw [← hW0]; exact (((Below.refl _ w3).alloc (Nat.le_refl _) _).alloc (by simp) _).alloc (by simp; omega) _
  have s0 : Boxed W0 w3.heap.size 9 (.string cb) := by rw [← hW0]; exact ((Boxed.new w3 _ _).alloc _).alloc _
  have s1 : Boxed W0 (w3.heap.size + 1) 9 (.string ⟨#[59]⟩) := by
    have := Boxed.new (w3.alloc (.cells #[.string cb] 9)) 9 (.string ⟨#[59]⟩)
    rw [World.size_alloc] at this
    rw [← hW0]; exact this.alloc _
  have s2 : Boxed W0 (w3.heap.size + 1 + 1) 3 (.int .i64 0) := by
    have := Boxed.new ((w3.alloc (.cells #[.string cb] 9)).alloc (.cells #[.string ⟨#[59]⟩] 9)) 3 (.int .i64 0)
    rw [World.size_alloc, World.size_alloc] at this
    rw [← hW0]; exact this
  have d0 := box_below c0 hB0 (by omega)
  have d1 := box_below c1 hB0 (by omega)
  have d2 := box_below c2 hB0 (by omega)
  have hm0 : W0.cell? ⟨1, 0, none⟩ = some (.int .i64 m) := (hB0.cell (p := ⟨1, 0, none⟩) (by show 1 < _; omega)).trans hm3
  have hBW : Below w.heap.size w W0 := (hB1.trans (hB3.mono (by omega))).trans (hB0.mono (by omega))
  rw [hW0]
  clear hW0 c0 c1 c2 hm3
  gi_wp2_with fail
  rw [hz3] at s0 s1 s2 hsz
  refine wpIn_range_turn (b := w1.heap.size + 1) (by omega) rfl (by decide) (gf := 186) (lb := #[.pointer (some ⟨w1.heap.size + 1 + 1, 0, none⟩), .pointer (some ⟨w1.heap.size + 1, 0, none⟩), .pointer (some ⟨w1.heap.size + 1 + 1 + 1, 0, none⟩)]) rfl trivial (enters_of Tryz.func186 (by kernel_rfl) rfl)
    (split_hands _ (by decide) (w1.heap.size + 1) cb hcb m W0 (by omega) (by omega) s0 s1 s2 hm0) (fun _ => rfl)
    (ParI nm.data.toList (w1.heap.size + 1) W0) (ParX nm.data.toList w.heap.size w W0.heap.size) (parI_bears _ _ _) (parX_bears _ _ _ _ _ (by omega) (by omega)) ⟨by simp, to_but (Below.refl _ _)⟩
    (fun x => { tmps := #[.string s, .string nm, undef, undef, .pointer (some ⟨w.heap.size, 0, none⟩), .pointer (some ⟨w.heap.size + 1, 0, none⟩), .pointer (some ⟨w1.heap.size, 0, none⟩), .string ca, .string cb, .bool ct, .string x.1, undef, undef, undef, .string nm, .string sm, .tuple #[.string ca, .string cb, .bool ct], .string s, .tuple #[.string ca, .string cb, .bool ct], .string ca, .string cb, .bool ct, .string cb, .func (.func 186) #[] #[.pointer (some ⟨w1.heap.size + 1 + 1, 0, none⟩), .pointer (some ⟨w1.heap.size + 1, 0, none⟩), .pointer (some ⟨w1.heap.size + 1 + 1 + 1, 0, none⟩)], .string x.1, undef, undef, undef, undef, undef, undef, undef, undef, undef, undef, undef, undef, undef, undef, undef, undef, undef], defers := [] }) ?assign ?body ?done ?stop
  case assign =>
    intro l x W K hK
    gi_wp2
    exact hK
  case body =>
    rintro l pre x W hWs ⟨hpre, hbut⟩ _
    have e0 := box_but d0 hbut (by omega) (by omega)
    have e1 := box_but d1 hbut (by omega) (by omega)
    have e2 := box_but d2 hbut (by omega) (by omega)
    have hmW : W.cell? ⟨1, 0, none⟩ = some (.int .i64 m) := (hbut.cell (p := ⟨1, 0, none⟩) (by show 1 < _; omega) (by show 1 ≠ _; omega)).trans hm0
    have cC := cut1_call 61 x.1 m W x.2 hmW
    gi_wp2_with fail
    refine ⟨trivial, ?_⟩
    refine (CallsIn.inRound l (callsIn_wide.2 cC)).mono ?_
    rintro e w5 ⟨pa, pb, pt, hpc, hpa, hpb, rfl, nd', rfl⟩
    have HPC : Hid (cutAt 61 x.1.data.toList = (pa.data.toList, pb.data.toList, pt)) := hpc
    clear hpc
    have hsb : (⟨(Hd.bare pa.data.toList).toArray⟩ : ByteArray).size ≤ 1000000 := by
      have := bare_length pa.data.toList
      rw [list_size] at this
      rw [Lib.size_eq]; simp; omega
    have hmx : Tryz.prog.follows .mixedOrders = true := by kernel_rfl
    have q2 := e2.cell
    have q0 := e0.cell
    have q1 := e1.cell
    have f0 := e0.frozen
    have f1 := e1.frozen
    have hzW : ∀ k, (W.drewN k).heap.size = W.heap.size := fun k => by simp
    have hbd : Below W.heap.size W (W.drewN (nd' + 1)) := below_drewN (Below.refl _ W) (nd' + 1)
    cases pt
    · have HF : Hid (isParam nm.data.toList x.l = false) := by
        show isParam _ x.1.data.toList = _
        unfold isParam
        rw [HPC.out]
        rfl
      gi_wp2
      gi_region_with_o (refine ⟨trivial, ?_⟩)
      all_goals gi_wp2
      all_goals exact ⟨hbd, all_snoc hpre HF.out, hbut.trans (to_but (hbd.mono hWs))⟩
    · have hlt6 : ∀ k, w1.heap.size < (W.drewN k).heap.size := fun k => by simp; omega
      have q26 : ∀ k, (W.drewN k).cell? ⟨w1.heap.size, 0, none⟩ = some (Value.string sm) := fun k => by simpa using q2
      have HV : Hid (isParam nm.data.toList x.l = decide (small (Hd.bare pa.data.toList) = sm.data.toList)) := by
        show isParam _ x.1.data.toList = _
        unfold isParam
        rw [HPC.out, HSM.out]
        rfl
      obtain ⟨v, hv⟩ : ∃ v, (small (Hd.bare pa.data.toList) == sm.toList) = v := ⟨_, rfl⟩
      have HD : Hid (isParam nm.data.toList x.l = v) := by
        show _ = _
        rw [HV.out, ← hv, Lib.toList_data, Bool.eq_iff_iff]
        simp
      clear HV
      gi_wp2
      gi_region_with_o (first
        | (refine ⟨trivial, ?_⟩; refine (CallsIn.inRound l (callsIn_wide.2 (bare_is' pa _ hpa))).mono ?_; rintro e w6 ⟨rfl, hb6⟩; have q6 := (hb6.cell (p := ⟨w1.heap.size, 0, none⟩) (hlt6 _)).trans (q26 _))
        | (refine ⟨trivial, ?_⟩; refine (CallsIn.inRound l (callsIn_wide.2 (small_is _ _ hsb))).mono ?_; rintro e w7 ⟨rfl, hb7⟩; have q7 := (hb7.cell (p := ⟨w1.heap.size, 0, none⟩) (Nat.lt_of_lt_of_le (hlt6 _) hb6.size)).trans q6))
      all_goals
        have hz6 := hb6.size
        rw [hzW] at hz6
        have hb67 : Below W.heap.size W w7 := (hbd.trans (hb6.mono (by rw [hzW]; exact Nat.le_refl _))).trans (hb7.mono hz6)
        clear q6 q7 q26 hb6 hb7
        clear hv
        cases v
        · gi_wp2
          exact ⟨hb67, all_snoc hpre HD.out, hbut.trans (to_but (hb67.mono hWs))⟩
        · gi_wp2_with fail
          refine ⟨trivial, ?_⟩
          refine (CallsIn.inRound l (callsIn_wide.2 (bare_is' pb _ hpb))).mono ?_
          rintro e w8 ⟨rfl, hb8⟩
          have hsc : (⟨(Hd.bare pb.data.toList).toArray⟩ : ByteArray).size ≤ 1000000 := by
            have := bare_length pb.data.toList
            rw [list_size] at this
            rw [Lib.size_eq]; simp; omega
          gi_wp2_with fail
          refine ⟨trivial, ?_⟩
          refine (CallsIn.inRound l (callsIn_wide.2 (unq_is _ w8 hsc))).mono ?_
          rintro e w9 ⟨rfl, hw9⟩
          obtain rfl : w8 = w9 := hw9.symm
          have hb78 : Below W.heap.size W w8 := hb67.trans (hb8.mono hb67.size)
          have g0 := box_below e0 hb78 (by omega)
          have g1 := box_below e1 hb78 (by omega)
          have g0c := g0.cell
          have g0f := g0.frozen
          have g1c := fun u => (box_far g1 (b := w.heap.size) (by omega) u).cell
          have g1f := fun u => (box_far g1 (b := w.heap.size) (by omega) u).frozen
          obtain ⟨r, hr⟩ : ∃ r : ByteArray, ⟨(unq (⟨(Hd.bare pb.data.toList).toArray⟩ : ByteArray).data.toList).toArray⟩ = r := ⟨_, rfl⟩
          rw [hr]
          have HR : Hid (r.data.toList = unq (Hd.bare (cutAt 61 x.l).2.1)) := by
            show _ = unq (Hd.bare (cutAt 61 x.1.data.toList).2.1)
            rw [← hr, HPC.out]
          clear hr
          gi_wp2
          exact ⟨far_two (by omega) hb78, _, r, find_snoc hpre HD.out, HR.out, box_far (g0.set _) (by omega) _, (box_far g1 (by omega) _).set _,
            ((hBW.trans ((hbut.below (by omega) (by omega)).trans (hb78.mono (by omega)))).setCell (p := ⟨w.heap.size, 0, none⟩) (Nat.le_refl _) _).setCell (p := ⟨w.heap.size + 1, 0, none⟩) (Nat.le_succ _) _, by simpa using Nat.le_trans hWs hb78.size⟩
  case done =>
    rintro D ys W hD hys ⟨hall, hbut⟩ hK
    have HN : Hid (paramOf s.data.toList nm.data.toList = none) := by
      show _ = _
      unfold paramOf
      rw [← find_tail, HC.out, ← hys, Option.map_eq_none_iff, List.find?_eq_none]
      intro z hz
      obtain ⟨y, hy, rfl⟩ := List.mem_map.1 hz
      rw [hall y hy]; simp
    have e0 := box_but d0 hbut (by omega) (by omega)
    have e1 := box_but d1 hbut (by omega) (by omega)
    have f0 := e0.frozen
    have c0 := e0.cell
    have c1 := fun u => (box_far e1 (b := w.heap.size) (by omega) u).cell
    have f1 := fun u => (box_far e1 (b := w.heap.size) (by omega) u).frozen
    have hB := hBW.trans (hbut.below (by omega) (by omega))
    gi_wp2
    have hK' : ((W.setCell ⟨w.heap.size, 0, none⟩ (.string ⟨#[]⟩)).setCell ⟨w.heap.size + 1, 0, none⟩ (.bool false)).heap[D]? = some (.deferred (some [])) := ((KeepsOthers.setCell W ⟨w.heap.size, 0, none⟩ (.string ⟨#[]⟩)).trans (KeepsOthers.setCell _ ⟨w.heap.size + 1, 0, none⟩ (.bool false))).same D _ hK rfl
    refine ⟨by simp, .inl ⟨_, _, rfl, run_takeDeferred hK', ?_⟩⟩
    have z0 : Boxed ((W.setCell ⟨w.heap.size, 0, none⟩ (.string ⟨#[]⟩)).setCell ⟨w.heap.size + 1, 0, none⟩ (.bool false)) w.heap.size 9 (.string ⟨#[]⟩) := box_far (e0.set _) (by omega) _
    have z1 : Boxed ((W.setCell ⟨w.heap.size, 0, none⟩ (.string ⟨#[]⟩)).setCell ⟨w.heap.size + 1, 0, none⟩ (.bool false)) (w.heap.size + 1) 4 (.bool false) := (box_far e1 (by omega) _).set _
    have q0 := (box_below z0 (below_put _ (.deferred none) (Nat.le_refl D)) (by omega)).cell
    have q1 := (box_below z1 (below_put _ (.deferred none) (Nat.le_refl D)) (by omega)).cell
    refine ⟨.tuple #[.string ⟨#[]⟩, .bool false], ?_, ((hB.setCell (p := ⟨w.heap.size, 0, none⟩) (Nat.le_refl _) _).setCell (p := ⟨w.heap.size + 1, 0, none⟩) (Nat.le_succ _) _).trans (below_put _ _ (by omega)), .inl ⟨HN.out, rfl⟩⟩
    simp [results, Tryz.f103, go_sem, q0, q1]
  case stop =>
    rintro D pre W hD ⟨rest, hrest⟩ ⟨p, r, hf, hr, h0, h1, hB, _⟩ hK
    gi_wp2
    refine ⟨by simp, .inl ⟨_, _, rfl, run_takeDeferred hK, ?_⟩⟩
    have q0 := (box_below h0 (below_put _ (.deferred none) (Nat.le_refl D)) (by omega)).cell
    have q1 := (box_below h1 (below_put _ (.deferred none) (Nat.le_refl D)) (by omega)).cell
    refine ⟨.tuple #[.string r, .bool true], ?_, hB.trans (below_put _ _ (by omega)), .inr ⟨r, ?_, rfl⟩⟩
    · simp [results, Tryz.f103, go_sem, q0, q1]
    · unfold paramOf
      rw [← find_tail, HC.out, ← hrest, List.find?_append, hf, hr]
      rfl
theorem param_is (s nm : ByteArray) (m : Int) (w : World) (hs : s.size ≤ 1000000) (hnm : nm.size ≤ 1000000) (hm : w.cell? ⟨1, 0, none⟩ = some (.int .i64 m)) :
    Calls Tryz.prog 103 #[.string s, .string nm] w fun e w' => Below w.heap.size w w' ∧
      ((paramOf s.data.toList nm.data.toList = none ∧ e = .returned (.tuple #[.string ⟨#[]⟩, .bool false])) ∨
       ∃ r : ByteArray, paramOf s.data.toList nm.data.toList = some r.data.toList ∧ e = .returned (.tuple #[.string r, .bool true])) :=
  callsIn_wide.1 (param_in s nm m w hs hnm hm)
end Go.Proofs.YtgbbkdflnlagaaaGreatDoor
