/-
  What is wanted, where at most one name is; the names that are wanted, all of them.
-/
import Derived.Test.YtfdlopimncodcaaGreatDoorBpHsRight2
import Derived.Test.YtfdlopimncodcaaGreatDoorMHmMath
import Derived.Laws.AppendOwnNone
namespace Go.Proofs.YtfdlopimncodcaaGreatDoor
open Go.RowKit Go.Proofs.Aid Go.Proofs.Bx

theorem bs_nil (a : Option Addr) (c : Nat) (x : ByteArray) (w : World) : Calls Tryz.prog 87 #[.slice a 0 c, .string x] w fun e w' => e = .returned (.tuple #[.int .i64 0, .bool false]) ∧ w' = w := by
  go_enter Tryz.func87, Tryz.ntmps87
  go_wp2
  refine wp_loop_rounds 1 ?_
  rw [rounds_succ]
  go_wp2
  go_ret2
  exact ⟨rfl, rfl⟩
theorem nan_is (x : ByteArray) (w : World) : Calls Tryz.prog 163 #[.string x] w fun e w' => e = .returned (.bool false) ∧ w' = w := by
  go_enter Tryz.func163, Tryz.ntmps163
  go_wp2
  go_ret
  exact ⟨by simp, rfl⟩
theorem bl_self : ∀ l : List UInt8, Op.bytesLess l l = false
  | [] => rfl
  | b :: l => by simp [Op.bytesLess, bl_self l]
set_option maxHeartbeats 1000000 in
theorem less_self (x : ByteArray) (w : World) : Calls Tryz.prog 132 #[.string x, .string x] w fun e w' => e = .returned (.bool false) ∧ w' = w := by
  have c1 := nan_is x w
  go_enter Tryz.func132, Tryz.ntmps132
  go_wp2_with fail
  refine c1.mono ?_
  rintro e w' ⟨rfl, hw⟩
  obtain rfl : w = w' := hw.symm
  clear c1 hw
  go_wp2_with fail
  go_ret
  exact ⟨by simp [bl_self], rfl⟩
set_option maxHeartbeats 2000000 in
set_option maxRecDepth 100000 in
theorem bs_one (g c : Nat) (x : ByteArray) (w : World) (h : w.cell? ⟨g, 0, none⟩ = some (.string x)) : Calls Tryz.prog 87 #[.slice (some ⟨g, 0, none⟩) 1 c, .string x] w fun e w' => e = .returned (.tuple #[.int .i64 0, .bool true]) ∧ w' = w := by
  have cL := less_self x w
  go_enter Tryz.func87, Tryz.ntmps87
  go_wp2
  refine wp_loop_rounds 2 ?_
  rw [rounds_succ]
  go_wp2_with fail
  refine cL.mono ?_
  rintro e w' ⟨rfl, hw⟩
  obtain rfl : w = w' := hw.symm
  clear cL hw
  go_wp2_with fail
  rw [rounds_succ]
  go_wp2_with fail
  go_ret2
  exact ⟨by simp, rfl⟩
set_option maxHeartbeats 2000000 in
set_option maxRecDepth 100000 in
theorem insert_nil (nb : Nat) (x : ByteArray) (w : World) (h : w.cell? ⟨nb, 0, none⟩ = some (.string x)) : Calls Tryz.prog 89 #[.slice none 0 0, .int .i64 0, .slice (some ⟨nb, 0, none⟩) 1 1] w fun e w' => (∃ v, e = .returned v ∧ NRow w' w.heap.size v [x.data.toList]) ∧ Below w.heap.size w w' := by
  obtain ⟨i0, hi, hz0, hz1, hz2⟩ := info_parts Tryz.infoNm
  have hown : w.ownsRow w.heap.size 9 1 (.slice none 0 0) 0 [] := World.ownsRow_nil _ _ _ _
  have hnews : ∀ (j : Nat) (u : Value), ([.string x] : List Value)[j]? = some u → w.cell? ((⟨nb, 0, none⟩ : Addr).add j) = some u := fun j u hu => by
    cases j with
    | zero =>
      rw [Addr.add_lit]
      obtain rfl : Value.string x = u := by simpa using hu
      exact h
    | succ j => simp at hu
  go_enter Tryz.func89, Tryz.ntmps89
  go_wp2_with (at_builtin; go_must (refine wpList_append_own w rfl (.tmp 23) (.tmp 24) 32 rfl w.heap.size 9 i0 (.string ⟨#[]⟩) 1 16 Tryz.underlying32 hi hz0 hz1 hz2 rfl (by decide) (.slice none 0 0) 0 [] (by rfl) hown ⟨nb, 0, none⟩ 1 1 [.string x] (by rfl) rfl hnews (by simp [Value.oneCell']) (by unfold maxLen; omega) (by omega) (Nat.le_refl _) ?_); intro v' w' q1 q2 q3)
  have HF : Hid (NRow w' w.heap.size v' [x.data.toList] ∧ Below w.heap.size w w') := ⟨by unfold NRow; rw [List.map_cons, enc_ba]; exact q1, (Below.refl _ _).grown q2 (Nat.le_refl _) (fun j e => by simp [Value.ownBlock] at e)⟩
  clear q1 q2 q3
  go_wp2_with fail
  go_ret
  exact ⟨⟨_, rfl, HF.out.1⟩, HF.out.2⟩
set_option maxHeartbeats 2000000 in
set_option maxRecDepth 100000 in
theorem want_bad (nB : Nm → Option Nm) (hb : Nat) (s : ByteArray) (y : Bool) (w : World) (hN : NameC nB w) (hs : s.size ≤ 1000) (e1 : nB s.data.toList = none) :
    Calls Tryz.prog 36 #[.pointer (some ⟨hb, 0, none⟩), .string s, .bool y] w fun e w' => e = .returned (errN 1) ∧ Below w.heap.size w w' := by
  have cN := hN s w (Below.refl _ _) hs
  clear hN
  go_enter Tryz.func36, Tryz.ntmps36
  go_wp2_with fail
  refine cN.mono ?_
  rintro e w1 ⟨hb1, ⟨r, hr, hr2, rfl⟩ | ⟨hr, rfl⟩⟩
  · rw [e1] at hr
    cases hr
  · clear cN hr
    go_wp2_with fail
    go_ret
    exact ⟨rfl, hb1⟩
theorem name_eq {nB : Nm → Option Nm} {s r : ByteArray} {n : Nm} (h : nB s.data.toList = some r.data.toList) (e : nB s.data.toList = some n) : r = ⟨n.toArray⟩ := by
  rw [e] at h
  exact ba_list (Option.some.inj h).symm
set_option maxHeartbeats 2000000 in
set_option maxRecDepth 100000 in
theorem want_miss (nB : Nm → Option Nm) (hb mb : Nat) (l : Bxs) (nx : Int) (a : Option Addr) (c : Nat) (s : ByteArray) (n : Nm) (w : World) (hN : NameC nB w) (h : HsAt w hb mb l nx (.slice a 0 c)) (hs : s.size ≤ 1000) (e1 : nB s.data.toList = some n) :
    Calls Tryz.prog 36 #[.pointer (some ⟨hb, 0, none⟩), .string s, .bool false] w fun e w' => e = .returned (errN 7) ∧ Below w.heap.size w w' := by
  have cN := hN s w (Below.refl _ _) hs
  have HH : Hid (HsAt w hb mb l nx (.slice a 0 c)) := h
  clear hN h
  go_enter Tryz.func36, Tryz.ntmps36
  go_wp2_with fail
  refine cN.mono ?_
  rintro e w1 ⟨hb1, ⟨r, hr, hr2, rfl⟩ | ⟨hr, rfl⟩⟩
  · have h1 := HH.out.below hb1 (Nat.le_refl _)
    have c1 := h1.cell.2.1
    have cB := bs_nil a c r w1
    clear cN hr h1
    go_wp2_with fail
    refine cB.mono ?_
    rintro e w2 ⟨rfl, hw⟩
    obtain rfl : w1 = w2 := hw.symm
    clear cB hw
    go_wp2_with fail
    go_ret
    exact ⟨rfl, hb1⟩
  · rw [e1] at hr
    cases hr
set_option maxHeartbeats 2000000 in
set_option maxRecDepth 100000 in
theorem want_again (nB : Nm → Option Nm) (hb mb base : Nat) (l : Bxs) (nx : Int) (wv : Value) (s : ByteArray) (n : Nm) (w : World) (hN : NameC nB w) (h : HsAt w hb mb l nx wv) (hr : NRow w base wv [n]) (hs : s.size ≤ 1000) (e1 : nB s.data.toList = some n) :
    Calls Tryz.prog 36 #[.pointer (some ⟨hb, 0, none⟩), .string s, .bool true] w fun e w' => e = .returned .nilIface ∧ Below w.heap.size w w' := by
  have cN := hN s w (Below.refl _ _) hs
  obtain ⟨g, cap, rfl, hc⟩ := nrow_at hr (j := 0) (x := n) rfl
  have hgl : g < w.heap.size := World.block_lt_of_cell? _ _ hc
  have HH : Hid (HsAt w hb mb l nx (.slice (some ⟨g, 0, none⟩) 1 cap)) := h
  have HC : Hid (w.cell? ⟨g, 0, none⟩ = some (.string ⟨n.toArray⟩)) := hc
  clear hN h hr hc
  go_enter Tryz.func36, Tryz.ntmps36
  go_wp2_with fail
  refine cN.mono ?_
  rintro e w1 ⟨hb1, ⟨r, hr, hr2, rfl⟩ | ⟨hr, rfl⟩⟩
  · have h1 := HH.out.below hb1 (Nat.le_refl _)
    have c1 := h1.cell.2.1
    have cB := bs_one g cap r w1 (by rw [name_eq hr e1]; exact (hb1.cell (p := ⟨g, 0, none⟩) hgl).trans HC.out)
    clear cN hr h1
    go_wp2_with fail
    refine cB.mono ?_
    rintro e w2 ⟨rfl, hw⟩
    obtain rfl : w1 = w2 := hw.symm
    clear cB hw
    go_wp2_with fail
    go_ret
    exact ⟨rfl, hb1⟩
  · rw [e1] at hr
    cases hr
theorem house_set {w : World} {hb mb : Nat} {l : Bxs} {nx : Int} {wv : Value} (h : HsAt w hb mb l nx wv) (v : Value) : HsAt (w.setCell ⟨hb, 1, none⟩ v) hb mb l nx v :=
  ⟨by simpa using rd_set (i := 1) v h.1, h.2.same (Below.heap_setCell _ _ _ _ (fun e => h.ne e.symm))⟩
set_option maxHeartbeats 2000000 in
set_option maxRecDepth 100000 in
theorem want_put (nB : Nm → Option Nm) (hb mb : Nat) (l : Bxs) (nx : Int) (s : ByteArray) (n : Nm) (w : World) (hN : NameC nB w) (h : HsAt w hb mb l nx (.slice none 0 0)) (hs : s.size ≤ 1000) (e1 : nB s.data.toList = some n) :
    Calls Tryz.prog 36 #[.pointer (some ⟨hb, 0, none⟩), .string s, .bool true] w fun e w' => e = .returned .nilIface ∧ HK hb mb w w' ∧ ∃ v base, w.heap.size ≤ base ∧ HsAt w' hb mb l nx v ∧ NRow w' base v [n] := by
  have cN := hN s w (Below.refl _ _) hs
  have HH : Hid (HsAt w hb mb l nx (.slice none 0 0)) := h
  clear hN h
  go_enter Tryz.func36, Tryz.ntmps36
  go_wp2_with fail
  refine cN.mono ?_
  rintro e w1 ⟨hb1, ⟨r, hr, hr2, rfl⟩ | ⟨hr, rfl⟩⟩
  · have h1 := HH.out.below hb1 (Nat.le_refl _)
    have hz1 := hb1.size
    have c1 := h1.cell.2.1
    have cB := bs_nil none 0 r w1
    have b2 : Below w1.heap.size w1 (w1.alloc (.cells #[.string r] 9)) := (Below.refl _ _).alloc (Nat.le_refl _) _
    have e2 := heap_alloc_new w1 (.cells #[.string r] 9)
    obtain ⟨W2, hW2⟩ : ∃ W, w1.alloc (.cells #[.string r] 9) = W := ⟨_, rfl⟩
    rw [hW2] at b2 e2
    have h2 := h1.below b2 (Nat.le_refl _)
    have cI := insert_nil w1.heap.size r W2 (rd_cell e2 rfl)
    have HX : Hid (HsAt W2 hb mb l nx (.slice none 0 0) ∧ Below w.heap.size w W2 ∧ r.data.toList = n) := ⟨h2, hb1.trans (b2.mono hz1), by rw [e1] at hr; exact (Option.some.inj hr).symm⟩
    clear cN hr h1 hb1 b2 e2 h2
    go_wp2_with fail
    refine cB.mono ?_
    rintro e w2 ⟨rfl, hw⟩
    obtain rfl : w1 = w2 := hw.symm
    clear cB hw
    go_wp2_with fail
    refine cI.mono ?_
    rintro e w3 ⟨⟨v, rfl, hrow⟩, hb3⟩
    have h3 := HX.out.1.below hb3 (Nat.le_refl _)
    have cc := h3.cell.2.1
    have ff := rd_free h3.1 1
    obtain ⟨va, vc, rfl⟩ := row_form hrow
    have HF : Hid (HK hb mb w (w3.setCell ⟨hb, 1, none⟩ (.slice va 1 vc)) ∧ ∃ v base, w.heap.size ≤ base ∧ HsAt (w3.setCell ⟨hb, 1, none⟩ (.slice va 1 vc)) hb mb l nx v ∧ NRow (w3.setCell ⟨hb, 1, none⟩ (.slice va 1 vc)) base v [n]) := by
      have hB3 : Below w.heap.size w w3 := HX.out.2.1.trans (hb3.mono HX.out.2.1.size)
      refine ⟨⟨hB3.os, hB3.tape, hB3.output, by simpa using hB3.size, fun k h1 h2 _ => (Below.heap_setCell _ _ _ _ h2).trans (hB3.block k h1)⟩, _, W2.heap.size, HX.out.2.1.size, house_set h3 _, ?_⟩
      rw [← HX.out.2.2]
      refine own_same hrow fun g hg => Below.heap_setCell _ _ _ _ ?_
      obtain ⟨c, fz, hc⟩ := row_kind hrow g hg
      exact (ne_of_kind h3 hc (by decide)).1
    clear cI hrow hb3 h3
    go_wp2_with fail
    go_ret
    exact ⟨rfl, HF.out⟩
  · rw [e1] at hr
    cases hr
set_option maxHeartbeats 2000000 in
set_option maxRecDepth 100000 in
theorem want_off (nB : Nm → Option Nm) (hb mb base : Nat) (l : Bxs) (nx : Int) (wv : Value) (s : ByteArray) (n : Nm) (w : World) (hN : NameC nB w) (h : HsAt w hb mb l nx wv) (hr : NRow w base wv [n]) (h1 : hb < base) (h2 : mb < base) (h3 : base ≤ w.heap.size) (hs : s.size ≤ 1000) (e1 : nB s.data.toList = some n) :
    Calls Tryz.prog 36 #[.pointer (some ⟨hb, 0, none⟩), .string s, .bool false] w fun e w' => e = .returned .nilIface ∧ But base hb w w' ∧ ∃ a c, HsAt w' hb mb l nx (.slice a 0 c) := by
  have cN := hN s w (Below.refl _ _) hs
  obtain ⟨g, cap, rfl, hc⟩ := nrow_at hr (j := 0) (x := n) rfl
  have hgl : g < w.heap.size := World.block_lt_of_cell? _ _ hc
  obtain ⟨gg, cap', ev, hgb2, hlt, hcp, hm, _, hH⟩ := Lib.holds_of_ownsRow hr (by simp)
  injection ev with ev1 evx ev3
  injection ev1 with ev1
  injection ev1 with ev1 evy evz
  subst ev1 ev3
  clear evx evy evz
  have HX : Hid (HsAt w hb mb l nx (.slice (some ⟨g, 0, none⟩) 1 cap) ∧ NRow w base (.slice (some ⟨g, 0, none⟩) 1 cap) [n] ∧ w.cell? ⟨g, 0, none⟩ = some (.string ⟨n.toArray⟩) ∧ 1 ≤ cap ∧ cap ≤ 9223372036854775807) := ⟨h, hr, hc, hcp, by first | exact hm | (unfold maxLen at hm; omega)⟩
  clear hN h hr hc hH hm hlt hcp
  go_enter Tryz.func36, Tryz.ntmps36
  go_wp2_with fail
  refine cN.mono ?_
  rintro e w1 ⟨hb1, ⟨r, hr, hr2, rfl⟩ | ⟨hr, rfl⟩⟩
  · have hS1 := HX.out.1.below hb1 (Nat.le_refl _)
    have hR1 := HX.out.2.1.below hb1 (Nat.le_refl _)
    have c1 := hS1.cell.2.1
    have cB := bs_one g cap r w1 (by rw [name_eq hr e1]; exact (hb1.cell (p := ⟨g, 0, none⟩) hgl).trans HX.out.2.2.1)
    obtain ⟨g2, cap2, ev, _, _, _, _, _, hH⟩ := Lib.holds_of_ownsRow hR1 (by simp)
    injection ev with ev1 evx ev3
    injection ev1 with ev1
    injection ev1 with ev1 evy evz
    subst ev1 ev3
    clear evx evy evz
    have cD := Tryz.slices_Delete_string g 0 cap 0 1 [n] w1 hH HX.out.2.2.2.1 HX.out.2.2.2.2 (by decide) (Nat.le_refl 1)
    have HY : Hid (HsAt w1 hb mb l nx (.slice (some ⟨g, 0, none⟩) 1 cap) ∧ Below w.heap.size w w1) := ⟨hS1, hb1⟩
    clear cN hr hS1 hR1 hb1 hH
    go_wp2_with fail
    refine cB.mono ?_
    rintro e w2 ⟨rfl, hw⟩
    obtain rfl : w1 = w2 := hw.symm
    clear cB hw
    go_wp2_with fail
    refine cD.mono ?_
    rintro e w3 ⟨rfl, q, hq⟩
    have b3 : Below base w1 w3 := by rw [hq]; exact Lib.below_putRow (Below.refl _ _) hgb2
    have hS3 : HsAt w3 hb mb l nx (.slice (some ⟨g, 0, none⟩) 1 cap) := ⟨(b3.block hb h1).trans HY.out.1.1, HY.out.1.2.same (b3.block mb h2)⟩
    have cc := hS3.cell.2.1
    have ff := rd_free hS3.1 1
    have HF : Hid (But base hb w (w3.setCell ⟨hb, 1, none⟩ (.slice (some ⟨g, 0, none⟩) 0 cap)) ∧ ∃ a c, HsAt (w3.setCell ⟨hb, 1, none⟩ (.slice (some ⟨g, 0, none⟩) 0 cap)) hb mb l nx (.slice a 0 c)) :=
      ⟨((to_but ((HY.out.2.mono h3).trans b3)).setB 1 _), _, _, house_set hS3 _⟩
    clear cD hq b3 hS3
    go_wp2_with fail
    go_ret
    exact ⟨rfl, HF.out⟩
  · rw [e1] at hr
    cases hr
end Go.Proofs.YtfdlopimncodcaaGreatDoor
