/-
  Which names are as a pattern asks: Match of package house, and more.
-/
import Derived.Test.YtfdlopimncodcaaGreatDoorMHmStep
import Derived.Test.YtfdlopimncodcaaGreatDoorBpHsMem
import Derived.Shelf.Abstract
import Derived.Lib.ConvBytes
import Derived.Laws.MakeOwn
namespace Go.Proofs
theorem Tryz.infoBool : (Tryz.prog.info? 4).map (fun i => (i.zero, i.size, i.bytes)) = some (some (.bool false), 1, 1) := by kernel_rfl
end Go.Proofs
namespace Go.Proofs.YtfdlopimncodcaaGreatDoor
open Go.RowKit Go.Proofs.Aid

theorem mt1_is (k : Int) (w : World) : Calls Tryz.prog 71 #[.int .i64 k] w fun e w' => e = .returned (.bool true) ∧ Below w.heap.size w w' := by
  go_enter Tryz.func71, Tryz.ntmps71
  go_wp2_with fail
  go_ret
  exact ⟨rfl, Below.refl _ _⟩
theorem byte_at {s : ByteArray} {k : Nat} (hk : k < s.size) : s.data.toList.getD k 0 = s[k] := by
  have hk' : k < s.data.toList.length := by rw [Array.length_toList]; exact hk
  rw [List.getD_eq_getElem?_getD, List.getElem?_eq_getElem hk']
  rfl
theorem byte_eq (a b : UInt8) : ((a.toNat : Int) == (b.toNat : Int)) = decide (a = b) := by
  by_cases h : a = b
  · subst h; simp
  · rw [decide_eq_false h, beq_eq_false_iff_ne]
    intro e
    exact h (UInt8.toNat_inj.1 (by omega))
set_option maxHeartbeats 1000000 in
theorem mt2_is (k NB : Nat) (s : ByteArray) (w : World) (h : w.cell? ⟨NB, 0, none⟩ = some (.string s)) (hk : k < s.size) : Calls Tryz.prog 72 #[.int .i64 (k : Int), .pointer (some ⟨NB, 0, none⟩)] w fun e w' => e = .returned (.bool (decide (s.data.toList.getD k 0 ≠ 47))) ∧ Below w.heap.size w w' := by
  have i1 : (0 : Int) ≤ (k : Int) := by omega
  have i2 : (k : Int) < (s.size : Int) := by omega
  have HD : Hid ((((s[k]'hk).toNat : Int) != 47) = decide (s.data.toList.getD k 0 ≠ 47)) := by
    have := byte_eq (s[k]'hk) 47
    unfold Hid
    rw [byte_at hk, bne, show (47 : Int) = ((47 : UInt8).toNat : Int) from rfl, this, ← decide_not]
  go_enter Tryz.func72, Tryz.ntmps72
  go_wp2_with fail
  go_ret
  exact ⟨by rw [← HD.out]; rfl, Below.refl _ _⟩
set_option maxHeartbeats 4000000 in
set_option maxRecDepth 100000 in
theorem mt3_is (k i NB PB IB : Nat) (s p : ByteArray) (w : World) (h1 : w.cell? ⟨NB, 0, none⟩ = some (.string s)) (h2 : w.cell? ⟨PB, 0, none⟩ = some (.string p)) (h3 : w.cell? ⟨IB, 0, none⟩ = some (.int .i64 (i : Int))) (hk : k < s.size) (hi : i < p.size) :
    Calls Tryz.prog 74 #[.int .i64 (k : Int), .pointer (some ⟨NB, 0, none⟩), .pointer (some ⟨PB, 0, none⟩), .pointer (some ⟨IB, 0, none⟩)] w fun e w' => e = .returned (.bool (s.data.toList.getD k 0 == p.data.toList.getD i 0)) ∧ Below w.heap.size w w' := by
  have i1 : (0 : Int) ≤ (k : Int) := by omega
  have i2 : (k : Int) < (s.size : Int) := by omega
  have i3 : (0 : Int) ≤ (i : Int) := by omega
  have i4 : (i : Int) < (p.size : Int) := by omega
  have HD : Hid ((((s[k]'hk).toNat : Int) == ((p[i]'hi).toNat : Int)) = (s.data.toList.getD k 0 == p.data.toList.getD i 0)) := by
    unfold Hid
    rw [byte_at hk, byte_at hi, byte_eq]
    by_cases h : s[k]'hk = p[i]'hi
    · rw [h]; simp
    · rw [decide_eq_false h]
      exact (beq_eq_false_iff_ne.2 h).symm
  go_enter Tryz.func74, Tryz.ntmps74
  go_upto_region 1 with fail
  refine wp_region_held_drew (S := fun W => W.cell? ⟨NB, 0, none⟩ = some (.string s) ∧ W.cell? ⟨PB, 0, none⟩ = some (.string p) ∧ W.cell? ⟨IB, 0, none⟩ = some (.int .i64 (i : Int))) (by kernel_rfl) ?_ (fun hHeld => ?_)
  · exact ⟨by simpa using h1, by simpa using h2, by simpa using h3⟩
  refine wpAnyH_take (i := 0) (v := ?_) rfl (by kernel_rfl) (by kernel_rfl) (by kernel_rfl) (fun _ _ _ h => h) (Or.inl ⟨by rfl, ?_⟩) (by first | assumption | trivial) ?_
  rotate_left
  · intro w hSw; go_simp; (try with_reducible rfl)
  change wpAnyH _ _ _ _ _ _ _ (Act.put _ (some 6) _) _; simp only [Act.put, List.setIfInBounds_toArray, List.set_cons_zero, List.set_cons_succ]
  refine wpAnyH_take (i := 1) (v := ?_) rfl (by kernel_rfl) (by kernel_rfl) (by kernel_rfl) (fun _ _ _ h => h) (Or.inl ⟨by rfl, ?_⟩) (by first | assumption | trivial) ?_
  rotate_left
  · intro w hSw; go_simp; (try with_reducible rfl)
  change wpAnyH _ _ _ _ _ _ _ (Act.put _ (some 7) _) _; simp only [Act.put, List.setIfInBounds_toArray, List.set_cons_zero, List.set_cons_succ]
  refine wpAnyH_take (i := 2) (v := ?_) rfl (by kernel_rfl) (by kernel_rfl) (by kernel_rfl) (fun _ _ _ h => h) (Or.inl ⟨by rfl, ?_⟩) (by first | assumption | trivial) ?_
  rotate_left
  · intro w hSw; go_simp; (try with_reducible rfl)
  change wpAnyH _ _ _ _ _ _ _ (Act.put _ (some 8) _) _; simp only [Act.put, List.setIfInBounds_toArray, List.set_cons_zero, List.set_cons_succ]
  refine wpAnyH_take (i := 3) (v := ?_) rfl (by kernel_rfl) (by kernel_rfl) (by kernel_rfl) (fun _ _ _ h => h) (Or.inl ⟨by rfl, ?_⟩) (by first | assumption | trivial) ?_
  rotate_left
  · intro w hSw; go_simp; (try with_reducible rfl)
  change wpAnyH _ _ _ _ _ _ _ (Act.put _ (some 9) _) _; simp only [Act.put, List.setIfInBounds_toArray, List.set_cons_zero, List.set_cons_succ]
  refine wpAnyH_take (i := 4) (v := ?_) rfl (by kernel_rfl) (by kernel_rfl) (by kernel_rfl) (fun _ _ _ h => h) (Or.inl ⟨by rfl, ?_⟩) (by first | assumption | trivial) ?_
  rotate_left
  · intro w hSw; go_simp; (try with_reducible rfl)
  change wpAnyH _ _ _ _ _ _ _ (Act.put _ (some 10) _) _; simp only [Act.put, List.setIfInBounds_toArray, List.set_cons_zero, List.set_cons_succ]
  refine wpAnyH_take (i := 5) (v := ?_) rfl (by kernel_rfl) (by kernel_rfl) (by kernel_rfl) (fun _ _ _ h => h) (Or.inl ⟨by rfl, ?_⟩) (by first | assumption | trivial) ?_
  rotate_left
  · intro w hSw; go_simp; (try with_reducible rfl)
  change wpAnyH _ _ _ _ _ _ _ (Act.put _ (some 11) _) _; simp only [Act.put, List.setIfInBounds_toArray, List.set_cons_zero, List.set_cons_succ]
  refine wpAnyH_take (i := 6) (v := ?_) rfl (by kernel_rfl) (by kernel_rfl) (by kernel_rfl) (fun _ _ _ h => h) (Or.inl ⟨by rfl, ?_⟩) (by first | assumption | trivial) ?_
  rotate_left
  · intro w hSw; go_simp; (try with_reducible rfl)
  change wpAnyH _ _ _ _ _ _ _ (Act.put _ (some 12) _) _; simp only [Act.put, List.setIfInBounds_toArray, List.set_cons_zero, List.set_cons_succ]
  refine wpAnyH_take (i := 7) (v := ?_) rfl (by kernel_rfl) (by kernel_rfl) (by kernel_rfl) (fun _ _ _ h => h) (Or.inl ⟨by rfl, ?_⟩) (by first | assumption | trivial) ?_
  rotate_left
  · intro w hSw; go_simp; (try with_reducible rfl)
  change wpAnyH _ _ _ _ _ _ _ (Act.put _ (some 5) _) _; simp only [Act.put, List.setIfInBounds_toArray, List.set_cons_zero, List.set_cons_succ]
  refine wpAnyH_done (by kernel_rfl) ?_ _
  clear hHeld
  go_wp2_with fail
  go_ret
  exact ⟨by rw [← HD.out]; rfl, (Below.refl _ _).drew⟩
end Go.Proofs.YtfdlopimncodcaaGreatDoor
namespace Go.Proofs
theorem Tryz.infoNm : (Tryz.prog.info? 9).map (fun i => (i.zero, i.size, i.bytes)) = some (some (.string ⟨#[]⟩), 1, 16) := by kernel_rfl
end Go.Proofs
namespace Go.Proofs.YtfdlopimncodcaaGreatDoor
open Go.RowKit Go.Proofs.Aid

/-- A row of names that the call owns. -/
def NRow (w : World) (base : Nat) (v : Value) (l : List Nm) : Prop := w.ownsRow base 9 1 v l.length (l.map encStr)
theorem NRow.below {w w' : World} {base B : Nat} {v : Value} {l : List Nm} (h : NRow w base v l) (hb : Below B w w') (hB : w.heap.size ≤ B) : NRow w' base v l := row_below hb hB h
def lackTo (l : Bxs) (n : Nm) (k : Nat) : List Nm := ((List.range k).filter fun i => decide (n.getD i 0 = 47) && !hasB l (n.take i)).map fun i => n.take i
def lackB (l : Bxs) (n : Nm) : List Nm := lackTo l n n.length
theorem lackTo_yes {l : Bxs} {n : Nm} {k : Nat} (h1 : n.getD k 0 = 47) (h2 : hasB l (n.take k) = false) : lackTo l n (k + 1) = lackTo l n k ++ [n.take k] := by
  unfold lackTo
  have h : (decide (n.getD k 0 = 47) && !hasB l (n.take k)) = true := by rw [decide_eq_true h1, h2]; rfl
  rw [List.range_succ, List.filter_append, List.map_append, List.filter_cons, if_pos h]
  rfl
theorem lackTo_no {l : Bxs} {n : Nm} {k : Nat} (h : n.getD k 0 ≠ 47 ∨ hasB l (n.take k) = true) : lackTo l n (k + 1) = lackTo l n k := by
  unfold lackTo
  have h : ¬ (decide (n.getD k 0 = 47) && !hasB l (n.take k)) = true := by
    rcases h with h | h
    · rw [decide_eq_false h]; simp
    · rw [h]; simp
  rw [List.range_succ, List.filter_append, List.map_append, List.filter_cons, if_neg h]
  simp
theorem lackTo_len (l : Bxs) (n : Nm) (k : Nat) : (lackTo l n k).length ≤ k := by
  unfold lackTo
  rw [List.length_map]
  exact Nat.le_trans (List.length_filter_le _ _) (by simp)
theorem take_ext (s : ByteArray) (k : Nat) : (s.extract 0 k).data.toList = s.data.toList.take k := by
  rw [ByteArray.data_extract, Array.toList_extract]
  simp [List.extract]
theorem enc_ba (s : ByteArray) : encStr s.data.toList = .string s := by simp [encStr]
set_option maxHeartbeats 4000000 in
set_option maxRecDepth 100000 in
theorem lacking_is (hb mb : Nat) (l : Bxs) (nx : Int) (wv : Value) (s : ByteArray) (w : World) (h : HsAt w hb mb l nx wv) (hs : s.size ≤ 1000) :
    Calls Tryz.prog 93 #[.pointer (some ⟨hb, 0, none⟩), .string s] w fun e w' => (∃ v, e = .returned v ∧ NRow w' w.heap.size v (lackB l s.data.toList)) ∧ Below w.heap.size w w' := by
  have hsl : s.data.toList.length = s.size := by rw [Array.length_toList]; rfl
  have HSL : Hid (s.data.toList.length = s.size) := hsl
  clear hsl
  have HH : Hid (HsAt w hb mb l nx wv) := h
  clear h
  go_enter Tryz.func93, Tryz.ntmps93
  go_wp2_with fail
  go_loopw [5, 9] (fun ov iv wr => ∃ k : Nat, iv = .int .i64 (k : Int) ∧ k ≤ s.size ∧ wr.ownsRow w.heap.size 9 1 ov (lackTo l s.data.toList k).length ((lackTo l s.data.toList k).map encStr) ∧ Below w.heap.size w wr) (fun _ iv _ => s.size - (intOf iv).toNat)
  case atStart => exact ⟨0, rfl, Nat.zero_le _, World.ownsRow_nil _ _ _ _, Below.refl _ _⟩
  case round =>
    obtain ⟨k, rfl, hk, hrow, hbw⟩ := hrel
    have hlen := lackTo_len l s.data.toList k
    obtain ⟨LL, hLL⟩ : ∃ n, (lackTo l s.data.toList k).length = n := ⟨_, rfl⟩
    obtain ⟨XS, hXS⟩ : ∃ x, (lackTo l s.data.toList k).map encStr = x := ⟨_, rfl⟩
    rw [hLL] at hlen
    rw [hLL, hXS] at hrow
    have HLX : Hid ((lackTo l s.data.toList k).length = LL ∧ (lackTo l s.data.toList k).map encStr = XS) := ⟨hLL, hXS⟩
    clear hLL hXS
    obtain ⟨oa, oc, rfl⟩ := row_form hrow
    by_cases hlt : k < s.size
    · have d0 : decide ((k : Int) < (s.size : Int)) = true := decide_eq_true (by omega)
      have i1 : (0 : Int) ≤ (k : Int) := by omega
      have i2 : (k : Int) < (s.size : Int) := by omega
      have i3 : (k : Int) ≤ (s.size : Int) := by omega
      by_cases hc : s.data.toList.getD k 0 = 47
      · have hcmp : (((s[k]'hlt).toNat : Int) == 47) = true := by
          rw [byte_at hlt] at hc
          rw [hc]; rfl
        have cH := has_is hb mb l nx wv (s.extract 0 k) wr (HH.out.below hbw (Nat.le_refl _)) (by rw [ByteArray.size_extract]; omega)
        rw [take_ext] at cH
        cases hB : hasB l (s.data.toList.take k) with
        | true =>
          have HL : Hid (lackTo l s.data.toList (k + 1) = lackTo l s.data.toList k) := lackTo_no (Or.inr hB)
          rw [hB] at cH
          have HR : Hid (wr.ownsRow w.heap.size 9 1 (.slice oa LL oc) LL XS ∧ Below w.heap.size w wr) := ⟨hrow, hbw⟩
          clear hrow hbw hB hc hlen
          go_wp2_with fail
          refine cH.mono ?_
          rintro e w1 ⟨rfl, hw⟩
          obtain rfl : wr = w1 := hw.symm
          clear hw cH
          go_wp2_with fail
          go_roundw
          case rel => exact ⟨k + 1, by go_num, by omega, by rw [HL.out, HLX.out.1, HLX.out.2]; exact HR.out.1, HR.out.2⟩
          case measure => simp [intOf]; omega
        | false =>
          have HL : Hid (lackTo l s.data.toList (k + 1) = lackTo l s.data.toList k ++ [s.data.toList.take k]) := lackTo_yes hc hB
          rw [hB] at cH
          have HBW : Hid (Below w.heap.size w wr) := hbw
          have hbs := hbw.size
          clear hbw hB hc
          go_wp2_with fail
          refine cH.mono ?_
          rintro e w1 ⟨rfl, hw⟩
          obtain rfl : wr = w1 := hw.symm
          clear hw cH
          go_wp2_with (at_builtin; go_must (refine wpList_push rfl (.tmp 24) (.tmp 28) 32 rfl _ w.heap.size 9 (.string ⟨#[]⟩) 16 Tryz.underlying32 Tryz.infoNm rfl _ _ _ (by rfl) hrow [.string (s.extract 0 k)] _ (by rfl) (by simp) (by simp [Value.oneCell']) (by simp) (by rfl) (by decide) (by simp; omega) hbs ?_); intro g3 cap3 w3 hown3 hg3 hlt3)
          have hb3 : Below w.heap.size w w3 := HBW.out.grown hg3 hbs (fun j e => (hrow.lt j e).1)
          have HF : Hid (w3.ownsRow w.heap.size 9 1 (.slice (some ⟨g3, 0, none⟩) (LL + 1) cap3) (lackTo l s.data.toList (k + 1)).length ((lackTo l s.data.toList (k + 1)).map encStr) ∧ Below w.heap.size w w3) := by
            refine ⟨?_, hb3⟩
            rw [HL.out, List.length_append, List.map_append, HLX.out.1, HLX.out.2, ← take_ext, List.map_cons, enc_ba]
            exact hown3
          clear hown3 hg3 hb3 hrow
          go_roundw
          case rel => exact ⟨k + 1, by go_num, by omega, HF.out.1, HF.out.2⟩
          case measure => simp [intOf]; omega
      · have hcmp : (((s[k]'hlt).toNat : Int) == 47) = false := by
          rw [byte_at hlt] at hc
          have := byte_eq (s[k]'hlt) 47
          rw [decide_eq_false hc] at this
          exact this
        have HL : Hid (lackTo l s.data.toList (k + 1) = lackTo l s.data.toList k) := lackTo_no (Or.inl hc)
        have HR : Hid (wr.ownsRow w.heap.size 9 1 (.slice oa LL oc) LL XS ∧ Below w.heap.size w wr) := ⟨hrow, hbw⟩
        clear hrow hbw hc hlen
        go_wp2_with fail
        go_roundw
        case rel => exact ⟨k + 1, by go_num, by omega, by rw [HL.out, HLX.out.1, HLX.out.2]; exact HR.out.1, HR.out.2⟩
        case measure => simp [intOf]; omega
    · have d0 : decide ((k : Int) < (s.size : Int)) = false := decide_eq_false (by omega)
      have HR : Hid (NRow wr w.heap.size (.slice oa LL oc) (lackB l s.data.toList) ∧ Below w.heap.size w wr) := by
        obtain rfl : k = s.size := by omega
        refine ⟨?_, hbw⟩
        unfold NRow lackB
        rw [HSL.out, HLX.out.1, HLX.out.2]
        exact hrow
      clear hrow hbw hlen
      go_wp2_with fail
      go_ret
      exact ⟨⟨_, rfl, HR.out.1⟩, HR.out.2⟩
end Go.Proofs.YtfdlopimncodcaaGreatDoor
