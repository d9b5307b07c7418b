/-
  Which boxes are lacking, of all in which a box of that name would lie; boxes are made, one by one.
-/
import Derived.Test.YtfdlopimncodcaaGreatDoorMHsNew
import Derived.Test.YtfdlopimncodcaaGreatDoorMHmMatch
namespace Go.Proofs
theorem Tryz.infoNm : (Tryz.prog.info? 9).map (fun i => (i.zero, i.size, i.bytes)) = some (some (.string ⟨#[]⟩), 1, 16) := by kernel_rfl
end Go.Proofs
namespace Go.Proofs.YtfdlopimncodcaaGreatDoor
open Go.RowKit Go.Proofs.Aid

/-- A row of names that the call owns. -/
def NRow (w : World) (base : Nat) (v : Value) (l : List Nm) : Prop := w.ownsRow base 9 1 v l.length (l.map encStr)
theorem NRow.below {w w' : World} {base B : Nat} {v : Value} {l : List Nm} (h : NRow w base v l) (hb : Below B w w') (hB : w.heap.size ≤ B) : NRow w' base v l := row_below hb hB h
def lackTo (l : Bxs) (n : Nm) (k : Nat) : List Nm := ((List.range k).filter fun i => decide (n.getD i 0 = 47) && !hasB l (n.take i)).map fun i => n.take i
def lackB (l : Bxs) (n : Nm) : List Nm := lackTo l n n.length
theorem lackTo_yes {l : Bxs} {n : Nm} {k : Nat} (h1 : n.getD k 0 = 47) (h2 : hasB l (n.take k) = false) : lackTo l n (k + 1) = lackTo l n k ++ [n.take k] := by
  unfold lackTo
  have h : (decide (n.getD k 0 = 47) && !hasB l (n.take k)) = true := by rw [decide_eq_true h1, h2]; rfl
  rw [List.range_succ, List.filter_append, List.map_append, List.filter_cons, if_pos h]
  rfl
theorem lackTo_no {l : Bxs} {n : Nm} {k : Nat} (h : n.getD k 0 ≠ 47 ∨ hasB l (n.take k) = true) : lackTo l n (k + 1) = lackTo l n k := by
  unfold lackTo
  have h : ¬ (decide (n.getD k 0 = 47) && !hasB l (n.take k)) = true := by
    rcases h with h | h
    · rw [decide_eq_false h]; simp
    · rw [h]; simp
  rw [List.range_succ, List.filter_append, List.map_append, List.filter_cons, if_neg h]
  simp
theorem lackTo_len (l : Bxs) (n : Nm) (k : Nat) : (lackTo l n k).length ≤ k := by
  unfold lackTo
  rw [List.length_map]
  exact Nat.le_trans (List.length_filter_le _ _) (by simp)
theorem take_ext (s : ByteArray) (k : Nat) : (s.extract 0 k).data.toList = s.data.toList.take k := by
  rw [ByteArray.data_extract, Array.toList_extract]
  simp [List.extract]
theorem enc_ba (s : ByteArray) : encStr s.data.toList = .string s := by simp [encStr]
set_option maxHeartbeats 4000000 in
set_option maxRecDepth 100000 in
theorem lacking_is (hb mb : Nat) (l : Bxs) (nx : Int) (wv : Value) (s : ByteArray) (w : World) (h : HsAt w hb mb l nx wv) (hs : s.size ≤ 1000) :
    Calls Tryz.prog 93 #[.pointer (some ⟨hb, 0, none⟩), .string s] w fun e w' => (∃ v, e = .returned v ∧ NRow w' w.heap.size v (lackB l s.data.toList)) ∧ Below w.heap.size w w' := by
  have hsl : s.data.toList.length = s.size := by rw [Array.length_toList]; rfl
  have HSL : Hid (s.data.toList.length = s.size) := hsl
  clear hsl
  have HH : Hid (HsAt w hb mb l nx wv) := h
  clear h
  go_enter Tryz.func93, Tryz.ntmps93
  go_wp2_with fail
  go_loopw [5, 9] (fun ov iv wr => ∃ k : Nat, iv = .int .i64 (k : Int) ∧ k ≤ s.size ∧ wr.ownsRow w.heap.size 9 1 ov (lackTo l s.data.toList k).length ((lackTo l s.data.toList k).map encStr) ∧ Below w.heap.size w wr) (fun _ iv _ => s.size - (intOf iv).toNat)
  case atStart => exact ⟨0, rfl, Nat.zero_le _, World.ownsRow_nil _ _ _ _, Below.refl _ _⟩
  case round =>
    obtain ⟨k, rfl, hk, hrow, hbw⟩ := hrel
    have hlen := lackTo_len l s.data.toList k
    obtain ⟨LL, hLL⟩ : ∃ n, (lackTo l s.data.toList k).length = n := ⟨_, rfl⟩
    obtain ⟨XS, hXS⟩ : ∃ x, (lackTo l s.data.toList k).map encStr = x := ⟨_, rfl⟩
    rw [hLL] at hlen
    rw [hLL, hXS] at hrow
    have HLX : Hid ((lackTo l s.data.toList k).length = LL ∧ (lackTo l s.data.toList k).map encStr = XS) := ⟨hLL, hXS⟩
    clear hLL hXS
    obtain ⟨oa, oc, rfl⟩ := row_form hrow
    by_cases hlt : k < s.size
    · have d0 : decide ((k : Int) < (s.size : Int)) = true := decide_eq_true (by omega)
      have i1 : (0 : Int) ≤ (k : Int) := by omega
      have i2 : (k : Int) < (s.size : Int) := by omega
      have i3 : (k : Int) ≤ (s.size : Int) := by omega
      by_cases hc : s.data.toList.getD k 0 = 47
      · have hcmp : (((s[k]'hlt).toNat : Int) == 47) = true := by
          rw [byte_at hlt] at hc
          rw [hc]; rfl
        have cH := has_is hb mb l nx wv (s.extract 0 k) wr (HH.out.below hbw (Nat.le_refl _)) (by rw [ByteArray.size_extract]; omega)
        rw [take_ext] at cH
        cases hB : hasB l (s.data.toList.take k) with
        | true =>
          have HL : Hid (lackTo l s.data.toList (k + 1) = lackTo l s.data.toList k) := lackTo_no (Or.inr hB)
          rw [hB] at cH
          have HR : Hid (wr.ownsRow w.heap.size 9 1 (.slice oa LL oc) LL XS ∧ Below w.heap.size w wr) := ⟨hrow, hbw⟩
          clear hrow hbw hB hc hlen
          go_wp2_with fail
          refine cH.mono ?_
          rintro e w1 ⟨rfl, hw⟩
          obtain rfl : wr = w1 := hw.symm
          clear hw cH
          go_wp2_with fail
          go_roundw
          case rel => exact ⟨k + 1, by go_num, by omega, by rw [HL.out, HLX.out.1, HLX.out.2]; exact HR.out.1, HR.out.2⟩
          case measure => simp [intOf]; omega
        | false =>
          have HL : Hid (lackTo l s.data.toList (k + 1) = lackTo l s.data.toList k ++ [s.data.toList.take k]) := lackTo_yes hc hB
          rw [hB] at cH
          have HBW : Hid (Below w.heap.size w wr) := hbw
          have hbs := hbw.size
          clear hbw hB hc
          go_wp2_with fail
          refine cH.mono ?_
          rintro e w1 ⟨rfl, hw⟩
          obtain rfl : wr = w1 := hw.symm
          clear hw cH
          go_wp2_with (at_builtin; go_must (refine wpList_push rfl (.tmp 24) (.tmp 28) 32 rfl _ w.heap.size 9 (.string ⟨#[]⟩) 16 Tryz.underlying32 Tryz.infoNm rfl _ _ _ (by rfl) hrow [.string (s.extract 0 k)] _ (by rfl) (by simp) (by simp [Value.oneCell']) (by simp) (by rfl) (by decide) (by simp; omega) hbs ?_); intro g3 cap3 w3 hown3 hg3 hlt3)
          have hb3 : Below w.heap.size w w3 := HBW.out.grown hg3 hbs (fun j e => (hrow.lt j e).1)
          have HF : Hid (w3.ownsRow w.heap.size 9 1 (.slice (some ⟨g3, 0, none⟩) (LL + 1) cap3) (lackTo l s.data.toList (k + 1)).length ((lackTo l s.data.toList (k + 1)).map encStr) ∧ Below w.heap.size w w3) := by
            refine ⟨?_, hb3⟩
            rw [HL.out, List.length_append, List.map_append, HLX.out.1, HLX.out.2, ← take_ext, List.map_cons, enc_ba]
            exact hown3
          clear hown3 hg3 hb3 hrow
          go_roundw
          case rel => exact ⟨k + 1, by go_num, by omega, HF.out.1, HF.out.2⟩
          case measure => simp [intOf]; omega
      · have hcmp : (((s[k]'hlt).toNat : Int) == 47) = false := by
          rw [byte_at hlt] at hc
          have := byte_eq (s[k]'hlt) 47
          rw [decide_eq_false hc] at this
          exact this
        have HL : Hid (lackTo l s.data.toList (k + 1) = lackTo l s.data.toList k) := lackTo_no (Or.inl hc)
        have HR : Hid (wr.ownsRow w.heap.size 9 1 (.slice oa LL oc) LL XS ∧ Below w.heap.size w wr) := ⟨hrow, hbw⟩
        clear hrow hbw hc hlen
        go_wp2_with fail
        go_roundw
        case rel => exact ⟨k + 1, by go_num, by omega, by rw [HL.out, HLX.out.1, HLX.out.2]; exact HR.out.1, HR.out.2⟩
        case measure => simp [intOf]; omega
    · have d0 : decide ((k : Int) < (s.size : Int)) = false := decide_eq_false (by omega)
      have HR : Hid (NRow wr w.heap.size (.slice oa LL oc) (lackB l s.data.toList) ∧ Below w.heap.size w wr) := by
        obtain rfl : k = s.size := by omega
        refine ⟨?_, hbw⟩
        unfold NRow lackB
        rw [HSL.out, HLX.out.1, HLX.out.2]
        exact hrow
      clear hrow hbw hlen
      go_wp2_with fail
      go_ret
      exact ⟨⟨_, rfl, HR.out.1⟩, HR.out.2⟩
end Go.Proofs.YtfdlopimncodcaaGreatDoor
