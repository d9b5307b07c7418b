/-
  Which names are as a pattern asks: Match of package house, and more.
-/
import Derived.Test.YtfdlopimncodcaaGreatDoorBpHsMem
import Derived.Shelf.Abstract
import Derived.Lib.ConvBytes
import Derived.Laws.MakeOwn
import Derived.Shelf.SlIter.Nil
import Derived.Shelf.SortM.Plain
import Derived.Shelf.SortM.SortNone
import Derived.Ground.GgzProg
import Derived.Ground.SlgmProg
namespace Go.Proofs
theorem Tryz.infoBool : (Tryz.prog.info? 4).map (fun i => (i.zero, i.size, i.bytes)) = some (some (.bool false), 1, 1) := by kernel_rfl
end Go.Proofs
namespace Go.Proofs.YtfdlopimncodcaaGreatDoor
open Go.RowKit Go.Proofs.Aid
theorem mt1_is (k : Int) (w : World) : Calls Tryz.prog 71 #[.int .i64 k] w fun e w' => e = .returned (.bool true) ∧ Below w.heap.size w w' := by
  go_enter Tryz.func71, Tryz.ntmps71
  go_wp2_with fail
  go_ret
  exact ⟨rfl, Below.refl _ _⟩
theorem byte_at {s : ByteArray} {k : Nat} (hk : k < s.size) : s.data.toList.getD k 0 = s[k] := by
  have hk' : k < s.data.toList.length := by rw [Array.length_toList]; exact hk
  rw [List.getD_eq_getElem?_getD, List.getElem?_eq_getElem hk']
  rfl
theorem byte_eq (a b : UInt8) : ((a.toNat : Int) == (b.toNat : Int)) = decide (a = b) := by
  by_cases h : a = b
  · subst h; simp
  · rw [decide_eq_false h, beq_eq_false_iff_ne]
    intro e
    exact h (UInt8.toNat_inj.1 (by omega))
set_option maxHeartbeats 1000000 in
theorem mt2_is (k NB : Nat) (s : ByteArray) (w : World) (h : w.cell? ⟨NB, 0, none⟩ = some (.string s)) (hk : k < s.size) : Calls Tryz.prog 72 #[.int .i64 (k : Int), .pointer (some ⟨NB, 0, none⟩)] w fun e w' => e = .returned (.bool (decide (s.data.toList.getD k 0 ≠ 47))) ∧ Below w.heap.size w w' := by
  have i1 : (0 : Int) ≤ (k : Int) := by omega
  have i2 : (k : Int) < (s.size : Int) := by omega
  have HD : Hid ((((s[k]'hk).toNat : Int) != 47) = decide (s.data.toList.getD k 0 ≠ 47)) := by
    have := byte_eq (s[k]'hk) 47
    unfold Hid
    rw [byte_at hk, bne, show (47 : Int) = ((47 : UInt8).toNat : Int) from rfl, this, ← decide_not]
  go_enter Tryz.func72, Tryz.ntmps72
  go_wp2_with fail
  go_ret
  exact ⟨by rw [← HD.out]; rfl, Below.refl _ _⟩
set_option maxHeartbeats 4000000 in
set_option maxRecDepth 100000 in
theorem mt3_is (k i NB PB IB : Nat) (s p : ByteArray) (w : World) (h1 : w.cell? ⟨NB, 0, none⟩ = some (.string s)) (h2 : w.cell? ⟨PB, 0, none⟩ = some (.string p)) (h3 : w.cell? ⟨IB, 0, none⟩ = some (.int .i64 (i : Int))) (hk : k < s.size) (hi : i < p.size) :
    Calls Tryz.prog 74 #[.int .i64 (k : Int), .pointer (some ⟨NB, 0, none⟩), .pointer (some ⟨PB, 0, none⟩), .pointer (some ⟨IB, 0, none⟩)] w fun e w' => e = .returned (.bool (s.data.toList.getD k 0 == p.data.toList.getD i 0)) ∧ Below w.heap.size w w' := by
  have i1 : (0 : Int) ≤ (k : Int) := by omega
  have i2 : (k : Int) < (s.size : Int) := by omega
  have i3 : (0 : Int) ≤ (i : Int) := by omega
  have i4 : (i : Int) < (p.size : Int) := by omega
  have HD : Hid ((((s[k]'hk).toNat : Int) == ((p[i]'hi).toNat : Int)) = (s.data.toList.getD k 0 == p.data.toList.getD i 0)) := by
    unfold Hid
    rw [byte_at hk, byte_at hi, byte_eq]
    by_cases h : s[k]'hk = p[i]'hi
    · rw [h]; simp
    · rw [decide_eq_false h]
      exact (beq_eq_false_iff_ne.2 h).symm
  go_enter Tryz.func74, Tryz.ntmps74
  go_upto_region 1 with fail
  refine wp_region_held_drew (S := fun W => W.cell? ⟨NB, 0, none⟩ = some (.string s) ∧ W.cell? ⟨PB, 0, none⟩ = some (.string p) ∧ W.cell? ⟨IB, 0, none⟩ = some (.int .i64 (i : Int))) (by kernel_rfl) ?_ (fun hHeld => ?_)
  · exact ⟨by simpa using h1, by simpa using h2, by simpa using h3⟩
  refine wpAnyH_take (i := 0) (v := ?_) rfl (by kernel_rfl) (by kernel_rfl) (by kernel_rfl) (fun _ _ _ h => h) (Or.inl ⟨by rfl, ?_⟩) (by first | assumption | trivial) ?_
  rotate_left
  · intro w hSw; go_simp; (try with_reducible rfl)
  change wpAnyH _ _ _ _ _ _ _ (Act.put _ (some 6) _) _; simp only [Act.put, List.setIfInBounds_toArray, List.set_cons_zero, List.set_cons_succ]
  refine wpAnyH_take (i := 1) (v := ?_) rfl (by kernel_rfl) (by kernel_rfl) (by kernel_rfl) (fun _ _ _ h => h) (Or.inl ⟨by rfl, ?_⟩) (by first | assumption | trivial) ?_
  rotate_left
  · intro w hSw; go_simp; (try with_reducible rfl)
  change wpAnyH _ _ _ _ _ _ _ (Act.put _ (some 7) _) _; simp only [Act.put, List.setIfInBounds_toArray, List.set_cons_zero, List.set_cons_succ]
  refine wpAnyH_take (i := 2) (v := ?_) rfl (by kernel_rfl) (by kernel_rfl) (by kernel_rfl) (fun _ _ _ h => h) (Or.inl ⟨by rfl, ?_⟩) (by first | assumption | trivial) ?_
  rotate_left
  · intro w hSw; go_simp; (try with_reducible rfl)
  change wpAnyH _ _ _ _ _ _ _ (Act.put _ (some 8) _) _; simp only [Act.put, List.setIfInBounds_toArray, List.set_cons_zero, List.set_cons_succ]
  refine wpAnyH_take (i := 3) (v := ?_) rfl (by kernel_rfl) (by kernel_rfl) (by kernel_rfl) (fun _ _ _ h => h) (Or.inl ⟨by rfl, ?_⟩) (by first | assumption | trivial) ?_
  rotate_left
  · intro w hSw; go_simp; (try with_reducible rfl)
  change wpAnyH _ _ _ _ _ _ _ (Act.put _ (some 9) _) _; simp only [Act.put, List.setIfInBounds_toArray, List.set_cons_zero, List.set_cons_succ]
  refine wpAnyH_take (i := 4) (v := ?_) rfl (by kernel_rfl) (by kernel_rfl) (by kernel_rfl) (fun _ _ _ h => h) (Or.inl ⟨by rfl, ?_⟩) (by first | assumption | trivial) ?_
  rotate_left
  · intro w hSw; go_simp; (try with_reducible rfl)
  change wpAnyH _ _ _ _ _ _ _ (Act.put _ (some 10) _) _; simp only [Act.put, List.setIfInBounds_toArray, List.set_cons_zero, List.set_cons_succ]
  refine wpAnyH_take (i := 5) (v := ?_) rfl (by kernel_rfl) (by kernel_rfl) (by kernel_rfl) (fun _ _ _ h => h) (Or.inl ⟨by rfl, ?_⟩) (by first | assumption | trivial) ?_
  rotate_left
  · intro w hSw; go_simp; (try with_reducible rfl)
  change wpAnyH _ _ _ _ _ _ _ (Act.put _ (some 11) _) _; simp only [Act.put, List.setIfInBounds_toArray, List.set_cons_zero, List.set_cons_succ]
  refine wpAnyH_take (i := 6) (v := ?_) rfl (by kernel_rfl) (by kernel_rfl) (by kernel_rfl) (fun _ _ _ h => h) (Or.inl ⟨by rfl, ?_⟩) (by first | assumption | trivial) ?_
  rotate_left
  · intro w hSw; go_simp; (try with_reducible rfl)
  change wpAnyH _ _ _ _ _ _ _ (Act.put _ (some 12) _) _; simp only [Act.put, List.setIfInBounds_toArray, List.set_cons_zero, List.set_cons_succ]
  refine wpAnyH_take (i := 7) (v := ?_) rfl (by kernel_rfl) (by kernel_rfl) (by kernel_rfl) (fun _ _ _ h => h) (Or.inl ⟨by rfl, ?_⟩) (by first | assumption | trivial) ?_
  rotate_left
  · intro w hSw; go_simp; (try with_reducible rfl)
  change wpAnyH _ _ _ _ _ _ _ (Act.put _ (some 5) _) _; simp only [Act.put, List.setIfInBounds_toArray, List.set_cons_zero, List.set_cons_succ]
  refine wpAnyH_done (by kernel_rfl) ?_ _
  clear hHeld
  go_wp2_with fail
  go_ret
  exact ⟨by rw [← HD.out]; rfl, (Below.refl _ _).drew⟩
end Go.Proofs.YtfdlopimncodcaaGreatDoor
namespace Go.Proofs
theorem Tryz.infoNm : (Tryz.prog.info? 9).map (fun i => (i.zero, i.size, i.bytes)) = some (some (.string ⟨#[]⟩), 1, 16) := by kernel_rfl
end Go.Proofs
namespace Go.Proofs.YtfdlopimncodcaaGreatDoor
open Go.RowKit Go.Proofs.Aid
def NRow (w : World) (base : Nat) (v : Value) (l : List Nm) : Prop := w.ownsRow base 9 1 v l.length (l.map encStr)
theorem NRow.below {w w' : World} {base B : Nat} {v : Value} {l : List Nm} (h : NRow w base v l) (hb : Below B w w') (hB : w.heap.size ≤ B) : NRow w' base v l := row_below hb hB h
def lackTo (l : Bxs) (n : Nm) (k : Nat) : List Nm := ((List.range k).filter fun i => decide (n.getD i 0 = 47) && !hasB l (n.take i)).map fun i => n.take i
def lackB (l : Bxs) (n : Nm) : List Nm := lackTo l n n.length
theorem lackTo_yes {l : Bxs} {n : Nm} {k : Nat} (h1 : n.getD k 0 = 47) (h2 : hasB l (n.take k) = false) : lackTo l n (k + 1) = lackTo l n k ++ [n.take k] := by
  unfold lackTo
  have h : (decide (n.getD k 0 = 47) && !hasB l (n.take k)) = true := by rw [decide_eq_true h1, h2]; rfl
  rw [List.range_succ, List.filter_append, List.map_append, List.filter_cons, if_pos h]
  rfl
theorem lackTo_no {l : Bxs} {n : Nm} {k : Nat} (h : n.getD k 0 ≠ 47 ∨ hasB l (n.take k) = true) : lackTo l n (k + 1) = lackTo l n k := by
  unfold lackTo
  have h : ¬ (decide (n.getD k 0 = 47) && !hasB l (n.take k)) = true := by
    rcases h with h | h
    · rw [decide_eq_false h]; simp
    · rw [h]; simp
  rw [List.range_succ, List.filter_append, List.map_append, List.filter_cons, if_neg h]
  simp
theorem lackTo_len (l : Bxs) (n : Nm) (k : Nat) : (lackTo l n k).length ≤ k := by
  unfold lackTo
  rw [List.length_map]
  exact Nat.le_trans (List.length_filter_le _ _) (by simp)
theorem take_ext (s : ByteArray) (k : Nat) : (s.extract 0 k).data.toList = s.data.toList.take k := by
  rw [ByteArray.data_extract, Array.toList_extract]
  simp [List.extract]
theorem enc_ba (s : ByteArray) : encStr s.data.toList = .string s := by simp [encStr]
set_option maxHeartbeats 4000000 in
set_option maxRecDepth 100000 in
theorem lacking_is (hb mb : Nat) (l : Bxs) (nx : Int) (wv : Value) (s : ByteArray) (w : World) (h : HsAt w hb mb l nx wv) (hs : s.size ≤ 1000) :
    Calls Tryz.prog 93 #[.pointer (some ⟨hb, 0, none⟩), .string s] w fun e w' => (∃ v, e = .returned v ∧ NRow w' w.heap.size v (lackB l s.data.toList)) ∧ Below w.heap.size w w' := by
  have hsl : s.data.toList.length = s.size := by rw [Array.length_toList]; rfl
  have HSL : Hid (s.data.toList.length = s.size) := hsl
  clear hsl
  have HH : Hid (HsAt w hb mb l nx wv) := h
  clear h
  go_enter Tryz.func93, Tryz.ntmps93
  go_wp2_with fail
  go_loopw [5, 9] (fun ov iv wr => ∃ k : Nat, iv = .int .i64 (k : Int) ∧ k ≤ s.size ∧ wr.ownsRow w.heap.size 9 1 ov (lackTo l s.data.toList k).length ((lackTo l s.data.toList k).map encStr) ∧ Below w.heap.size w wr) (fun _ iv _ => s.size - (intOf iv).toNat)
  case atStart => exact ⟨0, rfl, Nat.zero_le _, World.ownsRow_nil _ _ _ _, Below.refl _ _⟩
  case round =>
    obtain ⟨k, rfl, hk, hrow, hbw⟩ := hrel
    have hlen := lackTo_len l s.data.toList k
    obtain ⟨LL, hLL⟩ : ∃ n, (lackTo l s.data.toList k).length = n := ⟨_, rfl⟩
    obtain ⟨XS, hXS⟩ : ∃ x, (lackTo l s.data.toList k).map encStr = x := ⟨_, rfl⟩
    rw [hLL] at hlen
    rw [hLL, hXS] at hrow
    have HLX : Hid ((lackTo l s.data.toList k).length = LL ∧ (lackTo l s.data.toList k).map encStr = XS) := ⟨hLL, hXS⟩
    clear hLL hXS
    obtain ⟨oa, oc, rfl⟩ := row_form hrow
    by_cases hlt : k < s.size
    · have d0 : decide ((k : Int) < (s.size : Int)) = true := decide_eq_true (by omega)
      have i1 : (0 : Int) ≤ (k : Int) := by omega
      have i2 : (k : Int) < (s.size : Int) := by omega
      have i3 : (k : Int) ≤ (s.size : Int) := by omega
      by_cases hc : s.data.toList.getD k 0 = 47
      · have hcmp : (((s[k]'hlt).toNat : Int) == 47) = true := by
          rw [byte_at hlt] at hc
          rw [hc]; rfl
        have cH := has_is hb mb l nx wv (s.extract 0 k) wr (HH.out.below hbw (Nat.le_refl _)) (by rw [ByteArray.size_extract]; omega)
        rw [take_ext] at cH
        cases hB : hasB l (s.data.toList.take k) with
        | true =>
          have HL : Hid (lackTo l s.data.toList (k + 1) = lackTo l s.data.toList k) := lackTo_no (Or.inr hB)
          rw [hB] at cH
          have HR : Hid (wr.ownsRow w.heap.size 9 1 (.slice oa LL oc) LL XS ∧ Below w.heap.size w wr) := ⟨hrow, hbw⟩
          clear hrow hbw hB hc hlen
          go_wp2_with fail
          refine cH.mono ?_
          rintro e w1 ⟨rfl, hw⟩
          obtain rfl : wr = w1 := hw.symm
          clear hw cH
          go_wp2_with fail
          go_roundw
          case rel => exact ⟨k + 1, by go_num, by omega, by rw [HL.out, HLX.out.1, HLX.out.2]; exact HR.out.1, HR.out.2⟩
          case measure => simp [intOf]; omega
        | false =>
          have HL : Hid (lackTo l s.data.toList (k + 1) = lackTo l s.data.toList k ++ [s.data.toList.take k]) := lackTo_yes hc hB
          rw [hB] at cH
          have HBW : Hid (Below w.heap.size w wr) := hbw
          have hbs := hbw.size
          clear hbw hB hc
          go_wp2_with fail
          refine cH.mono ?_
          rintro e w1 ⟨rfl, hw⟩
          obtain rfl : wr = w1 := hw.symm
          clear hw cH
          go_wp2_with (at_builtin; go_must (refine wpList_push rfl (.tmp 24) (.tmp 28) 32 rfl _ w.heap.size 9 (.string ⟨#[]⟩) 16 Tryz.underlying32 Tryz.infoNm rfl _ _ _ (by rfl) hrow [.string (s.extract 0 k)] _ (by rfl) (by simp) (by simp [Value.oneCell']) (by simp) (by rfl) (by decide) (by simp; omega) hbs ?_); intro g3 cap3 w3 hown3 hg3 hlt3)
          have hb3 : Below w.heap.size w w3 := HBW.out.grown hg3 hbs (fun j e => (hrow.lt j e).1)
          have HF : Hid (w3.ownsRow w.heap.size 9 1 (.slice (some ⟨g3, 0, none⟩) (LL + 1) cap3) (lackTo l s.data.toList (k + 1)).length ((lackTo l s.data.toList (k + 1)).map encStr) ∧ Below w.heap.size w w3) := by
            refine ⟨?_, hb3⟩
            rw [HL.out, List.length_append, List.map_append, HLX.out.1, HLX.out.2, ← take_ext, List.map_cons, enc_ba]
            exact hown3
          clear hown3 hg3 hb3 hrow
          go_roundw
          case rel => exact ⟨k + 1, by go_num, by omega, HF.out.1, HF.out.2⟩
          case measure => simp [intOf]; omega
      · have hcmp : (((s[k]'hlt).toNat : Int) == 47) = false := by
          rw [byte_at hlt] at hc
          have := byte_eq (s[k]'hlt) 47
          rw [decide_eq_false hc] at this
          exact this
        have HL : Hid (lackTo l s.data.toList (k + 1) = lackTo l s.data.toList k) := lackTo_no (Or.inl hc)
        have HR : Hid (wr.ownsRow w.heap.size 9 1 (.slice oa LL oc) LL XS ∧ Below w.heap.size w wr) := ⟨hrow, hbw⟩
        clear hrow hbw hc hlen
        go_wp2_with fail
        go_roundw
        case rel => exact ⟨k + 1, by go_num, by omega, by rw [HL.out, HLX.out.1, HLX.out.2]; exact HR.out.1, HR.out.2⟩
        case measure => simp [intOf]; omega
    · have d0 : decide ((k : Int) < (s.size : Int)) = false := decide_eq_false (by omega)
      have HR : Hid (NRow wr w.heap.size (.slice oa LL oc) (lackB l s.data.toList) ∧ Below w.heap.size w wr) := by
        obtain rfl : k = s.size := by omega
        refine ⟨?_, hbw⟩
        unfold NRow lackB
        rw [HSL.out, HLX.out.1, HLX.out.2]
        exact hrow
      clear hrow hbw hlen
      go_wp2_with fail
      go_ret
      exact ⟨⟨_, rfl, HR.out.1⟩, HR.out.2⟩
end Go.Proofs.YtfdlopimncodcaaGreatDoor
namespace Go.Proofs.YtfdlopimncodcaaGreatDoor
open Go.RowKit Go.Proofs.Aid
theorem nrow_at {w : World} {base : Nat} {v : Value} {l : List Nm} (h : NRow w base v l) {j : Nat} {x : Nm} (hj : l[j]? = some x) : ∃ g cap, v = .slice (some ⟨g, 0, none⟩) l.length cap ∧ w.cell? ⟨g, j, none⟩ = some (encStr x) := by
  have hjl := (List.getElem?_eq_some_iff.1 hj).1
  rcases h.2 with ⟨_, h2⟩ | ⟨g, cap, cur, hv, _, hh, _, _, hsz, htk⟩
  · omega
  · refine ⟨g, cap, hv, rd_cell hh ?_⟩
    have h1 : (l.map encStr)[j]? = some (encStr x) := by rw [List.getElem?_map, hj]; rfl
    rw [← htk, List.getElem?_take] at h1
    split at h1
    · rw [Array.getElem?_toList] at h1; exact h1
    · cases h1
theorem NRow.hk {w w' : World} {base hb mb : Nat} {v : Value} {l : List Nm} {L : Bxs} {nx : Int} {wv : Value} (h : NRow w base v l) (hH : HsAt w hb mb L nx wv) (hk : HK hb mb w w') : NRow w' base v l := by
  refine own_same h fun g hg => ?_
  obtain ⟨c, fz, hc⟩ := row_kind h g hg
  refine hk.block g (Array.getElem?_eq_some_iff.1 hc).1 (fun e => ?_) (fun e => ?_)
  · rw [e, hH.1] at hc
    injection hc with hc
    injection hc with _ e2 _
    exact absurd e2 (by decide)
  · obtain ⟨_, _, D, ⟨es, clock, h2, _⟩, _⟩ := hH
    rw [e, h2] at hc
    cases hc
def putAll (l : Bxs) (ps : Bxs) : Bxs := ps.foldl (fun a p => putB p.1 p.2 a) l
theorem putAll_snoc (l ps : Bxs) (p : Nm × Nat) : putAll l (ps ++ [p]) = putB p.1 p.2 (putAll l ps) := by simp [putAll]
theorem putB_len (n : Nm) (b : Nat) : ∀ l : Bxs, (putB n b l).length ≤ l.length + 1
  | [] => Nat.le_refl _
  | p :: l => by
    unfold putB
    split
    · simp
    · split
      · simp
      · have := putB_len n b l
        simp
        omega
theorem putAll_len (l : Bxs) : ∀ (k : Nat) (ps : Bxs), ps.length = k → (putAll l ps).length ≤ l.length + k
  | 0, ps, h => by rw [List.eq_nil_of_length_eq_zero h]; exact Nat.le_refl _
  | k + 1, ps, h => by
    have hne : ps ≠ [] := fun e => by rw [e] at h; cases h
    have e := List.dropLast_concat_getLast hne
    have hl : ps.dropLast.length = k := by rw [List.length_dropLast]; omega
    rw [← e, putAll_snoc]
    have h1 := putB_len (ps.getLast hne).1 (ps.getLast hne).2 (putAll l ps.dropLast)
    have h2 := putAll_len l k ps.dropLast hl
    omega
def Built (B : Nat) (w : World) (nx : Int) (ns : List Nm) (ps : Bxs) : Prop := ps.map Prod.fst = ns ∧ (∀ (j : Nat) (p : Nm × Nat), ps[j]? = some p → B ≤ p.2 ∧ NewBox w p.2 (nx + (j : Int))) ∧ (ps.map Prod.snd).Pairwise (· < ·)
theorem built_snoc {B : Nat} {w w' : World} {nx : Int} {ns : List Nm} {ps : Bxs} {n : Nm} {hb mb : Nat} {L : Bxs} {mx : Int} {wv : Value} (h : Built B w nx ns ps) (hH : HsAt w hb mb L mx wv) (hk : HK hb mb w w') (hB : B ≤ w.heap.size) (hn : NewBox w' w.heap.size (nx + (ns.length : Int))) : Built B w' nx (ns ++ [n]) (ps ++ [(n, w.heap.size)]) := by
  obtain ⟨h1, h2, h3⟩ := h
  have hlen : ps.length = ns.length := by rw [← h1, List.length_map]
  refine ⟨by rw [List.map_append, h1]; rfl, fun j p hj => ?_, ?_⟩
  · by_cases hjl : j < ps.length
    · rw [List.getElem?_append_left hjl] at hj
      obtain ⟨g1, g2⟩ := h2 j p hj
      refine ⟨g1, (hk.block p.2 (Array.getElem?_eq_some_iff.1 g2).1 (fun e => ?_) (fun e => ?_)).trans g2⟩
      · have g2 : w.heap[p.2]? = _ := g2
        rw [e, hH.1] at g2
        injection g2 with g2
        injection g2 with _ e2 _
        exact absurd e2 (by decide)
      · have g2 : w.heap[p.2]? = _ := g2
        obtain ⟨_, _, D, ⟨es, clock, g3, _⟩, _⟩ := hH
        rw [e, g3] at g2
        cases g2
    · have hj2 := (List.getElem?_eq_some_iff.1 hj).1
      rw [List.length_append, List.length_singleton] at hj2
      obtain rfl : j = ps.length := by omega
      rw [List.getElem?_append_right (Nat.le_refl _), Nat.sub_self] at hj
      obtain rfl : (n, w.heap.size) = p := by simpa using hj
      exact ⟨hB, by rw [hlen]; exact hn⟩
  · rw [List.map_append, List.pairwise_append]
    refine ⟨h3, by simp, fun a ha b hb' => ?_⟩
    obtain ⟨p, hp, rfl⟩ := List.mem_map.1 ha
    obtain ⟨j, hj⟩ := List.getElem?_of_mem hp
    have := (Array.getElem?_eq_some_iff.1 (h2 j p hj).2).1
    have e : b = w.heap.size := by simpa using hb'
    omega
set_option maxHeartbeats 4000000 in
set_option maxRecDepth 100000 in
theorem build_is (hb mb base : Nat) (l : Bxs) (nx : Int) (wv v : Value) (ns : List Nm) (w : World) (h : HsAt w hb mb l nx wv) (hv : NRow w base v ns) (hns : ∀ n ∈ ns, n.length ≤ 1000) (hl : l.length ≤ 100) (hnl : ns.length ≤ 1000) (hn : 0 ≤ nx ∧ nx ≤ 900000) :
    Calls Tryz.prog 92 #[.pointer (some ⟨hb, 0, none⟩), v] w fun e w' => (30 < l.length + ns.length ∧ e = .returned (.iface 42 (.int .i64 12)) ∧ w' = w) ∨
      (l.length + ns.length ≤ 30 ∧ e = .returned .nilIface ∧ HK hb mb w w' ∧ ∃ ps, Built w.heap.size w' nx ns ps ∧ HsAt w' hb mb (putAll l ps) (nx + (ns.length : Int)) wv) := by
  have c0 := h.cell.1
  have hlen := mp_len h.2 3
  obtain ⟨va, vc, rfl⟩ := row_form hv
  by_cases hf : 30 < l.length + ns.length
  · have d0 : decide ((30 : Int) < (l.length : Int) + (ns.length : Int)) = true := decide_eq_true (by omega)
    clear h hv
    go_enter Tryz.func92, Tryz.ntmps92
    go_wp2_with fail
    go_ret
    exact Or.inl ⟨hf, rfl, rfl⟩
  · have d0 : decide ((30 : Int) < (l.length : Int) + (ns.length : Int)) = false := decide_eq_false (by omega)
    obtain ⟨M, hM⟩ : ∃ n, ns.length = n := ⟨_, rfl⟩
    obtain ⟨LL, hLL⟩ : ∃ n, l.length = n := ⟨_, rfl⟩
    have HM : Hid (ns.length = M ∧ l.length = LL ∧ LL + M ≤ 30) := ⟨hM, hLL, by omega⟩
    have HV : Hid (NRow w base (.slice va M vc) ns) := by rw [← hM]; exact hv
    have HH : Hid (HsAt w hb mb l nx wv) := h
    have HNS : Hid (∀ n ∈ ns, n.length ≤ 1000) := hns
    rw [hM] at hnl d0 hf ⊢
    rw [hLL] at hl d0 hf hlen ⊢
    clear h hv hns hM hLL
    go_enter Tryz.func92, Tryz.ntmps92
    go_wp2_with fail
    go_loopw [19] (fun iv wr => ∃ k : Nat, iv = .int .i64 (k : Int) ∧ k ≤ M ∧ Hid (HK hb mb w wr ∧ ∃ ps, Built w.heap.size wr nx (ns.take k) ps ∧ HsAt wr hb mb (putAll l ps) (nx + (k : Int)) wv)) (fun iv _ => M - (intOf iv).toNat)
    case atStart => exact ⟨0, rfl, Nat.zero_le _, HK.refl _ _ _, [], ⟨rfl, fun j p hj => by simp at hj, List.Pairwise.nil⟩, by rw [Int.natCast_zero, Int.add_zero]; exact HH.out⟩
    case round =>
      obtain ⟨k, rfl, hk, HI⟩ := hrel
      by_cases hlt : k < M
      · have d1 : decide ((k : Int) < (M : Int)) = true := decide_eq_true (by omega)
        have i1 : (0 : Int) ≤ (k : Int) := by omega
        have i2 : (k : Int) < (M : Int) := by omega
        obtain ⟨n, hnk⟩ : ∃ n, ns[k]? = some n := ⟨_, List.getElem?_eq_getElem (by have := HM.out.1; omega)⟩
        obtain ⟨hk0, ps, hB, hS⟩ := HI.out
        obtain ⟨g, cap, hvg, hcg0⟩ := nrow_at (HV.out.hk HH.out hk0) hnk
        injection hvg with hva hvb hvc
        subst hva
        clear hvb
        have hnl2 := HNS.out n (List.mem_of_getElem? hnk)
        have hps : ps.length = k := by rw [← List.length_map (f := Prod.fst), hB.1, List.length_take]; have := HM.out.1; omega
        have hpl := putAll_len l k ps hps
        have cA := add_is hb mb (putAll l ps) (nx + (k : Int)) wv ⟨n.toArray⟩ wr hS (by show n.toArray.size ≤ _; simp; omega) (by have := HM.out; omega) (by omega)
        have HN : Hid (∀ w', HsAt w' hb mb (putB n wr.heap.size (putAll l ps)) (nx + (k : Int) + 1) wv → NewBox w' wr.heap.size (nx + (k : Int)) → HK hb mb wr w' → HK hb mb w w' ∧ ∃ ps, Built w.heap.size w' nx (ns.take (k + 1)) ps ∧ HsAt w' hb mb (putAll l ps) (nx + ((k + 1 : Nat) : Int)) wv) := fun w' q1 q2 q3 => by
          refine ⟨hk0.trans q3, ps ++ [(n, wr.heap.size)], ?_, ?_⟩
          · rw [List.take_add_one, hnk]
            refine built_snoc hB hS q3 hk0.size ?_
            rw [List.length_take, HM.out.1, Nat.min_eq_left (by omega)]
            exact q2
          · rw [putAll_snoc, show nx + ((k + 1 : Nat) : Int) = nx + (k : Int) + 1 by omega]
            exact q1
        have hcg : wr.cell? ⟨g, k, none⟩ = some (.string ⟨n.toArray⟩) := hcg0
        clear hcg0 hB hS hps hpl hk0 hvc hnk HI
        go_wp2_with fail
        refine cA.mono ?_
        rintro e w' ⟨rfl, q1, q2, q3⟩
        have HF : Hid _ := HN.out w' (by simpa using q1) q2 q3
        clear q1 q2 q3 cA HN
        go_wp2_with fail
        go_roundw
        case rel => exact ⟨k + 1, by go_num, by omega, HF⟩
        case measure => simp [intOf]; omega
      · have d1 : decide ((k : Int) < (M : Int)) = false := decide_eq_false (by omega)
        obtain rfl : k = M := by omega
        have HF : Hid (HK hb mb w wr ∧ ∃ ps, Built w.heap.size wr nx ns ps ∧ HsAt wr hb mb (putAll l ps) (nx + (k : Int)) wv) := by
          have := HI.out
          rw [List.take_of_length_le (by have := HM.out.1; omega)] at this
          exact this
        clear HI
        go_wp2_with fail
        go_ret
        exact Or.inr ⟨by omega, rfl, HF.out⟩
end Go.Proofs.YtfdlopimncodcaaGreatDoor
namespace Go.Proofs
open Go.Shelf
def Tryz.keys66_ren : Go.Shelf.Ren := ⟨fun | 7 => 66 | 10 => 119 | n => n, fun | 23 => 78 | 26 => 9 | 3 => 65 | 28 => 114 | 0 => 0 | 27 => 113 | 33 => 104 | 4 => 4 | n => n, fun | n => n⟩
theorem Tryz.keys66 : Go.Proofs.SlLaysZ.n7 Tryz.prog Tryz.keys66_ren := {
  mixed := by kernel_rfl
  f7 := ⟨Tryz.f66.name, by decide, Tryz.func66.trans (congrArg some (by kernel_rfl))⟩
  f10 := ⟨Tryz.f119.name, by decide, Tryz.func119.trans (congrArg some (by kernel_rfl))⟩
  t0 := Tryz.underlying0
  a0 := Tryz.isAgg0
  z0 := Tryz.sizeOf0
  v0 := Tryz.zeroValue0
  t4 := Tryz.underlying4
  a4 := Tryz.isAgg4
  z4 := Tryz.sizeOf4
  v4 := Tryz.zeroValue4
  t23 := Tryz.underlying78
  a23 := Tryz.isAgg78
  z23 := Tryz.sizeOf78
  v23 := Tryz.zeroValue78
  t26 := Tryz.underlying9
  a26 := Tryz.isAgg9
  z26 := Tryz.sizeOf9
  v26 := Tryz.zeroValue9
  t27 := Tryz.underlying113
  a27 := Tryz.isAgg113
  z27 := Tryz.sizeOf113
  v27 := Tryz.zeroValue113
  t28 := Tryz.underlying114
  a28 := Tryz.isAgg114
  z28 := Tryz.sizeOf114
  v28 := Tryz.zeroValue114
  t33 := Tryz.underlying104
  a33 := Tryz.isAgg104
  z33 := Tryz.sizeOf104
  v33 := Tryz.zeroValue104 }
def Tryz.sorted65_ren : Go.Shelf.Ren := ⟨fun | 6 => 65 | 8 => 117 | 9 => 118 | 11 => 155 | 13 => 157 | 12 => 156 | 23 => 191 | 24 => 192 | 14 => 183 | 15 => 184 | 16 => 185 | 17 => 186 | 18 => 187 | 19 => 188 | 20 => 132 | 21 => 189 | 22 => 190 | 25 => 207 | 26 => 208 | 27 => 209 | 28 => 210 | 29 => 211 | 30 => 163 | 31 => 225 | n => n, fun | 26 => 9 | 28 => 114 | 24 => 32 | 0 => 0 | 3 => 3 | 37 => 27 | 48 => 217 | 50 => 223 | 4 => 4 | 40 => 228 | 39 => 227 | 45 => 132 | 5 => 5 | 9 => 9 | 51 => 243 | 55 => 247 | 57 => 257 | 58 => 258 | 33 => 104 | n => n, fun | n => n⟩
theorem Tryz.sorted65 : Go.Proofs.SlLaysZ.n6 Tryz.prog Tryz.sorted65_ren := {
  mixed := by kernel_rfl
  f6 := ⟨Tryz.f65.name, by decide, Tryz.func65.trans (congrArg some (by kernel_rfl))⟩
  f8 := ⟨Tryz.f117.name, by decide, Tryz.func117.trans (congrArg some (by kernel_rfl))⟩
  f11 := ⟨Tryz.f155.name, by decide, Tryz.func155.trans (congrArg some (by kernel_rfl))⟩
  t0 := Tryz.underlying0
  a0 := Tryz.isAgg0
  z0 := Tryz.sizeOf0
  v0 := Tryz.zeroValue0
  t24 := Tryz.underlying32
  a24 := Tryz.isAgg32
  z24 := Tryz.sizeOf32
  v24 := Tryz.zeroValue32
  t26 := Tryz.underlying9
  a26 := Tryz.isAgg9
  z26 := Tryz.sizeOf9
  v26 := Tryz.zeroValue9
  t28 := Tryz.underlying114
  a28 := Tryz.isAgg114
  z28 := Tryz.sizeOf114
  v28 := Tryz.zeroValue114
  i26 := by kernel_rfl }
def Tryz.sort118_ren : Go.Shelf.Ren := ⟨fun | 6 => 118 | 8 => 157 | 9 => 156 | 19 => 191 | 20 => 192 | 21 => 183 | 22 => 184 | 23 => 185 | 24 => 186 | 25 => 187 | 26 => 188 | 27 => 132 | 28 => 189 | 29 => 190 | 36 => 207 | 31 => 208 | 32 => 209 | 37 => 210 | 38 => 211 | 39 => 163 | 41 => 225 | n => n, fun | 27 => 32 | 29 => 9 | 3 => 3 | 32 => 27 | 26 => 32 | 0 => 0 | 44 => 217 | 46 => 223 | 4 => 4 | 36 => 228 | 35 => 227 | 41 => 132 | 5 => 5 | 9 => 9 | 53 => 243 | 57 => 247 | 63 => 257 | 64 => 258 | n => n, fun | n => n⟩
theorem Tryz.sort118 : Go.Proofs.SlLaysM.n6 Tryz.prog Tryz.sort118_ren := {
  mixed := by kernel_rfl
  f6 := ⟨Tryz.f118.name, by decide, Tryz.func118.trans (congrArg some (by kernel_rfl))⟩
  f8 := Tryz.func157.trans (congrArg some (by kernel_rfl))
  f9 := ⟨Tryz.f156.name, by decide, Tryz.func156.trans (congrArg some (by kernel_rfl))⟩
  f19 := Tryz.func191.trans (congrArg some (by kernel_rfl))
  f20 := Tryz.func192.trans (congrArg some (by kernel_rfl))
  f21 := ⟨Tryz.f183.name, by decide, Tryz.func183.trans (congrArg some (by kernel_rfl))⟩
  f22 := ⟨Tryz.f184.name, by decide, Tryz.func184.trans (congrArg some (by kernel_rfl))⟩
  f23 := ⟨Tryz.f185.name, by decide, Tryz.func185.trans (congrArg some (by kernel_rfl))⟩
  f24 := ⟨Tryz.f186.name, by decide, Tryz.func186.trans (congrArg some (by kernel_rfl))⟩
  f25 := ⟨Tryz.f187.name, by decide, Tryz.func187.trans (congrArg some (by kernel_rfl))⟩
  f26 := ⟨Tryz.f188.name, by decide, Tryz.func188.trans (congrArg some (by kernel_rfl))⟩
  f27 := ⟨Tryz.f132.name, by decide, Tryz.func132.trans (congrArg some (by kernel_rfl))⟩
  f28 := ⟨Tryz.f189.name, by decide, Tryz.func189.trans (congrArg some (by kernel_rfl))⟩
  f29 := ⟨Tryz.f190.name, by decide, Tryz.func190.trans (congrArg some (by kernel_rfl))⟩
  f31 := Tryz.func208.trans (congrArg some (by kernel_rfl))
  f32 := Tryz.func209.trans (congrArg some (by kernel_rfl))
  f36 := ⟨Tryz.f207.name, by decide, Tryz.func207.trans (congrArg some (by kernel_rfl))⟩
  f37 := ⟨Tryz.f210.name, by decide, Tryz.func210.trans (congrArg some (by kernel_rfl))⟩
  f38 := ⟨Tryz.f211.name, by decide, Tryz.func211.trans (congrArg some (by kernel_rfl))⟩
  f39 := ⟨Tryz.f163.name, by decide, Tryz.func163.trans (congrArg some (by kernel_rfl))⟩
  f41 := ⟨Tryz.f225.name, by decide, Tryz.func225.trans (congrArg some (by kernel_rfl))⟩
  t0 := Tryz.underlying0
  a0 := Tryz.isAgg0
  z0 := Tryz.sizeOf0
  v0 := Tryz.zeroValue0
  t3 := Tryz.underlying3
  a3 := Tryz.isAgg3
  z3 := Tryz.sizeOf3
  v3 := Tryz.zeroValue3
  t4 := Tryz.underlying4
  a4 := Tryz.isAgg4
  z4 := Tryz.sizeOf4
  v4 := Tryz.zeroValue4
  t5 := Tryz.underlying5
  a5 := Tryz.isAgg5
  z5 := Tryz.sizeOf5
  v5 := Tryz.zeroValue5
  t9 := Tryz.underlying9
  a9 := Tryz.isAgg9
  z9 := Tryz.sizeOf9
  v9 := Tryz.zeroValue9
  t26 := Tryz.underlying32
  a26 := Tryz.isAgg32
  z26 := Tryz.sizeOf32
  v26 := Tryz.zeroValue32
  t27 := Tryz.underlying32
  a27 := Tryz.isAgg32
  z27 := Tryz.sizeOf32
  v27 := Tryz.zeroValue32
  t29 := Tryz.underlying9
  a29 := Tryz.isAgg9
  z29 := Tryz.sizeOf9
  v29 := Tryz.zeroValue9
  t32 := Tryz.underlying27
  a32 := Tryz.isAgg27
  z32 := Tryz.sizeOf27
  v32 := Tryz.zeroValue27
  t35 := Tryz.underlying227
  a35 := Tryz.isAgg227
  z35 := Tryz.sizeOf227
  v35 := Tryz.zeroValue227
  t36 := Tryz.underlying228
  a36 := Tryz.isAgg228
  z36 := Tryz.sizeOf228
  v36 := Tryz.zeroValue228
  t41 := Tryz.underlying132
  a41 := Tryz.isAgg132
  z41 := Tryz.sizeOf132
  v41 := Tryz.zeroValue132
  t44 := Tryz.underlying217
  a44 := Tryz.isAgg217
  z44 := Tryz.sizeOf217
  v44 := Tryz.zeroValue217
  t46 := Tryz.underlying223
  a46 := Tryz.isAgg223
  z46 := Tryz.sizeOf223
  v46 := Tryz.zeroValue223
  t53 := Tryz.underlying243
  a53 := Tryz.isAgg243
  z53 := Tryz.sizeOf243
  v53 := Tryz.zeroValue243
  t57 := Tryz.underlying247
  a57 := Tryz.isAgg247
  z57 := Tryz.sizeOf247
  v57 := Tryz.zeroValue247
  t63 := Tryz.underlying257
  a63 := Tryz.isAgg257
  z63 := Tryz.sizeOf257
  v63 := Tryz.zeroValue257
  t64 := Tryz.underlying258
  a64 := Tryz.isAgg258
  z64 := Tryz.sizeOf258
  v64 := Tryz.zeroValue258 }
open Go.RowKit Go.Maps Go.Sort
theorem Tryz.sorts65 (m : Nat) : AnyZ.SortsIn Tryz.prog Tryz.sorted65_ren Fence.wide m :=
  ⟨fun blk off cap ss W hH hblk hsz => callsIn_wide.2 (AnyM.slices_Sort_string Tryz.sort118 blk off cap ss W hH hblk hsz),
   fun p cap W => callsIn_wide.2 (AnyM.slices_Sort_string_none Tryz.sort118 p cap W)⟩
theorem Tryz.maps_Keys_66 (mb : Option Nat) (W : World) : CallsIn Fence.wide 5 Tryz.prog 66 #[.map mb] W fun e w' => e = .returned (.func (.func 119) #[] #[.pointer (some ⟨W.heap.size, 0, none⟩)]) ∧ w' = W.alloc (.cells #[.map mb] 78) :=
  AnyZ.keys_in Tryz.keys66 Fence.wide 5 trivial rfl mb W
set_option maxHeartbeats 1000000 in
theorem Tryz.slices_Sorted_keys_65_66 {H : Type} (b nn : Nat) (D0 : DataW H) (R : Value → Option (DataW H × List MemPlace)) (w : World) (hown : w.ownsMap Tryz.prog 9 R b nn D0) (hmax : Maps.size D0 ≤ maxLen) (hbytes : Maps.size D0 * 16 ≤ 140737488355328) :
    CallsIn Fence.wide 5 Tryz.prog 65 #[.func (.func 119) #[] #[.pointer (some ⟨w.heap.size, 0, none⟩)]] (w.alloc (.cells #[.map (some b)] 78)) fun e w' => ∃ (v : Value) (ss : List (List UInt8)), e = .returned v ∧ ss.Perm (strKeys D0) ∧
      w'.ownsRow (w.alloc (.cells #[.map (some b)] 78)).heap.size 9 1 v ss.length ((ss.mergeSort (fun x y => decide (x ≤ y))).map encStr) ∧ (v = .slice none 0 0 ↔ ss = []) ∧ Below (w.alloc (.cells #[.map (some b)] 78)).heap.size (w.alloc (.cells #[.map (some b)] 78)) w' := by
  have hbl := hown.lt
  have hseq : SeqGives Fence.wide 2 Tryz.prog 119 #[.pointer (some ⟨w.heap.size, 0, none⟩)] encStr (fun ss => ss.Perm (strKeys D0)) (Maps.size D0) (w.alloc (.cells #[.map (some b)] 78)) :=
    AnyZ.keys_gives (ρ := Tryz.keys66_ren) { Tryz.keys66 with } Fence.wide _ trivial rfl (by omega) w.heap.size b nn D0 _ (by simp) (by simp) (by
      obtain ⟨es, clock, hb, Ft, hs, hD⟩ := hown
      exact ⟨es, clock, (Below.heap_alloc _ _ b hbl).trans hb, Ft, hs, hD⟩)
  exact AnyZ.sorted_in Tryz.sorted65 Fence.wide 5 trivial trivial trivial trivial rfl (by omega) (Tryz.sorts65 _) (enters_of Tryz.func118 (by kernel_rfl) rfl) 119 #[.pointer (some ⟨w.heap.size, 0, none⟩)] trivial (enters_of Tryz.func119 (by kernel_rfl) rfl) _ _ hmax hbytes _ hseq
end Go.Proofs
namespace Go.Proofs.YtfdlopimncodcaaGreatDoor
open Go.RowKit Go.Proofs.Aid
def namesB (l : Bxs) : List Nm := l.map Prod.fst
theorem names_sorted {l : Bxs} (h : SortedB l) : (namesB l).mergeSort leB = namesB l := by
  refine List.mergeSort_of_pairwise ?_
  unfold namesB
  rw [List.pairwise_map]
  refine h.imp fun {a b} hab => ?_
  simp only [leB, decide_eq_true_eq]
  exact List.not_lt.1 fun hba => List.lt_irrefl _ (List.lt_trans hab hba)
set_option maxHeartbeats 4000000 in
set_option maxRecDepth 100000 in
theorem names_is (hb mb : Nat) (l : Bxs) (nx : Int) (wv : Value) (w : World) (h : HsAt w hb mb l nx wv) (hl : l.length ≤ 1000) :
    Calls Tryz.prog 18 #[.pointer (some ⟨hb, 0, none⟩)] w fun e w' => (∃ v, e = .returned v ∧ NRow w' w.heap.size v (namesB l)) ∧ Below w.heap.size w w' := by
  obtain ⟨hso, D, hown, hD⟩ := id h.2
  have hz := mp_size hso hown hD
  have hpm := mp_keys hso hown hD
  have c0 := h.cell.1
  have HFIN : Hid (∀ (w1 w' : World) (v : Value) (ss : List (List UInt8)), w1 = w.alloc (.cells #[.map (some mb)] 78) → ss.Perm (strKeys D) → w'.ownsRow w1.heap.size 9 1 v ss.length ((ss.mergeSort (fun x y => decide (x ≤ y))).map encStr) → Below w1.heap.size w1 w' → NRow w' w.heap.size v (namesB l) ∧ Below w.heap.size w w') := fun w1 w' v ss e hS hrow hb' => by
    subst e
    have e1 : (ss.mergeSort fun x y => decide (x ≤ y)) = namesB l := by
      have := mergeSort_of_perm (hS.trans hpm.symm)
      rw [show (l.map Prod.fst) = namesB l from rfl, names_sorted hso] at this
      exact this
    have e2 : ss.length = (namesB l).length := by
      rw [(hS.trans hpm.symm).length_eq]
      rfl
    rw [e1, e2] at hrow
    exact ⟨ownsRow_base_a hrow (by simp), ((Below.refl _ w).alloc (Nat.le_refl _) _).trans (hb'.mono (by simp))⟩
  have hmax : Maps.size D ≤ maxLen := by rw [hz]; unfold maxLen; omega
  have hbytes : Maps.size D * 16 ≤ 140737488355328 := by rw [hz]; omega
  have cS := Tryz.slices_Sorted_keys_65_66 mb l.length D ptrElem w hown hmax hbytes
  have cK := Tryz.maps_Keys_66 (some mb) w
  have hfK : Fence.wide.fn 66 := trivial
  have hfS : Fence.wide.fn 65 := trivial
  clear h hown hD hz hpm hso hmax hbytes
  refine (callsIn_wide (n := 6)).1 ?_
  refine callsIn_of_wp Tryz.func18 rfl trivial ?_ rfl
  simp only [Tryz.ntmps18, List.size_toArray, List.length_cons, List.length_nil, Nat.reduceAdd, Nat.reduceSub, Array.replicate_succ, Array.replicate_zero, List.push_toArray, List.append_toArray, List.nil_append, List.cons_append]
  gi_wp2_with (first
    | (gi_at_call 66; refine cK.mono ?_; rintro e w1 ⟨rfl, rfl⟩)
    | (gi_at_call 65; refine cS.mono ?_; rintro e w' ⟨v, ss, rfl, hS, hrow, hnil, hb'⟩))
  go_ret
  obtain ⟨q1, q2⟩ := HFIN.out _ _ _ _ rfl hS hrow hb'
  exact ⟨⟨v, rfl, q1⟩, q2⟩
end Go.Proofs.YtfdlopimncodcaaGreatDoor
