/-
  A new house, and more.
-/
import Derived.Test.YtdmplfflmdanlaaGreatDoorBpHsMap
import Derived.Shelf.Abstract
import Derived.Lib.ConvBytes
import Derived.Laws.MakeOwn
import Derived.OwnWalk
namespace Go.Proofs.YtdmplfflmdanlaaGreatDoor
open Go.RowKit Go.Proofs.Aid

def inboxN : Nm := [73, 78, 66, 79, 88]
set_option maxHeartbeats 2000000 in
set_option maxRecDepth 100000 in
theorem new_is (w : World) : Calls Tryz.prog 19 #[] w fun e w' => e = .returned (.pointer (some ⟨w.heap.size + 1, 0, none⟩)) ∧ HsAt w' (w.heap.size + 1) w.heap.size [(inboxN, w.heap.size + 2)] 2 (.slice none 0 0) ∧ NewBox w' (w.heap.size + 2) 1 ∧ Below w.heap.size w w' := by
  obtain ⟨W1, hW1⟩ : ∃ W, w.alloc (.map #[] 0) = W := ⟨_, rfl⟩
  have hmk := mp_make w
  have m1 := mp_new w
  have b1 : Below w.heap.size w (w.alloc (.map #[] 0)) := (Below.refl _ _).alloc (Nat.le_refl _) _
  have z1 : (w.alloc (.map #[] 0)).heap.size = w.heap.size + 1 := World.size_alloc _ _
  rw [hW1] at hmk m1 b1 z1
  have e2 := heap_alloc_new W1 (.cells #[.map (some w.heap.size), .slice none 0 0, .int .i64 1] 130)
  have b2 : Below W1.heap.size W1 (W1.alloc (.cells #[.map (some w.heap.size), .slice none 0 0, .int .i64 1] 130)) := (Below.refl _ _).alloc (Nat.le_refl _) _
  have z2 : (W1.alloc (.cells #[.map (some w.heap.size), .slice none 0 0, .int .i64 1] 130)).heap.size = W1.heap.size + 1 := World.size_alloc _ _
  obtain ⟨W2, hW2⟩ : ∃ W, W1.alloc (.cells #[.map (some w.heap.size), .slice none 0 0, .int .i64 1] 130) = W := ⟨_, rfl⟩
  rw [hW2] at e2 b2 z2
  rw [z1] at e2
  have h2 : HsAt W2 (w.heap.size + 1) w.heap.size [] 1 (.slice none 0 0) := ⟨e2, m1.same (b2.block _ (by omega))⟩
  have cA := add_is (w.heap.size + 1) w.heap.size [] 1 (.slice none 0 0) ⟨#[73, 78, 66, 79, 88]⟩ W2 h2 (by decide) (by decide) (by decide)
  have hz2 : W2.heap.size = w.heap.size + 2 := by omega
  rw [hz2] at cA
  have HB : Hid (Below w.heap.size w W2 ∧ W2.heap.size = w.heap.size + 2) := ⟨b1.trans (b2.mono (by omega)), hz2⟩
  clear h2 e2 b2 z2 b1 m1 hz2
  go_enter Tryz.func19, Tryz.ntmps19
  go_wp2_with fail
  refine cA.mono ?_
  rintro e w' ⟨rfl, h3, h4, hk⟩
  have HF : Hid (HsAt w' (w.heap.size + 1) w.heap.size [(inboxN, w.heap.size + 2)] 2 (.slice none 0 0) ∧ NewBox w' (w.heap.size + 2) 1 ∧ Below w.heap.size w w') := ⟨h3, h4, HB.out.1.trans (hk.below (by have := HB.out.2; omega) (by omega) (by omega))⟩
  clear h3 h4 hk cA
  go_wp2_with fail
  go_ret
  exact ⟨rfl, HF.out⟩
end Go.Proofs.YtdmplfflmdanlaaGreatDoor
namespace Go.Proofs
end Go.Proofs
namespace Go.Proofs.YtdmplfflmdanlaaGreatDoor
open Go.RowKit Go.Proofs.Aid

theorem byte_at {s : ByteArray} {k : Nat} (hk : k < s.size) : s.data.toList.getD k 0 = s[k] := by
  have hk' : k < s.data.toList.length := by rw [Array.length_toList]; exact hk
  rw [List.getD_eq_getElem?_getD, List.getElem?_eq_getElem hk']
  rfl
theorem byte_eq (a b : UInt8) : ((a.toNat : Int) == (b.toNat : Int)) = decide (a = b) := by
  by_cases h : a = b
  · subst h; simp
  · rw [decide_eq_false h, beq_eq_false_iff_ne]
    intro e
    exact h (UInt8.toNat_inj.1 (by omega))
end Go.Proofs.YtdmplfflmdanlaaGreatDoor
namespace Go.Proofs
theorem Tryz.infoNm : (Tryz.prog.info? 9).map (fun i => (i.zero, i.size, i.bytes)) = some (some (.string ⟨#[]⟩), 1, 16) := by kernel_rfl
end Go.Proofs
namespace Go.Proofs.YtdmplfflmdanlaaGreatDoor
open Go.RowKit Go.Proofs.Aid

/-- A row of names that the call owns. -/
def NRow (w : World) (base : Nat) (v : Value) (l : List Nm) : Prop := w.ownsRow base 9 1 v l.length (l.map encStr)
theorem NRow.below {w w' : World} {base B : Nat} {v : Value} {l : List Nm} (h : NRow w base v l) (hb : Below B w w') (hB : w.heap.size ≤ B) : NRow w' base v l := row_below hb hB h
def lackTo (l : Bxs) (n : Nm) (k : Nat) : List Nm := ((List.range k).filter fun i => decide (n.getD i 0 = 47) && !hasB l (n.take i)).map fun i => n.take i
def lackB (l : Bxs) (n : Nm) : List Nm := lackTo l n n.length
theorem lackTo_yes {l : Bxs} {n : Nm} {k : Nat} (h1 : n.getD k 0 = 47) (h2 : hasB l (n.take k) = false) : lackTo l n (k + 1) = lackTo l n k ++ [n.take k] := by
  unfold lackTo
  have h : (decide (n.getD k 0 = 47) && !hasB l (n.take k)) = true := by rw [decide_eq_true h1, h2]; rfl
  rw [List.range_succ, List.filter_append, List.map_append, List.filter_cons, if_pos h]
  rfl
theorem lackTo_no {l : Bxs} {n : Nm} {k : Nat} (h : n.getD k 0 ≠ 47 ∨ hasB l (n.take k) = true) : lackTo l n (k + 1) = lackTo l n k := by
  unfold lackTo
  have h : ¬ (decide (n.getD k 0 = 47) && !hasB l (n.take k)) = true := by
    rcases h with h | h
    · rw [decide_eq_false h]; simp
    · rw [h]; simp
  rw [List.range_succ, List.filter_append, List.map_append, List.filter_cons, if_neg h]
  simp
theorem lackTo_len (l : Bxs) (n : Nm) (k : Nat) : (lackTo l n k).length ≤ k := by
  unfold lackTo
  rw [List.length_map]
  exact Nat.le_trans (List.length_filter_le _ _) (by simp)
theorem take_ext (s : ByteArray) (k : Nat) : (s.extract 0 k).data.toList = s.data.toList.take k := by
  rw [ByteArray.data_extract, Array.toList_extract]
  simp [List.extract]
theorem enc_ba (s : ByteArray) : encStr s.data.toList = .string s := by simp [encStr]
set_option maxHeartbeats 4000000 in
set_option maxRecDepth 100000 in
theorem lacking_is (hb mb : Nat) (l : Bxs) (nx : Int) (wv : Value) (s : ByteArray) (w : World) (h : HsAt w hb mb l nx wv) (hs : s.size ≤ 1000) :
    Calls Tryz.prog 126 #[.pointer (some ⟨hb, 0, none⟩), .string s] w fun e w' => (∃ v, e = .returned v ∧ NRow w' w.heap.size v (lackB l s.data.toList)) ∧ Below w.heap.size w w' := by
  have hsl : s.data.toList.length = s.size := by rw [Array.length_toList]; rfl
  have HSL : Hid (s.data.toList.length = s.size) := hsl
  clear hsl
  have HH : Hid (HsAt w hb mb l nx wv) := h
  clear h
  go_enter Tryz.func126, Tryz.ntmps126
  go_wp2_with fail
  go_loopw [5, 9] (fun ov iv wr => ∃ k : Nat, iv = .int .i64 (k : Int) ∧ k ≤ s.size ∧ wr.ownsRow w.heap.size 9 1 ov (lackTo l s.data.toList k).length ((lackTo l s.data.toList k).map encStr) ∧ Below w.heap.size w wr) (fun _ iv _ => s.size - (intOf iv).toNat)
  case atStart => exact ⟨0, rfl, Nat.zero_le _, World.ownsRow_nil _ _ _ _, Below.refl _ _⟩
  case round =>
    obtain ⟨k, rfl, hk, hrow, hbw⟩ := hrel
    have hlen := lackTo_len l s.data.toList k
    obtain ⟨LL, hLL⟩ : ∃ n, (lackTo l s.data.toList k).length = n := ⟨_, rfl⟩
    obtain ⟨XS, hXS⟩ : ∃ x, (lackTo l s.data.toList k).map encStr = x := ⟨_, rfl⟩
    rw [hLL] at hlen
    rw [hLL, hXS] at hrow
    have HLX : Hid ((lackTo l s.data.toList k).length = LL ∧ (lackTo l s.data.toList k).map encStr = XS) := ⟨hLL, hXS⟩
    clear hLL hXS
    obtain ⟨oa, oc, rfl⟩ := row_form hrow
    by_cases hlt : k < s.size
    · have d0 : decide ((k : Int) < (s.size : Int)) = true := decide_eq_true (by omega)
      have i1 : (0 : Int) ≤ (k : Int) := by omega
      have i2 : (k : Int) < (s.size : Int) := by omega
      have i3 : (k : Int) ≤ (s.size : Int) := by omega
      by_cases hc : s.data.toList.getD k 0 = 47
      · have hcmp : (((s[k]'hlt).toNat : Int) == 47) = true := by
          rw [byte_at hlt] at hc
          rw [hc]; rfl
        have cH := has_is hb mb l nx wv (s.extract 0 k) wr (HH.out.below hbw (Nat.le_refl _)) (by rw [ByteArray.size_extract]; omega)
        rw [take_ext] at cH
        cases hB : hasB l (s.data.toList.take k) with
        | true =>
          have HL : Hid (lackTo l s.data.toList (k + 1) = lackTo l s.data.toList k) := lackTo_no (Or.inr hB)
          rw [hB] at cH
          have HR : Hid (wr.ownsRow w.heap.size 9 1 (.slice oa LL oc) LL XS ∧ Below w.heap.size w wr) := ⟨hrow, hbw⟩
          clear hrow hbw hB hc hlen
          go_wp2_with fail
          refine cH.mono ?_
          rintro e w1 ⟨rfl, hw⟩
          obtain rfl : wr = w1 := hw.symm
          clear hw cH
          go_wp2_with fail
          go_roundw
          case rel => exact ⟨k + 1, by go_num, by omega, by rw [HL.out, HLX.out.1, HLX.out.2]; exact HR.out.1, HR.out.2⟩
          case measure => simp [intOf]; omega
        | false =>
          have HL : Hid (lackTo l s.data.toList (k + 1) = lackTo l s.data.toList k ++ [s.data.toList.take k]) := lackTo_yes hc hB
          rw [hB] at cH
          have HBW : Hid (Below w.heap.size w wr) := hbw
          have hbs := hbw.size
          clear hbw hB hc
          go_wp2_with fail
          refine cH.mono ?_
          rintro e w1 ⟨rfl, hw⟩
          obtain rfl : wr = w1 := hw.symm
          clear hw cH
          go_wp2_with (at_builtin; go_must (refine wpList_push rfl (.tmp 24) (.tmp 28) 22 rfl _ w.heap.size 9 (.string ⟨#[]⟩) 16 Tryz.underlying22 Tryz.infoNm rfl _ _ _ (by rfl) hrow [.string (s.extract 0 k)] _ (by rfl) (by simp) (by simp [Value.oneCell']) (by simp) (by rfl) (by decide) (by simp; omega) hbs ?_); intro g3 cap3 w3 hown3 hg3 hlt3)
          have hb3 : Below w.heap.size w w3 := HBW.out.grown hg3 hbs (fun j e => (hrow.lt j e).1)
          have HF : Hid (w3.ownsRow w.heap.size 9 1 (.slice (some ⟨g3, 0, none⟩) (LL + 1) cap3) (lackTo l s.data.toList (k + 1)).length ((lackTo l s.data.toList (k + 1)).map encStr) ∧ Below w.heap.size w w3) := by
            refine ⟨?_, hb3⟩
            rw [HL.out, List.length_append, List.map_append, HLX.out.1, HLX.out.2, ← take_ext, List.map_cons, enc_ba]
            exact hown3
          clear hown3 hg3 hb3 hrow
          go_roundw
          case rel => exact ⟨k + 1, by go_num, by omega, HF.out.1, HF.out.2⟩
          case measure => simp [intOf]; omega
      · have hcmp : (((s[k]'hlt).toNat : Int) == 47) = false := by
          rw [byte_at hlt] at hc
          have := byte_eq (s[k]'hlt) 47
          rw [decide_eq_false hc] at this
          exact this
        have HL : Hid (lackTo l s.data.toList (k + 1) = lackTo l s.data.toList k) := lackTo_no (Or.inl hc)
        have HR : Hid (wr.ownsRow w.heap.size 9 1 (.slice oa LL oc) LL XS ∧ Below w.heap.size w wr) := ⟨hrow, hbw⟩
        clear hrow hbw hc hlen
        go_wp2_with fail
        go_roundw
        case rel => exact ⟨k + 1, by go_num, by omega, by rw [HL.out, HLX.out.1, HLX.out.2]; exact HR.out.1, HR.out.2⟩
        case measure => simp [intOf]; omega
    · have d0 : decide ((k : Int) < (s.size : Int)) = false := decide_eq_false (by omega)
      have HR : Hid (NRow wr w.heap.size (.slice oa LL oc) (lackB l s.data.toList) ∧ Below w.heap.size w wr) := by
        obtain rfl : k = s.size := by omega
        refine ⟨?_, hbw⟩
        unfold NRow lackB
        rw [HSL.out, HLX.out.1, HLX.out.2]
        exact hrow
      clear hrow hbw hlen
      go_wp2_with fail
      go_ret
      exact ⟨⟨_, rfl, HR.out.1⟩, HR.out.2⟩
end Go.Proofs.YtdmplfflmdanlaaGreatDoor
namespace Go.Proofs.YtdmplfflmdanlaaGreatDoor
open Go.RowKit Go.Proofs.Aid

theorem nrow_at {w : World} {base : Nat} {v : Value} {l : List Nm} (h : NRow w base v l) {j : Nat} {x : Nm} (hj : l[j]? = some x) : ∃ g cap, v = .slice (some ⟨g, 0, none⟩) l.length cap ∧ w.cell? ⟨g, j, none⟩ = some (encStr x) := by
  have hjl := (List.getElem?_eq_some_iff.1 hj).1
  rcases h.2 with ⟨_, h2⟩ | ⟨g, cap, cur, hv, _, hh, _, _, hsz, htk⟩
  · omega
  · refine ⟨g, cap, hv, rd_cell hh ?_⟩
    have h1 : (l.map encStr)[j]? = some (encStr x) := by rw [List.getElem?_map, hj]; rfl
    rw [← htk, List.getElem?_take] at h1
    split at h1
    · rw [Array.getElem?_toList] at h1; exact h1
    · cases h1
theorem NRow.hk {w w' : World} {base hb mb : Nat} {v : Value} {l : List Nm} {L : Bxs} {nx : Int} {wv : Value} (h : NRow w base v l) (hH : HsAt w hb mb L nx wv) (hk : HK hb mb w w') : NRow w' base v l := by
  refine own_same h fun g hg => ?_
  obtain ⟨c, fz, hc⟩ := row_kind h g hg
  refine hk.block g (Array.getElem?_eq_some_iff.1 hc).1 (fun e => ?_) (fun e => ?_)
  · rw [e, hH.1] at hc
    injection hc with hc
    injection hc with _ e2 _
    exact absurd e2 (by decide)
  · obtain ⟨_, _, D, ⟨es, clock, h2, _⟩, _⟩ := hH
    rw [e, h2] at hc
    cases hc
def putAll (l : Bxs) (ps : Bxs) : Bxs := ps.foldl (fun a p => putB p.1 p.2 a) l
theorem putAll_snoc (l ps : Bxs) (p : Nm × Nat) : putAll l (ps ++ [p]) = putB p.1 p.2 (putAll l ps) := by simp [putAll]
theorem putB_len (n : Nm) (b : Nat) : ∀ l : Bxs, (putB n b l).length ≤ l.length + 1
  | [] => Nat.le_refl _
  | p :: l => by
    unfold putB
    split
    · simp
    · split
      · simp
      · have := putB_len n b l
        simp
        omega
theorem putAll_len (l : Bxs) : ∀ (k : Nat) (ps : Bxs), ps.length = k → (putAll l ps).length ≤ l.length + k
  | 0, ps, h => by rw [List.eq_nil_of_length_eq_zero h]; exact Nat.le_refl _
  | k + 1, ps, h => by
    have hne : ps ≠ [] := fun e => by rw [e] at h; cases h
    have e := List.dropLast_concat_getLast hne
    have hl : ps.dropLast.length = k := by rw [List.length_dropLast]; omega
    rw [← e, putAll_snoc]
    have h1 := putB_len (ps.getLast hne).1 (ps.getLast hne).2 (putAll l ps.dropLast)
    have h2 := putAll_len l k ps.dropLast hl
    omega
/-- New boxes: their names, their numbers one behind the other, in new blocks. -/
def Built (B : Nat) (w : World) (nx : Int) (ns : List Nm) (ps : Bxs) : Prop := ps.map Prod.fst = ns ∧ (∀ (j : Nat) (p : Nm × Nat), ps[j]? = some p → B ≤ p.2 ∧ NewBox w p.2 (nx + (j : Int))) ∧ (ps.map Prod.snd).Pairwise (· < ·)
theorem built_snoc {B : Nat} {w w' : World} {nx : Int} {ns : List Nm} {ps : Bxs} {n : Nm} {hb mb : Nat} {L : Bxs} {mx : Int} {wv : Value} (h : Built B w nx ns ps) (hH : HsAt w hb mb L mx wv) (hk : HK hb mb w w') (hB : B ≤ w.heap.size) (hn : NewBox w' w.heap.size (nx + (ns.length : Int))) : Built B w' nx (ns ++ [n]) (ps ++ [(n, w.heap.size)]) := by
  obtain ⟨h1, h2, h3⟩ := h
  have hlen : ps.length = ns.length := by rw [← h1, List.length_map]
  refine ⟨by rw [List.map_append, h1]; rfl, fun j p hj => ?_, ?_⟩
  · by_cases hjl : j < ps.length
    · rw [List.getElem?_append_left hjl] at hj
      obtain ⟨g1, g2⟩ := h2 j p hj
      refine ⟨g1, (hk.block p.2 (Array.getElem?_eq_some_iff.1 g2).1 (fun e => ?_) (fun e => ?_)).trans g2⟩
      · have g2 : w.heap[p.2]? = _ := g2
        rw [e, hH.1] at g2
        injection g2 with g2
        injection g2 with _ e2 _
        exact absurd e2 (by decide)
      · have g2 : w.heap[p.2]? = _ := g2
        obtain ⟨_, _, D, ⟨es, clock, g3, _⟩, _⟩ := hH
        rw [e, g3] at g2
        cases g2
    · have hj2 := (List.getElem?_eq_some_iff.1 hj).1
      rw [List.length_append, List.length_singleton] at hj2
      obtain rfl : j = ps.length := by omega
      rw [List.getElem?_append_right (Nat.le_refl _), Nat.sub_self] at hj
      obtain rfl : (n, w.heap.size) = p := by simpa using hj
      exact ⟨hB, by rw [hlen]; exact hn⟩
  · rw [List.map_append, List.pairwise_append]
    refine ⟨h3, by simp, fun a ha b hb' => ?_⟩
    obtain ⟨p, hp, rfl⟩ := List.mem_map.1 ha
    obtain ⟨j, hj⟩ := List.getElem?_of_mem hp
    have := (Array.getElem?_eq_some_iff.1 (h2 j p hj).2).1
    have e : b = w.heap.size := by simpa using hb'
    omega
set_option maxHeartbeats 4000000 in
set_option maxRecDepth 100000 in
theorem build_is (hb mb base : Nat) (l : Bxs) (nx : Int) (wv v : Value) (ns : List Nm) (w : World) (h : HsAt w hb mb l nx wv) (hv : NRow w base v ns) (hns : ∀ n ∈ ns, n.length ≤ 1000) (hl : l.length ≤ 100) (hnl : ns.length ≤ 1000) (hn : 0 ≤ nx ∧ nx ≤ 900000) :
    Calls Tryz.prog 125 #[.pointer (some ⟨hb, 0, none⟩), v] w fun e w' => (30 < l.length + ns.length ∧ e = .returned (.iface 34 (.int .i64 12)) ∧ w' = w) ∨
      (l.length + ns.length ≤ 30 ∧ e = .returned .nilIface ∧ HK hb mb w w' ∧ ∃ ps, Built w.heap.size w' nx ns ps ∧ HsAt w' hb mb (putAll l ps) (nx + (ns.length : Int)) wv) := by
  have c0 := h.cell.1
  have hlen := mp_len h.2 3
  obtain ⟨va, vc, rfl⟩ := row_form hv
  by_cases hf : 30 < l.length + ns.length
  · have d0 : decide ((30 : Int) < (l.length : Int) + (ns.length : Int)) = true := decide_eq_true (by omega)
    clear h hv
    go_enter Tryz.func125, Tryz.ntmps125
    go_wp2_with fail
    go_ret
    exact Or.inl ⟨hf, rfl, rfl⟩
  · have d0 : decide ((30 : Int) < (l.length : Int) + (ns.length : Int)) = false := decide_eq_false (by omega)
    obtain ⟨M, hM⟩ : ∃ n, ns.length = n := ⟨_, rfl⟩
    obtain ⟨LL, hLL⟩ : ∃ n, l.length = n := ⟨_, rfl⟩
    have HM : Hid (ns.length = M ∧ l.length = LL ∧ LL + M ≤ 30) := ⟨hM, hLL, by omega⟩
    have HV : Hid (NRow w base (.slice va M vc) ns) := by rw [← hM]; exact hv
    have HH : Hid (HsAt w hb mb l nx wv) := h
    have HNS : Hid (∀ n ∈ ns, n.length ≤ 1000) := hns
    rw [hM] at hnl d0 hf ⊢
    rw [hLL] at hl d0 hf hlen ⊢
    clear h hv hns hM hLL
    go_enter Tryz.func125, Tryz.ntmps125
    go_wp2_with fail
    go_loopw [19] (fun iv wr => ∃ k : Nat, iv = .int .i64 (k : Int) ∧ k ≤ M ∧ Hid (HK hb mb w wr ∧ ∃ ps, Built w.heap.size wr nx (ns.take k) ps ∧ HsAt wr hb mb (putAll l ps) (nx + (k : Int)) wv)) (fun iv _ => M - (intOf iv).toNat)
    case atStart => exact ⟨0, rfl, Nat.zero_le _, HK.refl _ _ _, [], ⟨rfl, fun j p hj => by simp at hj, List.Pairwise.nil⟩, by rw [Int.natCast_zero, Int.add_zero]; exact HH.out⟩
    case round =>
      obtain ⟨k, rfl, hk, HI⟩ := hrel
      by_cases hlt : k < M
      · have d1 : decide ((k : Int) < (M : Int)) = true := decide_eq_true (by omega)
        have i1 : (0 : Int) ≤ (k : Int) := by omega
        have i2 : (k : Int) < (M : Int) := by omega
        obtain ⟨n, hnk⟩ : ∃ n, ns[k]? = some n := ⟨_, List.getElem?_eq_getElem (by have := HM.out.1; omega)⟩
        obtain ⟨hk0, ps, hB, hS⟩ := HI.out
        obtain ⟨g, cap, hvg, hcg0⟩ := nrow_at (HV.out.hk HH.out hk0) hnk
        injection hvg with hva hvb hvc
        subst hva
        clear hvb
        have hnl2 := HNS.out n (List.mem_of_getElem? hnk)
        have hps : ps.length = k := by rw [← List.length_map (f := Prod.fst), hB.1, List.length_take]; have := HM.out.1; omega
        have hpl := putAll_len l k ps hps
        have cA := add_is hb mb (putAll l ps) (nx + (k : Int)) wv ⟨n.toArray⟩ wr hS (by show n.toArray.size ≤ _; simp; omega) (by have := HM.out; omega) (by omega)
        have HN : Hid (∀ w', HsAt w' hb mb (putB n wr.heap.size (putAll l ps)) (nx + (k : Int) + 1) wv → NewBox w' wr.heap.size (nx + (k : Int)) → HK hb mb wr w' → HK hb mb w w' ∧ ∃ ps, Built w.heap.size w' nx (ns.take (k + 1)) ps ∧ HsAt w' hb mb (putAll l ps) (nx + ((k + 1 : Nat) : Int)) wv) := fun w' q1 q2 q3 => by
          refine ⟨hk0.trans q3, ps ++ [(n, wr.heap.size)], ?_, ?_⟩
          · rw [List.take_add_one, hnk]
            refine built_snoc hB hS q3 hk0.size ?_
            rw [List.length_take, HM.out.1, Nat.min_eq_left (by omega)]
            exact q2
          · rw [putAll_snoc, show nx + ((k + 1 : Nat) : Int) = nx + (k : Int) + 1 by omega]
            exact q1
        have hcg : wr.cell? ⟨g, k, none⟩ = some (.string ⟨n.toArray⟩) := hcg0
        clear hcg0 hB hS hps hpl hk0 hvc hnk HI
        go_wp2_with fail
        refine cA.mono ?_
        rintro e w' ⟨rfl, q1, q2, q3⟩
        have HF : Hid _ := HN.out w' (by simpa using q1) q2 q3
        clear q1 q2 q3 cA HN
        go_wp2_with fail
        go_roundw
        case rel => exact ⟨k + 1, by go_num, by omega, HF⟩
        case measure => simp [intOf]; omega
      · have d1 : decide ((k : Int) < (M : Int)) = false := decide_eq_false (by omega)
        obtain rfl : k = M := by omega
        have HF : Hid (HK hb mb w wr ∧ ∃ ps, Built w.heap.size wr nx ns ps ∧ HsAt wr hb mb (putAll l ps) (nx + (k : Int)) wv) := by
          have := HI.out
          rw [List.take_of_length_le (by have := HM.out.1; omega)] at this
          exact this
        clear HI
        go_wp2_with fail
        go_ret
        exact Or.inr ⟨by omega, rfl, HF.out⟩
end Go.Proofs.YtdmplfflmdanlaaGreatDoor
