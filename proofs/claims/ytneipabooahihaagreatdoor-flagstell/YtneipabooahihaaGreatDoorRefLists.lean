/-
  The document's answer on lists of flags: Holds, Without, PrintFlags; the statements' sameTexts.
-/
import Derived.Test.YtneipabooahihaaGreatDoorLawTexts
namespace Go.Proofs.YtneipabooahihaaGreatDoor
open Go.RowKit Go.Proofs.Aid Go.Proofs.Fl Go.Sort Go.Lib

theorem ref_print (v : Value) (l : List Tx) (w : World) (h : Sl w v l) (hl : l.length ≤ 1000) (hj : (Lib.join l [32]).length ≤ 1000000) :
    Calls Tryz.prog 28 #[v] w fun e w' => (∃ s : ByteArray, e = .returned (.string s) ∧ s.data.toList = printed l) ∧ Below w.heap.size w w' := by
  have cJ := join_txs v l w h hl hj
  obtain ⟨t, ht⟩ : ∃ t : ByteArray, ⟨(Lib.join l [32]).toArray⟩ = t := ⟨_, rfl⟩
  have htl : t.data.toList = Lib.join l [32] := by rw [← ht]
  have hts : t.size ≤ 1000000 := by rw [← ht]; simpa [ByteArray.size] using hj
  have HT : Hid (t.data.toList = Lib.join l [32]) := htl
  rw [ht] at cJ
  clear ht htl h
  go_enter Tryz.func28, Tryz.ntmps28
  go_wp2_with fail
  refine cJ.mono ?_
  rintro e w1 ⟨rfl, hb1⟩
  go_wp2_with fail
  go_ret
  refine ⟨⟨_, rfl, ?_⟩, hb1⟩
  unfold printed
  rw [← HT.out]
  simp
theorem ba_eq {a b : ByteArray} (h : a.data.toList = b.data.toList) : a = b := by
  obtain ⟨⟨x⟩⟩ := a
  obtain ⟨⟨y⟩⟩ := b
  have : x = y := h
  rw [this]
set_option maxHeartbeats 1000000 in
set_option maxRecDepth 100000 in
theorem ref_holds (v : Value) (l : List Tx) (s : ByteArray) (w : World) (h : Sl w v l) (hl : l.length ≤ 1000) :
    Calls Tryz.prog 30 #[v, .string s] w fun e w' => e = .returned (.bool (l.contains s.data.toList)) ∧ w' = w := by
  obtain ⟨a, c, rfl, _, ha⟩ := h
  obtain ⟨n, hn⟩ : ∃ n, l.length = n := ⟨_, rfl⟩
  rw [hn] at hl ⊢
  have HN : Hid (l.length = n) := hn
  obtain ⟨R, hR⟩ : ∃ R, l.contains s.data.toList = R := ⟨_, rfl⟩
  rw [hR]
  have HR : Hid (l.contains s.data.toList = R) := hR
  clear hn hR
  go_enter Tryz.func30, Tryz.ntmps30
  go_wp2
  go_loop [9] (fun i => ∃ k : Nat, i = .int .i64 (k : Int) ∧ k ≤ n ∧ Hid (s.data.toList ∉ l.take k)) (fun i => n - (intOf i).toNat)
  case atStart => exact ⟨0, rfl, Nat.zero_le _, by show _ ∉ _; simp⟩
  case round =>
    obtain ⟨k, rfl, hk, HK⟩ := hrel
    have hnn := HN.out
    by_cases hlt : k < n
    · rcases ha with rfl | ⟨b, o, rfl, hat⟩
      · simp at hnn; omega
      have hkl : k < l.length := by omega
      have c1 := hat k _ (List.getElem?_eq_getElem hkl)
      obtain ⟨u, hu⟩ : ∃ u : ByteArray, ⟨l[k].toArray⟩ = u := ⟨_, rfl⟩
      have c2 : w.cell? ⟨b, o + k, none⟩ = some (.string u) := by rw [← hu]; exact c1
      have HU : Hid (u.data.toList = l[k]) := by show u.data.toList = _; rw [← hu]
      clear hat c1 hu hnn
      by_cases hq : u = s
      · subst hq
        have HC : Hid (R = true) := by
          show R = true
          rw [← HR.out, HU.out]; simp
        go_wp2
        go_ret
        exact ⟨by rw [HC.out]; rfl, rfl⟩
      · have hne : (u.toList == s.toList) = false := by
          rw [Lib.toList_data, Lib.toList_data, beq_eq_false_iff_ne]
          exact fun h => hq (ba_eq h)
        have HNE : Hid (s.data.toList ≠ u.data.toList) := fun h => hq (ba_eq h.symm)
        clear hq
        go_wp2
        go_round
        case rel => exact ⟨k + 1, by go_num, by omega, by
          show _ ∉ _
          rw [List.take_succ_eq_append_getElem hkl, List.mem_append, List.mem_singleton]
          rintro (h | h)
          · exact HK.out h
          · exact HNE.out (h.trans HU.out.symm)⟩
        case measure => simp [intOf]; omega
    · have HC : Hid (R = false) := by
        show R = false
        rw [← HR.out, Bool.eq_false_iff]
        intro h
        have := HK.out
        rw [List.take_of_length_le (by omega)] at this
        exact this (List.contains_iff_mem.1 h)
      clear ha hnn
      go_wp2
      go_ret
      exact ⟨by rw [HC.out]; rfl, rfl⟩
set_option maxHeartbeats 1000000 in
set_option maxRecDepth 100000 in
theorem ref_without (va vb : Value) (x y : List Tx) (w : World) (ha : Sl w va x) (hb : Sl w vb y) (hx : x.length ≤ 400) (hy : y.length ≤ 400) :
    Calls Tryz.prog 26 #[va, vb] w fun e w' => (∃ v', e = .returned v' ∧ Sl w' v' (without x y)) ∧ Below w.heap.size w w' := by
  have rb : ∀ W, Below w.heap.size w W → Sl W va x ∧ Sl W vb y := fun W h => ⟨ha.below h (Nat.le_refl _), hb.below h (Nat.le_refl _)⟩
  obtain ⟨a, c, rfl, _, _⟩ := ha
  obtain ⟨n, hn⟩ : ∃ n, x.length = n := ⟨_, rfl⟩
  rw [hn] at hx rb ⊢
  have HN : Hid (x.length = n) := hn
  clear hn hb
  go_enter Tryz.func26, Tryz.ntmps26
  go_wp2
  go_loopw [5, 10] (fun rv i wr => ∃ (k : Nat) (ns : List Tx), i = .int .i64 (k : Int) ∧ k ≤ n ∧ ns.length ≤ k ∧ wr.ownsRow w.heap.size 9 1 rv ns.length (ns.map encStr) ∧ Hid (without (x.take k) y = ns) ∧ Below w.heap.size w wr) (fun _ i _ => n - (intOf i).toNat)
  case atStart => exact ⟨0, [], rfl, by omega, Nat.le_refl _, World.ownsRow_nil _ _ _ _, rfl, Below.refl _ _⟩
  case round =>
    obtain ⟨k, ns, rfl, hk, hnl, hrow, HW, hbW⟩ := hrel
    have hnn := HN.out
    by_cases hlt : k < n
    · obtain ⟨⟨a', c', hv, _, hd⟩, hsy⟩ := rb _ hbW
      rw [hnn] at hv
      cases hv
      rcases hd with h0 | ⟨b, o, rfl, hat⟩
      · rw [h0] at hnn; simp at hnn; omega
      have hkl : k < x.length := by omega
      have c1 := hat k _ (List.getElem?_eq_getElem hkl)
      obtain ⟨u, hu⟩ : ∃ u : ByteArray, ⟨x[k].toArray⟩ = u := ⟨_, rfl⟩
      have c2 : wr.cell? ⟨b, o + k, none⟩ = some (.string u) := by rw [← hu]; exact c1
      have HU : Hid (u.data.toList = x[k]) := by show u.data.toList = _; rw [← hu]
      have HE : Hid (encStr x[k] = .string u) := by show encStr x[k] = _; rw [← hu]
      have cH := ref_holds vb y u wr hsy (by omega)
      rw [HU.out] at cH
      have hst : without (x.take (k + 1)) y = ns ++ (if y.contains x[k] then [] else [x[k]]) := by
        rw [List.take_succ_eq_append_getElem hkl, ← HW.out]
        unfold without
        rw [List.filter_append]
        cases hc : y.contains x[k]
        · have : List.filter (fun t => !y.contains t) [x[k]] = [x[k]] := by rw [List.filter_cons_of_pos (by rw [hc]; rfl)]; rfl
          rw [this]; rfl
        · have : List.filter (fun t => !y.contains t) [x[k]] = [] := by rw [List.filter_cons_of_neg (by rw [hc]; simp)]; rfl
          rw [this]; rfl
      obtain ⟨C, hC⟩ : ∃ C, y.contains x[k] = C := ⟨_, rfl⟩
      rw [hC] at cH hst
      have HST : Hid (without (x.take (k + 1)) y = ns ++ (if C then [] else [x[k]])) := hst
      have hbs := hbW.size
      clear hat c1 hu hnn rb hsy hst hC
      cases C
      · go_wp2_with fail
        refine cH.mono ?_
        rintro e w1 ⟨rfl, hw⟩
        obtain rfl : wr = w1 := hw.symm
        go_wp2_with (at_builtin; go_must (refine wpList_push rfl (.tmp 18) (.tmp 20) 41 rfl _ w.heap.size 9 (.string ⟨#[]⟩) 16 Tryz.underlying41 Tryz.infoStr rfl _ _ _ (by rfl) hrow [.string u] _ (by rfl) (by simp) (by simp [Value.oneCell']) (by simp) (by rfl) (by decide) (by simp; omega) hbs ?_); intro g1 cap1 w9 hown1 hg1 hlt1)
        have hb9 : Below w.heap.size w w9 := hbW.grown hg1 hbs (fun j e => (hrow.lt j e).1)
        go_roundw
        case rel => exact ⟨k + 1, ns ++ [x[k]], by go_num, by omega, by simp; omega, by rw [List.map_append, List.length_append, show [x[k]].map encStr = [Value.string u] from by rw [← HE.out]; rfl]; exact hown1, by show _ = _; rw [HST.out]; rfl, hb9⟩
        case measure => simp [intOf]; omega
      · go_wp2_with fail
        refine cH.mono ?_
        rintro e w1 ⟨rfl, hw⟩
        obtain rfl : wr = w1 := hw.symm
        go_wp2_with fail
        go_roundw
        case rel => exact ⟨k + 1, ns, by go_num, by omega, by omega, hrow, by show _ = _; rw [HST.out]; simp, hbW⟩
        case measure => simp [intOf]; omega
    · have HX : Hid (without x y = ns) := by
        have := HW.out
        rw [List.take_of_length_le (by omega)] at this
        exact this
      clear rb hnn
      go_wp2
      go_ret
      refine ⟨⟨_, rfl, ?_⟩, hbW⟩
      rw [HX.out]
      exact Sl.of_row hrow
end Go.Proofs.YtneipabooahihaaGreatDoor
