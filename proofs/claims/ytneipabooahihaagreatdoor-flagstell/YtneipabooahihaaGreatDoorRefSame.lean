/-
  The statements' sameTexts.
-/
import Derived.Test.YtneipabooahihaaGreatDoorRefLists
namespace Go.Proofs.YtneipabooahihaaGreatDoor
open Go.RowKit Go.Proofs.Aid Go.Proofs.Fl Go.Sort Go.Lib

theorem take_eq_succ {x y : List Tx} {k : Nat} (hx : k < x.length) (hy : k < y.length) (h : x.take k = y.take k) (he : x[k] = y[k]) : x.take (k + 1) = y.take (k + 1) := by
  rw [List.take_succ_eq_append_getElem hx, List.take_succ_eq_append_getElem hy, h, he]
set_option maxHeartbeats 1000000 in
set_option maxRecDepth 100000 in
theorem same_texts (va vb : Value) (x y : List Tx) (w : World) (ha : Sl w va x) (hb : Sl w vb y) (hx : x.length ≤ 1000) (hy : y.length ≤ 1000) :
    Calls Tryz.prog 22 #[va, vb] w fun e w' => e = .returned (.bool (decide (x = y))) ∧ ∃ q, w' = w.drewN q := by
  obtain ⟨a0, c0, rfl, _, ha⟩ := ha
  obtain ⟨a1, c1, rfl, _, hb⟩ := hb
  obtain ⟨R, hR⟩ : ∃ R, decide (x = y) = R := ⟨_, rfl⟩
  rw [hR]
  by_cases hl : x.length = y.length
  · have HR : Hid (decide (x = y) = R) := hR
    obtain ⟨n, hn⟩ : ∃ n, x.length = n := ⟨_, rfl⟩
    have hm : y.length = n := by omega
    rw [hn] at hx ⊢
    rw [hm]
    have HN : Hid (x.length = n ∧ y.length = n) := ⟨hn, hm⟩
    clear hl hR hn hm hy
    go_enter Tryz.func22, Tryz.ntmps22
    go_wp2
    go_loopw [5] (fun i wr => ∃ k q : Nat, i = .int .i64 (k : Int) ∧ k ≤ n ∧ Hid (x.take k = y.take k) ∧ Hid (wr = w.drewN q)) (fun i _ => n - (intOf i).toNat)
    case atStart => exact ⟨0, 0, rfl, Nat.zero_le _, rfl, rfl⟩
    case round =>
      obtain ⟨k, q, rfl, hk, HK, HQ⟩ := hrel
      obtain ⟨hn, hm⟩ := HN.out
      by_cases hlt : k < n
      · rcases ha with rfl | ⟨b, o, rfl, hat⟩
        · simp at hn; omega
        rcases hb with rfl | ⟨b', o', rfl, hbt⟩
        · simp at hm; omega
        have hkx : k < x.length := by omega
        have hky : k < y.length := by omega
        have d1 := hat k _ (List.getElem?_eq_getElem hkx)
        have d2 := hbt k _ (List.getElem?_eq_getElem hky)
        obtain ⟨u, hu⟩ : ∃ u : ByteArray, ⟨x[k].toArray⟩ = u := ⟨_, rfl⟩
        obtain ⟨t, ht⟩ : ∃ t : ByteArray, ⟨y[k].toArray⟩ = t := ⟨_, rfl⟩
        have e1 : wr.cell? ⟨b, o + k, none⟩ = some (.string u) := by rw [HQ.out, ← hu]; exact d1
        have e2 : wr.cell? ⟨b', o' + k, none⟩ = some (.string t) := by rw [HQ.out, ← ht]; exact d2
        have HU : Hid (u.data.toList = x[k]) := by show u.data.toList = _; rw [← hu]
        have HT : Hid (t.data.toList = y[k]) := by show t.data.toList = _; rw [← ht]
        clear hat hbt d1 d2 hu ht hn hm
        by_cases hq : u = t
        · subst hq
          have HS : Hid (x.take (k + 1) = y.take (k + 1)) := take_eq_succ hkx hky HK.out (HU.out.symm.trans HT.out)
          go_wp2
          go_quiet (fail)
          go_wp2
          go_roundw
          case rel => exact ⟨k + 1, _, by go_num, by omega, HS.out, by show _ = _; rw [HQ.out, World.drewN_drewN]⟩
          case measure => simp [intOf]; omega
        · have hne : (u.toList == t.toList) = false := by
            rw [Lib.toList_data, Lib.toList_data, beq_eq_false_iff_ne]
            exact fun h => hq (ba_eq h)
          have HC : Hid (R = false) := by
            show R = false
            rw [← HR.out, decide_eq_false_iff_not]
            rintro rfl
            exact hq (ba_eq (HU.out.trans HT.out.symm))
          clear hq
          go_wp2
          go_quiet (fail)
          go_wp2
          go_ret
          exact ⟨by rw [HC.out]; rfl, _, by rw [HQ.out, World.drewN_drewN]⟩
      · have HC : Hid (R = true) := by
          show R = true
          rw [← HR.out, decide_eq_true_eq]
          have := HK.out
          rw [List.take_of_length_le (by omega), List.take_of_length_le (by omega)] at this
          exact this
        clear ha hb hn hm
        go_wp2
        go_ret
        exact ⟨by rw [HC.out]; rfl, q, HQ.out⟩
  · have hne : R = false := by rw [← hR, decide_eq_false_iff_not]; rintro rfl; exact hl rfl
    subst hne
    have h' : ((x.length : Int) == (y.length : Int)) = false := by rw [beq_eq_false_iff_ne]; omega
    clear hR ha hb
    go_enter Tryz.func22, Tryz.ntmps22
    go_wp2
    go_ret
    exact ⟨rfl, 0, rfl⟩
end Go.Proofs.YtneipabooahihaaGreatDoor
