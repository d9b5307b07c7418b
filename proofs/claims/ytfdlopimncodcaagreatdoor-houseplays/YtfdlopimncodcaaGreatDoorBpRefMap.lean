/-
  The document's answer on flags in order: how often each text was said,, and more.
-/
import Derived.Test.YtfdlopimncodcaaGreatDoorBpRhNames
namespace Go.Proofs.Fl
open Go.Maps
def Cnt (D : DataW Unit) (m : List Tx) (n : Nat) : Prop :=
  IsMap D ∧ ∀ t : Tx, ∃ c : Int, D.atKey (.string t) (.lit (.int .i64 0)) = .lit (.int .i64 c) ∧ 0 ≤ c ∧ c ≤ n ∧ (0 < c ↔ t ∈ m) ∧ (Maps.has D (.string t) = true ↔ t ∈ m)
theorem cnt_start : Cnt (.map []) [] 0 := ⟨isMap_empty, fun t => ⟨0, rfl, by omega, by omega, by simp, by simp [Maps.has]⟩⟩
theorem str_ne {a b : Tx} (h : a ≠ b) : (Lit.string a) ≠ .string b := fun e => h (by cases e; rfl)
theorem cnt_put {D : DataW Unit} {m : List Tx} {n : Nat} {t : Tx} {c : Int} (h : Cnt D m n) (hc : D.atKey (.string t) (.lit (.int .i64 0)) = .lit (.int .i64 c)) : Cnt (D.put (.string t) (.lit (.int .i64 (c + 1)))) (m ++ [t]) (n + 1) := by
  obtain ⟨h1, h2⟩ := h
  refine ⟨h1.put _ _, fun u => ?_⟩
  by_cases hu : u = t
  · subst hu
    obtain ⟨c', e1, e2, e3, e4, e5⟩ := h2 u
    obtain rfl : c = c' := by rw [hc] at e1; cases e1; rfl
    refine ⟨c + 1, atKey_put_same h1 (by first | trivial | simp [WideAt.IsKeyLit] | decide) _ _, by omega, by omega, ?_, ?_⟩
    · simp; omega
    · rw [has_put_same h1 (by first | trivial | simp [WideAt.IsKeyLit] | decide)]; simp
  · obtain ⟨c', e1, e2, e3, e4, e5⟩ := h2 u
    refine ⟨c', by rw [atKey_put_other (str_ne hu)]; exact e1, e2, by omega, ?_, ?_⟩
    · rw [e4]; simp [hu]
    · rw [has_put_other (str_ne hu), e5]; simp [hu]
theorem cnt_del {D : DataW Unit} {m : List Tx} {n : Nat} {t : Tx} (h : Cnt D m n) : Cnt (D.del (.string t)) (m.filter fun u => decide (u ≠ t)) n := by
  obtain ⟨h1, h2⟩ := h
  refine ⟨h1.del _, fun u => ?_⟩
  by_cases hu : u = t
  · subst hu
    refine ⟨0, atKey_del_same _, by omega, by omega, by simp, ?_⟩
    rw [has_del_same]; simp
  · obtain ⟨c', e1, e2, e3, e4, e5⟩ := h2 u
    refine ⟨c', by rw [atKey_del_other (str_ne hu)]; exact e1, e2, e3, ?_, ?_⟩
    · rw [e4]; simp [hu]
    · rw [has_del_other (str_ne hu), e5]; simp [hu]
theorem rank_other {x : Tx} (h : x ∉ five) : rank x = 5 := by unfold rank; rw [List.idxOf_eq_length h]; rfl
theorem rank_five {x : Tx} (h : x ∈ five) : rank x < 5 := by
  have := List.idxOf_lt_length_of_mem h
  exact this
theorem five_ord : Ord five := by unfold Fl.Ord; decide
theorem ord_parts {l ss : List Tx} (hnd : ss.Nodup) (hm : ∀ x, x ∈ ss ↔ x ∈ l ∧ x ∉ five) : (five.filter fun t => decide (t ∈ l)) ++ (ss.mergeSort fun x y => decide (x ≤ y)) = order l := by
  have hmem : ∀ x, x ∈ (ss.mergeSort fun x y => decide (x ≤ y)) ↔ x ∈ l ∧ x ∉ five := fun x => by rw [List.mem_mergeSort]; exact hm x
  refine ord_eq ?_ (order_ord l) fun x => ?_
  · unfold Fl.Ord
    rw [List.pairwise_append]
    refine ⟨ord_filter five_ord _, ?_, ?_⟩
    · have hp := List.pairwise_mergeSort (le := fun x y : Tx => decide (x ≤ y)) (fun a b c h1 h2 => by
        simp only [decide_eq_true_eq] at h1 h2 ⊢; exact List.le_trans h1 h2) (fun a b => by
        simp only [Bool.or_eq_true, decide_eq_true_eq]; exact List.le_total a b) ss
      have hn : (ss.mergeSort fun x y => decide (x ≤ y)).Nodup := (List.mergeSort_perm ss _).nodup_iff.2 hnd
      refine List.Pairwise.imp_of_mem ?_ (List.Pairwise.and hp hn)
      intro a b ha hb hab
      have h1 := rank_other ((hmem a).1 ha).2
      have h2 := rank_other ((hmem b).1 hb).2
      unfold flt
      rw [h1, h2]
      have hle : a ≤ b := by simpa using hab.1
      have hne : a ≠ b := hab.2
      have hlt : a < b := by
        by_cases h : a < b
        · exact h
        · exact absurd (tx_total h (List.not_lt.2 hle)) hne
      simp [hlt]
    · intro a ha b hb
      have h1 := rank_five (List.mem_filter.1 ha).1
      have h2 := rank_other ((hmem b).1 hb).2
      unfold flt
      rw [h2]
      simp [h1]
  · rw [List.mem_append, hmem, order_mem, List.mem_filter, decide_eq_true_eq]
    by_cases hx : x ∈ five <;> simp [hx]
end Go.Proofs.Fl
namespace Go.Proofs.YtfdlopimncodcaaGreatDoor
open Go.RowKit Go.Proofs.Aid Go.Proofs.Fl Go.Sort Go.Lib
theorem ba_eq {a b : ByteArray} (h : a.data.toList = b.data.toList) : a = b := by
  obtain ⟨⟨x⟩⟩ := a
  obtain ⟨⟨y⟩⟩ := b
  have : x = y := h
  rw [this]
end Go.Proofs.YtfdlopimncodcaaGreatDoor
namespace Go.Proofs.YtfdlopimncodcaaGreatDoor
open Go.RowKit Go.Proofs.Aid Go.Proofs.Fl Go.Sort Go.Lib
theorem take_eq_succ {x y : List Tx} {k : Nat} (hx : k < x.length) (hy : k < y.length) (h : x.take k = y.take k) (he : x[k] = y[k]) : x.take (k + 1) = y.take (k + 1) := by
  rw [List.take_succ_eq_append_getElem hx, List.take_succ_eq_append_getElem hy, h, he]
set_option maxHeartbeats 1000000 in
set_option maxRecDepth 100000 in
theorem same_texts (va vb : Value) (x y : List Tx) (w : World) (ha : Sl w va x) (hb : Sl w vb y) (hx : x.length ≤ 1000) (hy : y.length ≤ 1000) :
    Calls Tryz.prog 17 #[va, vb] w fun e w' => e = .returned (.bool (decide (x = y))) ∧ ∃ q, w' = w.drewN q := by
  obtain ⟨a0, c0, rfl, _, ha⟩ := ha
  obtain ⟨a1, c1, rfl, _, hb⟩ := hb
  obtain ⟨R, hR⟩ : ∃ R, decide (x = y) = R := ⟨_, rfl⟩
  rw [hR]
  by_cases hl : x.length = y.length
  · have HR : Hid (decide (x = y) = R) := hR
    obtain ⟨n, hn⟩ : ∃ n, x.length = n := ⟨_, rfl⟩
    have hm : y.length = n := by omega
    rw [hn] at hx ⊢
    rw [hm]
    have HN : Hid (x.length = n ∧ y.length = n) := ⟨hn, hm⟩
    clear hl hR hn hm hy
    go_enter Tryz.func17, Tryz.ntmps17
    go_wp2
    go_loopw [5] (fun i wr => ∃ k q : Nat, i = .int .i64 (k : Int) ∧ k ≤ n ∧ Hid (x.take k = y.take k) ∧ Hid (wr = w.drewN q)) (fun i _ => n - (intOf i).toNat)
    case atStart => exact ⟨0, 0, rfl, Nat.zero_le _, rfl, rfl⟩
    case round =>
      obtain ⟨k, q, rfl, hk, HK, HQ⟩ := hrel
      obtain ⟨hn, hm⟩ := HN.out
      by_cases hlt : k < n
      · rcases ha with rfl | ⟨b, o, rfl, hat⟩
        · simp at hn; omega
        rcases hb with rfl | ⟨b', o', rfl, hbt⟩
        · simp at hm; omega
        have hkx : k < x.length := by omega
        have hky : k < y.length := by omega
        have d1 := hat k _ (List.getElem?_eq_getElem hkx)
        have d2 := hbt k _ (List.getElem?_eq_getElem hky)
        obtain ⟨u, hu⟩ : ∃ u : ByteArray, ⟨x[k].toArray⟩ = u := ⟨_, rfl⟩
        obtain ⟨t, ht⟩ : ∃ t : ByteArray, ⟨y[k].toArray⟩ = t := ⟨_, rfl⟩
        have e1 : wr.cell? ⟨b, o + k, none⟩ = some (.string u) := by rw [HQ.out, ← hu]; exact d1
        have e2 : wr.cell? ⟨b', o' + k, none⟩ = some (.string t) := by rw [HQ.out, ← ht]; exact d2
        have HU : Hid (u.data.toList = x[k]) := by show u.data.toList = _; rw [← hu]
        have HT : Hid (t.data.toList = y[k]) := by show t.data.toList = _; rw [← ht]
        clear hat hbt d1 d2 hu ht hn hm
        by_cases hq : u = t
        · subst hq
          have HS : Hid (x.take (k + 1) = y.take (k + 1)) := take_eq_succ hkx hky HK.out (HU.out.symm.trans HT.out)
          go_wp2
          go_quiet (fail)
          go_wp2
          go_roundw
          case rel => exact ⟨k + 1, _, by go_num, by omega, HS.out, by show _ = _; rw [HQ.out, World.drewN_drewN]⟩
          case measure => simp [intOf]; omega
        · have hne : (u.toList == t.toList) = false := by
            rw [Lib.toList_data, Lib.toList_data, beq_eq_false_iff_ne]
            exact fun h => hq (ba_eq h)
          have HC : Hid (R = false) := by
            show R = false
            rw [← HR.out, decide_eq_false_iff_not]
            rintro rfl
            exact hq (ba_eq (HU.out.trans HT.out.symm))
          clear hq
          go_wp2
          go_quiet (fail)
          go_wp2
          go_ret
          exact ⟨by rw [HC.out]; rfl, _, by rw [HQ.out, World.drewN_drewN]⟩
      · have HC : Hid (R = true) := by
          show R = true
          rw [← HR.out, decide_eq_true_eq]
          have := HK.out
          rw [List.take_of_length_le (by omega), List.take_of_length_le (by omega)] at this
          exact this
        clear ha hb hn hm
        go_wp2
        go_ret
        exact ⟨by rw [HC.out]; rfl, q, HQ.out⟩
  · have hne : R = false := by rw [← hR, decide_eq_false_iff_not]; rintro rfl; exact hl rfl
    subst hne
    have h' : ((x.length : Int) == (y.length : Int)) = false := by rw [beq_eq_false_iff_ne]; omega
    clear hR ha hb
    go_enter Tryz.func17, Tryz.ntmps17
    go_wp2
    go_ret
    exact ⟨rfl, 0, rfl⟩
end Go.Proofs.YtfdlopimncodcaaGreatDoor
namespace Go.Proofs.YtfdlopimncodcaaGreatDoor
open Go.RowKit Go.Proofs.Aid Go.Proofs.Fl
theorem ref_five (j : Nat) (hj : j < 5) (w : World) : Calls Tryz.prog 171 #[.int .i64 (j : Int)] w fun e w' => e = .returned (.string (sysB j)) ∧ w' = w := by
  have i0 := Tryz.ix0
  have i1 := Tryz.ix1
  have i2 := Tryz.ix2
  have i3 := Tryz.ix3
  have i4 := Tryz.ix4
  have : j = 0 ∨ j = 1 ∨ j = 2 ∨ j = 3 ∨ j = 4 := by omega
  rcases this with rfl | rfl | rfl | rfl | rfl
  all_goals
    go_enter Tryz.func171, Tryz.ntmps171
    go_wp2
    go_ret
    exact ⟨rfl, rfl⟩
end Go.Proofs.YtfdlopimncodcaaGreatDoor
namespace Go.Proofs.YtfdlopimncodcaaGreatDoor
open Go.RowKit Go.Proofs.Aid Go.Proofs.Fl
theorem kw_ref (c : UInt8) : kw c = true ↔ (97 ≤ c.toNat ∧ c.toNat ≤ 122) ∨ (65 ≤ c.toNat ∧ c.toNat ≤ 90) ∨ (48 ≤ c.toNat ∧ c.toNat ≤ 57) ∨ c.toNat = 95 ∨ c.toNat = 36 := by
  rw [kw_of]
  have hc := c.toNat_lt
  by_cases h : 65 ≤ c.toNat ∧ c.toNat ≤ 90
  · have : (sm c).toNat = c.toNat + 32 := by
      unfold sm; rw [if_pos h, UInt8.toNat_add]
      show (c.toNat + 32) % 256 = _
      omega
    rw [this]; omega
  · rw [sm_small c (by omega)]; omega
theorem sysB_size (k : Nat) (h : k < 5) : (sysB k).size ≤ 20 := by
  have : k = 0 ∨ k = 1 ∨ k = 2 ∨ k = 3 ∨ k = 4 := by omega
  rcases this with rfl | rfl | rfl | rfl | rfl <;> decide
set_option maxHeartbeats 2000000 in
set_option maxRecDepth 100000 in
theorem ref_name (s : ByteArray) (w : World) (hs : s.size ≤ 1000000) : Calls Tryz.prog 142 #[.string s] w fun e w' => (∃ n : ByteArray, e = .returned (.tuple #[.string n, .int .i64 (fname s.data.toList).2]) ∧ n.data.toList = (fname s.data.toList).1) ∧ Below w.heap.size w w' := by
  have hla : s.data.toList.length = s.size := by show s.data.toList.length = s.data.size; simp
  have cF := ref_five
  obtain ⟨R, hR⟩ : ∃ R, fname s.data.toList = R := ⟨_, rfl⟩
  rw [hR]
  have HR : Hid (fname s.data.toList = R) := hR
  clear hR
  by_cases h92 : s.data.toList.head? = some 92
  · have h0 : 0 < s.size := by
      rw [← hla]
      cases hl : s.data.toList with
      | nil => rw [hl] at h92; simp at h92
      | cons => simp
    have hb0 : s[0] = 92 := by
      have h1 : s.data.toList[0]'(by omega) = 92 := by
        rw [List.head?_eq_getElem?, List.getElem?_eq_getElem (by omega)] at h92
        exact Option.some.inj h92
      exact h1
    have hi0 : (s[0].toNat : Int) = 92 := by rw [hb0]; rfl
    have h0' : decide ((0 : Int) < (s.size : Int)) = true := by simp; omega
    have hbe : ((s[0].toNat : Int) == 92) = true := by rw [hi0]; rfl
    have H92 : Hid (s.data.toList.head? = some 92) := h92
    clear h92 hb0 hi0
    go_enter Tryz.func142, Tryz.ntmps142
    go_wp2
    go_loopw [15] (fun i wr => ∃ k : Nat, i = .int .i64 (k : Int) ∧ k ≤ 5 ∧ Hid (none_of s.data.toList k) ∧ Below w.heap.size w wr) (fun i _ => 5 - (intOf i).toNat)
    case atStart => exact ⟨0, rfl, by omega, fun j hj => absurd hj (by omega), Below.refl _ _⟩
    case round =>
      obtain ⟨k, rfl, hk, HN, hbW⟩ := hrel
      by_cases hlt : k < 5
      · have hlt' : (k : Int) < 5 := by omega
        have cA := cF k hlt wr
        have cB := ref_small (sysB k) wr (by have := sysB_size k hlt; omega)
        rw [sysB_data] at cB
        clear cF
        go_wp2_with fail
        refine cA.mono ?_
        rintro e w1 ⟨rfl, hw⟩
        obtain rfl : wr = w1 := hw.symm
        go_wp2_with fail
        refine cB.mono ?_
        rintro e w2 ⟨⟨t, rfl, ht⟩, hb2⟩
        have hbW2 : Below w.heap.size w w2 := hbW.trans (hb2.mono hbW.size)
        have cC := ref_small s w2 hs
        go_wp2_with fail
        refine cC.mono ?_
        rintro e w3 ⟨⟨u, rfl, hu⟩, hb3⟩
        have hbW3 : Below w.heap.size w w3 := hbW2.trans (hb3.mono hbW2.size)
        obtain ⟨B, hB⟩ : ∃ B, (t.toList == u.toList) = B := ⟨_, rfl⟩
        have HB : Hid (sameL s.data.toList (five.getD k []) = B) := by
          show _ = B
          rw [← hB, Lib.toList_data, Lib.toList_data, ht, hu]
          unfold sameL
          rw [Bool.eq_iff_iff, decide_eq_true_eq, beq_iff_eq]
          exact eq_comm
        have cD := ref_five k hlt w3
        clear ht hu cA cB cC
        cases B
        · go_wp2_with fail
          go_roundw
          case rel => exact ⟨k + 1, by go_num, by omega, none_succ HN.out HB.out, hbW3⟩
          case measure => simp [intOf]; omega
        · obtain rfl : t = u := by
            rw [Lib.toList_data, Lib.toList_data] at hB
            have h1 : t.data.toList = u.data.toList := by simpa using hB
            obtain ⟨⟨tl⟩⟩ := t
            obtain ⟨⟨ul⟩⟩ := u
            have : tl = ul := h1
            rw [this]
          clear hB
          go_wp2_with fail
          refine cD.mono ?_
          rintro e w4 ⟨rfl, hw⟩
          obtain rfl : w3 = w4 := hw.symm
          go_wp2_with fail
          go_ret2
          have hf : R = (five.getD k [], 0) := by
            rw [← HR.out]
            unfold fname
            rw [if_pos H92.out, find_hit hlt HN.out HB.out]
          rw [hf]
          exact ⟨⟨sysB k, rfl, sysB_data k⟩, hbW3⟩
      · obtain rfl : k = 5 := by omega
        clear cF
        go_wp2
        go_ret2
        have hf : R = ([], 3) := by
          rw [← HR.out]
          unfold fname
          rw [if_pos H92.out, find_miss HN.out]
        rw [hf]
        exact ⟨⟨⟨#[]⟩, rfl, rfl⟩, hbW⟩
  · -- the second loop, from whichever way it is come to
    have hfn : R = if s.data.toList = [] ∨ s.data.toList.all kw = false then ([], 3) else if 20 < s.data.toList.length then ([], 4) else (s.data.toList, 0) := by
      rw [← HR.out]; unfold fname; rw [if_neg h92]
    have HF : Hid (R = if s.data.toList = [] ∨ s.data.toList.all kw = false then ([], 3) else if 20 < s.data.toList.length then ([], 4) else (s.data.toList, 0)) := hfn
    have hfirst : (s.size = 0) ∨ (0 < s.size ∧ ∃ h : 0 < s.size, ((s[0].toNat : Int) == 92) = false) := by
      rcases Nat.eq_zero_or_pos s.size with h | h
      · exact Or.inl h
      · refine Or.inr ⟨h, h, ?_⟩
        rw [beq_eq_false_iff_ne]
        intro h1
        apply h92
        rw [List.head?_eq_getElem?, List.getElem?_eq_getElem (by omega)]
        have h2 : s[0].toNat = 92 := by omega
        have : s[0] = 92 := UInt8.toNat_inj.1 h2
        exact congrArg some this
    clear hfn h92 cF HR
    rcases hfirst with hz | ⟨hz, hz2, hz3⟩
    · have h0' : decide ((0 : Int) < (s.size : Int)) = false := decide_eq_false (by omega)
      have hE : s.toList.isEmpty = true := by
        rw [Lib.toList_data, List.isEmpty_iff]; exact List.eq_nil_of_length_eq_zero (by omega)
      have hR3 : R = ([], 3) := by
        rw [HF.out, if_pos (Or.inl (List.eq_nil_of_length_eq_zero (by omega)))]
      rw [hR3]
      have hz' : (s.size : Int) = 0 := by omega
      clear hz HF hR3
      go_enter Tryz.func142, Tryz.ntmps142
      go_wp2
      go_loop [29] (fun i => i = .int .i64 0) (fun _ => 0)
      case atStart => rfl
      case round =>
        subst hrel
        go_wp2
        go_ret2
        exact ⟨⟨⟨#[]⟩, rfl, rfl⟩, Below.refl _ _⟩
    · have h0' : decide ((0 : Int) < (s.size : Int)) = true := decide_eq_true (by omega)
      have hE : s.toList.isEmpty = false := by
        rw [Lib.toList_data]
        cases hl : s.data.toList with
        | nil =>
          have h1 : s.data.toList.length = 0 := by rw [hl]; rfl
          omega
        | cons => rfl
      have hne : s.data.toList ≠ [] := fun h => by
        have h1 : s.data.toList.length = 0 := by rw [h]; rfl
        omega
      have HNE : Hid (s.data.toList ≠ []) := hne
      clear hne
      go_enter Tryz.func142, Tryz.ntmps142
      go_wp2
      go_loop [29] (fun i => ∃ k : Nat, i = .int .i64 (k : Int) ∧ k ≤ s.size ∧ Hid ((s.data.toList.take k).all kw = true)) (fun i => s.size - (intOf i).toNat)
      case atStart => exact ⟨0, rfl, Nat.zero_le _, rfl⟩
      case round =>
        obtain ⟨k, rfl, hk, HL⟩ := hrel
        by_cases hlt : k < s.size
        · have hkl : k < s.data.toList.length := by omega
          have hkw := kw_ref s[k]
          have h256 : s[k].toNat < 256 := s[k].toNat_lt
          obtain ⟨c, hc⟩ : ∃ c, s[k].toNat = c := ⟨_, rfl⟩
          rw [hc] at hkw h256
          by_cases hq : kw s[k] = true
          · have HN : Hid ((s.data.toList.take (k + 1)).all kw = true) := kw_snoc hkl HL.out hq
            have hways := hkw.1 hq
            clear hkw hq
            have fin : True := trivial
            rcases hways with ⟨h1, h2⟩ | ⟨h1, h2⟩ | ⟨h1, h2⟩ | h1 | h1
            · have g1 : decide ((97 : Int) ≤ (c : Int)) = true := by simp; omega
              have g2 : decide ((c : Int) ≤ 122) = true := by simp; omega
              go_wp2
              go_round
              case rel => exact ⟨k + 1, by go_num, by omega, HN.out⟩
              case measure => simp [intOf]; omega
            · have g1 : decide ((97 : Int) ≤ (c : Int)) = false := by simp; omega
              have g3 : decide ((65 : Int) ≤ (c : Int)) = true := by simp; omega
              have g4 : decide ((c : Int) ≤ 90) = true := by simp; omega
              go_wp2
              go_round
              case rel => exact ⟨k + 1, by go_num, by omega, HN.out⟩
              case measure => simp [intOf]; omega
            · have g1 : decide ((97 : Int) ≤ (c : Int)) = false := by simp; omega
              have g3 : decide ((65 : Int) ≤ (c : Int)) = false := by simp; omega
              have g5 : decide ((48 : Int) ≤ (c : Int)) = true := by simp; omega
              have g6 : decide ((c : Int) ≤ 57) = true := by simp; omega
              go_wp2
              go_round
              case rel => exact ⟨k + 1, by go_num, by omega, HN.out⟩
              case measure => simp [intOf]; omega
            · have g1 : decide ((97 : Int) ≤ (c : Int)) = false := by simp; omega
              have g3 : decide ((65 : Int) ≤ (c : Int)) = true := by simp; omega
              have g4 : decide ((c : Int) ≤ 90) = false := by simp; omega
              have g5 : decide ((48 : Int) ≤ (c : Int)) = true := by simp; omega
              have g6 : decide ((c : Int) ≤ 57) = false := by simp; omega
              have g7 : ((c : Int) == 95) = true := by simp; omega
              clear h1
              go_wp2
              go_round
              case rel => exact ⟨k + 1, by go_num, by omega, HN.out⟩
              case measure => simp [intOf]; omega
            · have g1 : decide ((97 : Int) ≤ (c : Int)) = false := by simp; omega
              have g3 : decide ((65 : Int) ≤ (c : Int)) = false := by simp; omega
              have g5 : decide ((48 : Int) ≤ (c : Int)) = false := by simp; omega
              have g7 : ((c : Int) == 95) = false := by simp; omega
              have g8 : ((c : Int) == 36) = true := by simp; omega
              clear h1
              go_wp2
              go_round
              case rel => exact ⟨k + 1, by go_num, by omega, HN.out⟩
              case measure => simp [intOf]; omega
          · have hn : ¬ ((97 ≤ c ∧ c ≤ 122) ∨ (65 ≤ c ∧ c ≤ 90) ∨ (48 ≤ c ∧ c ≤ 57) ∨ c = 95 ∨ c = 36) := fun h => hq (hkw.2 h)
            have hR3 : R = ([], 3) := by rw [HF.out, if_pos (Or.inr (all_miss hkl hq))]
            have HR3 : Hid (R = ([], 3)) := hR3
            have g7 : ((c : Int) == 95) = false := by simp; omega
            have g8 : ((c : Int) == 36) = false := by simp; omega
            clear hkw hq hR3
            have hways : 122 < c ∨ (90 < c ∧ c < 97) ∨ (57 < c ∧ c < 65) ∨ c < 48 := by omega
            clear hn
            rcases hways with h1 | ⟨h1, h2⟩ | ⟨h1, h2⟩ | h1
            · have g1 : decide ((97 : Int) ≤ (c : Int)) = true := by simp; omega
              have g2 : decide ((c : Int) ≤ 122) = false := by simp; omega
              have g3 : decide ((65 : Int) ≤ (c : Int)) = true := by simp; omega
              have g4 : decide ((c : Int) ≤ 90) = false := by simp; omega
              have g5 : decide ((48 : Int) ≤ (c : Int)) = true := by simp; omega
              have g6 : decide ((c : Int) ≤ 57) = false := by simp; omega
              go_wp2
              go_ret2
              exact ⟨⟨⟨#[]⟩, by rw [HR3.out]; rfl, by rw [HR3.out]⟩, Below.refl _ _⟩
            · have g1 : decide ((97 : Int) ≤ (c : Int)) = false := by simp; omega
              have g3 : decide ((65 : Int) ≤ (c : Int)) = true := by simp; omega
              have g4 : decide ((c : Int) ≤ 90) = false := by simp; omega
              have g5 : decide ((48 : Int) ≤ (c : Int)) = true := by simp; omega
              have g6 : decide ((c : Int) ≤ 57) = false := by simp; omega
              go_wp2
              go_ret2
              exact ⟨⟨⟨#[]⟩, by rw [HR3.out]; rfl, by rw [HR3.out]⟩, Below.refl _ _⟩
            · have g1 : decide ((97 : Int) ≤ (c : Int)) = false := by simp; omega
              have g3 : decide ((65 : Int) ≤ (c : Int)) = false := by simp; omega
              have g5 : decide ((48 : Int) ≤ (c : Int)) = true := by simp; omega
              have g6 : decide ((c : Int) ≤ 57) = false := by simp; omega
              go_wp2
              go_ret2
              exact ⟨⟨⟨#[]⟩, by rw [HR3.out]; rfl, by rw [HR3.out]⟩, Below.refl _ _⟩
            · have g1 : decide ((97 : Int) ≤ (c : Int)) = false := by simp; omega
              have g3 : decide ((65 : Int) ≤ (c : Int)) = false := by simp; omega
              have g5 : decide ((48 : Int) ≤ (c : Int)) = false := by simp; omega
              go_wp2
              go_ret2
              exact ⟨⟨⟨#[]⟩, by rw [HR3.out]; rfl, by rw [HR3.out]⟩, Below.refl _ _⟩
        · have hall : s.data.toList.all kw = true := by
            have := HL.out
            rw [List.take_of_length_le (by omega)] at this
            exact this
          have hRR : R = if 20 < s.data.toList.length then ([], 4) else (s.data.toList, 0) := by
            rw [HF.out, if_neg]
            rintro (h | h)
            · exact HNE.out h
            · rw [hall] at h; cases h
          have HRR : Hid (R = if 20 < s.data.toList.length then ([], 4) else (s.data.toList, 0)) := hRR
          clear hall hRR
          by_cases h20 : 20 < s.size
          · have h20' : (20 : Int) < (s.size : Int) := by omega
            go_wp2
            go_ret2
            exact ⟨⟨⟨#[]⟩, by rw [HRR.out, if_pos (by omega)]; rfl, by rw [HRR.out, if_pos (by omega)]⟩, Below.refl _ _⟩
          · have h20' : ¬ (20 : Int) < (s.size : Int) := by omega
            go_wp2
            go_ret2
            exact ⟨⟨s, by rw [HRR.out, if_neg (by omega)]; rfl, by rw [HRR.out, if_neg (by omega)]⟩, Below.refl _ _⟩
end Go.Proofs.YtfdlopimncodcaaGreatDoor
