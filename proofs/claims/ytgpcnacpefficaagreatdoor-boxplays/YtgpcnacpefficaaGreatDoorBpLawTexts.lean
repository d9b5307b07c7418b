/-
  The statements' texts: are texts short enough to be held?
  The document's answer on lists of flags: Holds, Without.
  The document's answer on flags: letters made small, the five, what a flag is called.
-/
import Derived.Test.YtgpcnacpefficaaGreatDoorMFlagsSet
import Derived.Test.YtgpcnacpefficaaGreatDoorMFlagsLetters
import Derived.Test.YtgpcnacpefficaaGreatDoorBpFlagsOps
import Derived.Lib.SmallJoins
namespace Go.Proofs.YtgpcnacpefficaaGreatDoor
open Go.RowKit Go.Proofs.Aid Go.Proofs.Fl Go.Sort Go.Lib

theorem texts_any (v : Value) (l : List Tx) (w : World) (h : Sl w v l) :
    Calls Tryz.prog 9 #[v] w fun e w' => e = .returned (.bool (decide (l.length ≤ 40) && l.all fun t => decide (t.length ≤ 100))) ∧ w' = w := by
  obtain ⟨a, c, rfl, h0, ha⟩ := h
  obtain ⟨R, hR⟩ : ∃ R, (decide (l.length ≤ 40) && l.all fun t => decide (t.length ≤ 100)) = R := ⟨_, rfl⟩
  rw [hR]
  by_cases hl : l.length ≤ 40
  · rw [decide_eq_true hl, Bool.true_and] at hR
    have HR : Hid ((l.all fun t => decide (t.length ≤ 100)) = R) := hR
    obtain ⟨len, hn⟩ : ∃ n, l.length = n := ⟨_, rfl⟩
    rw [hn] at hl ⊢
    have hl' : ¬ (40 : Int) < (len : Int) := by omega
    have HN : Hid (l.length = len) := hn
    clear hR hn
    go_enter Tryz.func9, Tryz.ntmps9
    go_wp2
    go_loop [3] (fun i => ∃ k : Nat, i = .int .i64 (k : Int) ∧ k ≤ len ∧ Hid (∀ t ∈ l.take k, t.length ≤ 100)) (fun i => len - (intOf i).toNat)
    case atStart => exact ⟨0, rfl, Nat.zero_le _, fun t ht => by simp at ht⟩
    case round =>
      obtain ⟨k, rfl, hk, HK⟩ := hrel
      have hnn := HN.out
      by_cases hlt : k < len
      · rcases ha with rfl | ⟨b, o, rfl, hat⟩
        · simp at hnn; omega
        have hkl : k < l.length := by omega
        have c1 := hat k _ (List.getElem?_eq_getElem hkl)
        obtain ⟨t, ht⟩ : ∃ t, l[k] = t := ⟨_, rfl⟩
        have HT : Hid (l[k] = t) := ht
        rw [ht] at c1
        obtain ⟨s, hse⟩ : ∃ s : ByteArray, ⟨t.toArray⟩ = s := ⟨_, rfl⟩
        have hst : t.length = s.size := by rw [← hse]; simp [ByteArray.size]
        have HST : Hid (t.length = s.size) := hst
        have c2 : w.cell? ⟨b, o + k, none⟩ = some (.string s) := by rw [← hse]; exact c1
        clear hat ht hse hst c1 hnn
        by_cases h100 : s.size ≤ 100
        · have h1 : ¬ (100 : Int) < (s.size : Int) := by omega
          go_wp2
          go_round
          case rel => exact ⟨k + 1, by go_num, by omega, fun t' ht' => by
            rw [List.take_succ_eq_append_getElem hkl, HT.out] at ht'
            rcases List.mem_append.1 ht' with h | h
            · exact HK.out t' h
            · rw [List.mem_singleton.1 h, HST.out]; exact h100⟩
          case measure => simp [intOf]; omega
        · have h1 : (100 : Int) < (s.size : Int) := by omega
          go_wp2
          go_ret
          refine ⟨?_, rfl⟩
          rw [← HR.out]
          have : (l.all fun t => decide (t.length ≤ 100)) = false := by
            rw [List.all_eq_false]
            exact ⟨t, by rw [← HT.out]; exact List.getElem_mem _, by rw [HST.out]; simpa using h100⟩
          rw [this]; rfl
      · clear ha
        go_wp2
        go_ret
        refine ⟨?_, rfl⟩
        rw [← HR.out]
        have : (l.all fun t => decide (t.length ≤ 100)) = true := by
          rw [List.all_eq_true]
          intro t ht
          have := HK.out t (by rw [List.take_of_length_le (by omega)]; exact ht)
          simpa using this
        rw [this]; rfl
  · rw [decide_eq_false hl, Bool.false_and] at hR
    subst hR
    have hl' : (40 : Int) < (l.length : Int) := by omega
    go_enter Tryz.func9, Tryz.ntmps9
    go_wp2
    go_ret
    exact ⟨rfl, rfl⟩
end Go.Proofs.YtgpcnacpefficaaGreatDoor
namespace Go.Proofs.YtgpcnacpefficaaGreatDoor
open Go.RowKit Go.Proofs.Aid Go.Proofs.Fl Go.Sort Go.Lib

theorem ba_eq {a b : ByteArray} (h : a.data.toList = b.data.toList) : a = b := by
  obtain ⟨⟨x⟩⟩ := a
  obtain ⟨⟨y⟩⟩ := b
  have : x = y := h
  rw [this]
set_option maxHeartbeats 1000000 in
set_option maxRecDepth 100000 in
theorem ref_holds (v : Value) (l : List Tx) (s : ByteArray) (w : World) (h : Sl w v l) (hl : l.length ≤ 1000) :
    Calls Tryz.prog 54 #[v, .string s] w fun e w' => e = .returned (.bool (l.contains s.data.toList)) ∧ w' = w := by
  obtain ⟨a, c, rfl, _, ha⟩ := h
  obtain ⟨n, hn⟩ : ∃ n, l.length = n := ⟨_, rfl⟩
  rw [hn] at hl ⊢
  have HN : Hid (l.length = n) := hn
  obtain ⟨R, hR⟩ : ∃ R, l.contains s.data.toList = R := ⟨_, rfl⟩
  rw [hR]
  have HR : Hid (l.contains s.data.toList = R) := hR
  clear hn hR
  go_enter Tryz.func54, Tryz.ntmps54
  go_wp2
  go_loop [9] (fun i => ∃ k : Nat, i = .int .i64 (k : Int) ∧ k ≤ n ∧ Hid (s.data.toList ∉ l.take k)) (fun i => n - (intOf i).toNat)
  case atStart => exact ⟨0, rfl, Nat.zero_le _, by show _ ∉ _; simp⟩
  case round =>
    obtain ⟨k, rfl, hk, HK⟩ := hrel
    have hnn := HN.out
    by_cases hlt : k < n
    · rcases ha with rfl | ⟨b, o, rfl, hat⟩
      · simp at hnn; omega
      have hkl : k < l.length := by omega
      have c1 := hat k _ (List.getElem?_eq_getElem hkl)
      obtain ⟨u, hu⟩ : ∃ u : ByteArray, ⟨l[k].toArray⟩ = u := ⟨_, rfl⟩
      have c2 : w.cell? ⟨b, o + k, none⟩ = some (.string u) := by rw [← hu]; exact c1
      have HU : Hid (u.data.toList = l[k]) := by show u.data.toList = _; rw [← hu]
      clear hat c1 hu hnn
      by_cases hq : u = s
      · subst hq
        have HC : Hid (R = true) := by
          show R = true
          rw [← HR.out, HU.out]; simp
        go_wp2
        go_ret
        exact ⟨by rw [HC.out]; rfl, rfl⟩
      · have hne : (u.toList == s.toList) = false := by
          rw [Lib.toList_data, Lib.toList_data, beq_eq_false_iff_ne]
          exact fun h => hq (ba_eq h)
        have HNE : Hid (s.data.toList ≠ u.data.toList) := fun h => hq (ba_eq h.symm)
        clear hq
        go_wp2
        go_round
        case rel => exact ⟨k + 1, by go_num, by omega, by
          show _ ∉ _
          rw [List.take_succ_eq_append_getElem hkl, List.mem_append, List.mem_singleton]
          rintro (h | h)
          · exact HK.out h
          · exact HNE.out (h.trans HU.out.symm)⟩
        case measure => simp [intOf]; omega
    · have HC : Hid (R = false) := by
        show R = false
        rw [← HR.out, Bool.eq_false_iff]
        intro h
        have := HK.out
        rw [List.take_of_length_le (by omega)] at this
        exact this (List.contains_iff_mem.1 h)
      clear ha hnn
      go_wp2
      go_ret
      exact ⟨by rw [HC.out]; rfl, rfl⟩
set_option maxHeartbeats 1000000 in
set_option maxRecDepth 100000 in
theorem ref_without (va vb : Value) (x y : List Tx) (w : World) (ha : Sl w va x) (hb : Sl w vb y) (hx : x.length ≤ 400) (hy : y.length ≤ 400) :
    Calls Tryz.prog 51 #[va, vb] w fun e w' => (∃ v', e = .returned v' ∧ Sl w' v' (without x y)) ∧ Below w.heap.size w w' := by
  have rb : ∀ W, Below w.heap.size w W → Sl W va x ∧ Sl W vb y := fun W h => ⟨ha.below h (Nat.le_refl _), hb.below h (Nat.le_refl _)⟩
  obtain ⟨a, c, rfl, _, _⟩ := ha
  obtain ⟨n, hn⟩ : ∃ n, x.length = n := ⟨_, rfl⟩
  rw [hn] at hx rb ⊢
  have HN : Hid (x.length = n) := hn
  clear hn hb
  go_enter Tryz.func51, Tryz.ntmps51
  go_wp2
  go_loopw [5, 10] (fun rv i wr => ∃ (k : Nat) (ns : List Tx), i = .int .i64 (k : Int) ∧ k ≤ n ∧ ns.length ≤ k ∧ wr.ownsRow w.heap.size 9 1 rv ns.length (ns.map encStr) ∧ Hid (without (x.take k) y = ns) ∧ Below w.heap.size w wr) (fun _ i _ => n - (intOf i).toNat)
  case atStart => exact ⟨0, [], rfl, by omega, Nat.le_refl _, World.ownsRow_nil _ _ _ _, rfl, Below.refl _ _⟩
  case round =>
    obtain ⟨k, ns, rfl, hk, hnl, hrow, HW, hbW⟩ := hrel
    have hnn := HN.out
    by_cases hlt : k < n
    · obtain ⟨⟨a', c', hv, _, hd⟩, hsy⟩ := rb _ hbW
      rw [hnn] at hv
      cases hv
      rcases hd with h0 | ⟨b, o, rfl, hat⟩
      · rw [h0] at hnn; simp at hnn; omega
      have hkl : k < x.length := by omega
      have c1 := hat k _ (List.getElem?_eq_getElem hkl)
      obtain ⟨u, hu⟩ : ∃ u : ByteArray, ⟨x[k].toArray⟩ = u := ⟨_, rfl⟩
      have c2 : wr.cell? ⟨b, o + k, none⟩ = some (.string u) := by rw [← hu]; exact c1
      have HU : Hid (u.data.toList = x[k]) := by show u.data.toList = _; rw [← hu]
      have HE : Hid (encStr x[k] = .string u) := by show encStr x[k] = _; rw [← hu]
      have cH := ref_holds vb y u wr hsy (by omega)
      rw [HU.out] at cH
      have hst : without (x.take (k + 1)) y = ns ++ (if y.contains x[k] then [] else [x[k]]) := by
        rw [List.take_succ_eq_append_getElem hkl, ← HW.out]
        unfold without
        rw [List.filter_append]
        cases hc : y.contains x[k]
        · have : List.filter (fun t => !y.contains t) [x[k]] = [x[k]] := by rw [List.filter_cons_of_pos (by rw [hc]; rfl)]; rfl
          rw [this]; rfl
        · have : List.filter (fun t => !y.contains t) [x[k]] = [] := by rw [List.filter_cons_of_neg (by rw [hc]; simp)]; rfl
          rw [this]; rfl
      obtain ⟨C, hC⟩ : ∃ C, y.contains x[k] = C := ⟨_, rfl⟩
      rw [hC] at cH hst
      have HST : Hid (without (x.take (k + 1)) y = ns ++ (if C then [] else [x[k]])) := hst
      have hbs := hbW.size
      clear hat c1 hu hnn rb hsy hst hC
      cases C
      · go_wp2_with fail
        refine cH.mono ?_
        rintro e w1 ⟨rfl, hw⟩
        obtain rfl : wr = w1 := hw.symm
        go_wp2_with (at_builtin; go_must (refine wpList_push rfl (.tmp 18) (.tmp 20) 35 rfl _ w.heap.size 9 (.string ⟨#[]⟩) 16 Tryz.underlying35 Tryz.infoStr rfl _ _ _ (by rfl) hrow [.string u] _ (by rfl) (by simp) (by simp [Value.oneCell']) (by simp) (by rfl) (by decide) (by simp; omega) hbs ?_); intro g1 cap1 w9 hown1 hg1 hlt1)
        have hb9 : Below w.heap.size w w9 := hbW.grown hg1 hbs (fun j e => (hrow.lt j e).1)
        go_roundw
        case rel => exact ⟨k + 1, ns ++ [x[k]], by go_num, by omega, by simp; omega, by rw [List.map_append, List.length_append, show [x[k]].map encStr = [Value.string u] from by rw [← HE.out]; rfl]; exact hown1, by show _ = _; rw [HST.out]; rfl, hb9⟩
        case measure => simp [intOf]; omega
      · go_wp2_with fail
        refine cH.mono ?_
        rintro e w1 ⟨rfl, hw⟩
        obtain rfl : wr = w1 := hw.symm
        go_wp2_with fail
        go_roundw
        case rel => exact ⟨k + 1, ns, by go_num, by omega, by omega, hrow, by show _ = _; rw [HST.out]; simp, hbW⟩
        case measure => simp [intOf]; omega
    · have HX : Hid (without x y = ns) := by
        have := HW.out
        rw [List.take_of_length_le (by omega)] at this
        exact this
      clear rb hnn
      go_wp2
      go_ret
      refine ⟨⟨_, rfl, ?_⟩, hbW⟩
      rw [HX.out]
      exact Sl.of_row hrow
end Go.Proofs.YtgpcnacpefficaaGreatDoor
namespace Go.Proofs.YtgpcnacpefficaaGreatDoor
open Go.RowKit Go.Proofs.Aid Go.Proofs.Fl

theorem ref_five (j : Nat) (hj : j < 5) (w : World) : Calls Tryz.prog 55 #[.int .i64 (j : Int)] w fun e w' => e = .returned (.string (sysB j)) ∧ w' = w := by
  have i0 := Tryz.ix0
  have i1 := Tryz.ix1
  have i2 := Tryz.ix2
  have i3 := Tryz.ix3
  have i4 := Tryz.ix4
  have : j = 0 ∨ j = 1 ∨ j = 2 ∨ j = 3 ∨ j = 4 := by omega
  rcases this with rfl | rfl | rfl | rfl | rfl
  all_goals
    go_enter Tryz.func55, Tryz.ntmps55
    go_wp2
    go_ret
    exact ⟨rfl, rfl⟩
theorem conv_z (c : UInt8) (z : Int) (h : (c.toNat : Int) = z) (w : World) : (convert 92 9 (.slice (some ⟨w.heap.size, 0, none⟩) 1 1)).run Tryz.prog (w.alloc (.cells #[.int .u8 z] 5)) = .ok (.string ⟨#[c]⟩) (w.alloc (.cells #[.int .u8 z] 5)) := by
  subst h
  exact run_convert_bytes_back _ 92 9 5 ⟨w.heap.size, 0, none⟩ 1 [c] Tryz.underlying92 Tryz.underlying5 Tryz.underlying9 (fun j hj => by
    obtain rfl : j = 0 := by simpa using hj
    simp [Addr.add])
theorem back_list (c : UInt8) (t : ByteArray) : (t ++ (⟨#[c]⟩ : ByteArray)).data.toList = t.data.toList ++ [c] := by
  rw [Joins.data_append]
theorem back_size (c : UInt8) (t : ByteArray) : (t ++ (⟨#[c]⟩ : ByteArray)).size = t.size + 1 := by
  rw [Lib.size_eq, back_list, List.length_append, ← Lib.size_eq]; rfl
theorem sm_snoc {l : Tx} {k : Nat} (hk : k < l.length) : (l.take (k + 1)).map sm = (l.take k).map sm ++ [sm l[k]] := by
  rw [List.take_succ_eq_append_getElem hk, List.map_append]; rfl
set_option maxHeartbeats 1000000 in
set_option maxRecDepth 100000 in
theorem ref_small (s : ByteArray) (w : World) (hs : s.size ≤ 1000000) : Calls Tryz.prog 63 #[.string s] w fun e w' => (∃ t : ByteArray, e = .returned (.string t) ∧ t.data.toList = s.data.toList.map sm) ∧ Below w.heap.size w w' := by
  have hla : s.data.toList.length = s.size := by show s.data.toList.length = s.data.size; simp
  go_enter Tryz.func63, Tryz.ntmps63
  go_wp2
  go_loopw [3, 8] (fun ov i wr => ∃ (k : Nat) (t : ByteArray), i = .int .i64 (k : Int) ∧ k ≤ s.size ∧ ov = .string t ∧ t.size = k ∧ Hid (t.data.toList = (s.data.toList.take k).map sm) ∧ Below w.heap.size w wr) (fun _ i _ => s.size - (intOf i).toNat)
  case atStart => exact ⟨0, ⟨#[]⟩, rfl, Nat.zero_le _, rfl, rfl, rfl, Below.refl _ _⟩
  case round =>
    obtain ⟨k, t, rfl, hk, rfl, htk, HT, hbW⟩ := hrel
    by_cases hlt : k < s.size
    · have hkl : k < s.data.toList.length := by omega
      have hc := s[k].toNat_lt
      by_cases hq : 65 ≤ s[k].toNat ∧ s[k].toNat ≤ 90
      · have h1 : decide ((65 : Int) ≤ (s[k].toNat : Int)) = true := by simp; omega
        have h2 : decide ((s[k].toNat : Int) ≤ 90) = true := by simp; omega
        have hsm : (sm s[k]).toNat = s[k].toNat + 32 := by
          unfold sm; rw [if_pos hq, UInt8.toNat_add]
          show (s[k].toNat + 32) % 256 = _
          omega
        have hcv := conv_z (sm s[k]) ((s[k].toNat : Int) + 32) (by omega) wr
        obtain ⟨C, hC⟩ : ∃ C, sm s[k] = C := ⟨_, rfl⟩
        have HC : Hid (sm s.data.toList[k] = C) := hC
        rw [hC] at hcv
        have hsz : t.size + (⟨#[C]⟩ : ByteArray).size ≤ 1000001 := by show t.size + 1 ≤ _; omega
        clear hsm hC
        go_wp2
        go_roundw
        case rel => exact ⟨k + 1, t ++ ⟨#[C]⟩, by go_num, by omega, rfl, by rw [back_size, htk], by show _ = _; rw [back_list, sm_snoc hkl, HT.out, HC.out], hbW.alloc hbW.size _⟩
        case measure => simp [intOf]; omega
      · have hsm : sm s[k] = s[k] := by unfold sm; rw [if_neg hq]
        have hcv := conv_z s[k] (s[k].toNat : Int) rfl wr
        have HC : Hid (sm s.data.toList[k] = s[k]) := hsm
        have hsz : t.size + (⟨#[s[k]]⟩ : ByteArray).size ≤ 1000001 := by show t.size + 1 ≤ _; omega
        clear hsm
        by_cases h1 : 65 ≤ s[k].toNat
        · have h1' : decide ((65 : Int) ≤ (s[k].toNat : Int)) = true := by simp; omega
          have h2' : decide ((s[k].toNat : Int) ≤ 90) = false := by simp; omega
          go_wp2
          go_roundw
          case rel => exact ⟨k + 1, t ++ ⟨#[s[k]]⟩, by go_num, by omega, rfl, by rw [back_size, htk], by show _ = _; rw [back_list, sm_snoc hkl, HT.out, HC.out], hbW.alloc hbW.size _⟩
          case measure => simp [intOf]; omega
        · have h1' : decide ((65 : Int) ≤ (s[k].toNat : Int)) = false := by simp; omega
          go_wp2
          go_roundw
          case rel => exact ⟨k + 1, t ++ ⟨#[s[k]]⟩, by go_num, by omega, rfl, by rw [back_size, htk], by show _ = _; rw [back_list, sm_snoc hkl, HT.out, HC.out], hbW.alloc hbW.size _⟩
          case measure => simp [intOf]; omega
    · have HE : Hid (t.data.toList = s.data.toList.map sm) := by
        have := HT.out
        rw [List.take_of_length_le (by omega)] at this
        exact this
      clear htk
      go_wp2
      go_ret
      exact ⟨⟨t, rfl, HE.out⟩, hbW⟩
end Go.Proofs.YtgpcnacpefficaaGreatDoor
