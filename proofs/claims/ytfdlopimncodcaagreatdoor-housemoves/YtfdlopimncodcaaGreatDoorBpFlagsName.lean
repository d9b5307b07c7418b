/-
  What flags, and more.
-/
import Derived.Test.YtfdlopimncodcaaGreatDoorBpFlagsRow
namespace Go.Proofs.YtfdlopimncodcaaGreatDoor
open Go.RowKit Go.Proofs.Aid Go.Proofs.Fl

/-- What Name tells of an error. -/
theorem name_any (s : ByteArray) (w : World) (hs : s.size ≤ 2000000) (hg : SysAt w)
    (cH : ∀ W, Calls Tryz.prog 33 #[.string s, .string ⟨#[92]⟩] W fun e w' => e = .returned (.bool (Lib.hasPrefix s.data.toList [92])) ∧ w' = W) :
    Calls Tryz.prog 144 #[.string s] w fun e w' =>
      (((fname s.data.toList).2 = 0 ∧ ∃ n : ByteArray, n.data.toList = (fname s.data.toList).1 ∧ e = .returned (.tuple #[.string n, .nilIface])) ∨ ((fname s.data.toList).2 ≠ 0 ∧ e = .returned (.tuple #[.string ⟨#[]⟩, .iface 42 (.int .i64 (fname s.data.toList).2)]))) ∧ ∃ n, w' = w.drewN n := by
  have hpre : Lib.hasPrefix s.data.toList [92] = decide (s.data.toList.head? = some 92) := by
    cases s.data.toList with
    | nil => rfl
    | cons c l =>
      show (List.isPrefixOf [92] (c :: l)) = _
      by_cases h : c = 92
      · subst h; simp [List.isPrefixOf]
      · have : ¬ (92 : UInt8) = c := fun e => h e.symm
        simp [List.isPrefixOf, h, this]
  have hla : s.data.toList.length = s.size := by show s.data.toList.length = s.data.size; simp
  rw [hpre] at cH
  by_cases h1 : s.data.toList.head? = some 92
  · have cS := fun W hW => system_any s W hs hW
    rw [decide_eq_true h1] at cH
    clear hpre
    go_enter Tryz.func144, Tryz.ntmps144
    go_wp2_with (first | (go_at_call 33; refine (cH _).mono ?_; rintro e w1 ⟨rfl, rfl⟩) | fail)
    refine (cS _ hg).mono ?_
    rintro e w2 ⟨⟨j, hj, hf, rfl⟩ | ⟨hf, rfl⟩, m, rfl⟩
    · have HF : Hid (five.find? (sameL s.data.toList) = some (five.getD j [])) := hf
      clear hf
      go_wp2
      go_ret2
      refine ⟨Or.inl ?_, m, rfl⟩
      have : fname s.data.toList = (five.getD j [], 0) := by unfold fname; rw [if_pos h1, HF.out]
      rw [this]
      exact ⟨rfl, sysB j, sysB_data j, rfl⟩
    · have HF : Hid (five.find? (sameL s.data.toList) = none) := hf
      clear hf
      go_wp2
      go_ret2
      refine ⟨Or.inr ?_, m, rfl⟩
      have : fname s.data.toList = ([], 3) := by unfold fname; rw [if_pos h1, HF.out]
      rw [this]
      exact ⟨by decide, rfl⟩
  · rw [decide_eq_false h1] at cH
    have cK := fun W => keyword_any s W hs
    obtain ⟨K, hK⟩ : ∃ K, (s.data.toList.all kw && !s.data.toList.isEmpty) = K := ⟨_, rfl⟩
    rw [hK] at cK
    clear hpre hg
    cases K
    · have HF : Hid (fname s.data.toList = ([], 3)) := by
        show fname s.data.toList = ([], 3)
        unfold fname
        rw [if_neg h1, if_pos]
        rw [Bool.and_eq_false_iff] at hK
        rcases hK with h | h
        · exact Or.inr h
        · exact Or.inl (by simpa using h)
      rw [HF.out]
      clear hK
      go_enter Tryz.func144, Tryz.ntmps144
      go_wp2_with (first | (go_at_call 33; refine (cH _).mono ?_; rintro e w1 ⟨rfl, rfl⟩) | (go_at_call 173; refine (cK _).mono ?_; rintro e w1 ⟨rfl, rfl⟩))
      go_ret2
      exact ⟨Or.inr ⟨by decide, rfl⟩, 0, rfl⟩
    · have hk2 : ¬ (s.data.toList = [] ∨ s.data.toList.all kw = false) := by
        rw [Bool.and_eq_true] at hK
        rintro (h | h)
        · rw [h] at hK; simp at hK
        · rw [h] at hK; simp at hK
      clear hK
      by_cases h20 : 20 < s.size
      · have HF : Hid (fname s.data.toList = ([], 4)) := by
          show fname s.data.toList = ([], 4)
          unfold fname
          rw [if_neg h1, if_neg hk2, if_pos (by omega)]
        rw [HF.out]
        have g : (20 : Int) < (s.size : Int) := by omega
        clear hk2
        go_enter Tryz.func144, Tryz.ntmps144
        go_wp2_with (first | (go_at_call 33; refine (cH _).mono ?_; rintro e w1 ⟨rfl, rfl⟩) | (go_at_call 173; refine (cK _).mono ?_; rintro e w1 ⟨rfl, rfl⟩))
        go_ret2
        exact ⟨Or.inr ⟨by decide, rfl⟩, 0, rfl⟩
      · have HF : Hid (fname s.data.toList = (s.data.toList, 0)) := by
          show fname s.data.toList = (s.data.toList, 0)
          unfold fname
          rw [if_neg h1, if_neg hk2, if_neg (by omega)]
        rw [HF.out]
        have g : ¬ (20 : Int) < (s.size : Int) := by omega
        clear hk2
        go_enter Tryz.func144, Tryz.ntmps144
        go_wp2_with (first | (go_at_call 33; refine (cH _).mono ?_; rintro e w1 ⟨rfl, rfl⟩) | (go_at_call 173; refine (cK _).mono ?_; rintro e w1 ⟨rfl, rfl⟩))
        go_ret2
        exact ⟨Or.inl ⟨trivial, s, rfl, rfl⟩, 0, rfl⟩
end Go.Proofs.YtfdlopimncodcaaGreatDoor

-- PRUNED
/-
  slices.Concat of two slices of texts; flags.Or; flags.Has.
-/
namespace Go.Proofs.YtfdlopimncodcaaGreatDoor
open Go.RowKit Go.Proofs.Aid Go.Proofs.Fl Go.Sort Go.Lib

theorem contains_eq (l : List Tx) (x : Tx) : Lib.containsS (bas l) ⟨x.toArray⟩ = l.contains x := by
  rw [Bool.eq_iff_iff, Lib.containsS_iff, List.contains_iff_mem]
  unfold bas
  rw [List.mem_map]
  constructor
  · rintro ⟨t, ht, h⟩
    have : t = x := by simpa using congrArg (fun s : ByteArray => s.data.toList) h
    rw [← this]; exact ht
  · intro h; exact ⟨x, h, rfl⟩
theorem contains_txs (v : Value) (l : List Tx) (x : Tx) (w : World) (h : Sl w v l) (hl : l.length ≤ 1000) :
    Calls Tryz.prog 61 #[v, encStr x] w fun e w' => e = .returned (.bool (l.contains x)) ∧ w' = w := by
  obtain ⟨a, c, rfl, h0, ha⟩ := h
  rcases ha with rfl | ⟨b, o, rfl, hat⟩
  · exact Tryz.slices_Contains_string_empty a c ⟨x.toArray⟩ w
  · have := Tryz.slices_Contains_string b o l.length c (bas l) ⟨x.toArray⟩ w (by rw [bas_length]; exact Nat.le_refl _) (by omega) (cells_bas hat)
    rw [List.take_of_length_le (by rw [bas_length]; exact Nat.le_refl _), contains_eq] at this
    exact this
end Go.Proofs.YtfdlopimncodcaaGreatDoor
namespace Go.Proofs.YtfdlopimncodcaaGreatDoor
open Go.RowKit Go.Proofs.Aid Go.Proofs.Fl Go.Sort Go.Lib

theorem namesOf_append : ∀ (a b : List Tx), namesOf (a ++ b) = if (namesOf a).2 ≠ 0 then ([], (namesOf a).2) else if (namesOf b).2 ≠ 0 then ([], (namesOf b).2) else ((namesOf a).1 ++ (namesOf b).1, 0)
  | [], b => by
    have h0 : (namesOf []).2 = 0 := rfl
    rw [if_neg (by simp [h0]), List.nil_append]
    by_cases hb : (namesOf b).2 = 0
    · rw [if_neg (by simp [hb])]
      show namesOf b = ((namesOf b).1, 0)
      rw [← hb]
    · rw [if_pos hb]
      cases b with
      | nil => exact absurd rfl hb
      | cons t b =>
        rw [namesOf] at hb ⊢
        split at hb
        · next h => simp [h]
        · next h =>
          split at hb
          · next h2 => simp [h, h2]
          · exact absurd rfl hb
  | s :: a, b => by
    rw [List.cons_append, namesOf, namesOf_append a b, namesOf]
    by_cases h1 : (fname s).2 = 0
    · by_cases h2 : (namesOf a).2 = 0
      · by_cases h3 : (namesOf b).2 = 0
        · simp [h1, h2, h3]
        · simp [h1, h2, h3]
      · simp [h1, h2]
    · simp [h1]
theorem namesOf_one (s : Tx) : namesOf [s] = if (fname s).2 ≠ 0 then ([], (fname s).2) else ([(fname s).1], 0) := by
  rw [namesOf]
  by_cases h : (fname s).2 = 0 <;> simp [h, namesOf]
theorem names_step {l : List Tx} {k : Nat} {ns : List Tx} (hk : k < l.length) (h : namesOf (l.take k) = (ns, 0)) (he : (fname l[k]).2 = 0) : namesOf (l.take (k + 1)) = (ns ++ [(fname l[k]).1], 0) := by
  rw [List.take_succ_eq_append_getElem hk, namesOf_append, h, namesOf_one]
  simp [he]
theorem names_stop {l : List Tx} {k : Nat} {ns : List Tx} (hk : k < l.length) (h : namesOf (l.take k) = (ns, 0)) (he : (fname l[k]).2 ≠ 0) : setOf l = ([], (fname l[k]).2) := by
  have h1 : namesOf (l.take (k + 1)) = ([], (fname l[k]).2) := by
    rw [List.take_succ_eq_append_getElem hk, namesOf_append, h, namesOf_one]
    simp [he]
  have h2 : (namesOf l).2 = (fname l[k]).2 := by
    conv => lhs; rw [← List.take_append_drop (k + 1) l, namesOf_append, h1]
    simp [he]
  unfold setOf
  rw [if_pos (by rw [h2]; exact he), h2]
set_option maxHeartbeats 2000000 in
set_option maxRecDepth 100000 in
theorem set_any (v : Value) (l : List Tx) (w : World) (h : Sl w v l) (hl : l.length ≤ 400) (hs : ∀ t ∈ l, t.length ≤ 1000000) (hg : SysAt w) :
    Calls Tryz.prog 100 #[v] w fun e w' => (((setOf l).2 = 0 ∧ ∃ v', e = .returned (.tuple #[v', .nilIface]) ∧ Sl w' v' (setOf l).1) ∨ ((setOf l).2 ≠ 0 ∧ e = .returned (.tuple #[.slice none 0 0, .iface 42 (.int .i64 (setOf l).2)]))) ∧ Below w.heap.size w w' := by
  have hgl := hg.lt
  have hk : ∀ W, Below w.heap.size w W → Sl W v l ∧ SysAt W := fun W hb => ⟨h.below hb (Nat.le_refl _), hg.below hb hgl⟩
  obtain ⟨a, c, rfl, _, _⟩ := h
  obtain ⟨len, hn⟩ : ∃ n, l.length = n := ⟨_, rfl⟩
  rw [hn] at hl hk ⊢
  have HS : Hid (∀ t ∈ l, t.length ≤ 1000000) := hs
  clear hs
  go_enter Tryz.func100, Tryz.ntmps100
  go_wp2
  go_loopw [4, 11] (fun rv i wr => ∃ (k : Nat) (ns : List Tx), i = .int .i64 (k : Int) ∧ k ≤ len ∧ ns.length = k ∧ wr.ownsRow w.heap.size 9 1 rv ns.length (ns.map encStr) ∧ Hid (namesOf (l.take k) = (ns, 0)) ∧ Below w.heap.size w wr) (fun _ i _ => len - (intOf i).toNat)
  case atStart => exact ⟨0, [], rfl, by omega, rfl, World.ownsRow_nil _ _ _ _, rfl, Below.refl _ _⟩
  case round =>
    obtain ⟨k, ns, rfl, hkl, hnl, hrow, HN, hbW⟩ := hrel
    subst hnl
    by_cases hlt : ns.length < len
    · obtain ⟨⟨a', c', hv, _, hd⟩, hgW⟩ := hk _ hbW
      cases hv
      rcases hd with h0 | ⟨b, o, rfl, hat⟩
      · rw [h0] at hlt; exact absurd hlt (by simp)
      have hkk : ns.length < l.length := by omega
      have c1 := hat ns.length _ (List.getElem?_eq_getElem hkk)
      have hts : l[ns.length].length ≤ 1000000 := HS.out _ (List.getElem_mem _)
      obtain ⟨t, ht⟩ : ∃ t, l[ns.length] = t := ⟨_, rfl⟩
      have HT : Hid (l[ns.length] = t) := ht
      rw [ht] at c1 hts
      obtain ⟨s, hse⟩ : ∃ s : ByteArray, ⟨t.toArray⟩ = s := ⟨_, rfl⟩
      have hst : s.data.toList = t := by rw [← hse]
      have hsz : s.size ≤ 1000000 := by rw [← hse]; simpa [ByteArray.size] using hts
      have c2 : wr.cell? ⟨b, o + ns.length, none⟩ = some (.string s) := by rw [← hse]; exact c1
      have cN := name_any s wr (by omega) hgW (fun W => Tryz.strings_HasPrefix s ⟨#[92]⟩ W)
      rw [hst] at cN
      have hbs := hbW.size
      clear hat ht hse hst c1 hts hgW hk
      go_wp2_with fail
      refine cN.mono ?_
      rintro e w1 ⟨⟨h0, n, hnn, rfl⟩ | ⟨h0, rfl⟩, q, rfl⟩
      · have HE : Hid (namesOf (l.take (ns.length + 1)) = (ns ++ [(fname t).1], 0)) := by
          have := names_step hkk HN.out (by rw [HT.out]; exact h0)
          rw [HT.out] at this; exact this
        have HNN : Hid (n.data.toList = (fname t).1) := hnn
        have hrowq : (wr.drewN q).ownsRow w.heap.size 9 1 u4 ns.length (ns.map encStr) := hrow
        have hbq : Below w.heap.size w (wr.drewN q) := below_drewN hbW q
        clear hnn h0 cN hrow
        go_wp2_with (at_builtin; go_must (refine wpList_push rfl (.tmp 23) (.tmp 25) 32 rfl _ w.heap.size 9 (.string ⟨#[]⟩) 16 Tryz.underlying32 Tryz.infoStr rfl _ _ _ (by rfl) hrowq [.string n] _ (by rfl) (by simp) (by simp [Value.oneCell']) (by simp) (by rfl) (by decide) (by simp; omega) hbs ?_); intro g1 cap1 w9 hown1 hg1 hlt1)
        have hb9 : Below w.heap.size w w9 := hbq.grown hg1 hbs (fun j e => (hrowq.lt j e).1)
        go_roundw
        case rel => exact ⟨ns.length + 1, ns ++ [(fname t).1], by go_num, by omega, by simp, by rw [← HNN.out]; simpa [encStr] using hown1, HE.out, hb9⟩
        case measure => simp [intOf]; omega
      · have HE : Hid (setOf l = ([], (fname t).2)) := by
          have := names_stop hkk HN.out (by rw [HT.out]; exact h0)
          rw [HT.out] at this; exact this
        clear cN hrow
        go_wp2_with fail
        go_ret2
        exact ⟨Or.inr (by rw [HE.out]; exact ⟨h0, rfl⟩), below_drewN hbW q⟩
    · have hke : ns.length = len := by omega
      have HA : Hid (namesOf l = (ns, 0)) := by
        have := HN.out
        rw [List.take_of_length_le (by omega)] at this
        exact this
      have cO := order_row w.heap.size _ ns _ hrow hbW.size (by omega) (hk _ hbW).2 hgl
      clear hrow hk
      go_wp2_with fail
      refine cO.mono ?_
      rintro e w2 ⟨⟨v2, rfl, h2⟩, hb2⟩
      have hs2 := Sl.of_row h2
      obtain ⟨oa, oc, rfl⟩ := row_form h2
      have hset : setOf l = if 12 < (order ns).length then ([], 4) else (order ns, 0) := by
        unfold setOf
        rw [HA.out]
        simp
      obtain ⟨m, hm⟩ : ∃ m, (order ns).length = m := ⟨_, rfl⟩
      rw [hm] at hset hs2 ⊢
      have HSET : Hid (setOf l = if 12 < m then ([], 4) else (order ns, 0)) := hset
      clear hset cO h2 hm
      by_cases h12 : 12 < m
      · have h12' : (12 : Int) < (m : Int) := by omega
        go_wp2_with fail
        go_ret2
        exact ⟨Or.inr (by rw [HSET.out, if_pos h12]; exact ⟨by decide, rfl⟩), hbW.trans hb2⟩
      · have h12' : ¬ (12 : Int) < (m : Int) := by omega
        go_wp2_with fail
        go_ret2
        exact ⟨Or.inl (by rw [HSET.out, if_neg h12]; exact ⟨rfl, _, rfl, hs2⟩), hbW.trans hb2⟩
end Go.Proofs.YtfdlopimncodcaaGreatDoor
