/-
  The document's answer on a set of flags.
-/
import Derived.Test.YtneipabooahihaaGreatDoorRefOrdered
import Derived.Test.YtneipabooahihaaGreatDoorFlagsSet
namespace Go.Proofs.YtneipabooahihaaGreatDoor
open Go.RowKit Go.Proofs.Aid Go.Proofs.Fl Go.Sort Go.Lib

theorem fname_len (s : Tx) : (fname s).1.length ≤ s.length + 10 := by
  unfold fname
  split
  · split
    · next n h =>
      have hm := List.mem_of_find?_eq_some h
      have : ∀ u ∈ five, u.length ≤ 10 := by decide
      have := this n hm
      show n.length ≤ _
      omega
    · simp
  · split
    · simp
    · split <;> simp
set_option maxHeartbeats 2000000 in
set_option maxRecDepth 100000 in
theorem ref_set (v : Value) (l : List Tx) (w : World) (h : Sl w v l) (hl : l.length ≤ 400) (hs : ∀ t ∈ l, t.length ≤ 900000) :
    Calls Tryz.prog 20 #[v] w fun e w' => (∃ v', e = .returned (.tuple #[v', .int .i64 (setOf l).2]) ∧ Sl w' v' (setOf l).1) ∧ Below w.heap.size w w' := by
  have hk : ∀ W, Below w.heap.size w W → Sl W v l := fun W hb => h.below hb (Nat.le_refl _)
  obtain ⟨a, c, rfl, _, _⟩ := h
  obtain ⟨len, hn⟩ : ∃ n, l.length = n := ⟨_, rfl⟩
  rw [hn] at hl hk ⊢
  have HS : Hid (∀ t ∈ l, t.length ≤ 900000) := hs
  clear hs
  go_enter Tryz.func20, Tryz.ntmps20
  go_wp2
  go_loopw [4, 12] (fun rv i wr => ∃ (k : Nat) (ns : List Tx), i = .int .i64 (k : Int) ∧ k ≤ len ∧ ns.length = k ∧ wr.ownsRow w.heap.size 9 1 rv ns.length (ns.map encStr) ∧ Hid (namesOf (l.take k) = (ns, 0) ∧ ∀ t ∈ ns, t.length ≤ 1000000) ∧ Below w.heap.size w wr) (fun _ i _ => len - (intOf i).toNat)
  case atStart => exact ⟨0, [], rfl, by omega, rfl, World.ownsRow_nil _ _ _ _, ⟨rfl, by simp⟩, Below.refl _ _⟩
  case round =>
    obtain ⟨k, ns, rfl, hkl, hnl, hrow, HN, hbW⟩ := hrel
    subst hnl
    by_cases hlt : ns.length < len
    · obtain ⟨a', c', hv, _, hd⟩ := hk _ hbW
      cases hv
      rcases hd with h0 | ⟨b, o, rfl, hat⟩
      · rw [h0] at hlt; exact absurd hlt (by simp)
      have hkk : ns.length < l.length := by omega
      have c1 := hat ns.length _ (List.getElem?_eq_getElem hkk)
      have hts : l[ns.length].length ≤ 900000 := HS.out _ (List.getElem_mem _)
      obtain ⟨t, ht⟩ : ∃ t, l[ns.length] = t := ⟨_, rfl⟩
      have HT : Hid (l[ns.length] = t) := ht
      rw [ht] at c1 hts
      have HTL : Hid (t.length ≤ 900000) := hts
      obtain ⟨s, hse⟩ : ∃ s : ByteArray, ⟨t.toArray⟩ = s := ⟨_, rfl⟩
      have hst : s.data.toList = t := by rw [← hse]
      have hsz : s.size ≤ 1000000 := by rw [← hse]; have : t.toArray.size ≤ 900000 := by simpa using hts
                                        simp only [ByteArray.size]; omega
      have c2 : wr.cell? ⟨b, o + ns.length, none⟩ = some (.string s) := by rw [← hse]; exact c1
      have cN := ref_name s wr hsz
      rw [hst] at cN
      obtain ⟨ec, hec⟩ : ∃ ec, (fname t).2 = ec := ⟨_, rfl⟩
      rw [hec] at cN
      have HEC : Hid ((fname t).2 = ec) := hec
      have hbs := hbW.size
      clear hat ht hse hst c1 hts hk hec
      go_wp2_with fail
      refine cN.mono ?_
      rintro e w1 ⟨⟨n, rfl, hnn⟩, hb1⟩
      have hrow1 := row_below hb1 (Nat.le_refl _) hrow
      have hb01 := hbW.trans (hb1.mono hbs)
      have hbs1 := hb01.size
      have HNN : Hid (n.data.toList = (fname t).1) := hnn
      clear hnn cN hrow
      by_cases h0 : ec = 0
      · have HE : Hid (namesOf (l.take (ns.length + 1)) = (ns ++ [(fname t).1], 0)) := by
          have := names_step hkk HN.out.1 (by rw [HT.out, HEC.out]; exact h0)
          rw [HT.out] at this; exact this
        subst h0
        go_wp2_with (at_builtin; go_must (refine wpList_push rfl (.tmp 24) (.tmp 26) 41 rfl _ w.heap.size 9 (.string ⟨#[]⟩) 16 Tryz.underlying41 Tryz.infoStr rfl _ _ _ (by rfl) hrow1 [.string n] _ (by rfl) (by simp) (by simp [Value.oneCell']) (by simp) (by rfl) (by decide) (by simp; omega) hbs1 ?_); intro g1 cap1 w9 hown1 hg1 hlt1)
        have hb9 : Below w.heap.size w w9 := hb01.grown hg1 hbs1 (fun j e => (hrow1.lt j e).1)
        go_roundw
        case rel => exact ⟨ns.length + 1, ns ++ [(fname t).1], by go_num, by omega, by simp, by rw [← HNN.out]; simpa [encStr] using hown1, ⟨HE.out, fun u hu => by
          rcases List.mem_append.1 hu with h | h
          · exact HN.out.2 u h
          · rw [List.mem_singleton.1 h]; have := fname_len t; have := HTL.out; omega⟩, hb9⟩
        case measure => simp [intOf]; omega
      · have HE : Hid (setOf l = ([], ec)) := by
          have := names_stop hkk HN.out.1 (by rw [HT.out, HEC.out]; exact h0)
          rw [HT.out, HEC.out] at this; exact this
        clear hrow1
        go_wp2_with fail
        go_ret2
        rw [HE.out]
        exact ⟨⟨_, rfl, ⟨none, 0, rfl, ⟨fun _ => rfl, Nat.le_refl _⟩, Or.inl rfl⟩⟩, hb01⟩
    · have hke : ns.length = len := by omega
      have HA : Hid (namesOf l = (ns, 0)) := by
        have := HN.out.1
        rw [List.take_of_length_le (by omega)] at this
        exact this
      have cO := ref_ordered _ ns _ (Sl.of_row hrow) (by omega) HN.out.2
      clear hrow hk
      go_wp2_with fail
      refine cO.mono ?_
      rintro e w2 ⟨⟨v2, rfl, hs2⟩, hb2⟩
      have hset : setOf l = if 12 < (order ns).length then ([], 4) else (order ns, 0) := by
        unfold setOf
        rw [HA.out]
        simp
      have hs3 := hs2
      obtain ⟨oa, oc, rfl, _, _⟩ := hs3
      have hb02 := hbW.trans (hb2.mono hbW.size)
      obtain ⟨m, hm⟩ : ∃ m, (order ns).length = m := ⟨_, rfl⟩
      rw [hm] at hset hs2 ⊢
      have HSET : Hid (setOf l = if 12 < m then ([], 4) else (order ns, 0)) := hset
      clear hset cO hm
      by_cases h12 : 12 < m
      · have h12' : (12 : Int) < (m : Int) := by omega
        go_wp2_with fail
        go_ret2
        rw [HSET.out, if_pos h12]
        exact ⟨⟨_, rfl, ⟨none, 0, rfl, ⟨fun _ => rfl, Nat.le_refl _⟩, Or.inl rfl⟩⟩, hb02⟩
      · have h12' : ¬ (12 : Int) < (m : Int) := by omega
        go_wp2_with fail
        go_ret2
        rw [HSET.out, if_neg h12]
        exact ⟨⟨_, rfl, hs2⟩, hb02⟩
end Go.Proofs.YtneipabooahihaaGreatDoor
