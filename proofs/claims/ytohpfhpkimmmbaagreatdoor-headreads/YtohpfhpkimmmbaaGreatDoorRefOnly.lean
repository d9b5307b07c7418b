/-
  What letterboxref.Only does: the same as head.Only.
-/
import Derived.Test.YtohpfhpkimmmbaaGreatDoorHeadOnly
import Derived.Test.YtohpfhpkimmmbaaGreatDoorRefSplit
namespace Go.Proofs.YtohpfhpkimmmbaaGreatDoor
open Go.RowKit Go.Proofs.Aid Go.Proofs.Hd Go.Proofs.Sq

def anyS (ns : List ByteArray) (x : ByteArray) : Bool := ((ns.map (·.data.toList)).map small).contains (small x.data.toList)
theorem anyS_snoc {ns : List ByteArray} {k : Nat} {n x : ByteArray} (h : ns[k]? = some n) : anyS (ns.take (k + 1)) x = (anyS (ns.take k) x || decide (small n.data.toList = small x.data.toList)) := by
  have hk := (List.getElem?_eq_some_iff.1 h).1
  have he : ns[k] = n := (List.getElem?_eq_some_iff.1 h).2
  unfold anyS
  rw [List.take_succ_eq_append_getElem hk, he, List.map_append, List.map_append, Bool.eq_iff_iff, Bool.or_eq_true, List.contains_iff_mem, List.contains_iff_mem, List.mem_append, decide_eq_true_eq]
  simp [eq_comm]
set_option maxHeartbeats 2000000 in
set_option maxRecDepth 100000 in
theorem ronly_is (v vn : Value) (L : List Fb) (ns : List ByteArray) (w : World) (h : Fg w v L) (hn : Tg w vn ns) (hL : L.length ≤ 100) (hsh : Short L) (hnl : ns.length ≤ 100) (hns : ∀ x ∈ ns, x.size ≤ 1000000) :
    Calls Tryz.prog 42 #[v, vn] w fun e w' => (∃ u O, e = .returned u ∧ Fg w' u O ∧ O.map tx = onlyF (L.map tx) (ns.map (·.data.toList))) ∧ Below w.heap.size w w' := by
  obtain ⟨i0, hi, hz0, hz1, hz2⟩ := info_parts Tryz.infoField
  have HSH : Hid (Short L) := hsh
  have HNS : Hid (∀ x ∈ ns, x.size ≤ 1000000) := hns
  have K0 : Hid (∀ W, Below w.heap.size w W → Fg W v L ∧ Tg W vn ns) := fun W hW => ⟨h.below hW (Nat.le_refl _), hn.below hW (Nat.le_refl _)⟩
  obtain ⟨a, c, rfl, _⟩ := h
  obtain ⟨a', c', rfl, _⟩ := hn
  obtain ⟨N, hN⟩ : ∃ N, L.length = N := ⟨_, rfl⟩
  obtain ⟨M, hM⟩ : ∃ N, ns.length = N := ⟨_, rfl⟩
  have HN : Hid (L.length = N ∧ ns.length = M) := ⟨hN, hM⟩
  rw [hN] at hL K0 ⊢
  rw [hM] at hnl K0 ⊢
  obtain ⟨TGT, hTGT⟩ : ∃ T, onlyF (L.map tx) (ns.map (·.data.toList)) = T := ⟨_, rfl⟩
  have HT0 : Hid (onlyF (L.map tx) (ns.map (·.data.toList)) = TGT) := hTGT
  rw [hTGT]
  clear hsh hns hN hM hTGT
  go_enter Tryz.func42, Tryz.ntmps42
  go_wp2_with fail
  go_loopw [5, 13] (fun ov i wr => ∃ (j : Nat) (O : List Fb), i = .int .i64 (j : Int) ∧ j ≤ N ∧ O.length ≤ j ∧ wr.ownsRow w.heap.size 119 2 ov O.length (cellsF O) ∧ Hid (O.map tx ++ onlyF ((L.drop j).map tx) (ns.map (·.data.toList)) = TGT) ∧ Below w.heap.size w wr) (fun _ i _ => N - (intOf i).toNat)
  case atStart => exact ⟨0, [], rfl, by omega, by simp, World.ownsRow_nil _ _ _ _, by show _ = _; simpa using HT0.out, Below.refl _ _⟩
  case round =>
    obtain ⟨j, O, rfl, hj, hOj, hrow, HT, hbW⟩ := hrel
    by_cases hlt : j < N
    · have hjL : j < L.length := by rw [HN.out.1]; exact hlt
      obtain ⟨x1, y1, hv, hd⟩ := (K0.out wr hbW).1
      injection hv with hv1 hv2 hv3
      subst hv1
      rcases hd with h0 | ⟨b, o, rfl, hat⟩
      · rw [h0] at hjL; simp at hjL
      obtain ⟨c1, c2⟩ := hat j _ (List.getElem?_eq_getElem hjL)
      have hsx := HSH.out _ (List.getElem_mem hjL)
      have hTT := HT.out
      rw [List.drop_eq_getElem_cons hjL, List.map_cons, onlyF_step] at hTT
      obtain ⟨⟨x, y⟩, hxy⟩ : ∃ p, L[j] = p := ⟨_, rfl⟩
      rw [hxy] at c1 c2 hsx hTT
      simp only at c1 c2 hsx
      have HTT : Hid ((O.map tx ++ if anyS ns x = true then tx (x, y) :: onlyF ((L.drop (j + 1)).map tx) (ns.map (·.data.toList)) else onlyF ((L.drop (j + 1)).map tx) (ns.map (·.data.toList))) = TGT) := hTT
      obtain ⟨W0, hW0⟩ : ∃ W, W = wr := ⟨_, rfl⟩
      subst hW0
      have hh2 := heap_alloc_new W0 (.cells #[.string x, .string y] 119)
      have hb2 : Below w.heap.size w (W0.alloc (.cells #[.string x, .string y] 119)) := hbW.alloc hbW.size _
      have hlb : W0.heap.size < (W0.alloc (.cells #[.string x, .string y] 119)).heap.size := by simp
      have d1 : (W0.alloc (.cells #[.string x, .string y] 119)).cell? ⟨W0.heap.size, 0, none⟩ = some (.string x) := rd_cell hh2 rfl
      have d2 : (W0.alloc (.cells #[.string x, .string y] 119)).cell? ⟨W0.heap.size, 1, none⟩ = some (.string y) := rd_cell hh2 rfl
      have hrowA := hrow.alloc (.cells #[.string x, .string y] 119)
      clear hat hv2 hv3 hxy HT hTT hh2 hrow
      have hxz := hsx.1
      clear hsx
      obtain ⟨xs, hxs⟩ : ∃ t : ByteArray, ⟨(small x.data.toList).toArray⟩ = t := ⟨_, rfl⟩
      have HXS : Hid (xs.data.toList = small x.data.toList) := by show _ = _; rw [← hxs]
      have cX := fun W => rsmall_is x W hxz
      rw [hxs] at cX
      go_wp2_with fail
      obtain ⟨W1, hW1⟩ : ∃ W, W0.alloc (.cells #[.string x, .string y] 119) = W := ⟨_, rfl⟩
      rw [hW1] at hb2 hlb d1 d2 hrowA ⊢
      clear hW1 hxs
      go_loopw [8, 19] (fun ov i wr => ∃ (k : Nat) (b : Bool), ov = .bool b ∧ i = .int .i64 (k : Int) ∧ k ≤ M ∧ Hid (b = anyS (ns.take k) x) ∧ Below W1.heap.size W1 wr) (fun _ i _ => M - (intOf i).toNat)
      case atStart => exact ⟨0, false, rfl, rfl, by omega, rfl, Below.refl _ _⟩
      case round =>
        obtain ⟨k, b, rfl, rfl, hk, HB, hbV⟩ := hrel
        have hbw := hb2.trans (hbV.mono hb2.size)
        have e1 := (hbV.cell (p := ⟨W0.heap.size, 0, none⟩) hlb).trans d1
        have e2 := (hbV.cell (p := ⟨W0.heap.size, 1, none⟩) hlb).trans d2
        by_cases hkM : k < M
        · have hkL : k < ns.length := by rw [HN.out.2]; exact hkM
          obtain ⟨x1, y1, hv, hd⟩ := (K0.out wr hbw).2
          injection hv with hv1 hv2 hv3
          subst hv1
          rcases hd with h0 | ⟨b9, o9, rfl, hat⟩
          · rw [h0] at hkL; simp at hkL
          have c9 := hat k _ (List.getElem?_eq_getElem hkL)
          have hnz := HNS.out _ (List.getElem_mem hkL)
          obtain ⟨n, hn⟩ : ∃ n, ns[k] = n := ⟨_, rfl⟩
          have hnk : ns[k]? = some n := by rw [List.getElem?_eq_getElem hkL, hn]
          rw [hn] at c9 hnz
          have HS : Hid (anyS (ns.take (k + 1)) x = (b || decide (small n.data.toList = small x.data.toList))) := by show _ = _; rw [anyS_snoc hnk, ← HB.out]
          obtain ⟨nz, hnz'⟩ : ∃ t : ByteArray, ⟨(small n.data.toList).toArray⟩ = t := ⟨_, rfl⟩
          have HNZ : Hid (nz.data.toList = small n.data.toList) := by show _ = _; rw [← hnz']
          have cN := fun W => rsmall_is n W hnz
          rw [hnz'] at cN
          clear hat hv2 hv3 hn hnk hnz' HB
          have hlW : W0.heap.size < wr.heap.size := Nat.lt_of_lt_of_le hlb hbV.size
          have hlD : ∀ q, W0.heap.size < (wr.drewN q).heap.size := fun q => by simpa using hlW
          have e1D : ∀ q, (wr.drewN q).cell? ⟨W0.heap.size, 0, none⟩ = some (.string x) := fun q => by simpa using e1
          have hbD : ∀ q, Below W1.heap.size W1 (wr.drewN q) := fun q => below_drewN hbV q
          cases b with
          | true =>
            have HS2 : Hid (true = anyS (ns.take (k + 1)) x) := by show _ = _; rw [HS.out]; rfl
            clear HS cN cX
            go_wp2_with fail
            go_region
            all_goals
              go_wp2_with fail
              go_roundw
              case rel => exact ⟨k + 1, true, rfl, by go_num, by omega, HS2.out, hbD _⟩
              case measure => simp [intOf]; omega
          | false =>
            obtain ⟨v, hv⟩ : ∃ v, (nz.toList == xs.toList) = v := ⟨_, rfl⟩
            have HS2 : Hid (v = anyS (ns.take (k + 1)) x) := by
              show _ = _
              rw [HS.out, Bool.false_or, ← hv, Lib.toList_data, Lib.toList_data, HNZ.out, HXS.out, Bool.eq_iff_iff]
              simp
            clear HS
            go_wp2_with fail
            go_region_with (first
              | (go_at_call_of 48 (Value.string n); refine (cN _).mono ?_; rintro e w5 ⟨rfl, hb5⟩; have e15 := (hb5.cell (p := ⟨W0.heap.size, 0, none⟩) (hlD _)).trans (e1D _))
              | (go_at_call_of 48 (Value.string x); refine (cX _).mono ?_; rintro e w6 ⟨rfl, hb6⟩))
            all_goals
              have hb36 := ((hbD _).trans (hb5.mono (hbD _).size)).trans (hb6.mono (Nat.le_trans (hbD _).size hb5.size))
              go_wp2_with fail
              go_roundw
              case rel => exact ⟨k + 1, v, rfl, by go_num, by omega, HS2.out, hb36⟩
              case measure => simp [intOf]; omega
        · obtain rfl : k = M := by omega
          have hTK : ns.take k = ns := List.take_of_length_le (by have := HN.out.2; omega)
          rw [hTK] at HB
          have hrow3 := row_below hbV (Nat.le_refl _) hrowA
          have hbs3 := hbw.size
          cases b with
          | false =>
            have HN2 : Hid (O.map tx ++ onlyF ((L.drop (j + 1)).map tx) (ns.map (·.data.toList)) = TGT) := by have := HTT.out; rw [← HB.out, if_neg (by simp)] at this; exact this
            clear HTT cX
            go_wp2_with fail
            go_roundw
            case rel => exact ⟨j + 1, O, by go_num, by omega, by omega, hrow3, HN2.out, hbw⟩
            case measure => simp [intOf]; omega
          | true =>
            have HN2 : Hid ((O ++ [(x, y)]).map tx ++ onlyF ((L.drop (j + 1)).map tx) (ns.map (·.data.toList)) = TGT) := by have := HTT.out; rw [← HB.out, if_pos rfl] at this; rw [List.map_append, List.append_assoc]; exact this
            obtain ⟨ra, rc, rfl⟩ := row_slice hrow3
            have hnews : ∀ (i : Nat) (u : Value), [Value.string x, Value.string y][i]? = some u → (wr.alloc (.cells #[.string x, .string y] 119)).cell? (Addr.add ⟨wr.heap.size, 0, none⟩ i) = some u := World.news_of_block (heap_alloc_new wr (.cells #[.string x, .string y] 119))
            clear HTT cX
            go_wp2_with (at_builtin; go_must (refine wpList_append_lies _ rfl (.tmp 34) (.tmp 36) 57 rfl w.heap.size 119 i0 (.agg #[.string ⟨#[]⟩, .string ⟨#[]⟩]) 2 32 Tryz.underlying57 hi hz0 hz1 hz2 rfl (by decide) _ _ _ (by rfl) (hrow3.alloc _) ⟨wr.heap.size, 0, none⟩ 1 1 [.string x, .string y] (by rfl) rfl hnews (by simp [Value.oneCell']) (by decide) (by unfold maxLen; omega) (by omega) (by simp; omega) _ rfl ?_); intro g5 cap5 w5 hown5 hg5 _ hlt5)
            have hg5' := grownBy_of_alloc hg5
            have hb5 : Below w.heap.size w w5 := hbw.grown hg5' hbs3 (fun i e => (hrow3.lt i e).1)
            go_roundw
            case rel => exact ⟨j + 1, O ++ [(x, y)], by go_num, by omega, by simp; omega, by rw [List.length_append, cellsF_append]; exact hown5, HN2.out, hb5⟩
            case measure => simp [intOf]; omega
    · have HE : Hid (O.map tx = TGT) := by
        show _ = _
        have := HT.out
        rw [List.drop_eq_nil_of_le (by rw [HN.out.1]; omega)] at this
        simpa [onlyF] using this
      have hfg := fg_of_row hrow
      obtain ⟨ra, rc, rfl⟩ := row_slice hrow
      have HFG : Hid (Fg wr (.slice ra O.length rc) O) := hfg
      obtain ⟨ON, hON⟩ : ∃ n, O.length = n := ⟨_, rfl⟩
      rw [hON] at HFG hrow ⊢
      clear hfg hrow HT
      go_wp2_with fail
      go_ret
      exact ⟨⟨_, O, rfl, HFG.out, HE.out⟩, hbW⟩
end Go.Proofs.YtohpfhpkimmmbaaGreatDoor
