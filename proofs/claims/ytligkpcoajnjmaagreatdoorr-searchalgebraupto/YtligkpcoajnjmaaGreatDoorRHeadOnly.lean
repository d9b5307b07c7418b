/-
  What head.Only and head.unquoted do.
-/
import Derived.Test.YtligkpcoajnjmaaGreatDoorRAl28
import Derived.Test.YtligkpcoajnjmaaGreatDoorRAl09
import Derived.Test.YtligkpcoajnjmaaGreatDoorRAl24
namespace Go.Proofs.YtligkpcoajnjmaaGreatDoorR
open Go.RowKit Go.Proofs.Aid Go.Proofs.Hd Go.Proofs.Sq

/-- A slice of texts. -/
def Tg (w : World) (v : Value) (l : List ByteArray) : Prop :=
  ∃ a c, v = .slice a l.length c ∧ (l = [] ∨ ∃ b o, a = some ⟨b, o, none⟩ ∧ ∀ (j : Nat) s, l[j]? = some s → w.cell? ⟨b, o + j, none⟩ = some (.string s))
theorem Tg.below {w w' : World} {v : Value} {B : Nat} {l : List ByteArray} (h : Tg w v l) (hb : Below B w w') (hB : w.heap.size ≤ B) : Tg w' v l := by
  obtain ⟨a, c, h1, h2⟩ := h
  refine ⟨a, c, h1, ?_⟩
  rcases h2 with h2 | ⟨b, o, h2, h3⟩
  · exact Or.inl h2
  · exact Or.inr ⟨b, o, h2, fun j s hj => (hb.cell (Nat.lt_of_lt_of_le (World.block_lt_of_cell? _ _ (h3 j s hj)) hB)).trans (h3 j s hj)⟩
theorem onlyF_step (l : List Hd.Fd) (f : Hd.Fd) (ns : List Tx) : onlyF (f :: l) ns = if (ns.map small).contains (small f.1) = true then f :: onlyF l ns else onlyF l ns := by
  unfold onlyF
  rw [List.filter_cons]
def smallB (x : ByteArray) : ByteArray := ⟨(small x.data.toList).toArray⟩
theorem contains_small (ns : List ByteArray) (x : ByteArray) : Lib.containsS (ns.map smallB) x = ((ns.map (·.data.toList)).map small).contains x.data.toList := by
  rw [Bool.eq_iff_iff, Lib.containsS_iff, List.contains_iff_mem]
  constructor
  · intro h
    obtain ⟨y, hy, rfl⟩ := List.mem_map.1 h
    exact List.mem_map.2 ⟨y.data.toList, List.mem_map_of_mem hy, rfl⟩
  · intro h
    obtain ⟨z, hz, hzx⟩ := List.mem_map.1 h
    obtain ⟨y, hy, rfl⟩ := List.mem_map.1 hz
    exact List.mem_map.2 ⟨y, hy, text_ext hzx⟩
theorem has_small (ns : List ByteArray) (x : ByteArray) (v : Value) (base : Nat) (w : World) (h : w.ownsRow base 9 1 v ns.length ((ns.map smallB).map Value.string)) (hn : ns.length ≤ 1000) :
    Calls Tryz.prog 102 #[v, .string x] w fun e w' => e = .returned (.bool (((ns.map (·.data.toList)).map small).contains x.data.toList)) ∧ w' = w := by
  by_cases h0 : ns = []
  · subst h0
    obtain ⟨a, c, rfl⟩ := row_slice h
    exact Tryz.slices_Contains_string_empty a c x w
  · obtain ⟨g, c, rfl⟩ := row_some h (fun e => h0 (List.eq_nil_of_length_eq_zero e))
    have := Tryz.slices_Contains_string g 0 ns.length c (ns.map smallB) x w (by rw [List.length_map]; exact Nat.le_refl _) (by omega) (fun j hj => by
      rw [List.length_map] at hj
      rw [Nat.zero_add, h.cellAt j (by omega), List.getElem?_map, List.getD_eq_getElem?_getD]
      have hj' : j < (ns.map smallB).length := by rw [List.length_map]; exact hj
      rw [List.getElem?_eq_getElem hj']
      rfl)
    rw [List.take_of_length_le (by rw [List.length_map]; exact Nat.le_refl _), contains_small] at this
    exact this
set_option maxHeartbeats 2000000 in
set_option maxRecDepth 100000 in
theorem only_is (v vn : Value) (L : List Fb) (ns : List ByteArray) (w : World) (h : Fg w v L) (hn : Tg w vn ns) (hL : L.length ≤ 100) (hsh : Short L) (hnl : ns.length ≤ 100) (hns : ∀ x ∈ ns, x.size ≤ 2000000) :
    Calls Tryz.prog 161 #[v, vn] w fun e w' => (∃ u O, e = .returned u ∧ Fg w' u O ∧ O.map tx = onlyF (L.map tx) (ns.map (·.data.toList))) ∧ Below w.heap.size w w' := by
  obtain ⟨i0, hi, hz0, hz1, hz2⟩ := info_parts Tryz.infoField
  have HSH : Hid (Short L) := hsh
  have HNS : Hid (∀ x ∈ ns, x.size ≤ 2000000) := hns
  have K0 : Hid (∀ W, Below w.heap.size w W → Fg W v L ∧ Tg W vn ns) := fun W hW => ⟨h.below hW (Nat.le_refl _), hn.below hW (Nat.le_refl _)⟩
  obtain ⟨a, c, rfl, _⟩ := h
  obtain ⟨a', c', rfl, _⟩ := hn
  obtain ⟨N, hN⟩ : ∃ N, L.length = N := ⟨_, rfl⟩
  obtain ⟨M, hM⟩ : ∃ N, ns.length = N := ⟨_, rfl⟩
  have HN : Hid (L.length = N ∧ ns.length = M) := ⟨hN, hM⟩
  rw [hN] at hL K0 ⊢
  rw [hM] at hnl K0 ⊢
  clear hsh hns hN hM
  go_enter Tryz.func161, Tryz.ntmps161
  go_wp2_with fail
  go_loopw [5, 13] (fun sv i wr => ∃ k : Nat, i = .int .i64 (k : Int) ∧ k ≤ M ∧ wr.ownsRow w.heap.size 9 1 sv k (((ns.take k).map smallB).map Value.string) ∧ Below w.heap.size w wr) (fun _ i _ => M - (intOf i).toNat)
  case atStart => exact ⟨0, rfl, by omega, World.ownsRow_nil _ _ _ _, Below.refl _ _⟩
  case round =>
    obtain ⟨k, rfl, hk, hrow, hbW⟩ := hrel
    by_cases hlt : k < M
    · have hkL : k < ns.length := by rw [HN.out.2]; exact hlt
      obtain ⟨x1, y1, hv, hd⟩ := (K0.out wr hbW).2
      injection hv with hv1 hv2 hv3
      subst hv1
      rcases hd with h0 | ⟨b, o, rfl, hat⟩
      · rw [h0] at hkL; simp at hkL
      have c1 := hat k _ (List.getElem?_eq_getElem hkL)
      have hxs := HNS.out _ (List.getElem_mem hkL)
      obtain ⟨x, hx⟩ : ∃ x, ns[k] = x := ⟨_, rfl⟩
      rw [hx] at c1 hxs
      have HTK : Hid (((ns.take (k + 1)).map smallB).map Value.string = ((ns.take k).map smallB).map Value.string ++ [.string (smallB x)]) := by
        show _ = _
        rw [List.take_succ_eq_append_getElem hkL, hx]
        simp
      have cS := small_is x wr hxs
      obtain ⟨xs, hxs'⟩ : ∃ t : ByteArray, smallB x = t := ⟨_, rfl⟩
      rw [show (⟨(small x.data.toList).toArray⟩ : ByteArray) = xs from hxs'] at cS
      rw [hxs'] at HTK
      clear hat hv2 hv3 hx hxs'
      go_wp2_with fail
      refine cS.mono ?_
      clear cS
      rintro e w2 ⟨rfl, hb2⟩
      have hrow2 := row_below hb2 (Nat.le_refl _) hrow
      have hb02 := hbW.trans (hb2.mono hbW.size)
      have hbs := hb02.size
      clear hrow hb2
      go_wp2_with (at_builtin; go_must (refine wpList_push rfl (.tmp 17) (.tmp 20) 23 rfl _ w.heap.size 9 (.string ⟨#[]⟩) 16 Tryz.underlying23 Tryz.infoTx rfl _ _ _ (by rfl) hrow2 [.string xs] _ (by rfl) (by simp) (by simp [Value.oneCell']) (by simp) (by rfl) (by decide) (by simp; omega) hbs ?_); intro g3 cap3 w3 hown3 hg3 hlt3)
      have hb3 : Below w.heap.size w w3 := hb02.grown hg3 hbs (fun j e => (hrow2.lt j e).1)
      go_roundw
      case rel => exact ⟨k + 1, by go_num, by omega, by rw [HTK.out]; exact hown3, hb3⟩
      case measure => simp [intOf]; omega
    · obtain rfl : k = M := by omega
      have hTK : (ns.take k) = ns := List.take_of_length_le (by have := HN.out.2; omega)
      rw [hTK] at hrow
      obtain ⟨sa, sc, rfl⟩ := row_slice hrow
      obtain ⟨TGT, hTGT⟩ : ∃ T, onlyF (L.map tx) (ns.map (·.data.toList)) = T := ⟨_, rfl⟩
      have HT : Hid (onlyF (L.map tx) (ns.map (·.data.toList)) = TGT) := hTGT
      have HT0 : Hid (onlyF (L.map tx) (ns.map (·.data.toList)) = TGT) := hTGT
      have HROW : Hid (wr.ownsRow w.heap.size 9 1 (.slice sa k sc) k ((ns.map smallB).map Value.string)) := hrow
      have hk' := HN.out.2
      clear hrow hTK hTGT hlt
      go_wp2_with fail
      obtain ⟨W0, hW0⟩ : ∃ W, W = wr := ⟨_, rfl⟩
      subst hW0
      go_loopw [8, 25] (fun ov i wr => ∃ (j : Nat) (O : List Fb), i = .int .i64 (j : Int) ∧ j ≤ N ∧ O.length ≤ j ∧ wr.ownsRow w.heap.size 216 2 ov O.length (cellsF O) ∧ Hid (wr.ownsRow w.heap.size 9 1 (.slice sa k sc) k ((ns.map smallB).map Value.string)) ∧ Hid (O.map tx ++ onlyF ((L.drop j).map tx) (ns.map (·.data.toList)) = TGT) ∧ Below w.heap.size w wr) (fun _ i _ => N - (intOf i).toNat)
      case atStart => exact ⟨0, [], rfl, by omega, by simp, World.ownsRow_nil _ _ _ _, HROW.out, by show _ = _; simpa using HT.out, hbW⟩
      case round =>
        clear HROW HT hbW
        obtain ⟨j, O, rfl, hj, hOj, hrow, HROW, HT, hbW⟩ := hrel
        by_cases hlt : j < N
        · have hjL : j < L.length := by rw [HN.out.1]; exact hlt
          obtain ⟨x1, y1, hv, hd⟩ := (K0.out wr hbW).1
          injection hv with hv1 hv2 hv3
          subst hv1
          rcases hd with h0 | ⟨b, o, rfl, hat⟩
          · rw [h0] at hjL; simp at hjL
          obtain ⟨c1, c2⟩ := hat j _ (List.getElem?_eq_getElem hjL)
          have hsx := HSH.out _ (List.getElem_mem hjL)
          have hTT := HT.out
          rw [List.drop_eq_getElem_cons hjL, List.map_cons, onlyF_step] at hTT
          obtain ⟨⟨x, y⟩, hxy⟩ : ∃ p, L[j] = p := ⟨_, rfl⟩
          rw [hxy] at c1 c2 hsx hTT
          simp only at c1 c2 hsx
          have hh2 := heap_alloc_new wr (.cells #[.string x, .string y] 216)
          have hb2 : Below w.heap.size w (wr.alloc (.cells #[.string x, .string y] 216)) := hbW.alloc hbW.size _
          have hlb : wr.heap.size < (wr.alloc (.cells #[.string x, .string y] 216)).heap.size := by simp
          have d1 : (wr.alloc (.cells #[.string x, .string y] 216)).cell? ⟨wr.heap.size, 0, none⟩ = some (.string x) := rd_cell hh2 rfl
          have d2 : (wr.alloc (.cells #[.string x, .string y] 216)).cell? ⟨wr.heap.size, 1, none⟩ = some (.string y) := rd_cell hh2 rfl
          have cS := small_is x (wr.alloc (.cells #[.string x, .string y] 216)) hsx.1
          obtain ⟨xs, hxs⟩ : ∃ t : ByteArray, ⟨(small x.data.toList).toArray⟩ = t := ⟨_, rfl⟩
          have hxl : xs.data.toList = small x.data.toList := by rw [← hxs]
          rw [hxs] at cS
          have HTT : Hid ((O.map tx ++ if (((ns.map (·.data.toList)).map small).contains xs.data.toList) = true then tx (x, y) :: onlyF ((L.drop (j + 1)).map tx) (ns.map (·.data.toList)) else onlyF ((L.drop (j + 1)).map tx) (ns.map (·.data.toList))) = TGT) := by
            show _ = _
            rw [hxl]
            exact hTT
          have hrowA := hrow.alloc (.cells #[.string x, .string y] 216)
          have hrowS := HROW.out.alloc (.cells #[.string x, .string y] 216)
          clear hxs hxl hat hv2 hv3 hxy HT hTT hh2 hrow HROW
          go_wp2_with fail
          refine cS.mono ?_
          clear cS
          rintro e w3 ⟨rfl, hb3⟩
          have e1 := (hb3.cell (p := ⟨wr.heap.size, 0, none⟩) hlb).trans d1
          have e2 := (hb3.cell (p := ⟨wr.heap.size, 1, none⟩) hlb).trans d2
          have hb03 := hb2.trans (hb3.mono hb2.size)
          have hrow3 := row_below hb3 (Nat.le_refl _) hrowA
          have hrowS3 := row_below hb3 (Nat.le_refl _) hrowS
          have cH := has_small ns xs (.slice sa k sc) w.heap.size w3 (by rw [hk']; exact hrowS3) (by omega)
          obtain ⟨B, hB⟩ : ∃ b, ((ns.map (·.data.toList)).map small).contains xs.data.toList = b := ⟨_, rfl⟩
          rw [hB] at cH HTT
          have hbs3 := hb03.size
          have HRS : Hid (w3.ownsRow w.heap.size 9 1 (.slice sa k sc) k ((ns.map smallB).map Value.string)) := hrowS3
          clear hb3 hrowA hrowS hrowS3 hB
          go_wp2_with fail
          refine cH.mono ?_
          clear cH
          rintro e w4 ⟨rfl, hw⟩
          subst hw
          cases B with
          | false =>
            have HN2 : Hid (O.map tx ++ onlyF ((L.drop (j + 1)).map tx) (ns.map (·.data.toList)) = TGT) := by have := HTT.out; rw [if_neg (by simp)] at this; exact this
            clear HTT
            go_wp2_with fail
            go_roundw
            case rel => exact ⟨j + 1, O, by go_num, by omega, by omega, hrow3, HRS.out, HN2.out, hb03⟩
            case measure => simp [intOf]; omega
          | true =>
            have HN2 : Hid ((O ++ [(x, y)]).map tx ++ onlyF ((L.drop (j + 1)).map tx) (ns.map (·.data.toList)) = TGT) := by have := HTT.out; rw [if_pos rfl] at this; rw [List.map_append, List.append_assoc]; exact this
            obtain ⟨ra, rc, rfl⟩ := row_slice hrow3
            have hnews : ∀ (i : Nat) (u : Value), [Value.string x, Value.string y][i]? = some u → (w4.alloc (.cells #[.string x, .string y] 216)).cell? (Addr.add ⟨w4.heap.size, 0, none⟩ i) = some u := World.news_of_block (heap_alloc_new w4 (.cells #[.string x, .string y] 216))
            clear HTT
            go_wp2_with (at_builtin; go_must (refine wpList_append_lies _ rfl (.tmp 34) (.tmp 36) 211 rfl w.heap.size 216 i0 (.agg #[.string ⟨#[]⟩, .string ⟨#[]⟩]) 2 32 Tryz.underlying211 hi hz0 hz1 hz2 rfl (by decide) _ _ _ (by rfl) (hrow3.alloc _) ⟨w4.heap.size, 0, none⟩ 1 1 [.string x, .string y] (by rfl) rfl hnews (by simp [Value.oneCell']) (by decide) (by unfold maxLen; omega) (by omega) (by simp; omega) _ rfl ?_); intro g5 cap5 w5 hown5 hg5 _ hlt5)
            have hg5' := grownBy_of_alloc hg5
            have hb5 : Below w.heap.size w w5 := hb03.grown hg5' hbs3 (fun i e => (hrow3.lt i e).1)
            have hrs5 := row_grown hg5' hrow3 HRS.out (by decide)
            go_roundw
            case rel => exact ⟨j + 1, O ++ [(x, y)], by go_num, by omega, by simp; omega, by rw [List.length_append, cellsF_append]; exact hown5, hrs5, HN2.out, hb5⟩
            case measure => simp [intOf]; omega
        · have HE : Hid (O.map tx = TGT) := by
            show _ = _
            have := HT.out
            rw [List.drop_eq_nil_of_le (by rw [HN.out.1]; omega)] at this
            simpa [onlyF] using this
          have hfg := fg_of_row hrow
          obtain ⟨ra, rc, rfl⟩ := row_slice hrow
          have HFG : Hid (Fg wr (.slice ra O.length rc) O) := hfg
          obtain ⟨ON, hON⟩ : ∃ n, O.length = n := ⟨_, rfl⟩
          rw [hON] at HFG hrow ⊢
          clear hfg hrow HROW HT
          go_wp2_with fail
          go_ret
          exact ⟨⟨_, O, rfl, HFG.out, HE.out.trans HT0.out.symm⟩, hbW⟩
end Go.Proofs.YtligkpcoajnjmaaGreatDoorR
