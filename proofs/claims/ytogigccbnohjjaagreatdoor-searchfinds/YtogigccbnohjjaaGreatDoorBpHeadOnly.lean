/-
  What head, and more.
-/
import Derived.Test.YtogigccbnohjjaaGreatDoorBpHeadTake2
namespace Go.Proofs.YtogigccbnohjjaaGreatDoor
open Go.RowKit Go.Proofs.Aid Go.Proofs.Hd Go.Proofs.Sq
set_option maxHeartbeats 2000000
set_option maxRecDepth 100000
def Tg (w : World) (v : Value) (l : List ByteArray) : Prop :=
 ∃ a c, v = .slice a l.length c ∧ (l = [] ∨ ∃ b o, a = some ⟨b, o, none⟩ ∧ ∀ (j : Nat) s, l[j]? = some s → w.cell? ⟨b, o + j, none⟩ = some (.string s))
theorem Tg.below {w w' : World} {v : Value} {B : Nat} {l : List ByteArray} (h : Tg w v l) (hb : Below B w w') (hB : w.heap.size ≤ B) : Tg w' v l := by
 obtain ⟨a, c, h1, h2⟩ := h
 refine ⟨a, c, h1, ?_⟩
 rcases h2 with h2 | ⟨b, o, h2, h3⟩
 ·exact Or.inl h2
 ·exact Or.inr ⟨b, o, h2, fun j s hj => (hb.cell (Nat.lt_of_lt_of_le (World.block_lt_of_cell? _ _ (h3 j s hj)) hB)).trans (h3 j s hj)⟩
theorem onlyF_step (l : List Hd.Fd) (f : Hd.Fd) (ns : List Tx) : onlyF (f :: l) ns = if (ns.map small).contains (small f.1) = true then f :: onlyF l ns else onlyF l ns := by
 unfold onlyF
 rw [List.filter_cons]
def smallB (x : ByteArray) : ByteArray := ⟨(small x.data.toList).toArray⟩
theorem contains_small (ns : List ByteArray) (x : ByteArray) : Lib.containsS (ns.map smallB) x = ((ns.map (·.data.toList)).map small).contains x.data.toList := by
 rw [Bool.eq_iff_iff, Lib.containsS_iff, List.contains_iff_mem]
 constructor
 ·intro h
  obtain ⟨y, hy, rfl⟩ := List.mem_map.1 h
  exact List.mem_map.2 ⟨y.data.toList, List.mem_map_of_mem hy, rfl⟩
 ·intro h
  obtain ⟨z, hz, hzx⟩ := List.mem_map.1 h
  obtain ⟨y, hy, rfl⟩ := List.mem_map.1 hz
  exact List.mem_map.2 ⟨y, hy, text_ext hzx⟩
theorem has_small (ns : List ByteArray) (x : ByteArray) (v : Value) (base : Nat) (w : World) (h : w.ownsRow base 9 1 v ns.length ((ns.map smallB).map Value.string)) (hn : ns.length ≤ 1000) :
  Calls Tryz.prog 40 #[v, .string x] w fun e w' => e = .returned (.bool (((ns.map (·.data.toList)).map small).contains x.data.toList)) ∧ w' = w := by
 by_cases h0 : ns = []
 ·subst h0
  obtain ⟨a, c, rfl⟩ := row_slice h
  exact Tryz.slices_Contains_string_empty a c x w
 ·obtain ⟨g, c, rfl⟩ := row_some h (fun e => h0 (List.eq_nil_of_length_eq_zero e))
  have := Tryz.slices_Contains_string g 0 ns.length c (ns.map smallB) x w (by rw [List.length_map]; exact Nat.le_refl _) (by omega) (fun j hj => by
   rw [List.length_map] at hj
   rw [Nat.zero_add, h.cellAt j (by omega), List.getElem?_map, List.getD_eq_getElem?_getD]
   have hj' : j < (ns.map smallB).length := by rw [List.length_map]; exact hj
   rw [List.getElem?_eq_getElem hj']
   rfl)
  rw [List.take_of_length_le (by rw [List.length_map]; exact Nat.le_refl _), contains_small] at this
  exact this
theorem only_is (v vn : Value) (L : List Fb) (ns : List ByteArray) (w : World) (h : Fg w v L) (hn : Tg w vn ns) (hL : L.length ≤ 100) (hsh : Short L) (hnl : ns.length ≤ 100) (hns : ∀ x ∈ ns, x.size ≤ 2000000) :
  Calls Tryz.prog 76 #[v, vn] w fun e w' => (∃ u O, e = .returned u ∧ Fg w' u O ∧ O.map tx = onlyF (L.map tx) (ns.map (·.data.toList))) ∧ Below w.heap.size w w' := by
 obtain ⟨i0, hi, hz0, hz1, hz2⟩ := info_parts Tryz.infoField
 have HSH : Hid (Short L) := hsh
 have HNS : Hid (∀ x ∈ ns, x.size ≤ 2000000) := hns
 have K0 : Hid (∀ W, Below w.heap.size w W → Fg W v L ∧ Tg W vn ns) := fun W hW => ⟨h.below hW (Nat.le_refl _), hn.below hW (Nat.le_refl _)⟩
 obtain ⟨a, c, rfl, _⟩ := h
 obtain ⟨a', c', rfl, _⟩ := hn
 obtain ⟨N, hN⟩ : ∃ N, L.length = N := ⟨_, rfl⟩
 obtain ⟨M, hM⟩ : ∃ N, ns.length = N := ⟨_, rfl⟩
 have HN : Hid (L.length = N ∧ ns.length = M) := ⟨hN, hM⟩
 rw [hN] at hL K0 ⊢
 rw [hM] at hnl K0 ⊢
 clear hsh hns hN hM
 go_enter Tryz.func76, Tryz.ntmps76
 go_wp2_with fail
 go_loopw [5, 13] (fun sv i wr => ∃ k : Nat, i = .int .i64 (k : Int) ∧ k ≤ M ∧ wr.ownsRow w.heap.size 9 1 sv k (((ns.take k).map smallB).map Value.string) ∧ Below w.heap.size w wr) (fun _ i _ => M - (intOf i).toNat)
 case atStart => exact ⟨0, rfl, by omega, World.ownsRow_nil _ _ _ _, Below.refl _ _⟩
 case round =>
  obtain ⟨k, rfl, hk, hrow, hbW⟩ := hrel
  by_cases hlt : k < M
  ·have hkL : k < ns.length := by rw [HN.out.2]; exact hlt
   obtain ⟨x1, y1, hv, hd⟩ := (K0.out wr hbW).2
   injection hv with hv1 hv2 hv3
   subst hv1
   rcases hd with h0 | ⟨b, o, rfl, hat⟩
   ·rw [h0] at hkL; simp at hkL
   have c1 := hat k _ (List.getElem?_eq_getElem hkL)
   have hxs := HNS.out _ (List.getElem_mem hkL)
   obtain ⟨x, hx⟩ : ∃ x, ns[k] = x := ⟨_, rfl⟩
   rw [hx] at c1 hxs
   have HTK : Hid (((ns.take (k + 1)).map smallB).map Value.string = ((ns.take k).map smallB).map Value.string ++ [.string (smallB x)]) := by
    show _ = _
    rw [List.take_succ_eq_append_getElem hkL, hx]
    simp
   have cS := small_is x wr hxs
   obtain ⟨xs, hxs'⟩ : ∃ t : ByteArray, smallB x = t := ⟨_, rfl⟩
   rw [show (⟨(small x.data.toList).toArray⟩ : ByteArray) = xs from hxs'] at cS
   rw [hxs'] at HTK
   clear hat hv2 hv3 hx hxs'
   go_wp2_with fail
   refine cS.mono ?_
   clear cS
   rintro e w2 ⟨rfl, hb2⟩
   have hrow2 := row_below hb2 (Nat.le_refl _) hrow
   have hb02 := hbW.trans (hb2.mono hbW.size)
   have hbs := hb02.size
   clear hrow hb2
   go_wp2_with (at_builtin; go_must (refine wpList_push rfl (.tmp 17) (.tmp 20) 22 rfl _ w.heap.size 9 (.string ⟨#[]⟩) 16 Tryz.underlying22 Tryz.infoTx rfl _ _ _ (by rfl) hrow2 [.string xs] _ (by rfl) (by simp) (by simp [Value.oneCell']) (by simp) (by rfl) (by decide) (by simp; omega) hbs ?_); intro g3 cap3 w3 hown3 hg3 hlt3)
   have hb3 : Below w.heap.size w w3 := hb02.grown hg3 hbs (fun j e => (hrow2.lt j e).1)
   go_roundw
   case rel => exact ⟨k + 1, by go_num, by omega, by rw [HTK.out]; exact hown3, hb3⟩
   case measure => simp [intOf]; omega
  ·obtain rfl : k = M := by omega
   have hTK : (ns.take k) = ns := List.take_of_length_le (by have := HN.out.2; omega)
   rw [hTK] at hrow
   obtain ⟨sa, sc, rfl⟩ := row_slice hrow
   obtain ⟨TGT, hTGT⟩ : ∃ T, onlyF (L.map tx) (ns.map (·.data.toList)) = T := ⟨_, rfl⟩
   have HT : Hid (onlyF (L.map tx) (ns.map (·.data.toList)) = TGT) := hTGT
   have HT0 : Hid (onlyF (L.map tx) (ns.map (·.data.toList)) = TGT) := hTGT
   have HROW : Hid (wr.ownsRow w.heap.size 9 1 (.slice sa k sc) k ((ns.map smallB).map Value.string)) := hrow
   have hk' := HN.out.2
   clear hrow hTK hTGT hlt
   go_wp2_with fail
   obtain ⟨W0, hW0⟩ : ∃ W, W = wr := ⟨_, rfl⟩
   subst hW0
   go_loopw [8, 25] (fun ov i wr => ∃ (j : Nat) (O : List Fb), i = .int .i64 (j : Int) ∧ j ≤ N ∧ O.length ≤ j ∧ wr.ownsRow w.heap.size 78 2 ov O.length (cellsF O) ∧ Hid (wr.ownsRow w.heap.size 9 1 (.slice sa k sc) k ((ns.map smallB).map Value.string)) ∧ Hid (O.map tx ++ onlyF ((L.drop j).map tx) (ns.map (·.data.toList)) = TGT) ∧ Below w.heap.size w wr) (fun _ i _ => N - (intOf i).toNat)
   case atStart => exact ⟨0, [], rfl, by omega, by simp, World.ownsRow_nil _ _ _ _, HROW.out, by show _ = _; simpa using HT.out, hbW⟩
   case round =>
    clear HROW HT hbW
    obtain ⟨j, O, rfl, hj, hOj, hrow, HROW, HT, hbW⟩ := hrel
    by_cases hlt : j < N
    ·have hjL : j < L.length := by rw [HN.out.1]; exact hlt
     obtain ⟨x1, y1, hv, hd⟩ := (K0.out wr hbW).1
     injection hv with hv1 hv2 hv3
     subst hv1
     rcases hd with h0 | ⟨b, o, rfl, hat⟩
     ·rw [h0] at hjL; simp at hjL
     obtain ⟨c1, c2⟩ := hat j _ (List.getElem?_eq_getElem hjL)
     have hsx := HSH.out _ (List.getElem_mem hjL)
     have hTT := HT.out
     rw [List.drop_eq_getElem_cons hjL, List.map_cons, onlyF_step] at hTT
     obtain ⟨⟨x, y⟩, hxy⟩ : ∃ p, L[j] = p := ⟨_, rfl⟩
     rw [hxy] at c1 c2 hsx hTT
     simp only at c1 c2 hsx
     have hh2 := heap_alloc_new wr (.cells #[.string x, .string y] 78)
     have hb2 : Below w.heap.size w (wr.alloc (.cells #[.string x, .string y] 78)) := hbW.alloc hbW.size _
     have hlb : wr.heap.size < (wr.alloc (.cells #[.string x, .string y] 78)).heap.size := by simp
     have d1 : (wr.alloc (.cells #[.string x, .string y] 78)).cell? ⟨wr.heap.size, 0, none⟩ = some (.string x) := rd_cell hh2 rfl
     have d2 : (wr.alloc (.cells #[.string x, .string y] 78)).cell? ⟨wr.heap.size, 1, none⟩ = some (.string y) := rd_cell hh2 rfl
     have cS := small_is x (wr.alloc (.cells #[.string x, .string y] 78)) hsx.1
     obtain ⟨xs, hxs⟩ : ∃ t : ByteArray, ⟨(small x.data.toList).toArray⟩ = t := ⟨_, rfl⟩
     have hxl : xs.data.toList = small x.data.toList := by rw [← hxs]
     rw [hxs] at cS
     have HTT : Hid ((O.map tx ++ if (((ns.map (·.data.toList)).map small).contains xs.data.toList) = true then tx (x, y) :: onlyF ((L.drop (j + 1)).map tx) (ns.map (·.data.toList)) else onlyF ((L.drop (j + 1)).map tx) (ns.map (·.data.toList))) = TGT) := by
      show _ = _
      rw [hxl]
      exact hTT
     have hrowA := hrow.alloc (.cells #[.string x, .string y] 78)
     have hrowS := HROW.out.alloc (.cells #[.string x, .string y] 78)
     clear hxs hxl hat hv2 hv3 hxy HT hTT hh2 hrow HROW
     go_wp2_with fail
     refine cS.mono ?_
     clear cS
     rintro e w3 ⟨rfl, hb3⟩
     have e1 := (hb3.cell (p := ⟨wr.heap.size, 0, none⟩) hlb).trans d1
     have e2 := (hb3.cell (p := ⟨wr.heap.size, 1, none⟩) hlb).trans d2
     have hb03 := hb2.trans (hb3.mono hb2.size)
     have hrow3 := row_below hb3 (Nat.le_refl _) hrowA
     have hrowS3 := row_below hb3 (Nat.le_refl _) hrowS
     have cH := has_small ns xs (.slice sa k sc) w.heap.size w3 (by rw [hk']; exact hrowS3) (by omega)
     obtain ⟨B, hB⟩ : ∃ b, ((ns.map (·.data.toList)).map small).contains xs.data.toList = b := ⟨_, rfl⟩
     rw [hB] at cH HTT
     have hbs3 := hb03.size
     have HRS : Hid (w3.ownsRow w.heap.size 9 1 (.slice sa k sc) k ((ns.map smallB).map Value.string)) := hrowS3
     clear hb3 hrowA hrowS hrowS3 hB
     go_wp2_with fail
     refine cH.mono ?_
     clear cH
     rintro e w4 ⟨rfl, hw⟩
     subst hw
     cases B with
     | false =>
      have HN2 : Hid (O.map tx ++ onlyF ((L.drop (j + 1)).map tx) (ns.map (·.data.toList)) = TGT) := by have := HTT.out; rw [if_neg (by simp)] at this; exact this
      clear HTT
      go_wp2_with fail
      go_roundw
      case rel => exact ⟨j + 1, O, by go_num, by omega, by omega, hrow3, HRS.out, HN2.out, hb03⟩
      case measure => simp [intOf]; omega
     | true =>
      have HN2 : Hid ((O ++ [(x, y)]).map tx ++ onlyF ((L.drop (j + 1)).map tx) (ns.map (·.data.toList)) = TGT) := by have := HTT.out; rw [if_pos rfl] at this; rw [List.map_append, List.append_assoc]; exact this
      obtain ⟨ra, rc, rfl⟩ := row_slice hrow3
      have hnews : ∀ (i : Nat) (u : Value), [Value.string x, Value.string y][i]? = some u → (w4.alloc (.cells #[.string x, .string y] 78)).cell? (Addr.add ⟨w4.heap.size, 0, none⟩ i) = some u := World.news_of_block (heap_alloc_new w4 (.cells #[.string x, .string y] 78))
      clear HTT
      go_wp2_with (at_builtin; go_must (refine wpList_append_lies _ rfl (.tmp 34) (.tmp 36) 74 rfl w.heap.size 78 i0 (.agg #[.string ⟨#[]⟩, .string ⟨#[]⟩]) 2 32 Tryz.underlying74 hi hz0 hz1 hz2 rfl (by decide) _ _ _ (by rfl) (hrow3.alloc _) ⟨w4.heap.size, 0, none⟩ 1 1 [.string x, .string y] (by rfl) rfl hnews (by simp [Value.oneCell']) (by decide) (by unfold maxLen; omega) (by omega) (by simp; omega) _ rfl ?_); intro g5 cap5 w5 hown5 hg5 _ hlt5)
      have hg5' := grownBy_of_alloc hg5
      have hb5 : Below w.heap.size w w5 := hb03.grown hg5' hbs3 (fun i e => (hrow3.lt i e).1)
      have hrs5 := row_grown hg5' hrow3 HRS.out (by decide)
      go_roundw
      case rel => exact ⟨j + 1, O ++ [(x, y)], by go_num, by omega, by simp; omega, by rw [List.length_append, cellsF_append]; exact hown5, hrs5, HN2.out, hb5⟩
      case measure => simp [intOf]; omega
    ·have HE : Hid (O.map tx = TGT) := by
      show _ = _
      have := HT.out
      rw [List.drop_eq_nil_of_le (by rw [HN.out.1]; omega)] at this
      simpa [onlyF] using this
     have hfg := fg_of_row hrow
     obtain ⟨ra, rc, rfl⟩ := row_slice hrow
     have HFG : Hid (Fg wr (.slice ra O.length rc) O) := hfg
     obtain ⟨ON, hON⟩ : ∃ n, O.length = n := ⟨_, rfl⟩
     rw [hON] at HFG hrow ⊢
     clear hfg hrow HROW HT
     go_wp2_with fail
     go_ret
     exact ⟨⟨_, O, rfl, HFG.out, HE.out.trans HT0.out.symm⟩, hbW⟩
end Go.Proofs.YtogigccbnohjjaaGreatDoor
namespace Go.Proofs.YtogigccbnohjjaaGreatDoor
open Go.RowKit Go.Proofs.Aid Go.Proofs.Sq Go.Proofs.Hd
set_option maxHeartbeats 4000000
set_option maxRecDepth 100000
theorem fhas_in (p : Nat) (s : ByteArray) (q1 q2 : ByteArray) (m : Int) (w : World) (hp : w.cell? ⟨p, 0, none⟩ = some (.string s)) (hq : q2.size ≤ 2000000) (hs : s.size ≤ 2000000) (hm : w.cell? ⟨1, 0, none⟩ = some (.int .i64 m)) :
  Calls Tryz.prog 77 #[.agg #[.string q1, .string q2], .pointer (some ⟨p, 0, none⟩)] w fun e w' => e = .returned (.bool (Sr.hasT q2.data.toList s.data.toList)) ∧ Below w.heap.size w w' := by
 have hb1 : Below w.heap.size w (w.alloc (.cells #[.string q1, .string q2] 78)) := (Below.refl _ _).alloc (Nat.le_refl _) _
 have cH := has_is q2 s m (w.alloc (.cells #[.string q1, .string q2] 78)) hq hs ((hb1.cell (World.block_lt_of_cell? _ _ hm)).trans hm)
 have hp1 := (hb1.cell (World.block_lt_of_cell? _ _ hp)).trans hp
 have n1 : (w.alloc (.cells #[.string q1, .string q2] 78)).cell? ⟨w.heap.size, 1, none⟩ = some (.string q2) := rd_cell (heap_alloc_new w _) rfl
 obtain ⟨A, hA⟩ : ∃ A, Sr.hasT q2.data.toList s.data.toList = A := ⟨_, rfl⟩
 rw [hA] at cH ⊢
 have HB1 : Hid (Below w.heap.size w (w.alloc (.cells #[.string q1, .string q2] 78))) := hb1
 obtain ⟨W1, hW1⟩ : ∃ W, w.alloc (.cells #[.string q1, .string q2] 78) = W := ⟨_, rfl⟩
 rw [hW1] at cH hp1 n1 HB1
 clear hA hb1 hp hm
 go_enter Tryz.func77, Tryz.ntmps77
 go_wp2_with fail
 refine cH.mono ?_
 rintro e w2 ⟨rfl, hb2⟩
 clear cH
 go_wp2_with fail
 go_ret
 exact ⟨rfl, HB1.out.trans (hb2.mono HB1.out.size)⟩
theorem tg_one (w : World) (n : ByteArray) : Tg (w.alloc (.cells #[.string n] 9)) (.slice (some ⟨w.heap.size, 0, none⟩) 1 1) [n] :=
 ⟨_, _, rfl, Or.inr ⟨_, _, rfl, fun j s hj => by
  match j, hj with
  | 0, hj => rw [← Option.some.inj hj]; exact rd_cell (heap_alloc_new w _) rfl
  | j + 1, hj => simp at hj⟩⟩
theorem fieldHas_is (t n s : ByteArray) (m : Int) (w : World) (ht : t.size ≤ 90000) (hn : n.size ≤ 2000000) (hs : s.size ≤ 2000000) (hm : w.cell? ⟨1, 0, none⟩ = some (.int .i64 m)) :
  Calls Tryz.prog 41 #[.string t, .string n, .string s] w fun e w' => e = .returned (.bool (Sr.fieldT t.data.toList n.data.toList s.data.toList)) ∧ Below w.heap.size w w' := by
 have hmf : ∀ (fn : Fn) (first cap : Array Value) (w : World), (Instr.makeFunc fn first cap).run Tryz.prog w = .ok (.func fn first cap) w := fun _ _ _ _ => rfl
 have eg : ∀ args w, (callFunc 77 args).run Tryz.prog w = .ok (.enter 77 args) w := enters_of Tryz.func77 (by kernel_rfl) rfl
 have K0 : Hid (∀ W, Below w.heap.size w W → W.cell? ⟨1, 0, none⟩ = some (.int .i64 m)) := fun W h => (h.cell (World.block_lt_of_cell? _ _ hm)).trans hm
 have hb1 : Below w.heap.size w (w.alloc (.cells #[.string s] 9)) := (Below.refl _ _).alloc (Nat.le_refl _) _
 have n1 : (w.alloc (.cells #[.string s] 9)).cell? ⟨w.heap.size, 0, none⟩ = some (.string s) := rd_cell (heap_alloc_new w _) rfl
 obtain ⟨W1, hW1⟩ : ∃ W, w.alloc (.cells #[.string s] 9) = W := ⟨_, rfl⟩
 rw [hW1] at hb1 n1
 have hz1 : w.heap.size < W1.heap.size := World.block_lt_of_cell? _ _ n1
 have HP : Hid (∀ W, Below W1.heap.size W1 W → W.cell? ⟨w.heap.size, 0, none⟩ = some (.string s)) := fun W h => (h.cell hz1).trans n1
 have HB1 : Hid (Below w.heap.size w W1) := hb1
 have cF := fields_is t m W1 ht (K0.out W1 hb1)
 obtain ⟨F, hF⟩ : ∃ F, fieldsOf t.data.toList = F := ⟨_, rfl⟩
 have HV : Hid (∀ f ∈ F.2, f.2.length ≤ t.size + 1) := by
  intro f hf
  rw [← hF] at hf
  have := values_short t.data.toList f hf
  rw [list_size] at this
  exact this
 have HG : Hid (∀ L : List Fb, L.map tx = F.2 → Short L ∧ L.length ≤ 40) := fun L hL => by
  rw [← hF] at hL
  exact ⟨short_of (V := t.size + 1) (by omega) fun f hf => by
   rw [hL] at hf
   exact ⟨(fieldsOf_good _).1 f hf, by have := values_short t.data.toList f hf; rw [list_size] at this; exact this⟩, by
   have := congrArg List.length hL
   rw [List.length_map] at this
   rw [this]
   exact (fieldsOf_good _).2⟩
 obtain ⟨A, hA⟩ : ∃ A, Sr.fieldT t.data.toList n.data.toList s.data.toList = A := ⟨_, rfl⟩
 have HA : Hid ((decide (F.1.1 = 0) && (onlyF F.2 [n.data.toList]).any fun f => Sr.hasT f.2 s.data.toList) = A) := by
  show _ = _
  rw [← hA, Sr.fieldT, hF]
 rw [hF] at cF
 rw [hA]
 clear hm hb1 n1 hA hF
 go_enter Tryz.func41, Tryz.ntmps41
 go_wp2_with fail
 refine cF.mono ?_
 clear cF
 rintro e w2 ⟨hb2, ⟨h0, v, L, rfl, hfg, hL⟩ | ⟨h0, p, rfl, _, _⟩⟩
 ·have HB2 : Hid (Below W1.heap.size W1 w2) := hb2
  have hb3 : Below w2.heap.size w2 (w2.alloc (.cells #[.string n] 9)) := (Below.refl _ _).alloc (Nat.le_refl _) _
  have hg := HG.out L hL
  have cO := only_is v (.slice (some ⟨w2.heap.size, 0, none⟩) 1 1) L [n] (w2.alloc (.cells #[.string n] 9)) (hfg.below hb3 (Nat.le_refl _)) (tg_one w2 n) (by omega) hg.1 (by simp) (by simpa using hn)
  have HL : Hid (L.map tx = F.2) := hL
  have HB3 : Hid (Below w2.heap.size w2 (w2.alloc (.cells #[.string n] 9))) := hb3
  have H0 : Hid (F.1.1 = 0) := h0
  obtain ⟨W3, hW3⟩ : ∃ W, w2.alloc (.cells #[.string n] 9) = W := ⟨_, rfl⟩
  rw [hW3] at cO HB3
  obtain ⟨va, vc, rfl, _⟩ := hfg
  obtain ⟨LN, hLN⟩ : ∃ x, L.length = x := ⟨_, rfl⟩
  rw [hLN] at cO ⊢
  clear hb2 hb3 hg hL h0 hLN
  go_wp2_with fail
  refine cO.mono ?_
  clear cO
  rintro e w4 ⟨⟨u, O, rfl, hfo, hO⟩, hb4⟩
  have hb14 : Below W1.heap.size W1 w4 := (HB2.out.trans (HB3.out.mono HB2.out.size)).trans (hb4.mono (Nat.le_trans HB2.out.size HB3.out.size))
  have HB4 : Hid (Below W1.heap.size W1 w4) := hb14
  have hO1 : O.map tx = onlyF F.2 [n.data.toList] := by rw [hO, HL.out]; rfl
  have hOm : ∀ f ∈ O, f.2.size ≤ 2000000 ∧ tx f ∈ F.2 := fun f hf => by
   have h1 : tx f ∈ onlyF F.2 [n.data.toList] := by rw [← hO1]; exact List.mem_map_of_mem hf
   have h2 : tx f ∈ F.2 := (List.mem_filter.1 h1).1
   have h3 := HV.out _ h2
   simp only [tx] at h3
   rw [list_size] at h3
   exact ⟨by omega, h2⟩
  have hOl : O.length ≤ 1000 := by
   have h1 := congrArg List.length hO1
   rw [List.length_map] at h1
   have h2 : (onlyF F.2 [n.data.toList]).length ≤ F.2.length := List.length_filter_le _ _
   have h3 := (HG.out L HL.out).2
   have h4 := congrArg List.length HL.out
   rw [List.length_map] at h4
   omega
  have cC := any_fields 77 eg #[.pointer (some ⟨w.heap.size, 0, none⟩)] (fun f => Sr.hasT f.2.data.toList s.data.toList) u O w4 hfo hOl (fun j f W hj hW => by
   have hW1 := hb14.trans (hW.mono hb14.size)
   exact fhas_in w.heap.size s f.1 f.2 m W (HP.out W hW1) (hOm f (List.mem_of_getElem? hj)).1 hs (K0.out W (HB1.out.trans (hW1.mono HB1.out.size))))
  have HE : (O.any fun f => Sr.hasT f.2.data.toList s.data.toList) = A := by
   rw [← HA.out, ← hO1, H0.out, List.any_map]
   rfl
  rw [HE] at cC
  clear hO hO1 hOm hOl hb4 hb14 HE
  go_wp2_with fail
  refine cC.mono ?_
  clear cC
  rintro e w5 ⟨rfl, hb5⟩
  go_wp2_with fail
  go_ret
  exact ⟨rfl, (HB1.out.trans (HB4.out.mono HB1.out.size)).trans (hb5.mono (Nat.le_trans HB1.out.size HB4.out.size))⟩
 ·have HB2 : Hid (Below W1.heap.size W1 w2) := hb2
  have hA0 : A = false := by rw [← HA.out, decide_eq_false h0]; rfl
  subst hA0
  clear hb2 h0
  go_wp2_with fail
  go_ret
  exact ⟨rfl, HB1.out.trans (HB2.out.mono HB1.out.size)⟩
theorem is_3 (m : Sr.Lt) (name text : Sr.Tx) (n : Int) (set : List (Nat × Nat)) (keys : List Sr.Ky) (ys : List Value) (Ok : Nat → Prop) (d : Nat) (tb : ByteArray) (fa : Option Addr) (fn fc : Nat) (mx : Int) (w : World) (hk : Kx w Ok (.mk 3 name text n set keys) ys) (hd : d ≤ 1000) (htb : tb.data.toList = m.text) (ht : tb.size ≤ 90000) (hn : name.length ≤ 2000000) (hx : text.length ≤ 2000000) (hm : w.cell? ⟨1, 0, none⟩ = some (.int .i64 mx)) :
  Calls Tryz.prog 22 #[.agg #[.int .i64 m.uid, .slice fa fn fc, .int .i64 m.day, .string tb, .int .i64 m.which, .int .i64 m.many, .int .i64 m.greatest], .agg ys.toArray, .int .i64 (d : Int)] w fun e w' => e = .returned (.bool (Sr.fieldT m.text name text)) ∧ Below w.heap.size w w' := by
 cases hk with
 | mk code n nb tx set sv ks a c rows hst hkk ha =>
  obtain ⟨sa, sc, rfl, _⟩ := hst
  obtain ⟨SN, hSN⟩ : ∃ n, set.length = n := ⟨_, rfl⟩
  obtain ⟨KN, hKN⟩ : ∃ n, keys.length = n := ⟨_, rfl⟩
  rw [hSN, hKN, show ([.int .i64 3, .string nb, .string tx, .int .i64 n, .slice sa SN sc, .slice a KN c] : List Value).toArray = #[.int .i64 3, .string nb, .string tx, .int .i64 n, .slice sa SN sc, .slice a KN c] from rfl]
  have dd : decide ((65536 : Int) < (d : Int)) = false := decide_eq_false (by omega)
  obtain ⟨W2, hW2, hz2, e1, e2, hb2⟩ := two_boxes w #[.int .i64 m.uid, .slice fa fn fc, .int .i64 m.day, .string tb, .int .i64 m.which, .int .i64 m.many, .int .i64 m.greatest] #[.int .i64 3, .string nb, .string tx, .int .i64 n, .slice sa SN sc, .slice a KN c] 66 32
  have r3 : W2.cell? ⟨w.heap.size, 3, none⟩ = some (.string tb) := rd_cell e1 rfl
  have k0 : W2.cell? ⟨w.heap.size + 1, 0, none⟩ = some (.int .i64 3) := rd_cell e2 rfl
  have k1 : W2.cell? ⟨w.heap.size + 1, 1, none⟩ = some (.string nb) := rd_cell e2 rfl
  have k2 : W2.cell? ⟨w.heap.size + 1, 2, none⟩ = some (.string tx) := rd_cell e2 rfl
  have HB2 : Hid (Below w.heap.size w W2) := hb2
  have HK2 : Hid (∀ W, Below W2.heap.size W2 W → W.cell? ⟨w.heap.size + 1, 2, none⟩ = some (.string tx) ∧ W.cell? ⟨1, 0, none⟩ = some (.int .i64 mx)) := fun W h => ⟨(h.cell (World.block_lt_of_cell? _ _ k2)).trans k2, by
   have hm2 := (hb2.cell (World.block_lt_of_cell? _ _ hm)).trans hm
   exact (h.cell (World.block_lt_of_cell? _ _ hm2)).trans hm2⟩
  rw [list_size] at hn hx
  rw [← htb]
  have cH := fieldHas_is tb nb tx mx W2 ht hn hx (HK2.out W2 (Below.refl _ _)).2
  obtain ⟨A, hA⟩ : ∃ A, Sr.fieldT tb.data.toList nb.data.toList tx.data.toList = A := ⟨_, rfl⟩
  have HA : Hid (Sr.fieldT tb.data.toList nb.data.toList tx.data.toList = A) := hA
  rw [hA] at cH ⊢
  clear e1 e2 hkk ha hb2 hKN hSN htb hm hA
  go_enter Tryz.func22, Tryz.ntmps22
  go_wp2_with fail
  refine cH.mono ?_
  rintro e w3 ⟨rfl, hb3⟩
  clear cH
  go_wp2_with fail
  go_ret
  exact ⟨rfl, HB2.out.trans (hb3.mono HB2.out.size)⟩
theorem is_5 (m : Sr.Lt) (name text : Sr.Tx) (n : Int) (set : List (Nat × Nat)) (keys : List Sr.Ky) (ys : List Value) (Ok : Nat → Prop) (d : Nat) (tb : ByteArray) (fa : Option Addr) (fn fc : Nat) (mx : Int) (w : World) (hk : Kx w Ok (.mk 5 name text n set keys) ys) (hd : d ≤ 1000) (htb : tb.data.toList = m.text) (ht : tb.size ≤ 90000) (hn : name.length ≤ 2000000) (hx : text.length ≤ 2000000) (hm : w.cell? ⟨1, 0, none⟩ = some (.int .i64 mx)) :
  Calls Tryz.prog 22 #[.agg #[.int .i64 m.uid, .slice fa fn fc, .int .i64 m.day, .string tb, .int .i64 m.which, .int .i64 m.many, .int .i64 m.greatest], .agg ys.toArray, .int .i64 (d : Int)] w fun e w' => e = .returned (.bool (Sr.hasT m.text text)) ∧ Below w.heap.size w w' := by
 cases hk with
 | mk code n nb tx set sv ks a c rows hst hkk ha =>
  obtain ⟨sa, sc, rfl, _⟩ := hst
  obtain ⟨SN, hSN⟩ : ∃ n, set.length = n := ⟨_, rfl⟩
  obtain ⟨KN, hKN⟩ : ∃ n, keys.length = n := ⟨_, rfl⟩
  rw [hSN, hKN, show ([.int .i64 5, .string nb, .string tx, .int .i64 n, .slice sa SN sc, .slice a KN c] : List Value).toArray = #[.int .i64 5, .string nb, .string tx, .int .i64 n, .slice sa SN sc, .slice a KN c] from rfl]
  have dd : decide ((65536 : Int) < (d : Int)) = false := decide_eq_false (by omega)
  obtain ⟨W2, hW2, hz2, e1, e2, hb2⟩ := two_boxes w #[.int .i64 m.uid, .slice fa fn fc, .int .i64 m.day, .string tb, .int .i64 m.which, .int .i64 m.many, .int .i64 m.greatest] #[.int .i64 5, .string nb, .string tx, .int .i64 n, .slice sa SN sc, .slice a KN c] 66 32
  have r3 : W2.cell? ⟨w.heap.size, 3, none⟩ = some (.string tb) := rd_cell e1 rfl
  have k0 : W2.cell? ⟨w.heap.size + 1, 0, none⟩ = some (.int .i64 5) := rd_cell e2 rfl
  have k1 : W2.cell? ⟨w.heap.size + 1, 1, none⟩ = some (.string nb) := rd_cell e2 rfl
  have k2 : W2.cell? ⟨w.heap.size + 1, 2, none⟩ = some (.string tx) := rd_cell e2 rfl
  have HB2 : Hid (Below w.heap.size w W2) := hb2
  have HK2 : Hid (∀ W, Below W2.heap.size W2 W → W.cell? ⟨w.heap.size + 1, 2, none⟩ = some (.string tx) ∧ W.cell? ⟨1, 0, none⟩ = some (.int .i64 mx)) := fun W h => ⟨(h.cell (World.block_lt_of_cell? _ _ k2)).trans k2, by
   have hm2 := (hb2.cell (World.block_lt_of_cell? _ _ hm)).trans hm
   exact (h.cell (World.block_lt_of_cell? _ _ hm2)).trans hm2⟩
  rw [list_size] at hn hx
  rw [← htb]
  have cH := has_is tb tx mx W2 (by omega) hx (HK2.out W2 (Below.refl _ _)).2
  obtain ⟨A, hA⟩ : ∃ A, Sr.hasT tb.data.toList tx.data.toList = A := ⟨_, rfl⟩
  have HA : Hid (Sr.hasT tb.data.toList tx.data.toList = A) := hA
  rw [hA] at cH ⊢
  clear e1 e2 hkk ha hb2 hKN hSN htb hm hA
  go_enter Tryz.func22, Tryz.ntmps22
  go_wp2_with fail
  refine cH.mono ?_
  rintro e w3 ⟨rfl, hb3⟩
  clear cH
  go_wp2_with fail
  go_ret
  exact ⟨rfl, HB2.out.trans (hb3.mono HB2.out.size)⟩
theorem is_4 (m : Sr.Lt) (name text : Sr.Tx) (n : Int) (set : List (Nat × Nat)) (keys : List Sr.Ky) (ys : List Value) (Ok : Nat → Prop) (d : Nat) (tb : ByteArray) (fa : Option Addr) (fn fc : Nat) (mx : Int) (w : World) (hk : Kx w Ok (.mk 4 name text n set keys) ys) (hd : d ≤ 1000) (htb : tb.data.toList = m.text) (ht : tb.size ≤ 90000) (hn : name.length ≤ 2000000) (hx : text.length ≤ 2000000) (hm : w.cell? ⟨1, 0, none⟩ = some (.int .i64 mx)) :
  Calls Tryz.prog 22 #[.agg #[.int .i64 m.uid, .slice fa fn fc, .int .i64 m.day, .string tb, .int .i64 m.which, .int .i64 m.many, .int .i64 m.greatest], .agg ys.toArray, .int .i64 (d : Int)] w fun e w' => e = .returned (.bool (Sr.hasT (Hd.bodyOf m.text) text)) ∧ Below w.heap.size w w' := by
 cases hk with
 | mk code n nb tx set sv ks a c rows hst hkk ha =>
  obtain ⟨sa, sc, rfl, _⟩ := hst
  obtain ⟨SN, hSN⟩ : ∃ n, set.length = n := ⟨_, rfl⟩
  obtain ⟨KN, hKN⟩ : ∃ n, keys.length = n := ⟨_, rfl⟩
  rw [hSN, hKN, show ([.int .i64 4, .string nb, .string tx, .int .i64 n, .slice sa SN sc, .slice a KN c] : List Value).toArray = #[.int .i64 4, .string nb, .string tx, .int .i64 n, .slice sa SN sc, .slice a KN c] from rfl]
  have dd : decide ((65536 : Int) < (d : Int)) = false := decide_eq_false (by omega)
  obtain ⟨W2, hW2, hz2, e1, e2, hb2⟩ := two_boxes w #[.int .i64 m.uid, .slice fa fn fc, .int .i64 m.day, .string tb, .int .i64 m.which, .int .i64 m.many, .int .i64 m.greatest] #[.int .i64 4, .string nb, .string tx, .int .i64 n, .slice sa SN sc, .slice a KN c] 66 32
  have r3 : W2.cell? ⟨w.heap.size, 3, none⟩ = some (.string tb) := rd_cell e1 rfl
  have k0 : W2.cell? ⟨w.heap.size + 1, 0, none⟩ = some (.int .i64 4) := rd_cell e2 rfl
  have k1 : W2.cell? ⟨w.heap.size + 1, 1, none⟩ = some (.string nb) := rd_cell e2 rfl
  have k2 : W2.cell? ⟨w.heap.size + 1, 2, none⟩ = some (.string tx) := rd_cell e2 rfl
  have HB2 : Hid (Below w.heap.size w W2) := hb2
  have HK2 : Hid (∀ W, Below W2.heap.size W2 W → W.cell? ⟨w.heap.size + 1, 2, none⟩ = some (.string tx) ∧ W.cell? ⟨1, 0, none⟩ = some (.int .i64 mx)) := fun W h => ⟨(h.cell (World.block_lt_of_cell? _ _ k2)).trans k2, by
   have hm2 := (hb2.cell (World.block_lt_of_cell? _ _ hm)).trans hm
   exact (h.cell (World.block_lt_of_cell? _ _ hm2)).trans hm2⟩
  rw [list_size] at hn hx
  rw [← htb]
  have cS := split_is tb mx W2 (by omega) (HK2.out W2 (Below.refl _ _)).2
  obtain ⟨b1, hb1⟩ : ∃ b : ByteArray, ⟨(headOf tb.data.toList).toArray⟩ = b := ⟨_, rfl⟩
  obtain ⟨b2, hbb⟩ : ∃ b : ByteArray, ⟨(bodyOf tb.data.toList).toArray⟩ = b := ⟨_, rfl⟩
  rw [hb1, hbb] at cS
  have HBB : Hid (b2.data.toList = bodyOf tb.data.toList) := by show _ = _; rw [← hbb]
  have hbz : b2.size ≤ 2000000 := by
   rw [← list_size, HBB.out]
   have : (bodyOf tb.data.toList).length ≤ tb.data.toList.length := by unfold bodyOf; simp
   rw [list_size] at this
   omega
  clear hb1 hbb
  obtain ⟨A, hA⟩ : ∃ A, Sr.hasT (Hd.bodyOf tb.data.toList) tx.data.toList = A := ⟨_, rfl⟩
  have HA : Hid (Sr.hasT (Hd.bodyOf tb.data.toList) tx.data.toList = A) := hA
  rw [hA]
  clear e1 e2 hkk ha hb2 hKN hSN htb hm hA
  go_enter Tryz.func22, Tryz.ntmps22
  go_wp2_with fail
  refine cS.mono ?_
  rintro e w3 ⟨rfl, hb3⟩
  clear cS
  have c2 := (HK2.out w3 hb3).1
  have cH := has_is b2 tx mx w3 hbz hx (HK2.out w3 hb3).2
  rw [HBB.out, HA.out] at cH
  go_wp2_with fail
  refine cH.mono ?_
  rintro e w4 ⟨rfl, hb4⟩
  clear cH
  go_wp2_with fail
  go_ret
  exact ⟨rfl, (HB2.out.trans (hb3.mono HB2.out.size)).trans (hb4.mono (Nat.le_trans HB2.out.size hb3.size))⟩
def AllL (code : Int) (name text : Sr.Tx) : Prop := ((code = 3 ∨ code = 4 ∨ code = 5) ∧ name.length ≤ 2000000 ∧ text.length ≤ 2000000) ∨ FlagL code name text
theorem all_leafs (m : Sr.Lt) (Ok : Nat → Prop) (tb : ByteArray) (fa : Option Addr) (fn fc : Nat) (w0 : World) (htb : tb.data.toList = m.text) (ht : tb.size ≤ 90000) (hF : Trow w0 fa fn m.flags) (hFl : m.flags.length ≤ 1000) (hm : ∀ W, Below w0.heap.size w0 W → ∃ mx, W.cell? ⟨1, 0, none⟩ = some (.int .i64 mx)) : Leafs m [.int .i64 m.uid, .slice fa fn fc, .int .i64 m.day, .string tb, .int .i64 m.which, .int .i64 m.many, .int .i64 m.greatest] AllL Ok w0 := by
 intro code name text n set keys ys d W hc h0 hk hd hs
 obtain ⟨mx, hmx⟩ := hm W h0
 rcases hc with ⟨rfl | rfl | rfl, h1, h2⟩ | hc
 ·rw [show Sr.holdsK m (.mk 3 name text n set keys) = Sr.fieldT m.text name text by rw [Sr.holdsK]; simp]
  exact is_3 m name text n set keys ys Ok d tb fa fn fc mx W hk hd htb ht h1 h2 hmx
 ·rw [show Sr.holdsK m (.mk 4 name text n set keys) = Sr.hasT (Hd.bodyOf m.text) text by rw [Sr.holdsK]; simp]
  exact is_4 m name text n set keys ys Ok d tb fa fn fc mx W hk hd htb ht h1 h2 hmx
 ·rw [show Sr.holdsK m (.mk 5 name text n set keys) = Sr.hasT m.text text by rw [Sr.holdsK]; simp]
  exact is_5 m name text n set keys ys Ok d tb fa fn fc mx W hk hd htb ht h1 h2 hmx
 ·exact flag_leafs m Ok tb fa fn fc w0 htb hF hFl code name text n set keys ys d W hc h0 hk hd hs
end Go.Proofs.YtogigccbnohjjaaGreatDoor
