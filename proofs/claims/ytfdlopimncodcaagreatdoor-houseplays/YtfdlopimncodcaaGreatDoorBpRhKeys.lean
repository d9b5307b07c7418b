/-
  The document's keysOf: the keys of a map from texts to numbers, in ord, and more.
-/
import Derived.Test.YtfdlopimncodcaaGreatDoorBpRhMap
import Derived.Test.YtfdlopimncodcaaGreatDoorMRhBoxApp
import Derived.Maps.RangeWalk
import Derived.Sort.OwnSorted
namespace Go.Proofs.YtfdlopimncodcaaGreatDoor
open Go.RowKit Go.Proofs.Aid Go.Sort Go.Lib
theorem rsort_bytes (base : Nat) (v : Value) (l : List Nm) (w : World) (h : NRow w base v l) (hB : base ≤ w.heap.size) (hl : l.length ≤ 1000) :
    Calls Tryz.prog 118 #[v] w fun e w' => e = .returned (.tuple #[]) ∧ NRow w' base v (l.mergeSort leB) ∧ Below base w w' := by
  have hlen : (l.mergeSort leB).length = l.length := by simp [List.length_mergeSort]
  by_cases hv : v = .slice none 0 0
  · subst hv
    have hnil : l = [] := by
      unfold NRow at h
      rcases h.2 with ⟨_, h2⟩ | ⟨g, cap, cur, h1, _⟩
      · exact List.eq_nil_of_length_eq_zero h2
      · cases h1
    subst hnil
    refine (Tryz.slices_Sort_string_none none 0 w).mono ?_
    rintro e w' ⟨rfl, rfl⟩
    exact ⟨rfl, by rw [show ([] : List Nm).mergeSort leB = [] by simp]; exact World.ownsRow_nil _ _ _ _, Below.refl _ _⟩
  · obtain ⟨g, cap, rfl, hgb2, hlt, hc, hm, _, hH⟩ := Lib.holds_of_ownsRow h hv
    refine (Tryz.slices_Sort_string g 0 cap l w hH hlt (by omega)).mono ?_
    rintro e w' ⟨rfl, n, os, rfl⟩
    have h1 := Lib.ownsRow_putRow (q := n) (ys := l.mergeSort leB) (k := l.length) h hlen (Nat.le_refl _)
    rw [List.take_of_length_le (by rw [hlen]; exact Nat.le_refl _)] at h1
    refine ⟨rfl, ?_, below_grow3 (Lib.below_putRow (Below.refl _ _) hgb2) (by simp [putRow, mapBlock, Sort.ahead]; exact hB) os⟩
    unfold NRow
    rw [hlen]
    exact row_grow3 h1 os
theorem rsort_strings (base : Nat) (v : Value) (l : List Nm) (w : World) (h : NRow w base v l) (hB : base ≤ w.heap.size) (hl : l.length ≤ 1000) :
    Calls Tryz.prog 120 #[v] w fun e w' => e = .returned (.tuple #[]) ∧ NRow w' base v (l.mergeSort leB) ∧ Below base w w' := by
  have cS := rsort_bytes base v l w h hB hl
  clear h
  go_enter Tryz.func120, Tryz.ntmps120
  go_wp2_with fail
  refine cS.mono ?_
  rintro e w1 ⟨rfl, h1, hb1⟩
  go_wp2_with fail
  go_end0
  exact ⟨rfl, h1, hb1⟩
set_option maxHeartbeats 4000000 in
set_option maxRecDepth 100000 in
theorem rkeys_is (mw n : Nat) (D : DataW Unit) (w : World) (hown : w.ownsMap Tryz.prog 9 (plainElem Tryz.prog 3) mw n D) (hn : n ≤ 1000) :
    Calls Tryz.prog 67 #[.map (some mw)] w fun e w' => (∃ v, e = .returned v ∧ NRow w' w.heap.size v ((strKeys D).mergeSort leB)) ∧ Below w.heap.size w w' := by
  have hbl := hown.lt
  have hsz := hown.size_le
  have HO : Hid (w.ownsMap Tryz.prog 9 (plainElem Tryz.prog 3) mw n D) := hown
  go_enter Tryz.func67, Tryz.ntmps67
  go_wp2_with (first
    | (at_range; refine wpList_range_own _ rfl _ 86 rfl 9 3 lawN Tryz.underlying86 _ mw n _ rfl hown ?_; intro w0 hrg0 hg0 hs0)
    | go_in)
  go_frame
  clear hs0 hown
  go_loopw [3] (fun v wq => ∃ (left : Lit → Bool) (cnt : Nat) (ss : List Nm), wq.ranges Tryz.prog 9 (plainElem Tryz.prog 3) mw w.heap.size n D left cnt ∧ ss.length + cnt ≤ n ∧
      wq.ownsRow w.heap.size 9 1 v ss.length (ss.map encStr) ∧ Hid (Collected D left ss) ∧ Below w.heap.size w wq)
    (fun _ wq => wq.rangeLeft mw w.heap.size)
  case atStart => exact ⟨_, _, [], hrg0, by simpa using hsz, World.ownsRow_nil _ _ _ _, Collected.start D, (Below.refl _ _).grown hg0 (Nat.le_refl _) (fun j hj => by cases hj)⟩
  case round =>
    obtain ⟨left, cnt, ss, hrg, hcs, hrowS, HCo, hnx⟩ := hrel
    have hslen : ss.length ≤ 1000 := by omega
    obtain ⟨oa, oc, rfl⟩ := row_form hrowS
    go_wp2_with (first
      | (at_next; refine wpList_next_ranges _ rfl _ rfl 9 lawN (plainElem Tryz.prog 3) encStr (Value.int .i64) (fun key kl hk => by obtain ⟨x, hx, _⟩ := Maps.keyOf_str Tryz.underlying9 hk; exact ⟨x, hx⟩) (fun v y hv => by obtain ⟨c, rfl, _⟩ := plainElem_int_inv Tryz.underlying3 hv; exact ⟨c, rfl⟩) mw w.heap.size n _ _ _ rfl hrg ?_ ?_)
      | go_in)
    · intro hc0 hl0
      have cS := rsort_strings w.heap.size _ ss wr hrowS hnx.size hslen
      have HP : Hid (ss.mergeSort leB = (strKeys D).mergeSort leB ∧ Below w.heap.size w wr) := ⟨mergeSort_of_perm (HCo.out.perm HO.out lawN Tryz.underlying9 hl0), hnx⟩
      clear hrowS hrg hnx
      go_wp2_with fail
      refine cS.mono ?_
      rintro e w4 ⟨rfl, hrow4, hb4⟩
      have HF : Hid (NRow w4 w.heap.size (.slice oa ss.length oc) ((strKeys D).mergeSort leB) ∧ Below w.heap.size w w4) := ⟨by rw [← HP.out.1]; exact hrow4, HP.out.2.trans hb4⟩
      clear cS hrow4 hb4
      go_wp2_with fail
      go_ret
      exact ⟨⟨_, rfl, HF.out.1⟩, HF.out.2⟩
    · intro x c kl yd yp w2 cnt2 hkey hlk hv hat hrg2 hlt hg2 hs2 hen
      obtain ⟨x', ex, rfl, _⟩ := Maps.keyOf_str Tryz.underlying9 hkey
      obtain rfl : x = x' := encStr_inj ex
      have hrow2 := hrowS.kept hg2 (Or.inr (row_ne_iter hrowS hrg).symm)
      have hb2 : w.heap.size ≤ w2.heap.size := Nat.le_trans hnx.size hg2.size
      clear hs2
      go_wp2_with (first
        | (at_builtin; go_must (refine wpList_push rfl (.tmp 11) (.tmp 13) 32 rfl _ w.heap.size 9 (.string ⟨#[]⟩) 16 Tryz.underlying32 Tryz.infoNm rfl _ _ _ (by rfl) hrow2 [encStr x] _ (by rfl) (by simp) (by simp [Value.oneCell', encStr]) (by simp) (by rfl) (by decide) (by simp; omega) hb2 ?_); intro g1 cap1 w9 hown1 hg1 hlt1)
        | go_in)
      have hrg3 := hrg2.kept hg1 (row_ne_low hrow2 hbl) (row_ne_iter hrow2 hrg2)
      go_roundw
      case rel =>
        refine ⟨_, cnt2, ss ++ [x], hrg3, by simp; omega, ?_, HCo.out.step hlk hat, ?_⟩
        · rw [List.length_append, List.map_append]
          exact hown1
        · exact (hnx.grown hg2 hnx.size (fun j hj => by cases hj; exact Nat.le_refl _)).grown hg1 hb2 (fun j hj => (hrow2.lt j hj).1)
      case measure => rw [hrg3.left_eq, hrg.left_eq]; exact hlt
end Go.Proofs.YtfdlopimncodcaaGreatDoor
namespace Go.Proofs.YtfdlopimncodcaaGreatDoor
open Go.RowKit Go.Proofs.Aid
open Go.Maps (Keyed string_keyed IsMap isMap_empty atKey_put_same atKey_put_other atKey_del_same atKey_del_other has_put_same has_put_other has_del_same has_del_other has_true_of_atKey)
def RNm (w : World) (mb : Nat) (l : Bxs) : Prop := SortedB l ∧ ∃ D : DataW Unit, w.ownsMap Tryz.prog 9 (plainElem Tryz.prog 3) mb l.length D ∧ MpD l D
theorem rnm_keys {w : World} {mb n : Nat} {l : Bxs} {D : DataW Unit} (hs : SortedB l) (h : w.ownsMap Tryz.prog 9 (plainElem Tryz.prog 3) mb n D) (hD : MpD l D) : (l.map Prod.fst).Perm (strKeys D) := by
  obtain ⟨es, e1, hk⟩ := h.keysOf
  obtain ⟨es', e2, hp, _⟩ := h.entries lawN
  subst e1
  cases e2
  refine perm_strKeys hp (fun p hp' => ?_) (keys_nodup hs) fun x => ?_
  · obtain ⟨v, hv⟩ := hk p hp'
    obtain ⟨x, _, hx, _⟩ := Maps.keyOf_str Tryz.underlying9 hv
    exact ⟨x, hx⟩
  · rw [hD.has x, hasB_true, List.mem_map]
    constructor
    · rintro ⟨⟨m, b⟩, hm, rfl⟩
      exact ⟨b, hm⟩
    · rintro ⟨b, hm⟩
      exact ⟨_, hm, rfl⟩
theorem rnm_size {w : World} {mb n : Nat} {l : Bxs} {D : DataW Unit} (hs : SortedB l) (h : w.ownsMap Tryz.prog 9 (plainElem Tryz.prog 3) mb n D) (hD : MpD l D) : Maps.size D = l.length := by
  have hp := (rnm_keys hs h hD).length_eq
  obtain ⟨es, rfl⟩ := h.isMap
  rw [List.length_map] at hp
  rw [hp]
  show es.length = (es.map fun p => strOf p.1).length
  rw [List.length_map]
theorem rnm_mk {w : World} {mb n : Nat} {l : Bxs} {D : DataW Unit} (hs : SortedB l) (h : w.ownsMap Tryz.prog 9 (plainElem Tryz.prog 3) mb n D) (hD : MpD l D) : RNm w mb l := by
  have hz := rnm_size hs h hD
  refine ⟨hs, D, ?_, hD⟩
  obtain ⟨es, clock, hb, F, hsz, rfl⟩ := h
  refine ⟨es, clock, hb, F, ?_, rfl⟩
  have : es.size = l.length := by simpa [Maps.size, length_sorted] using hz
  omega
theorem rnm_new (w : World) : RNm (w.alloc (.map #[] 0)) w.heap.size [] := ⟨List.Pairwise.nil, .map [], World.ownsMap_made _ _ _ _, fun _ => ⟨fun _ h => absurd h List.not_mem_nil, fun _ => rfl⟩⟩
theorem rnm_make (w : World) : (Instr.makeMap 86 none).run Tryz.prog w = .ok (.map (some w.heap.size)) (w.alloc (.map #[] 0)) := by kernel_rfl
theorem RNm.lt {w : World} {mb : Nat} {l : Bxs} (h : RNm w mb l) : mb < w.heap.size := by
  obtain ⟨_, D, h1, _⟩ := h
  exact h1.lt
theorem RNm.same {w w' : World} {mb : Nat} {l : Bxs} (h : RNm w mb l) (hb : w'.heap[mb]? = w.heap[mb]?) : RNm w' mb l := by
  obtain ⟨hs, D, ⟨es, clock, h1, r⟩, hD⟩ := h
  exact ⟨hs, D, ⟨es, clock, hb.trans h1, r⟩, hD⟩
theorem rzero_int (w : World) : (zeroValue 3).run Tryz.prog w = .ok (.int .i64 0) w := by kernel_rfl
theorem rnm_look {w : World} {mb : Nat} {l : Bxs} (h : RNm w mb l) (s : ByteArray) (hs : s.size ≤ 1000000) {b : Nat} (hb : (s.data.toList, b) ∈ l) :
    (Instr.lookup 86 (.map (some mb)) (.string s) false).run Tryz.prog w = .ok (.int .i64 (b : Int)) w := by
  obtain ⟨_, D, h1, hD⟩ := h
  obtain ⟨c, hr, hat, _⟩ := h1.lookup_int lawN Tryz.underlying86 Tryz.underlying3 (rzero_int w) (keyN hs)
  rw [(hD _).1 b hb] at hat
  cases hat
  exact hr
theorem rnm_none {w : World} {mb : Nat} {l : Bxs} (h : RNm w mb l) (s : ByteArray) (hs : s.size ≤ 1000000) (hn : hasB l s.data.toList = false) :
    (Instr.lookup 86 (.map (some mb)) (.string s) false).run Tryz.prog w = .ok (.int .i64 0) w := by
  obtain ⟨_, D, h1, hD⟩ := h
  obtain ⟨c, hr, hat, _⟩ := h1.lookup_int lawN Tryz.underlying86 Tryz.underlying3 (rzero_int w) (keyN hs)
  rw [Maps.atKey_of_not_has ((hD _).2 hn)] at hat
  cases hat
  exact hr
theorem rnm_put {w : World} {mb : Nat} {l : Bxs} (h : RNm w mb l) (s : ByteArray) (hs : s.size ≤ 1000000) (hl : l.length ≤ 1000000) (b : Nat) (hb : b ≤ 1000000) :
    ∃ w', (Instr.mapUpdate 86 (.map (some mb)) (.string s) (.int .i64 (b : Int))).run Tryz.prog w = .ok () w' ∧ RNm w' mb (putB s.data.toList b l) ∧ w.mapTurned w' mb := by
  obtain ⟨hso, D, h1, hD⟩ := h
  obtain ⟨w', hr, h2, h3⟩ := h1.store lawN Tryz.underlying86 (by unfold maxLen; omega) (keyN hs) (plainElem_int Tryz.underlying3 (a := (b : Int)) (WalkArith.wf_i64 (by omega)))
  refine ⟨w', hr, rnm_mk (sorted_putB hso) h2 (fun t => ⟨fun c hc z => ?_, fun hn => ?_⟩), h3⟩
  · rcases (mem_putB hso).1 hc with ⟨rfl, rfl⟩ | ⟨hne, hm⟩
    · exact atKey_put_same h1.isMap (keyLit _) _ _
    · rw [atKey_put_other (str_ne' hne)]
      exact (hD t).1 c hm z
  · have hne : t ≠ s.data.toList := fun e => (hasB_false.1 hn) b ((mem_putB hso).2 (Or.inl ⟨e, rfl⟩))
    rw [has_put_other (str_ne' hne), hD.has]
    exact hasB_false.2 fun c hc => (hasB_false.1 hn) c ((mem_putB hso).2 (Or.inr ⟨hne, hc⟩))
theorem rnm_del {w : World} {mb : Nat} {l : Bxs} (h : RNm w mb l) (s : ByteArray) (hs : s.size ≤ 1000000) (ty : TypeId) :
    ∃ w', (Builtin.delete_ #[86, 9] ty #[.map (some mb), .string s]).run Tryz.prog w = .ok (.tuple #[]) w' ∧ RNm w' mb (delB l s.data.toList) ∧ w.mapTurned w' mb := by
  obtain ⟨hso, D, h1, hD⟩ := h
  obtain ⟨w', hr, h2, h3⟩ := h1.drop lawN Tryz.underlying86 (keyN hs) ty
  refine ⟨w', hr, rnm_mk (sorted_delB hso _) h2 (fun t => ⟨fun c hc z => ?_, fun hn => ?_⟩), h3⟩
  · obtain ⟨hne, hm⟩ := mem_delB.1 hc
    rw [atKey_del_other (str_ne' hne)]
    exact (hD t).1 c hm z
  · by_cases hne : t = s.data.toList
    · rw [hne]
      exact has_del_same
    · rw [has_del_other (str_ne' hne), hD.has]
      exact hasB_false.2 fun c hc => (hasB_false.1 hn) c (mem_delB.2 ⟨hne, hc⟩)
theorem rnm_len {w : World} {mb : Nat} {l : Bxs} (h : RNm w mb l) (ty : TypeId) : (Builtin.len_ #[86] ty #[.map (some mb)]).run Tryz.prog w = .ok (.int .i64 (l.length : Int)) w := by
  obtain ⟨hso, D, h1, hD⟩ := h
  have := h1.len Tryz.underlying86 ty
  rw [rnm_size hso h1 hD] at this
  exact this
theorem rnm_sorted {w : World} {mb n : Nat} {l : Bxs} {D : DataW Unit} (hs : SortedB l) (h : w.ownsMap Tryz.prog 9 (plainElem Tryz.prog 3) mb n D) (hD : MpD l D) : (strKeys D).mergeSort leB = namesB l := by
  rw [← names_sorted hs]
  exact mergeSort_of_perm (rnm_keys hs h hD).symm
theorem rnm_keysOf (mw : Nat) (l : Bxs) (w : World) (h : RNm w mw l) (hl : l.length ≤ 1000) :
    Calls Tryz.prog 67 #[.map (some mw)] w fun e w' => (∃ v, e = .returned v ∧ NRow w' w.heap.size v (namesB l)) ∧ Below w.heap.size w w' := by
  obtain ⟨hs, D, h1, hD⟩ := h
  have := rkeys_is mw l.length D w h1 hl
  rw [rnm_sorted hs h1 hD] at this
  exact this
end Go.Proofs.YtfdlopimncodcaaGreatDoor
namespace Go.Proofs
theorem Tryz.infoRBx : (Tryz.prog.info? 84).map (fun i => (i.zero, i.size, i.bytes)) = some (some (.agg #[.int .i64 0, .int .i64 0, .slice none 0 0]), 3, 40) := by kernel_rfl
end Go.Proofs
namespace Go.Proofs.YtfdlopimncodcaaGreatDoor
open Go.RowKit Go.Proofs.Aid Go.Proofs.Bx
def RBOwn (w : World) (base : Nat) (v : Value) (L : List Bxd) : Prop := ∃ rows : List (List Value), w.ownsRow base 84 3 v L.length rows.flatten ∧ rows.length = L.length ∧ (∀ (j : Nat) x xs, L[j]? = some x → rows[j]? = some xs → BxRow w x xs) ∧ (∀ xs ∈ rows, xs.length = 3) ∧ ∀ g, v.ownBlock = some g → AllC NoTx w g
theorem RBOwn.nil (w : World) (base : Nat) : RBOwn w base (.slice none 0 0) [] := ⟨[], World.ownsRow_nil _ _ _ _, rfl, fun j x xs h => (by simp at h), fun xs h => (by cases h), fun g h => (by cases h)⟩
theorem RBOwn.keep {w w' : World} {base : Nat} {v : Value} {L : List Bxd} (h : RBOwn w base v L) (hk : ∀ q, v.ownBlock = some q → w'.heap[q]? = w.heap[q]?) (ht : TxKeep w w') : RBOwn w' base v L := by
  obtain ⟨rows, h1, h2, h3, h4, h5⟩ := h
  refine ⟨rows, own_same h1 fun q hq => hk q hq, h2, fun j x xs hj hx => ?_, h4, fun g hg => (h5 g hg).same (hk g hg)⟩
  obtain ⟨lv, e1, e2⟩ := h3 j x xs hj hx
  exact ⟨lv, e1, e2.tx ht⟩
theorem RBOwn.below {w w' : World} {base : Nat} {v : Value} {L : List Bxd} (h : RBOwn w base v L) (hb : Below w.heap.size w w') : RBOwn w' base v L := by
  obtain ⟨rows, h1, _⟩ := id h
  exact h.keep (fun q hq => hb.block q (h1.lt q hq).2) (TxKeep.of hb)
theorem RBOwn.lt {w : World} {base : Nat} {v : Value} {L : List Bxd} (h : RBOwn w base v L) {q : Nat} (hq : v.ownBlock = some q) : base ≤ q ∧ q < w.heap.size := by
  obtain ⟨rows, h1, _⟩ := h
  exact h1.lt q hq
theorem rbxr_of_own {w : World} {base : Nat} {v : Value} {L : List Bxd} (h : RBOwn w base v L) : Bxr w v L := by
  obtain ⟨rows, h1, h2, h3, h4, h5⟩ := h
  rcases h1.2 with ⟨e1, e2⟩ | ⟨g, cap, cur, rfl, hg, hh, _⟩
  · exact ⟨none, 0, by rw [e1, e2], Or.inl (List.eq_nil_of_length_eq_zero e2)⟩
  · refine ⟨_, cap, rfl, Or.inr ⟨g, 0, rfl, fun j x hj => ?_⟩⟩
    have hjl : j < L.length := (List.getElem?_eq_some_iff.1 hj).1
    have hjr : rows[j]? = some (rows[j]'(by omega)) := List.getElem?_eq_getElem (by omega)
    obtain ⟨lv, hx, hs⟩ := h3 j x _ hj hjr
    have hc : ∀ i u, i < 3 → (rows[j]'(by omega))[i]? = some u → w.cell? ⟨g, j * 3 + i, none⟩ = some u := fun i u hi hu => by
      rw [h1.cellAt (j * 3 + i) (by omega), bflat3_get h4 hjr hi]
      exact hu
    rw [Nat.zero_add]
    refine ⟨?_, hc 1 (.int .i64 x.n) (by omega) (by rw [hx]; rfl), lv, hc 2 lv (by omega) (by rw [hx]; rfl), hs⟩
    have := hc 0 (.int .i64 x.v) (by omega) (by rw [hx]; rfl)
    rwa [Nat.add_zero] at this
theorem rbown_push {w : World} {base : Nat} {va : Option Addr} {ca : Nat} {L : List Bxd} (h : RBOwn w base (.slice va L.length ca) L) (hb : base ≤ w.heap.size) (hL : L.length ≤ 1000) (x : Bxd) (lv : Value) (hf : Lts w lv x.ls) :
    ∃ g cap W, (Builtin.append_ #[51, 51] 51 #[.slice va L.length ca, .slice (some ⟨w.heap.size, 0, none⟩) 1 1]).run Tryz.prog (w.alloc (.cells #[.int .i64 x.v, .int .i64 x.n, lv] 84)) = .ok (.slice (some ⟨g, 0, none⟩) (L.length + 1) cap) W ∧
      RBOwn W base (.slice (some ⟨g, 0, none⟩) (L.length + 1) cap) (L ++ [x]) ∧ (W.os = w.os ∧ W.tape = w.tape ∧ W.output = w.output ∧ w.heap.size ≤ W.heap.size ∧ ∀ q, q < w.heap.size → (Value.slice va L.length ca).ownBlock ≠ some q → W.heap[q]? = w.heap[q]?) ∧ TxKeep w W := by
  obtain ⟨rows, h1, h2, h3, h4, h5⟩ := id h
  obtain ⟨j0, hj, hz, hs, hby⟩ := info_parts Tryz.infoRBx
  have b8 : Below w.heap.size w (w.alloc (.cells #[.int .i64 x.v, .int .i64 x.n, lv] 84)) := (Below.refl _ _).alloc (Nat.le_refl _) _
  have hnews := World.news_of_block (heap_alloc_new w (.cells #[.int .i64 x.v, .int .i64 x.n, lv] 84))
  obtain ⟨fa, fc, hfv, _⟩ := id hf
  have hcell : ∀ u ∈ [Value.int .i64 x.v, Value.int .i64 x.n, lv], u.oneCell' = true := by
    rw [hfv]
    simp [Value.oneCell']
  have hnt : ∀ u ∈ [Value.int .i64 x.v, Value.int .i64 x.n, lv], NoTx u := by
    rw [hfv]
    intro u hu s
    rcases List.mem_cons.1 hu with rfl | hu
    · exact fun e => by cases e
    rcases List.mem_cons.1 hu with rfl | hu
    · exact fun e => by cases e
    · rw [List.mem_singleton.1 hu]; exact fun e => by cases e
  obtain ⟨g9, cap9, W9, hrun, hown9, hg9, hor9, hlt9, hnt9⟩ := run_append_clean (P := Tryz.prog) (w.alloc (.cells #[.int .i64 x.v, .int .i64 x.n, lv] 84)) NoTx 51 51 base 84 j0 (.agg #[.int .i64 0, .int .i64 0, .slice none 0 0]) 3 40 Tryz.underlying51 hj hz hs hby rfl (by decide) (.slice va L.length ca) L.length _ (h1.alloc _) (fun g hg => (h5 g hg).same (b8.block g (h1.lt g hg).2)) (fun u hu s => by
    have : u = .int .i64 0 ∨ u = .slice none 0 0 := by simpa [Value.cells] using hu
    rcases this with rfl | rfl <;> (intro e; cases e)) ⟨w.heap.size, 0, none⟩ 1 1 [.int .i64 x.v, .int .i64 x.n, lv] rfl hnews hcell hnt (by decide) (by unfold maxLen; omega) (by omega) (by simp; omega)
  have hz9 : (w.alloc (.cells #[.int .i64 x.v, .int .i64 x.n, lv] 84)).heap.size = w.heap.size + 1 := by simp
  have hkeep : ∀ q, q < w.heap.size → (Value.slice va L.length ca).ownBlock ≠ some q → W9.heap[q]? = w.heap[q]? := fun q hq hne => (hg9.block q (by omega) (fun e => hne e.symm)).trans (b8.block q hq)
  have htx : TxKeep w W9 := fun g i s hc => hkeep g (World.block_lt_of_cell? _ _ hc) fun e => h5 g e i _ hc s rfl
  refine ⟨g9, cap9, W9, hrun, ⟨rows ++ [[.int .i64 x.v, .int .i64 x.n, lv]], ?_, by simp [h2], fun j y ys hj hy => ?_, fun ys hy => ?_, fun g hg => ?_⟩, ⟨hg9.os.trans b8.os, hg9.tape.trans b8.tape, hg9.output.trans b8.output, Nat.le_trans b8.size hg9.size, hkeep⟩, htx⟩
  · rw [List.length_append, List.flatten_append, List.flatten_cons, List.flatten_nil, List.append_nil]
    exact hown9
  · by_cases hjl : j < L.length
    · rw [List.getElem?_append_left hjl] at hj
      rw [List.getElem?_append_left (by omega)] at hy
      obtain ⟨fu, e1, e2⟩ := h3 j y ys hj hy
      exact ⟨fu, e1, e2.tx htx⟩
    · have : j < (L ++ [x]).length := (List.getElem?_eq_some_iff.1 hj).1
      obtain rfl : j = L.length := by simp at this; omega
      rw [List.getElem?_append_right (Nat.le_refl _), Nat.sub_self] at hj
      rw [List.getElem?_append_right (by omega), h2, Nat.sub_self] at hy
      obtain rfl : x = y := by simpa using hj
      obtain rfl := Option.some.inj hy
      exact ⟨lv, rfl, hf.tx htx⟩
  · rcases List.mem_append.1 hy with h | h
    · exact h4 ys h
    · rw [List.mem_singleton.1 h]; rfl
  · obtain rfl : g9 = g := by simpa [Value.ownBlock] using hg
    exact hnt9
structure RSt (w : World) (hb mb wb : Nat) (l Wl : Bxs) (nx : Int) (C : Nat → Bxd) : Prop where
  rhs : RHs w hb mb wb l nx
  wm : RNm w wb Wl
  one : ∀ p ∈ Wl, p.2 = 1
  bx : ∀ p ∈ l, ∃ lv, RBox w p.2 (C p.2).v (C p.2).n lv (C p.2).ls
  ne : mb ≠ wb
theorem RSt.below {w w' : World} {hb mb wb : Nat} {l Wl : Bxs} {nx : Int} {C : Nat → Bxd} (h : RSt w hb mb wb l Wl nx C) (hb' : Below w.heap.size w w') : RSt w' hb mb wb l Wl nx C :=
  ⟨h.rhs.below hb' (Nat.le_refl _), h.wm.same (hb'.block wb h.wm.lt), h.one, fun p hp => by obtain ⟨lv, h1⟩ := h.bx p hp; exact ⟨lv, h1.below hb' (Nat.le_refl _)⟩, h.ne⟩
end Go.Proofs.YtfdlopimncodcaaGreatDoor
namespace Go.Proofs.YtfdlopimncodcaaGreatDoor
open Go.RowKit Go.Proofs.Aid Go.Proofs.Sq Go.Proofs.Hd
theorem dec_slash (A B : List UInt8) (h : A ≠ []) : Lib.decodeL (A ++ 47 :: B) = Lib.decodeL A := by
  rw [Lib.decodeL_N, Lib.decodeL_N]
  match A, h with
  | [a], _ => simp [Lib.decodeN]
  | [a, b], _ => simp [Lib.decodeN]
  | [a, b, c], _ => simp [Lib.decodeN]
  | a :: b :: c :: d :: t, _ => simp [Lib.decodeN]
theorem drop_slash (A B : List UInt8) {k : Nat} (h : k ≤ A.length) : (A ++ 47 :: B).drop k = A.drop k ++ 47 :: B := List.drop_append_of_le_length h
theorem valid_slash (B : List UInt8) : ∀ (n : Nat) (A : List UInt8), A.length ≤ n → Lib.validD (A ++ 47 :: B) = (Lib.validD A && Lib.validD B)
  | _, [], _ => by
    rw [List.nil_append, Lib.validD_cons 47 B (by decide), Lib.validD_nil, Bool.true_and]
  | 0, _ :: _, h => by simp at h
  | n + 1, a :: A, h => by
    have hw := Lib.decodeL_width (a :: A)
    have hle := Lib.decodeL_le (a :: A) (by simp)
    have hd := dec_slash (a :: A) B (by simp)
    rw [Lib.validD_step _ (by simp), Lib.validD_step (a :: A) (by simp), hd, drop_slash _ _ hle]
    split
    · rfl
    · exact valid_slash B n _ (by rw [List.length_drop]; simp at h ⊢; omega)
theorem runes_slash (B : List UInt8) : ∀ (n : Nat) (A : List UInt8), A.length ≤ n → Ut.runes (A ++ 47 :: B) = Ut.runes A ++ 47 :: Ut.runes B
  | _, [], _ => runes_cons 47 B (by decide)
  | 0, _ :: _, h => by simp at h
  | n + 1, a :: A, h => by
    have hw := Lib.decodeL_width (a :: A)
    have hle := Lib.decodeL_le (a :: A) (by simp)
    have hd := dec_slash (a :: A) B (by simp)
    rw [Ut.runes_step _ (by simp), Ut.runes_step (a :: A) (by simp), hd, drop_slash _ _ hle, runes_slash B n _ (by rw [List.length_drop]; simp at h ⊢; omega)]
    rfl
theorem between_slash (B : List UInt8) : ∀ A : List UInt8, between 47 (A ++ 47 :: B) = between 47 A ++ between 47 B
  | [] => by
    simp [between]
  | a :: A => by
    have ih := between_slash B A
    obtain ⟨x, xs, hx⟩ := List.exists_cons_of_ne_nil (between_ne 47 A)
    rw [List.cons_append, between, between, ih, hx]
    split
    · rfl
    · rfl
structure NmOk (s : Nm) : Prop where
  len : 1 ≤ s.length ∧ s.length ≤ 60
  valid : Lib.validD s = true
  runes : (Ut.runes s).all Ut.okRune = true
  wild : (s.any fun c => ([37, 42] : List UInt8).contains c) = false
  parts : [] ∉ between 47 s
  head : nmHead ((between 47 s).headD []) = (between 47 s).headD []
theorem nmOk_of {s : Nm} (h : nameB s = some s) : NmOk s := by
  unfold nameB at h
  split at h
  · rename_i hc
    obtain ⟨c1, c2, c3⟩ := hc
    unfold Ut.rightB at c1
    simp only [Bool.and_eq_true, decide_eq_true_eq] at c1
    refine ⟨⟨c1.1.1.1, c1.1.1.2⟩, c1.1.2, c1.2, c2, c3, ?_⟩
    have h1 := Option.some.inj h
    have h2 := join_between 47 s
    obtain ⟨x, xs, hx⟩ := List.exists_cons_of_ne_nil (between_ne 47 s)
    rw [hx] at h1 h2 ⊢
    rw [List.headD_cons, List.tail_cons, Lib.join_cons] at h1
    rw [Lib.join_cons] at h2
    rw [List.headD_cons]
    exact (List.append_inj (h1.trans h2.symm) (nmHead_len x)).1
  · cases h
theorem NmOk.name {s : Nm} (h : NmOk s) : nameB s = some s := by
  unfold nameB
  have c1 : Ut.rightB s = true := by
    unfold Ut.rightB
    simp only [Bool.and_eq_true, decide_eq_true_eq]
    exact ⟨⟨h.len, h.valid⟩, h.runes⟩
  rw [if_pos ⟨c1, h.wild, h.parts⟩, h.head]
  have h2 := join_between 47 s
  obtain ⟨x, xs, hx⟩ := List.exists_cons_of_ne_nil (between_ne 47 s)
  rw [hx] at h2 ⊢
  rw [List.headD_cons, List.tail_cons, h2]
theorem headD_app {a b : List Nm} (h : a ≠ []) : (a ++ b).headD [] = a.headD [] := by
  obtain ⟨x, xs, rfl⟩ := List.exists_cons_of_ne_nil h
  rfl
theorem name_ahead {A B : Nm} (h : nameB (A ++ 47 :: B) = some (A ++ 47 :: B)) : nameB A = some A := by
  obtain ⟨h1, h2, h3, h4, h5, h6⟩ := nmOk_of h
  rw [valid_slash B _ A (Nat.le_refl _), Bool.and_eq_true] at h2
  rw [runes_slash B _ A (Nat.le_refl _), List.all_append, Bool.and_eq_true] at h3
  rw [List.any_append] at h4
  rw [between_slash] at h5 h6
  rw [headD_app (between_ne 47 A)] at h6
  have h7 : [] ∉ between 47 A := fun hm => h5 (List.mem_append.2 (Or.inl hm))
  refine NmOk.name ⟨⟨?_, ?_⟩, h2.1, h3.1, (Bool.or_eq_false_iff.1 h4).1, h7, h6⟩
  · cases A with
    | nil => exact absurd (by rw [between]; exact List.mem_singleton.2 rfl) h7
    | cons => simp
  · have := h1.2
    rw [List.length_append] at this
    omega
theorem name_behind {T N B : Nm} (hT : nameB T = some T) (hN : nameB (N ++ 47 :: B) = some (N ++ 47 :: B)) (hl : (T ++ 47 :: B).length ≤ 60) : nameB (T ++ 47 :: B) = some (T ++ 47 :: B) := by
  obtain ⟨t1, t2, t3, t4, t5, t6⟩ := nmOk_of hT
  obtain ⟨h1, h2, h3, h4, h5, h6⟩ := nmOk_of hN
  rw [valid_slash B _ N (Nat.le_refl _), Bool.and_eq_true] at h2
  rw [runes_slash B _ N (Nat.le_refl _), List.all_append, Bool.and_eq_true] at h3
  rw [List.any_append] at h4
  rw [between_slash] at h5
  refine NmOk.name ⟨⟨?_, hl⟩, ?_, ?_, ?_, ?_, ?_⟩
  · rw [List.length_append]
    omega
  · rw [valid_slash B _ T (Nat.le_refl _), t2, h2.2]
    rfl
  · rw [runes_slash B _ T (Nat.le_refl _), List.all_append, t3, h3.2]
    rfl
  · rw [List.any_append, t4, (Bool.or_eq_false_iff.1 h4).2]
    rfl
  · rw [between_slash]
    intro hm
    rcases List.mem_append.1 hm with hm | hm
    · exact t5 hm
    · exact h5 (List.mem_append.2 (Or.inr hm))
  · rw [between_slash, headD_app (between_ne 47 T)]
    exact t6
theorem cut_at {n : Nm} {i : Nat} (h : n[i]? = some 47) : n = n.take i ++ 47 :: n.drop (i + 1) := by
  obtain ⟨hi, he⟩ := List.getElem?_eq_some_iff.1 h
  rw [← he, ← List.drop_eq_getElem_cons hi, List.take_append_drop]
theorem name_take {n : Nm} {i : Nat} (h : nameB n = some n) (hi : n[i]? = some 47) : nameB (n.take i) = some (n.take i) := by
  refine name_ahead (B := n.drop (i + 1)) ?_
  rw [← cut_at hi]
  exact h
end Go.Proofs.YtfdlopimncodcaaGreatDoor
