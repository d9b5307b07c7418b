/-
  A part in memory whose parts are still being read: one more.
  What strings.Split and strings.SplitN make of a text, as the program cuts it. Of no program.
  What letterboxref.Param does: the same as head.Param.
  What letterboxref.Get does: the same as head.Get.
  What letterboxref.kind does.
  What the method part of letterboxref.parts does.
-/
import Derived.Test.YtgbbkdflnlagaaaGreatDoorMimeAid
import Derived.Test.YtgbbkdflnlagaaaGreatDoorSeqSpec
import Derived.Lib.SplitLaws
import Derived.Test.YtgbbkdflnlagaaaGreatDoorHeadUnq
import Derived.Test.YtgbbkdflnlagaaaGreatDoorRefBare
import Derived.Test.YtgbbkdflnlagaaaGreatDoorRefSplit
import Derived.Test.YtgbbkdflnlagaaaGreatDoorHeadGet
import Derived.Test.YtgbbkdflnlagaaaGreatDoorMimeKind
import Derived.Test.YtgbbkdflnlagaaaGreatDoorRefFields
import Derived.Test.YtgbbkdflnlagaaaGreatDoorMimePut
import Derived.Test.YtgbbkdflnlagaaaGreatDoorMimeFresh
import Derived.Deep.DeepCutAuto
import Derived.Deep.CutBlock
namespace Go.Proofs.YtgbbkdflnlagaaaGreatDoor
open Go.RowKit Go.Proofs.Aid Go.Proofs.Sq Go.Proofs.Hd Go.Proofs.Mm

theorem six_facts {W : World} {R : Nat} {a0 a1 a2 a3 a4 a5 : Value} {t : TypeId} (hh : W.heap[R]? = some (.cells #[a0, a1, a2, a3, a4, a5] t (0, 0))) (x0 x1 x2 x3 x4 x5 : Value) :
    (W.cell? ⟨R, 0, none⟩ = some a0 ∧ W.cell? ⟨R, 1, none⟩ = some a1 ∧ W.cell? ⟨R, 2, none⟩ = some a2 ∧ W.cell? ⟨R, 3, none⟩ = some a3 ∧ W.cell? ⟨R, 4, none⟩ = some a4 ∧ W.cell? ⟨R, 5, none⟩ = some a5) ∧
    (W.frozen? ⟨R, 0, none⟩ = false ∧ W.frozen? ⟨R, 1, none⟩ = false ∧ W.frozen? ⟨R, 2, none⟩ = false ∧ W.frozen? ⟨R, 3, none⟩ = false ∧ W.frozen? ⟨R, 4, none⟩ = false ∧ W.frozen? ⟨R, 5, none⟩ = false) ∧
    ((W.setCell ⟨R, 0, none⟩ x0).cell? ⟨R, 0, none⟩ = some x0 ∧ ((W.setCell ⟨R, 0, none⟩ x0).setCell ⟨R, 1, none⟩ x1).cell? ⟨R, 1, none⟩ = some x1 ∧ (((W.setCell ⟨R, 0, none⟩ x0).setCell ⟨R, 1, none⟩ x1).setCell ⟨R, 2, none⟩ x2).cell? ⟨R, 2, none⟩ = some x2 ∧
      ((((W.setCell ⟨R, 0, none⟩ x0).setCell ⟨R, 1, none⟩ x1).setCell ⟨R, 2, none⟩ x2).setCell ⟨R, 3, none⟩ x3).cell? ⟨R, 3, none⟩ = some x3 ∧ (((((W.setCell ⟨R, 0, none⟩ x0).setCell ⟨R, 1, none⟩ x1).setCell ⟨R, 2, none⟩ x2).setCell ⟨R, 3, none⟩ x3).setCell ⟨R, 4, none⟩ x4).cell? ⟨R, 4, none⟩ = some x4 ∧
      ((((((W.setCell ⟨R, 0, none⟩ x0).setCell ⟨R, 1, none⟩ x1).setCell ⟨R, 2, none⟩ x2).setCell ⟨R, 3, none⟩ x3).setCell ⟨R, 4, none⟩ x4).setCell ⟨R, 5, none⟩ x5).cell? ⟨R, 5, none⟩ = some x5) := by
  have h0 := rd_set (i := 0) x0 hh
  have h1 := rd_set (i := 1) x1 h0
  have h2 := rd_set (i := 2) x2 h1
  have h3 := rd_set (i := 3) x3 h2
  have h4 := rd_set (i := 4) x4 h3
  exact ⟨⟨rd_cell hh rfl, rd_cell hh rfl, rd_cell hh rfl, rd_cell hh rfl, rd_cell hh rfl, rd_cell hh rfl⟩, ⟨rd_free hh 0, rd_free hh 1, rd_free hh 2, rd_free hh 3, rd_free hh 4, rd_free hh 5⟩,
    setm_read hh (by simp) x0, setm_read h0 (by simp) x1, setm_read h1 (by simp) x2, setm_read h2 (by simp) x3, setm_read h3 (by simp) x4, setm_read h4 (by simp) x5⟩
/-- A part of which some parts are there, in a row of its own. -/
def Grow (base pb : Nat) (ty bn : ByteArray) (fr hi cn : Nat) (ps : List Mm.Pt) (va : Option Addr) (vc : Nat) (w : World) : Prop :=
  w.heap[pb]? = some (.cells #[.string ty, .string bn, .int .i64 (fr : Int), .int .i64 (hi : Int), .int .i64 (cn : Int), .slice va ps.length vc] 25 (0, 0)) ∧
  ∃ rows : List (List Value), rows.length = ps.length ∧ w.ownsRow base 25 6 (.slice va ps.length vc) ps.length rows.flatten ∧
    (∀ (j : Nat) p xs, ps[j]? = some p → rows[j]? = some xs → Six w (fun q => base ≤ q ∧ (Value.slice va ps.length vc).ownBlock ≠ some q) p xs) ∧ (∀ xs ∈ rows, xs.length = 6)
theorem Grow.none {base pb : Nat} {ty bn : ByteArray} {fr hi cn : Nat} {w : World} (h : w.heap[pb]? = some (.cells #[.string ty, .string bn, .int .i64 (fr : Int), .int .i64 (hi : Int), .int .i64 (cn : Int), .slice none 0 0] 25 (0, 0))) : Grow base pb ty bn fr hi cn [] none 0 w :=
  ⟨h, [], rfl, World.ownsRow_nil _ _ _ _, by intro j p xs h; simp at h, by intro xs h; simp at h⟩
theorem Grow.kept {base pb : Nat} {ty bn : ByteArray} {fr hi cn : Nat} {ps : List Mm.Pt} {va : Option Addr} {vc : Nat} {w w' : World} (h : Grow base pb ty bn fr hi cn ps va vc w) (hp : w'.heap[pb]? = w.heap[pb]?) (hk : ∀ q, base ≤ q → q < w.heap.size → w'.heap[q]? = w.heap[q]?) : Grow base pb ty bn fr hi cn ps va vc w' := by
  obtain ⟨h1, rows, h2, h3, h4, h5⟩ := h
  refine ⟨hp.trans h1, rows, h2, own_same h3 fun g hg => hk g (h3.lt g hg).1 (h3.lt g hg).2, fun j p xs hj hx => (h4 j p xs hj hx).kept fun q hq hlt => ⟨hq, hk q hq.1 hlt⟩, h5⟩
theorem Grow.six {base pb : Nat} {ty bn : ByteArray} {fr hi cn : Nat} {ps : List Mm.Pt} {va : Option Addr} {vc : Nat} {w : World} (h : Grow base pb ty bn fr hi cn ps va vc w) :
    Six w (fun q => base ≤ q) (.mk ty.data.toList bn.data.toList fr hi cn ps) [.string ty, .string bn, .int .i64 (fr : Int), .int .i64 (hi : Int), .int .i64 (cn : Int), .slice va ps.length vc] := by
  obtain ⟨_, rows, hl, hrow, hsx, h6⟩ := h
  have hjr : ∀ j : Nat, j < ps.length → rows[j]? = some (rows.getD j []) := fun j hj => by
    rw [List.getD_eq_getElem?_getD, List.getElem?_eq_getElem (by rw [hl]; exact hj)]; rfl
  refine Six.mk (w := w) (Ok := fun q => base ≤ q) ty bn fr hi cn ps va vc (fun j => rows.getD j []) (fun j p hjp => ?_) ?_
  · exact (hsx j p _ hjp (hjr j (List.getElem?_eq_some_iff.1 hjp).1)).kept fun q hq _ => ⟨hq.1, rfl⟩
  · by_cases hps : ps = []
    · exact Or.inl hps
    · right
      have hk0 : ps.length ≠ 0 := fun e => hps (List.eq_nil_of_length_eq_zero e)
      obtain ⟨g2, cap2, hv2⟩ := row_some hrow hk0
      injection hv2 with hva _ _
      subst hva
      refine ⟨g2, 0, rfl, (hrow.lt g2 rfl).1, fun j p hjp i x hx => ?_⟩
      have hjk := (List.getElem?_eq_some_iff.1 hjp).1
      have hx6 : i < 6 := by
        have h7 := h6 _ (List.mem_of_getElem? (hjr j hjk))
        have := (List.getElem?_eq_some_iff.1 hx).1
        omega
      rw [Nat.zero_add, hrow.cellAt (j * 6 + i) (by omega), flat_get h6 (hjr j hjk) hx6]
      exact hx
/-- One part more, behind an append and the store of what it gives. -/
theorem grow_push {base pb : Nat} {ty bn : ByteArray} {fr hi cn : Nat} {ps : List Mm.Pt} {va : Option Addr} {vc : Nat} {w10 W12 w13 : World} {g cap z9 : Nat} {p : Mm.Pt} {xs : List Value} {rows : List (List Value)}
    (hl : rows.length = ps.length)
    (HSX : ∀ (j : Nat) p xs, ps[j]? = some p → rows[j]? = some xs → Six w10 (fun q => base ≤ q ∧ (Value.slice va ps.length vc).ownBlock ≠ some q) p xs) (h6 : ∀ xs ∈ rows, xs.length = 6)
    (hpb : pb < base) (hz9 : base ≤ z9) (ho9 : ∀ q, (Value.slice va ps.length vc).ownBlock = some q → q < z9) (hsix : Six w10 (fun q => z9 ≤ q) p xs) (h12 : Below w10.heap.size w10 W12)
    (hown : w13.ownsRow base 25 6 (.slice (some ⟨g, 0, none⟩) (ps.length + 1) cap) (ps.length + 1) (rows.flatten ++ xs)) (hg : W12.grownBy w13 (Value.slice va ps.length vc).ownBlock) (hor : (Value.slice va ps.length vc).ownBlock = some g ∨ g = W12.heap.size)
    (ePB : w13.heap[pb]? = some (.cells #[.string ty, .string bn, .int .i64 (fr : Int), .int .i64 (hi : Int), .int .i64 (cn : Int), .slice va ps.length vc] 25 (0, 0))) :
    Grow base pb ty bn fr hi cn (ps ++ [p]) (some ⟨g, 0, none⟩) cap (w13.setCell ⟨pb, 5, none⟩ (.slice (some ⟨g, 0, none⟩) (ps.length + 1) cap)) ∧
      ∀ q, q < w10.heap.size → some q ≠ (Value.slice va ps.length vc).ownBlock → q ≠ pb → (w13.setCell ⟨pb, 5, none⟩ (.slice (some ⟨g, 0, none⟩) (ps.length + 1) cap)).heap[q]? = w10.heap[q]? := by
  have far : ∀ q, q < w10.heap.size → some q ≠ (Value.slice va ps.length vc).ownBlock → q ≠ pb → (w13.setCell ⟨pb, 5, none⟩ (.slice (some ⟨g, 0, none⟩) (ps.length + 1) cap)).heap[q]? = w10.heap[q]? := fun q hq h1 h2 =>
    (Below.heap_setCell _ _ _ _ h2).trans ((hg.block q (Nat.lt_of_lt_of_le hq h12.size) h1).trans (h12.block q hq))
  have hog : ∀ q, q < w10.heap.size → some q ≠ (Value.slice va ps.length vc).ownBlock → q ≠ g := fun q hq h1 e => by
    subst e
    rcases hor with h | h
    · exact h1 h.symm
    · have := h12.size; omega
  have hlen : (ps ++ [p]).length = ps.length + 1 := by simp
  refine ⟨⟨?_, rows ++ [xs], by simp [hl], ?_, ?_, ?_⟩, far⟩
  · rw [hlen]; exact rd_set (i := 5) (.slice (some ⟨g, 0, none⟩) (ps.length + 1) cap) ePB
  · rw [hlen, List.flatten_append, List.flatten_cons, List.flatten_nil, List.append_nil]
    exact own_same hown (fun q hq => Below.heap_setCell _ _ _ _ (fun e => by have e' : q = pb := e; have := (hown.lt q hq).1; omega))
  · intro j p' xs' hjp hjx
    rw [hlen]
    by_cases hjk : j < ps.length
    · rw [List.getElem?_append_left hjk] at hjp
      rw [List.getElem?_append_left (by rw [hl]; exact hjk)] at hjx
      refine (HSX j p' xs' hjp hjx).kept fun q hq hlt => ⟨⟨hq.1, fun e => ?_⟩, ?_⟩
      · injection e with e
        exact hog q hlt (Ne.symm hq.2) e.symm
      · exact far q hlt (Ne.symm hq.2) (by have := hq.1; omega)
    · have hjl : j < (ps ++ [p]).length := (List.getElem?_eq_some_iff.1 hjp).1
      obtain rfl : j = ps.length := by rw [hlen] at hjl; omega
      rw [List.getElem?_append_right (Nat.le_refl _), Nat.sub_self] at hjp
      rw [List.getElem?_append_right (by rw [hl]; exact Nat.le_refl _), hl, Nat.sub_self] at hjx
      obtain rfl : p = p' := by simpa using hjp
      obtain rfl := Option.some.inj hjx
      have hown9 : ∀ q, z9 ≤ q → some q ≠ (Value.slice va ps.length vc).ownBlock := fun q hq e => by have := ho9 q e.symm; omega
      refine hsix.kept fun q hq hlt => ⟨⟨by omega, fun e => ?_⟩, far q hlt (hown9 q hq) (by omega)⟩
      injection e with e
      exact hog q hlt (hown9 q hq) e.symm
  · intro xs' hxs
    rcases List.mem_append.1 hxs with h | h
    · exact h6 xs' h
    · rw [List.mem_singleton.1 h]; exact hsix.length
end Go.Proofs.YtgbbkdflnlagaaaGreatDoor
namespace Go.Proofs.Sq

theorem splitK_cut (c : UInt8) (k : Nat) (s : List UInt8) : Lib.splitK [c] 0 (k + 1) s = if (cutAt c s).2.2 = false then [s] else (cutAt c s).1 :: Lib.splitK [c] 0 k (cutAt c s).2.1 := by
  rw [← cut_eq, Lib.splitK]
  by_cases h : Lib.index s [c] = -1
  · have e : Lib.cut s [c] = (s, [], false) := by rw [Lib.cut, if_neg (by omega)]
    rw [if_pos (beq_iff_eq.2 h), e, if_pos rfl]
  · have hge := Lib.index_ge s [c]
    have e : Lib.cut s [c] = (s.take (Lib.index s [c]).toNat, s.drop ((Lib.index s [c]).toNat + [c].length), true) := by rw [Lib.cut, if_pos (by omega)]
    rw [if_neg (fun e => h (beq_iff_eq.1 e)), e, if_neg (by simp)]
    rfl
theorem splitK_all (c : UInt8) : ∀ (k : Nat) (s : List UInt8), s.count c ≤ k → Lib.splitK [c] 0 k s = between c s
  | 0, s, h => by
    have : c ∉ s := fun hm => by have := List.count_pos_iff.2 hm; omega
    rw [between_none this]; rfl
  | k + 1, s, h => by
    rw [splitK_cut]
    cases hc : (cutAt c s).2.2 with
    | false => rw [if_pos rfl, (cutAt_miss hc).2.2]
    | true =>
      obtain ⟨h1, h2⟩ := cutAt_hit hc
      have h3 : (cutAt c s).2.1.count c ≤ k := by
        have := congrArg (List.count c) h1
        rw [List.count_append, List.count_cons_self] at this
        omega
      rw [if_neg (by simp), splitK_all c k _ h3, h2]
theorem split_between (c : UInt8) (s : ByteArray) : (Lib.splitB ⟨#[c]⟩ 0 (Lib.countB s ⟨#[c]⟩) s).map (·.data.toList) = between c s.data.toList := by
  rw [Lib.splitB_data]
  refine splitK_all c _ _ ?_
  have : Lib.countB s ⟨#[c]⟩ = Lib.count s.data.toList [c] := rfl
  rw [this, Lib.count_one]
  exact Nat.le_refl _
theorem split_two (c : UInt8) (s : ByteArray) : (Lib.splitB ⟨#[c]⟩ 0 (min 2 (s.size + 1) - 1) s).map (·.data.toList) = if (cutAt c s.data.toList).2.2 = false then [s.data.toList] else [(cutAt c s.data.toList).1, (cutAt c s.data.toList).2.1] := by
  rw [Lib.splitB_data]
  by_cases h : s.size = 0
  · have hd : s.data.toList = [] := by
      have : s.data.size = 0 := h
      rw [Array.size_eq_length_toList] at this
      exact List.eq_nil_of_length_eq_zero this
    rw [h, hd]
    rfl
  · rw [show min 2 (s.size + 1) - 1 = 0 + 1 by omega]
    show Lib.splitK [c] 0 (0 + 1) _ = _
    rw [splitK_cut]
    rfl
end Go.Proofs.Sq
namespace Go.Proofs.YtgbbkdflnlagaaaGreatDoor
open Go.RowKit Go.Proofs.Aid Go.Proofs.Hd Go.Proofs.Sq

theorem between_short (c : UInt8) : ∀ (l p : Tx), p ∈ between c l → p.length ≤ l.length
  | [], p, h => by simp [between] at h; simp [h]
  | b :: r, p, h => by
    rw [between] at h
    split at h
    · rcases List.mem_cons.1 h with rfl | h
      · simp
      · have := between_short c r p h
        simp; omega
    · rcases List.mem_cons.1 h with rfl | h
      · cases hb : between c r with
        | nil => simp
        | cons x xs =>
          have := between_short c r x (by rw [hb]; simp)
          simp; omega
      · have := between_short c r p (List.mem_of_mem_tail h)
        simp; omega
theorem cut_index (c : UInt8) (l : Tx) : cutAt c l = if 0 ≤ Lib.indexByte l c then (l.take (Lib.indexByte l c).toNat, l.drop ((Lib.indexByte l c).toNat + 1), true) else (l, [], false) := by
  rw [← cut_eq, Lib.cut, Lib.index_one]
  rfl
set_option maxHeartbeats 2000000 in
set_option maxRecDepth 100000 in
theorem rparam_is (s nm : ByteArray) (m : Int) (w : World) (hs : s.size ≤ 1000000) (hnm : nm.size ≤ 1000000) (hm : w.cell? ⟨1, 0, none⟩ = some (.int .i64 m)) :
    Calls Tryz.prog 92 #[.string s, .string nm] w fun e w' => Below w.heap.size w w' ∧
      ((paramOf s.data.toList nm.data.toList = none ∧ e = .returned (.tuple #[.string ⟨#[]⟩, .bool false])) ∨
       ∃ r : ByteArray, paramOf s.data.toList nm.data.toList = some r.data.toList ∧ e = .returned (.tuple #[.string r, .bool true])) := by
  have hsp := split_between 59 s
  have cP := Tryz.strings_Split s ⟨#[59]⟩ m w (by omega) hm (by decide)
  have hpl := Lib.splitB_all ⟨#[59]⟩ (by decide) 0 _ s rfl
  have hcl := Lib.countB_le ⟨#[59]⟩ (by decide) _ s (Nat.le_refl _)
  obtain ⟨P, hP⟩ : ∃ P, Lib.splitB ⟨#[59]⟩ 0 (Lib.countB s ⟨#[59]⟩) s = P := ⟨_, rfl⟩
  obtain ⟨N, hN⟩ : ∃ N, Lib.countB s ⟨#[59]⟩ + 1 = N := ⟨_, rfl⟩
  rw [hP] at hsp hpl cP
  rw [hN] at hpl cP
  have hNs : N ≤ 1000001 := by omega
  obtain ⟨G, hG⟩ : ∃ G, paramOf s.data.toList nm.data.toList = G := ⟨_, rfl⟩
  have HG : Hid ((((P.map (·.data.toList)).drop 1).find? (isParam nm.data.toList)).map (fun p => unq (Hd.bare (cutAt 61 p).2.1)) = G) := by
    show _ = _
    rw [hsp, ← hG, List.drop_one]
    rfl
  rw [hG]
  have HP : Hid (P.length = N ∧ ∀ x ∈ P, x.size ≤ 1000000) := ⟨hpl, fun x hx => by
    have h1 : x.data.toList ∈ between 59 s.data.toList := by rw [← hsp]; exact List.mem_map_of_mem hx
    have := between_short _ _ _ h1
    rw [list_size, list_size] at this
    omega⟩
  have HC : Hid (∀ W, Below (w.heap.size + 1) (w.alloc (.cells (P.map Value.string).toArray 9)) W → ∀ (j : Nat) x, P[j]? = some x → W.cell? ⟨w.heap.size, j, none⟩ = some (.string x)) := fun W hW j x hj => by
    rw [hW.cell (p := ⟨w.heap.size, j, none⟩) (Nat.lt_succ_self _)]
    unfold World.cell?
    simp only [heap_alloc_new]
    simp [hj]
  have hb0 : Below w.heap.size w (w.alloc (.cells (P.map Value.string).toArray 9)) := (Below.refl _ w).alloc (Nat.le_refl _) _
  obtain ⟨sn, hsn⟩ : ∃ t : ByteArray, ⟨(small nm.data.toList).toArray⟩ = t := ⟨_, rfl⟩
  have HSN : Hid (sn.data.toList = small nm.data.toList) := by show _ = _; rw [← hsn]
  have cN := fun W => rsmall_is nm W hnm
  rw [hsn] at cN
  clear hsp hpl hcl hP hN hG hm hsn
  go_enter Tryz.func92, Tryz.ntmps92
  go_wp2_with fail
  refine cP.mono ?_
  clear cP
  rintro e w1 ⟨rfl, rfl⟩
  obtain ⟨W1, hW1⟩ : ∃ W1, w.alloc (.cells (P.map Value.string).toArray 9) = W1 := ⟨_, rfl⟩
  have hz1 : W1.heap.size = w.heap.size + 1 := by rw [← hW1]; simp
  rw [hW1] at HC hb0 ⊢
  clear hW1
  go_wp2_with fail
  go_loopw [13] (fun i wr => ∃ k : Nat, i = .int .i64 (k : Int) ∧ k ≤ N ∧ Hid ((((P.map (·.data.toList)).drop (max k 1)).find? (isParam nm.data.toList)).map (fun p => unq (Hd.bare (cutAt 61 p).2.1)) = G) ∧ Below (w.heap.size + 1) W1 wr) (fun i _ => N - (intOf i).toNat)
  case atStart => exact ⟨0, rfl, by omega, HG.out, Below.refl _ _⟩
  case round =>
    obtain ⟨k, rfl, hk, HR, hbW⟩ := hrel
    have hbw : Below w.heap.size w wr := hb0.trans (hbW.mono (Nat.le_succ _))
    by_cases hlt : k < N
    · have hkP : k < P.length := by rw [HP.out.1]; exact hlt
      obtain ⟨p, hp⟩ : ∃ p, P[k] = p := ⟨_, rfl⟩
      have hpk : P[k]? = some p := by rw [List.getElem?_eq_getElem hkP, hp]
      have c1 := HC.out wr hbW k p hpk
      have hpz : p.size ≤ 1000000 := HP.out.2 p (List.mem_of_getElem? hpk)
      have hci := cut_index 61 p.data.toList
      have cI := Tryz.strings_IndexByte p 61 wr
      rw [show ((61 : Int).toNat.toUInt8) = 61 from rfl] at cI
      obtain ⟨z, hz⟩ : ∃ z, Lib.indexByte p.data.toList 61 = z := ⟨_, rfl⟩
      rw [hz] at hci cI
      have HCI : Hid (cutAt 61 p.data.toList = if 0 ≤ z then (p.data.toList.take z.toNat, p.data.toList.drop (z.toNat + 1), true) else (p.data.toList, [], false)) := hci
      have hzl : 0 ≤ z → z + 1 ≤ p.size := fun h0 => by
        have := Lib.index_room p.data.toList [61]
        rw [Lib.index_one, hz, list_size, show ([61] : Tx).length = 1 from rfl] at this
        exact this h0
      have HRR : Hid (1 ≤ k → ((p.data.toList :: (P.map (·.data.toList)).drop (k + 1)).find? (isParam nm.data.toList)).map (fun p => unq (Hd.bare (cutAt 61 p).2.1)) = G) := by
        intro h1
        have := HR.out
        rw [Nat.max_eq_left h1, List.drop_eq_getElem_cons (by rw [List.length_map]; exact hkP), List.getElem_map, hp] at this
        exact this
      clear hci hz hp hpk
      go_wp2_with fail
      refine cI.mono ?_
      clear cI
      rintro e w2 ⟨rfl, hw⟩
      obtain rfl : wr = w2 := hw.symm
      by_cases hk0 : k = 0
      · subst hk0
        go_wp2_with fail
        go_roundw
        case rel => exact ⟨1, by go_num, by omega, HR.out, hbW⟩
        case measure => simp [intOf]; omega
      · have hkq : ((k : Int) == 0) = false := by rw [beq_eq_false_iff_ne]; omega
        by_cases hz0 : z < 0
        · have HE : Hid ((((P.map (·.data.toList)).drop (max (k + 1) 1)).find? (isParam nm.data.toList)).map (fun p => unq (Hd.bare (cutAt 61 p).2.1)) = G) := by
            show _ = _
            rw [Nat.max_eq_left (by omega), ← HRR.out (by omega), List.find?_cons_of_neg]
            unfold isParam
            rw [HCI.out, if_neg (by omega)]
            simp
          go_wp2_with fail
          go_roundw
          case rel => exact ⟨k + 1, by go_num, by omega, HE.out, hbW⟩
          case measure => simp [intOf]; omega
        · obtain ⟨q, rfl⟩ : ∃ q : Nat, z = q := ⟨z.toNat, by omega⟩
          have hq := hzl (by omega)
          have hx : (p.extract 0 q).size ≤ 1000000 := by rw [Lib.size_eq, Lib.extract_from_zero, List.length_take]; rw [list_size]; omega
          have hy : (p.extract (q + 1) p.size).size ≤ 1000000 := by rw [Lib.size_eq, Lib.extract_to_end, List.length_drop, list_size]; omega
          have HCU : Hid (cutAt 61 p.data.toList = ((p.extract 0 q).data.toList, (p.extract (q + 1) p.size).data.toList, true)) := by
            show _ = _
            rw [HCI.out, if_pos (by omega), Int.toNat_natCast, Lib.extract_from_zero, Lib.extract_to_end]
          have cB := rbare_is (p.extract 0 q) wr hx
          have cB2 := fun W => rbare_is (p.extract (q + 1) p.size) W hy
          obtain ⟨ba, hba⟩ : ∃ t : ByteArray, ⟨(Hd.bare (p.extract 0 q).data.toList).toArray⟩ = t := ⟨_, rfl⟩
          obtain ⟨V, hV⟩ : ∃ t : ByteArray, ⟨(Hd.bare (p.extract (q + 1) p.size).data.toList).toArray⟩ = t := ⟨_, rfl⟩
          have hbl : ba.data.toList = Hd.bare (p.extract 0 q).data.toList := by rw [← hba]
          have hVl : V.data.toList = Hd.bare (p.extract (q + 1) p.size).data.toList := by rw [← hV]
          have hbz : ba.size ≤ 1000000 := by have := bare_length (p.extract 0 q).data.toList; rw [← list_size, hbl]; rw [list_size] at this; omega
          have hVz : V.size ≤ 1000000 := by have := bare_length (p.extract (q + 1) p.size).data.toList; rw [← list_size, hVl]; rw [list_size] at this; omega
          have HI : Hid (isParam nm.data.toList p.data.toList = decide (small ba.data.toList = small nm.data.toList)) := by
            show _ = _
            unfold isParam
            rw [HCU.out, hbl]
            rfl
          have HV : Hid (unq (Hd.bare (cutAt 61 p.data.toList).2.1) = unq V.data.toList) := by show _ = _; rw [HCU.out, hVl]
          rw [hba] at cB
          rw [hV] at cB2
          have cS := fun W => rsmall_is ba W hbz
          obtain ⟨sb, hsb⟩ : ∃ t : ByteArray, ⟨(small ba.data.toList).toArray⟩ = t := ⟨_, rfl⟩
          have HSB : Hid (sb.data.toList = small ba.data.toList) := by show _ = _; rw [← hsb]
          rw [hsb] at cS
          clear hba hV hbl hVl hsb HCI HCU
          go_wp2_with fail
          refine cB.mono ?_
          clear cB
          rintro e w2 ⟨rfl, hw2⟩
          obtain rfl : wr = w2 := hw2.symm
          go_wp2_with fail
          refine (cS wr).mono ?_
          clear cS
          rintro e w3 ⟨rfl, hb3⟩
          go_wp2_with fail
          refine (cN w3).mono ?_
          rintro e w4 ⟨rfl, hb4⟩
          have hb34 := hb3.trans (hb4.mono hb3.size)
          have hb9 := hbw.trans (hb34.mono hbw.size)
          have hzr : w.heap.size + 1 ≤ wr.heap.size := by have := hbW.size; omega
          have hbW4 := hbW.trans (hb34.mono hzr)
          by_cases heq : small ba.data.toList = small nm.data.toList
          · have HA : Hid (G = some (unq V.data.toList)) := by
              show _ = _
              rw [← HRR.out (by omega), List.find?_cons_of_pos (by rw [HI.out]; simpa using heq), ← HV.out]
              rfl
            obtain rfl : sb = sn := text_ext (by rw [HSB.out, HSN.out]; exact heq)
            clear heq HI HRR HV
            go_wp2_with fail
            refine (cB2 w4).mono ?_
            clear cB2
            rintro e w5 ⟨rfl, hw5⟩
            obtain rfl : w4 = w5 := hw5.symm
            have hl := list_size V
            by_cases h2 : V.size < 2
            · have hu : unq V.data.toList = V.data.toList := by unfold unq; rw [if_neg (by rw [hl]; omega)]
              rw [hu] at HA
              have i1 : ¬ (1 : Int) < (V.size : Int) := by omega
              have i2 : decide ((1 : Int) < (V.size : Int)) = false := decide_eq_false i1
              clear hu
              go_wp2_with fail
              go_ret2
              exact ⟨hb9, Or.inr ⟨_, HA.out, rfl⟩⟩
            · have i1 : (1 : Int) < (V.size : Int) := by omega
              have i2 : decide ((1 : Int) < (V.size : Int)) = true := decide_eq_true i1
              have h0 : 0 < V.size := by omega
              have h1 : V.size - 1 < V.size := by omega
              have HC0 : Hid (V.data.toList.head? = some (V[0]'h0)) := by
                show _ = _
                rw [List.head?_eq_getElem?, List.getElem?_eq_getElem (by omega)]; rfl
              have HC1 : Hid (V.data.toList.getLast? = some (V[V.size - 1]'h1)) := by
                show _ = _
                rw [List.getLast?_eq_getElem?, hl, List.getElem?_eq_getElem (by omega)]; rfl
              generalize hc0 : V[0] = c0 at HC0
              generalize hc1 : V[V.size - 1] = c1' at HC1
              by_cases e0 : c0 = 34
              · have q0 : ((c0.toNat : Int) == 34) = true := by rw [e0]; rfl
                by_cases e1 : c1' = 34
                · have q1 : ((c1'.toNat : Int) == 34) = true := by rw [e1]; rfl
                  rw [unq_yes (by omega) (e0 ▸ HC0.out) (e1 ▸ HC1.out), ← cut_ends V] at HA
                  go_wp2_with fail
                  go_ret2
                  exact ⟨hb9, Or.inr ⟨_, HA.out, rfl⟩⟩
                · have q1 : ((c1'.toNat : Int) == 34) = false := by rw [beq_eq_false_iff_ne]; intro h; exact e1 (UInt8.toNat_inj.1 (by show c1'.toNat = 34; omega))
                  rw [unq_no2 HC1.out e1] at HA
                  go_wp2_with fail
                  go_ret2
                  exact ⟨hb9, Or.inr ⟨_, HA.out, rfl⟩⟩
              · have q0 : ((c0.toNat : Int) == 34) = false := by rw [beq_eq_false_iff_ne]; intro h; exact e0 (UInt8.toNat_inj.1 (by show c0.toNat = 34; omega))
                rw [unq_no HC0.out e0] at HA
                go_wp2_with fail
                go_ret2
                exact ⟨hb9, Or.inr ⟨_, HA.out, rfl⟩⟩
          · have HE : Hid ((((P.map (·.data.toList)).drop (max (k + 1) 1)).find? (isParam nm.data.toList)).map (fun p => unq (Hd.bare (cutAt 61 p).2.1)) = G) := by
              show _ = _
              rw [Nat.max_eq_left (by omega), ← HRR.out (by omega), List.find?_cons_of_neg (by rw [HI.out]; simpa using heq)]
            have hqq : (sb.toList == sn.toList) = false := by
              rw [Lib.toList_data, Lib.toList_data, HSB.out, HSN.out, beq_eq_false_iff_ne]
              exact heq
            clear heq HI HRR HV
            go_wp2_with fail
            go_roundw
            case rel => exact ⟨k + 1, by go_num, by omega, HE.out, hbW4⟩
            case measure => simp [intOf]; omega
    · have HE : Hid (G = none) := by
        have := HR.out
        rw [List.drop_eq_nil_of_le (by rw [List.length_map, HP.out.1]; omega)] at this
        exact this.symm
      go_wp2_with fail
      go_ret2
      exact ⟨hbw, Or.inl ⟨HE.out, rfl⟩⟩
end Go.Proofs.YtgbbkdflnlagaaaGreatDoor
namespace Go.Proofs.YtgbbkdflnlagaaaGreatDoor
open Go.RowKit Go.Proofs.Aid Go.Proofs.Hd Go.Proofs.Sq

set_option maxHeartbeats 1000000 in
set_option maxRecDepth 100000 in
theorem rget_is (v : Value) (L : List Fb) (n : ByteArray) (w : World) (h : Fg w v L) (hL : L.length ≤ 100) (hsh : Short L) (hn : n.size ≤ 1000000) :
    Calls Tryz.prog 91 #[v, .string n] w fun e w' => Below w.heap.size w w' ∧ ((∃ x : ByteArray, getF (L.map tx) n.data.toList = some x.data.toList ∧ e = .returned (.tuple #[.string x, .bool true])) ∨ (getF (L.map tx) n.data.toList = none ∧ e = .returned (.tuple #[.string ⟨#[]⟩, .bool false]))) := by
  have cN := fun W => rsmall_is n W hn
  obtain ⟨ns, hns⟩ : ∃ x : ByteArray, ⟨(small n.data.toList).toArray⟩ = x := ⟨_, rfl⟩
  have HNS : Hid (ns.data.toList = small n.data.toList) := by show _ = _; rw [← hns]
  rw [hns] at cN
  have HSH : Hid (Short L) := hsh
  obtain ⟨G, hG⟩ : ∃ G, getF (L.map tx) n.data.toList = G := ⟨_, rfl⟩
  have HG : Hid (getF (L.map tx) n.data.toList = G) := hG
  rw [hG]
  have K0 : Hid (∀ W, Below w.heap.size w W → Fg W v L) := fun W hW => h.below hW (Nat.le_refl _)
  obtain ⟨a, c, rfl, _⟩ := h
  obtain ⟨N, hN⟩ : ∃ N, L.length = N := ⟨_, rfl⟩
  have HN : Hid (L.length = N) := hN
  rw [hN] at hL K0 ⊢
  clear hns hsh hG hN
  go_enter Tryz.func91, Tryz.ntmps91
  go_wp2_with fail
  go_loopw [10] (fun i wr => ∃ k : Nat, i = .int .i64 (k : Int) ∧ k ≤ N ∧ Hid (getF ((L.drop k).map tx) n.data.toList = G) ∧ Below w.heap.size w wr) (fun i _ => N - (intOf i).toNat)
  case atStart => exact ⟨0, rfl, by omega, by show _ = _; simpa using HG.out, Below.refl _ _⟩
  case round =>
    obtain ⟨k, rfl, hk, HR, hbW⟩ := hrel
    by_cases hlt : k < N
    · have hkL : k < L.length := by rw [HN.out]; exact hlt
      obtain ⟨a', c', hv, hd⟩ := K0.out wr hbW
      injection hv with hv1 hv2 hv3
      subst hv1
      rcases hd with h0 | ⟨b, o, rfl, hat⟩
      · rw [h0] at hkL; simp at hkL
      obtain ⟨c1, c2⟩ := hat k _ (List.getElem?_eq_getElem hkL)
      have hsx := HSH.out _ (List.getElem_mem hkL)
      have HRR : Hid ((if small (tx L[k]).1 = small n.data.toList then some (tx L[k]).2 else getF ((L.drop (k + 1)).map tx) n.data.toList) = G) := by
        have := HR.out
        rw [List.drop_eq_getElem_cons hkL, List.map_cons, getF_cons] at this
        exact this
      obtain ⟨⟨x, y⟩, hxy⟩ : ∃ p, L[k] = p := ⟨_, rfl⟩
      rw [hxy] at c1 c2 hsx HRR
      simp only at c1 c2 hsx
      have HRR : Hid ((if small x.data.toList = small n.data.toList then some y.data.toList else getF ((L.drop (k + 1)).map tx) n.data.toList) = G) := HRR.out
      have hh2 := heap_alloc_new wr (.cells #[.string x, .string y] 123)
      have hb2 : Below w.heap.size w (wr.alloc (.cells #[.string x, .string y] 123)) := hbW.alloc hbW.size _
      have hlb : wr.heap.size < (wr.alloc (.cells #[.string x, .string y] 123)).heap.size := by simp
      have d1 : (wr.alloc (.cells #[.string x, .string y] 123)).cell? ⟨wr.heap.size, 0, none⟩ = some (.string x) := rd_cell hh2 rfl
      have d2 : (wr.alloc (.cells #[.string x, .string y] 123)).cell? ⟨wr.heap.size, 1, none⟩ = some (.string y) := rd_cell hh2 rfl
      have cS := rsmall_is x (wr.alloc (.cells #[.string x, .string y] 123)) hsx.1
      obtain ⟨xs, hxs⟩ : ∃ t : ByteArray, ⟨(small x.data.toList).toArray⟩ = t := ⟨_, rfl⟩
      have HXS : Hid (xs.data.toList = small x.data.toList) := by show _ = _; rw [← hxs]
      rw [hxs] at cS
      clear hxs hat hv2 hv3 hxy HR hh2
      go_wp2_with fail
      refine cS.mono ?_
      clear cS
      rintro e w3 ⟨rfl, hb3⟩
      have e2 := (hb3.cell (p := ⟨wr.heap.size, 1, none⟩) hlb).trans d2
      have hb03 := hb2.trans (hb3.mono hb2.size)
      have cM := cN w3
      have hlb3 := Nat.lt_of_lt_of_le hlb hb3.size
      go_wp2_with fail
      refine cM.mono ?_
      clear cM
      rintro e w4 ⟨rfl, hb4⟩
      have e4 := (hb4.cell (p := ⟨wr.heap.size, 1, none⟩) hlb3).trans e2
      have hb04 := hb03.trans (hb4.mono hb03.size)
      by_cases heq : small x.data.toList = small n.data.toList
      · have HE : Hid (some y.data.toList = G) := by have := HRR.out; rw [if_pos heq] at this; exact this
        obtain rfl : xs = ns := text_ext (by rw [HXS.out, HNS.out]; exact heq)
        clear HRR heq
        go_wp2_with fail
        go_ret2
        exact ⟨hb04, Or.inl ⟨y, HE.out.symm, rfl⟩⟩
      · have HE : Hid (getF ((L.drop (k + 1)).map tx) n.data.toList = G) := by have := HRR.out; rw [if_neg heq] at this; exact this
        have hq : (xs.toList == ns.toList) = false := by
          rw [Lib.toList_data, Lib.toList_data, HXS.out, HNS.out, beq_eq_false_iff_ne]
          exact heq
        clear HRR heq
        go_wp2_with fail
        go_roundw
        case rel => exact ⟨k + 1, by go_num, by omega, HE.out, hb04⟩
        case measure => simp [intOf]; omega
    · have HE : Hid (G = none) := by
        have := HR.out
        rw [List.drop_eq_nil_of_le (by rw [HN.out]; omega)] at this
        exact this.symm
      go_wp2_with fail
      go_ret2
      exact ⟨hbW, Or.inr ⟨HE.out, rfl⟩⟩
end Go.Proofs.YtgbbkdflnlagaaaGreatDoor
namespace Go.Proofs.YtgbbkdflnlagaaaGreatDoor
open Go.RowKit Go.Proofs.Aid Go.Proofs.Sq Go.Proofs.Hd Go.Proofs.Mm

theorem between_head (c : UInt8) (l : Tx) : (between c l).head? = some (cutAt c l).1 := by
  cases h : (cutAt c l).2.2 with
  | false => have := cutAt_miss h; rw [this.2.2, this.1]; rfl
  | true => rw [(cutAt_hit h).2]; rfl
theorem multi_pre (t : Tx) : multiT.isPrefixOf t = decide (10 ≤ t.length ∧ t.take 10 = multiT) := by
  have hm : multiT.length = 10 := rfl
  rw [Bool.eq_iff_iff, List.isPrefixOf_iff_prefix, decide_eq_true_iff, List.prefix_iff_eq_take, hm]
  constructor
  · intro h
    refine ⟨?_, h.symm⟩
    have := congrArg List.length h
    rw [hm, List.length_take] at this
    omega
  · exact fun h => h.2.symm
set_option maxHeartbeats 4000000 in
set_option maxRecDepth 100000 in
theorem rkind_is (t : ByteArray) (m : Int) (w : World) (hs : t.size ≤ 90000) (hm : w.cell? ⟨1, 0, none⟩ = some (.int .i64 m)) (hf0 : w.cell? ⟨0, 0, none⟩ = some (.int .i64 0)) (hf1 : w.cell? ⟨0, 1, none⟩ = some (.int .i64 (-1))) :
    Calls Tryz.prog 61 #[.string t] w fun e w' => (∃ a b : ByteArray, e = .returned (.tuple #[.string a, .string b]) ∧ a.data.toList = (kindOf t.data.toList).1 ∧ b.data.toList = (kindOf t.data.toList).2) ∧ Below w.heap.size w w' := by
  have K0 : Hid (∀ W, Below w.heap.size w W → W.cell? ⟨1, 0, none⟩ = some (.int .i64 m)) := fun W h => (h.cell (World.block_lt_of_cell? _ _ hm)).trans hm
  have KF : Hid (∀ W, Below w.heap.size w W → W.cell? ⟨0, 0, none⟩ = some (.int .i64 0) ∧ W.cell? ⟨0, 1, none⟩ = some (.int .i64 (-1))) := fun W h => ⟨(h.cell (World.block_lt_of_cell? _ _ hf0)).trans hf0, (h.cell (World.block_lt_of_cell? _ _ hf1)).trans hf1⟩
  have cF := rfields_is t m w hs hm hf0 hf1
  have hgood := fieldsOf_good t.data.toList
  have hval := values_short t.data.toList
  have HK : Hid (kindOf t.data.toList = if (fieldsOf t.data.toList).1.1 = 0 then (match getF (fieldsOf t.data.toList).2 ctypeT with
    | none => (plainT, [])
    | some v => kindV v) else (plainT, [])) := rfl
  obtain ⟨F, hF⟩ : ∃ F, fieldsOf t.data.toList = F := ⟨_, rfl⟩
  rw [hF] at hgood hval cF HK
  rw [list_size] at hval
  obtain ⟨KK, hKK⟩ : ∃ K, kindOf t.data.toList = K := ⟨_, rfl⟩
  rw [hKK] at HK ⊢
  have HVL : Hid (∀ f ∈ F.2, f.2.length ≤ 90001) := fun f hf => by have := hval f hf; omega
  have HGV : Hid (∀ L : List Fb, L.map tx = F.2 → Short L ∧ L.length ≤ 40) := by
    intro L hL
    refine ⟨reads_short (V := 90001) (by decide) fun f hf => ?_, ?_⟩
    · rw [hL] at hf
      exact ⟨hgood.1 f hf, HVL.out f hf⟩
    · have := hgood.2; rw [← hL, List.length_map] at this; exact this
  clear hgood hval hF hKK hm hf0 hf1
  go_enter Tryz.func61, Tryz.ntmps61
  go_wp2_with fail
  refine cF.mono ?_
  clear cF
  rintro e w1 ⟨hb1, v, L, rfl, hfg, hL⟩
  have hLL := HGV.out L hL
  obtain ⟨fc, hfc⟩ : ∃ z, F.1.1 = z := ⟨_, rfl⟩
  obtain ⟨pl, hpl⟩ : ∃ z, faultAt F = z := ⟨_, rfl⟩
  have HFC : Hid (F.1.1 = fc ∧ faultAt F = pl) := ⟨hfc, hpl⟩
  rw [hfc, hpl]
  have hbA : Below w1.heap.size w1 (w1.alloc (.cells #[.int .i64 fc, .int .i64 pl] 87)) := (Below.refl _ _).alloc (Nat.le_refl _) _
  have eA := heap_alloc_new w1 (.cells #[.int .i64 fc, .int .i64 pl] 87)
  have zA : (w1.alloc (.cells #[.int .i64 fc, .int .i64 pl] 87)).heap.size = w1.heap.size + 1 := by simp
  have cG := rget_is v L ⟨#[99, 111, 110, 116, 101, 110, 116, 45, 116, 121, 112, 101]⟩ (w1.alloc (.cells #[.int .i64 fc, .int .i64 pl] 87)) (hfg.below hbA (Nat.le_refl _)) (by omega) hLL.1 (by decide)
  rw [hL, show (⟨#[99, 111, 110, 116, 101, 110, 116, 45, 116, 121, 112, 101]⟩ : ByteArray).data.toList = ctypeT from rfl] at cG
  obtain ⟨va, vc, rfl, _⟩ := hfg
  clear hLL HGV hL hfc hpl
  go_wp2_with fail
  refine cG.mono ?_
  clear cG
  rintro e w2 ⟨hb2, hg⟩
  have hb02 := (hb1.trans (hbA.mono hb1.size)).trans (hb2.mono (hb1.trans (hbA.mono hb1.size)).size)
  have e2 := (hb2.block w1.heap.size (by omega)).trans eA
  have c0 := rd_cell (j := 0) e2 rfl
  have c1 := rd_cell (j := 1) e2 rfl
  obtain ⟨f0, f1⟩ := KF.out w2 hb02
  clear hb1 hb2 hbA eA zA e2
  by_cases h0 : fc = 0
  · subst h0
    obtain rfl : pl = -1 := by rw [← HFC.out.2, faultAt, if_pos HFC.out.1]
    have HK2 : Hid (KK = match getF F.2 ctypeT with
      | none => (plainT, [])
      | some v => kindV v) := by have := HK.out; rw [if_pos HFC.out.1] at this; exact this
    clear HK HFC
    rcases hg with ⟨x, hg, rfl⟩ | ⟨hg, rfl⟩
    · have HKV : Hid (KK = kindV x.data.toList) := by have := HK2.out; rw [hg] at this; exact this
      have hxs : x.size ≤ 90001 := by
        obtain ⟨f, hf, hfx⟩ := getF_mem hg
        have := HVL.out f hf
        rw [hfx, list_size] at this
        exact this
      have cP := rparam_is x ⟨#[98, 111, 117, 110, 100, 97, 114, 121]⟩ m w2 (by omega) (by decide) (K0.out w2 hb02)
      rw [show (⟨#[98, 111, 117, 110, 100, 97, 114, 121]⟩ : ByteArray).data.toList = bndryT from rfl] at cP
      clear HK2 hg
      go_wp2_with fail
      refine cP.mono ?_
      clear cP
      rintro e w3 ⟨hb3, hpr⟩
      have hb03 := hb02.trans (hb3.mono hb02.size)
      obtain ⟨bq, okq, HBQ, rfl⟩ : ∃ (bq : ByteArray) (okq : Bool), Hid (bq.data.toList = (paramOf x.data.toList bndryT).getD []) ∧ e = .returned (.tuple #[.string bq, .bool okq]) := by
        rcases hpr with ⟨h1, rfl⟩ | ⟨r, h1, rfl⟩
        · exact ⟨_, _, (by show _ = _; rw [h1]; rfl), rfl⟩
        · exact ⟨_, _, (by show _ = _; rw [h1]; rfl), rfl⟩
      have hsp := split_between 59 x
      have hcl := Lib.countB_le ⟨#[59]⟩ (by decide) _ x (Nat.le_refl _)
      have cS := Tryz.strings_Split x ⟨#[59]⟩ m w3 (by omega) (K0.out w3 hb03) (by decide)
      have hhd := between_head 59 x.data.toList
      rw [← hsp] at hhd
      obtain ⟨P, hP⟩ : ∃ P, Lib.splitB ⟨#[59]⟩ 0 (Lib.countB x ⟨#[59]⟩) x = P := ⟨_, rfl⟩
      obtain ⟨N, hN⟩ : ∃ N, Lib.countB x ⟨#[59]⟩ = N := ⟨_, rfl⟩
      rw [hP] at hhd cS
      rw [hN] at cS
      obtain ⟨p0, hp0, hpx⟩ : ∃ p0, P[0]? = some p0 ∧ p0.data.toList = (cutAt 59 x.data.toList).1 := by
        cases P with
        | nil => simp at hhd
        | cons p0 r => exact ⟨p0, rfl, by simpa using hhd⟩
      have hps : p0.size ≤ 90001 := by
        have := cut_len1 59 x.data.toList
        rw [← hpx, list_size, list_size] at this
        omega
      have hcell : (w3.alloc (.cells (P.map Value.string).toArray 9)).cell? ⟨w3.heap.size, 0, none⟩ = some (.string p0) := by
        unfold World.cell?
        simp only [heap_alloc_new]
        simp [hp0]
      have hbB : Below w3.heap.size w3 (w3.alloc (.cells (P.map Value.string).toArray 9)) := (Below.refl _ _).alloc (Nat.le_refl _) _
      have hb0B := hb03.trans (hbB.mono hb03.size)
      have hN0 : (0 : Int) < (N : Int) + 1 := by omega
      clear hsp hcl hhd hP hN hp0 hpr hb3 c0 c1 f0 f1
      go_wp2_with fail
      refine cS.mono ?_
      clear cS
      rintro e w4 ⟨rfl, hw4⟩
      rw [← hw4] at hcell hb0B
      clear hbB hw4
      have cB := rbare_is p0 w4 (by omega)
      obtain ⟨ba, hba⟩ : ∃ t : ByteArray, ⟨(Hd.bare p0.data.toList).toArray⟩ = t := ⟨_, rfl⟩
      have hbl : ba.data.toList = Hd.bare p0.data.toList := by rw [← hba]
      have hbz : ba.size ≤ 90001 := by
        have := bare_length p0.data.toList
        rw [← hbl, list_size, list_size] at this
        omega
      rw [hba] at cB
      have cM := fun W => rsmall_is ba W (by omega)
      obtain ⟨sb, hsb⟩ : ∃ t : ByteArray, ⟨(small ba.data.toList).toArray⟩ = t := ⟨_, rfl⟩
      have hsl : sb.data.toList = small (Hd.bare (cutAt 59 x.data.toList).1) := by rw [← hsb, ← hpx, ← hbl]
      have hsz : sb.size ≤ 90001 := by
        rw [← list_size, ← hsb]
        show (small ba.data.toList).length ≤ _
        rw [small_length, list_size]
        exact hbz
      rw [hsb] at cM
      have HKK : Hid (KK = if 10 ≤ sb.size ∧ sb.data.toList.take 10 = multiT then (sb.data.toList, bq.data.toList) else (sb.data.toList, [])) := by
        show _ = _
        rw [HKV.out, kindV, ← hsl, HBQ.out, multi_pre, list_size]
        by_cases h : 10 ≤ sb.size ∧ sb.data.toList.take 10 = multiT
        · rw [if_pos h, decide_eq_true h]; rfl
        · rw [if_neg h, decide_eq_false h]; rfl
      clear hba hsb hsl hpx HKV HBQ hbl
      go_wp2_with fail
      refine cB.mono ?_
      clear cB
      rintro e w5 ⟨rfl, hw5⟩
      obtain rfl : w4 = w5 := hw5.symm
      go_wp2_with fail
      refine (cM w4).mono ?_
      clear cM
      rintro e w6 ⟨rfl, hb6⟩
      have hb06 := hb0B.trans (hb6.mono hb0B.size)
      by_cases h10 : 10 ≤ sb.size
      · have i1 : ¬ (sb.size : Int) < 10 := by omega
        have i2 : (10 : Int) ≤ (sb.size : Int) := by omega
        obtain ⟨X, hX⟩ : ∃ X, sb.extract 0 10 = X := ⟨_, rfl⟩
        have hXl : X.data.toList = sb.data.toList.take 10 := by rw [← hX, extract_text]; rfl
        by_cases hXm : X = ⟨#[109, 117, 108, 116, 105, 112, 97, 114, 116, 47]⟩
        · subst hXm
          have HE : Hid (KK = (sb.data.toList, bq.data.toList)) := by have := HKK.out; rw [if_pos ⟨h10, by rw [← hXl]; rfl⟩] at this; exact this
          clear HKK hXl
          go_wp2_with fail
          go_ret2
          exact ⟨⟨sb, bq, rfl, by rw [HE.out], by rw [HE.out]⟩, hb06⟩
        · have HE : Hid (KK = (sb.data.toList, [])) := by
            have := HKK.out
            rw [if_neg (fun h => hXm (text_ext (by rw [hXl, h.2]; rfl)))] at this
            exact this
          have hXb : (X.toList == [109, 117, 108, 116, 105, 112, 97, 114, 116, 47]) = false := by
            rw [Lib.toList_data, beq_eq_false_iff_ne]
            exact fun h => hXm (text_ext h)
          clear HKK hXl
          go_wp2_with fail
          go_ret2
          exact ⟨⟨sb, ⟨#[]⟩, rfl, by rw [HE.out], by first | (rw [HE.out]; done) | (rw [HE.out]; rfl)⟩, hb06⟩
      · have HE : Hid (KK = (sb.data.toList, [])) := by have := HKK.out; rw [if_neg (fun h => h10 h.1)] at this; exact this
        have i1 : (sb.size : Int) < 10 := by omega
        clear HKK
        go_wp2_with fail
        go_ret2
        exact ⟨⟨sb, ⟨#[]⟩, rfl, by rw [HE.out], by first | (rw [HE.out]; done) | (rw [HE.out]; rfl)⟩, hb06⟩
    · have HKV : Hid (KK = (plainT, [])) := by have := HK2.out; rw [hg] at this; exact this
      clear HK2 hg
      go_wp2_with fail
      go_ret2
      exact ⟨⟨_, _, rfl, by first | (rw [HKV.out]; done) | (rw [HKV.out]; rfl), by first | (rw [HKV.out]; done) | (rw [HKV.out]; rfl)⟩, hb02⟩
  · have HKV : Hid (KK = (plainT, [])) := by have := HK.out; rw [if_neg (by rw [HFC.out.1]; exact h0)] at this; exact this
    clear HK HFC
    have h0b : (fc == 0) = false := by simpa using h0
    rcases hg with ⟨x, _, rfl⟩ | ⟨_, rfl⟩
    all_goals
      go_wp2_with fail
      go_ret2
      exact ⟨⟨_, _, rfl, by first | (rw [HKV.out]; done) | (rw [HKV.out]; rfl), by first | (rw [HKV.out]; done) | (rw [HKV.out]; rfl)⟩, hb02⟩
end Go.Proofs.YtgbbkdflnlagaaaGreatDoor
namespace Go.Proofs.YtgbbkdflnlagaaaGreatDoor
open Go.RowKit Go.Proofs.Aid Go.Proofs.Sq Go.Proofs.Hd Go.Proofs.Mm

/-- The document's reader in memory: its text, and how many it counted. -/
def RdP (w : World) (rb : Nat) (s : ByteArray) (c : Nat) : Prop := w.heap[rb]? = some (.cells #[.string s, .int .i64 (c : Int)] 78 (0, 0))
theorem rdP_below {w w' : World} {rb c : Nat} {s : ByteArray} (h : RdP w rb s c) (hb : Below w.heap.size w w') : RdP w' rb s c := (hb.block rb (Array.getElem?_eq_some_iff.1 h).1).trans h
def RPost (s : ByteArray) (rb : Nat) (w : World) (R : Nat × Option Mm.Pt) (e : Ending) (w' : World) : Prop :=
  RdP w' rb s R.1 ∧ But w.heap.size rb w w' ∧
    ((R.2 = none ∧ e = .returned (.tuple #[.agg zeroSix.toArray, .bool false])) ∨ ∃ p xs, R.2 = some p ∧ e = .returned (.tuple #[.agg xs.toArray, .bool true]) ∧ Six w' (fun k => w.heap.size ≤ k) p xs)
/-- The variables that are read. -/
def Vars (m : Int) (w : World) : Prop := w.cell? ⟨1, 0, none⟩ = some (.int .i64 m) ∧ w.cell? ⟨0, 0, none⟩ = some (.int .i64 0) ∧ w.cell? ⟨0, 1, none⟩ = some (.int .i64 (-1))
theorem Vars.but {m : Int} {w W : World} {rb c : Nat} {s : ByteArray} (h : Vars m w) (hr : RdP w rb s c) (hb : But w.heap.size rb w W) : Vars m W := by
  have n1 : 1 ≠ rb := by
    intro e
    have := rd_cell (j := 0) hr rfl
    rw [← e, h.1] at this
    cases this
  have n2 : 0 ≠ rb := by
    intro e
    have := rd_cell (j := 0) hr rfl
    rw [← e, h.2.1] at this
    cases this
  exact ⟨(hb.cell (World.block_lt_of_cell? _ _ h.1) n1).trans h.1, (hb.cell (World.block_lt_of_cell? _ _ h.2.1) n2).trans h.2.1, (hb.cell (World.block_lt_of_cell? _ _ h.2.2) n2).trans h.2.2⟩
theorem Vars.below {m : Int} {w W : World} (h : Vars m w) (hb : Below w.heap.size w W) : Vars m W :=
  ⟨(hb.cell (World.block_lt_of_cell? _ _ h.1)).trans h.1, (hb.cell (World.block_lt_of_cell? _ _ h.2.1)).trans h.2.1, (hb.cell (World.block_lt_of_cell? _ _ h.2.2)).trans h.2.2⟩
set_option maxHeartbeats 2000000 in
set_option maxRecDepth 100000 in
theorem rpart_fail (s : ByteArray) (rb lo hi c depth : Nat) (w : World) (hr : RdP w rb s c) (hc : c ≤ 30) (hd : depth ≤ 100) (h : 30 < c + 1 ∨ 6 < depth) (f : Nat) (hR : (partF s.data.toList f lo hi c) = (c + 1, none)) :
    Calls Tryz.prog 32 #[.pointer (some ⟨rb, 0, none⟩), .int .i64 (lo : Int), .int .i64 (hi : Int), .int .i64 (depth : Int)] w (RPost s rb w (partF s.data.toList f lo hi c)) := by
  rw [hR]
  have hrl : rb < w.heap.size := (Array.getElem?_eq_some_iff.1 hr).1
  have hb1 : Below w.heap.size w (w.alloc (.cells #[.string ⟨#[]⟩, .string ⟨#[]⟩, .int .i64 0, .int .i64 0, .int .i64 0, .slice none 0 0] 25)) := (Below.refl _ _).alloc (Nat.le_refl _) _
  have e1 := heap_alloc_new w (.cells #[.string ⟨#[]⟩, .string ⟨#[]⟩, .int .i64 0, .int .i64 0, .int .i64 0, .slice none 0 0] 25)
  have hr1 := rdP_below hr hb1
  obtain ⟨W1, hW1⟩ : ∃ W, w.alloc (.cells #[.string ⟨#[]⟩, .string ⟨#[]⟩, .int .i64 0, .int .i64 0, .int .i64 0, .slice none 0 0] 25) = W := ⟨_, rfl⟩
  rw [hW1] at hb1 e1 hr1
  have q1 : W1.cell? ⟨rb, 1, none⟩ = some (.int .i64 (c : Int)) := rd_cell hr1 rfl
  have f1 : W1.frozen? ⟨rb, 1, none⟩ = false := rd_free hr1 1
  have s1 : (W1.setCell ⟨rb, 1, none⟩ (.int .i64 ((c : Int) + 1))).cell? ⟨rb, 1, none⟩ = some (.int .i64 ((c : Int) + 1)) := setm_read hr1 (by simp) _
  have hh2 : (W1.setCell ⟨rb, 1, none⟩ (.int .i64 ((c : Int) + 1))).heap[rb]? = some (.cells #[.string s, .int .i64 ((c : Int) + 1)] 78 (0, 0)) := rd_set (i := 1) _ hr1
  have HR2 : Hid (RdP (W1.setCell ⟨rb, 1, none⟩ (.int .i64 ((c : Int) + 1))) rb s (c + 1)) := by
    show _ = _
    rw [hh2]
    rfl
  have B2 : But w.heap.size rb w (W1.setCell ⟨rb, 1, none⟩ (.int .i64 ((c : Int) + 1))) := (to_but hb1).setB 1 _
  have e2 := (Below.heap_setCell W1 ⟨rb, 1, none⟩ (.int .i64 ((c : Int) + 1)) w.heap.size (by show w.heap.size ≠ rb; omega)).trans e1
  have hz : zeroSix.toArray = #[.string ⟨#[]⟩, .string ⟨#[]⟩, .int .i64 0, .int .i64 0, .int .i64 0, .slice none 0 0] := rfl
  obtain ⟨⟨r0, r1, r2, r3, r4, r5⟩, ⟨rf0, rf1, rf2, rf3, rf4, rf5⟩, v0, v1, v2, v3, v4, v5⟩ := six_facts e2 (.string ⟨#[]⟩) (.string ⟨#[]⟩) (.int .i64 0) (.int .i64 0) (.int .i64 0) (.slice none 0 0)
  have HQ : Hid (RPost s rb w (c + 1, none) (.returned (.tuple #[.agg #[.string ⟨#[]⟩, .string ⟨#[]⟩, .int .i64 0, .int .i64 0, .int .i64 0, .slice none 0 0], .bool false])) (((((((W1.setCell ⟨rb, 1, none⟩ (.int .i64 ((c : Int) + 1))).setCell ⟨w.heap.size, 0, none⟩ (.string ⟨#[]⟩)).setCell ⟨w.heap.size, 1, none⟩ (.string ⟨#[]⟩)).setCell ⟨w.heap.size, 2, none⟩ (.int .i64 0)).setCell ⟨w.heap.size, 3, none⟩ (.int .i64 0)).setCell ⟨w.heap.size, 4, none⟩ (.int .i64 0)).setCell ⟨w.heap.size, 5, none⟩ (.slice none 0 0))) :=
    ⟨(six_other _ (by omega) _ _ _ _ _ _).trans HR2.out, six_but B2 (Nat.le_refl _) _ _ _ _ _ _, Or.inl ⟨rfl, by rw [hz]⟩⟩
  clear B2 HR2 hh2 e2 hr1 e1 hb1 hr hz hR
  by_cases h30 : 30 < c + 1
  · have i1 : (30 : Int) < (c : Int) + 1 := by omega
    go_enter Tryz.func32, Tryz.ntmps32
    go_wp2_with fail
    exact bodyPost_ret (v := .tuple #[.agg #[.string ⟨#[]⟩, .string ⟨#[]⟩, .int .i64 0, .int .i64 0, .int .i64 0, .slice none 0 0], .bool false]) (by simp [results, Tryz.results32, go_sem, v0, v1, v2, v3, v4, v5]) rfl HQ.out
  · have i1 : ¬ (30 : Int) < (c : Int) + 1 := by omega
    have i2 : (6 : Int) < (depth : Int) := by omega
    go_enter Tryz.func32, Tryz.ntmps32
    go_wp2_with fail
    exact bodyPost_ret (v := .tuple #[.agg #[.string ⟨#[]⟩, .string ⟨#[]⟩, .int .i64 0, .int .i64 0, .int .i64 0, .slice none 0 0], .bool false]) (by simp [results, Tryz.results32, go_sem, v0, v1, v2, v3, v4, v5]) rfl HQ.out
theorem count_snoc {l : Tx} {k : Nat} (h : k < l.length) : (l.take (k + 1)).count 10 = (l.take k).count 10 + (if l[k] = 10 then 1 else 0) := by
  rw [List.take_succ_eq_append_getElem h, List.count_append, List.count_singleton]
  simp
theorem rtrim_last {c : UInt8} {t : Tx} (h : blk c = true) : rtrim (t ++ [c]) = rtrim t := by
  have h' : ([32, 9] : Tx).contains c = true := h
  unfold rtrim Lib.trimRightS
  rw [List.reverse_append, List.reverse_singleton, List.singleton_append, List.dropWhile_cons_of_pos h']
theorem rtrim_len (t : Tx) : (rtrim t).length ≤ t.length := by
  obtain ⟨b, hb⟩ := rtrim_part t
  have := congrArg List.length hb
  rw [List.length_append] at this
  omega
def begV (fr : Nat) : Option Nat → Int
  | none => -1
  | some b => ((b + fr : Nat) : Int)
def shift (fr : Nat) (L : List (Nat × Nat)) : List (Nat × Nat) := L.map fun x => (x.1 + fr, x.2 + fr)
theorem rest_is {s bd : Tx} {fr pl hi : Nat} (h : bd = (s.drop fr).take bd.length) (hp : pl ≤ bd.length) (hh : fr + bd.length = hi) : textOf s (pl + fr) hi = bd.drop pl := by
  unfold textOf
  conv => rhs; rw [h]
  rw [List.drop_take, List.drop_drop, show fr + pl = pl + fr by omega, show hi - (pl + fr) = bd.length - pl by omega]
def RPartIs (s : ByteArray) (rb f : Nat) (m : Int) : Prop := ∀ (lo hi c depth : Nat) (w : World), depth + f = 7 → lo ≤ hi → hi ≤ s.size → c ≤ 30 → RdP w rb s c → Vars m w → Calls Tryz.prog 32 #[.pointer (some ⟨rb, 0, none⟩), .int .i64 (lo : Int), .int .i64 (hi : Int), .int .i64 (depth : Int)] w (RPost s rb w (partF s.data.toList f lo hi c))
set_option maxHeartbeats 8000000 in
set_option maxRecDepth 100000 in
theorem rpart_step (s : ByteArray) (hs : s.size ≤ 90000) (rb f : Nat) (m : Int) (IH : RPartIs s rb f m)
    (lo hi c depth : Nat) (w : World) (hd : depth + (f + 1) = 7) (hlo : lo ≤ hi) (hhi : hi ≤ s.size) (hc : c + 1 ≤ 30) (hr : RdP w rb s c) (hm : Vars m w) :
    Calls Tryz.prog 32 #[.pointer (some ⟨rb, 0, none⟩), .int .i64 (lo : Int), .int .i64 (hi : Int), .int .i64 (depth : Int)] w (RPost s rb w (partF s.data.toList (f + 1) lo hi c)) := by
  have hrl : rb < w.heap.size := (Array.getElem?_eq_some_iff.1 hr).1
  have HV : Hid (∀ W, But w.heap.size rb w W → Vars m W) := fun W h => hm.but hr h
  have HIH : Hid (RPartIs s rb f m) := IH
  have hb1 : Below w.heap.size w (w.alloc (.cells #[.string ⟨#[]⟩, .string ⟨#[]⟩, .int .i64 0, .int .i64 0, .int .i64 0, .slice none 0 0] 25)) := (Below.refl _ _).alloc (Nat.le_refl _) _
  have e1 := heap_alloc_new w (.cells #[.string ⟨#[]⟩, .string ⟨#[]⟩, .int .i64 0, .int .i64 0, .int .i64 0, .slice none 0 0] 25)
  have hr1 := rdP_below hr hb1
  have z1 : (w.alloc (.cells #[.string ⟨#[]⟩, .string ⟨#[]⟩, .int .i64 0, .int .i64 0, .int .i64 0, .slice none 0 0] 25)).heap.size = w.heap.size + 1 := by simp
  obtain ⟨W1, hW1⟩ : ∃ W, w.alloc (.cells #[.string ⟨#[]⟩, .string ⟨#[]⟩, .int .i64 0, .int .i64 0, .int .i64 0, .slice none 0 0] 25) = W := ⟨_, rfl⟩
  rw [hW1] at hb1 e1 hr1 z1
  have q1 : W1.cell? ⟨rb, 1, none⟩ = some (.int .i64 (c : Int)) := rd_cell hr1 rfl
  have f1 : W1.frozen? ⟨rb, 1, none⟩ = false := rd_free hr1 1
  have hh2 : (W1.setCell ⟨rb, 1, none⟩ (.int .i64 ((c : Int) + 1))).heap[rb]? = some (.cells #[.string s, .int .i64 ((c : Int) + 1)] 78 (0, 0)) := rd_set (i := 1) _ hr1
  have B2 : But w.heap.size rb w (W1.setCell ⟨rb, 1, none⟩ (.int .i64 ((c : Int) + 1))) := (to_but hb1).setB 1 _
  have eR := (Below.heap_setCell W1 ⟨rb, 1, none⟩ (.int .i64 ((c : Int) + 1)) w.heap.size (by show w.heap.size ≠ rb; omega)).trans e1
  have zW2 : (W1.setCell ⟨rb, 1, none⟩ (.int .i64 ((c : Int) + 1))).heap.size = w.heap.size + 1 := by simp; exact z1
  obtain ⟨W2, hW2⟩ : ∃ W, W1.setCell ⟨rb, 1, none⟩ (.int .i64 ((c : Int) + 1)) = W := ⟨_, rfl⟩
  rw [hW2] at hh2 B2 eR zW2
  have hR2 : RdP W2 rb s (c + 1) := by
    show _ = _
    rw [hh2]
    rfl
  have s0 : W2.cell? ⟨rb, 0, none⟩ = some (.string s) := rd_cell hh2 rfl
  have s1 : W2.cell? ⟨rb, 1, none⟩ = some (.int .i64 ((c : Int) + 1)) := rd_cell hh2 rfl
  have i1 : ¬ (30 : Int) < (c : Int) + 1 := by omega
  have i2 : ¬ (6 : Int) < (depth : Int) := by omega
  obtain ⟨j0, hj, hjz0, hjz1, hjz2⟩ := info_parts Tryz.infoPart
  obtain ⟨R, hR⟩ : ∃ R, partF s.data.toList (f + 1) lo hi c = R := ⟨_, rfl⟩
  have HR : Hid (partF s.data.toList (f + 1) lo hi c = R) := hR
  rw [hR]
  obtain ⟨T, hT⟩ : ∃ T, s.extract lo hi = T := ⟨_, rfl⟩
  have hTl : T.data.toList = textOf s.data.toList lo hi := by rw [← hT, extract_text]
  have hTs : T.size = hi - lo := by rw [← list_size, hTl, textOf_length _ hlo (by rw [list_size]; exact hhi)]
  have HF : Hid (partF s.data.toList (f + 1) lo hi c =
      if (kindOf (headOf T.data.toList)).2 = [] then (c + 1, some (.mk (kindOf (headOf T.data.toList)).1 [] (hi - (bodyOf T.data.toList).length) hi ((bodyOf T.data.toList).count 10) []))
      else match partsF (partF s.data.toList f) ((insideOf (bodyOf T.data.toList) (45 :: 45 :: (kindOf (headOf T.data.toList)).2)).map fun x => (x.1 + (hi - (bodyOf T.data.toList).length), x.2 + (hi - (bodyOf T.data.toList).length))) (c + 1) with
      | (c', none) => (c', none)
      | (c', some ps) => (c', some (.mk (kindOf (headOf T.data.toList)).1 (kindOf (headOf T.data.toList)).2 (hi - (bodyOf T.data.toList).length) hi ((bodyOf T.data.toList).count 10) ps))) := by
    show _ = _
    rw [partF, if_neg (by omega), ← hTl]
    rfl
  have hlo' : (lo : Int) ≤ (hi : Int) := by omega
  have hhi' : (hi : Int) ≤ (s.size : Int) := by omega
  have cS := rsplit_is T m W2 (by omega) (HV.out W2 B2).1
  obtain ⟨hd1, hhd⟩ : ∃ h : ByteArray, ⟨(headOf T.data.toList).toArray⟩ = h := ⟨_, rfl⟩
  obtain ⟨bd, hbd⟩ : ∃ h : ByteArray, ⟨(bodyOf T.data.toList).toArray⟩ = h := ⟨_, rfl⟩
  have hdl : headOf T.data.toList = hd1.data.toList := by rw [← hhd]
  have hbl : bodyOf T.data.toList = bd.data.toList := by rw [← hbd]
  have hds : hd1.size ≤ 90000 := by rw [← list_size, ← hdl]; unfold headOf; rw [List.length_take, list_size]; omega
  have hbs : bd.size ≤ hi - lo := by
    rw [← list_size, ← hbl]
    refine Nat.le_trans (bodyOf_length _) ?_
    rw [list_size, hTs]
    exact Nat.le_refl _
  rw [hhd, hbd] at cS
  have HBD : Hid (bd.data.toList = (s.data.toList.drop (hi - bd.size)).take bd.size) := by
    have hbz : (bodyOf T.data.toList).length = bd.size := by rw [hbl, list_size]
    have hb2 : bodyOf T.data.toList = T.data.toList.drop (T.data.toList.length - bd.size) := by
      have h0 : bodyOf T.data.toList = T.data.toList.drop (headLen true T.data.toList) := rfl
      have h1 := congrArg List.length h0
      rw [List.length_drop, hbz] at h1
      have h2 := headLen_le true T.data.toList
      rw [h0]
      congr 1
      omega
    show _ = _
    rw [← hbl, hb2, hTl, textOf_length _ hlo (by rw [list_size]; exact hhi)]
    unfold textOf
    rw [List.drop_take, List.drop_drop, show lo + (hi - lo - bd.size) = hi - bd.size by omega, show hi - lo - (hi - lo - bd.size) = bd.size by omega]
  rw [hdl, hbl, list_size] at HF
  obtain ⟨fr, hfr⟩ : ∃ k, hi - bd.size = k := ⟨_, rfl⟩
  have hwf : (hi : Int) - (bd.size : Int) = (fr : Int) := by omega
  rw [hfr] at HF HBD
  have hfz : fr + bd.size = hi := by omega
  have HFZ : Hid (fr + bd.size = hi) := hfz
  clear hhd hbd hTl hdl hbl IH hR hTs hm hr hb1 e1 hr1 z1 hh2 hfz hfr
  go_enter Tryz.func32, Tryz.ntmps32
  go_wp2_with fail
  refine cS.mono ?_
  clear cS
  rintro e W3 ⟨rfl, hb3⟩
  have zW3 := hb3.size
  have hR3 := rdP_below hR2 hb3
  have eR3 := (hb3.block w.heap.size (by omega)).trans eR
  have B3 : But w.heap.size rb w W3 := B2.trans (to_but (hb3.mono (by omega)))
  have hb4 : Below W3.heap.size W3 (W3.alloc (.cells #[.string ⟨#[]⟩, .string ⟨#[]⟩, .int .i64 (fr : Int), .int .i64 (hi : Int), .int .i64 0, .slice none 0 0] 25)) := (Below.refl _ _).alloc (Nat.le_refl _) _
  have e4 := heap_alloc_new W3 (.cells #[.string ⟨#[]⟩, .string ⟨#[]⟩, .int .i64 (fr : Int), .int .i64 (hi : Int), .int .i64 0, .slice none 0 0] 25)
  clear hW1 hW2 q1 f1 s0 s1 eR hR2 B2
  go_wp2_with fail
  obtain ⟨pb, hpbe⟩ : ∃ k, W3.heap.size = k := ⟨_, rfl⟩
  rw [hpbe] at hb4 e4 ⊢
  have z4 : pb < (W3.alloc (.cells #[.string ⟨#[]⟩, .string ⟨#[]⟩, .int .i64 (fr : Int), .int .i64 (hi : Int), .int .i64 0, .slice none 0 0] 25)).heap.size := by rw [World.size_alloc, hpbe]; omega
  go_loopw [61] (fun i wr => ∃ (k n : Nat), i = .int .i64 (k : Int) ∧ k ≤ bd.size ∧ n ≤ k ∧ Hid ((bd.data.toList.take k).count 10 = n) ∧ wr.heap[pb]? = some (.cells #[.string ⟨#[]⟩, .string ⟨#[]⟩, .int .i64 (fr : Int), .int .i64 (hi : Int), .int .i64 (n : Int), .slice none 0 0] 25 (0, 0)) ∧ Below pb W3 wr) (fun i _ => bd.size - (intOf i).toNat)
  case atStart => exact ⟨0, 0, rfl, by omega, by omega, rfl, e4, hb4⟩
  case round =>
    obtain ⟨k, n, rfl, hk, hnk, HC, eP, hbW⟩ := hrel
    by_cases hlt : k < bd.size
    · have hkl : k < bd.data.toList.length := by rw [list_size]; exact hlt
      have HCN : Hid ((bd.data.toList.take (k + 1)).count 10 = n + (if bd[k] = 10 then 1 else 0)) := by
        show _ = _
        rw [count_snoc hkl, HC.out]
        rfl
      by_cases h10 : bd[k] = 10
      · have hq : ((bd[k].toNat : Int) == 10) = true := by rw [h10]; rfl
        have u4 := rd_cell (j := 4) eP rfl
        have uf4 := rd_free eP 4
        have eP2 := rd_set (i := 4) (.int .i64 ((n : Int) + 1)) eP
        rw [if_pos h10] at HCN
        clear h10 HC
        go_wp2_with fail
        go_roundw
        case rel => exact ⟨k + 1, n + 1, by go_num, by omega, by omega, HCN.out, eP2, hbW.setCell (p := ⟨pb, 4, none⟩) (Nat.le_refl _) _⟩
        case measure => simp [intOf]; omega
      · have hq : ((bd[k].toNat : Int) == 10) = false := by
          rw [beq_eq_false_iff_ne]
          intro h
          exact h10 (UInt8.toNat_inj.1 (by show bd[k].toNat = 10; omega))
        rw [if_neg h10] at HCN
        clear h10 HC
        go_wp2_with fail
        go_roundw
        case rel => exact ⟨k + 1, n, by go_num, by omega, by omega, HCN.out, eP, hbW⟩
        case measure => simp [intOf]; omega
    · obtain rfl : k = bd.size := by omega
      have HCN : Hid (bd.data.toList.count 10 = n) := by
        have := HC.out
        rw [List.take_of_length_le (by rw [list_size]; omega)] at this
        exact this
      have hbW2 : Below W3.heap.size W3 wr := by rw [hpbe]; exact hbW
      have hR4 := rdP_below hR3 hbW2
      have eR4 := (hbW2.block w.heap.size (by omega)).trans eR3
      have B4 : But w.heap.size rb w wr := B3.trans (to_but (hbW2.mono (by omega)))
      have zW4 := hbW2.size
      have hpl4 : pb < wr.heap.size := (Array.getElem?_eq_some_iff.1 eP).1
      have hv4 := HV.out wr B4
      have cK := rkind_is hd1 m wr hds hv4.1 hv4.2.1 hv4.2.2
      obtain ⟨KK, hKK⟩ : ∃ k, kindOf hd1.data.toList = k := ⟨_, rfl⟩
      have HKL : Hid (KK.2.length ≤ 90001) := by
        have := kind_len hd1.data.toList
        rw [hKK, list_size] at this
        show _ ≤ _
        omega
      rw [hKK, HCN.out] at HF
      rw [hKK] at cK
      obtain ⟨k1, k2⟩ := KK
      simp only at cK HF HKL
      clear hR3 eR3 B3 hb3 hb4 e4 hKK HC hbW hv4
      go_wp2_with fail
      refine cK.mono ?_
      clear cK
      rintro e W5 ⟨⟨ty, bn, rfl, hty, hbn⟩, hb5⟩
      have hbz : bn.size ≤ 90001 := by
        rw [← list_size, hbn]
        exact HKL.out
      subst hty
      subst hbn
      have zW5 := hb5.size
      have hR5 := rdP_below hR4 hb5
      have eR5 := (hb5.block w.heap.size (by omega)).trans eR4
      have eP5 := (hb5.block pb hpl4).trans eP
      have B5 : But w.heap.size rb w W5 := B4.trans (to_but (hb5.mono (by omega)))
      have u0 := rd_cell (j := 0) eP5 rfl
      have uf0 := rd_free eP5 0
      have eP6 := rd_set (i := 0) (.string ty) eP5
      have u1 := rd_cell (j := 1) eP6 rfl
      have uf1 := rd_free eP6 1
      have eP7 := rd_set (i := 1) (.string bn) eP6
      clear hR4 eR4 B4 hb5 eP hbW2 HKL
      go_upto_region 13 with fail
      have hrp : rb ≠ pb := by omega
      have hRp : w.heap.size ≠ pb := by omega
      have hR7 : RdP ((W5.setCell ⟨pb, 0, none⟩ (.string ty)).setCell ⟨pb, 1, none⟩ (.string bn)) rb s (c + 1) := ((Below.heap_setCell _ _ _ _ hrp).trans (Below.heap_setCell _ _ _ _ hrp)).trans hR5
      have eR7 := ((Below.heap_setCell (W5.setCell ⟨pb, 0, none⟩ (.string ty)) ⟨pb, 1, none⟩ (.string bn) _ hRp).trans (Below.heap_setCell W5 ⟨pb, 0, none⟩ (.string ty) _ hRp)).trans eR5
      have B7 : But w.heap.size rb w ((W5.setCell ⟨pb, 0, none⟩ (.string ty)).setCell ⟨pb, 1, none⟩ (.string bn)) := B5.trans (to_but (((Below.refl _ W5).setCell (p := ⟨pb, 0, none⟩) (by show w.heap.size ≤ pb; omega) _).setCell (p := ⟨pb, 1, none⟩) (by show w.heap.size ≤ pb; omega) _))
      have zW7 : ((W5.setCell ⟨pb, 0, none⟩ (.string ty)).setCell ⟨pb, 1, none⟩ (.string bn)).heap.size = W5.heap.size := by simp
      generalize (W5.setCell ⟨pb, 0, none⟩ (.string ty)).setCell ⟨pb, 1, none⟩ (.string bn) = W7 at eP7 hR7 eR7 B7 zW7 ⊢
      replace eP7 : W7.heap[pb]? = some (.cells #[.string ty, .string bn, .int .i64 (fr : Int), .int .i64 (hi : Int), .int .i64 (n : Int), .slice none 0 0] 25 (0, 0)) := eP7
      clear u0 uf0 eP6 u1 uf1 eP5 hR5 eR5 B5
      have u0 := rd_cell (j := 0) eP7 rfl
      have u1 := rd_cell (j := 1) eP7 rfl
      have u2 := rd_cell (j := 2) eP7 rfl
      have u3 := rd_cell (j := 3) eP7 rfl
      have u4 := rd_cell (j := 4) eP7 rfl
      have u5 := rd_cell (j := 5) eP7 rfl
      by_cases hbe : bn.data.toList = []
      · obtain rfl : bn = ⟨#[]⟩ := text_ext hbe
        obtain ⟨⟨r0, r1, r2, r3, r4, r5⟩, ⟨rf0, rf1, rf2, rf3, rf4, rf5⟩, v0, v1, v2, v3, v4, v5⟩ := six_facts eR7 (.string ty) (.string ⟨#[]⟩) (.int .i64 (fr : Int)) (.int .i64 (hi : Int)) (.int .i64 (n : Int)) (.slice none 0 0)
        have HRR : Hid (R = (c + 1, some (.mk ty.data.toList [] fr hi n []))) := by
          show _ = _
          rw [← HR.out, HF.out, if_pos rfl]
        go_wp2_with fail
        refine bodyPost_ret (v := .tuple #[.agg #[.string ty, .string ⟨#[]⟩, .int .i64 (fr : Int), .int .i64 (hi : Int), .int .i64 (n : Int), .slice none 0 0], .bool true]) (by simp [results, Tryz.results32, go_sem, v0, v1, v2, v3, v4, v5]) rfl ?_
        rw [HRR.out]
        exact ⟨(six_other W7 (by omega) _ _ _ _ _ _).trans hR7, six_but B7 (Nat.le_refl _) _ _ _ _ _ _, Or.inr ⟨_, [.string ty, .string ⟨#[]⟩, .int .i64 (fr : Int), .int .i64 (hi : Int), .int .i64 (n : Int), .slice none 0 0], rfl, rfl, Six.mk ty ⟨#[]⟩ fr hi n [] none 0 (fun _ => []) (by simp) (Or.inl rfl)⟩⟩
      · have hv1 : ¬ bn.toList = [] := by rw [Lib.toList_data]; exact hbe
        have hv2 : bn.toList.isEmpty = false := by rw [Lib.toList_data]; exact empty_no hbe
        have HRR : Hid (R = match partsF (partF s.data.toList f) (shift fr (spans bd.size (45 :: 45 :: bn.data.toList) 0 none (pieces (bd.data.toList.drop 0)))) (c + 1) with
            | (c', none) => (c', none)
            | (c', some ps) => (c', some (.mk ty.data.toList bn.data.toList fr hi n ps))) := by
          show _ = _
          rw [← HR.out, HF.out, if_neg hbe, insideOf, list_size, List.drop_zero]
          rfl
        obtain ⟨Q, hQ⟩ : ∃ Q, partsF (partF s.data.toList f) (shift fr (spans bd.size (45 :: 45 :: bn.data.toList) 0 none (pieces (bd.data.toList.drop 0)))) (c + 1) = Q := ⟨_, rfl⟩
        rw [hQ] at HRR
        have HQ0 : Hid (addP [] (partsF (partF s.data.toList f) (shift fr (spans bd.size (45 :: 45 :: bn.data.toList) 0 none (pieces (bd.data.toList.drop 0)))) (c + 1)) = Q) := by show _ = _; rw [addP_nil]; exact hQ
        have hG0 : Grow W7.heap.size pb ty bn fr hi n [] none 0 W7 := Grow.none eP7
        clear hQ HF hbe
        go_wp2_with fail
        clear u0 u1 u2 u3 u4 u5 eP7 hv1 hv2
        go_loopw [14, 15] (fun bgv atv wr => ∃ (pl AT c' : Nat) (bz : Int) (bg : Option Nat) (ps : List Mm.Pt) (va : Option Addr) (vc : Nat), bgv = .int .i64 bz ∧ atv = .int .i64 (AT : Int) ∧ Hid (AT = pl + fr ∧ bz = begV fr bg) ∧ pl ≤ bd.size ∧ Hid (∀ b, bg = some b → b ≤ pl) ∧ c' ≤ 30 ∧ ps.length ≤ c' ∧
            Hid (addP ps (partsF (partF s.data.toList f) (shift fr (spans bd.size (45 :: 45 :: bn.data.toList) pl bg (pieces (bd.data.toList.drop pl)))) c') = Q) ∧ Hid (RdP wr rb s c' ∧ Grow W7.heap.size pb ty bn fr hi n ps va vc wr ∧ Frm W7.heap.size (fun q => q = rb ∨ q = pb) W7 wr)) (fun _ atv _ => hi - (intOf atv).toNat)
        case atStart => exact ⟨0, fr, c + 1, -1, none, [], none, 0, rfl, rfl, ⟨(Nat.zero_add fr).symm, rfl⟩, by omega, (fun b h => by cases h), hc, Nat.zero_le _, HQ0.out, ⟨hR7, hG0, Frm.refl _ _ _⟩⟩
        case round =>
          obtain ⟨pl, AT, c', bz, bg, ps, va, vc, rfl, rfl, HAT, hpl, HBG, hc', hpsl, HQ, HW⟩ := hrel
          have hAT := HAT.out.1
          obtain ⟨hRr, hGr, hfrm⟩ := HW.out
          have zwr := hfrm.size
          have hfz := HFZ.out
          have Br : But w.heap.size rb w wr := B7.trans ⟨hfrm.os, hfrm.tape, hfrm.output, hfrm.size, fun q hq hqr => hfrm.block q (by omega) (by omega)⟩
          have p0 : wr.cell? ⟨rb, 0, none⟩ = some (.string s) := rd_cell hRr rfl
          have p1 : wr.cell? ⟨pb, 1, none⟩ = some (.string bn) := rd_cell hGr.1 rfl
          by_cases hlt : pl < bd.size
          · have i3 : (AT : Int) < (hi : Int) := by omega
            have i4 : (AT : Int) ≤ (hi : Int) := by omega
            have i5 : (0 : Int) ≤ (AT : Int) := by omega
            have i8 : (AT : Int) ≤ 90000 := by omega
            obtain ⟨L0, hL0⟩ : ∃ t : ByteArray, s.extract AT hi = t := ⟨_, rfl⟩
            have hL0l : L0.data.toList = bd.data.toList.drop pl := by
              rw [← hL0, hAT, extract_text]
              exact rest_is (by rw [list_size]; exact HBD.out) (by rw [list_size]; exact hpl) (by rw [list_size]; exact hfz)
            have hL0z : L0.size = bd.size - pl := by rw [← list_size, hL0l, List.length_drop, list_size]
            have cI := Tryz.strings_Index L0 ⟨#[13, 10]⟩ m wr (by omega) (HV.out wr Br).1
            rw [hL0l, show (⟨#[13, 10]⟩ : ByteArray).data.toList = [13, 10] from rfl] at cI
            have hsp := spans_at (bd := bn.data.toList) (place := pl) bg (by rw [list_size]; exact hlt)
            have hnx := nextAt_le (body := bd.data.toList) (place := pl) (by rw [list_size]; exact hlt)
            rw [list_size] at hsp hnx
            obtain ⟨NX, hNX⟩ : ∃ k, nextAt bd.size pl (bd.data.toList.drop pl) = k := ⟨_, rfl⟩
            obtain ⟨LN, hLN⟩ : ∃ t : ByteArray, (⟨(lineAt (bd.data.toList.drop pl)).toArray⟩ : ByteArray) = t := ⟨_, rfl⟩
            have hLNl : LN.data.toList = lineAt (bd.data.toList.drop pl) := by rw [← hLN]
            rw [hNX, ← hLNl] at hsp
            rw [hNX] at hnx
            have hge := Lib.index_ge (bd.data.toList.drop pl) [13, 10]
            have hro := Lib.index_room (bd.data.toList.drop pl) [13, 10]
            rw [List.length_drop, list_size, show ([13, 10] : Tx).length = 2 from rfl] at hro
            have HLN : Hid ((Lib.index (bd.data.toList.drop pl) [13, 10] = -1 → LN = L0 ∧ NX = bd.size) ∧ (∀ q : Nat, Lib.index (bd.data.toList.drop pl) [13, 10] = q → LN = L0.extract 0 q ∧ NX = pl + q + 2)) := by
              refine ⟨fun h => ⟨text_ext ?_, ?_⟩, fun q h => ⟨text_ext ?_, ?_⟩⟩
              · rw [hLNl, lineAt, if_pos h, hL0l]
              · rw [← hNX, nextAt, if_pos h]
              · rw [hLNl, lineAt, if_neg (by omega), h, extract_text, hL0l]; rfl
              · rw [← hNX, nextAt, if_neg (by omega), h]; rfl
            obtain ⟨z, hz⟩ : ∃ z, Lib.index (bd.data.toList.drop pl) [13, 10] = z := ⟨_, rfl⟩
            rw [hz] at HLN hge hro cI
            have HSP : Hid (spans bd.size (45 :: 45 :: bn.data.toList) pl bg (pieces (bd.data.toList.drop pl)) = if rtrim LN.data.toList = 45 :: 45 :: bn.data.toList then close bg (pl - 2) ++ spans bd.size (45 :: 45 :: bn.data.toList) NX (some NX) (pieces (bd.data.toList.drop NX))
              else if rtrim LN.data.toList = (45 :: 45 :: bn.data.toList) ++ [45, 45] then close bg (pl - 2) else spans bd.size (45 :: 45 :: bn.data.toList) NX bg (pieces (bd.data.toList.drop NX))) := hsp
            have hLNz : LN.size ≤ 90000 := by
              rw [← list_size, hLNl]
              unfold lineAt
              split
              · rw [List.length_drop, list_size]; omega
              · rw [List.length_take, List.length_drop, list_size]; omega
            obtain ⟨NF, hNF⟩ : ∃ k, NX + fr = k := ⟨_, rfl⟩
            have HNF : Hid (NF = NX + fr) := hNF.symm
            have hNFz : NF ≤ hi := by omega
            have hATN : AT < NF := by omega
            have hz2 : z ≤ 90000 := by omega
            clear hL0l hsp hNX hLN hLNl hz hNF hAT hfz
            go_wp2_with fail
            refine cI.mono ?_
            clear cI
            rintro e w8 ⟨rfl, hw8⟩
            obtain rfl : wr = w8 := hw8.symm
            go_upto_if 100 with fail
            go_cut [16, 17] (fun nv lv wx => nv = .int .i64 (NF : Int) ∧ lv = .string LN ∧ wx = wr)
            case first =>
              by_cases hz1 : z = -1
              · subst hz1
                obtain ⟨rfl, rfl⟩ := HLN.out.1 rfl
                go_wp2_with fail
                go_meet
                case rel => exact ⟨by rw [HNF.out, show bd.size + fr = hi by have := HFZ.out; omega], rfl, rfl⟩
              · obtain ⟨q, rfl⟩ : ∃ q : Nat, z = q := ⟨z.toNat, by omega⟩
                obtain ⟨h1, h2⟩ := HLN.out.2 q rfl
                subst h1 h2
                have i6 : (0 : Int) ≤ (q : Int) := by omega
                have i7 : (q : Int) ≤ (L0.size : Int) := by omega
                go_wp2_with fail
                go_meet
                case rel => exact ⟨by congr 1; have h1 := HNF.out; have h2 := HAT.out.1; omega, rfl, rfl⟩
            case rest =>
              obtain ⟨rfl, rfl, hwx⟩ := hcut
              rename World => Wc
              obtain rfl : wr = Wc := hwx.symm
              clear hwx HLN hge hro hL0 hL0z hz2
              obtain ⟨TB, hTB⟩ : ∃ t : ByteArray, (⟨(rtrim LN.data.toList).toArray⟩ : ByteArray) = t := ⟨_, rfl⟩
              have HTB : Hid (rtrim LN.data.toList = TB.data.toList) := by show _ = _; rw [← hTB]
              have hTBz : TB.size ≤ 90000 := by
                rw [← list_size, ← HTB.out]
                have := rtrim_len LN.data.toList
                rw [list_size] at this
                omega
              clear hTB
              go_upto_block 4 with fail
              go_cut [17] (fun lv wx => lv = .string TB ∧ wx = wr)
              case first =>
                go_wp2_with fail
                go_loopw [17] (fun v wx => ∃ u : ByteArray, v = .string u ∧ u.size ≤ 90000 ∧ Hid (rtrim u.data.toList = TB.data.toList) ∧ wx = wr) (fun v _ => strLen v)
                case atStart => exact ⟨LN, rfl, hLNz, HTB.out, rfl⟩
                case round =>
                  obtain ⟨u, rfl, hu, HU, hw⟩ := hrel
                  rename World => Wy
                  obtain rfl : wr = Wy := hw.symm
                  have hl := list_size u
                  by_cases h0 : u.data.toList = []
                  · obtain rfl : u = ⟨#[]⟩ := text_ext h0
                    obtain rfl : TB = ⟨#[]⟩ := text_ext HU.out.symm
                    clear h0 hl
                    go_wp2_with fail
                    go_meet
                    case rel => exact ⟨rfl, rfl⟩
                  · have hv1 : ¬ u.toList = [] := by rw [Lib.toList_data]; exact h0
                    have hv2 : u.toList.isEmpty = false := by rw [Lib.toList_data]; exact empty_no h0
                    have hpos : 0 < u.size := size_pos h0
                    have h1 : u.size - 1 < u.size := by omega
                    have hsnoc := snoc_of u hpos h1
                    generalize hcc : u[u.size - 1] = c1 at hsnoc
                    have HC : Hid (u.data.toList = (u.extract 0 (u.size - 1)).data.toList ++ [c1]) := hsnoc
                    have cB := rblank_is c1 wr
                    have hr9 : (u.extract 0 (u.size - 1)).size < u.size := by rw [Lib.size_eq, Lib.extract_from_zero, List.length_take, hl]; omega
                    clear h0 hsnoc
                    obtain ⟨b, hb⟩ : ∃ b, blk c1 = b := ⟨_, rfl⟩
                    rw [hb] at cB
                    have HB : Hid (blk c1 = b) := hb
                    clear hb
                    go_wp2_with fail
                    refine cB.mono ?_
                    clear cB
                    rintro e w9 ⟨rfl, hw9⟩
                    obtain rfl : wr = w9 := hw9.symm
                    cases b
                    · obtain rfl : TB = u := by
                        refine text_ext ?_
                        rw [← HU.out]
                        refine rtrim_of fun d hd => ?_
                        rw [HC.out, List.getLast?_concat] at hd
                        cases hd
                        exact HB.out
                      go_wp2_with fail
                      go_meet
                      case rel => exact ⟨rfl, rfl⟩
                    · go_wp2_with fail
                      go_roundw
                      case rel =>
                        refine ⟨_, rfl, by omega, ?_, trivial⟩
                        show _ = _
                        rw [← HU.out, HC.out, rtrim_last HB.out]
                      case measure => simpa [strLen] using hr9
              case rest =>
                obtain ⟨rfl, hwx⟩ := hcut
                rename World => Wc
                obtain rfl : wr = Wc := hwx.symm
                clear hwx
                obtain ⟨MK, hMK⟩ : ∃ t : ByteArray, (⟨#[45, 45]⟩ ++ bn : ByteArray) = t := ⟨_, rfl⟩
                obtain ⟨ML, hML⟩ : ∃ t : ByteArray, (MK ++ ⟨#[45, 45]⟩ : ByteArray) = t := ⟨_, rfl⟩
                have hMKl : MK.data.toList = 45 :: 45 :: bn.data.toList := by rw [← hMK, cat_list]; rfl
                have hMLl : ML.data.toList = (45 :: 45 :: bn.data.toList) ++ [45, 45] := by rw [← hML, cat_list, hMKl]
                have hMKz : MK.size ≤ 90003 := by rw [← hMK, cat_size]; show 2 + bn.size ≤ _; omega
                have y1 : (9223372036854775807 < 2 + bn.size) = False := eq_false (by omega)
                have y2 : (9223372036854775807 < MK.size + 2) = False := eq_false (by omega)
                have HX : Hid ((TB = MK → rtrim LN.data.toList = 45 :: 45 :: bn.data.toList) ∧ (TB = ML → rtrim LN.data.toList = (45 :: 45 :: bn.data.toList) ++ [45, 45]) ∧ (rtrim LN.data.toList = 45 :: 45 :: bn.data.toList → TB = MK) ∧ (rtrim LN.data.toList = (45 :: 45 :: bn.data.toList) ++ [45, 45] → TB = ML)) := by
                  refine ⟨fun h => ?_, fun h => ?_, fun h => text_ext ?_, fun h => text_ext ?_⟩
                  · rw [HTB.out, h, hMKl]
                  · rw [HTB.out, h, hMLl]
                  · rw [← HTB.out, h, hMKl]
                  · rw [← HTB.out, h, hMLl]
                clear hMKl hMLl
                obtain ⟨last, hlast⟩ : ∃ b, decide (TB = ML) = b := ⟨_, rfl⟩
                obtain ⟨hit, hhit⟩ : ∃ b, (decide (TB = ML) || decide (TB = MK)) = b := ⟨_, rfl⟩
                have HL : Hid (decide (TB = ML) = last ∧ (decide (TB = ML) || decide (TB = MK)) = hit) := ⟨hlast, hhit⟩
                clear hlast hhit
                go_upto_region 25 with fail
                go_cut [19] (fun lv wx => lv = .bool last ∧ wx = wr)
                case first =>
                  by_cases h1 : TB = ML
                  · obtain rfl : last = true := by rw [← HL.out.1, decide_eq_true h1]
                    subst h1
                    go_wp2_with fail
                    go_meet
                    case rel => exact ⟨rfl, rfl⟩
                  · obtain rfl : last = false := by rw [← HL.out.1, decide_eq_false h1]
                    have h2 : (TB.toList == ML.toList) = false := by rw [Lib.toList_data, Lib.toList_data, beq_eq_false_iff_ne]; exact fun h => h1 (text_ext h)
                    go_wp2_with fail
                    go_meet
                    case rel => exact ⟨rfl, rfl⟩
                case rest =>
                  obtain ⟨rfl, hwx⟩ := hcut
                  rename World => Wc
                  obtain rfl : wr = Wc := hwx.symm
                  clear hwx
                  go_upto_region 26 with fail
                  go_cut [136] (fun lv wx => lv = .bool hit ∧ wx = wr)
                  case first =>
                    by_cases h1 : TB = ML
                    · obtain rfl : last = true := by rw [← HL.out.1, decide_eq_true h1]
                      obtain rfl : hit = true := by rw [← HL.out.2, decide_eq_true h1]; rfl
                      clear h1
                      go_wp2_with fail
                      go_meet
                      case rel => exact ⟨rfl, rfl⟩
                    · obtain rfl : last = false := by rw [← HL.out.1, decide_eq_false h1]
                      by_cases h2 : TB = MK
                      · obtain rfl : hit = true := by rw [← HL.out.2, decide_eq_true h2, Bool.or_true]
                        subst h2
                        clear h1
                        go_wp2_with fail
                        go_meet
                        case rel => exact ⟨rfl, rfl⟩
                      · obtain rfl : hit = false := by rw [← HL.out.2, decide_eq_false h1, decide_eq_false h2]; rfl
                        have h3 : (TB.toList == MK.toList) = false := by rw [Lib.toList_data, Lib.toList_data, beq_eq_false_iff_ne]; exact fun h => h2 (text_ext h)
                        clear h1
                        go_wp2_with fail
                        go_meet
                        case rel => exact ⟨rfl, rfl⟩
                  case rest =>
                    obtain ⟨rfl, hwx⟩ := hcut
                    rename World => Wc
                    obtain rfl : wr = Wc := hwx.symm
                    clear hwx hMK hML y1 y2 hMKz
                    have HSN : Hid (hit = false → spans bd.size (45 :: 45 :: bn.data.toList) pl bg (pieces (bd.data.toList.drop pl)) = spans bd.size (45 :: 45 :: bn.data.toList) NX bg (pieces (bd.data.toList.drop NX))) := by
                      intro h
                      rw [← HL.out.2, Bool.or_eq_false_iff] at h
                      rw [HSP.out, if_neg (fun e => of_decide_eq_false h.2 (HX.out.2.2.1 e)), if_neg (fun e => of_decide_eq_false h.1 (HX.out.2.2.2 e))]
                    have HSY : Hid (hit = true → spans bd.size (45 :: 45 :: bn.data.toList) pl bg (pieces (bd.data.toList.drop pl)) = close bg (pl - 2) ++ (if last then [] else spans bd.size (45 :: 45 :: bn.data.toList) NX (some NX) (pieces (bd.data.toList.drop NX)))) := by
                      intro h
                      rw [← HL.out.2, Bool.or_eq_true] at h
                      by_cases h1 : TB = ML
                      · obtain rfl : last = true := by rw [← HL.out.1, decide_eq_true h1]
                        have h2 := HX.out.2.1 h1
                        rw [HSP.out, if_neg (by rw [h2]; intro e; have := congrArg List.length e; simp at this), if_pos h2]
                        simp
                      · obtain rfl : last = false := by rw [← HL.out.1, decide_eq_false h1]
                        have h2 : TB = MK := by rcases h with h | h
                                                · exact absurd (of_decide_eq_true h) h1
                                                · exact of_decide_eq_true h
                        rw [HSP.out, if_pos (HX.out.1 h2)]
                        rfl
                    clear HL HX HSP HTB
                    cases hit
                    · have HQN : Hid (addP ps (partsF (partF s.data.toList f) (shift fr (spans bd.size (45 :: 45 :: bn.data.toList) NX bg (pieces (bd.data.toList.drop NX)))) c') = Q) := by
                        have := HQ.out
                        rw [HSN.out rfl] at this
                        exact this
                      clear HSN HSY HQ
                      go_wp2_with fail
                      go_roundw
                      case rel => exact ⟨NX, NF, c', bz, bg, ps, va, vc, rfl, rfl, ⟨HNF.out, HAT.out.2⟩, hnx.2, (fun b h => by have := HBG.out b h; omega), hc', hpsl, HQN.out, HW.out⟩
                      case measure => simp [intOf]; omega
                    · have HQY : Hid (addP ps (partsF (partF s.data.toList f) (shift fr (close bg (pl - 2) ++ (if last then [] else spans bd.size (45 :: 45 :: bn.data.toList) NX (some NX) (pieces (bd.data.toList.drop NX))))) c') = Q) := by
                        have := HQ.out
                        rw [HSY.out rfl] at this
                        exact this
                      obtain ⟨TAIL, hTAIL⟩ : ∃ L, (if last then [] else spans bd.size (45 :: 45 :: bn.data.toList) NX (some NX) (pieces (bd.data.toList.drop NX))) = L := ⟨_, rfl⟩
                      rw [hTAIL] at HQY
                      have HTL : Hid ((if last then [] else spans bd.size (45 :: 45 :: bn.data.toList) NX (some NX) (pieces (bd.data.toList.drop NX))) = TAIL) := hTAIL
                      clear HSN HSY HQ hTAIL
                      go_upto_if 138 with fail
                      go_cut [] (fun wx => ∃ (c2 : Nat) (ps2 : List Mm.Pt) (va2 : Option Addr) (vc2 : Nat), c2 ≤ 30 ∧ ps2.length ≤ c2 ∧ Hid (addP ps2 (partsF (partF s.data.toList f) (shift fr TAIL) c2) = Q) ∧ Hid (RdP wx rb s c2 ∧ Grow W7.heap.size pb ty bn fr hi n ps2 va2 vc2 wx ∧ Frm W7.heap.size (fun q => q = rb ∨ q = pb) W7 wx))
                      case first =>
                        cases bg with
                        | none =>
                          obtain rfl : bz = -1 := HAT.out.2
                          go_wp2_with fail
                          go_meet
                          case rel => exact ⟨c', ps, va, vc, hc', hpsl, HQY.out, HW.out⟩
                        | some b =>
                          have hbpl := HBG.out b rfl
                          obtain ⟨BF, hBF⟩ : ∃ k, b + fr = k := ⟨_, rfl⟩
                          obtain ⟨YF, hYF⟩ : ∃ k, max b (pl - 2) + fr = k := ⟨_, rfl⟩
                          obtain rfl : bz = (BF : Int) := by rw [HAT.out.2, ← hBF]; rfl
                          have HQC : Hid (addP ps (partsF (partF s.data.toList f) ((BF, YF) :: shift fr TAIL) c') = Q) := by
                            have := HQY.out
                            rw [close, List.singleton_append, shift, List.map_cons, hBF, hYF] at this
                            exact this
                          have hATe := HAT.out.1
                          have hBY : BF ≤ YF := by omega
                          have hYs : YF ≤ s.size := by have := HFZ.out; omega
                          have hBh : BF ≤ 90000 := by omega
                          have hfzz := HFZ.out
                          have HYF : Hid (((AT : Int) - 2 < (BF : Int) → YF = BF) ∧ (¬ ((AT : Int) - 2 < (BF : Int)) → (AT : Int) - 2 = (YF : Int))) := ⟨fun h => by omega, fun h => by omega⟩
                          have hb0 : (0 : Int) ≤ (BF : Int) := by omega
                          clear hBF hYF HQY HTL hATe hfzz
                          go_upto_if 143 with fail
                          go_cut [20] (fun v wx => v = .int .i64 (YF : Int) ∧ wx = wr)
                          case first =>
                            by_cases hle : (AT : Int) - 2 < (BF : Int)
                            · have hy := HYF.out.1 hle
                              go_wp2_with fail
                              go_meet
                              case rel => exact ⟨by rw [hy], rfl⟩
                            · have hy := HYF.out.2 hle
                              go_wp2_with fail
                              go_meet
                              case rel => exact ⟨by first | rfl | (rw [← hy]) | (congr 1), rfl⟩
                          case rest =>
                            obtain ⟨rfl, hwx⟩ := hcut
                            rename World => Wc
                            obtain rfl : wr = Wc := hwx.symm
                            clear hwx HYF
                            have cP := HIH.out BF YF c' (depth + 1) wr (by omega) hBY hYs hc' hRr (HV.out wr Br)
                            have hcnt := partF_count s.data.toList f BF YF c' hc'
                            obtain ⟨P, hP⟩ : ∃ P, partF s.data.toList f BF YF c' = P := ⟨_, rfl⟩
                            rw [hP] at cP hcnt
                            have HPF : Hid (partF s.data.toList f BF YF c' = P) := hP
                            clear hP p0 p1
                            go_wp2_with fail
                            refine cP.mono ?_
                            clear cP
                            rintro e w10 ⟨hR10, B10, hcase⟩
                            have z10 := B10.size
                            have hfar : ∀ q, q < wr.heap.size → q ≠ rb → w10.heap[q]? = wr.heap[q]? := fun q hq hqr => B10.block q hq hqr
                            have hos : w10.os = wr.os ∧ w10.tape = wr.tape ∧ w10.output = wr.output := ⟨B10.os, B10.tape, B10.output⟩
                            have hpbr : pb < wr.heap.size := by omega
                            rcases hcase with ⟨hn, rfl⟩ | ⟨p, xs, hp, rfl, hsix⟩
                            · have HRN : Hid (R = (P.1, none)) := by
                                show _ = _
                                obtain ⟨P1, P2⟩ := P
                                obtain rfl : P2 = none := hn
                                rw [HRR.out, ← HQC.out, partsF_none HPF.out]
                                rfl
                              have hz6 : zeroSix.toArray = #[.string ⟨#[]⟩, .string ⟨#[]⟩, .int .i64 0, .int .i64 0, .int .i64 0, .slice none 0 0] := rfl
                              rw [hz6]
                              have hbB : Below w10.heap.size w10 (w10.alloc (.cells #[.string ⟨#[]⟩, .string ⟨#[]⟩, .int .i64 0, .int .i64 0, .int .i64 0, .slice none 0 0] 25)) := (Below.refl _ _).alloc (Nat.le_refl _) _
                              have e11 := heap_alloc_new w10 (.cells #[.string ⟨#[]⟩, .string ⟨#[]⟩, .int .i64 0, .int .i64 0, .int .i64 0, .slice none 0 0] 25)
                              have eRr : wr.heap[w.heap.size]? = some (.cells #[.string ⟨#[]⟩, .string ⟨#[]⟩, .int .i64 0, .int .i64 0, .int .i64 0, .slice none 0 0] 25 (0, 0)) := (hfrm.block w.heap.size (by omega) (by omega)).trans eR7
                              have eR11 := (hbB.block w.heap.size (by omega)).trans ((hfar w.heap.size (by omega) (by omega)).trans eRr)
                              have hR11 := rdP_below hR10 hbB
                              have B11 : But w.heap.size rb w (w10.alloc (.cells #[.string ⟨#[]⟩, .string ⟨#[]⟩, .int .i64 0, .int .i64 0, .int .i64 0, .slice none 0 0] 25)) := (Br.trans ⟨B10.os, B10.tape, B10.output, B10.size, fun q hq hqr => B10.block q (by omega) hqr⟩).trans (to_but (hbB.mono (by omega)))
                              have t0 := rd_cell (j := 0) e11 rfl
                              have t1 := rd_cell (j := 1) e11 rfl
                              have t2 := rd_cell (j := 2) e11 rfl
                              have t3 := rd_cell (j := 3) e11 rfl
                              have t4 := rd_cell (j := 4) e11 rfl
                              have t5 := rd_cell (j := 5) e11 rfl
                              obtain ⟨⟨r0, r1, r2, r3, r4, r5⟩, ⟨rf0, rf1, rf2, rf3, rf4, rf5⟩, v0, v1, v2, v3, v4, v5⟩ := six_facts eR11 (.string ⟨#[]⟩) (.string ⟨#[]⟩) (.int .i64 0) (.int .i64 0) (.int .i64 0) (.slice none 0 0)
                              clear hbB eRr hfar hz6 e11 HQC HW hGr
                              go_wp2_with fail
                              refine bodyPost_ret (v := .tuple #[.agg #[.string ⟨#[]⟩, .string ⟨#[]⟩, .int .i64 0, .int .i64 0, .int .i64 0, .slice none 0 0], .bool false]) (by simp [results, Tryz.results32, go_sem, v0, v1, v2, v3, v4, v5]) rfl ?_
                              rw [HRN.out]
                              exact ⟨(six_other _ (by omega) _ _ _ _ _ _).trans hR11, six_but B11 (Nat.le_refl _) _ _ _ _ _ _, Or.inl ⟨rfl, rfl⟩⟩
                            · obtain ⟨tb, bb, l1, h1, n1, a1, k1, cc1, rfl⟩ := six_cells hsix
                              have HC30 : Hid (P.1 ≤ 30 ∧ (ps ++ [p]).length ≤ P.1) := by
                                have h9 := hcnt p hp
                                have := countP_pos p
                                exact ⟨h9.2, by rw [List.length_append]; show ps.length + 1 ≤ _; omega⟩
                              have HQ3 : Hid (addP (ps ++ [p]) (partsF (partF s.data.toList f) (shift fr TAIL) P.1) = Q) := by
                                show _ = _
                                obtain ⟨P1, P2⟩ := P
                                obtain rfl : P2 = some p := hp
                                rw [← HQC.out, partsF_some HPF.out, addP_add]
                              have hG10 : Grow W7.heap.size pb ty bn fr hi n ps va vc w10 := hGr.kept (hfar pb hpbr (by omega)) (fun q hq hlt9 => hfar q hlt9 (by omega))
                              obtain ⟨ePB10, rows, hrl9, hrow10, hsx10, h610⟩ := hG10
                              have HVL : Hid (∀ q, (Value.slice va ps.length vc).ownBlock = some q → q < wr.heap.size) := by
                                obtain ⟨_, rows', _, hrow', _⟩ := hGr
                                exact fun q hq => (hrow'.lt q hq).2
                              have HSX : Hid ((∀ (j : Nat) p xs, ps[j]? = some p → rows[j]? = some xs → Six w10 (fun q => W7.heap.size ≤ q ∧ (Value.slice va ps.length vc).ownBlock ≠ some q) p xs) ∧ (∀ xs ∈ rows, xs.length = 6) ∧ rows.length = ps.length) := ⟨hsx10, h610, hrl9⟩
                              have HNB : Hid (∀ q, q < W7.heap.size → some q ≠ (Value.slice va ps.length vc).ownBlock) := fun q hq e => by have := (hrow10.lt q e.symm).1; omega
                              have HSIX : Hid (Six w10 (fun q => wr.heap.size ≤ q) p [.string tb, .string bb, .int .i64 (l1 : Int), .int .i64 (h1 : Int), .int .i64 (n1 : Int), .slice a1 k1 cc1]) := hsix
                              obtain ⟨K, hK⟩ : ∃ K, ps.length = K := ⟨_, rfl⟩
                              have HK : Hid (ps.length = K) := hK
                              have hk31 : K ≤ 30 := by omega
                              rw [hK] at ePB10 hrow10
                              have HNBK : Hid (∀ q, q < W7.heap.size → some q ≠ (Value.slice va K vc).ownBlock) := by have := HNB.out; rw [hK] at this; exact this
                              clear hK hsx10 h610 hrl9 hsix hGr HW
                              have hbB : Below w10.heap.size w10 (w10.alloc (.cells #[.string tb, .string bb, .int .i64 (l1 : Int), .int .i64 (h1 : Int), .int .i64 (n1 : Int), .slice a1 k1 cc1] 25)) := (Below.refl _ _).alloc (Nat.le_refl _) _
                              have hrow11 := hrow10.alloc (.cells #[.string tb, .string bb, .int .i64 (l1 : Int), .int .i64 (h1 : Int), .int .i64 (n1 : Int), .slice a1 k1 cc1] 25)
                              have e11 := heap_alloc_new w10 (.cells #[.string tb, .string bb, .int .i64 (l1 : Int), .int .i64 (h1 : Int), .int .i64 (n1 : Int), .slice a1 k1 cc1] 25)
                              have ePB11 := (hbB.block pb (by omega)).trans ePB10
                              have hR11 := rdP_below hR10 hbB
                              have z11 : (w10.alloc (.cells #[.string tb, .string bb, .int .i64 (l1 : Int), .int .i64 (h1 : Int), .int .i64 (n1 : Int), .slice a1 k1 cc1] 25)).heap.size = w10.heap.size + 1 := by simp
                              have u5 := rd_cell (j := 5) ePB11 rfl
                              have t0 := rd_cell (j := 0) e11 rfl
                              have t1 := rd_cell (j := 1) e11 rfl
                              have t2 := rd_cell (j := 2) e11 rfl
                              have t3 := rd_cell (j := 3) e11 rfl
                              have t4 := rd_cell (j := 4) e11 rfl
                              have t5 := rd_cell (j := 5) e11 rfl
                              have hnews : ∀ (i : Nat) (u : Value), [.string tb, .string bb, .int .i64 (l1 : Int), .int .i64 (h1 : Int), .int .i64 (n1 : Int), .slice a1 k1 cc1][i]? = some u → ((w10.alloc (.cells #[.string tb, .string bb, .int .i64 (l1 : Int), .int .i64 (h1 : Int), .int .i64 (n1 : Int), .slice a1 k1 cc1] 25)).alloc (.cells #[.string tb, .string bb, .int .i64 (l1 : Int), .int .i64 (h1 : Int), .int .i64 (n1 : Int), .slice a1 k1 cc1] 25)).cell? (Addr.add ⟨w10.heap.size + 1, 0, none⟩ i) = some u := by
                                have := World.news_of_block (heap_alloc_new (w10.alloc (.cells #[.string tb, .string bb, .int .i64 (l1 : Int), .int .i64 (h1 : Int), .int .i64 (n1 : Int), .slice a1 k1 cc1] 25)) (.cells #[.string tb, .string bb, .int .i64 (l1 : Int), .int .i64 (h1 : Int), .int .i64 (n1 : Int), .slice a1 k1 cc1] 25))
                                rw [z11] at this
                                exact this
                              have hbC : Below (w10.alloc (.cells #[.string tb, .string bb, .int .i64 (l1 : Int), .int .i64 (h1 : Int), .int .i64 (n1 : Int), .slice a1 k1 cc1] 25)).heap.size (w10.alloc (.cells #[.string tb, .string bb, .int .i64 (l1 : Int), .int .i64 (h1 : Int), .int .i64 (n1 : Int), .slice a1 k1 cc1] 25)) ((w10.alloc (.cells #[.string tb, .string bb, .int .i64 (l1 : Int), .int .i64 (h1 : Int), .int .i64 (n1 : Int), .slice a1 k1 cc1] 25)).alloc (.cells #[.string tb, .string bb, .int .i64 (l1 : Int), .int .i64 (h1 : Int), .int .i64 (n1 : Int), .slice a1 k1 cc1] 25)) := (Below.refl _ _).alloc (Nat.le_refl _) _
                              have hbBC : Below w10.heap.size w10 ((w10.alloc (.cells #[.string tb, .string bb, .int .i64 (l1 : Int), .int .i64 (h1 : Int), .int .i64 (n1 : Int), .slice a1 k1 cc1] 25)).alloc (.cells #[.string tb, .string bb, .int .i64 (l1 : Int), .int .i64 (h1 : Int), .int .i64 (n1 : Int), .slice a1 k1 cc1] 25)) := hbB.trans (hbC.mono (by omega))
                              have ePB12 := (hbC.block pb (by omega)).trans ePB11
                              have hR12 := rdP_below hR11 hbC
                              have hz7 : W7.heap.size ≤ w10.heap.size + 2 := by omega
                              have htx : ([.string tb, .string bb, .int .i64 (l1 : Int), .int .i64 (h1 : Int), .int .i64 (n1 : Int), .slice a1 k1 cc1] : List Value).toArray = #[.string tb, .string bb, .int .i64 (l1 : Int), .int .i64 (h1 : Int), .int .i64 (n1 : Int), .slice a1 k1 cc1] := rfl
                              rw [htx]
                              clear hcnt hrow10 htx
                              go_wp2_with (at_builtin; go_must (refine wpList_append_lies _ rfl (.tmp 158) (.tmp 160) 23 rfl W7.heap.size 25 j0 (.agg #[.string ⟨#[]⟩, .string ⟨#[]⟩, .int .i64 0, .int .i64 0, .int .i64 0, .slice none 0 0]) 6 80 Tryz.underlying23 hj hjz0 hjz1 hjz2 rfl (by decide) _ _ _ (by rfl) (hrow11.alloc _) ⟨w10.heap.size + 1, 0, none⟩ 1 1 [.string tb, .string bb, .int .i64 (l1 : Int), .int .i64 (h1 : Int), .int .i64 (n1 : Int), .slice a1 k1 cc1] (by rfl) rfl hnews (by simp [Value.oneCell']) (by decide) (by unfold maxLen; omega) (by omega) (by simp; omega) _ rfl ?_); intro g13 cap13 w13 hown13 hg13 hor13 hlt13; have ePB13 := (hg13.block pb (by simp; omega) (HNBK.out pb (by omega))).trans ePB12; have y5 := rd_cell (j := 5) ePB13 rfl; have yf5 := rd_free ePB13 5)
                              have hpb7 : pb < W7.heap.size := by omega
                              have hgp := grow_push (ps := ps) (va := va) (vc := vc) (ty := ty) (bn := bn) (fr := fr) (hi := hi) (cn := n) (p := p) HSX.out.2.2 HSX.out.1 HSX.out.2.1 hpb7 zwr HVL.out HSIX.out hbBC (by rw [HK.out]; exact hown13) (by rw [HK.out]; exact hg13) (by rw [HK.out]; simpa using hor13) (by rw [HK.out]; exact ePB13)
                              rw [HK.out] at hgp
                              have hsz13 := hg13.size
                              simp only [World.size_alloc] at hsz13
                              go_meet
                              case rel =>
                                refine ⟨P.1, ps ++ [p], _, _, HC30.out.1, HC30.out.2, HQ3.out, ?_, hgp.1, ?_⟩
                                · exact (Below.heap_setCell _ _ _ _ (by omega)).trans ((hg13.block rb (by simp; omega) (HNBK.out rb (by omega))).trans hR12)
                                · refine hfrm.trans ⟨hg13.os.trans (hbBC.os.trans hos.1), hg13.tape.trans (hbBC.tape.trans hos.2.1), hg13.output.trans (hbBC.output.trans hos.2.2), by simp; omega, fun q hq hx => ?_⟩
                                  exact (hgp.2 q (by omega) (HNBK.out q hq) (fun e => hx (Or.inr e))).trans (hfar q (by omega) (fun e => hx (Or.inl e)))
                      case rest =>
                        obtain ⟨c2, ps2, va2, vc2, hc2, hpsl2, HQ2, HZ⟩ := hcut
                        rename World => Wz
                        cases last
                        · obtain rfl : spans bd.size (45 :: 45 :: bn.data.toList) NX (some NX) (pieces (bd.data.toList.drop NX)) = TAIL := HTL.out
                          clear HQY HW hRr hGr p0 p1
                          go_wp2_with fail
                          go_roundw
                          case rel => exact ⟨NX, NF, c2, (NF : Int), some NX, ps2, va2, vc2, rfl, rfl, ⟨HNF.out, by rw [HNF.out]; rfl⟩, hnx.2, (fun b h => by cases h; exact Nat.le_refl _), hc2, hpsl2, HQ2.out, HZ.out⟩
                          case measure => simp [intOf]; omega
                        · obtain rfl : [] = TAIL := HTL.out
                          clear HQY HW hRr hGr p0 p1
                          obtain ⟨hRz, hGz, hfz9⟩ := HZ.out
                          have HRS : Hid (R = (c2, some (.mk ty.data.toList bn.data.toList fr hi n ps2))) := by
                            show _ = _
                            have h1 := HQ2.out
                            rw [show shift fr ([] : List (Nat × Nat)) = [] from rfl, partsF] at h1
                            rw [HRR.out, ← h1]
                            simp [addP]
                          have hsixz := hGz.six
                          have zwz := hfz9.size
                          have Bz : But w.heap.size rb w Wz := B7.trans ⟨hfz9.os, hfz9.tape, hfz9.output, hfz9.size, fun q hq hqr => hfz9.block q (by omega) (by omega)⟩
                          have eRz : Wz.heap[w.heap.size]? = some (.cells #[.string ⟨#[]⟩, .string ⟨#[]⟩, .int .i64 0, .int .i64 0, .int .i64 0, .slice none 0 0] 25 (0, 0)) := (hfz9.block w.heap.size (by omega) (by omega)).trans eR7
                          have ePz := hGz.1
                          obtain ⟨K2, hK2⟩ : ∃ K, ps2.length = K := ⟨_, rfl⟩
                          rw [hK2] at ePz hsixz
                          obtain ⟨⟨r0, r1, r2, r3, r4, r5⟩, ⟨rf0, rf1, rf2, rf3, rf4, rf5⟩, v0, v1, v2, v3, v4, v5⟩ := six_facts eRz (.string ty) (.string bn) (.int .i64 (fr : Int)) (.int .i64 (hi : Int)) (.int .i64 (n : Int)) (.slice va2 K2 vc2)
                          have x0 := rd_cell (j := 0) ePz rfl
                          have x1 := rd_cell (j := 1) ePz rfl
                          have x2 := rd_cell (j := 2) ePz rfl
                          have x3 := rd_cell (j := 3) ePz rfl
                          have x4 := rd_cell (j := 4) ePz rfl
                          have x5 := rd_cell (j := 5) ePz rfl
                          clear HQ2 HZ hGz hK2
                          go_wp2_with fail
                          refine bodyPost_ret (v := .tuple #[.agg #[.string ty, .string bn, .int .i64 (fr : Int), .int .i64 (hi : Int), .int .i64 (n : Int), .slice va2 K2 vc2], .bool true]) (by simp [results, Tryz.results32, go_sem, v0, v1, v2, v3, v4, v5]) rfl ?_
                          rw [HRS.out]
                          exact ⟨(six_other Wz (by omega) _ _ _ _ _ _).trans hRz, six_but Bz (Nat.le_refl _) _ _ _ _ _ _, Or.inr ⟨_, _, rfl, rfl, hsixz.kept fun q hq hlt9 => ⟨by omega, six_other Wz (by omega) _ _ _ _ _ _⟩⟩⟩
          · obtain rfl : pl = bd.size := by omega
            have hATh : AT = hi := by omega
            have i3 : ¬ (AT : Int) < (hi : Int) := by omega
            have HQE : Hid (addP ps (partsF (partF s.data.toList f) (shift fr (close bg bd.size)) c') = Q) := by
              have := HQ.out
              rw [List.drop_eq_nil_of_le (by rw [list_size]; exact Nat.le_refl _)] at this
              have h2 := spans_end bd.size bn.data.toList bg
              rw [h2, spans] at this
              exact this
            obtain ⟨TAIL, hTAIL⟩ : ∃ L : List (Nat × Nat), [] = L := ⟨_, rfl⟩
            have HTE : Hid (TAIL = []) := hTAIL.symm
            clear HQ hTAIL hATh hAT hfz
            go_upto_if 168 with fail
            go_cut [168] (fun _ wx => ∃ (c2 : Nat) (ps2 : List Mm.Pt) (va2 : Option Addr) (vc2 : Nat), c2 ≤ 30 ∧ ps2.length ≤ c2 ∧ Hid (addP ps2 (partsF (partF s.data.toList f) (shift fr TAIL) c2) = Q) ∧ Hid (RdP wx rb s c2 ∧ Grow W7.heap.size pb ty bn fr hi n ps2 va2 vc2 wx ∧ Frm W7.heap.size (fun q => q = rb ∨ q = pb) W7 wx))
            case first =>
              cases bg with
              | none =>
                obtain rfl : bz = -1 := HAT.out.2
                go_wp2_with fail
                go_meet
                case rel => exact ⟨c', ps, va, vc, hc', hpsl, (by rw [HTE.out]; exact HQE.out), HW.out⟩
              | some b =>
                have hbpl := HBG.out b rfl
                obtain ⟨BF, hBF⟩ : ∃ k, b + fr = k := ⟨_, rfl⟩
                obtain rfl : bz = (BF : Int) := by rw [HAT.out.2, ← hBF]; rfl
                have HQC : Hid (addP ps (partsF (partF s.data.toList f) ((BF, hi) :: shift fr TAIL) c') = Q) := by
                  have := HQE.out
                  rw [close, shift, List.map_cons, hBF, show max b bd.size + fr = hi by have := HFZ.out; omega] at this
                  rw [HTE.out]
                  exact this
                have hBY : BF ≤ hi := by have := HFZ.out; omega
                have hYs : hi ≤ s.size := hhi
                have hBh : BF ≤ 90000 := by omega
                have hb0 : (0 : Int) ≤ (BF : Int) := by omega
                clear hBF HQE
                have cP := HIH.out BF hi c' (depth + 1) wr (by omega) hBY hYs hc' hRr (HV.out wr Br)
                have hcnt := partF_count s.data.toList f BF hi c' hc'
                obtain ⟨P, hP⟩ : ∃ P, partF s.data.toList f BF hi c' = P := ⟨_, rfl⟩
                rw [hP] at cP hcnt
                have HPF : Hid (partF s.data.toList f BF hi c' = P) := hP
                clear hP p0 p1
                go_wp2_with fail
                refine cP.mono ?_
                clear cP
                rintro e w10 ⟨hR10, B10, hcase⟩
                have z10 := B10.size
                have hfar : ∀ q, q < wr.heap.size → q ≠ rb → w10.heap[q]? = wr.heap[q]? := fun q hq hqr => B10.block q hq hqr
                have hos : w10.os = wr.os ∧ w10.tape = wr.tape ∧ w10.output = wr.output := ⟨B10.os, B10.tape, B10.output⟩
                have hpbr : pb < wr.heap.size := by omega
                rcases hcase with ⟨hn, rfl⟩ | ⟨p, xs, hp, rfl, hsix⟩
                · have HRN : Hid (R = (P.1, none)) := by
                    show _ = _
                    obtain ⟨P1, P2⟩ := P
                    obtain rfl : P2 = none := hn
                    rw [HRR.out, ← HQC.out, partsF_none HPF.out]
                    rfl
                  have hz6 : zeroSix.toArray = #[.string ⟨#[]⟩, .string ⟨#[]⟩, .int .i64 0, .int .i64 0, .int .i64 0, .slice none 0 0] := rfl
                  rw [hz6]
                  have hbB : Below w10.heap.size w10 (w10.alloc (.cells #[.string ⟨#[]⟩, .string ⟨#[]⟩, .int .i64 0, .int .i64 0, .int .i64 0, .slice none 0 0] 25)) := (Below.refl _ _).alloc (Nat.le_refl _) _
                  have e11 := heap_alloc_new w10 (.cells #[.string ⟨#[]⟩, .string ⟨#[]⟩, .int .i64 0, .int .i64 0, .int .i64 0, .slice none 0 0] 25)
                  have eRr : wr.heap[w.heap.size]? = some (.cells #[.string ⟨#[]⟩, .string ⟨#[]⟩, .int .i64 0, .int .i64 0, .int .i64 0, .slice none 0 0] 25 (0, 0)) := (hfrm.block w.heap.size (by omega) (by omega)).trans eR7
                  have eR11 := (hbB.block w.heap.size (by omega)).trans ((hfar w.heap.size (by omega) (by omega)).trans eRr)
                  have hR11 := rdP_below hR10 hbB
                  have B11 : But w.heap.size rb w (w10.alloc (.cells #[.string ⟨#[]⟩, .string ⟨#[]⟩, .int .i64 0, .int .i64 0, .int .i64 0, .slice none 0 0] 25)) := (Br.trans ⟨B10.os, B10.tape, B10.output, B10.size, fun q hq hqr => B10.block q (by omega) hqr⟩).trans (to_but (hbB.mono (by omega)))
                  have t0 := rd_cell (j := 0) e11 rfl
                  have t1 := rd_cell (j := 1) e11 rfl
                  have t2 := rd_cell (j := 2) e11 rfl
                  have t3 := rd_cell (j := 3) e11 rfl
                  have t4 := rd_cell (j := 4) e11 rfl
                  have t5 := rd_cell (j := 5) e11 rfl
                  obtain ⟨⟨r0, r1, r2, r3, r4, r5⟩, ⟨rf0, rf1, rf2, rf3, rf4, rf5⟩, v0, v1, v2, v3, v4, v5⟩ := six_facts eR11 (.string ⟨#[]⟩) (.string ⟨#[]⟩) (.int .i64 0) (.int .i64 0) (.int .i64 0) (.slice none 0 0)
                  clear hbB eRr hfar hz6 e11 HQC HW hGr
                  go_wp2_with fail
                  refine bodyPost_ret (v := .tuple #[.agg #[.string ⟨#[]⟩, .string ⟨#[]⟩, .int .i64 0, .int .i64 0, .int .i64 0, .slice none 0 0], .bool false]) (by simp [results, Tryz.results32, go_sem, v0, v1, v2, v3, v4, v5]) rfl ?_
                  rw [HRN.out]
                  exact ⟨(six_other _ (by omega) _ _ _ _ _ _).trans hR11, six_but B11 (Nat.le_refl _) _ _ _ _ _ _, Or.inl ⟨rfl, rfl⟩⟩
                · obtain ⟨tb, bb, l1, h1, n1, a1, k1, cc1, rfl⟩ := six_cells hsix
                  have HC30 : Hid (P.1 ≤ 30 ∧ (ps ++ [p]).length ≤ P.1) := by
                    have h9 := hcnt p hp
                    have := countP_pos p
                    exact ⟨h9.2, by rw [List.length_append]; show ps.length + 1 ≤ _; omega⟩
                  have HQ3 : Hid (addP (ps ++ [p]) (partsF (partF s.data.toList f) (shift fr TAIL) P.1) = Q) := by
                    show _ = _
                    obtain ⟨P1, P2⟩ := P
                    obtain rfl : P2 = some p := hp
                    rw [← HQC.out, partsF_some HPF.out, addP_add]
                  have hG10 : Grow W7.heap.size pb ty bn fr hi n ps va vc w10 := hGr.kept (hfar pb hpbr (by omega)) (fun q hq hlt9 => hfar q hlt9 (by omega))
                  obtain ⟨ePB10, rows, hrl9, hrow10, hsx10, h610⟩ := hG10
                  have HVL : Hid (∀ q, (Value.slice va ps.length vc).ownBlock = some q → q < wr.heap.size) := by
                    obtain ⟨_, rows', _, hrow', _⟩ := hGr
                    exact fun q hq => (hrow'.lt q hq).2
                  have HSX : Hid ((∀ (j : Nat) p xs, ps[j]? = some p → rows[j]? = some xs → Six w10 (fun q => W7.heap.size ≤ q ∧ (Value.slice va ps.length vc).ownBlock ≠ some q) p xs) ∧ (∀ xs ∈ rows, xs.length = 6) ∧ rows.length = ps.length) := ⟨hsx10, h610, hrl9⟩
                  have HNB : Hid (∀ q, q < W7.heap.size → some q ≠ (Value.slice va ps.length vc).ownBlock) := fun q hq e => by have := (hrow10.lt q e.symm).1; omega
                  have HSIX : Hid (Six w10 (fun q => wr.heap.size ≤ q) p [.string tb, .string bb, .int .i64 (l1 : Int), .int .i64 (h1 : Int), .int .i64 (n1 : Int), .slice a1 k1 cc1]) := hsix
                  obtain ⟨K, hK⟩ : ∃ K, ps.length = K := ⟨_, rfl⟩
                  have HK : Hid (ps.length = K) := hK
                  have hk31 : K ≤ 30 := by omega
                  rw [hK] at ePB10 hrow10
                  have HNBK : Hid (∀ q, q < W7.heap.size → some q ≠ (Value.slice va K vc).ownBlock) := by have := HNB.out; rw [hK] at this; exact this
                  clear hK hsx10 h610 hrl9 hsix hGr HW
                  have hbB : Below w10.heap.size w10 (w10.alloc (.cells #[.string tb, .string bb, .int .i64 (l1 : Int), .int .i64 (h1 : Int), .int .i64 (n1 : Int), .slice a1 k1 cc1] 25)) := (Below.refl _ _).alloc (Nat.le_refl _) _
                  have hrow11 := hrow10.alloc (.cells #[.string tb, .string bb, .int .i64 (l1 : Int), .int .i64 (h1 : Int), .int .i64 (n1 : Int), .slice a1 k1 cc1] 25)
                  have e11 := heap_alloc_new w10 (.cells #[.string tb, .string bb, .int .i64 (l1 : Int), .int .i64 (h1 : Int), .int .i64 (n1 : Int), .slice a1 k1 cc1] 25)
                  have ePB11 := (hbB.block pb (by omega)).trans ePB10
                  have hR11 := rdP_below hR10 hbB
                  have z11 : (w10.alloc (.cells #[.string tb, .string bb, .int .i64 (l1 : Int), .int .i64 (h1 : Int), .int .i64 (n1 : Int), .slice a1 k1 cc1] 25)).heap.size = w10.heap.size + 1 := by simp
                  have u5 := rd_cell (j := 5) ePB11 rfl
                  have t0 := rd_cell (j := 0) e11 rfl
                  have t1 := rd_cell (j := 1) e11 rfl
                  have t2 := rd_cell (j := 2) e11 rfl
                  have t3 := rd_cell (j := 3) e11 rfl
                  have t4 := rd_cell (j := 4) e11 rfl
                  have t5 := rd_cell (j := 5) e11 rfl
                  have hnews : ∀ (i : Nat) (u : Value), [.string tb, .string bb, .int .i64 (l1 : Int), .int .i64 (h1 : Int), .int .i64 (n1 : Int), .slice a1 k1 cc1][i]? = some u → ((w10.alloc (.cells #[.string tb, .string bb, .int .i64 (l1 : Int), .int .i64 (h1 : Int), .int .i64 (n1 : Int), .slice a1 k1 cc1] 25)).alloc (.cells #[.string tb, .string bb, .int .i64 (l1 : Int), .int .i64 (h1 : Int), .int .i64 (n1 : Int), .slice a1 k1 cc1] 25)).cell? (Addr.add ⟨w10.heap.size + 1, 0, none⟩ i) = some u := by
                    have := World.news_of_block (heap_alloc_new (w10.alloc (.cells #[.string tb, .string bb, .int .i64 (l1 : Int), .int .i64 (h1 : Int), .int .i64 (n1 : Int), .slice a1 k1 cc1] 25)) (.cells #[.string tb, .string bb, .int .i64 (l1 : Int), .int .i64 (h1 : Int), .int .i64 (n1 : Int), .slice a1 k1 cc1] 25))
                    rw [z11] at this
                    exact this
                  have hbC : Below (w10.alloc (.cells #[.string tb, .string bb, .int .i64 (l1 : Int), .int .i64 (h1 : Int), .int .i64 (n1 : Int), .slice a1 k1 cc1] 25)).heap.size (w10.alloc (.cells #[.string tb, .string bb, .int .i64 (l1 : Int), .int .i64 (h1 : Int), .int .i64 (n1 : Int), .slice a1 k1 cc1] 25)) ((w10.alloc (.cells #[.string tb, .string bb, .int .i64 (l1 : Int), .int .i64 (h1 : Int), .int .i64 (n1 : Int), .slice a1 k1 cc1] 25)).alloc (.cells #[.string tb, .string bb, .int .i64 (l1 : Int), .int .i64 (h1 : Int), .int .i64 (n1 : Int), .slice a1 k1 cc1] 25)) := (Below.refl _ _).alloc (Nat.le_refl _) _
                  have hbBC : Below w10.heap.size w10 ((w10.alloc (.cells #[.string tb, .string bb, .int .i64 (l1 : Int), .int .i64 (h1 : Int), .int .i64 (n1 : Int), .slice a1 k1 cc1] 25)).alloc (.cells #[.string tb, .string bb, .int .i64 (l1 : Int), .int .i64 (h1 : Int), .int .i64 (n1 : Int), .slice a1 k1 cc1] 25)) := hbB.trans (hbC.mono (by omega))
                  have ePB12 := (hbC.block pb (by omega)).trans ePB11
                  have hR12 := rdP_below hR11 hbC
                  have hz7 : W7.heap.size ≤ w10.heap.size + 2 := by omega
                  have htx : ([.string tb, .string bb, .int .i64 (l1 : Int), .int .i64 (h1 : Int), .int .i64 (n1 : Int), .slice a1 k1 cc1] : List Value).toArray = #[.string tb, .string bb, .int .i64 (l1 : Int), .int .i64 (h1 : Int), .int .i64 (n1 : Int), .slice a1 k1 cc1] := rfl
                  rw [htx]
                  clear hcnt hrow10 htx
                  go_wp2_with (at_builtin; go_must (refine wpList_append_lies _ rfl (.tmp 182) (.tmp 184) 23 rfl W7.heap.size 25 j0 (.agg #[.string ⟨#[]⟩, .string ⟨#[]⟩, .int .i64 0, .int .i64 0, .int .i64 0, .slice none 0 0]) 6 80 Tryz.underlying23 hj hjz0 hjz1 hjz2 rfl (by decide) _ _ _ (by rfl) (hrow11.alloc _) ⟨w10.heap.size + 1, 0, none⟩ 1 1 [.string tb, .string bb, .int .i64 (l1 : Int), .int .i64 (h1 : Int), .int .i64 (n1 : Int), .slice a1 k1 cc1] (by rfl) rfl hnews (by simp [Value.oneCell']) (by decide) (by unfold maxLen; omega) (by omega) (by simp; omega) _ rfl ?_); intro g13 cap13 w13 hown13 hg13 hor13 hlt13; have ePB13 := (hg13.block pb (by simp; omega) (HNBK.out pb (by omega))).trans ePB12; have y5 := rd_cell (j := 5) ePB13 rfl; have yf5 := rd_free ePB13 5)
                  have hpb7 : pb < W7.heap.size := by omega
                  have hgp := grow_push (ps := ps) (va := va) (vc := vc) (ty := ty) (bn := bn) (fr := fr) (hi := hi) (cn := n) (p := p) HSX.out.2.2 HSX.out.1 HSX.out.2.1 hpb7 zwr HVL.out HSIX.out hbBC (by rw [HK.out]; exact hown13) (by rw [HK.out]; exact hg13) (by rw [HK.out]; simpa using hor13) (by rw [HK.out]; exact ePB13)
                  rw [HK.out] at hgp
                  have hsz13 := hg13.size
                  simp only [World.size_alloc] at hsz13
                  go_meet
                  case rel =>
                    refine ⟨P.1, ps ++ [p], _, _, HC30.out.1, HC30.out.2, HQ3.out, ?_, hgp.1, ?_⟩
                    · exact (Below.heap_setCell _ _ _ _ (by omega)).trans ((hg13.block rb (by simp; omega) (HNBK.out rb (by omega))).trans hR12)
                    · refine hfrm.trans ⟨hg13.os.trans (hbBC.os.trans hos.1), hg13.tape.trans (hbBC.tape.trans hos.2.1), hg13.output.trans (hbBC.output.trans hos.2.2), by simp; omega, fun q hq hx => ?_⟩
                      exact (hgp.2 q (by omega) (HNBK.out q hq) (fun e => hx (Or.inr e))).trans (hfar q (by omega) (fun e => hx (Or.inl e)))
            case rest =>
              obtain ⟨c2, ps2, va2, vc2, hc2, hpsl2, HQ2, HZ⟩ := hcut
              rename World => Wz
              obtain rfl : TAIL = [] := HTE.out
              clear HQE HW hRr hGr p0 p1
              obtain ⟨hRz, hGz, hfz9⟩ := HZ.out
              have HRS : Hid (R = (c2, some (.mk ty.data.toList bn.data.toList fr hi n ps2))) := by
                show _ = _
                have h1 := HQ2.out
                rw [show shift fr ([] : List (Nat × Nat)) = [] from rfl, partsF] at h1
                rw [HRR.out, ← h1]
                simp [addP]
              have hsixz := hGz.six
              have zwz := hfz9.size
              have Bz : But w.heap.size rb w Wz := B7.trans ⟨hfz9.os, hfz9.tape, hfz9.output, hfz9.size, fun q hq hqr => hfz9.block q (by omega) (by omega)⟩
              have eRz : Wz.heap[w.heap.size]? = some (.cells #[.string ⟨#[]⟩, .string ⟨#[]⟩, .int .i64 0, .int .i64 0, .int .i64 0, .slice none 0 0] 25 (0, 0)) := (hfz9.block w.heap.size (by omega) (by omega)).trans eR7
              have ePz := hGz.1
              obtain ⟨K2, hK2⟩ : ∃ K, ps2.length = K := ⟨_, rfl⟩
              rw [hK2] at ePz hsixz
              obtain ⟨⟨r0, r1, r2, r3, r4, r5⟩, ⟨rf0, rf1, rf2, rf3, rf4, rf5⟩, v0, v1, v2, v3, v4, v5⟩ := six_facts eRz (.string ty) (.string bn) (.int .i64 (fr : Int)) (.int .i64 (hi : Int)) (.int .i64 (n : Int)) (.slice va2 K2 vc2)
              have x0 := rd_cell (j := 0) ePz rfl
              have x1 := rd_cell (j := 1) ePz rfl
              have x2 := rd_cell (j := 2) ePz rfl
              have x3 := rd_cell (j := 3) ePz rfl
              have x4 := rd_cell (j := 4) ePz rfl
              have x5 := rd_cell (j := 5) ePz rfl
              clear HQ2 HZ hGz hK2
              go_wp2_with fail
              refine bodyPost_ret (v := .tuple #[.agg #[.string ty, .string bn, .int .i64 (fr : Int), .int .i64 (hi : Int), .int .i64 (n : Int), .slice va2 K2 vc2], .bool true]) (by simp [results, Tryz.results32, go_sem, v0, v1, v2, v3, v4, v5]) rfl ?_
              rw [HRS.out]
              exact ⟨(six_other Wz (by omega) _ _ _ _ _ _).trans hRz, six_but Bz (Nat.le_refl _) _ _ _ _ _ _, Or.inr ⟨_, _, rfl, rfl, hsixz.kept fun q hq hlt9 => ⟨by omega, six_other Wz (by omega) _ _ _ _ _ _⟩⟩⟩
end Go.Proofs.YtgbbkdflnlagaaaGreatDoor
