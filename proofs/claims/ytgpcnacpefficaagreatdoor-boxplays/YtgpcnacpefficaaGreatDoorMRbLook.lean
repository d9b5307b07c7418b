/-
  The document's view Looks.
-/
import Derived.Test.YtgpcnacpefficaaGreatDoorBpRbNews
import Derived.Test.YtgpcnacpefficaaGreatDoorBpPlSt
namespace Go.Proofs.YtgpcnacpefficaaGreatDoor
open Go.RowKit Go.Proofs.Aid Go.Proofs.Bx

/-- Where Look is: the view's cell, the box that it looks at, what is not touched. -/
structure LkW (w : World) (ub : Nat) (cv : Value) (vv nn : Int) (lv : Value) (wr : World) : Prop where
  view : wr.heap[ub]? = some (.cells #[cv] 49 (0, 0))
  box : wr.heap[w.heap.size]? = some (.cells #[.int .i64 vv, .int .i64 nn, lv] 26 (0, 0))
  but : But w.heap.size ub w wr
  size : w.heap.size + 1 ≤ wr.heap.size
theorem LkW.keep {w : World} {ub : Nat} {cv : Value} {vv nn : Int} {lv : Value} {wr w' : World} (h : LkW w ub cv vv nn lv wr) (hub : ub < w.heap.size) (hb : Below (w.heap.size + 1) wr w') : LkW w ub cv vv nn lv w' :=
  ⟨(hb.block ub (by omega)).trans h.view, (hb.block _ (by omega)).trans h.box, h.but.trans (to_but (hb.mono (by omega))), Nat.le_trans h.size hb.size⟩
theorem LkW.below {w : World} {ub : Nat} {cv : Value} {vv nn : Int} {lv : Value} {wr w' : World} (h : LkW w ub cv vv nn lv wr) (hub : ub < w.heap.size) (hb : Below wr.heap.size wr w') : LkW w ub cv vv nn lv w' := h.keep hub (hb.mono h.size)
theorem LkW.put {w : World} {ub : Nat} {cv : Value} {vv nn : Int} {lv : Value} {wr : World} (h : LkW w ub cv vv nn lv wr) (hub : ub < w.heap.size) (v : Value) : LkW w ub v vv nn lv (wr.setCell ⟨ub, 0, none⟩ v) :=
  ⟨rd_set (i := 0) v h.view, (Below.heap_setCell _ _ _ _ (by show w.heap.size ≠ ub; omega)).trans h.box, h.but.setB 0 v, by simpa using h.size⟩
theorem LkW.cells {w : World} {ub : Nat} {cv : Value} {vv nn : Int} {lv : Value} {wr : World} (h : LkW w ub cv vv nn lv wr) : wr.cell? ⟨ub, 0, none⟩ = some cv ∧ wr.cell? ⟨w.heap.size, 0, none⟩ = some (.int .i64 vv) ∧ wr.cell? ⟨w.heap.size, 1, none⟩ = some (.int .i64 nn) ∧ wr.cell? ⟨w.heap.size, 2, none⟩ = some lv ∧ wr.frozen? ⟨ub, 0, none⟩ = false :=
  ⟨rd_cell h.view rfl, rd_cell h.box rfl, rd_cell h.box rfl, rd_cell h.box rfl, rd_free h.view 0⟩
theorem sl_nil (w : World) : Sl w (.slice none 0 0) [] := ⟨none, 0, rfl, ⟨fun _ => rfl, Nat.le_refl _⟩, Or.inl rfl⟩
/-- The first loop: from the last one on. -/
def Lk1 (w : World) (ub : Nat) (uv : Value) (vv nn : Int) (lv : Value) (S : List Sg) (p : Int → Bool) (k : Nat) (sv ov : Value) (n1 n2 : Nat) (wr : World) : Prop :=
  LkW w ub uv vv nn lv wr ∧ n1 = (keepS p (S.drop k)).length ∧ n2 = (goneN p (bk S k)).length ∧ LOwn w wr (w.heap.size + 1) sv ((keepS p (S.drop k)).map sgLt) ∧ RNw w wr (w.heap.size + 1) ov (goneN p (bk S k))
theorem Lk1.below {w : World} {ub : Nat} {uv : Value} {vv nn : Int} {lv : Value} {S : List Sg} {p : Int → Bool} {k : Nat} {sv ov : Value} {n1 n2 : Nat} {wr w' : World} (h : Lk1 w ub uv vv nn lv S p k sv ov n1 n2 wr) (hub : ub < w.heap.size) (hb : Below wr.heap.size wr w') : Lk1 w ub uv vv nn lv S p k sv ov n1 n2 w' :=
  ⟨h.1.below hub hb, h.2.1, h.2.2.1, h.2.2.2.1.same fun q _ hq _ => hb.block q hq, h.2.2.2.2.same fun q _ hq _ => hb.block q hq⟩
/-- One that is gone is told. -/
theorem lk1_gone {w : World} {ub : Nat} {uv : Value} {vv nn : Int} {lv : Value} {S : List Sg} {p : Int → Bool} {k : Nat} {s : Sg} {sv : Value} {vo : Option Addr} {n1 n2 c2 : Nat} {wr : World} (h : Lk1 w ub uv vv nn lv S p (k + 1) sv (.slice vo n2 c2) n1 n2 wr) (hub : ub < w.heap.size) (hs : S[k]? = some s) (hp : p s.uid = true) (hS : S.length ≤ 900) :
    ∃ g cap W, (Builtin.append_ #[79, 79] 79 #[.slice vo n2 c2, .slice (some ⟨wr.heap.size, 0, none⟩) 1 1]).run Tryz.prog (wr.alloc (.cells #[.int .i64 1, .int .i64 ((k : Int) + 1), .slice none 0 0] 104)) = .ok (.slice (some ⟨g, 0, none⟩) (n2 + 1) cap) W ∧
      Lk1 w ub uv vv nn lv S p k sv (.slice (some ⟨g, 0, none⟩) (n2 + 1) cap) n1 (n2 + 1) W := by
  obtain ⟨h1, h2, h3, h4, h5⟩ := h
  have hle : n2 ≤ 900 := by rw [h3]; have := goneN_le p (bk S (k + 1)); rw [bk_len] at this; omega
  have hN : goneN p (bk S k) = goneN p (bk S (k + 1)) ++ [⟨1, (k : Int) + 1, []⟩] := by rw [bk_next hs, goneN_snoc, if_pos hp]
  have hK : keepS p (S.drop k) = keepS p (S.drop (k + 1)) := by rw [keepS_drop hs, if_pos hp]; rfl
  have hsz := h1.size
  rw [h3] at h5
  obtain ⟨g, cap, W, hrun, hO, k1, k2, k3, k4, k5⟩ := rnw_push h5 (by omega) ⟨1, (k : Int) + 1, []⟩ (.slice none 0 0) (sl_nil _) hsz
  rw [← h3] at hrun hO k5
  rw [← h3] at h5
  refine ⟨g, cap, W, hrun, ?_, by rw [hK]; exact h2, by rw [hN, List.length_append, ← h3]; rfl, ?_, by rw [hN]; exact hO⟩
  · obtain ⟨rows, r1, _⟩ := h5
    have hb : Below (w.heap.size + 1) wr W := ⟨k1, k2, k3, k4, fun q hq => k5 q (by omega) fun e => by have := (r1.lt q e).1; omega⟩
    exact h1.keep hub hb
  · rw [hK]
    exact h4.same fun q _ hq e => k5 q hq (h4.apart h5 e)
/-- One that stays is put ahead of the others. -/
theorem lk1_stay {w : World} {ub : Nat} {uv : Value} {vv nn : Int} {lv : Value} {S : List Sg} {p : Int → Bool} {k : Nat} {s : Sg} {ov : Value} {va : Option Addr} {n1 n2 c1 : Nat} {wr : World} {fv : Value} (h : Lk1 w ub uv vv nn lv S p (k + 1) (.slice va n1 c1) ov n1 n2 wr) (hub : ub < w.heap.size) (hs : S[k]? = some s) (hp : p s.uid = false) (hS : S.length ≤ 900) (hf : Sl w fv s.flags) :
    ∃ g cap W, (Builtin.append_ #[22, 22] 22 #[.slice (some ⟨wr.heap.size, 0, none⟩) 1 1, .slice va n1 c1]).run Tryz.prog (wr.alloc (.cells #[.int .i64 s.uid, fv, .int .i64 0, .string ⟨#[]⟩] 51)) = .ok (.slice (some ⟨g, 0, none⟩) (n1 + 1) cap) W ∧
      Lk1 w ub uv vv nn lv S p k (.slice (some ⟨g, 0, none⟩) (n1 + 1) cap) ov (n1 + 1) n2 W := by
  obtain ⟨h1, h2, h3, h4, h5⟩ := h
  have hle : n1 ≤ 900 := by rw [h2]; have := keepS_le p (S.drop (k + 1)); rw [List.length_drop] at this; omega
  have hN : goneN p (bk S k) = goneN p (bk S (k + 1)) := by rw [bk_next hs, goneN_snoc, if_neg (by rw [hp]; simp), List.append_nil]
  have hK : keepS p (S.drop k) = s :: keepS p (S.drop (k + 1)) := by rw [keepS_drop hs, if_neg (by rw [hp]; simp)]; rfl
  have hsz := h1.size
  have hln : ((keepS p (S.drop (k + 1))).map sgLt).length = n1 := by rw [List.length_map, h2]
  obtain ⟨g, cap, W, hrun, hO, hb⟩ := lown_cons h4 (by omega) (sgLt s) fv hf hsz
  rw [hln] at hrun hO
  refine ⟨g, cap, W, hrun, h1.below hub hb, by rw [hK, List.length_cons, ← h2], by rw [hN]; exact h3, ?_, ?_⟩
  · rw [hK]; exact hO
  · rw [hN]; exact h5.same fun q _ hq _ => hb.block q hq
/-- The third loop: flags. -/
def learnT (l : List Lt) (S NW : List Sg) (k : Nat) : List Sg := (S.take k).map (learn1 l) ++ S.drop k ++ NW
theorem learnT_len (l : List Lt) (S NW : List Sg) (k : Nat) : (learnT l S NW k).length = (S ++ NW).length := by
  unfold learnT
  rw [List.length_append, List.length_append, List.length_append, List.length_map, List.length_take, List.length_drop]; omega
theorem learnT_at {l : List Lt} {S NW : List Sg} {k : Nat} {s : Sg} (h : S[k]? = some s) : (learnT l S NW k)[k]? = some s := by
  have hk := (List.getElem?_eq_some_iff.1 h).1
  unfold learnT
  rw [List.getElem?_append_left (by rw [List.length_append, List.length_map, List.length_take, List.length_drop]; omega), learn_at h]
theorem learnT_set {l : List Lt} {S NW : List Sg} {k : Nat} {s : Sg} (h : S[k]? = some s) : (learnT l S NW k).set k (learn1 l s) = learnT l S NW (k + 1) := by
  have hk := (List.getElem?_eq_some_iff.1 h).1
  unfold learnT
  rw [List.set_append_left _ _ (by rw [List.length_append, List.length_map, List.length_take, List.length_drop]; omega), learn_set h]
theorem learnT_same {l : List Lt} {S NW : List Sg} {k : Nat} {s : Sg} (h : S[k]? = some s) (h1 : learn1 l s = s) : learnT l S NW (k + 1) = learnT l S NW k := by
  rw [← learnT_set h, h1, set_self (learnT_at h)]
def Lk3 (w : World) (ub : Nat) (cv : Value) (vv nn : Int) (lv : Value) (l : List Lt) (S NW : List Sg) (N2 : List Nw) (k : Nat) (ov : Value) (n2 : Nat) (wr : World) : Prop :=
  LkW w ub cv vv nn lv wr ∧ n2 = (N2 ++ learnN l 0 (S.take k)).length ∧ LOwn w wr (w.heap.size + 1) cv ((learnT l S NW k).map sgLt) ∧ RNw w wr (w.heap.size + 1) ov (N2 ++ learnN l 0 (S.take k))
theorem Lk3.below {w : World} {ub : Nat} {cv : Value} {vv nn : Int} {lv : Value} {l : List Lt} {S NW : List Sg} {N2 : List Nw} {k : Nat} {ov : Value} {n2 : Nat} {wr w' : World} (h : Lk3 w ub cv vv nn lv l S NW N2 k ov n2 wr) (hub : ub < w.heap.size) (hb : Below wr.heap.size wr w') : Lk3 w ub cv vv nn lv l S NW N2 k ov n2 w' :=
  ⟨h.1.below hub hb, h.2.1, h.2.2.1.same fun q _ hq _ => hb.block q hq, h.2.2.2.same fun q _ hq _ => hb.block q hq⟩
theorem Lk3.next {w : World} {ub : Nat} {cv : Value} {vv nn : Int} {lv : Value} {l : List Lt} {S NW : List Sg} {N2 : List Nw} {k : Nat} {ov : Value} {n2 : Nat} {wr w' : World} {s : Sg} (h : Lk3 w ub cv vv nn lv l S NW N2 k ov n2 wr) (hub : ub < w.heap.size) (hs : S[k]? = some s) (h1 : learn1 l s = s) (h2 : news1 l k s = []) (hb : Below wr.heap.size wr w') : Lk3 w ub cv vv nn lv l S NW N2 (k + 1) ov n2 w' := by
  obtain ⟨a1, a2, a3, a4⟩ := h.below hub hb
  have hN : learnN l 0 (S.take (k + 1)) = learnN l 0 (S.take k) := by rw [learnN_next hs, h2, List.append_nil]
  exact ⟨a1, by rw [hN]; exact a2, by rw [learnT_same hs h1]; exact a3, by rw [hN]; exact a4⟩
/-- One's flags are others: stored, and told. -/
theorem lk3_told {w : World} {ub g cg n1 : Nat} {vv nn : Int} {lv : Value} {l : List Lt} {S NW : List Sg} {N2 : List Nw} {k : Nat} {vo : Option Addr} {n2 c2 : Nat} {wr : World} {s : Sg} {F : List Fl.Tx} {fv : Value} (h : Lk3 w ub (.slice (some ⟨g, 0, none⟩) n1 cg) vv nn lv l S NW N2 k (.slice vo n2 c2) n2 wr) (hub : ub < w.heap.size) (hs : S[k]? = some s) (hfo : flagsOf l s.uid = some F) (hne : F ≠ s.flags) (hn1 : (S ++ NW).length = n1) (hn2 : n2 ≤ 1999) (hf : Sl w fv F) :
    (∃ a n c, wr.cell? ⟨g, k * 4 + 1, none⟩ = some (.slice a n c)) ∧ wr.frozen? ⟨g, k * 4 + 1, none⟩ = false ∧ LkW w ub (.slice (some ⟨g, 0, none⟩) n1 cg) vv nn lv (wr.setCell ⟨g, k * 4 + 1, none⟩ fv) ∧
    ∃ g9 cap W, (Builtin.append_ #[79, 79] 79 #[.slice vo n2 c2, .slice (some ⟨wr.heap.size, 0, none⟩) 1 1]).run Tryz.prog ((wr.setCell ⟨g, k * 4 + 1, none⟩ fv).alloc (.cells #[.int .i64 3, .int .i64 ((k : Int) + 1), fv] 104)) = .ok (.slice (some ⟨g9, 0, none⟩) (n2 + 1) cap) W ∧
      Lk3 w ub (.slice (some ⟨g, 0, none⟩) n1 cg) vv nn lv l S NW N2 (k + 1) (.slice (some ⟨g9, 0, none⟩) (n2 + 1) cap) (n2 + 1) W := by
  obtain ⟨h1, h2, h3, h4⟩ := h
  have hln : ((learnT l S NW k).map sgLt).length = n1 := by rw [List.length_map, learnT_len, hn1]
  obtain ⟨hO, hold, hfz⟩ := lown_set h3 (by rw [hln]) (x := sgLt s) (by rw [List.getElem?_map, learnT_at hs]; rfl) hf
  have hgb := (h3.blk (q := g) rfl).1
  have hgl := (h3.blk (q := g) rfl).2
  have hot : ∀ q, q ≠ g → (wr.setCell ⟨g, k * 4 + 1, none⟩ fv).heap[q]? = wr.heap[q]? := fun q hq => Below.heap_setCell _ _ _ _ hq
  have hbs : Below (w.heap.size + 1) wr (wr.setCell ⟨g, k * 4 + 1, none⟩ fv) := (Below.refl _ _).setCell (p := ⟨g, k * 4 + 1, none⟩) hgb fv
  have hW := h1.keep hub hbs
  have hN4 : RNw w (wr.setCell ⟨g, k * 4 + 1, none⟩ fv) (w.heap.size + 1) (.slice vo n2 c2) (N2 ++ learnN l 0 (S.take k)) := h4.same fun q _ _ e => hot q fun e1 => h4.apart h3 e (by rw [e1]; rfl)
  have hsz : (wr.setCell ⟨g, k * 4 + 1, none⟩ fv).heap.size = wr.heap.size := by simp
  have hl1 : learn1 l s = ⟨s.uid, F⟩ := by unfold learn1; rw [hfo]
  have hnw : news1 l k s = [⟨3, (k : Int) + 1, F⟩] := by unfold news1; rw [hfo]; exact if_neg hne
  have hT : (learnT l S NW (k + 1)).map sgLt = ((learnT l S NW k).map sgLt).set k ⟨(sgLt s).uid, F, (sgLt s).day, (sgLt s).text⟩ := by
    rw [← learnT_set hs, hl1, ← map_set_sg (s := s)]
    rfl
  have hNN : N2 ++ learnN l 0 (S.take (k + 1)) = (N2 ++ learnN l 0 (S.take k)) ++ [⟨3, (k : Int) + 1, F⟩] := by rw [learnN_next hs, hnw, List.append_assoc]
  rw [h2] at hN4 hn2
  have hz1 := h1.size
  obtain ⟨g9, cap, W, hrun, hO9, k1, k2, k3, k4, k5⟩ := rnw_push hN4 (by omega) ⟨3, (k : Int) + 1, F⟩ fv hf (by omega)
  rw [← h2] at hrun hO9 k5
  rw [← h2] at hN4
  rw [hsz] at hrun k4 k5
  refine ⟨hold, hfz, hW, g9, cap, W, hrun, ?_, by rw [hNN, List.length_append, ← h2]; rfl, ?_, by rw [hNN]; exact hO9⟩
  · obtain ⟨rows, r1, _⟩ := hN4
    have hb : Below (w.heap.size + 1) (wr.setCell ⟨g, k * 4 + 1, none⟩ fv) W := ⟨k1, k2, k3, by rw [hsz]; exact k4, fun q hq => k5 q (by omega) fun e => by have := (r1.lt q e).1; omega⟩
    exact hW.keep hub hb
  · rw [hT]
    exact hO.same fun q _ hq e => k5 q (by omega) (hO.apart hN4 e)
set_option maxHeartbeats 16000000 in
set_option maxRecDepth 100000 in
theorem rlook_is (ub : Nat) (uv : Value) (S : List Sg) (vv nn : Int) (lv : Value) (l : List Lt) (gone : Bool) (w : World) (h : RView w ub uv S) (hl : Lts w lv l) (hr : Rise l) (hS : S.length + l.length ≤ 900) (hfl : ∀ x ∈ l, x.flags.length ≤ 1000) (hfs : ∀ x ∈ S, x.flags.length ≤ 1000) :
    Calls Tryz.prog 33 #[.pointer (some ⟨ub, 0, none⟩), .agg #[.int .i64 vv, .int .i64 nn, lv], .bool gone] w fun e w' =>
      ∃ ov uv', e = .returned ov ∧ RNw w w' w.heap.size ov (lookN S l gone) ∧ RView w' ub uv' (lookS S l gone) ∧ (∀ q, uv'.ownBlock = some q → w.heap.size ≤ q) ∧ But w.heap.size ub w w' := by
  obtain ⟨a, c, rfl⟩ := h.2.form
  obtain ⟨la, lc, rfl, lcap, lrest⟩ := id hl
  obtain ⟨N, hN⟩ : ∃ N, S.length = N := ⟨_, rfl⟩
  obtain ⟨m, hm⟩ : ∃ m, l.length = m := ⟨_, rfl⟩
  have HN : Hid (S.length = N) := hN
  have HM : Hid (l.length = m) := hm
  rw [List.length_map, hN] at h
  rw [hm] at hl ⊢
  rw [hN, hm] at hS
  have HS9 : Hid (S.length ≤ 900) := by show S.length ≤ 900; omega
  have hub : ub < w.heap.size := (Array.getElem?_eq_some_iff.1 h.1).1
  have hns : NoStr w ub := by
    intro i s hc
    simp only [World.cell?, h.1] at hc
    match i, hc with
    | 0, hc => simp at hc
    | i + 1, hc => simp at hc
  have HNS : Hid (NoStr w ub) := hns
  have HRI : Hid (Rise l) := hr
  have HFL : Hid (∀ x ∈ l, x.flags.length ≤ 1000) := hfl
  have HFS : Hid (∀ x ∈ S, x.flags.length ≤ 1000) := hfs
  have HV : Hid (RView w ub (.slice a N c) S) := h
  have HLT : Hid (∀ W, But w.heap.size ub w W → Lts W (.slice la m lc) l) := fun W hW => hl.but hns hW (Nat.le_refl _)
  have HLA : Hid (l = [] ∨ ∃ b o, la = some ⟨b, o, none⟩ ∧ ∀ (j : Nat) x, l[j]? = some x → LtAt w b (o + j * 4) x) := lrest
  obtain ⟨p, hp⟩ : ∃ p, goneP l gone = p := ⟨_, rfl⟩
  have HP : Hid (goneP l gone = p) := hp
  have b1 : Below w.heap.size w (w.alloc (.cells #[.int .i64 vv, .int .i64 nn, .slice la m lc] 26)) := (Below.refl _ _).alloc (Nat.le_refl _) _
  have e1 := heap_alloc_new w (.cells #[.int .i64 vv, .int .i64 nn, .slice la m lc] 26)
  have HW1 : Hid (Lk1 w ub (.slice a N c) vv nn (.slice la m lc) S p N (.slice none 0 0) (.slice none 0 0) 0 0 (w.alloc (.cells #[.int .i64 vv, .int .i64 nn, .slice la m lc] 26))) := by
    refine ⟨⟨(b1.block ub hub).trans h.1, e1, to_but b1, by simp⟩, ?_, ?_, ?_, ?_⟩
    · rw [List.drop_of_length_le (by omega)]; rfl
    · rw [← hN, bk_end]; rfl
    · rw [List.drop_of_length_le (by omega)]; exact LOwn.nil _ _ _
    · rw [← hN, bk_end]; exact RNw.nil _ _ _
  have p0 : (w.alloc (.cells #[.int .i64 vv, .int .i64 nn, .slice la m lc] 26)).cell? ⟨ub, 0, none⟩ = some (.slice a N c) := HW1.out.1.cells.1
  clear h hl hr lcap lrest hN hm hfl hfs hns b1 e1 hp
  go_enter Tryz.func33, Tryz.ntmps33
  go_wp2_with fail
  go_loopw [7, 8, 9] (fun ov sv i wr => ∃ (k : Nat) (va vo : Option Addr) (n1 n2 c1 c2 : Nat), i = .int .i64 ((k : Int) - 1) ∧ k ≤ N ∧ sv = .slice va n1 c1 ∧ ov = .slice vo n2 c2 ∧ Hid (Lk1 w ub (.slice a N c) vv nn (.slice la m lc) S p k (.slice va n1 c1) (.slice vo n2 c2) n1 n2 wr)) (fun _ _ i _ => (intOf i + 1).toNat)
  case atStart => exact ⟨N, none, none, 0, 0, 0, 0, by go_num, Nat.le_refl _, rfl, rfl, HW1.out⟩
  case round =>
    clear HW1 p0
    obtain ⟨k, va, vo, n1, n2, c1, c2, rfl, hk, rfl, rfl, HI⟩ := hrel
    cases k with
    | succ k =>
      have hkk : (((k + 1 : Nat) : Int) - 1) = (k : Int) := by omega
      rw [hkk]
      have hkl : k < S.length := by rw [HN.out]; omega
      obtain ⟨s, hs⟩ : ∃ s, S[k] = s := ⟨_, rfl⟩
      have hsk : S[k]? = some s := by rw [List.getElem?_eq_getElem hkl, hs]
      have HSK : Hid (S[k]? = some s) := hsk
      obtain ⟨g, cg, fv, ev, _, hgl, t0, t1, t2, t3, hsf⟩ := lown_at HV.out.2 (k := k) (x := sgLt s) (by rw [List.getElem?_map, hsk]; rfl)
      rw [List.length_map, HN.out] at ev
      injection ev with ev _ ec
      subst ev
      subst ec
      obtain ⟨fa, fc, rfl, hfr⟩ := id hsf
      obtain ⟨XU, hXU⟩ : ∃ z, s.uid = z := ⟨_, rfl⟩
      have HXU : Hid (s.uid = XU) := hXU
      obtain ⟨FL, hFL⟩ : ∃ z, (sgLt s).flags.length = z := ⟨_, rfl⟩
      rw [hFL] at t1 hsf
      have HSF : Hid (Sl w (.slice fa FL fc) s.flags) := hsf
      have hgu : g ≠ ub := fun e => by
        have h1 := HV.out.1
        rw [← e] at h1
        obtain ⟨rows, r1, _⟩ := HV.out.2
        exact row_off r1 h1 (by decide) rfl
      have HROW : Hid (∀ W, But w.heap.size ub w W → W.cell? ⟨g, k * 4, none⟩ = some (.int .i64 XU) ∧ W.cell? ⟨g, k * 4 + 1, none⟩ = some (.slice fa FL fc) ∧ W.cell? ⟨g, k * 4 + 2, none⟩ = some (.int .i64 0) ∧ W.cell? ⟨g, k * 4 + 3, none⟩ = some (.string ⟨#[]⟩)) := fun W hW => by
        have ec : ∀ i, W.cell? ⟨g, i, none⟩ = w.cell? ⟨g, i, none⟩ := fun i => hW.cell (p := ⟨g, i, none⟩) hgl hgu
        refine ⟨(ec _).trans ?_, (ec _).trans t1, (ec _).trans t2, (ec _).trans t3⟩
        rw [t0, ← hXU]
        rfl
      have i1 : (0 : Int) ≤ (k : Int) := by omega
      have i2 : (k : Int) < (N : Int) := by omega
      obtain ⟨r0, b0, b1, b2, _⟩ := HI.out.1.cells
      obtain ⟨q0, _⟩ := HROW.out wr HI.out.1.but
      obtain ⟨WD, hWD⟩ : ∃ W, wr.drew = W := ⟨_, rfl⟩
      have hbD : Below wr.heap.size wr WD := by rw [← hWD]; exact (Below.refl _ _).drew
      clear hs hsk hsf hfr hXU hFL t0 t1 t2 t3 hgu hkl hkk
      cases gone with
      | false =>
        have HPB : Hid (p XU = false) := by
          unfold Hid
          rw [← HP.out]
          rfl
        have HBW : Hid (Below wr.heap.size wr WD) := hbD
        go_upto_region 6 with fail
        refine wp_region_held_drew (S := fun W => W.heap.size = W.heap.size) (by kernel_rfl) ?_ (fun hHeld => ?_)
        · rfl
        refine wpAnyH_take (i := 0) (v := ?_) rfl (by kernel_rfl) (by kernel_rfl) (by kernel_rfl) (fun _ _ _ h => h) (Or.inl ⟨by rfl, ?_⟩) (by first | assumption | trivial) ?_
        rotate_left
        · intro w hSw; go_simp; (try with_reducible rfl)
        change wpAnyH _ _ _ _ _ _ _ (Act.put _ (some 26) _) _; simp only [Act.put, List.setIfInBounds_toArray, List.set_cons_zero, List.set_cons_succ]
        refine wpAnyH_take (i := 1) (v := ?_) rfl (by kernel_rfl) (by kernel_rfl) (by kernel_rfl) (fun _ _ _ h => h) (Or.inl ⟨by rfl, ?_⟩) (by first | assumption | trivial) ?_
        rotate_left
        · intro w hSw; go_simp; (try with_reducible rfl)
        change wpAnyH _ _ _ _ _ _ _ (Act.put _ (some 27) _) _; simp only [Act.put, List.setIfInBounds_toArray, List.set_cons_zero, List.set_cons_succ]
        refine wpAnyH_take (i := 2) (v := undef) rfl (by kernel_rfl) (by kernel_rfl) (by kernel_rfl) (fun _ _ _ h => h) (Or.inr ⟨by rfl, rfl⟩) (by first | assumption | trivial) ?_
        change wpAnyH _ _ _ _ _ _ _ (Act.put _ (some 28) _) _; simp only [Act.put, List.setIfInBounds_toArray, List.set_cons_zero, List.set_cons_succ]
        refine wpAnyH_take (i := 3) (v := undef) rfl (by kernel_rfl) (by kernel_rfl) (by kernel_rfl) (fun _ _ _ h => h) (Or.inr ⟨by rfl, rfl⟩) (by first | assumption | trivial) ?_
        change wpAnyH _ _ _ _ _ _ _ (Act.put _ (some 29) _) _; simp only [Act.put, List.setIfInBounds_toArray, List.set_cons_zero, List.set_cons_succ]
        refine wpAnyH_take (i := 4) (v := undef) rfl (by kernel_rfl) (by kernel_rfl) (by kernel_rfl) (fun _ _ _ h => h) (Or.inr ⟨by rfl, rfl⟩) (by first | assumption | trivial) ?_
        change wpAnyH _ _ _ _ _ _ _ (Act.put _ (some 30) _) _; simp only [Act.put, List.setIfInBounds_toArray, List.set_cons_zero, List.set_cons_succ]
        refine wpAnyH_take (i := 5) (v := undef) rfl (by kernel_rfl) (by kernel_rfl) (by kernel_rfl) (fun _ _ _ h => h) (Or.inr ⟨by rfl, rfl⟩) (by first | assumption | trivial) ?_
        change wpAnyH _ _ _ _ _ _ _ (Act.put _ (some 31) _) _; simp only [Act.put, List.setIfInBounds_toArray, List.set_cons_zero, List.set_cons_succ]
        refine wpAnyH_take (i := 6) (v := undef) rfl (by kernel_rfl) (by kernel_rfl) (by kernel_rfl) (fun _ _ _ h => h) (Or.inr ⟨by rfl, rfl⟩) (by first | assumption | trivial) ?_
        change wpAnyH _ _ _ _ _ _ _ (Act.put _ (some 32) _) _; simp only [Act.put, List.setIfInBounds_toArray, List.set_cons_zero, List.set_cons_succ]
        refine wpAnyH_take (i := 7) (v := undef) rfl (by kernel_rfl) (by kernel_rfl) (by kernel_rfl) (fun _ _ _ h => h) (Or.inr ⟨by rfl, rfl⟩) (by first | assumption | trivial) ?_
        change wpAnyH _ _ _ _ _ _ _ (Act.put _ (some 33) _) _; simp only [Act.put, List.setIfInBounds_toArray, List.set_cons_zero, List.set_cons_succ]
        refine wpAnyH_take (i := 8) (v := undef) rfl (by kernel_rfl) (by kernel_rfl) (by kernel_rfl) (fun _ _ _ h => h) (Or.inr ⟨by rfl, rfl⟩) (by first | assumption | trivial) ?_
        change wpAnyH _ _ _ _ _ _ _ (Act.put _ (some 34) _) _; simp only [Act.put, List.setIfInBounds_toArray, List.set_cons_zero, List.set_cons_succ]
        refine wpAnyH_take (i := 9) (v := undef) rfl (by kernel_rfl) (by kernel_rfl) (by kernel_rfl) (fun _ _ _ h => h) (Or.inr ⟨by rfl, rfl⟩) (by first | assumption | trivial) ?_
        change wpAnyH _ _ _ _ _ _ _ (Act.put _ (some 35) _) _; simp only [Act.put, List.setIfInBounds_toArray, List.set_cons_zero, List.set_cons_succ]
        refine wpAnyH_take (i := 10) (v := undef) rfl (by kernel_rfl) (by kernel_rfl) (by kernel_rfl) (fun _ _ _ h => h) (Or.inr ⟨by rfl, rfl⟩) (by first | assumption | trivial) ?_
        change wpAnyH _ _ _ _ _ _ _ (Act.put _ (some 36) _) _; simp only [Act.put, List.setIfInBounds_toArray, List.set_cons_zero, List.set_cons_succ]
        refine wpAnyH_take (i := 11) (v := undef) rfl (by kernel_rfl) (by kernel_rfl) (by kernel_rfl) (fun _ _ _ h => h) (Or.inr ⟨by rfl, rfl⟩) (by first | assumption | trivial) ?_
        change wpAnyH _ _ _ _ _ _ _ (Act.put _ (some 37) _) _; simp only [Act.put, List.setIfInBounds_toArray, List.set_cons_zero, List.set_cons_succ]
        refine wpAnyH_take (i := 12) (v := undef) rfl (by kernel_rfl) (by kernel_rfl) (by kernel_rfl) (fun _ _ _ h => h) (Or.inr ⟨by rfl, rfl⟩) (by first | assumption | trivial) ?_
        change wpAnyH _ _ _ _ _ _ _ (Act.put _ (some 38) _) _; simp only [Act.put, List.setIfInBounds_toArray, List.set_cons_zero, List.set_cons_succ]
        refine wpAnyH_take (i := 13) (v := ?_) rfl (by kernel_rfl) (by kernel_rfl) (by kernel_rfl) (fun _ _ _ h => h) (Or.inl ⟨by rfl, ?_⟩) (by first | assumption | trivial) ?_
        rotate_left
        · intro w hSw; go_simp; (try with_reducible rfl)
        change wpAnyH _ _ _ _ _ _ _ (Act.put _ (some 39) _) _; simp only [Act.put, List.setIfInBounds_toArray, List.set_cons_zero, List.set_cons_succ]
        refine wpAnyH_done (by kernel_rfl) ?_ _
        rw [hWD]
        clear hHeld
        have h1W := HI.out.below hub HBW.out
        have v0 := h1W.1.cells.1
        obtain ⟨t0, t1, t2, t3⟩ := HROW.out WD h1W.1.but
        obtain ⟨gG, capG, WS, hrunS, hG⟩ := lk1_stay h1W hub HSK.out (by rw [HXU.out]; exact HPB.out) HS9.out HSF.out
        rw [HXU.out] at hrunS
        have HG : Hid _ := hG
        clear h1W hG
        have HRUN : Hid _ := hrunS
        go_wp2_with (at_builtin; go_must (refine Go.Lib.wpList_append_run _ rfl (.tmp 53) (.tmp 54) 22 22 rfl _ _ rfl rfl _ WS HRUN.out ?_))
        go_roundw
        case rel => exact ⟨k, _, _, _, _, _, _, by go_num, by omega, rfl, rfl, HG⟩
        case measure => simp [intOf]
      | true =>
        have hlD := HLT.out WD (HI.out.below hub hbD).1.but
        have cF := rfind_is vv nn XU (.slice la m lc) l WD hlD HRI.out (by rw [HM.out]; omega)
        have HPF : Hid (p XU = !findB l XU) := by
          unfold Hid
          rw [← HP.out]
          rfl
        clear hlD
        cases hFB : findB l XU with
        | true =>
          obtain ⟨FI, hFI⟩ : ∃ z : Nat, rfind l XU = (z : Int) := ⟨findI l XU, by unfold rfind; rw [if_pos hFB]⟩
          rw [hFI] at cF
          have HPB : Hid (p XU = false) := by
            unfold Hid
            rw [HPF.out, hFB]
            rfl
          have dF : decide ((FI : Int) < 0) = false := decide_eq_false (by omega)
          clear hFI hFB HPF
          go_upto_region 6 with fail
          refine wp_region_held_drew (S := fun W => W.cell? ⟨w.heap.size, 0, none⟩ = some (.int .i64 vv) ∧ W.cell? ⟨w.heap.size, 1, none⟩ = some (.int .i64 nn) ∧ W.cell? ⟨w.heap.size, 2, none⟩ = some (.slice la m lc) ∧ W.cell? ⟨ub, 0, none⟩ = some (.slice (some ⟨g, 0, none⟩) N c) ∧ W.cell? ⟨g, k * 4, none⟩ = some (.int .i64 XU)) (by kernel_rfl) ?_ (fun hHeld => ?_)
          · exact ⟨by simpa using b0, by simpa using b1, by simpa using b2, by simpa using r0, by simpa using q0⟩
          rw [hWD] at hHeld ⊢
          refine wpAnyH_take (i := 0) (v := ?_) rfl (by kernel_rfl) (by kernel_rfl) (by kernel_rfl) (fun _ _ _ h => h) (Or.inl ⟨by rfl, ?_⟩) (by first | assumption | trivial) ?_
          rotate_left
          · intro w hSw; go_simp; (try with_reducible rfl)
          change wpAnyH _ _ _ _ _ _ _ (Act.put _ (some 26) _) _; simp only [Act.put, List.setIfInBounds_toArray, List.set_cons_zero, List.set_cons_succ]
          refine wpAnyH_take (i := 1) (v := ?_) rfl (by kernel_rfl) (by kernel_rfl) (by kernel_rfl) (fun _ _ _ h => h) (Or.inl ⟨by rfl, ?_⟩) (by first | assumption | trivial) ?_
          rotate_left
          · intro w hSw; go_simp; (try with_reducible rfl)
          change wpAnyH _ _ _ _ _ _ _ (Act.put _ (some 27) _) _; simp only [Act.put, List.setIfInBounds_toArray, List.set_cons_zero, List.set_cons_succ]
          refine wpAnyH_take (i := 2) (v := ?_) rfl (by kernel_rfl) (by kernel_rfl) (by kernel_rfl) (fun _ _ _ h => h) (Or.inl ⟨by rfl, ?_⟩) (by first | assumption | trivial) ?_
          rotate_left
          · intro w hSw; go_simp; (try with_reducible rfl)
          change wpAnyH _ _ _ _ _ _ _ (Act.put _ (some 28) _) _; simp only [Act.put, List.setIfInBounds_toArray, List.set_cons_zero, List.set_cons_succ]
          refine wpAnyH_take (i := 3) (v := ?_) rfl (by kernel_rfl) (by kernel_rfl) (by kernel_rfl) (fun _ _ _ h => h) (Or.inl ⟨by rfl, ?_⟩) (by first | assumption | trivial) ?_
          rotate_left
          · intro w hSw; go_simp; (try with_reducible rfl)
          change wpAnyH _ _ _ _ _ _ _ (Act.put _ (some 29) _) _; simp only [Act.put, List.setIfInBounds_toArray, List.set_cons_zero, List.set_cons_succ]
          refine wpAnyH_take (i := 4) (v := ?_) rfl (by kernel_rfl) (by kernel_rfl) (by kernel_rfl) (fun _ _ _ h => h) (Or.inl ⟨by rfl, ?_⟩) (by first | assumption | trivial) ?_
          rotate_left
          · intro w hSw; go_simp; (try with_reducible rfl)
          change wpAnyH _ _ _ _ _ _ _ (Act.put _ (some 30) _) _; simp only [Act.put, List.setIfInBounds_toArray, List.set_cons_zero, List.set_cons_succ]
          refine wpAnyH_take (i := 5) (v := ?_) rfl (by kernel_rfl) (by kernel_rfl) (by kernel_rfl) (fun _ _ _ h => h) (Or.inl ⟨by rfl, ?_⟩) (by first | assumption | trivial) ?_
          rotate_left
          · intro w hSw; go_simp; (try with_reducible rfl)
          change wpAnyH _ _ _ _ _ _ _ (Act.put _ (some 31) _) _; simp only [Act.put, List.setIfInBounds_toArray, List.set_cons_zero, List.set_cons_succ]
          refine wpAnyH_take (i := 6) (v := ?_) rfl (by kernel_rfl) (by kernel_rfl) (by kernel_rfl) (fun _ _ _ h => h) (Or.inl ⟨by rfl, ?_⟩) (by first | assumption | trivial) ?_
          rotate_left
          · intro w hSw; go_simp; (try with_reducible rfl)
          change wpAnyH _ _ _ _ _ _ _ (Act.put _ (some 32) _) _; simp only [Act.put, List.setIfInBounds_toArray, List.set_cons_zero, List.set_cons_succ]
          refine wpAnyH_take (i := 7) (v := ?_) rfl (by kernel_rfl) (by kernel_rfl) (by kernel_rfl) (fun _ _ _ h => h) (Or.inl ⟨by rfl, ?_⟩) (by first | assumption | trivial) ?_
          rotate_left
          · intro w hSw; go_simp; (try with_reducible rfl)
          change wpAnyH _ _ _ _ _ _ _ (Act.put _ (some 33) _) _; simp only [Act.put, List.setIfInBounds_toArray, List.set_cons_zero, List.set_cons_succ]
          refine wpAnyH_take (i := 8) (v := ?_) rfl (by kernel_rfl) (by kernel_rfl) (by kernel_rfl) (fun _ _ _ h => h) (Or.inl ⟨by rfl, ?_⟩) (by first | assumption | trivial) ?_
          rotate_left
          · intro w hSw; go_simp; (try with_reducible rfl)
          change wpAnyH _ _ _ _ _ _ _ (Act.put _ (some 34) _) _; simp only [Act.put, List.setIfInBounds_toArray, List.set_cons_zero, List.set_cons_succ]
          refine wpAnyH_take (i := 9) (v := ?_) rfl (by kernel_rfl) (by kernel_rfl) (by kernel_rfl) (fun _ _ _ h => h) (Or.inl ⟨by rfl, ?_⟩) (by first | assumption | trivial) ?_
          rotate_left
          · intro w hSw; go_simp; (try with_reducible rfl)
          change wpAnyH _ _ _ _ _ _ _ (Act.put _ (some 35) _) _; simp only [Act.put, List.setIfInBounds_toArray, List.set_cons_zero, List.set_cons_succ]
          refine wpAnyH_take (i := 10) (v := ?_) rfl (by kernel_rfl) (by kernel_rfl) (by kernel_rfl) (fun _ _ _ h => h) (Or.inl ⟨by rfl, ?_⟩) (by first | assumption | trivial) ?_
          rotate_left
          · intro w hSw; go_simp; (try with_reducible rfl)
          change wpAnyH _ _ _ _ _ _ _ (Act.put _ (some 36) _) _; simp only [Act.put, List.setIfInBounds_toArray, List.set_cons_zero, List.set_cons_succ]
          refine wpAnyH_ready (rs := [11]) (by kernel_rfl) (by simp) ?_
          refine AllReadyH.cons rfl (fun K hK => ?_) AllReadyH.nil
          go_simp
          refine cF.mono ?_
          rintro e w5 ⟨rfl, hb5⟩
          have HBW : Hid (Below wr.heap.size wr w5) := hbD.trans (hb5.mono hbD.size)
          have h5W := HI.out.below hub HBW.out
          obtain ⟨e3, e0, e1, e2, _⟩ := h5W.1.cells
          obtain ⟨e4, _⟩ := HROW.out w5 h5W.1.but
          clear h5W hb5
          refine hK.out _ _ ?_ (fun hHeld => ?_)
          · exact ⟨e0, e1, e2, e3, e4⟩
          clear hK K
          refine wpAnyH_take (i := 12) (v := ?_) rfl (by kernel_rfl) (by kernel_rfl) (by kernel_rfl) (fun _ _ _ h => h) (Or.inl ⟨by rfl, ?_⟩) (by first | assumption | trivial) ?_
          rotate_left
          · intro w hSw; go_simp; (try with_reducible rfl)
          change wpAnyH _ _ _ _ _ _ _ (Act.put _ (some 38) _) _; simp only [Act.put, List.setIfInBounds_toArray, List.set_cons_zero, List.set_cons_succ]
          refine wpAnyH_take (i := 13) (v := ?_) rfl (by kernel_rfl) (by kernel_rfl) (by kernel_rfl) (fun _ _ _ h => h) (Or.inl ⟨by rfl, ?_⟩) (by first | assumption | trivial) ?_
          rotate_left
          · intro w hSw; go_simp; (try with_reducible rfl)
          change wpAnyH _ _ _ _ _ _ _ (Act.put _ (some 39) _) _; simp only [Act.put, List.setIfInBounds_toArray, List.set_cons_zero, List.set_cons_succ]
          refine wpAnyH_done (by kernel_rfl) ?_ _
          clear hHeld e0 e1 e2 e3 e4 cF
          have h1W := HI.out.below hub HBW.out
          have v0 := h1W.1.cells.1
          obtain ⟨t0, t1, t2, t3⟩ := HROW.out w5 h1W.1.but
          obtain ⟨gG, capG, WS, hrunS, hG⟩ := lk1_stay h1W hub HSK.out (by rw [HXU.out]; exact HPB.out) HS9.out HSF.out
          rw [HXU.out] at hrunS
          have HG : Hid _ := hG
          clear h1W hG
          have HRUN : Hid _ := hrunS
          go_wp2_with (at_builtin; go_must (refine Go.Lib.wpList_append_run _ rfl (.tmp 53) (.tmp 54) 22 22 rfl _ _ rfl rfl _ WS HRUN.out ?_))
          go_roundw
          case rel => exact ⟨k, _, _, _, _, _, _, by go_num, by omega, rfl, rfl, HG⟩
          case measure => simp [intOf]
        | false =>
          have hFI : rfind l XU = -1 := by unfold rfind; rw [if_neg (by rw [hFB]; simp)]
          rw [hFI] at cF
          have HPB : Hid (p XU = true) := by
            unfold Hid
            rw [HPF.out, hFB]
            rfl
          clear hFI hFB HPF
          go_upto_region 6 with fail
          refine wp_region_held_drew (S := fun W => W.cell? ⟨w.heap.size, 0, none⟩ = some (.int .i64 vv) ∧ W.cell? ⟨w.heap.size, 1, none⟩ = some (.int .i64 nn) ∧ W.cell? ⟨w.heap.size, 2, none⟩ = some (.slice la m lc) ∧ W.cell? ⟨ub, 0, none⟩ = some (.slice (some ⟨g, 0, none⟩) N c) ∧ W.cell? ⟨g, k * 4, none⟩ = some (.int .i64 XU)) (by kernel_rfl) ?_ (fun hHeld => ?_)
          · exact ⟨by simpa using b0, by simpa using b1, by simpa using b2, by simpa using r0, by simpa using q0⟩
          rw [hWD] at hHeld ⊢
          refine wpAnyH_take (i := 0) (v := ?_) rfl (by kernel_rfl) (by kernel_rfl) (by kernel_rfl) (fun _ _ _ h => h) (Or.inl ⟨by rfl, ?_⟩) (by first | assumption | trivial) ?_
          rotate_left
          · intro w hSw; go_simp; (try with_reducible rfl)
          change wpAnyH _ _ _ _ _ _ _ (Act.put _ (some 26) _) _; simp only [Act.put, List.setIfInBounds_toArray, List.set_cons_zero, List.set_cons_succ]
          refine wpAnyH_take (i := 1) (v := ?_) rfl (by kernel_rfl) (by kernel_rfl) (by kernel_rfl) (fun _ _ _ h => h) (Or.inl ⟨by rfl, ?_⟩) (by first | assumption | trivial) ?_
          rotate_left
          · intro w hSw; go_simp; (try with_reducible rfl)
          change wpAnyH _ _ _ _ _ _ _ (Act.put _ (some 27) _) _; simp only [Act.put, List.setIfInBounds_toArray, List.set_cons_zero, List.set_cons_succ]
          refine wpAnyH_take (i := 2) (v := ?_) rfl (by kernel_rfl) (by kernel_rfl) (by kernel_rfl) (fun _ _ _ h => h) (Or.inl ⟨by rfl, ?_⟩) (by first | assumption | trivial) ?_
          rotate_left
          · intro w hSw; go_simp; (try with_reducible rfl)
          change wpAnyH _ _ _ _ _ _ _ (Act.put _ (some 28) _) _; simp only [Act.put, List.setIfInBounds_toArray, List.set_cons_zero, List.set_cons_succ]
          refine wpAnyH_take (i := 3) (v := ?_) rfl (by kernel_rfl) (by kernel_rfl) (by kernel_rfl) (fun _ _ _ h => h) (Or.inl ⟨by rfl, ?_⟩) (by first | assumption | trivial) ?_
          rotate_left
          · intro w hSw; go_simp; (try with_reducible rfl)
          change wpAnyH _ _ _ _ _ _ _ (Act.put _ (some 29) _) _; simp only [Act.put, List.setIfInBounds_toArray, List.set_cons_zero, List.set_cons_succ]
          refine wpAnyH_take (i := 4) (v := ?_) rfl (by kernel_rfl) (by kernel_rfl) (by kernel_rfl) (fun _ _ _ h => h) (Or.inl ⟨by rfl, ?_⟩) (by first | assumption | trivial) ?_
          rotate_left
          · intro w hSw; go_simp; (try with_reducible rfl)
          change wpAnyH _ _ _ _ _ _ _ (Act.put _ (some 30) _) _; simp only [Act.put, List.setIfInBounds_toArray, List.set_cons_zero, List.set_cons_succ]
          refine wpAnyH_take (i := 5) (v := ?_) rfl (by kernel_rfl) (by kernel_rfl) (by kernel_rfl) (fun _ _ _ h => h) (Or.inl ⟨by rfl, ?_⟩) (by first | assumption | trivial) ?_
          rotate_left
          · intro w hSw; go_simp; (try with_reducible rfl)
          change wpAnyH _ _ _ _ _ _ _ (Act.put _ (some 31) _) _; simp only [Act.put, List.setIfInBounds_toArray, List.set_cons_zero, List.set_cons_succ]
          refine wpAnyH_take (i := 6) (v := ?_) rfl (by kernel_rfl) (by kernel_rfl) (by kernel_rfl) (fun _ _ _ h => h) (Or.inl ⟨by rfl, ?_⟩) (by first | assumption | trivial) ?_
          rotate_left
          · intro w hSw; go_simp; (try with_reducible rfl)
          change wpAnyH _ _ _ _ _ _ _ (Act.put _ (some 32) _) _; simp only [Act.put, List.setIfInBounds_toArray, List.set_cons_zero, List.set_cons_succ]
          refine wpAnyH_take (i := 7) (v := ?_) rfl (by kernel_rfl) (by kernel_rfl) (by kernel_rfl) (fun _ _ _ h => h) (Or.inl ⟨by rfl, ?_⟩) (by first | assumption | trivial) ?_
          rotate_left
          · intro w hSw; go_simp; (try with_reducible rfl)
          change wpAnyH _ _ _ _ _ _ _ (Act.put _ (some 33) _) _; simp only [Act.put, List.setIfInBounds_toArray, List.set_cons_zero, List.set_cons_succ]
          refine wpAnyH_take (i := 8) (v := ?_) rfl (by kernel_rfl) (by kernel_rfl) (by kernel_rfl) (fun _ _ _ h => h) (Or.inl ⟨by rfl, ?_⟩) (by first | assumption | trivial) ?_
          rotate_left
          · intro w hSw; go_simp; (try with_reducible rfl)
          change wpAnyH _ _ _ _ _ _ _ (Act.put _ (some 34) _) _; simp only [Act.put, List.setIfInBounds_toArray, List.set_cons_zero, List.set_cons_succ]
          refine wpAnyH_take (i := 9) (v := ?_) rfl (by kernel_rfl) (by kernel_rfl) (by kernel_rfl) (fun _ _ _ h => h) (Or.inl ⟨by rfl, ?_⟩) (by first | assumption | trivial) ?_
          rotate_left
          · intro w hSw; go_simp; (try with_reducible rfl)
          change wpAnyH _ _ _ _ _ _ _ (Act.put _ (some 35) _) _; simp only [Act.put, List.setIfInBounds_toArray, List.set_cons_zero, List.set_cons_succ]
          refine wpAnyH_take (i := 10) (v := ?_) rfl (by kernel_rfl) (by kernel_rfl) (by kernel_rfl) (fun _ _ _ h => h) (Or.inl ⟨by rfl, ?_⟩) (by first | assumption | trivial) ?_
          rotate_left
          · intro w hSw; go_simp; (try with_reducible rfl)
          change wpAnyH _ _ _ _ _ _ _ (Act.put _ (some 36) _) _; simp only [Act.put, List.setIfInBounds_toArray, List.set_cons_zero, List.set_cons_succ]
          refine wpAnyH_ready (rs := [11]) (by kernel_rfl) (by simp) ?_
          refine AllReadyH.cons rfl (fun K hK => ?_) AllReadyH.nil
          go_simp
          refine cF.mono ?_
          rintro e w5 ⟨rfl, hb5⟩
          have HBW : Hid (Below wr.heap.size wr w5) := hbD.trans (hb5.mono hbD.size)
          have h5W := HI.out.below hub HBW.out
          obtain ⟨e3, e0, e1, e2, _⟩ := h5W.1.cells
          obtain ⟨e4, _⟩ := HROW.out w5 h5W.1.but
          clear h5W hb5
          refine hK.out _ _ ?_ (fun hHeld => ?_)
          · exact ⟨e0, e1, e2, e3, e4⟩
          clear hK K
          refine wpAnyH_take (i := 12) (v := ?_) rfl (by kernel_rfl) (by kernel_rfl) (by kernel_rfl) (fun _ _ _ h => h) (Or.inl ⟨by rfl, ?_⟩) (by first | assumption | trivial) ?_
          rotate_left
          · intro w hSw; go_simp; (try with_reducible rfl)
          change wpAnyH _ _ _ _ _ _ _ (Act.put _ (some 38) _) _; simp only [Act.put, List.setIfInBounds_toArray, List.set_cons_zero, List.set_cons_succ]
          refine wpAnyH_take (i := 13) (v := ?_) rfl (by kernel_rfl) (by kernel_rfl) (by kernel_rfl) (fun _ _ _ h => h) (Or.inl ⟨by rfl, ?_⟩) (by first | assumption | trivial) ?_
          rotate_left
          · intro w hSw; go_simp; (try with_reducible rfl)
          change wpAnyH _ _ _ _ _ _ _ (Act.put _ (some 39) _) _; simp only [Act.put, List.setIfInBounds_toArray, List.set_cons_zero, List.set_cons_succ]
          refine wpAnyH_done (by kernel_rfl) ?_ _
          clear hHeld e0 e1 e2 e3 e4 cF
          have h1W := HI.out.below hub HBW.out
          obtain ⟨gG, capG, WG, hrunG, hG⟩ := lk1_gone h1W hub HSK.out (by rw [HXU.out]; exact HPB.out) HS9.out
          have HG : Hid _ := hG
          clear h1W hG
          have HRUN : Hid _ := hrunG
          go_wp2_with (at_builtin; go_must (refine Go.Lib.wpList_append_run _ rfl (.tmp 40) (.tmp 44) 79 79 rfl _ _ rfl rfl _ WG HRUN.out ?_))
          go_roundw
          case rel => exact ⟨k, _, _, _, _, _, _, by go_num, by omega, rfl, rfl, HG⟩
          case measure => simp [intOf]
    | zero =>
      have hk0 : (((0 : Nat) : Int) - 1) = -1 := rfl
      rw [hk0]
      obtain ⟨S1, hS1⟩ : ∃ T, keepS p S = T := ⟨_, rfl⟩
      obtain ⟨N1, hN1⟩ : ∃ T, goneN p (bk S 0) = T := ⟨_, rfl⟩
      have hS1e : lookS1 S l gone = S1 := by rw [look1_keep, HP.out, hS1]
      have hN1e : lookN1 S l gone = N1 := by rw [lookN1_gone, HP.out, hN1]
      have hI := HI.out
      unfold Lk1 at hI
      rw [List.drop_zero, hS1, hN1] at hI
      have h1l : n1 ≤ N := by rw [hI.2.1, ← hS1]; have := keepS_le p S; rw [HN.out] at this; exact this
      have h2l : n2 ≤ N := by rw [hI.2.2.1, ← hN1]; have := goneN_le p (bk S 0); rw [bk_len, HN.out] at this; omega
      have hfs1 : ∀ s ∈ S1, s.flags.length ≤ 1000 := fun s hs => HFS.out s (by rw [← hS1] at hs; exact (List.mem_filter.1 hs).1)
      have HFS1 : Hid (∀ s ∈ S1, s.flags.length ≤ 1000) := hfs1
      have HE1 : Hid (lookS1 S l gone = S1 ∧ lookN1 S l gone = N1) := ⟨hS1e, hN1e⟩
      obtain ⟨r0, _, _, _, rf⟩ := hI.1.cells
      have hW2 := hI.1.put hub (.slice va n1 c1)
      have hsetO : ∀ q, q ≠ ub → (wr.setCell ⟨ub, 0, none⟩ (.slice va n1 c1)).heap[q]? = wr.heap[q]? := fun q hq => Below.heap_setCell _ _ _ _ hq
      have hL2 : LOwn w (wr.setCell ⟨ub, 0, none⟩ (.slice va n1 c1)) (w.heap.size + 1) (.slice va n1 c1) (S1.map sgLt) := hI.2.2.2.1.same fun q hq _ _ => hsetO q (by omega)
      have hR2 : RNw w (wr.setCell ⟨ub, 0, none⟩ (.slice va n1 c1)) (w.heap.size + 1) (.slice vo n2 c2) N1 := hI.2.2.2.2.same fun q hq _ _ => hsetO q (by omega)
      have H2 : Hid (LkW w ub (.slice va n1 c1) vv nn (.slice la m lc) (wr.setCell ⟨ub, 0, none⟩ (.slice va n1 c1)) ∧ LOwn w (wr.setCell ⟨ub, 0, none⟩ (.slice va n1 c1)) (w.heap.size + 1) (.slice va n1 c1) (S1.map sgLt) ∧ RNw w (wr.setCell ⟨ub, 0, none⟩ (.slice va n1 c1)) (w.heap.size + 1) (.slice vo n2 c2) N1) := ⟨hW2, hL2, hR2⟩
      have HLN : Hid (S1.length = n1 ∧ N1.length = n2) := ⟨hI.2.1.symm, hI.2.2.1.symm⟩
      obtain ⟨u0, u1, u2, u3, _⟩ := hW2.cells
      obtain ⟨LU, hLU⟩ : ∃ z, lastS S1 = z := ⟨_, rfl⟩
      have HLU : Hid (lastS S1 = LU) := hLU
      have HRD : Hid (0 < n1 → ∃ g, va = some ⟨g, 0, none⟩ ∧ g ≠ ub ∧ (wr.setCell ⟨ub, 0, none⟩ (.slice va n1 c1)).cell? ⟨g, (n1 - 1) * 4, none⟩ = some (.int .i64 LU)) := fun h0 => by
        have hlt : n1 - 1 < S1.length := by rw [HLN.out.1]; omega
        obtain ⟨g, c9, fv, e9, hg9, _, q9, _⟩ := lown_at H2.out.2.1 (k := n1 - 1) (x := sgLt S1[n1 - 1]) (by rw [List.getElem?_map, List.getElem?_eq_getElem hlt]; rfl)
        injection e9 with e9 _ _
        refine ⟨g, e9, by omega, ?_⟩
        rw [q9, ← HLU.out]
        unfold lastS
        rw [List.getLast?_eq_getElem?, HLN.out.1, List.getElem?_eq_getElem hlt]
        rfl
      have HR0 : Hid (n1 = 0 → LU = 0) := fun h0 => by
        rw [← HLU.out, List.eq_nil_of_length_eq_zero (HLN.out.1.trans h0)]
        rfl
      clear hI hW2 hsetO hL2 hR2 hS1 hN1 hS1e hN1e hfs1 hLU HI hk0
      go_upto_if 66 with fail
      go_cut [11] (fun u wx => u = .int .i64 LU ∧ wx = wr.setCell ⟨ub, 0, none⟩ (.slice va n1 c1))
      case first =>
        by_cases h0 : 0 < n1
        · obtain ⟨g, rfl, _, q0⟩ := HRD.out h0
          have i0 : (0 : Int) < (n1 : Int) := by omega
          have d0 : decide ((0 : Int) < (n1 : Int)) = true := decide_eq_true i0
          obtain ⟨n9, rfl⟩ : ∃ n9, n1 = n9 + 1 := ⟨n1 - 1, by omega⟩
          rw [Nat.add_sub_cancel] at q0
          go_wp2_with fail
          go_meet
          case rel => exact ⟨rfl, rfl⟩
        · obtain rfl : n1 = 0 := by omega
          have hLU0 := HR0.out rfl
          subst hLU0
          go_wp2_with fail
          go_meet
          case rel => exact ⟨rfl, rfl⟩
      case rest =>
        obtain ⟨rfl, hwc⟩ := hcut
        have HWC : Hid (LkW w ub (.slice va n1 c1) vv nn (.slice la m lc) wc ∧ LOwn w wc (w.heap.size + 1) (.slice va n1 c1) (S1.map sgLt) ∧ RNw w wc (w.heap.size + 1) (.slice vo n2 c2) N1) := by
          unfold Hid
          rw [hwc]
          exact H2.out
        obtain ⟨u0, u1, u2, u3, _⟩ := HWC.out.1.cells
        clear hwc H2 HRD HR0
        go_wp2_with fail
        go_loopw [79] (fun i wr => ∃ (k : Nat) (va : Option Addr) (n3 c3 : Nat), i = .int .i64 (k : Int) ∧ k ≤ m ∧ Hid (LkW w ub (.slice va n3 c3) vv nn (.slice la m lc) wr ∧ n3 = (S1 ++ newS LU (l.take k)).length ∧ LOwn w wr (w.heap.size + 1) (.slice va n3 c3) ((S1 ++ newS LU (l.take k)).map sgLt) ∧ RNw w wr (w.heap.size + 1) (.slice vo n2 c2) N1)) (fun i _ => m - (intOf i).toNat)
        case atStart => exact ⟨0, va, n1, c1, rfl, Nat.zero_le _, HWC.out.1, by rw [show newS LU (l.take 0) = [] from rfl, List.append_nil, HLN.out.1], by rw [show newS LU (l.take 0) = [] from rfl, List.append_nil]; exact HWC.out.2.1, HWC.out.2.2⟩
        case round =>
          clear HWC u0 u1 u2 u3
          obtain ⟨k, va, n3, c3, rfl, hk, HI⟩ := hrel
          by_cases hlt : k < m
          · have hkl : k < l.length := by rw [HM.out]; exact hlt
            obtain ⟨x, hx⟩ : ∃ x, l[k] = x := ⟨_, rfl⟩
            have hxk : l[k]? = some x := by rw [List.getElem?_eq_getElem hkl, hx]
            obtain ⟨lb, lo, rfl, hat⟩ : ∃ b o, la = some ⟨b, o, none⟩ ∧ ∀ (j : Nat) x, l[j]? = some x → LtAt w b (o + j * 4) x := by
              rcases HLA.out with h | h
              · rw [h] at hkl; simp at hkl
              · exact h
            obtain ⟨_, ⟨fw, gw, sw⟩, _, _⟩ := hat k x hxk
            obtain ⟨q0, ⟨fv, q1, hsf⟩, q2, q3⟩ := (hat k x hxk).but HNS.out HI.out.1.but (Nat.le_refl _)
            obtain rfl : fw = fv := by
              have hne : lb ≠ ub := fun e => by
                obtain ⟨_, _, _, z4⟩ := hat k x hxk
                rw [e] at z4
                exact HNS.out _ _ z4
              have := (HI.out.1.but.cell (p := ⟨lb, _, none⟩) (World.block_lt_of_cell? _ _ gw) hne).trans gw
              rw [this] at q1
              exact Option.some.inj q1
            obtain ⟨fa, fc, hfv, hfr⟩ := id sw
            obtain ⟨XU, hXU⟩ : ∃ z, x.uid = z := ⟨_, rfl⟩
            obtain ⟨XD, hXD⟩ : ∃ z, x.day = z := ⟨_, rfl⟩
            obtain ⟨XT, hXT⟩ : ∃ z : ByteArray, ⟨x.text.toArray⟩ = z := ⟨_, rfl⟩
            obtain ⟨FL, hFL⟩ : ∃ z, x.flags.length = z := ⟨_, rfl⟩
            have HNX : Hid (newS LU (l.take (k + 1)) = newS LU (l.take k) ++ (if LU < XU then [⟨XU, x.flags⟩] else [])) := by
              unfold Hid
              rw [newS_next hxk, ← hXU]
              rfl
            rw [hXU] at q0
            rw [hXD] at q2
            rw [hXT] at q3
            rw [hFL] at hfv
            subst hfv
            have HSF : Hid (Sl w (.slice fa FL fc) x.flags) := sw
            have hn3 : n3 ≤ 900 := by
              rw [HI.out.2.1]
              have h1 := newS_le LU (l.take k)
              have h2 : (l.take k).length ≤ l.length := by rw [List.length_take]; omega
              have h3 := HM.out
              rw [List.length_append, HLN.out.1]; omega
            have bB : Below wr.heap.size wr (wr.alloc (.cells #[.int .i64 XU, .slice fa FL fc, .int .i64 XD, .string XT] 51)) := (Below.refl _ _).alloc (Nat.le_refl _) _
            have eB := heap_alloc_new wr (.cells #[.int .i64 XU, .slice fa FL fc, .int .i64 XD, .string XT] 51)
            obtain ⟨v0, _⟩ := HI.out.1.cells
            clear hx hxk hat sw gw hsf hfr hXU hXD hXT hFL hkl
            by_cases hgt : LU < XU
            · have dgt : decide (LU < XU) = true := decide_eq_true hgt
              go_upto_region 18 with fail
              obtain ⟨WA, hWA⟩ : ∃ W, wr.alloc (.cells #[.int .i64 XU, .slice fa FL fc, .int .i64 XD, .string XT] 51) = W := ⟨_, rfl⟩
              rw [hWA] at bB eB ⊢
              obtain ⟨LB, hLB⟩ : ∃ B, wr.heap.size = B := ⟨_, rfl⟩
              rw [hLB] at bB eB ⊢
              have hsz0 := HI.out.1.size
              have zA : WA.heap.size = LB + 1 := by rw [← hWA, World.size_alloc, hLB]
              have a0 : WA.cell? ⟨LB, 0, none⟩ = some (.int .i64 XU) := rd_cell eB rfl
              have a1 : WA.cell? ⟨LB, 1, none⟩ = some (.slice fa FL fc) := rd_cell eB rfl
              obtain ⟨WD, hWD⟩ : ∃ W, WA.drew = W := ⟨_, rfl⟩
              have hDh : WD.heap = WA.heap := by rw [← hWD]; rfl
              have hbD : Below wr.heap.size wr WD := by rw [hLB, ← hWD]; exact bB.trans ((Below.refl _ _).drew)
              have hWk := HI.out.1.below hub hbD
              have eD : WD.heap[LB]? = some (.cells #[.int .i64 XU, .slice fa FL fc, .int .i64 XD, .string XT] 51 (0, 0)) := by rw [hDh]; exact eB
              obtain ⟨d0, _⟩ := hWk.cells
              have hLD : LOwn w WD (w.heap.size + 1) (.slice va n3 c3) ((S1 ++ newS LU (l.take k)).map sgLt) := HI.out.2.2.1.same fun q _ hq _ => hbD.block q hq
              have hRD : RNw w WD (w.heap.size + 1) (.slice vo n2 c2) N1 := HI.out.2.2.2.same fun q _ hq _ => hbD.block q hq
              obtain ⟨W8, g9, cap9, W9, hW8, k8, hrun, k9, kf9, HLX, HS9⟩ := vw_push (w := WD) (ub := ub) (LB := LB) (U := XU) hWk.view (by omega) hLD (by rw [List.length_map]; exact HI.out.2.1.symm) (by omega) HSF.out (by rw [hDh, zA]; omega) eD (fun e => by have := (HI.out.2.2.1.blk e).2; omega) (by omega)
              have HFIN : Hid (LkW w ub (.slice (some ⟨g9, 0, none⟩) (n3 + 1) cap9) vv nn (.slice (some ⟨lb, lo, none⟩) m lc) (W9.setCell ⟨ub, 0, none⟩ (.slice (some ⟨g9, 0, none⟩) (n3 + 1) cap9)) ∧ n3 + 1 = (S1 ++ newS LU (l.take (k + 1))).length ∧ LOwn w (W9.setCell ⟨ub, 0, none⟩ (.slice (some ⟨g9, 0, none⟩) (n3 + 1) cap9)) (w.heap.size + 1) (.slice (some ⟨g9, 0, none⟩) (n3 + 1) cap9) ((S1 ++ newS LU (l.take (k + 1))).map sgLt) ∧ RNw w (W9.setCell ⟨ub, 0, none⟩ (.slice (some ⟨g9, 0, none⟩) (n3 + 1) cap9)) (w.heap.size + 1) (.slice vo n2 c2) N1) := by
                obtain ⟨f1, f2, f3, f4⟩ := HS9.out
                have hNE : S1 ++ newS LU (l.take (k + 1)) = (S1 ++ newS LU (l.take k)) ++ [⟨XU, x.flags⟩] := by rw [HNX.out, if_pos hgt, List.append_assoc]
                refine ⟨⟨f1, ?_, hWk.but.trans (f3.less (by omega)), Nat.le_trans hWk.size f3.size⟩, by rw [hNE, List.length_append, ← HI.out.2.1]; rfl, ?_, ?_⟩
                · exact (f4 _ (by have := hWk.size; omega) (by omega) fun e => by have := (hLD.blk e).1; omega).trans hWk.box
                · rw [hNE, List.map_append]; exact f2
                · exact hRD.same fun q hq hql e => f4 q hql (by omega) (hRD.apart hLD e)
              clear hWA eB bB hLD hRD hbD HS9 hWk eD hDh zA HSF HNX
              refine wp_region_held_drew (S := fun W => W.cell? ⟨LB, 0, none⟩ = some (.int .i64 XU) ∧ W.cell? ⟨LB, 1, none⟩ = some (.slice fa FL fc)) (by kernel_rfl) ?_ (fun hHeld => ?_)
              · exact ⟨by simpa using a0, by simpa using a1⟩
              rw [hWD] at hHeld ⊢
              refine wpAnyH_take (i := 0) (v := ?_) rfl (by kernel_rfl) (by kernel_rfl) (by kernel_rfl) (fun _ _ _ h => h) (Or.inl ⟨by rfl, ?_⟩) (by first | assumption | trivial) ?_
              rotate_left
              · intro w hSw; go_simp; (try with_reducible rfl)
              change wpAnyH _ _ _ _ _ _ _ (Act.put _ (some 87) _) _; simp only [Act.put, List.setIfInBounds_toArray, List.set_cons_zero, List.set_cons_succ]
              refine wpAnyH_take (i := 1) (v := ?_) rfl (by kernel_rfl) (by kernel_rfl) (by kernel_rfl) (fun _ _ _ h => h) (Or.inl ⟨by rfl, ?_⟩) (by first | assumption | trivial) ?_
              rotate_left
              · intro w hSw; go_simp; (try with_reducible rfl)
              change wpAnyH _ _ _ _ _ _ _ (Act.put _ (some 88) _) _; simp only [Act.put, List.setIfInBounds_toArray, List.set_cons_zero, List.set_cons_succ]
              refine wpAnyH_take (i := 2) (v := ?_) rfl (by kernel_rfl) (by kernel_rfl) (by kernel_rfl) (fun _ _ _ h => h) (Or.inl ⟨by rfl, ?_⟩) (by first | assumption | trivial) ?_
              rotate_left
              · intro w hSw; go_simp; (try with_reducible rfl)
              change wpAnyH _ _ _ _ _ _ _ (Act.put _ (some 89) _) _; simp only [Act.put, List.setIfInBounds_toArray, List.set_cons_zero, List.set_cons_succ]
              refine wpAnyH_take (i := 3) (v := ?_) rfl (by kernel_rfl) (by kernel_rfl) (by kernel_rfl) (fun _ _ _ h => h) (Or.inl ⟨by rfl, ?_⟩) (by first | assumption | trivial) ?_
              rotate_left
              · intro w hSw; go_simp; (try with_reducible rfl)
              change wpAnyH _ _ _ _ _ _ _ (Act.put _ (some 90) _) _; simp only [Act.put, List.setIfInBounds_toArray, List.set_cons_zero, List.set_cons_succ]
              refine wpAnyH_take (i := 5) (v := ?_) rfl (by kernel_rfl) (by kernel_rfl) (by kernel_rfl) (fun _ _ _ h => h) (Or.inl ⟨by rfl, ?_⟩) (by first | assumption | trivial) ?_
              rotate_left
              · intro w hSw; go_simp; (try with_reducible rfl)
              change wpAnyH _ _ _ _ _ _ _ (Act.put _ (some 92) _) _; simp only [Act.put, List.setIfInBounds_toArray, List.set_cons_zero, List.set_cons_succ]
              refine wpAnyH_take (i := 6) (v := ?_) rfl (by kernel_rfl) (by kernel_rfl) (by kernel_rfl) (fun _ _ _ h => h) (Or.inl ⟨by rfl, ?_⟩) (by first | assumption | trivial) ?_
              rotate_left
              · intro w hSw; go_simp; (try with_reducible rfl)
              change wpAnyH _ _ _ _ _ _ _ (Act.put _ (some 93) _) _; simp only [Act.put, List.setIfInBounds_toArray, List.set_cons_zero, List.set_cons_succ]
              refine wpAnyH_take (i := 7) (v := ?_) rfl (by kernel_rfl) (by kernel_rfl) (by kernel_rfl) (fun _ _ _ h => h) (Or.inl ⟨by rfl, ?_⟩) (by first | assumption | trivial) ?_
              rotate_left
              · intro w hSw; go_simp; (try with_reducible rfl)
              change wpAnyH _ _ _ _ _ _ _ (Act.put _ (some 94) _) _; simp only [Act.put, List.setIfInBounds_toArray, List.set_cons_zero, List.set_cons_succ]
              refine wpAnyH_take (i := 8) (v := ?_) rfl (by kernel_rfl) (by kernel_rfl) (by kernel_rfl) (fun _ _ _ h => h) (Or.inl ⟨by rfl, ?_⟩) (by first | assumption | trivial) ?_
              rotate_left
              · intro w hSw; go_simp; (try with_reducible rfl)
              change wpAnyH _ _ _ _ _ _ _ (Act.put _ (some 95) _) _; simp only [Act.put, List.setIfInBounds_toArray, List.set_cons_zero, List.set_cons_succ]
              refine wpAnyH_take (i := 9) (v := ?_) rfl (by kernel_rfl) (by kernel_rfl) (by kernel_rfl) (fun _ _ _ h => h) (Or.inl ⟨by rfl, ?_⟩) (by first | assumption | trivial) ?_
              rotate_left
              · intro w hSw; go_simp; (try with_reducible rfl)
              change wpAnyH _ _ _ _ _ _ _ (Act.put _ (some 96) _) _; simp only [Act.put, List.setIfInBounds_toArray, List.set_cons_zero, List.set_cons_succ]
              refine wpAnyH_ready (rs := [4, 10]) (by kernel_rfl) (by simp) ?_
              refine AllReadyH.cons rfl (fun K hK => ?_) ?_
              · go_simp
                refine hK.out _ _ ?_ (fun hHeld => ?_)
                · exact hHeld
                clear hK K
                refine wpAnyH_ready (rs := [10]) (by kernel_rfl) (by simp) ?_
                refine AllReadyH.cons rfl (fun K hK => ?_) AllReadyH.nil
                go_simp
                refine hK.out _ _ ?_ (fun hHeld => ?_)
                · exact HLX.out _ (Or.inl rfl)
                clear hK K
                refine wpAnyH_ready (rs := [11]) (by kernel_rfl) (by simp) ?_
                refine AllReadyH.cons rfl (fun K hK => ?_) AllReadyH.nil
                refine step_app rfl (.tmp 91) (.tmp 97) 22 rfl _ _ _ rfl rfl hrun ?_
                refine hK.out _ _ ?_ (fun hHeld => ?_)
                · exact HLX.out _ (Or.inr (Or.inl rfl))
                clear hK K
                refine wpAnyH_take (i := 12) (v := ?_) rfl (by kernel_rfl) (by kernel_rfl) (by kernel_rfl) (fun _ _ _ h => h) (Or.inl ⟨by rfl, ?_⟩) (by first | assumption | trivial) ?_
                rotate_left
                · intro w hSw; go_simp; (try with_reducible rfl)
                refine wpAnyH_take (i := 13) (v := ?_) rfl (by kernel_rfl) (by kernel_rfl) (by kernel_rfl) (fun _ _ _ h => h) (Or.inl ⟨by rfl, ?_⟩) (by first | assumption | trivial) ?_
                rotate_left
                · intro w hSw; go_simp; (try with_reducible rfl)
                refine wpAnyH_ready (rs := [14]) (by kernel_rfl) (by simp) ?_
                refine AllReadyH.cons rfl (fun K hK => ?_) AllReadyH.nil
                go_simp
                refine hK.out _ _ ?_ (fun hHeld => ?_)
                · exact HLX.out _ (Or.inr (Or.inr rfl))
                clear hK K
                refine wpAnyH_done (by kernel_rfl) ?_ _
                go_wp2_with fail
                go_roundw
                case rel => exact ⟨k + 1, _, _, _, by go_num, by omega, HFIN⟩
                case measure => simp [intOf]; omega
              refine AllReadyH.cons rfl (fun K hK => ?_) AllReadyH.nil
              go_simp
              refine hK.out _ _ ?_ (fun hHeld => ?_)
              · exact HLX.out _ (Or.inl rfl)
              clear hK K
              refine wpAnyH_ready (rs := [4]) (by kernel_rfl) (by simp) ?_
              refine AllReadyH.cons rfl (fun K hK => ?_) AllReadyH.nil
              go_simp
              refine hK.out _ _ ?_ (fun hHeld => ?_)
              · exact hHeld
              clear hK K
              refine wpAnyH_ready (rs := [11]) (by kernel_rfl) (by simp) ?_
              refine AllReadyH.cons rfl (fun K hK => ?_) AllReadyH.nil
              refine step_app rfl (.tmp 91) (.tmp 97) 22 rfl _ _ _ rfl rfl hrun ?_
              refine hK.out _ _ ?_ (fun hHeld => ?_)
              · exact HLX.out _ (Or.inr (Or.inl rfl))
              clear hK K
              refine wpAnyH_take (i := 12) (v := ?_) rfl (by kernel_rfl) (by kernel_rfl) (by kernel_rfl) (fun _ _ _ h => h) (Or.inl ⟨by rfl, ?_⟩) (by first | assumption | trivial) ?_
              rotate_left
              · intro w hSw; go_simp; (try with_reducible rfl)
              refine wpAnyH_take (i := 13) (v := ?_) rfl (by kernel_rfl) (by kernel_rfl) (by kernel_rfl) (fun _ _ _ h => h) (Or.inl ⟨by rfl, ?_⟩) (by first | assumption | trivial) ?_
              rotate_left
              · intro w hSw; go_simp; (try with_reducible rfl)
              refine wpAnyH_ready (rs := [14]) (by kernel_rfl) (by simp) ?_
              refine AllReadyH.cons rfl (fun K hK => ?_) AllReadyH.nil
              go_simp
              refine hK.out _ _ ?_ (fun hHeld => ?_)
              · exact HLX.out _ (Or.inr (Or.inr rfl))
              clear hK K
              refine wpAnyH_done (by kernel_rfl) ?_ _
              go_wp2_with fail
              go_roundw
              case rel => exact ⟨k + 1, _, _, _, by go_num, by omega, HFIN⟩
              case measure => simp [intOf]; omega
            · have dgt : decide (LU < XU) = false := decide_eq_false hgt
              have HFIN : Hid (LkW w ub (.slice va n3 c3) vv nn (.slice (some ⟨lb, lo, none⟩) m lc) (wr.alloc (.cells #[.int .i64 XU, .slice fa FL fc, .int .i64 XD, .string XT] 51)) ∧ n3 = (S1 ++ newS LU (l.take (k + 1))).length ∧ LOwn w (wr.alloc (.cells #[.int .i64 XU, .slice fa FL fc, .int .i64 XD, .string XT] 51)) (w.heap.size + 1) (.slice va n3 c3) ((S1 ++ newS LU (l.take (k + 1))).map sgLt) ∧ RNw w (wr.alloc (.cells #[.int .i64 XU, .slice fa FL fc, .int .i64 XD, .string XT] 51)) (w.heap.size + 1) (.slice vo n2 c2) N1) := by
                have hNE : S1 ++ newS LU (l.take (k + 1)) = S1 ++ newS LU (l.take k) := by rw [HNX.out, if_neg hgt, List.append_nil]
                unfold Hid
                rw [hNE]
                exact ⟨HI.out.1.below hub bB, HI.out.2.1, HI.out.2.2.1.same fun q _ hq _ => bB.block q hq, HI.out.2.2.2.same fun q _ hq _ => bB.block q hq⟩
              clear HSF HI HNX bB eB
              go_wp2_with fail
              go_roundw
              case rel => exact ⟨k + 1, _, _, _, by go_num, by omega, HFIN⟩
              case measure => simp [intOf]; omega
          · obtain rfl : k = m := by omega
            rename_i hrsh
            obtain ⟨NW, hNW⟩ : ∃ T, newS LU l = T := ⟨_, rfl⟩
            have hI := HI.out
            rw [List.take_of_length_le (by rw [HM.out]; exact Nat.le_refl _), hNW] at hI
            have HNW : Hid (newS LU l = NW) := hNW
            have hn3 : n3 ≤ 900 ∧ n1 ≤ n3 := by
              rw [hI.2.1, List.length_append, HLN.out.1, ← hNW]
              have h1 := newS_le LU l
              have h3 := HM.out
              omega
            obtain ⟨v0, _⟩ := hI.1.cells
            have HI2 : Hid (LkW w ub (.slice va n3 c3) vv nn (.slice la k lc) wr ∧ n3 = (S1 ++ NW).length ∧ LOwn w wr (w.heap.size + 1) (.slice va n3 c3) ((S1 ++ NW).map sgLt) ∧ RNw w wr (w.heap.size + 1) (.slice vo n2 c2) N1) := hI
            obtain ⟨N2, hN2⟩ : ∃ T, N1 ++ (if 0 < NW.length then [(⟨2, (n3 : Int), []⟩ : Nw)] else []) = T := ⟨_, rfl⟩
            have HN2 : Hid (N1 ++ (if 0 < NW.length then [(⟨2, (n3 : Int), []⟩ : Nw)] else []) = N2) := hN2
            have HNL : Hid (NW.length = n3 - n1) := by
              show NW.length = n3 - n1
              have := hI.2.1
              rw [List.length_append, HLN.out.1] at this
              omega
            clear hI hNW HI hN2
            go_upto_if 108 with fail
            go_cut [7] (fun ov wx => ∃ (vo : Option Addr) (n4 c4 : Nat), ov = .slice vo n4 c4 ∧ Hid (n4 = N2.length ∧ LkW w ub (.slice va n3 c3) vv nn (.slice la k lc) wx ∧ LOwn w wx (w.heap.size + 1) (.slice va n3 c3) ((S1 ++ NW).map sgLt) ∧ RNw w wx (w.heap.size + 1) (.slice vo n4 c4) N2))
            case first =>
              by_cases hgt : n1 < n3
              · have dgt : decide ((n1 : Int) < (n3 : Int)) = true := decide_eq_true (by omega)
                have dgt2 : decide (n1 < n3) = true := decide_eq_true hgt
                have hNe : N2 = N1 ++ [⟨2, (n3 : Int), []⟩] := by rw [← HN2.out, if_pos (by rw [HNL.out]; omega)]
                have hRR := HI2.out.2.2.2
                rw [← HLN.out.2] at hRR
                have hszz := HI2.out.1.size
                obtain ⟨g, cap, W, hrun, hO, k1, k2, k3, k4, k5⟩ := rnw_push hRR (by rw [HLN.out.2]; omega) ⟨2, (n3 : Int), []⟩ (.slice none 0 0) (sl_nil _) hszz
                rw [HLN.out.2] at hrun hO k5
                have HRUN : Hid _ := hrun
                have HD : Hid (n2 + 1 = N2.length ∧ LkW w ub (.slice va n3 c3) vv nn (.slice la k lc) W ∧ LOwn w W (w.heap.size + 1) (.slice va n3 c3) ((S1 ++ NW).map sgLt) ∧ RNw w W (w.heap.size + 1) (.slice (some ⟨g, 0, none⟩) (n2 + 1) cap) N2) := by
                  obtain ⟨g1, g2, g3, g4⟩ := HI2.out
                  refine ⟨by rw [hNe, List.length_append, HLN.out.2]; rfl, ?_, g3.same fun q _ hq e => k5 q hq (g3.apart g4 e), by rw [hNe]; exact hO⟩
                  obtain ⟨rows, r1, _⟩ := g4
                  exact g1.keep hub ⟨k1, k2, k3, k4, fun q hq => k5 q (by omega) fun e => by have := (r1.lt q e).1; omega⟩
                clear hRR hrun hO k1 k2 k3 k4 k5 hNe HI2
                go_wp2_with (at_builtin; go_must (refine Go.Lib.wpList_append_run _ rfl (.tmp 109) (.tmp 116) 79 79 rfl _ _ rfl rfl _ W HRUN.out ?_))
                go_meet
                case rel => exact ⟨_, _, _, rfl, HD⟩
              · have dgt : decide ((n1 : Int) < (n3 : Int)) = false := decide_eq_false (by omega)
                have dgt2 : decide (n1 < n3) = false := decide_eq_false hgt
                have hNe : N2 = N1 := by rw [← HN2.out, if_neg (by rw [HNL.out]; omega), List.append_nil]
                have HD : Hid (n2 = N2.length ∧ LkW w ub (.slice va n3 c3) vv nn (.slice la k lc) wr ∧ LOwn w wr (w.heap.size + 1) (.slice va n3 c3) ((S1 ++ NW).map sgLt) ∧ RNw w wr (w.heap.size + 1) (.slice vo n2 c2) N2) := by
                  obtain ⟨g1, g2, g3, g4⟩ := HI2.out
                  exact ⟨by rw [hNe, HLN.out.2], g1, g3, by rw [hNe]; exact g4⟩
                clear hNe HI2
                go_wp2_with fail
                go_meet
                case rel => exact ⟨_, _, _, rfl, HD⟩
            case rest =>
              obtain ⟨vo4, n4, c4, rfl, HC⟩ := hcut
              have HL3 : Hid (Lk3 w ub (.slice va n3 c3) vv nn (.slice la k lc) l S1 NW N2 0 (.slice vo4 n4 c4) n4 wc) := by
                obtain ⟨g1, g2, g3, g4⟩ := HC.out
                refine ⟨g2, by rw [List.take_zero, show learnN l 0 [] = [] from rfl, List.append_nil]; exact g1, ?_, by rw [List.take_zero, show learnN l 0 [] = [] from rfl, List.append_nil]; exact g4⟩
                unfold learnT
                rw [List.take_zero, List.map_nil, List.nil_append, List.drop_zero]
                exact g3
              have HN1 : Hid ((S1 ++ NW).length = n3) := HI2.out.2.1.symm
              have HN29 : Hid (∀ j, (N2 ++ learnN l 0 (S1.take j)).length ≤ 1999) := fun j => by
                have h1 := learnN_le l 0 (S1.take j)
                have h2 : (S1.take j).length ≤ S1.length := by rw [List.length_take]; omega
                have h3 : N2.length ≤ n2 + 1 := by
                  rw [← HN2.out, List.length_append, HLN.out.2]
                  split <;> simp
                have h4 := HLN.out.1
                rw [List.length_append]
                omega
              obtain ⟨m, hmk⟩ : ∃ z, z = k := ⟨_, rfl⟩
              subst hmk
              clear HC HI2 v0 HNL
              go_wp2_with fail
              go_loopw [7, 119] (fun ov i wr => ∃ (k : Nat) (vo : Option Addr) (n2 c2 : Nat), i = .int .i64 (k : Int) ∧ k ≤ n1 ∧ ov = .slice vo n2 c2 ∧ Hid (Lk3 w ub (.slice va n3 c3) vv nn (.slice la m lc) l S1 NW N2 k (.slice vo n2 c2) n2 wr)) (fun _ i _ => n1 - (intOf i).toNat)
              case atStart => exact ⟨0, vo4, n4, c4, rfl, Nat.zero_le _, rfl, HL3.out⟩
              case round =>
                clear HL3
                obtain ⟨k, vo, n2, c2, rfl, hk, rfl, HI⟩ := hrel
                by_cases hlt : k < n1
                · have hkl : k < S1.length := by rw [HLN.out.1]; exact hlt
                  obtain ⟨s, hs⟩ : ∃ s, S1[k] = s := ⟨_, rfl⟩
                  have hsk : S1[k]? = some s := by rw [List.getElem?_eq_getElem hkl, hs]
                  have HSK : Hid (S1[k]? = some s) := hsk
                  obtain ⟨g, cg, fv, ev, hgb, hgl, t0, t1, t2, t3, hsf⟩ := lown_at HI.out.2.2.1 (k := k) (x := sgLt s) (by rw [List.getElem?_map, learnT_at hsk]; rfl)
                  rw [List.length_map, learnT_len, HN1.out] at ev
                  injection ev with ev _ ec
                  subst ev
                  subst ec
                  obtain ⟨fa, fc, rfl, hfr⟩ := id hsf
                  obtain ⟨XU, hXU⟩ : ∃ z, s.uid = z := ⟨_, rfl⟩
                  have HXU : Hid (s.uid = XU) := hXU
                  obtain ⟨FL, hFL⟩ : ∃ z, (sgLt s).flags.length = z := ⟨_, rfl⟩
                  rw [hFL] at t1 hsf
                  have HSF : Hid (Sl w (.slice fa FL fc) s.flags ∧ s.flags.length ≤ 1000) := ⟨hsf, HFS1.out s (List.mem_of_getElem? hsk)⟩
                  have HROW : Hid (∀ W, Below wr.heap.size wr W → W.cell? ⟨g, k * 4, none⟩ = some (.int .i64 XU) ∧ W.cell? ⟨g, k * 4 + 1, none⟩ = some (.slice fa FL fc) ∧ g < W.heap.size) := fun W hW => by
                    have ec : ∀ i, W.cell? ⟨g, i, none⟩ = wr.cell? ⟨g, i, none⟩ := fun i => hW.cell (p := ⟨g, i, none⟩) hgl
                    refine ⟨(ec _).trans ?_, (ec _).trans t1, Nat.lt_of_lt_of_le hgl hW.size⟩
                    rw [t0, ← hXU]
                    rfl
                  have i1 : (0 : Int) ≤ (k : Int) := by omega
                  have i2 : (k : Int) < (n3 : Int) := by omega
                  obtain ⟨r0, b0, b1, b2, _⟩ := HI.out.1.cells
                  obtain ⟨q0, _⟩ := HROW.out wr (Below.refl _ _)
                  obtain ⟨WD, hWD⟩ : ∃ W, wr.drew = W := ⟨_, rfl⟩
                  have hbD : Below wr.heap.size wr WD := by rw [← hWD]; exact (Below.refl _ _).drew
                  have hlD := HLT.out WD (HI.out.below hub hbD).1.but
                  have cF := rfind_is vv nn XU (.slice la m lc) l WD hlD HRI.out (by rw [HM.out]; omega)
                  obtain ⟨n1', hn1'⟩ : ∃ z, z = n3 := ⟨_, rfl⟩
                  have HN29k : Hid ((N2 ++ learnN l 0 (S1.take k)).length ≤ 1999) := HN29.out k
                  clear hs hsk hsf hfr hXU hFL t0 t1 t2 t3 hkl hlD hn1'
                  cases hFB : findB l XU with
                  | false =>
                    have hFI : rfind l XU = -1 := by unfold rfind; rw [if_neg (by rw [hFB]; simp)]
                    rw [hFI] at cF
                    have HNOL : Hid (learn1 l s = s ∧ news1 l k s = []) := by
                      have hn : flagsOf l s.uid = none := flagsOf_none (by rw [HXU.out]; exact hFB)
                      exact ⟨by unfold learn1; rw [hn], by unfold news1; rw [hn]⟩
                    clear hFI hFB
                    go_upto_region 25 with fail
                    refine wp_region_held_drew (S := fun W => W.cell? ⟨w.heap.size, 0, none⟩ = some (.int .i64 vv) ∧ W.cell? ⟨w.heap.size, 1, none⟩ = some (.int .i64 nn) ∧ W.cell? ⟨w.heap.size, 2, none⟩ = some (.slice la m lc) ∧ W.cell? ⟨ub, 0, none⟩ = some (.slice (some ⟨g, 0, none⟩) n3 c3) ∧ W.cell? ⟨g, k * 4, none⟩ = some (.int .i64 XU)) (by kernel_rfl) ?_ (fun hHeld => ?_)
                    · exact ⟨by simpa using b0, by simpa using b1, by simpa using b2, by simpa using r0, by simpa using q0⟩
                    rw [hWD] at hHeld ⊢
                    refine wpAnyH_take (i := 0) (v := ?_) rfl (by kernel_rfl) (by kernel_rfl) (by kernel_rfl) (fun _ _ _ h => h) (Or.inl ⟨by rfl, ?_⟩) (by first | assumption | trivial) ?_
                    rotate_left
                    · intro w hSw; go_simp; (try with_reducible rfl)
                    change wpAnyH _ _ _ _ _ _ _ (Act.put _ (some 122) _) _; simp only [Act.put, List.setIfInBounds_toArray, List.set_cons_zero, List.set_cons_succ]
                    refine wpAnyH_take (i := 1) (v := ?_) rfl (by kernel_rfl) (by kernel_rfl) (by kernel_rfl) (fun _ _ _ h => h) (Or.inl ⟨by rfl, ?_⟩) (by first | assumption | trivial) ?_
                    rotate_left
                    · intro w hSw; go_simp; (try with_reducible rfl)
                    change wpAnyH _ _ _ _ _ _ _ (Act.put _ (some 123) _) _; simp only [Act.put, List.setIfInBounds_toArray, List.set_cons_zero, List.set_cons_succ]
                    refine wpAnyH_take (i := 2) (v := ?_) rfl (by kernel_rfl) (by kernel_rfl) (by kernel_rfl) (fun _ _ _ h => h) (Or.inl ⟨by rfl, ?_⟩) (by first | assumption | trivial) ?_
                    rotate_left
                    · intro w hSw; go_simp; (try with_reducible rfl)
                    change wpAnyH _ _ _ _ _ _ _ (Act.put _ (some 124) _) _; simp only [Act.put, List.setIfInBounds_toArray, List.set_cons_zero, List.set_cons_succ]
                    refine wpAnyH_take (i := 3) (v := ?_) rfl (by kernel_rfl) (by kernel_rfl) (by kernel_rfl) (fun _ _ _ h => h) (Or.inl ⟨by rfl, ?_⟩) (by first | assumption | trivial) ?_
                    rotate_left
                    · intro w hSw; go_simp; (try with_reducible rfl)
                    change wpAnyH _ _ _ _ _ _ _ (Act.put _ (some 125) _) _; simp only [Act.put, List.setIfInBounds_toArray, List.set_cons_zero, List.set_cons_succ]
                    refine wpAnyH_take (i := 4) (v := ?_) rfl (by kernel_rfl) (by kernel_rfl) (by kernel_rfl) (fun _ _ _ h => h) (Or.inl ⟨by rfl, ?_⟩) (by first | assumption | trivial) ?_
                    rotate_left
                    · intro w hSw; go_simp; (try with_reducible rfl)
                    change wpAnyH _ _ _ _ _ _ _ (Act.put _ (some 126) _) _; simp only [Act.put, List.setIfInBounds_toArray, List.set_cons_zero, List.set_cons_succ]
                    refine wpAnyH_take (i := 5) (v := ?_) rfl (by kernel_rfl) (by kernel_rfl) (by kernel_rfl) (fun _ _ _ h => h) (Or.inl ⟨by rfl, ?_⟩) (by first | assumption | trivial) ?_
                    rotate_left
                    · intro w hSw; go_simp; (try with_reducible rfl)
                    change wpAnyH _ _ _ _ _ _ _ (Act.put _ (some 127) _) _; simp only [Act.put, List.setIfInBounds_toArray, List.set_cons_zero, List.set_cons_succ]
                    refine wpAnyH_take (i := 6) (v := ?_) rfl (by kernel_rfl) (by kernel_rfl) (by kernel_rfl) (fun _ _ _ h => h) (Or.inl ⟨by rfl, ?_⟩) (by first | assumption | trivial) ?_
                    rotate_left
                    · intro w hSw; go_simp; (try with_reducible rfl)
                    change wpAnyH _ _ _ _ _ _ _ (Act.put _ (some 128) _) _; simp only [Act.put, List.setIfInBounds_toArray, List.set_cons_zero, List.set_cons_succ]
                    refine wpAnyH_take (i := 7) (v := ?_) rfl (by kernel_rfl) (by kernel_rfl) (by kernel_rfl) (fun _ _ _ h => h) (Or.inl ⟨by rfl, ?_⟩) (by first | assumption | trivial) ?_
                    rotate_left
                    · intro w hSw; go_simp; (try with_reducible rfl)
                    change wpAnyH _ _ _ _ _ _ _ (Act.put _ (some 129) _) _; simp only [Act.put, List.setIfInBounds_toArray, List.set_cons_zero, List.set_cons_succ]
                    refine wpAnyH_take (i := 8) (v := ?_) rfl (by kernel_rfl) (by kernel_rfl) (by kernel_rfl) (fun _ _ _ h => h) (Or.inl ⟨by rfl, ?_⟩) (by first | assumption | trivial) ?_
                    rotate_left
                    · intro w hSw; go_simp; (try with_reducible rfl)
                    change wpAnyH _ _ _ _ _ _ _ (Act.put _ (some 130) _) _; simp only [Act.put, List.setIfInBounds_toArray, List.set_cons_zero, List.set_cons_succ]
                    refine wpAnyH_ready (rs := [9]) (by kernel_rfl) (by simp) ?_
                    refine AllReadyH.cons rfl (fun K hK => ?_) AllReadyH.nil
                    go_simp
                    refine cF.mono ?_
                    rintro e w5 ⟨rfl, hb5⟩
                    have HBW : Hid (Below wr.heap.size wr w5) := hbD.trans (hb5.mono hbD.size)
                    have H5 : Hid _ := HI.out.below hub HBW.out
                    obtain ⟨e3, e0, e1, e2, _⟩ := H5.out.1.cells
                    obtain ⟨e4, e5, hsg5⟩ := HROW.out w5 HBW.out
                    clear hb5
                    refine hK.out _ _ ?_ (fun hHeld => ?_)
                    · exact ⟨e0, e1, e2, e3, e4⟩
                    clear hK K
                    refine wpAnyH_take (i := 10) (v := ?_) rfl (by kernel_rfl) (by kernel_rfl) (by kernel_rfl) (fun _ _ _ h => h) (Or.inl ⟨by rfl, ?_⟩) (by first | assumption | trivial) ?_
                    rotate_left
                    · intro w hSw; go_simp; (try with_reducible rfl)
                    change wpAnyH _ _ _ _ _ _ _ (Act.put _ (some 15) _) _; simp only [Act.put, List.setIfInBounds_toArray, List.set_cons_zero, List.set_cons_succ]
                    refine wpAnyH_done (by kernel_rfl) ?_ _
                    clear hHeld
                    have HG : Hid (Lk3 w ub (.slice (some ⟨g, 0, none⟩) n3 c3) vv nn (.slice la m lc) l S1 NW N2 (k + 1) (.slice vo n2 c2) n2 w5.drew) := HI.out.next hub HSK.out HNOL.out.1 HNOL.out.2 (HBW.out.trans ((Below.refl _ _).drew.mono HBW.out.size))
                    go_upto_region 26 with fail
                    refine wp_region_held_drew (S := fun W => W.heap.size = W.heap.size) (by kernel_rfl) ?_ (fun hHeld => ?_)
                    · rfl
                    refine wpAnyH_take (i := 0) (v := ?_) rfl (by kernel_rfl) (by kernel_rfl) (by kernel_rfl) (fun _ _ _ h => h) (Or.inl ⟨by rfl, ?_⟩) (by first | assumption | trivial) ?_
                    rotate_left
                    · intro w hSw; go_simp; (try with_reducible rfl)
                    change wpAnyH _ _ _ _ _ _ _ (Act.put _ (some 132) _) _; simp only [Act.put, List.setIfInBounds_toArray, List.set_cons_zero, List.set_cons_succ]
                    refine wpAnyH_take (i := 1) (v := ?_) rfl (by kernel_rfl) (by kernel_rfl) (by kernel_rfl) (fun _ _ _ h => h) (Or.inl ⟨by rfl, ?_⟩) (by first | assumption | trivial) ?_
                    rotate_left
                    · intro w hSw; go_simp; (try with_reducible rfl)
                    change wpAnyH _ _ _ _ _ _ _ (Act.put _ (some 133) _) _; simp only [Act.put, List.setIfInBounds_toArray, List.set_cons_zero, List.set_cons_succ]
                    refine wpAnyH_take (i := 2) (v := ?_) rfl (by kernel_rfl) (by kernel_rfl) (by kernel_rfl) (fun _ _ _ h => h) (Or.inl ⟨by rfl, ?_⟩) (by first | assumption | trivial) ?_
                    rotate_left
                    · intro w hSw; go_simp; (try with_reducible rfl)
                    change wpAnyH _ _ _ _ _ _ _ (Act.put _ (some 134) _) _; simp only [Act.put, List.setIfInBounds_toArray, List.set_cons_zero, List.set_cons_succ]
                    refine wpAnyH_take (i := 3) (v := undef) rfl (by kernel_rfl) (by kernel_rfl) (by kernel_rfl) (fun _ _ _ h => h) (Or.inr ⟨by rfl, rfl⟩) (by first | assumption | trivial) ?_
                    change wpAnyH _ _ _ _ _ _ _ (Act.put _ (some 135) _) _; simp only [Act.put, List.setIfInBounds_toArray, List.set_cons_zero, List.set_cons_succ]
                    refine wpAnyH_take (i := 4) (v := undef) rfl (by kernel_rfl) (by kernel_rfl) (by kernel_rfl) (fun _ _ _ h => h) (Or.inr ⟨by rfl, rfl⟩) (by first | assumption | trivial) ?_
                    change wpAnyH _ _ _ _ _ _ _ (Act.put _ (some 136) _) _; simp only [Act.put, List.setIfInBounds_toArray, List.set_cons_zero, List.set_cons_succ]
                    refine wpAnyH_take (i := 5) (v := undef) rfl (by kernel_rfl) (by kernel_rfl) (by kernel_rfl) (fun _ _ _ h => h) (Or.inr ⟨by rfl, rfl⟩) (by first | assumption | trivial) ?_
                    change wpAnyH _ _ _ _ _ _ _ (Act.put _ (some 137) _) _; simp only [Act.put, List.setIfInBounds_toArray, List.set_cons_zero, List.set_cons_succ]
                    refine wpAnyH_take (i := 6) (v := undef) rfl (by kernel_rfl) (by kernel_rfl) (by kernel_rfl) (fun _ _ _ h => h) (Or.inr ⟨by rfl, rfl⟩) (by first | assumption | trivial) ?_
                    change wpAnyH _ _ _ _ _ _ _ (Act.put _ (some 138) _) _; simp only [Act.put, List.setIfInBounds_toArray, List.set_cons_zero, List.set_cons_succ]
                    refine wpAnyH_take (i := 7) (v := undef) rfl (by kernel_rfl) (by kernel_rfl) (by kernel_rfl) (fun _ _ _ h => h) (Or.inr ⟨by rfl, rfl⟩) (by first | assumption | trivial) ?_
                    change wpAnyH _ _ _ _ _ _ _ (Act.put _ (some 139) _) _; simp only [Act.put, List.setIfInBounds_toArray, List.set_cons_zero, List.set_cons_succ]
                    refine wpAnyH_take (i := 8) (v := undef) rfl (by kernel_rfl) (by kernel_rfl) (by kernel_rfl) (fun _ _ _ h => h) (Or.inr ⟨by rfl, rfl⟩) (by first | assumption | trivial) ?_
                    change wpAnyH _ _ _ _ _ _ _ (Act.put _ (some 140) _) _; simp only [Act.put, List.setIfInBounds_toArray, List.set_cons_zero, List.set_cons_succ]
                    refine wpAnyH_take (i := 9) (v := undef) rfl (by kernel_rfl) (by kernel_rfl) (by kernel_rfl) (fun _ _ _ h => h) (Or.inr ⟨by rfl, rfl⟩) (by first | assumption | trivial) ?_
                    change wpAnyH _ _ _ _ _ _ _ (Act.put _ (some 141) _) _; simp only [Act.put, List.setIfInBounds_toArray, List.set_cons_zero, List.set_cons_succ]
                    refine wpAnyH_take (i := 10) (v := undef) rfl (by kernel_rfl) (by kernel_rfl) (by kernel_rfl) (fun _ _ _ h => h) (Or.inr ⟨by rfl, rfl⟩) (by first | assumption | trivial) ?_
                    change wpAnyH _ _ _ _ _ _ _ (Act.put _ (some 142) _) _; simp only [Act.put, List.setIfInBounds_toArray, List.set_cons_zero, List.set_cons_succ]
                    refine wpAnyH_take (i := 11) (v := undef) rfl (by kernel_rfl) (by kernel_rfl) (by kernel_rfl) (fun _ _ _ h => h) (Or.inr ⟨by rfl, rfl⟩) (by first | assumption | trivial) ?_
                    change wpAnyH _ _ _ _ _ _ _ (Act.put _ (some 143) _) _; simp only [Act.put, List.setIfInBounds_toArray, List.set_cons_zero, List.set_cons_succ]
                    refine wpAnyH_take (i := 12) (v := undef) rfl (by kernel_rfl) (by kernel_rfl) (by kernel_rfl) (fun _ _ _ h => h) (Or.inr ⟨by rfl, rfl⟩) (by first | assumption | trivial) ?_
                    change wpAnyH _ _ _ _ _ _ _ (Act.put _ (some 144) _) _; simp only [Act.put, List.setIfInBounds_toArray, List.set_cons_zero, List.set_cons_succ]
                    refine wpAnyH_take (i := 13) (v := undef) rfl (by kernel_rfl) (by kernel_rfl) (by kernel_rfl) (fun _ _ _ h => h) (Or.inr ⟨by rfl, rfl⟩) (by first | assumption | trivial) ?_
                    change wpAnyH _ _ _ _ _ _ _ (Act.put _ (some 145) _) _; simp only [Act.put, List.setIfInBounds_toArray, List.set_cons_zero, List.set_cons_succ]
                    refine wpAnyH_take (i := 14) (v := undef) rfl (by kernel_rfl) (by kernel_rfl) (by kernel_rfl) (fun _ _ _ h => h) (Or.inr ⟨by rfl, rfl⟩) (by first | assumption | trivial) ?_
                    change wpAnyH _ _ _ _ _ _ _ (Act.put _ (some 146) _) _; simp only [Act.put, List.setIfInBounds_toArray, List.set_cons_zero, List.set_cons_succ]
                    refine wpAnyH_take (i := 15) (v := undef) rfl (by kernel_rfl) (by kernel_rfl) (by kernel_rfl) (fun _ _ _ h => h) (Or.inr ⟨by rfl, rfl⟩) (by first | assumption | trivial) ?_
                    change wpAnyH _ _ _ _ _ _ _ (Act.put _ (some 147) _) _; simp only [Act.put, List.setIfInBounds_toArray, List.set_cons_zero, List.set_cons_succ]
                    refine wpAnyH_take (i := 16) (v := undef) rfl (by kernel_rfl) (by kernel_rfl) (by kernel_rfl) (fun _ _ _ h => h) (Or.inr ⟨by rfl, rfl⟩) (by first | assumption | trivial) ?_
                    change wpAnyH _ _ _ _ _ _ _ (Act.put _ (some 148) _) _; simp only [Act.put, List.setIfInBounds_toArray, List.set_cons_zero, List.set_cons_succ]
                    refine wpAnyH_take (i := 17) (v := undef) rfl (by kernel_rfl) (by kernel_rfl) (by kernel_rfl) (fun _ _ _ h => h) (Or.inr ⟨by rfl, rfl⟩) (by first | assumption | trivial) ?_
                    change wpAnyH _ _ _ _ _ _ _ (Act.put _ (some 149) _) _; simp only [Act.put, List.setIfInBounds_toArray, List.set_cons_zero, List.set_cons_succ]
                    refine wpAnyH_take (i := 18) (v := undef) rfl (by kernel_rfl) (by kernel_rfl) (by kernel_rfl) (fun _ _ _ h => h) (Or.inr ⟨by rfl, rfl⟩) (by first | assumption | trivial) ?_
                    change wpAnyH _ _ _ _ _ _ _ (Act.put _ (some 150) _) _; simp only [Act.put, List.setIfInBounds_toArray, List.set_cons_zero, List.set_cons_succ]
                    refine wpAnyH_take (i := 19) (v := ?_) rfl (by kernel_rfl) (by kernel_rfl) (by kernel_rfl) (fun _ _ _ h => h) (Or.inl ⟨by rfl, ?_⟩) (by first | assumption | trivial) ?_
                    rotate_left
                    · intro w hSw; go_simp; (try with_reducible rfl)
                    change wpAnyH _ _ _ _ _ _ _ (Act.put _ (some 151) _) _; simp only [Act.put, List.setIfInBounds_toArray, List.set_cons_zero, List.set_cons_succ]
                    refine wpAnyH_done (by kernel_rfl) ?_ _
                    clear hHeld
                    go_wp2_with fail
                    go_roundw
                    case rel => exact ⟨k + 1, _, _, _, by go_num, by omega, rfl, HG⟩
                    case measure => simp [intOf]; omega
                  | true =>
                    obtain ⟨x, hx, hfo⟩ := flagsOf_some HRI.out hFB
                    obtain ⟨FI, hFI⟩ : ∃ z, findI l XU = z := ⟨_, rfl⟩
                    have hrf : rfind l XU = (FI : Int) := by unfold rfind; rw [if_pos hFB, hFI]
                    rw [hrf] at cF
                    rw [hFI] at hx
                    have hxf : x.flags.length ≤ 1000 := HFL.out x (List.mem_of_getElem? hx)
                    have hFIm : FI < m := by have := (List.getElem?_eq_some_iff.1 hx).1; have := HM.out; omega
                    obtain ⟨lb, lo, rfl, hat⟩ : ∃ b o, la = some ⟨b, o, none⟩ ∧ ∀ (j : Nat) x, l[j]? = some x → LtAt w b (o + j * 4) x := by
                      rcases HLA.out with h | h
                      · rw [h] at hx; simp at hx
                      · exact h
                    obtain ⟨_, ⟨lf, y1, hsl⟩, _, y4⟩ := hat FI x hx
                    have hlne : lb ≠ ub := fun e => by rw [e] at y4; exact HNS.out _ _ y4
                    obtain ⟨ya, yc, rfl, hyr⟩ := id hsl
                    obtain ⟨FX, hFX⟩ : ∃ n, x.flags.length = n := ⟨_, rfl⟩
                    rw [hFX] at y1 hsl
                    have HY1 : Hid (∀ W, But w.heap.size ub w W → W.cell? ⟨lb, lo + FI * 4 + 1, none⟩ = some (.slice ya FX yc)) := fun W hW => (hW.cell (p := ⟨lb, _, none⟩) (World.block_lt_of_cell? _ _ y1) hlne).trans y1
                    have HYS : Hid (Sl w (.slice ya FX yc) x.flags ∧ x.flags.length ≤ 1000) := ⟨hsl, hxf⟩
                    have HFO : Hid (flagsOf l s.uid = some x.flags) := by show flagsOf l s.uid = _; rw [HXU.out]; exact hfo
                    have j1 : (0 : Int) ≤ (FI : Int) := by omega
                    have j2 : (FI : Int) < (m : Int) := by omega
                    have dj : decide ((0 : Int) ≤ (FI : Int)) = true := decide_eq_true j1
                    clear hx hfo hat hsl hFX hxf hFI hrf hFB y1 y4 hyr hlne
                    obtain ⟨EQ, hEQ⟩ : ∃ b, decide (x.flags = s.flags) = b := ⟨_, rfl⟩
                    have HEQ : Hid (decide (x.flags = s.flags) = EQ) := hEQ
                    clear hEQ
                    cases EQ with
                    | true =>
                      go_upto_region 25 with fail
                      refine wp_region_held_drew (S := fun W => W.cell? ⟨w.heap.size, 0, none⟩ = some (.int .i64 vv) ∧ W.cell? ⟨w.heap.size, 1, none⟩ = some (.int .i64 nn) ∧ W.cell? ⟨w.heap.size, 2, none⟩ = some (.slice (some ⟨lb, lo, none⟩) m lc) ∧ W.cell? ⟨ub, 0, none⟩ = some (.slice (some ⟨g, 0, none⟩) n3 c3) ∧ W.cell? ⟨g, k * 4, none⟩ = some (.int .i64 XU)) (by kernel_rfl) ?_ (fun hHeld => ?_)
                      · exact ⟨by simpa using b0, by simpa using b1, by simpa using b2, by simpa using r0, by simpa using q0⟩
                      rw [hWD] at hHeld ⊢
                      refine wpAnyH_take (i := 0) (v := ?_) rfl (by kernel_rfl) (by kernel_rfl) (by kernel_rfl) (fun _ _ _ h => h) (Or.inl ⟨by rfl, ?_⟩) (by first | assumption | trivial) ?_
                      rotate_left
                      · intro w hSw; go_simp; (try with_reducible rfl)
                      change wpAnyH _ _ _ _ _ _ _ (Act.put _ (some 122) _) _; simp only [Act.put, List.setIfInBounds_toArray, List.set_cons_zero, List.set_cons_succ]
                      refine wpAnyH_take (i := 1) (v := ?_) rfl (by kernel_rfl) (by kernel_rfl) (by kernel_rfl) (fun _ _ _ h => h) (Or.inl ⟨by rfl, ?_⟩) (by first | assumption | trivial) ?_
                      rotate_left
                      · intro w hSw; go_simp; (try with_reducible rfl)
                      change wpAnyH _ _ _ _ _ _ _ (Act.put _ (some 123) _) _; simp only [Act.put, List.setIfInBounds_toArray, List.set_cons_zero, List.set_cons_succ]
                      refine wpAnyH_take (i := 2) (v := ?_) rfl (by kernel_rfl) (by kernel_rfl) (by kernel_rfl) (fun _ _ _ h => h) (Or.inl ⟨by rfl, ?_⟩) (by first | assumption | trivial) ?_
                      rotate_left
                      · intro w hSw; go_simp; (try with_reducible rfl)
                      change wpAnyH _ _ _ _ _ _ _ (Act.put _ (some 124) _) _; simp only [Act.put, List.setIfInBounds_toArray, List.set_cons_zero, List.set_cons_succ]
                      refine wpAnyH_take (i := 3) (v := ?_) rfl (by kernel_rfl) (by kernel_rfl) (by kernel_rfl) (fun _ _ _ h => h) (Or.inl ⟨by rfl, ?_⟩) (by first | assumption | trivial) ?_
                      rotate_left
                      · intro w hSw; go_simp; (try with_reducible rfl)
                      change wpAnyH _ _ _ _ _ _ _ (Act.put _ (some 125) _) _; simp only [Act.put, List.setIfInBounds_toArray, List.set_cons_zero, List.set_cons_succ]
                      refine wpAnyH_take (i := 4) (v := ?_) rfl (by kernel_rfl) (by kernel_rfl) (by kernel_rfl) (fun _ _ _ h => h) (Or.inl ⟨by rfl, ?_⟩) (by first | assumption | trivial) ?_
                      rotate_left
                      · intro w hSw; go_simp; (try with_reducible rfl)
                      change wpAnyH _ _ _ _ _ _ _ (Act.put _ (some 126) _) _; simp only [Act.put, List.setIfInBounds_toArray, List.set_cons_zero, List.set_cons_succ]
                      refine wpAnyH_take (i := 5) (v := ?_) rfl (by kernel_rfl) (by kernel_rfl) (by kernel_rfl) (fun _ _ _ h => h) (Or.inl ⟨by rfl, ?_⟩) (by first | assumption | trivial) ?_
                      rotate_left
                      · intro w hSw; go_simp; (try with_reducible rfl)
                      change wpAnyH _ _ _ _ _ _ _ (Act.put _ (some 127) _) _; simp only [Act.put, List.setIfInBounds_toArray, List.set_cons_zero, List.set_cons_succ]
                      refine wpAnyH_take (i := 6) (v := ?_) rfl (by kernel_rfl) (by kernel_rfl) (by kernel_rfl) (fun _ _ _ h => h) (Or.inl ⟨by rfl, ?_⟩) (by first | assumption | trivial) ?_
                      rotate_left
                      · intro w hSw; go_simp; (try with_reducible rfl)
                      change wpAnyH _ _ _ _ _ _ _ (Act.put _ (some 128) _) _; simp only [Act.put, List.setIfInBounds_toArray, List.set_cons_zero, List.set_cons_succ]
                      refine wpAnyH_take (i := 7) (v := ?_) rfl (by kernel_rfl) (by kernel_rfl) (by kernel_rfl) (fun _ _ _ h => h) (Or.inl ⟨by rfl, ?_⟩) (by first | assumption | trivial) ?_
                      rotate_left
                      · intro w hSw; go_simp; (try with_reducible rfl)
                      change wpAnyH _ _ _ _ _ _ _ (Act.put _ (some 129) _) _; simp only [Act.put, List.setIfInBounds_toArray, List.set_cons_zero, List.set_cons_succ]
                      refine wpAnyH_take (i := 8) (v := ?_) rfl (by kernel_rfl) (by kernel_rfl) (by kernel_rfl) (fun _ _ _ h => h) (Or.inl ⟨by rfl, ?_⟩) (by first | assumption | trivial) ?_
                      rotate_left
                      · intro w hSw; go_simp; (try with_reducible rfl)
                      change wpAnyH _ _ _ _ _ _ _ (Act.put _ (some 130) _) _; simp only [Act.put, List.setIfInBounds_toArray, List.set_cons_zero, List.set_cons_succ]
                      refine wpAnyH_ready (rs := [9]) (by kernel_rfl) (by simp) ?_
                      refine AllReadyH.cons rfl (fun K hK => ?_) AllReadyH.nil
                      go_simp
                      refine cF.mono ?_
                      rintro e w5 ⟨rfl, hb5⟩
                      have HBW : Hid (Below wr.heap.size wr w5) := hbD.trans (hb5.mono hbD.size)
                      have H5 : Hid _ := HI.out.below hub HBW.out
                      obtain ⟨e3, e0, e1, e2, _⟩ := H5.out.1.cells
                      obtain ⟨e4, e5, hsg5⟩ := HROW.out w5 HBW.out
                      clear hb5
                      refine hK.out _ _ ?_ (fun hHeld => ?_)
                      · exact ⟨e0, e1, e2, e3, e4⟩
                      clear hK K
                      refine wpAnyH_take (i := 10) (v := ?_) rfl (by kernel_rfl) (by kernel_rfl) (by kernel_rfl) (fun _ _ _ h => h) (Or.inl ⟨by rfl, ?_⟩) (by first | assumption | trivial) ?_
                      rotate_left
                      · intro w hSw; go_simp; (try with_reducible rfl)
                      change wpAnyH _ _ _ _ _ _ _ (Act.put _ (some 15) _) _; simp only [Act.put, List.setIfInBounds_toArray, List.set_cons_zero, List.set_cons_succ]
                      refine wpAnyH_done (by kernel_rfl) ?_ _
                      clear hHeld
                      have y5 := HY1.out w5 H5.out.1.but
                      have hb5D : Below w5.heap.size w5 w5.drew := (Below.refl _ _).drew
                      have hB5 : But w.heap.size ub w w5.drew := H5.out.1.but.trans (to_but (hb5D.mono (by have := H5.out.1.size; omega)))
                      have cE := rsame_is (.slice ya FX yc) (.slice fa FL fc) x.flags s.flags w5.drew (HYS.out.1.but HNS.out hB5 (Nat.le_refl _)) (HSF.out.1.but HNS.out hB5 (Nat.le_refl _)) HYS.out.2 HSF.out.2
                      clear hb5D hB5
                      rw [HEQ.out] at cE
                      go_upto_region 26 with fail
                      refine wp_region_held_drew (S := fun W => W.cell? ⟨w.heap.size, 2, none⟩ = some (.slice (some ⟨lb, lo, none⟩) m lc) ∧ W.cell? ⟨lb, lo + FI * 4 + 1, none⟩ = some (.slice ya FX yc) ∧ W.cell? ⟨ub, 0, none⟩ = some (.slice (some ⟨g, 0, none⟩) n3 c3) ∧ W.cell? ⟨g, k * 4 + 1, none⟩ = some (.slice fa FL fc)) (by kernel_rfl) ?_ (fun hHeld => ?_)
                      · exact ⟨by simpa using e2, by simpa using y5, by simpa using e3, by simpa using e5⟩
                      refine wpAnyH_take (i := 0) (v := ?_) rfl (by kernel_rfl) (by kernel_rfl) (by kernel_rfl) (fun _ _ _ h => h) (Or.inl ⟨by rfl, ?_⟩) (by first | assumption | trivial) ?_
                      rotate_left
                      · intro w hSw; go_simp; (try with_reducible rfl)
                      change wpAnyH _ _ _ _ _ _ _ (Act.put _ (some 132) _) _; simp only [Act.put, List.setIfInBounds_toArray, List.set_cons_zero, List.set_cons_succ]
                      refine wpAnyH_take (i := 1) (v := ?_) rfl (by kernel_rfl) (by kernel_rfl) (by kernel_rfl) (fun _ _ _ h => h) (Or.inl ⟨by rfl, ?_⟩) (by first | assumption | trivial) ?_
                      rotate_left
                      · intro w hSw; go_simp; (try with_reducible rfl)
                      change wpAnyH _ _ _ _ _ _ _ (Act.put _ (some 133) _) _; simp only [Act.put, List.setIfInBounds_toArray, List.set_cons_zero, List.set_cons_succ]
                      refine wpAnyH_take (i := 2) (v := ?_) rfl (by kernel_rfl) (by kernel_rfl) (by kernel_rfl) (fun _ _ _ h => h) (Or.inl ⟨by rfl, ?_⟩) (by first | assumption | trivial) ?_
                      rotate_left
                      · intro w hSw; go_simp; (try with_reducible rfl)
                      change wpAnyH _ _ _ _ _ _ _ (Act.put _ (some 134) _) _; simp only [Act.put, List.setIfInBounds_toArray, List.set_cons_zero, List.set_cons_succ]
                      refine wpAnyH_take (i := 3) (v := ?_) rfl (by kernel_rfl) (by kernel_rfl) (by kernel_rfl) (fun _ _ _ h => h) (Or.inl ⟨by rfl, ?_⟩) (by first | assumption | trivial) ?_
                      rotate_left
                      · intro w hSw; go_simp; (try with_reducible rfl)
                      change wpAnyH _ _ _ _ _ _ _ (Act.put _ (some 135) _) _; simp only [Act.put, List.setIfInBounds_toArray, List.set_cons_zero, List.set_cons_succ]
                      refine wpAnyH_take (i := 4) (v := ?_) rfl (by kernel_rfl) (by kernel_rfl) (by kernel_rfl) (fun _ _ _ h => h) (Or.inl ⟨by rfl, ?_⟩) (by first | assumption | trivial) ?_
                      rotate_left
                      · intro w hSw; go_simp; (try with_reducible rfl)
                      change wpAnyH _ _ _ _ _ _ _ (Act.put _ (some 136) _) _; simp only [Act.put, List.setIfInBounds_toArray, List.set_cons_zero, List.set_cons_succ]
                      refine wpAnyH_take (i := 5) (v := ?_) rfl (by kernel_rfl) (by kernel_rfl) (by kernel_rfl) (fun _ _ _ h => h) (Or.inl ⟨by rfl, ?_⟩) (by first | assumption | trivial) ?_
                      rotate_left
                      · intro w hSw; go_simp; (try with_reducible rfl)
                      change wpAnyH _ _ _ _ _ _ _ (Act.put _ (some 137) _) _; simp only [Act.put, List.setIfInBounds_toArray, List.set_cons_zero, List.set_cons_succ]
                      refine wpAnyH_take (i := 6) (v := ?_) rfl (by kernel_rfl) (by kernel_rfl) (by kernel_rfl) (fun _ _ _ h => h) (Or.inl ⟨by rfl, ?_⟩) (by first | assumption | trivial) ?_
                      rotate_left
                      · intro w hSw; go_simp; (try with_reducible rfl)
                      change wpAnyH _ _ _ _ _ _ _ (Act.put _ (some 138) _) _; simp only [Act.put, List.setIfInBounds_toArray, List.set_cons_zero, List.set_cons_succ]
                      refine wpAnyH_take (i := 7) (v := ?_) rfl (by kernel_rfl) (by kernel_rfl) (by kernel_rfl) (fun _ _ _ h => h) (Or.inl ⟨by rfl, ?_⟩) (by first | assumption | trivial) ?_
                      rotate_left
                      · intro w hSw; go_simp; (try with_reducible rfl)
                      change wpAnyH _ _ _ _ _ _ _ (Act.put _ (some 139) _) _; simp only [Act.put, List.setIfInBounds_toArray, List.set_cons_zero, List.set_cons_succ]
                      refine wpAnyH_take (i := 8) (v := ?_) rfl (by kernel_rfl) (by kernel_rfl) (by kernel_rfl) (fun _ _ _ h => h) (Or.inl ⟨by rfl, ?_⟩) (by first | assumption | trivial) ?_
                      rotate_left
                      · intro w hSw; go_simp; (try with_reducible rfl)
                      change wpAnyH _ _ _ _ _ _ _ (Act.put _ (some 140) _) _; simp only [Act.put, List.setIfInBounds_toArray, List.set_cons_zero, List.set_cons_succ]
                      refine wpAnyH_take (i := 9) (v := ?_) rfl (by kernel_rfl) (by kernel_rfl) (by kernel_rfl) (fun _ _ _ h => h) (Or.inl ⟨by rfl, ?_⟩) (by first | assumption | trivial) ?_
                      rotate_left
                      · intro w hSw; go_simp; (try with_reducible rfl)
                      change wpAnyH _ _ _ _ _ _ _ (Act.put _ (some 141) _) _; simp only [Act.put, List.setIfInBounds_toArray, List.set_cons_zero, List.set_cons_succ]
                      refine wpAnyH_take (i := 10) (v := ?_) rfl (by kernel_rfl) (by kernel_rfl) (by kernel_rfl) (fun _ _ _ h => h) (Or.inl ⟨by rfl, ?_⟩) (by first | assumption | trivial) ?_
                      rotate_left
                      · intro w hSw; go_simp; (try with_reducible rfl)
                      change wpAnyH _ _ _ _ _ _ _ (Act.put _ (some 142) _) _; simp only [Act.put, List.setIfInBounds_toArray, List.set_cons_zero, List.set_cons_succ]
                      refine wpAnyH_take (i := 11) (v := ?_) rfl (by kernel_rfl) (by kernel_rfl) (by kernel_rfl) (fun _ _ _ h => h) (Or.inl ⟨by rfl, ?_⟩) (by first | assumption | trivial) ?_
                      rotate_left
                      · intro w hSw; go_simp; (try with_reducible rfl)
                      change wpAnyH _ _ _ _ _ _ _ (Act.put _ (some 143) _) _; simp only [Act.put, List.setIfInBounds_toArray, List.set_cons_zero, List.set_cons_succ]
                      refine wpAnyH_take (i := 12) (v := ?_) rfl (by kernel_rfl) (by kernel_rfl) (by kernel_rfl) (fun _ _ _ h => h) (Or.inl ⟨by rfl, ?_⟩) (by first | assumption | trivial) ?_
                      rotate_left
                      · intro w hSw; go_simp; (try with_reducible rfl)
                      change wpAnyH _ _ _ _ _ _ _ (Act.put _ (some 144) _) _; simp only [Act.put, List.setIfInBounds_toArray, List.set_cons_zero, List.set_cons_succ]
                      refine wpAnyH_take (i := 13) (v := ?_) rfl (by kernel_rfl) (by kernel_rfl) (by kernel_rfl) (fun _ _ _ h => h) (Or.inl ⟨by rfl, ?_⟩) (by first | assumption | trivial) ?_
                      rotate_left
                      · intro w hSw; go_simp; (try with_reducible rfl)
                      change wpAnyH _ _ _ _ _ _ _ (Act.put _ (some 145) _) _; simp only [Act.put, List.setIfInBounds_toArray, List.set_cons_zero, List.set_cons_succ]
                      refine wpAnyH_take (i := 14) (v := ?_) rfl (by kernel_rfl) (by kernel_rfl) (by kernel_rfl) (fun _ _ _ h => h) (Or.inl ⟨by rfl, ?_⟩) (by first | assumption | trivial) ?_
                      rotate_left
                      · intro w hSw; go_simp; (try with_reducible rfl)
                      change wpAnyH _ _ _ _ _ _ _ (Act.put _ (some 146) _) _; simp only [Act.put, List.setIfInBounds_toArray, List.set_cons_zero, List.set_cons_succ]
                      refine wpAnyH_take (i := 15) (v := ?_) rfl (by kernel_rfl) (by kernel_rfl) (by kernel_rfl) (fun _ _ _ h => h) (Or.inl ⟨by rfl, ?_⟩) (by first | assumption | trivial) ?_
                      rotate_left
                      · intro w hSw; go_simp; (try with_reducible rfl)
                      change wpAnyH _ _ _ _ _ _ _ (Act.put _ (some 147) _) _; simp only [Act.put, List.setIfInBounds_toArray, List.set_cons_zero, List.set_cons_succ]
                      refine wpAnyH_take (i := 16) (v := ?_) rfl (by kernel_rfl) (by kernel_rfl) (by kernel_rfl) (fun _ _ _ h => h) (Or.inl ⟨by rfl, ?_⟩) (by first | assumption | trivial) ?_
                      rotate_left
                      · intro w hSw; go_simp; (try with_reducible rfl)
                      change wpAnyH _ _ _ _ _ _ _ (Act.put _ (some 148) _) _; simp only [Act.put, List.setIfInBounds_toArray, List.set_cons_zero, List.set_cons_succ]
                      refine wpAnyH_ready (rs := [17]) (by kernel_rfl) (by simp) ?_
                      refine AllReadyH.cons rfl (fun K hK => ?_) AllReadyH.nil
                      go_simp
                      refine cE.mono ?_
                      rintro e w6 ⟨rfl, qq, hw6⟩
                      have HB6 : Hid (Below wr.heap.size wr w6) := by
                        unfold Hid
                        rw [hw6]
                        exact below_drewN (HBW.out.trans ((Below.refl _ _).drew.mono HBW.out.size)) _
                      have H6 : Hid _ := HI.out.below hub HB6.out
                      obtain ⟨m3, m0, m1, m2, _⟩ := H6.out.1.cells
                      obtain ⟨m4, m5, hsg6⟩ := HROW.out w6 HB6.out
                      have m6 := HY1.out w6 H6.out.1.but
                      clear hw6
                      refine hK.out _ _ ?_ (fun hHeld => ?_)
                      · exact ⟨m2, m6, m3, m5⟩
                      clear hK K
                      refine wpAnyH_take (i := 18) (v := ?_) rfl (by kernel_rfl) (by kernel_rfl) (by kernel_rfl) (fun _ _ _ h => h) (Or.inl ⟨by rfl, ?_⟩) (by first | assumption | trivial) ?_
                      rotate_left
                      · intro w hSw; go_simp; (try with_reducible rfl)
                      change wpAnyH _ _ _ _ _ _ _ (Act.put _ (some 150) _) _; simp only [Act.put, List.setIfInBounds_toArray, List.set_cons_zero, List.set_cons_succ]
                      refine wpAnyH_take (i := 19) (v := ?_) rfl (by kernel_rfl) (by kernel_rfl) (by kernel_rfl) (fun _ _ _ h => h) (Or.inl ⟨by rfl, ?_⟩) (by first | assumption | trivial) ?_
                      rotate_left
                      · intro w hSw; go_simp; (try with_reducible rfl)
                      change wpAnyH _ _ _ _ _ _ _ (Act.put _ (some 151) _) _; simp only [Act.put, List.setIfInBounds_toArray, List.set_cons_zero, List.set_cons_succ]
                      refine wpAnyH_done (by kernel_rfl) ?_ _
                      clear hHeld
                      have HG : Hid (Lk3 w ub (.slice (some ⟨g, 0, none⟩) n3 c3) vv nn (.slice (some ⟨lb, lo, none⟩) m lc) l S1 NW N2 (k + 1) (.slice vo n2 c2) n2 w6) := HI.out.next hub HSK.out (by have he : x.flags = s.flags := of_decide_eq_true HEQ.out; unfold learn1; rw [HFO.out]; show Sg.mk s.uid x.flags = s; rw [he]) (by unfold news1; rw [HFO.out]; exact if_pos (of_decide_eq_true HEQ.out)) HB6.out
                      clear m0 m1 m2 m3 m4 m5 m6 hsg6 e0 e1 e2 e3 e4 e5 y5 cE hsg5
                      go_wp2_with fail
                      go_roundw
                      case rel => exact ⟨k + 1, _, _, _, by go_num, by omega, rfl, HG⟩
                      case measure => simp [intOf]; omega
                    | false =>
                      go_upto_region 25 with fail
                      refine wp_region_held_drew (S := fun W => W.cell? ⟨w.heap.size, 0, none⟩ = some (.int .i64 vv) ∧ W.cell? ⟨w.heap.size, 1, none⟩ = some (.int .i64 nn) ∧ W.cell? ⟨w.heap.size, 2, none⟩ = some (.slice (some ⟨lb, lo, none⟩) m lc) ∧ W.cell? ⟨ub, 0, none⟩ = some (.slice (some ⟨g, 0, none⟩) n3 c3) ∧ W.cell? ⟨g, k * 4, none⟩ = some (.int .i64 XU)) (by kernel_rfl) ?_ (fun hHeld => ?_)
                      · exact ⟨by simpa using b0, by simpa using b1, by simpa using b2, by simpa using r0, by simpa using q0⟩
                      rw [hWD] at hHeld ⊢
                      refine wpAnyH_take (i := 0) (v := ?_) rfl (by kernel_rfl) (by kernel_rfl) (by kernel_rfl) (fun _ _ _ h => h) (Or.inl ⟨by rfl, ?_⟩) (by first | assumption | trivial) ?_
                      rotate_left
                      · intro w hSw; go_simp; (try with_reducible rfl)
                      change wpAnyH _ _ _ _ _ _ _ (Act.put _ (some 122) _) _; simp only [Act.put, List.setIfInBounds_toArray, List.set_cons_zero, List.set_cons_succ]
                      refine wpAnyH_take (i := 1) (v := ?_) rfl (by kernel_rfl) (by kernel_rfl) (by kernel_rfl) (fun _ _ _ h => h) (Or.inl ⟨by rfl, ?_⟩) (by first | assumption | trivial) ?_
                      rotate_left
                      · intro w hSw; go_simp; (try with_reducible rfl)
                      change wpAnyH _ _ _ _ _ _ _ (Act.put _ (some 123) _) _; simp only [Act.put, List.setIfInBounds_toArray, List.set_cons_zero, List.set_cons_succ]
                      refine wpAnyH_take (i := 2) (v := ?_) rfl (by kernel_rfl) (by kernel_rfl) (by kernel_rfl) (fun _ _ _ h => h) (Or.inl ⟨by rfl, ?_⟩) (by first | assumption | trivial) ?_
                      rotate_left
                      · intro w hSw; go_simp; (try with_reducible rfl)
                      change wpAnyH _ _ _ _ _ _ _ (Act.put _ (some 124) _) _; simp only [Act.put, List.setIfInBounds_toArray, List.set_cons_zero, List.set_cons_succ]
                      refine wpAnyH_take (i := 3) (v := ?_) rfl (by kernel_rfl) (by kernel_rfl) (by kernel_rfl) (fun _ _ _ h => h) (Or.inl ⟨by rfl, ?_⟩) (by first | assumption | trivial) ?_
                      rotate_left
                      · intro w hSw; go_simp; (try with_reducible rfl)
                      change wpAnyH _ _ _ _ _ _ _ (Act.put _ (some 125) _) _; simp only [Act.put, List.setIfInBounds_toArray, List.set_cons_zero, List.set_cons_succ]
                      refine wpAnyH_take (i := 4) (v := ?_) rfl (by kernel_rfl) (by kernel_rfl) (by kernel_rfl) (fun _ _ _ h => h) (Or.inl ⟨by rfl, ?_⟩) (by first | assumption | trivial) ?_
                      rotate_left
                      · intro w hSw; go_simp; (try with_reducible rfl)
                      change wpAnyH _ _ _ _ _ _ _ (Act.put _ (some 126) _) _; simp only [Act.put, List.setIfInBounds_toArray, List.set_cons_zero, List.set_cons_succ]
                      refine wpAnyH_take (i := 5) (v := ?_) rfl (by kernel_rfl) (by kernel_rfl) (by kernel_rfl) (fun _ _ _ h => h) (Or.inl ⟨by rfl, ?_⟩) (by first | assumption | trivial) ?_
                      rotate_left
                      · intro w hSw; go_simp; (try with_reducible rfl)
                      change wpAnyH _ _ _ _ _ _ _ (Act.put _ (some 127) _) _; simp only [Act.put, List.setIfInBounds_toArray, List.set_cons_zero, List.set_cons_succ]
                      refine wpAnyH_take (i := 6) (v := ?_) rfl (by kernel_rfl) (by kernel_rfl) (by kernel_rfl) (fun _ _ _ h => h) (Or.inl ⟨by rfl, ?_⟩) (by first | assumption | trivial) ?_
                      rotate_left
                      · intro w hSw; go_simp; (try with_reducible rfl)
                      change wpAnyH _ _ _ _ _ _ _ (Act.put _ (some 128) _) _; simp only [Act.put, List.setIfInBounds_toArray, List.set_cons_zero, List.set_cons_succ]
                      refine wpAnyH_take (i := 7) (v := ?_) rfl (by kernel_rfl) (by kernel_rfl) (by kernel_rfl) (fun _ _ _ h => h) (Or.inl ⟨by rfl, ?_⟩) (by first | assumption | trivial) ?_
                      rotate_left
                      · intro w hSw; go_simp; (try with_reducible rfl)
                      change wpAnyH _ _ _ _ _ _ _ (Act.put _ (some 129) _) _; simp only [Act.put, List.setIfInBounds_toArray, List.set_cons_zero, List.set_cons_succ]
                      refine wpAnyH_take (i := 8) (v := ?_) rfl (by kernel_rfl) (by kernel_rfl) (by kernel_rfl) (fun _ _ _ h => h) (Or.inl ⟨by rfl, ?_⟩) (by first | assumption | trivial) ?_
                      rotate_left
                      · intro w hSw; go_simp; (try with_reducible rfl)
                      change wpAnyH _ _ _ _ _ _ _ (Act.put _ (some 130) _) _; simp only [Act.put, List.setIfInBounds_toArray, List.set_cons_zero, List.set_cons_succ]
                      refine wpAnyH_ready (rs := [9]) (by kernel_rfl) (by simp) ?_
                      refine AllReadyH.cons rfl (fun K hK => ?_) AllReadyH.nil
                      go_simp
                      refine cF.mono ?_
                      rintro e w5 ⟨rfl, hb5⟩
                      have HBW : Hid (Below wr.heap.size wr w5) := hbD.trans (hb5.mono hbD.size)
                      have H5 : Hid _ := HI.out.below hub HBW.out
                      obtain ⟨e3, e0, e1, e2, _⟩ := H5.out.1.cells
                      obtain ⟨e4, e5, hsg5⟩ := HROW.out w5 HBW.out
                      clear hb5
                      refine hK.out _ _ ?_ (fun hHeld => ?_)
                      · exact ⟨e0, e1, e2, e3, e4⟩
                      clear hK K
                      refine wpAnyH_take (i := 10) (v := ?_) rfl (by kernel_rfl) (by kernel_rfl) (by kernel_rfl) (fun _ _ _ h => h) (Or.inl ⟨by rfl, ?_⟩) (by first | assumption | trivial) ?_
                      rotate_left
                      · intro w hSw; go_simp; (try with_reducible rfl)
                      change wpAnyH _ _ _ _ _ _ _ (Act.put _ (some 15) _) _; simp only [Act.put, List.setIfInBounds_toArray, List.set_cons_zero, List.set_cons_succ]
                      refine wpAnyH_done (by kernel_rfl) ?_ _
                      clear hHeld
                      have y5 := HY1.out w5 H5.out.1.but
                      have hb5D : Below w5.heap.size w5 w5.drew := (Below.refl _ _).drew
                      have hB5 : But w.heap.size ub w w5.drew := H5.out.1.but.trans (to_but (hb5D.mono (by have := H5.out.1.size; omega)))
                      have cE := rsame_is (.slice ya FX yc) (.slice fa FL fc) x.flags s.flags w5.drew (HYS.out.1.but HNS.out hB5 (Nat.le_refl _)) (HSF.out.1.but HNS.out hB5 (Nat.le_refl _)) HYS.out.2 HSF.out.2
                      clear hb5D hB5
                      rw [HEQ.out] at cE
                      go_upto_region 26 with fail
                      refine wp_region_held_drew (S := fun W => W.cell? ⟨w.heap.size, 2, none⟩ = some (.slice (some ⟨lb, lo, none⟩) m lc) ∧ W.cell? ⟨lb, lo + FI * 4 + 1, none⟩ = some (.slice ya FX yc) ∧ W.cell? ⟨ub, 0, none⟩ = some (.slice (some ⟨g, 0, none⟩) n3 c3) ∧ W.cell? ⟨g, k * 4 + 1, none⟩ = some (.slice fa FL fc)) (by kernel_rfl) ?_ (fun hHeld => ?_)
                      · exact ⟨by simpa using e2, by simpa using y5, by simpa using e3, by simpa using e5⟩
                      refine wpAnyH_take (i := 0) (v := ?_) rfl (by kernel_rfl) (by kernel_rfl) (by kernel_rfl) (fun _ _ _ h => h) (Or.inl ⟨by rfl, ?_⟩) (by first | assumption | trivial) ?_
                      rotate_left
                      · intro w hSw; go_simp; (try with_reducible rfl)
                      change wpAnyH _ _ _ _ _ _ _ (Act.put _ (some 132) _) _; simp only [Act.put, List.setIfInBounds_toArray, List.set_cons_zero, List.set_cons_succ]
                      refine wpAnyH_take (i := 1) (v := ?_) rfl (by kernel_rfl) (by kernel_rfl) (by kernel_rfl) (fun _ _ _ h => h) (Or.inl ⟨by rfl, ?_⟩) (by first | assumption | trivial) ?_
                      rotate_left
                      · intro w hSw; go_simp; (try with_reducible rfl)
                      change wpAnyH _ _ _ _ _ _ _ (Act.put _ (some 133) _) _; simp only [Act.put, List.setIfInBounds_toArray, List.set_cons_zero, List.set_cons_succ]
                      refine wpAnyH_take (i := 2) (v := ?_) rfl (by kernel_rfl) (by kernel_rfl) (by kernel_rfl) (fun _ _ _ h => h) (Or.inl ⟨by rfl, ?_⟩) (by first | assumption | trivial) ?_
                      rotate_left
                      · intro w hSw; go_simp; (try with_reducible rfl)
                      change wpAnyH _ _ _ _ _ _ _ (Act.put _ (some 134) _) _; simp only [Act.put, List.setIfInBounds_toArray, List.set_cons_zero, List.set_cons_succ]
                      refine wpAnyH_take (i := 3) (v := ?_) rfl (by kernel_rfl) (by kernel_rfl) (by kernel_rfl) (fun _ _ _ h => h) (Or.inl ⟨by rfl, ?_⟩) (by first | assumption | trivial) ?_
                      rotate_left
                      · intro w hSw; go_simp; (try with_reducible rfl)
                      change wpAnyH _ _ _ _ _ _ _ (Act.put _ (some 135) _) _; simp only [Act.put, List.setIfInBounds_toArray, List.set_cons_zero, List.set_cons_succ]
                      refine wpAnyH_take (i := 4) (v := ?_) rfl (by kernel_rfl) (by kernel_rfl) (by kernel_rfl) (fun _ _ _ h => h) (Or.inl ⟨by rfl, ?_⟩) (by first | assumption | trivial) ?_
                      rotate_left
                      · intro w hSw; go_simp; (try with_reducible rfl)
                      change wpAnyH _ _ _ _ _ _ _ (Act.put _ (some 136) _) _; simp only [Act.put, List.setIfInBounds_toArray, List.set_cons_zero, List.set_cons_succ]
                      refine wpAnyH_take (i := 5) (v := ?_) rfl (by kernel_rfl) (by kernel_rfl) (by kernel_rfl) (fun _ _ _ h => h) (Or.inl ⟨by rfl, ?_⟩) (by first | assumption | trivial) ?_
                      rotate_left
                      · intro w hSw; go_simp; (try with_reducible rfl)
                      change wpAnyH _ _ _ _ _ _ _ (Act.put _ (some 137) _) _; simp only [Act.put, List.setIfInBounds_toArray, List.set_cons_zero, List.set_cons_succ]
                      refine wpAnyH_take (i := 6) (v := ?_) rfl (by kernel_rfl) (by kernel_rfl) (by kernel_rfl) (fun _ _ _ h => h) (Or.inl ⟨by rfl, ?_⟩) (by first | assumption | trivial) ?_
                      rotate_left
                      · intro w hSw; go_simp; (try with_reducible rfl)
                      change wpAnyH _ _ _ _ _ _ _ (Act.put _ (some 138) _) _; simp only [Act.put, List.setIfInBounds_toArray, List.set_cons_zero, List.set_cons_succ]
                      refine wpAnyH_take (i := 7) (v := ?_) rfl (by kernel_rfl) (by kernel_rfl) (by kernel_rfl) (fun _ _ _ h => h) (Or.inl ⟨by rfl, ?_⟩) (by first | assumption | trivial) ?_
                      rotate_left
                      · intro w hSw; go_simp; (try with_reducible rfl)
                      change wpAnyH _ _ _ _ _ _ _ (Act.put _ (some 139) _) _; simp only [Act.put, List.setIfInBounds_toArray, List.set_cons_zero, List.set_cons_succ]
                      refine wpAnyH_take (i := 8) (v := ?_) rfl (by kernel_rfl) (by kernel_rfl) (by kernel_rfl) (fun _ _ _ h => h) (Or.inl ⟨by rfl, ?_⟩) (by first | assumption | trivial) ?_
                      rotate_left
                      · intro w hSw; go_simp; (try with_reducible rfl)
                      change wpAnyH _ _ _ _ _ _ _ (Act.put _ (some 140) _) _; simp only [Act.put, List.setIfInBounds_toArray, List.set_cons_zero, List.set_cons_succ]
                      refine wpAnyH_take (i := 9) (v := ?_) rfl (by kernel_rfl) (by kernel_rfl) (by kernel_rfl) (fun _ _ _ h => h) (Or.inl ⟨by rfl, ?_⟩) (by first | assumption | trivial) ?_
                      rotate_left
                      · intro w hSw; go_simp; (try with_reducible rfl)
                      change wpAnyH _ _ _ _ _ _ _ (Act.put _ (some 141) _) _; simp only [Act.put, List.setIfInBounds_toArray, List.set_cons_zero, List.set_cons_succ]
                      refine wpAnyH_take (i := 10) (v := ?_) rfl (by kernel_rfl) (by kernel_rfl) (by kernel_rfl) (fun _ _ _ h => h) (Or.inl ⟨by rfl, ?_⟩) (by first | assumption | trivial) ?_
                      rotate_left
                      · intro w hSw; go_simp; (try with_reducible rfl)
                      change wpAnyH _ _ _ _ _ _ _ (Act.put _ (some 142) _) _; simp only [Act.put, List.setIfInBounds_toArray, List.set_cons_zero, List.set_cons_succ]
                      refine wpAnyH_take (i := 11) (v := ?_) rfl (by kernel_rfl) (by kernel_rfl) (by kernel_rfl) (fun _ _ _ h => h) (Or.inl ⟨by rfl, ?_⟩) (by first | assumption | trivial) ?_
                      rotate_left
                      · intro w hSw; go_simp; (try with_reducible rfl)
                      change wpAnyH _ _ _ _ _ _ _ (Act.put _ (some 143) _) _; simp only [Act.put, List.setIfInBounds_toArray, List.set_cons_zero, List.set_cons_succ]
                      refine wpAnyH_take (i := 12) (v := ?_) rfl (by kernel_rfl) (by kernel_rfl) (by kernel_rfl) (fun _ _ _ h => h) (Or.inl ⟨by rfl, ?_⟩) (by first | assumption | trivial) ?_
                      rotate_left
                      · intro w hSw; go_simp; (try with_reducible rfl)
                      change wpAnyH _ _ _ _ _ _ _ (Act.put _ (some 144) _) _; simp only [Act.put, List.setIfInBounds_toArray, List.set_cons_zero, List.set_cons_succ]
                      refine wpAnyH_take (i := 13) (v := ?_) rfl (by kernel_rfl) (by kernel_rfl) (by kernel_rfl) (fun _ _ _ h => h) (Or.inl ⟨by rfl, ?_⟩) (by first | assumption | trivial) ?_
                      rotate_left
                      · intro w hSw; go_simp; (try with_reducible rfl)
                      change wpAnyH _ _ _ _ _ _ _ (Act.put _ (some 145) _) _; simp only [Act.put, List.setIfInBounds_toArray, List.set_cons_zero, List.set_cons_succ]
                      refine wpAnyH_take (i := 14) (v := ?_) rfl (by kernel_rfl) (by kernel_rfl) (by kernel_rfl) (fun _ _ _ h => h) (Or.inl ⟨by rfl, ?_⟩) (by first | assumption | trivial) ?_
                      rotate_left
                      · intro w hSw; go_simp; (try with_reducible rfl)
                      change wpAnyH _ _ _ _ _ _ _ (Act.put _ (some 146) _) _; simp only [Act.put, List.setIfInBounds_toArray, List.set_cons_zero, List.set_cons_succ]
                      refine wpAnyH_take (i := 15) (v := ?_) rfl (by kernel_rfl) (by kernel_rfl) (by kernel_rfl) (fun _ _ _ h => h) (Or.inl ⟨by rfl, ?_⟩) (by first | assumption | trivial) ?_
                      rotate_left
                      · intro w hSw; go_simp; (try with_reducible rfl)
                      change wpAnyH _ _ _ _ _ _ _ (Act.put _ (some 147) _) _; simp only [Act.put, List.setIfInBounds_toArray, List.set_cons_zero, List.set_cons_succ]
                      refine wpAnyH_take (i := 16) (v := ?_) rfl (by kernel_rfl) (by kernel_rfl) (by kernel_rfl) (fun _ _ _ h => h) (Or.inl ⟨by rfl, ?_⟩) (by first | assumption | trivial) ?_
                      rotate_left
                      · intro w hSw; go_simp; (try with_reducible rfl)
                      change wpAnyH _ _ _ _ _ _ _ (Act.put _ (some 148) _) _; simp only [Act.put, List.setIfInBounds_toArray, List.set_cons_zero, List.set_cons_succ]
                      refine wpAnyH_ready (rs := [17]) (by kernel_rfl) (by simp) ?_
                      refine AllReadyH.cons rfl (fun K hK => ?_) AllReadyH.nil
                      go_simp
                      refine cE.mono ?_
                      rintro e w6 ⟨rfl, qq, hw6⟩
                      have HB6 : Hid (Below wr.heap.size wr w6) := by
                        unfold Hid
                        rw [hw6]
                        exact below_drewN (HBW.out.trans ((Below.refl _ _).drew.mono HBW.out.size)) _
                      have H6 : Hid _ := HI.out.below hub HB6.out
                      obtain ⟨m3, m0, m1, m2, _⟩ := H6.out.1.cells
                      obtain ⟨m4, m5, hsg6⟩ := HROW.out w6 HB6.out
                      have m6 := HY1.out w6 H6.out.1.but
                      clear hw6
                      refine hK.out _ _ ?_ (fun hHeld => ?_)
                      · exact ⟨m2, m6, m3, m5⟩
                      clear hK K
                      refine wpAnyH_take (i := 18) (v := ?_) rfl (by kernel_rfl) (by kernel_rfl) (by kernel_rfl) (fun _ _ _ h => h) (Or.inl ⟨by rfl, ?_⟩) (by first | assumption | trivial) ?_
                      rotate_left
                      · intro w hSw; go_simp; (try with_reducible rfl)
                      change wpAnyH _ _ _ _ _ _ _ (Act.put _ (some 150) _) _; simp only [Act.put, List.setIfInBounds_toArray, List.set_cons_zero, List.set_cons_succ]
                      refine wpAnyH_take (i := 19) (v := ?_) rfl (by kernel_rfl) (by kernel_rfl) (by kernel_rfl) (fun _ _ _ h => h) (Or.inl ⟨by rfl, ?_⟩) (by first | assumption | trivial) ?_
                      rotate_left
                      · intro w hSw; go_simp; (try with_reducible rfl)
                      change wpAnyH _ _ _ _ _ _ _ (Act.put _ (some 151) _) _; simp only [Act.put, List.setIfInBounds_toArray, List.set_cons_zero, List.set_cons_succ]
                      refine wpAnyH_done (by kernel_rfl) ?_ _
                      clear hHeld
                      have HB7 : Hid (Below wr.heap.size wr w6.drew) := HB6.out.trans ((Below.refl _ _).drew.mono HB6.out.size)
                      obtain ⟨W7, hW7⟩ : ∃ W, w6.drew = W := ⟨_, rfl⟩
                      rw [hW7] at HB7
                      have h7 := HI.out.below hub HB7.out
                      have hn29 : n2 ≤ 1999 := by have := HN29k.out; have := h7.2.1; omega
                      obtain ⟨⟨oa, on, oc, hold⟩, hfz, hW8, g9, cap9, W9, hrun9, h9⟩ := lk3_told h7 hub HSK.out HFO.out (fun e => by have := HEQ.out; rw [decide_eq_true e] at this; cases this) HN1.out hn29 HYS.out.1
                      have HRUN : Hid _ := hrun9
                      have HG : Hid _ := h9
                      obtain ⟨s3, s0, s1, s2, _⟩ := h7.1.cells
                      have s6 := HY1.out W7 h7.1.but
                      obtain ⟨z3, z0, z1, z2, _⟩ := hW8.cells
                      have z6 := HY1.out _ hW8.but
                      clear h7 hW8 hrun9 h9 cE m0 m1 m4 m5 hsg6 e0 e1 e2 e3 e4 e5 y5 hsg5 H5 H6
                      go_upto_region 27 with fail
                      refine wp_region_held_drew (S := fun W => W.cell? ⟨w.heap.size, 2, none⟩ = some (.slice (some ⟨lb, lo, none⟩) m lc) ∧ W.cell? ⟨lb, lo + FI * 4 + 1, none⟩ = some (.slice ya FX yc) ∧ W.cell? ⟨ub, 0, none⟩ = some (.slice (some ⟨g, 0, none⟩) n3 c3)) (by kernel_rfl) ?_ (fun hHeld => ?_)
                      · exact ⟨by simpa using m2, by simpa using m6, by simpa using m3⟩
                      rw [hW7] at hHeld ⊢
                      refine wpAnyH_take (i := 0) (v := ?_) rfl (by kernel_rfl) (by kernel_rfl) (by kernel_rfl) (fun _ _ _ h => h) (Or.inl ⟨by rfl, ?_⟩) (by first | assumption | trivial) ?_
                      rotate_left
                      · intro w hSw; go_simp; (try with_reducible rfl)
                      change wpAnyH _ _ _ _ _ _ _ (Act.put _ (some 152) _) _; simp only [Act.put, List.setIfInBounds_toArray, List.set_cons_zero, List.set_cons_succ]
                      refine wpAnyH_take (i := 1) (v := ?_) rfl (by kernel_rfl) (by kernel_rfl) (by kernel_rfl) (fun _ _ _ h => h) (Or.inl ⟨by rfl, ?_⟩) (by first | assumption | trivial) ?_
                      rotate_left
                      · intro w hSw; go_simp; (try with_reducible rfl)
                      change wpAnyH _ _ _ _ _ _ _ (Act.put _ (some 153) _) _; simp only [Act.put, List.setIfInBounds_toArray, List.set_cons_zero, List.set_cons_succ]
                      refine wpAnyH_take (i := 2) (v := ?_) rfl (by kernel_rfl) (by kernel_rfl) (by kernel_rfl) (fun _ _ _ h => h) (Or.inl ⟨by rfl, ?_⟩) (by first | assumption | trivial) ?_
                      rotate_left
                      · intro w hSw; go_simp; (try with_reducible rfl)
                      change wpAnyH _ _ _ _ _ _ _ (Act.put _ (some 154) _) _; simp only [Act.put, List.setIfInBounds_toArray, List.set_cons_zero, List.set_cons_succ]
                      refine wpAnyH_take (i := 3) (v := ?_) rfl (by kernel_rfl) (by kernel_rfl) (by kernel_rfl) (fun _ _ _ h => h) (Or.inl ⟨by rfl, ?_⟩) (by first | assumption | trivial) ?_
                      rotate_left
                      · intro w hSw; go_simp; (try with_reducible rfl)
                      change wpAnyH _ _ _ _ _ _ _ (Act.put _ (some 155) _) _; simp only [Act.put, List.setIfInBounds_toArray, List.set_cons_zero, List.set_cons_succ]
                      refine wpAnyH_take (i := 4) (v := ?_) rfl (by kernel_rfl) (by kernel_rfl) (by kernel_rfl) (fun _ _ _ h => h) (Or.inl ⟨by rfl, ?_⟩) (by first | assumption | trivial) ?_
                      rotate_left
                      · intro w hSw; go_simp; (try with_reducible rfl)
                      change wpAnyH _ _ _ _ _ _ _ (Act.put _ (some 156) _) _; simp only [Act.put, List.setIfInBounds_toArray, List.set_cons_zero, List.set_cons_succ]
                      refine wpAnyH_take (i := 5) (v := ?_) rfl (by kernel_rfl) (by kernel_rfl) (by kernel_rfl) (fun _ _ _ h => h) (Or.inl ⟨by rfl, ?_⟩) (by first | assumption | trivial) ?_
                      rotate_left
                      · intro w hSw; go_simp; (try with_reducible rfl)
                      change wpAnyH _ _ _ _ _ _ _ (Act.put _ (some 157) _) _; simp only [Act.put, List.setIfInBounds_toArray, List.set_cons_zero, List.set_cons_succ]
                      refine wpAnyH_take (i := 6) (v := ?_) rfl (by kernel_rfl) (by kernel_rfl) (by kernel_rfl) (fun _ _ _ h => h) (Or.inl ⟨by rfl, ?_⟩) (by first | assumption | trivial) ?_
                      rotate_left
                      · intro w hSw; go_simp; (try with_reducible rfl)
                      change wpAnyH _ _ _ _ _ _ _ (Act.put _ (some 158) _) _; simp only [Act.put, List.setIfInBounds_toArray, List.set_cons_zero, List.set_cons_succ]
                      refine wpAnyH_take (i := 7) (v := ?_) rfl (by kernel_rfl) (by kernel_rfl) (by kernel_rfl) (fun _ _ _ h => h) (Or.inl ⟨by rfl, ?_⟩) (by first | assumption | trivial) ?_
                      rotate_left
                      · intro w hSw; go_simp; (try with_reducible rfl)
                      change wpAnyH _ _ _ _ _ _ _ (Act.put _ (some 159) _) _; simp only [Act.put, List.setIfInBounds_toArray, List.set_cons_zero, List.set_cons_succ]
                      refine wpAnyH_take (i := 8) (v := ?_) rfl (by kernel_rfl) (by kernel_rfl) (by kernel_rfl) (fun _ _ _ h => h) (Or.inl ⟨by rfl, ?_⟩) (by first | assumption | trivial) ?_
                      rotate_left
                      · intro w hSw; go_simp; (try with_reducible rfl)
                      change wpAnyH _ _ _ _ _ _ _ (Act.put _ (some 160) _) _; simp only [Act.put, List.setIfInBounds_toArray, List.set_cons_zero, List.set_cons_succ]
                      refine wpAnyH_take (i := 9) (v := ?_) rfl (by kernel_rfl) (by kernel_rfl) (by kernel_rfl) (fun _ _ _ h => h) (Or.inl ⟨by rfl, ?_⟩) (by first | assumption | trivial) ?_
                      rotate_left
                      · intro w hSw; go_simp; (try with_reducible rfl)
                      change wpAnyH _ _ _ _ _ _ _ (Act.put _ (some 161) _) _; simp only [Act.put, List.setIfInBounds_toArray, List.set_cons_zero, List.set_cons_succ]
                      refine wpAnyH_take (i := 10) (v := ?_) rfl (by kernel_rfl) (by kernel_rfl) (by kernel_rfl) (fun _ _ _ h => h) (Or.inl ⟨by rfl, ?_⟩) (by first | assumption | trivial) ?_
                      rotate_left
                      · intro w hSw; go_simp; (try with_reducible rfl)
                      change wpAnyH _ _ _ _ _ _ _ (Act.put _ (some 162) _) _; simp only [Act.put, List.setIfInBounds_toArray, List.set_cons_zero, List.set_cons_succ]
                      refine wpAnyH_take (i := 11) (v := ?_) rfl (by kernel_rfl) (by kernel_rfl) (by kernel_rfl) (fun _ _ _ h => h) (Or.inl ⟨by rfl, ?_⟩) (by first | assumption | trivial) ?_
                      rotate_left
                      · intro w hSw; go_simp; (try with_reducible rfl)
                      refine wpAnyH_take (i := 12) (v := ?_) rfl (by kernel_rfl) (by kernel_rfl) (by kernel_rfl) (fun _ _ _ h => h) (Or.inl ⟨by rfl, ?_⟩) (by first | assumption | trivial) ?_
                      rotate_left
                      · intro w hSw; go_simp; (try with_reducible rfl)
                      refine wpAnyH_ready (rs := [13]) (by kernel_rfl) (by simp) ?_
                      refine AllReadyH.cons rfl (fun K hK => ?_) AllReadyH.nil
                      go_simp
                      refine hK.out _ _ ?_ (fun hHeld => ?_)
                      · exact ⟨z2, z6, z3⟩
                      clear hK K
                      refine wpAnyH_done (by kernel_rfl) ?_ _
                      clear hHeld s0 s1 s2 s3 s6 m2 m3 m6
                      go_wp2_with (at_builtin; go_must (refine Go.Lib.wpList_append_run _ rfl (.tmp 165) (.tmp 175) 79 79 rfl _ _ rfl rfl _ W9 HRUN.out ?_))
                      go_roundw
                      case rel => exact ⟨k + 1, _, _, _, by go_num, by omega, rfl, HG⟩
                      case measure => simp [intOf]; omega
                · obtain rfl : k = n1 := by omega
                  have HF : Hid (RNw w wr w.heap.size (.slice vo n2 c2) (lookN S l gone) ∧ RView wr ub (.slice va n3 c3) (lookS S l gone) ∧ (∀ q, (Value.slice va n3 c3).ownBlock = some q → w.heap.size ≤ q) ∧ But w.heap.size ub w wr) := by
                    obtain ⟨g1, g2, g3, g4⟩ := HI.out
                    have hT : learnT l S1 NW k = lookS S l gone := by
                      rw [lookS_is S HRI.out gone, HE1.out.1, HLU.out, HNW.out]
                      unfold learnT
                      rw [List.take_of_length_le (by rw [HLN.out.1]; exact Nat.le_refl _), List.drop_of_length_le (by rw [HLN.out.1]; exact Nat.le_refl _), List.append_nil]
                    have hL : N2 ++ learnN l 0 (S1.take k) = lookN S l gone := by
                      rw [lookN_is S HRI.out gone, HE1.out.1, List.take_of_length_le (by rw [HLN.out.1]; exact Nat.le_refl _), ← HN2.out]
                      unfold lookN2
                      rw [HE1.out.2, show lookS2 S l gone = lookS1 S l gone ++ newS (lastS (lookS1 S l gone)) l from rfl, HE1.out.1, HLU.out, HNW.out, HN1.out]
                    rw [hT] at g3
                    rw [hL] at g4
                    refine ⟨?_, ⟨g1.view, (g3.low (Nat.zero_le _)).now fun fv F h => h.but HNS.out g1.but (Nat.le_refl _)⟩, fun q hq => by have := (g3.blk hq).1; omega, g1.but⟩
                    obtain ⟨rows, r1, r2, r3, r4⟩ := g4
                    exact ⟨rows, own_lower r1 (by omega), r2, r3, r4⟩
                  clear HI
                  go_wp2_with fail
                  go_ret
                  exact ⟨_, _, rfl, HF.out⟩
end Go.Proofs.YtgpcnacpefficaaGreatDoor
