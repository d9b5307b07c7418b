/-
  A box is called otherwise: Rename, of a box that is not INBOX, and more.
-/
import Derived.Test.YtfdlopimncodcaaGreatDoorMHsMove
import Derived.Test.YtfdlopimncodcaaGreatDoorMBoxApp
namespace Go.Proofs.YtfdlopimncodcaaGreatDoor
open Go.RowKit Go.Proofs.Aid

set_option maxHeartbeats 4000000 in
set_option maxRecDepth 100000 in
theorem rename_is (nB : Nm → Option Nm) (hb mb : Nat) (l : Bxs) (nx : Int) (wv : Value) (s u : ByteArray) (N T : Nm) (w : World) (hN : NameC nB w) (h : HsAt w hb mb l nx wv) (hG : 8 ≤ w.heap.size) (hs : s.size ≤ 1000) (hu : u.size ≤ 1000) (hl : l.length ≤ 100) (hsm : ∀ p ∈ l, p.1.length ≤ 1000) (hn : 0 ≤ nx ∧ nx ≤ 900000)
    (e1 : nB s.data.toList = some N) (e2 : hasB l N = true) (e3 : nB u.data.toList = some T) (e4 : hasB l T = false) (e5 : N ≠ inboxN) :
    Calls Tryz.prog 32 #[.pointer (some ⟨hb, 0, none⟩), .string s, .string u] w fun e w' =>
      (inB T N = true ∧ e = .returned (errN 6) ∧ Below w.heap.size w w') ∨
      (inB T N = false ∧ ((mvNames l N).any fun x => decide (60 < (calledB T N x).length)) = true ∧ e = .returned (errN 4) ∧ Below w.heap.size w w') ∨
      (inB T N = false ∧ ((mvNames l N).any fun x => decide (60 < (calledB T N x).length)) = false ∧ 30 < l.length + (lackB l T).length ∧ e = .returned (errN 12) ∧ Below w.heap.size w w') ∨
      (inB T N = false ∧ ((mvNames l N).any fun x => decide (60 < (calledB T N x).length)) = false ∧ l.length + (lackB l T).length ≤ 30 ∧ e = .returned .nilIface ∧ HK hb mb w w' ∧ ∃ ps, Built w.heap.size w' nx (lackB l T) ps ∧ HsAt w' hb mb (mvAll T N (mvNames l N) (putAll l ps)) (nx + ((lackB l T).length : Int)) wv) := by
  have cT := there_is nB hb mb l nx wv s w hN h hs
  have HH : Hid (HsAt w hb mb l nx wv ∧ NameC nB w) := ⟨h, hN⟩
  have HE : Hid (nB s.data.toList = some N ∧ hasB l N = true ∧ nB u.data.toList = some T ∧ hasB l T = false ∧ N ≠ inboxN ∧ ∀ p ∈ l, p.1.length ≤ 1000) := ⟨e1, e2, e3, e4, e5, hsm⟩
  clear hN h e1 e2 e3 e4 e5 hsm
  go_enter Tryz.func32, Tryz.ntmps32
  go_wp2_with fail
  refine cT.mono ?_
  rintro e w1 ⟨hb1, ⟨r, hr, hr2, hr3, rfl⟩ | ⟨r, hr, hr3, rfl⟩ | ⟨hr, rfl⟩⟩
  · have hrN : r.data.toList = N := by rw [HE.out.1] at hr; exact (Option.some.inj hr).symm
    have h1 := HH.out.1.below hb1 (Nat.le_refl _)
    have cF := free_is nB hb mb l nx wv u w1 (HH.out.2.low (hb1.mono hG)) h1 hu
    have hE : ¬ r.toList = [73, 78, 66, 79, 88] := by rw [Lib.toList_data, hrN]; exact HE.out.2.2.2.2.1
    have hE2 : (r.toList == [73, 78, 66, 79, 88]) = false := beq_eq_false_iff_ne.2 hE
    have HR : Hid (r.data.toList = N ∧ HsAt w1 hb mb l nx wv ∧ Below w.heap.size w w1) := ⟨hrN, h1, hb1⟩
    clear cT hr hr3 hrN h1 hb1
    go_wp2_with fail
    refine cF.mono ?_
    rintro e w2 ⟨hb2, ⟨q, hq, hq2, hq3, rfl⟩ | ⟨q, hq, hq3, rfl⟩ | ⟨hq, rfl⟩⟩
    · have hqT : q.data.toList = T := by rw [HE.out.2.2.1] at hq; exact (Option.some.inj hq).symm
      have h2 := HR.out.2.1.below hb2 (Nat.le_refl _)
      have cM := move_is hb mb l nx wv r q w2 h2 (by omega) hq2 hl HE.out.2.2.2.2.2 (by rw [HR.out.1]; exact HE.out.2.1) hn
      rw [HR.out.1, hqT] at cM
      have HB2 : Hid (Below w.heap.size w w2) := HR.out.2.2.trans (hb2.mono HR.out.2.2.size)
      clear cF hq hq3 hqT h2 hb2
      go_wp2_with fail
      refine cM.mono ?_
      rintro e w3 hc
      have HC : Hid ((inB T N = true ∧ e = .returned (errN 6) ∧ Below w.heap.size w w3) ∨
        (inB T N = false ∧ ((mvNames l N).any fun x => decide (60 < (calledB T N x).length)) = true ∧ e = .returned (errN 4) ∧ Below w.heap.size w w3) ∨
        (inB T N = false ∧ ((mvNames l N).any fun x => decide (60 < (calledB T N x).length)) = false ∧ 30 < l.length + (lackB l T).length ∧ e = .returned (errN 12) ∧ Below w.heap.size w w3) ∨
        (inB T N = false ∧ ((mvNames l N).any fun x => decide (60 < (calledB T N x).length)) = false ∧ l.length + (lackB l T).length ≤ 30 ∧ e = .returned .nilIface ∧ HK hb mb w w3 ∧ ∃ ps, Built w.heap.size w3 nx (lackB l T) ps ∧ HsAt w3 hb mb (mvAll T N (mvNames l N) (putAll l ps)) (nx + ((lackB l T).length : Int)) wv)) := by
        have hz := HB2.out.size
        rcases hc with ⟨c1, c2, c3⟩ | ⟨c1, c2, c3, c4⟩ | ⟨c1, c2, c3, c4, c5⟩ | ⟨c1, c2, c3, c4, c5, ps, c6, c7⟩
        · exact Or.inl ⟨c1, c2, HB2.out.trans (c3.mono hz)⟩
        · exact Or.inr (Or.inl ⟨c1, c2, c3, HB2.out.trans (c4.mono hz)⟩)
        · exact Or.inr (Or.inr (Or.inl ⟨c1, c2, c3, c4, HB2.out.trans (c5.mono hz)⟩))
        · exact Or.inr (Or.inr (Or.inr ⟨c1, c2, c3, c4, (HK.of HB2.out).trans c5, ps, ⟨c6.1, fun j p hj => ⟨Nat.le_trans hz (c6.2.1 j p hj).1, (c6.2.1 j p hj).2⟩, c6.2.2⟩, c7⟩))
      obtain ⟨v, rfl⟩ : ∃ v, e = .returned v := by
        rcases hc with ⟨_, c2, _⟩ | ⟨_, _, c3, _⟩ | ⟨_, _, _, c4, _⟩ | ⟨_, _, _, c4, _⟩
        · exact ⟨_, c2⟩
        · exact ⟨_, c3⟩
        · exact ⟨_, c4⟩
        · exact ⟨_, c4⟩
      clear hc cM
      go_wp2_with fail
      go_ret
      exact HC.out
    · exact absurd hq3 (by rw [HE.out.2.2.1] at hq; rw [← Option.some.inj hq, HE.out.2.2.2.1]; simp)
    · rw [HE.out.2.2.1] at hq
      cases hq
  · exact absurd hr3 (by rw [HE.out.1] at hr; rw [← Option.some.inj hr, HE.out.2.1]; simp)
  · rw [HE.out.1] at hr
    cases hr
end Go.Proofs.YtfdlopimncodcaaGreatDoor
namespace Go.Proofs.YtfdlopimncodcaaGreatDoor
open Go.RowKit Go.Proofs.Aid Go.Proofs.Bx

theorem ins_nil (f : Value) (w : World) : Calls Tryz.prog 216 #[.slice none 0 0, .int .i64 0, .int .i64 0, f] w fun e w' => e = .returned (.tuple #[]) ∧ w' = w := by
  go_enter Tryz.func216, Tryz.ntmps216
  go_wp2
  refine wp_loop_rounds 1 ?_
  rw [rounds_succ]
  go_wp2
  go_end0
  exact ⟨rfl, rfl⟩
theorem pdq_nil (n : Int) (f : Value) (w : World) : Calls Tryz.prog 202 #[.slice none 0 0, .int .i64 0, .int .i64 0, .int .i64 n, f] w fun e w' => e = .returned (.tuple #[]) ∧ w' = w := by
  have cI := ins_nil f w
  go_enter Tryz.func202, Tryz.ntmps202
  go_wp2
  refine wp_loop_rounds 1 ?_
  rw [rounds_succ]
  go_wp2_with (refine cI.mono ?_; rintro e w' ⟨rfl, rfl⟩)
  refine bodyPost_ret (results_none rfl _ _ _) rfl ?_
  exact ⟨rfl, rfl⟩
theorem sortf_nil (f : Value) (w : World) : Calls Tryz.prog 174 #[.slice none 0 0, f] w fun e w' => e = .returned (.tuple #[]) ∧ w' = w := by
  have cL := Tryz.bits_Len 0 w (by decide) (by decide)
  have cP := pdq_nil (Lib.bitLen (0 : Int).toNat) f w
  go_enter Tryz.func174, Tryz.ntmps174
  go_wp2_with fail
  refine cL.mono ?_
  rintro e w' ⟨rfl, rfl⟩
  go_wp2_with fail
  refine cP.mono ?_
  rintro e w' ⟨rfl, rfl⟩
  go_wp2_with fail
  go_end0
  exact ⟨rfl, rfl⟩
theorem order_nil (w : World) : Calls Tryz.prog 145 #[.slice none 0 0] w fun e w' => e = .returned (.slice none 0 0) ∧ w' = w := by
  have cS := sortf_nil (.func (.func 175) #[] #[]) w
  have cC := Tryz.slices_Compact_string_empty none 0 w
  go_enter Tryz.func145, Tryz.ntmps145
  go_wp2_with fail
  refine cS.mono ?_
  rintro e w' ⟨rfl, rfl⟩
  go_wp2_with fail
  refine cC.mono ?_
  rintro e w' ⟨rfl, rfl⟩
  go_wp2_with fail
  go_ret
  exact ⟨rfl, rfl⟩
theorem set_nil (w : World) : Calls Tryz.prog 100 #[.slice none 0 0] w fun e w' => SetOut w ([], 0) e w' := by
  have cO := order_nil w
  go_enter Tryz.func100, Tryz.ntmps100
  go_wp2
  refine wp_loop_rounds 1 ?_
  rw [rounds_succ]
  go_wp2_with (refine cO.mono ?_; rintro e w' ⟨rfl, rfl⟩)
  go_ret2
  exact ⟨Or.inl ⟨rfl, _, rfl, ⟨none, 0, rfl, ⟨fun _ => rfl, Nat.le_refl _⟩, Or.inl rfl⟩⟩, Below.refl _ _⟩
/-- Boxes of a house, whatever lies in them; K bounds how many. -/
def BxOk (w : World) (H K : Nat) (l : Bxs) : Prop := ∀ p ∈ l, H ≤ p.2 ∧ p.1.length ≤ 60 ∧ ∃ v n ls, BoxAt w p.2 v n ls ∧ 0 ≤ n ∧ n ≤ (K : Int) + 1 ∧ ls.length ≤ K
/-- A house, whatever it has; K bounds how much was done. -/
def HInv (H hb mb : Nat) (wv : Value) (K : Nat) (w : World) : Prop := ∃ l nx, HsAt w hb mb l nx wv ∧ BxOk w H K l ∧ l.length ≤ 30 ∧ 0 ≤ nx ∧ nx ≤ 30 * (K : Int) + 2
/-- Blocks that hold a text stay. -/
def TxKeep (w w' : World) : Prop := ∀ (g i : Nat) (s : ByteArray), w.cell? ⟨g, i, none⟩ = some (.string s) → w'.heap[g]? = w.heap[g]?
theorem TxKeep.cell {w w' : World} (h : TxKeep w w') {g i : Nat} {s : ByteArray} (hc : w.cell? ⟨g, i, none⟩ = some (.string s)) (j : Nat) : w'.cell? ⟨g, j, none⟩ = w.cell? ⟨g, j, none⟩ := World.cell?_of_block (w := w) (a := ⟨g, j, none⟩) (h g i s hc)
theorem TxKeep.trans {a b c : World} (h : TxKeep a b) (k : TxKeep b c) : TxKeep a c := fun g i s hc => (k g i s ((h.cell hc i).trans hc)).trans (h g i s hc)
theorem TxKeep.of {a b : World} (h : Below a.heap.size a b) : TxKeep a b := fun g _ _ hc => h.block g (World.block_lt_of_cell? _ _ hc)
theorem Sl.tx {w w' : World} {v : Value} {l : List Fl.Tx} (h : Sl w v l) (k : TxKeep w w') : Sl w' v l := by
  obtain ⟨a, c, h1, h0, h2⟩ := h
  refine ⟨a, c, h1, h0, ?_⟩
  rcases h2 with h2 | ⟨b, o, h3, h4⟩
  · exact Or.inl h2
  · exact Or.inr ⟨b, o, h3, fun j t hj => (k.cell (h4 j t hj) _).trans (h4 j t hj)⟩
theorem Lts.tx {w w' : World} {v : Value} {l : List Lt} (h : Lts w v l) (k : TxKeep w w') : Lts w' v l := by
  obtain ⟨a, c, h1, h0, h2⟩ := h
  refine ⟨a, c, h1, h0, ?_⟩
  rcases h2 with h2 | ⟨b, o, h3, h4⟩
  · exact Or.inl h2
  · refine Or.inr ⟨b, o, h3, fun j x hj => ?_⟩
    obtain ⟨q1, ⟨fv, q2, q3⟩, q4, q5⟩ := h4 j x hj
    exact ⟨(k.cell q5 _).trans q1, ⟨fv, (k.cell q5 _).trans q2, q3.tx k⟩, (k.cell q5 _).trans q4, (k.cell q5 _).trans q5⟩
theorem noStr_house {w : World} {hb mb : Nat} {l : Bxs} {nx : Int} {a : Option Addr} {n c : Nat} (h : HsAt w hb mb l nx (.slice a n c)) (i : Nat) (s : ByteArray) : w.cell? ⟨hb, i, none⟩ ≠ some (.string s) := fun e => by
  match i with
  | 0 => rw [h.cell.1] at e; cases e
  | 1 => rw [h.cell.2.1] at e; cases e
  | 2 => rw [h.cell.2.2] at e; cases e
  | i + 3 => simp [World.cell?, h.1] at e
theorem TxKeep.hk {w w' : World} {hb mb : Nat} {l : Bxs} {nx : Int} {a : Option Addr} {n c : Nat} (hS : HsAt w hb mb l nx (.slice a n c)) (h : HK hb mb w w') : TxKeep w w' := fun g i s hc => by
  refine h.block g (World.block_lt_of_cell? _ _ hc) (fun e => ?_) (fun e => ?_)
  · rw [e] at hc
    exact noStr_house hS i s hc
  · rw [e] at hc
    obtain ⟨_, _, D, ⟨es, clock, h2, _⟩, _⟩ := hS
    simp [World.cell?, h2] at hc
theorem TxKeep.but {w w' : World} {b : Nat} {v n : Int} {ls : List Lt} (hB : BoxAt w b v n ls) (h : But w.heap.size b w w') : TxKeep w w' := fun g i s hc => by
  refine h.block g (World.block_lt_of_cell? _ _ hc) fun e => ?_
  rw [e] at hc
  obtain ⟨lv, h1, a, c, rfl, _⟩ := hB
  exact noStr_box h1 ⟨_, _, _, rfl⟩ i s hc
/-- What was there before H, every row of texts, and every block that holds a text stays. -/
structure Fr (H : Nat) (w w' : World) : Prop where
  low : Below H w w'
  row : ∀ (g : Nat) c fz, w.heap[g]? = some (.cells c 9 fz) → w'.heap[g]? = w.heap[g]?
  tx : TxKeep w w'
theorem Fr.trans {H : Nat} {a b c : World} (h : Fr H a b) (k : Fr H b c) : Fr H a c := ⟨h.low.trans k.low, fun g x fz hg => (k.row g x fz ((h.row g x fz hg).trans hg)).trans (h.row g x fz hg), h.tx.trans k.tx⟩
theorem Fr.of {H : Nat} {a b : World} (h : Below a.heap.size a b) (hH : H ≤ a.heap.size) : Fr H a b := ⟨h.mono hH, fun g _ _ hg => h.block g (Array.getElem?_eq_some_iff.1 hg).1, TxKeep.of h⟩
theorem Fr.hk {H hb mb : Nat} {w w' : World} {l : Bxs} {nx : Int} {a : Option Addr} {n c : Nat} (hS : HsAt w hb mb l nx (.slice a n c)) (h : HK hb mb w w') (h0 : H ≤ w.heap.size) (h1 : H ≤ hb) (h2 : H ≤ mb) : Fr H w w' :=
  ⟨h.below h0 h1 h2, fun g _ _ hg => h.block g (Array.getElem?_eq_some_iff.1 hg).1 (ne_of_kind hS hg (by decide)).1 (ne_of_kind hS hg (by decide)).2, TxKeep.hk hS h⟩
theorem Fr.but {H b : Nat} {w w' : World} {v n : Int} {ls : List Lt} (hB : BoxAt w b v n ls) (h : But w.heap.size b w w') (h0 : H ≤ w.heap.size) (h1 : H ≤ b) : Fr H w w' := by
  refine ⟨h.below h0 h1, fun g c fz hg => h.block g (Array.getElem?_eq_some_iff.1 hg).1 fun e => ?_, TxKeep.but hB h⟩
  obtain ⟨lv, h2, _⟩ := hB
  rw [e, h2] at hg
  injection hg with hg
  injection hg with _ e2 _
  exact absurd e2 (by decide)
theorem Fr.nrow {H base : Nat} {w w' : World} {v : Value} {ns : List Nm} (h : Fr H w w') (hr : NRow w base v ns) : NRow w' base v ns := by
  refine own_same hr fun g hg => ?_
  obtain ⟨c, fz, hc⟩ := row_kind hr g hg
  exact h.row g c fz hc
/-- A box stays where its own block does, and texts. -/
theorem BoxAt.tx {w w' : World} {b : Nat} {v n : Int} {ls : List Lt} (h : BoxAt w b v n ls) (hb : w'.heap[b]? = w.heap[b]?) (k : TxKeep w w') : BoxAt w' b v n ls := by
  obtain ⟨lv, h1, h2⟩ := h
  exact ⟨lv, hb.trans h1, h2.tx k⟩
theorem BoxAt.hk {w w' : World} {hb mb b : Nat} {v n : Int} {ls : List Lt} {l : Bxs} {nx : Int} {a : Option Addr} {m c : Nat} (h : BoxAt w b v n ls) (hS : HsAt w hb mb l nx (.slice a m c)) (hk : HK hb mb w w') : BoxAt w' b v n ls := by
  refine h.tx ?_ (TxKeep.hk hS hk)
  obtain ⟨lv, h1, _⟩ := h
  exact hk.block b (Array.getElem?_eq_some_iff.1 h1).1 (ne_of_kind hS h1 (by decide)).1 (ne_of_kind hS h1 (by decide)).2
theorem BxOk.hk {w w' : World} {H K hb mb : Nat} {l L : Bxs} {nx : Int} {a : Option Addr} {m c : Nat} (h : BxOk w H K l) (hS : HsAt w hb mb L nx (.slice a m c)) (hk : HK hb mb w w') : BxOk w' H K l := fun p hp => by
  obtain ⟨q1, q2, v, n, ls, q3, q4⟩ := h p hp
  exact ⟨q1, q2, v, n, ls, q3.hk hS hk, q4⟩
theorem BxOk.more {w : World} {H K K' : Nat} {l : Bxs} (h : BxOk w H K l) (hK : K ≤ K') : BxOk w H K' l := fun p hp => by
  obtain ⟨q1, q2, v, n, ls, q3, q4, q5, q6⟩ := h p hp
  exact ⟨q1, q2, v, n, ls, q3, q4, by omega, by omega⟩
theorem BxOk.sub {w : World} {H K : Nat} {l l' : Bxs} (h : BxOk w H K l) (hs : ∀ p ∈ l', p ∈ l) : BxOk w H K l' := fun p hp => h p (hs p hp)
theorem newBox_at {w : World} {b : Nat} {v : Int} (h : NewBox w b v) : BoxAt w b v 1 [] := ⟨_, h, Lts.nil w⟩
theorem mem_putAll {q : Nm × Nat} : ∀ (ps l : Bxs), SortedB l → q ∈ putAll l ps → q ∈ l ∨ q ∈ ps
  | [], _, _, h => Or.inl h
  | p :: ps, l, hs, h => by
    rcases mem_putAll ps (putB p.1 p.2 l) (sorted_putB hs) h with h | h
    · rcases (mem_putB hs (m := q.1) (c := q.2)).1 h with ⟨h1, h2⟩ | ⟨_, h2⟩
      · exact Or.inr (by rw [show q = p from Prod.ext h1 h2]; exact List.mem_cons_self)
      · exact Or.inl h2
    · exact Or.inr (List.mem_cons_of_mem _ h)
theorem BxOk.built {w w' : World} {H K hb mb B : Nat} {l : Bxs} {nx mx : Int} {ns : List Nm} {ps : Bxs} {a : Option Addr} {m c : Nat} (h : BxOk w H K l) (hS : HsAt w hb mb l nx (.slice a m c)) (hk : HK hb mb w w') (hb' : Built B w' mx ns ps) (hB : H ≤ B) (hns : ∀ n ∈ ns, n.length ≤ 60) : BxOk w' H K (putAll l ps) := fun p hp => by
  rcases mem_putAll ps l hS.2.sorted hp with h1 | h1
  · exact h.hk hS hk p h1
  · obtain ⟨j, hj⟩ := List.getElem?_of_mem h1
    obtain ⟨q1, q2⟩ := hb'.2.1 j p hj
    refine ⟨by omega, hns p.1 (by rw [← hb'.1]; exact List.mem_map_of_mem h1), _, 1, [], newBox_at q2, by omega, by omega, Nat.zero_le _⟩
end Go.Proofs.YtfdlopimncodcaaGreatDoor
