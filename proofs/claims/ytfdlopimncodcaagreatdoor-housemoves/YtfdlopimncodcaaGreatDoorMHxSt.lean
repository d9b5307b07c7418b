/-
  A house with all that it has, in memory, whatever is done: what a deed leaves. Create and Delete.
-/
import Derived.Test.YtfdlopimncodcaaGreatDoorMHsWRow
namespace Go.Proofs.YtfdlopimncodcaaGreatDoor
open Go.RowKit Go.Proofs.Aid Go.Proofs.Bx

/-- A house that has all this; whatever is its own lies at H or behind it. -/
structure Hst (H hb mb : Nat) (l : Bxs) (nx : Int) (W : List Nm) (C : Nat → Bxd) (wv : Value) (w : World) : Prop where
  hse : Hse w hb mb l nx wv W C
  row : WRow w wv W
  own : ∀ g, wv.ownBlock = some g → H ≤ g
  h0 : H ≤ w.heap.size
  h1 : H ≤ hb
  h2 : H ≤ mb
theorem Hst.below {H hb mb : Nat} {l : Bxs} {nx : Int} {W : List Nm} {C : Nat → Bxd} {wv : Value} {w w' : World} (h : Hst H hb mb l nx W C wv w) (hb' : Below w.heap.size w w') : Hst H hb mb l nx W C wv w' :=
  ⟨h.hse.below hb', h.row.below hb', h.own, Nat.le_trans h.h0 hb'.size, h.h1, h.h2⟩
theorem Hst.form {H hb mb : Nat} {l : Bxs} {nx : Int} {W : List Nm} {C : Nat → Bxd} {wv : Value} {w : World} (h : Hst H hb mb l nx W C wv w) : ∃ a c, wv = .slice a W.length c := by
  obtain ⟨a, c, e, _⟩ := h.hse.ws
  exact ⟨a, c, e⟩
theorem wrow_hk {w w' : World} {hb mb : Nat} {l : Bxs} {nx : Int} {wv v : Value} {W : List Nm} (hr : WRow w v W) (hS : HsAt w hb mb l nx wv) (hk : HK hb mb w w') : WRow w' v W := hr.same fun g hg => by
  obtain ⟨cap, cur, h1, _⟩ := hr.tblk hg
  exact hk.block g (Array.getElem?_eq_some_iff.1 h1).1 (ne_of_kind hS h1 (by decide)).1 (ne_of_kind hS h1 (by decide)).2
/-- Only the house's own two blocks were turned. -/
theorem Hst.turn {H hb mb : Nat} {l l' : Bxs} {nx nx' : Int} {W : List Nm} {C C' : Nat → Bxd} {wv : Value} {w w' : World} (h : Hst H hb mb l nx W C wv w) (hk : HK hb mb w w') (hs : HsAt w' hb mb l' nx' wv) (hbx : ∀ p ∈ l', BoxAt w' p.2 (C' p.2).v (C' p.2).n (C' p.2).ls) : Hst H hb mb l' nx' W C' wv w' :=
  ⟨⟨hs, (wrow_hk h.row h.hse.hs hk).sl, hbx⟩, wrow_hk h.row h.hse.hs hk, h.own, Nat.le_trans h.h0 hk.size, h.h1, h.h2⟩
theorem Hst.box {H hb mb : Nat} {l : Bxs} {nx : Int} {W : List Nm} {C : Nat → Bxd} {wv : Value} {w w' : World} (h : Hst H hb mb l nx W C wv w) (hk : HK hb mb w w') {p : Nm × Nat} (hp : p ∈ l) : BoxAt w' p.2 (C p.2).v (C p.2).n (C p.2).ls := by
  obtain ⟨a, c, rfl⟩ := h.form
  exact (h.hse.bx p hp).hk h.hse.hs hk
theorem Hst.old {H hb mb : Nat} {l : Bxs} {nx : Int} {W : List Nm} {C : Nat → Bxd} {wv : Value} {w : World} (h : Hst H hb mb l nx W C wv w) : ∀ p ∈ l, p.2 < w.heap.size := fun p hp => (h.hse.bx p hp).lt
/-- Boxes that were made. -/
theorem Hst.built {H hb mb : Nat} {l : Bxs} {nx : Int} {W : List Nm} {C : Nat → Bxd} {wv : Value} {w w' : World} {ns : List Nm} {ps : Bxs} (h : Hst H hb mb l nx W C wv w) (hk : HK hb mb w w') (hb' : Built w.heap.size w' nx ns ps) : ∀ p ∈ putAll l ps, BoxAt w' p.2 (withNew w.heap.size nx ps C p.2).v (withNew w.heap.size nx ps C p.2).n (withNew w.heap.size nx ps C p.2).ls := fun p hp => by
  rcases mem_putAll ps l h.hse.hs.2.sorted hp with h1 | h1
  · rw [withNew_old (h.old p h1)]
    exact h.box hk h1
  · obtain ⟨j, hj⟩ := List.getElem?_of_mem h1
    rw [withNew_new hb' hj]
    exact newBox_at (hb'.2.1 j p hj).2
/-- What a deed leaves: an error, and all as it was; or none, and all as it may be. -/
def OutX (H hb mb K : Nat) (l : Bxs) (nx : Int) (W : List Nm) (C : Nat → Bxd) (w : World) (e : Ending) (w' : World) : Prop :=
  Below H w w' ∧ ((∃ E wv', e = .returned (errN E) ∧ Hst H hb mb l nx W C wv' w') ∨ ∃ wv' l' nx' W' C', e = .returned .nilIface ∧ Hst H hb mb l' nx' W' C' wv' w' ∧ HI H (K + 1) l' nx' W' C')
theorem OutX.err {H hb mb K : Nat} {l : Bxs} {nx : Int} {W : List Nm} {C : Nat → Bxd} {wv : Value} {w w' : World} {E : Int} (h : Hst H hb mb l nx W C wv w) (hb' : Below w.heap.size w w') : OutX H hb mb K l nx W C w (.returned (errN E)) w' :=
  ⟨hb'.mono h.h0, Or.inl ⟨E, wv, rfl, h.below hb'⟩⟩
theorem OutX.ok {H hb mb K : Nat} {l : Bxs} {nx : Int} {W : List Nm} {C : Nat → Bxd} {wv : Value} {w w' : World} (h : Hst H hb mb l nx W C wv w) (hI : HI H K l nx W C) (hb' : Below w.heap.size w w') : OutX H hb mb K l nx W C w (.returned .nilIface) w' :=
  ⟨hb'.mono h.h0, Or.inr ⟨wv, l, nx, W, C, rfl, h.below hb', hI.more (by omega)⟩⟩
/-- What is done behind a step that only lays anew. -/
theorem OutX.before {H hb mb K : Nat} {l : Bxs} {nx : Int} {W : List Nm} {C : Nat → Bxd} {w w1 w' : World} {e : Ending} (hb' : Below w.heap.size w w1) (h0 : H ≤ w.heap.size) (h : OutX H hb mb K l nx W C w1 e w') : OutX H hb mb K l nx W C w e w' := ⟨(hb'.mono h0).trans h.1, h.2⟩
theorem OutX.ret {H hb mb K : Nat} {l : Bxs} {nx : Int} {W : List Nm} {C : Nat → Bxd} {w w' : World} {e : Ending} (h : OutX H hb mb K l nx W C w e w') : ∃ v, e = .returned v := by
  rcases h.2 with ⟨E, _, rfl, _⟩ | ⟨_, _, _, _, _, rfl, _⟩
  · exact ⟨_, rfl⟩
  · exact ⟨_, rfl⟩
theorem create_x (H hb mb K : Nat) (l : Bxs) (nx : Int) (W : List Nm) (C : Nat → Bxd) (wv : Value) (s : ByteArray) (w : World) (hE : NEnv w) (h : Hst H hb mb l nx W C wv w) (hI : HI H K l nx W C) (hK : K ≤ 45) (hs : s.size ≤ 1000) :
    Calls Tryz.prog 41 #[.pointer (some ⟨hb, 0, none⟩), .string s] w fun e w' => OutX H hb mb K l nx W C w e w' := by
  have hl := hI.len
  have hn := hI.nxt
  refine (create_is nameB hb mb l nx wv s w (nameC hE) h.hse.hs hs (by omega) (by omega)).mono ?_
  rintro e w' (⟨_, c2, c3⟩ | ⟨r, _, _, c3, c4⟩ | ⟨r, _, _, _, c4, c5⟩ | ⟨r, ps, c1, _, c3, c4, c5, c6, c7⟩)
  · rw [c2]; exact .err h c3
  · rw [c3]; exact .err h c4
  · rw [c4]; exact .err h c5
  · exact ⟨c5.below h.h0 h.h1 h.h2, Or.inr ⟨wv, _, _, W, _, c4, h.turn c5 c7 (h.built c5 c6), hI.create c6 h.old h.h0 c3 (nameB_idem c1)⟩⟩
theorem delete_x (H hb mb K : Nat) (l : Bxs) (nx : Int) (W : List Nm) (C : Nat → Bxd) (wv : Value) (s : ByteArray) (w : World) (hE : NEnv w) (h : Hst H hb mb l nx W C wv w) (hI : HI H K l nx W C) (hs : s.size ≤ 1000) :
    Calls Tryz.prog 43 #[.pointer (some ⟨hb, 0, none⟩), .string s] w fun e w' => OutX H hb mb K l nx W C w e w' := by
  have hl := hI.len
  refine (delete_is nameB hb mb l nx wv s w (nameC hE) h.hse.hs hs (by omega)).mono ?_
  rintro e w' (⟨_, c2, c3⟩ | ⟨r, _, _, c3, c4⟩ | ⟨r, _, _, _, c4, c5⟩ | ⟨r, _, _, c2, c3, c4, c5, c7⟩)
  · rw [c2]; exact .err h c3
  · rw [c3]; exact .err h c4
  · rw [c4]; exact .err h c5
  · exact ⟨c5.below h.h0 h.h1 h.h2, Or.inr ⟨wv, _, _, W, C, c4, h.turn c5 c7 fun p hp => h.box c5 (List.mem_filter.1 hp).1, (hI.delete c3 c2).more (by omega)⟩⟩
/-- One box was turned, alone. -/
theorem Hst.boxed {H hb mb : Nat} {l : Bxs} {nx : Int} {W : List Nm} {C : Nat → Bxd} {wv : Value} {w w' : World} {n : Nm} {b : Nat} {x : Bxd} (h : Hst H hb mb l nx W C wv w) (hp : (n, b) ∈ l) (hB : BoxAt w' b x.v x.n x.ls) (hb' : But w.heap.size b w w') : Hst H hb mb l nx W (setC C b x) wv w' := by
  have hbb := h.hse.bx _ hp
  have htx := TxKeep.but hbb hb'
  obtain ⟨lv, hbh, _⟩ := id hbb
  have hne := ne_of_kind h.hse.hs hbh (by decide)
  have hS : HsAt w' hb mb l nx wv := ⟨(hb'.block hb h.hse.hs.lt hne.1.symm).trans h.hse.hs.1, h.hse.hs.2.same (hb'.block mb h.hse.hs.2.lt hne.2.symm)⟩
  have hrow : WRow w' wv W := h.row.same fun g hg => by
    obtain ⟨cap, cur, h1, _⟩ := h.row.tblk hg
    refine hb'.block g (Array.getElem?_eq_some_iff.1 h1).1 fun e => ?_
    rw [e] at h1
    have h3 := h1.symm.trans hbh
    injection h3 with h3
    injection h3 with _ h3 _
    exact absurd h3 (by decide)
  refine ⟨⟨hS, hrow.sl, fun p hpl => ?_⟩, hrow, h.own, Nat.le_trans h.h0 hb'.size, h.h1, h.h2⟩
  by_cases e : p.2 = b
  · rw [e, setC_same]
    exact hB
  · rw [setC_other e]
    have h2 := h.hse.bx p hpl
    exact h2.tx (hb'.block _ h2.lt e) htx
theorem append_x (H hb mb K : Nat) (l : Bxs) (nx : Int) (W : List Nm) (C : Nat → Bxd) (wv : Value) (b : Nat) (n : Nm) (t : ByteArray) (w : World) (h : Hst H hb mb l nx W C wv w) (hI : HI H K l nx W C) (hK : K ≤ 45) (ht : t.size ≤ 100) (hp : (n, b) ∈ l) :
    Calls Tryz.prog 50 #[.pointer (some ⟨b, 0, none⟩), .slice none 0 0, .int .i64 1, .string t] w fun e w' => ∃ x y, e = .returned (.tuple #[x, y]) ∧ OutX H hb mb K l nx W C w (.returned y) w' := by
  have g := hI.bx _ hp
  have g1 := g.len
  have g2 := g.next
  have g3 := g.inv.next
  have hx := h.hse.bx _ hp
  refine (box_append b (C b).v (C b).n 1 (C b).ls (.slice none 0 0) ([], 0) t w hx (by show (C b).ls.length ≤ 1000; have : (C b).ls.length ≤ K := g1; omega) ⟨by have : 1 ≤ (C b).n := g3; omega, by have : (C b).n ≤ K + 1 := g2; omega⟩ (set_nil w)).mono ?_
  rintro e w' (⟨_, c2, c3⟩ | ⟨_, c2, c3, c4⟩)
  · exact ⟨_, _, c2, .err h c3⟩
  · refine ⟨_, _, c2, c4.below h.h0 (hI.low _ hp), Or.inr ⟨wv, l, nx, W, _, rfl, h.boxed (x := ⟨(C b).v, (C b).n + 1, (C b).ls ++ [⟨(C b).n, [], 1, t.data.toList⟩]⟩) hp c3 c4, ?_⟩⟩
    exact hI.box (by omega) hp rfl (good_append g (by rw [Array.length_toList]; exact ht))
end Go.Proofs.YtfdlopimncodcaaGreatDoor
