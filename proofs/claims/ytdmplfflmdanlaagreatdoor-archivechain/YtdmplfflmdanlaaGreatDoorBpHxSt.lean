/-
  A house with all that it has, in memory, whatever is done: what a deed, and more.
-/
import Derived.Test.YtdmplfflmdanlaaGreatDoorMHsWRow
namespace Go.Proofs.YtdmplfflmdanlaaGreatDoor
open Go.RowKit Go.Proofs.Aid Go.Proofs.Bx

/-- A house that has all this; whatever is its own lies at H or behind it. -/
structure Hst (H hb mb : Nat) (l : Bxs) (nx : Int) (W : List Nm) (C : Nat → Bxd) (wv : Value) (w : World) : Prop where
  hse : Hse w hb mb l nx wv W C
  row : WRow w wv W
  own : ∀ g, wv.ownBlock = some g → H ≤ g
  h0 : H ≤ w.heap.size
  h1 : H ≤ hb
  h2 : H ≤ mb
theorem Hst.below {H hb mb : Nat} {l : Bxs} {nx : Int} {W : List Nm} {C : Nat → Bxd} {wv : Value} {w w' : World} (h : Hst H hb mb l nx W C wv w) (hb' : Below w.heap.size w w') : Hst H hb mb l nx W C wv w' :=
  ⟨h.hse.below hb', h.row.below hb', h.own, Nat.le_trans h.h0 hb'.size, h.h1, h.h2⟩
theorem Hst.form {H hb mb : Nat} {l : Bxs} {nx : Int} {W : List Nm} {C : Nat → Bxd} {wv : Value} {w : World} (h : Hst H hb mb l nx W C wv w) : ∃ a c, wv = .slice a W.length c := by
  obtain ⟨a, c, e, _⟩ := h.hse.ws
  exact ⟨a, c, e⟩
theorem wrow_hk {w w' : World} {hb mb : Nat} {l : Bxs} {nx : Int} {wv v : Value} {W : List Nm} (hr : WRow w v W) (hS : HsAt w hb mb l nx wv) (hk : HK hb mb w w') : WRow w' v W := hr.same fun g hg => by
  obtain ⟨cap, cur, h1, _⟩ := hr.tblk hg
  exact hk.block g (Array.getElem?_eq_some_iff.1 h1).1 (ne_of_kind hS h1 (by decide)).1 (ne_of_kind hS h1 (by decide)).2
/-- Only the house's own two blocks were turned. -/
theorem Hst.turn {H hb mb : Nat} {l l' : Bxs} {nx nx' : Int} {W : List Nm} {C C' : Nat → Bxd} {wv : Value} {w w' : World} (h : Hst H hb mb l nx W C wv w) (hk : HK hb mb w w') (hs : HsAt w' hb mb l' nx' wv) (hbx : ∀ p ∈ l', BoxAt w' p.2 (C' p.2).v (C' p.2).n (C' p.2).ls) : Hst H hb mb l' nx' W C' wv w' :=
  ⟨⟨hs, (wrow_hk h.row h.hse.hs hk).sl, hbx⟩, wrow_hk h.row h.hse.hs hk, h.own, Nat.le_trans h.h0 hk.size, h.h1, h.h2⟩
theorem Hst.box {H hb mb : Nat} {l : Bxs} {nx : Int} {W : List Nm} {C : Nat → Bxd} {wv : Value} {w w' : World} (h : Hst H hb mb l nx W C wv w) (hk : HK hb mb w w') {p : Nm × Nat} (hp : p ∈ l) : BoxAt w' p.2 (C p.2).v (C p.2).n (C p.2).ls := by
  obtain ⟨a, c, rfl⟩ := h.form
  exact (h.hse.bx p hp).hk h.hse.hs hk
theorem Hst.old {H hb mb : Nat} {l : Bxs} {nx : Int} {W : List Nm} {C : Nat → Bxd} {wv : Value} {w : World} (h : Hst H hb mb l nx W C wv w) : ∀ p ∈ l, p.2 < w.heap.size := fun p hp => (h.hse.bx p hp).lt
/-- Boxes that were made. -/
theorem Hst.built {H hb mb : Nat} {l : Bxs} {nx : Int} {W : List Nm} {C : Nat → Bxd} {wv : Value} {w w' : World} {ns : List Nm} {ps : Bxs} (h : Hst H hb mb l nx W C wv w) (hk : HK hb mb w w') (hb' : Built w.heap.size w' nx ns ps) : ∀ p ∈ putAll l ps, BoxAt w' p.2 (withNew w.heap.size nx ps C p.2).v (withNew w.heap.size nx ps C p.2).n (withNew w.heap.size nx ps C p.2).ls := fun p hp => by
  rcases mem_putAll ps l h.hse.hs.2.sorted hp with h1 | h1
  · rw [withNew_old (h.old p h1)]
    exact h.box hk h1
  · obtain ⟨j, hj⟩ := List.getElem?_of_mem h1
    rw [withNew_new hb' hj]
    exact newBox_at (hb'.2.1 j p hj).2
/-- One box was turned, alone. -/
theorem Hst.boxed {H hb mb : Nat} {l : Bxs} {nx : Int} {W : List Nm} {C : Nat → Bxd} {wv : Value} {w w' : World} {n : Nm} {b : Nat} {x : Bxd} (h : Hst H hb mb l nx W C wv w) (hp : (n, b) ∈ l) (hB : BoxAt w' b x.v x.n x.ls) (hb' : But w.heap.size b w w') : Hst H hb mb l nx W (setC C b x) wv w' := by
  have hbb := h.hse.bx _ hp
  have htx := TxKeep.but hbb hb'
  obtain ⟨lv, hbh, _⟩ := id hbb
  have hne := ne_of_kind h.hse.hs hbh (by decide)
  have hS : HsAt w' hb mb l nx wv := ⟨(hb'.block hb h.hse.hs.lt hne.1.symm).trans h.hse.hs.1, h.hse.hs.2.same (hb'.block mb h.hse.hs.2.lt hne.2.symm)⟩
  have hrow : WRow w' wv W := h.row.same fun g hg => by
    obtain ⟨cap, cur, h1, _⟩ := h.row.tblk hg
    refine hb'.block g (Array.getElem?_eq_some_iff.1 h1).1 fun e => ?_
    rw [e] at h1
    have h3 := h1.symm.trans hbh
    injection h3 with h3
    injection h3 with _ h3 _
    exact absurd h3 (by decide)
  refine ⟨⟨hS, hrow.sl, fun p hpl => ?_⟩, hrow, h.own, Nat.le_trans h.h0 hb'.size, h.h1, h.h2⟩
  by_cases e : p.2 = b
  · rw [e, setC_same]
    exact hB
  · rw [setC_other e]
    have h2 := h.hse.bx p hpl
    exact h2.tx (hb'.block _ h2.lt e) htx
end Go.Proofs.YtdmplfflmdanlaaGreatDoor
namespace Go.Proofs.YtdmplfflmdanlaaGreatDoor
open Go.RowKit Go.Proofs.Aid Go.Proofs.Bx

theorem ps_kind {H hb mb k : Nat} {l : Bxs} {nx : Int} {W : List Nm} {C : Nat → Bxd} {wv : Value} {w : World} (h : Hst H hb mb l nx W C wv w) {cs : Array Value} {ty : TypeId} {fz : Nat × Nat} (hg : w.heap[k]? = some (.cells cs ty fz)) (h1 : ty ≠ 130) (h2 : ty ≠ 66) (h3 : ty ≠ 9) : ¬ PS hb mb wv l k := by
  have hk := ne_of_kind h.hse.hs hg h1
  rintro (e | e | e | ⟨p, hp, e⟩)
  · exact hk.1 e
  · exact hk.2 e
  · obtain ⟨cap, cur, q, _⟩ := h.row.tblk e
    rw [q] at hg
    injection hg with hg
    injection hg with _ e2 _
    exact h3 e2.symm
  · obtain ⟨lv, hB, _⟩ := h.hse.bx p hp
    rw [← e, hB] at hg
    injection hg with hg
    injection hg with _ e2 _
    exact h2 e2.symm
/-- Where a number and a text lie in one block. -/
theorem ps_both {H hb mb k i j : Nat} {l : Bxs} {nx n : Int} {W : List Nm} {C : Nat → Bxd} {wv : Value} {w : World} {s : ByteArray} (h : Hst H hb mb l nx W C wv w) (hc : w.cell? ⟨k, i, none⟩ = some (.string s)) (hd : w.cell? ⟨k, j, none⟩ = some (.int .i64 n)) : ¬ PS hb mb wv l k := by
  obtain ⟨a, c, hwv⟩ := h.form
  rintro (e | e | e | ⟨p, hp, e⟩)
  · rw [e] at hc
    have hS := h.hse.hs
    rw [hwv] at hS
    exact noStr_house hS i s hc
  · obtain ⟨_, D, ⟨es, clock, hm, _⟩, _⟩ := h.hse.hs.2
    rw [e] at hc
    exact noStr_map hm i s hc
  · obtain ⟨cap, ht⟩ := h.row.tblk e
    obtain ⟨s', hs'⟩ := ht.one hd
    cases hs'
  · obtain ⟨lv, h1, a1, c1, rfl, _⟩ := h.hse.bx p hp
    rw [← e] at hc
    exact noStr_box h1 ⟨_, _, _, rfl⟩ i s hc
theorem Lts.keepB {w w' : World} {v : Value} {ls : List Lt} (h : Lts w v ls) (hf : ∀ y ∈ ls, y.flags = []) (hk : ∀ (b i j : Nat) (n : Int) (s : ByteArray), w.cell? ⟨b, i, none⟩ = some (.string s) → w.cell? ⟨b, j, none⟩ = some (.int .i64 n) → w'.heap[b]? = w.heap[b]?) : Lts w' v ls := by
  obtain ⟨a, c, h1, h0, h2⟩ := h
  refine ⟨a, c, h1, h0, ?_⟩
  rcases h2 with h2 | ⟨b, o, h3, h4⟩
  · exact Or.inl h2
  · refine Or.inr ⟨b, o, h3, fun j x hj => ?_⟩
    obtain ⟨q1, ⟨fv, q2, q3⟩, q4, q5⟩ := h4 j x hj
    have hcell : ∀ i, w'.cell? ⟨b, i, none⟩ = w.cell? ⟨b, i, none⟩ := fun i => World.cell?_of_block (a := ⟨b, i, none⟩) (hk b _ _ _ _ q5 q1)
    refine ⟨(hcell _).trans q1, ⟨fv, (hcell _).trans q2, ?_⟩, (hcell _).trans q4, (hcell _).trans q5⟩
    rw [hf x (List.mem_of_getElem? hj)] at q3 ⊢
    obtain ⟨fa, fc, r1, r2, _⟩ := q3
    exact ⟨fa, fc, r1, r2, Or.inl rfl⟩
end Go.Proofs.YtdmplfflmdanlaaGreatDoor
namespace Go.Proofs.YtdmplfflmdanlaaGreatDoor
open Go.RowKit Go.Proofs.Aid Go.Proofs.Bx

def cCreate (l : Bxs) (s : Nm) : Int :=
  match nameB s with
  | none => 1
  | some r => if hasB l r = true then 9 else if 30 < l.length + (lackB l r ++ [r]).length then 12 else 0
def cDelete (l : Bxs) (s : Nm) : Int :=
  match nameB s with
  | none => 1
  | some r => if hasB l r = true then (if r = inboxN ∨ withinB l r ≠ [] then 6 else 0) else 7
def cRename (l : Bxs) (s u : Nm) : Int :=
  match nameB s with
  | none => 1
  | some N => if hasB l N = true then
      (match nameB u with
       | none => 1
       | some T => if hasB l T = true then 9 else if N = inboxN then (if 30 < l.length + (lackB l T ++ [T]).length then 12 else 0)
         else if inB T N = true then 6 else if longB l N T = true then 4 else if 30 < l.length + (lackB l T).length then 12 else 0)
    else 7
def cWant (W : List Nm) (s : Nm) (y : Bool) : Int :=
  match nameB s with
  | none => 1
  | some r => if y = true then (if r ∈ W then 0 else if 60 ≤ W.length then 12 else 0) else (if r ∈ W then 0 else 7)
/-- The names of what the program's house has, and all that holds of it. -/
structure PH (H K hb mb : Nat) (l : Bxs) (nx : Int) (W : List Nm) (C : Nat → Bxd) (wv : Value) (w : World) : Prop where
  st : Hst H hb mb l nx W C wv w
  hi : HI H K l nx W C
theorem PH.below {H K hb mb : Nat} {l : Bxs} {nx : Int} {W : List Nm} {C : Nat → Bxd} {wv : Value} {w w' : World} (h : PH H K hb mb l nx W C wv w) (hb' : Below w.heap.size w w') : PH H K hb mb l nx W C wv w' := ⟨h.st.below hb', h.hi⟩
theorem PH.more {H K K' hb mb : Nat} {l : Bxs} {nx : Int} {W : List Nm} {C : Nat → Bxd} {wv : Value} {w : World} (h : PH H K hb mb l nx W C wv w) (hK : K ≤ K') : PH H K' hb mb l nx W C wv w := ⟨h.st, h.hi.more hK⟩
/-- All was as it is: an error. -/
def ErrP (H K hb mb : Nat) (l : Bxs) (nx : Int) (W : List Nm) (C : Nat → Bxd) (wv : Value) (w : World) (c : Int) (e : Ending) (w' : World) : Prop := c ≠ 0 ∧ e = .returned (errN c) ∧ Below w.heap.size w w' ∧ PH H (K + 1) hb mb l nx W C wv w'
theorem ErrP.of {H K hb mb : Nat} {l : Bxs} {nx : Int} {W : List Nm} {C : Nat → Bxd} {wv : Value} {w w' : World} {c : Int} (h : PH H K hb mb l nx W C wv w) (hc : c ≠ 0) (hb' : Below w.heap.size w w') : ErrP H K hb mb l nx W C wv w c (.returned (errN c)) w' := ⟨hc, rfl, hb', (h.below hb').more (by omega)⟩
theorem create_p (H hb mb K : Nat) (l : Bxs) (nx : Int) (W : List Nm) (C : Nat → Bxd) (wv : Value) (s : ByteArray) (w : World) (hE : NEnv w) (h : PH H K hb mb l nx W C wv w) (hK : K ≤ 400) (hs : s.size ≤ 1000) :
    Calls Tryz.prog 73 #[.pointer (some ⟨hb, 0, none⟩), .string s] w fun e w' =>
      ErrP H K hb mb l nx W C wv w (cCreate l s.data.toList) e w' ∨
      (cCreate l s.data.toList = 0 ∧ e = .returned .nilIface ∧ Tn (PS hb mb wv l) w w' ∧ Below H w w' ∧ ∃ r ps, nameB s.data.toList = some r ∧ hasB l r = false ∧ Made w.heap.size (lackB l r ++ [r]) ps ∧ PH H (K + 1) hb mb (putAll l ps) (nx + ((lackB l r ++ [r]).length : Int)) W (withNew w.heap.size nx ps C) wv w') := by
  have hl := h.hi.len
  have hn := h.hi.nxt
  refine (create_is nameB hb mb l nx wv s w (nameC hE) h.st.hse.hs hs (by omega) (by omega)).mono ?_
  rintro e w' (⟨c1, c2, c3⟩ | ⟨r, c1, c2, c3, c4⟩ | ⟨r, c1, c2, c3, c4, c5⟩ | ⟨r, ps, c1, c2, c3, c4, c5, c6, c7⟩)
  · have hc : cCreate l s.data.toList = 1 := by unfold cCreate; rw [c1]
    rw [hc, c2]
    exact Or.inl (ErrP.of h (by decide) c3)
  · have hc : cCreate l s.data.toList = 9 := by unfold cCreate; simp only [c1]; rw [if_pos c2]
    rw [hc, c3]
    exact Or.inl (ErrP.of h (by decide) c4)
  · have hc : cCreate l s.data.toList = 12 := by unfold cCreate; simp only [c1]; rw [if_neg (by rw [c2]; simp), if_pos c3]
    rw [hc, c4]
    exact Or.inl (ErrP.of h (by decide) c5)
  · have hc : cCreate l s.data.toList = 0 := by unfold cCreate; simp only [c1]; rw [if_neg (by rw [c2]; simp), if_neg (by omega)]
    exact Or.inr ⟨hc, c4, Tn.hk c5 (Or.inl rfl) (Or.inr (Or.inl rfl)), c5.below h.st.h0 h.st.h1 h.st.h2, r, ps, c1, c2, c6.made, h.st.turn c5 c7 (h.st.built c5 c6), h.hi.create c6 h.st.old h.st.h0 c3 (nameB_idem c1)⟩
theorem delete_p (H hb mb K : Nat) (l : Bxs) (nx : Int) (W : List Nm) (C : Nat → Bxd) (wv : Value) (s : ByteArray) (w : World) (hE : NEnv w) (h : PH H K hb mb l nx W C wv w) (hs : s.size ≤ 1000) :
    Calls Tryz.prog 74 #[.pointer (some ⟨hb, 0, none⟩), .string s] w fun e w' =>
      ErrP H K hb mb l nx W C wv w (cDelete l s.data.toList) e w' ∨
      (cDelete l s.data.toList = 0 ∧ e = .returned .nilIface ∧ Tn (PS hb mb wv l) w w' ∧ Below H w w' ∧ ∃ r, nameB s.data.toList = some r ∧ PH H (K + 1) hb mb (delB l r) nx W C wv w') := by
  have hl := h.hi.len
  refine (delete_is nameB hb mb l nx wv s w (nameC hE) h.st.hse.hs hs (by omega)).mono ?_
  rintro e w' (⟨c1, c2, c3⟩ | ⟨r, c1, c2, c3, c4⟩ | ⟨r, c1, c2, c3, c4, c5⟩ | ⟨r, c1, c1', c2, c3, c4, c5, c7⟩)
  · have hc : cDelete l s.data.toList = 1 := by unfold cDelete; rw [c1]
    rw [hc, c2]
    exact Or.inl (ErrP.of h (by decide) c3)
  · have hc : cDelete l s.data.toList = 7 := by unfold cDelete; simp only [c1]; rw [if_neg (by rw [c2]; simp)]
    rw [hc, c3]
    exact Or.inl (ErrP.of h (by decide) c4)
  · have hc : cDelete l s.data.toList = 6 := by unfold cDelete; simp only [c1]; rw [if_pos c2, if_pos c3]
    rw [hc, c4]
    exact Or.inl (ErrP.of h (by decide) c5)
  · have hc : cDelete l s.data.toList = 0 := by
      unfold cDelete
      simp only [c1]
      rw [if_pos c1', if_neg]
      rintro (e | e)
      · exact c2 e
      · exact e c3
    exact Or.inr ⟨hc, c4, Tn.hk c5 (Or.inl rfl) (Or.inr (Or.inl rfl)), c5.below h.st.h0 h.st.h1 h.st.h2, r, c1, h.st.turn c5 c7 fun p hp => h.st.box c5 (List.mem_filter.1 hp).1, (h.hi.delete c3 c2).more (by omega)⟩
end Go.Proofs.YtdmplfflmdanlaaGreatDoor
