/-
  What the document's deeds answer, by the same words; both houses at on, and more.
-/
import Derived.Test.YtfdlopimncodcaaGreatDoorBpHpWant
namespace Go.Proofs.YtfdlopimncodcaaGreatDoor
open Go.RowKit Go.Proofs.Aid Go.Proofs.Bx
theorem rcreate_c (rb rm rw : Nat) (l : Bxs) (nx : Int) (s : ByteArray) (w : World) (hE : NEnv w) (h : RHs w rb rm rw l nx) (hs : s.size ≤ 1000) (hl : l.length ≤ 30) (hn : 0 ≤ nx ∧ nx ≤ 900000) :
    Calls Tryz.prog 42 #[.pointer (some ⟨rb, 0, none⟩), .string s] w fun e w' =>
      (cCreate l s.data.toList ≠ 0 ∧ e = .returned (.int .i64 (cCreate l s.data.toList)) ∧ Below w.heap.size w w') ∨
      (cCreate l s.data.toList = 0 ∧ e = .returned (.int .i64 0) ∧ ∃ r ps, nameB s.data.toList = some r ∧ HK rb rm w w' ∧ RBuilt w.heap.size w' nx (lackB l r ++ [r]) ps ∧ RHs w' rb rm rw (putAll l ps) (nx + ((lackB l r ++ [r]).length : Int))) := by
  refine (rcreate_is rb rm rw l nx s w hE h hs hl hn).mono ?_
  rintro e w' (⟨c1, c2, c3⟩ | ⟨r, c1, c2, c3, c4⟩ | ⟨r, c1, c2, c3, c4, c5⟩ | ⟨r, ps, c1, c2, c3, c4, c5, c6, c7⟩)
  · have hc : cCreate l s.data.toList = 1 := by unfold cCreate; rw [c1]
    rw [hc, c2]
    exact Or.inl ⟨by decide, rfl, c3⟩
  · have hc : cCreate l s.data.toList = 9 := by unfold cCreate; simp only [c1]; rw [if_pos c2]
    rw [hc, c3]
    exact Or.inl ⟨by decide, rfl, c4⟩
  · have hc : cCreate l s.data.toList = 12 := by unfold cCreate; simp only [c1]; rw [if_neg (by rw [c2]; simp), if_pos c3]
    rw [hc, c4]
    exact Or.inl ⟨by decide, rfl, c5⟩
  · have hc : cCreate l s.data.toList = 0 := by unfold cCreate; simp only [c1]; rw [if_neg (by rw [c2]; simp), if_neg (by omega)]
    exact Or.inr ⟨hc, c4, r, ps, c1, c5, c6, c7⟩
theorem rdelete_c (rb rm rw : Nat) (l : Bxs) (nx : Int) (s : ByteArray) (w : World) (hE : NEnv w) (h : RHs w rb rm rw l nx) (hs : s.size ≤ 1000) (hl : l.length ≤ 1000) (hsm : ∀ p ∈ l, p.1.length ≤ 1000) :
    Calls Tryz.prog 44 #[.pointer (some ⟨rb, 0, none⟩), .string s] w fun e w' =>
      (cDelete l s.data.toList ≠ 0 ∧ e = .returned (.int .i64 (cDelete l s.data.toList)) ∧ Below w.heap.size w w') ∨
      (cDelete l s.data.toList = 0 ∧ e = .returned (.int .i64 0) ∧ ∃ r, nameB s.data.toList = some r ∧ HK rb rm w w' ∧ RHs w' rb rm rw (delB l r) nx) := by
  refine (rdelete_is rb rm rw l nx s w hE h hs hl hsm).mono ?_
  rintro e w' (⟨c1, c2, c3⟩ | ⟨r, c1, c2, c3, c4⟩ | ⟨r, c1, c2, c3, c4, c5⟩ | ⟨r, c1, c1', c2, c3, c4, c5, c7⟩)
  · have hc : cDelete l s.data.toList = 1 := by unfold cDelete; rw [c1]
    rw [hc, c2]
    exact Or.inl ⟨by decide, rfl, c3⟩
  · have hc : cDelete l s.data.toList = 7 := by unfold cDelete; simp only [c1]; rw [if_neg (by rw [c2]; simp)]
    rw [hc, c3]
    exact Or.inl ⟨by decide, rfl, c4⟩
  · have hc : cDelete l s.data.toList = 6 := by unfold cDelete; simp only [c1]; rw [if_pos c2, if_pos c3]
    rw [hc, c4]
    exact Or.inl ⟨by decide, rfl, c5⟩
  · have hc : cDelete l s.data.toList = 0 := by
      unfold cDelete
      simp only [c1]
      rw [if_pos c1', if_neg]
      rintro (e | e)
      · exact c2 e
      · exact e c3
    exact Or.inr ⟨hc, c4, r, c1, c5, c7⟩
def RRenP (rb rm rw : Nat) (l Wl : Bxs) (nx : Int) (C : Nat → Bxd) (s u : Nm) (w w' : World) : Prop :=
  (∃ T, nameB s = some inboxN ∧ nameB u = some T ∧ hasB l T = false ∧ ∃ ps ib tb, Made w.heap.size (lackB l T ++ [T]) ps ∧ (inboxN, ib) ∈ l ∧ (T, tb) ∈ putAll l ps ∧
    RSt w' rb rm rw (putAll l ps) Wl (nx + ((lackB l T ++ [T]).length : Int)) (setC (setC (withNew w.heap.size nx ps C) tb ⟨(withNew w.heap.size nx ps C tb).v, (C ib).n, (C ib).ls⟩) ib ⟨(C ib).v, (C ib).n, []⟩)) ∨
  (∃ N T, nameB s = some N ∧ N ≠ inboxN ∧ hasB l N = true ∧ nameB u = some T ∧ hasB l T = false ∧ inB T N = false ∧ ∃ ps, Made w.heap.size (lackB l T) ps ∧
    RSt w' rb rm rw (putAll (mvAll T N (mvList l N) l) ps) Wl (nx + ((lackB l T).length : Int)) (withNew w.heap.size nx ps C))
theorem rrename_c (rb rm rw : Nat) (l Wl : Bxs) (nx : Int) (C : Nat → Bxd) (s u : ByteArray) (w : World) (hE : NEnv w) (h : RSt w rb rm rw l Wl nx C) (hw : Wh l) (hs : s.size ≤ 1000) (hu : u.size ≤ 1000) (hl : l.length ≤ 30) (hsm : ∀ p ∈ l, p.1.length ≤ 60) (hn : 0 ≤ nx ∧ nx ≤ 900000) :
    Calls Tryz.prog 45 #[.pointer (some ⟨rb, 0, none⟩), .string s, .string u] w fun e w' =>
      (cRename l s.data.toList u.data.toList ≠ 0 ∧ e = .returned (.int .i64 (cRename l s.data.toList u.data.toList)) ∧ Below w.heap.size w w') ∨
      (cRename l s.data.toList u.data.toList = 0 ∧ e = .returned (.int .i64 0) ∧ Tn (DS rb rm rw l) w w' ∧ RRenP rb rm rw l Wl nx C s.data.toList u.data.toList w w') := by
  by_cases hgood : ∃ N T, nameB s.data.toList = some N ∧ hasB l N = true ∧ nameB u.data.toList = some T ∧ hasB l T = false
  · obtain ⟨N, T, e1, e2, e3, e4⟩ := hgood
    by_cases hin : N = inboxN
    · subst hin
      have hc : cRename l s.data.toList u.data.toList = if 30 < l.length + (lackB l T ++ [T]).length then 12 else 0 := by
        unfold cRename
        simp only [e1, e3]
        rw [if_pos e2, if_neg (by rw [e4]; simp), if_pos trivial]
      refine (rren_inbox rb rm rw l Wl nx C s u T w hE h hs hu hl hn e1 e2 e3 e4).mono ?_
      rintro e w' (⟨c1, rfl, c3⟩ | ⟨c1, rfl, c3, ps, ib, tb, c4, c5, c6, _, c7⟩)
      · rw [hc, if_pos c1]
        exact Or.inl ⟨by decide, rfl, c3⟩
      · rw [hc, if_neg (by omega)]
        exact Or.inr ⟨rfl, rfl, c3, Or.inl ⟨T, e1, e3, e4, ps, ib, tb, c4, c5, c6, c7⟩⟩
    · have hc : cRename l s.data.toList u.data.toList = if inB T N = true then 6 else if longB l N T = true then 4 else if 30 < l.length + (lackB l T).length then 12 else 0 := by
        unfold cRename
        simp only [e1, e3]
        rw [if_pos e2, if_neg (by rw [e4]; simp), if_neg hin]
      refine (rren_move rb rm rw l Wl nx C s u N T w hE h hw hs hu hl hsm hn e1 e2 e3 e4 hin).mono ?_
      rintro e w' (⟨c1, rfl, c3⟩ | ⟨c1, c2, rfl, c4⟩ | ⟨c1, c2, c3, rfl, c5⟩ | ⟨c1, c2, c3, rfl, c5, ps, c6, c7⟩)
      · rw [hc, if_pos c1]
        exact Or.inl ⟨by decide, rfl, c3⟩
      · rw [hc, if_neg (by rw [c1]; simp), if_pos c2]
        exact Or.inl ⟨by decide, rfl, c4⟩
      · rw [hc, if_neg (by rw [c1]; simp), if_neg (by rw [c2]; simp), if_pos c3]
        exact Or.inl ⟨by decide, rfl, c5⟩
      · rw [hc, if_neg (by rw [c1]; simp), if_neg (by rw [c2]; simp), if_neg (by omega)]
        exact Or.inr ⟨rfl, rfl, c5, Or.inr ⟨N, T, e1, hin, e2, e3, e4, c1, ps, c6, c7⟩⟩
  · refine (rren_err rb rm rw l nx s u w hE h.rhs hs hu hgood).mono ?_
    rintro e w' ⟨hb, ⟨c1, rfl⟩ | ⟨N, c1, c2, rfl⟩ | ⟨N, c1, c2, c3, rfl⟩ | ⟨N, T, c1, c2, c3, c4, rfl⟩⟩
    · have hc : cRename l s.data.toList u.data.toList = 1 := by unfold cRename; simp only [c1]
      rw [hc]
      exact Or.inl ⟨by decide, rfl, hb⟩
    · have hc : cRename l s.data.toList u.data.toList = 7 := by unfold cRename; simp only [c1]; rw [if_neg (by rw [c2]; simp)]
      rw [hc]
      exact Or.inl ⟨by decide, rfl, hb⟩
    · have hc : cRename l s.data.toList u.data.toList = 1 := by unfold cRename; simp only [c1, c3]; rw [if_pos c2]
      rw [hc]
      exact Or.inl ⟨by decide, rfl, hb⟩
    · have hc : cRename l s.data.toList u.data.toList = 9 := by unfold cRename; simp only [c1, c3]; rw [if_pos c2, if_pos c4]
      rw [hc]
      exact Or.inl ⟨by decide, rfl, hb⟩
theorem mem_wl {Wl : Bxs} {x : Nm} : x ∈ namesB Wl ↔ hasB Wl x = true := mem_namesB
theorem one_put {Wl : Bxs} {r : Nm} (hs : SortedB Wl) (h1 : ∀ p ∈ Wl, p.2 = 1) : ∀ p ∈ putB r 1 Wl, p.2 = 1 := fun p hp => by
  rcases (mem_putB hs (m := p.1) (c := p.2)).1 hp with ⟨_, e⟩ | ⟨_, h⟩
  · exact e
  · exact h1 _ h
theorem rwant_c (rb rm rw : Nat) (l Wl : Bxs) (nx : Int) (s : ByteArray) (y : Bool) (w : World) (hE : NEnv w) (h : RHs w rb rm rw l nx) (hW : RNm w rw Wl) (hone : ∀ p ∈ Wl, p.2 = 1) (hs : s.size ≤ 1000) (hl : Wl.length ≤ 1000) (hne : rm ≠ rw) :
    Calls Tryz.prog 46 #[.pointer (some ⟨rb, 0, none⟩), .string s, .bool y] w fun e w' =>
      (cWant (namesB Wl) s.data.toList y ≠ 0 ∧ e = .returned (.int .i64 (cWant (namesB Wl) s.data.toList y)) ∧ Below w.heap.size w w') ∨
      (cWant (namesB Wl) s.data.toList y = 0 ∧ e = .returned (.int .i64 0) ∧ HK rw rw w w' ∧ RHs w' rb rm rw l nx ∧ ∃ r Wl', nameB s.data.toList = some r ∧ RNm w' rw Wl' ∧ (∀ p ∈ Wl', p.2 = 1) ∧ ∀ x, hasB Wl' x = true ↔ if y = true then x = r ∨ hasB Wl x = true else x ≠ r ∧ hasB Wl x = true) := by
  have hln : (namesB Wl).length = Wl.length := by simp [namesB]
  refine (rwant_is rb rm rw l Wl nx s y w hE h hW hone hs hl hne).mono ?_
  rintro e w' (⟨c1, c2, c3⟩ | ⟨r, c1, rfl, c2, c3, c4⟩ | ⟨r, c1, rfl, c2, c3, c4, c5, c6⟩ | ⟨r, c1, rfl, c2, c3, c4, c5⟩ | ⟨r, c1, rfl, c2, c3, c4, c5, c6⟩)
  · have hc : cWant (namesB Wl) s.data.toList y = 1 := by unfold cWant; rw [c1]
    rw [hc, c2]
    exact Or.inl ⟨by decide, rfl, c3⟩
  · have hc : cWant (namesB Wl) s.data.toList false = 7 := by unfold cWant; simp only [c1]; rw [if_neg (by decide), if_neg (by rw [mem_wl, c2]; simp)]
    rw [hc, c3]
    exact Or.inl ⟨by decide, rfl, c4⟩
  · have hc : cWant (namesB Wl) s.data.toList false = 0 := by unfold cWant; simp only [c1]; rw [if_neg (by decide), if_pos (by rw [mem_wl]; exact c2)]
    refine Or.inr ⟨hc, c3, c4, c5, r, _, c1, c6, fun p hp => hone p (List.mem_filter.1 hp).1, fun x => ?_⟩
    rw [if_neg (by decide)]
    exact has_delB
  · have hc : cWant (namesB Wl) s.data.toList true = 12 := by unfold cWant; simp only [c1]; rw [if_pos trivial, if_neg (by rw [mem_wl, c2]; simp), if_pos (by omega)]
    rw [hc, c4]
    exact Or.inl ⟨by decide, rfl, c5⟩
  · have hc : cWant (namesB Wl) s.data.toList true = 0 := by
      unfold cWant
      simp only [c1]
      rw [if_pos trivial]
      by_cases hm : r ∈ namesB Wl
      · rw [if_pos hm]
      · rw [if_neg hm, if_neg]
        rcases c2 with h9 | h9
        · exact absurd (mem_wl.2 h9) hm
        · omega
    refine Or.inr ⟨hc, c3, c4, c5, r, _, c1, c6, one_put hW.1 hone, fun x => ?_⟩
    rw [if_pos rfl]
    exact has_putB hW.1
def KeepK (w w' : World) : Prop := ∀ (k : Nat) (cs : Array Value) (ty : TypeId) (fz : Nat × Nat), w.heap[k]? = some (.cells cs ty fz) → ty ≠ 80 → ty ≠ 72 → ty ≠ 9 → ty ≠ 88 → ty ≠ 84 → w'.heap[k]? = some (.cells cs ty fz)
theorem KeepK.of {w w' : World} (h : Below w.heap.size w w') : KeepK w w' := fun k _ _ _ hk _ _ _ _ _ => (h.block k (Array.getElem?_eq_some_iff.1 hk).1).trans hk
theorem KeepK.trans {a b c : World} (h : KeepK a b) (k : KeepK b c) : KeepK a c := fun i cs ty fz hi h1 h2 h3 h4 h5 => k i cs ty fz (h i cs ty fz hi h1 h2 h3 h4 h5) h1 h2 h3 h4 h5
structure TwoAt (H K hb mb rb rm rw : Nat) (l l2 Wl : Bxs) (nx : Int) (W : List Nm) (C C2 : Nat → Bxd) (wv : Value) (w : World) : Prop where
  p : PH H K hb mb l nx W C wv w
  r : RSt w rb rm rw l2 Wl nx C2
  same : Same l C l2 C2
  wn : namesB Wl = W
  ne1 : mb ≠ rm
  ne2 : mb ≠ rw
  lowr : H ≤ rb ∧ H ≤ rm ∧ H ≤ rw
  lowb : ∀ q ∈ l2, H ≤ q.2
  blk2 : ∀ p ∈ l2, ∀ q ∈ l2, p.2 = q.2 → p = q
def Two (H K hb rb : Nat) (w : World) : Prop := ∃ mb rm rw l l2 Wl nx W C C2 wv, TwoAt H K hb mb rb rm rw l l2 Wl nx W C C2 wv w
theorem TwoAt.flags {H K hb mb rb rm rw : Nat} {l l2 Wl : Bxs} {nx : Int} {W : List Nm} {C C2 : Nat → Bxd} {wv : Value} {w : World} (t : TwoAt H K hb mb rb rm rw l l2 Wl nx W C C2 wv w) : ∀ p ∈ l2, ∀ y ∈ (C2 p.2).ls, y.flags = [] := fun p hp y hy => by
  obtain ⟨c, hc⟩ := hasB_true.1 ((has_names t.same.names p.1).trans (hasB_true.2 ⟨p.2, hp⟩))
  have h1 := t.same.same p.1 c p.2 hc hp
  rw [← h1] at hy
  exact ((t.p.hi.bx _ hc).plain y hy).1
theorem TwoAt.below {H K hb mb rb rm rw : Nat} {l l2 Wl : Bxs} {nx : Int} {W : List Nm} {C C2 : Nat → Bxd} {wv : Value} {w w' : World} (t : TwoAt H K hb mb rb rm rw l l2 Wl nx W C C2 wv w) (hb' : Below w.heap.size w w') : TwoAt H K hb mb rb rm rw l l2 Wl nx W C C2 wv w' :=
  ⟨t.p.below hb', t.r.below hb', t.same, t.wn, t.ne1, t.ne2, t.lowr, t.lowb, t.blk2⟩
theorem TwoAt.more {H K K' hb mb rb rm rw : Nat} {l l2 Wl : Bxs} {nx : Int} {W : List Nm} {C C2 : Nat → Bxd} {wv : Value} {w : World} (t : TwoAt H K hb mb rb rm rw l l2 Wl nx W C C2 wv w) (hK : K ≤ K') : TwoAt H K' hb mb rb rm rw l l2 Wl nx W C C2 wv w :=
  ⟨t.p.more hK, t.r, t.same, t.wn, t.ne1, t.ne2, t.lowr, t.lowb, t.blk2⟩
theorem Tn.lowD {H rb rm rw : Nat} {l2 : Bxs} {w w' : World} (t : Tn (DS rb rm rw l2) w w') (h : H ≤ rb ∧ H ≤ rm ∧ H ≤ rw) (hl : ∀ q ∈ l2, H ≤ q.2) (h0 : H ≤ w.heap.size) : Below H w w' := ⟨t.os, t.tape, t.output, t.size, fun k hk => t.block k (by omega) (by
  rintro (e | e | e | ⟨p, hp, e⟩)
  · omega
  · omega
  · omega
  · have := hl p hp; omega)⟩
theorem keep_ps {H hb mb : Nat} {l : Bxs} {nx : Int} {W : List Nm} {C : Nat → Bxd} {wv : Value} {w w' : World} (h : Hst H hb mb l nx W C wv w) (t : Tn (PS hb mb wv l) w w') : KeepK w w' := fun k _ _ _ hk h1 h2 h3 _ _ => (t.block k (Array.getElem?_eq_some_iff.1 hk).1 (ps_kind h hk h1 h2 h3)).trans hk
theorem keep_ds {rb rm rw : Nat} {l2 Wl : Bxs} {nx : Int} {C2 : Nat → Bxd} {w w' : World} (r : RSt w rb rm rw l2 Wl nx C2) (t : Tn (DS rb rm rw l2) w w') : KeepK w w' := fun k _ _ _ hk _ _ _ h4 h5 => (t.block k (Array.getElem?_eq_some_iff.1 hk).1 (ds_kind r hk h4 h5)).trans hk
end Go.Proofs.YtfdlopimncodcaaGreatDoor
namespace Go.Proofs.YtfdlopimncodcaaGreatDoor
open Go.RowKit Go.Proofs.Aid Go.Proofs.Bx
def errV (c : Int) : Value := if c = 0 then .nilIface else errN c
theorem errV_zero : errV 0 = .nilIface := if_pos rfl
theorem errV_ne {c : Int} (h : c ≠ 0) : errV c = errN c := if_neg h
def Then (H K hb rb f : Nat) (args : Array Value) (c : Int) (w1 : World) : Prop := Calls Tryz.prog f args w1 fun e2 w2 => e2 = .returned (.int .i64 c) ∧ Below H w1 w2 ∧ KeepK w1 w2 ∧ Two H (K + 1) hb rb w2
section
variable {H K hb mb rb rm rw : Nat} {l l2 Wl : Bxs} {nx : Int} {W : List Nm} {C C2 : Nat → Bxd} {wv : Value} {w : World}
theorem then_err (t : TwoAt H K hb mb rb rm rw l l2 Wl nx W C C2 wv w) {w1 : World} {c : Int} {e : Ending} (hE : ErrP H K hb mb l nx W C wv w c e w1) {f : Nat} {args : Array Value}
    (hd : TwoAt H (K + 1) hb mb rb rm rw l l2 Wl nx W C C2 wv w1 → Calls Tryz.prog f args w1 fun e2 w2 => e2 = .returned (.int .i64 c) ∧ Below w1.heap.size w1 w2) :
    e = .returned (errV c) ∧ Below H w w1 ∧ KeepK w w1 ∧ Then H K hb rb f args c w1 := by
  obtain ⟨h1, h2, h3, h4⟩ := hE
  have t1 := (t.below h3).more (show K ≤ K + 1 by omega)
  refine ⟨by rw [errV_ne h1]; exact h2, h3.mono t.p.st.h0, KeepK.of h3, (hd t1).mono ?_⟩
  rintro e2 w2 ⟨rfl, hb2⟩
  exact ⟨rfl, hb2.mono t1.p.st.h0, KeepK.of hb2, mb, rm, rw, l, l2, Wl, nx, W, C, C2, wv, t1.below hb2⟩
theorem TwoAt.names (t : TwoAt H K hb mb rb rm rw l l2 Wl nx W C C2 wv w) : namesB l2 = namesB l := t.same.names.symm
theorem TwoAt.len2 (t : TwoAt H K hb mb rb rm rw l l2 Wl nx W C C2 wv w) : l2.length ≤ 30 := by rw [len_names t.names]; exact t.p.hi.len
theorem TwoAt.short2 (t : TwoAt H K hb mb rb rm rw l l2 Wl nx W C C2 wv w) : ∀ p ∈ l2, p.1.length ≤ 60 := fun p hp => by
  obtain ⟨c, hc⟩ := hasB_true.1 ((has_names t.names p.1).symm.trans (hasB_true.2 ⟨p.2, hp⟩))
  exact t.p.hi.short (p.1, c) hc
theorem TwoAt.wh2 (t : TwoAt H K hb mb rb rm rw l l2 Wl nx W C C2 wv w) : Wh l2 := fun n hn i hi => by
  rw [has_names t.names] at hn ⊢
  exact t.p.hi.wh n hn i hi
theorem TwoAt.wlen2 (t : TwoAt H K hb mb rb rm rw l l2 Wl nx W C C2 wv w) : Wl.length ≤ 60 := by
  have h1 := t.p.hi.wlen
  rw [← t.wn] at h1
  simpa [namesB] using h1
theorem TwoAt.r1 (t : TwoAt H K hb mb rb rm rw l l2 Wl nx W C C2 wv w) {w1 : World} (tp : Tn (PS hb mb wv l) w w1) : RSt w1 rb rm rw l2 Wl nx C2 := t.r.tnP t.p.st t.flags tp t.ne1 t.ne2
theorem putAll_low {B : Nat} {ns : List Nm} {q ps : Bxs} (hs : SortedB q) (h : Made B ns ps) (hB : H ≤ B) (hq : ∀ p ∈ q, H ≤ p.2) : ∀ p ∈ putAll q ps, H ≤ p.2 := fun p hp => by
  rcases mem_putAll ps q hs hp with h1 | h1
  · exact hq p h1
  · obtain ⟨j, hj⟩ := List.getElem?_of_mem h1
    exact Nat.le_trans hB (h.2.1 j p hj)
theorem made_blk {B : Nat} {ns : List Nm} {ps : Bxs} (h : Made B ns ps) {p q : Nm × Nat} (hp : p ∈ ps) (hq : q ∈ ps) (e : p.2 = q.2) : p = q := by
  obtain ⟨i, hi⟩ := List.getElem?_of_mem hp
  obtain ⟨j, hj⟩ := List.getElem?_of_mem hq
  obtain ⟨h1, e1⟩ := List.getElem?_eq_some_iff.1 hi
  obtain ⟨h2, e2⟩ := List.getElem?_eq_some_iff.1 hj
  rcases Nat.lt_trichotomy i j with h3 | h3 | h3
  · have := List.pairwise_iff_getElem.1 h.2.2 i j (by simpa using h1) (by simpa using h2) h3
    simp only [List.getElem_map] at this
    rw [e1, e2] at this
    omega
  · subst h3
    rw [hi] at hj
    exact Option.some.inj hj
  · have := List.pairwise_iff_getElem.1 h.2.2 j i (by simpa using h2) (by simpa using h1) h3
    simp only [List.getElem_map] at this
    rw [e1, e2] at this
    omega
theorem putAll_blk {B : Nat} {ns : List Nm} {q ps : Bxs} (hs : SortedB q) (h : Made B ns ps) (ho : ∀ p ∈ q, p.2 < B) (hq : ∀ p ∈ q, ∀ r ∈ q, p.2 = r.2 → p = r) : ∀ p ∈ putAll q ps, ∀ r ∈ putAll q ps, p.2 = r.2 → p = r := fun p hp r hr e => by
  have hlow : ∀ x ∈ ps, B ≤ x.2 := fun x hx => by
    obtain ⟨j, hj⟩ := List.getElem?_of_mem hx
    exact h.2.1 j x hj
  rcases mem_putAll ps q hs hp with h1 | h1
  · rcases mem_putAll ps q hs hr with h2 | h2
    · exact hq p h1 r h2 e
    · have := ho p h1; have := hlow r h2; omega
  · rcases mem_putAll ps q hs hr with h2 | h2
    · have := ho r h2; have := hlow p h1; omega
    · exact made_blk h h1 h2 e
theorem both_create (t : TwoAt H K hb mb rb rm rw l l2 Wl nx W C C2 wv w) (hEn : ∀ W, Below H w W → NEnv W) (hK : K ≤ 90) (s : ByteArray) (hs : s.size ≤ 1000) :
    Calls Tryz.prog 41 #[.pointer (some ⟨hb, 0, none⟩), .string s] w fun e w1 => ∃ c, e = .returned (errV c) ∧ Below H w w1 ∧ KeepK w w1 ∧ Then H K hb rb 42 #[.pointer (some ⟨rb, 0, none⟩), .string s] c w1 := by
  have hnx := t.p.hi.nxt
  refine (create_p H hb mb K l nx W C wv s w (hEn w (Below.refl _ _)) t.p hK hs).mono ?_
  rintro e w1 (hE | ⟨h0, rfl, tp, hlow, r, ps, hr, hno, hm, hp⟩)
  · refine ⟨_, then_err t hE fun t1 => ?_⟩
    refine (rcreate_c rb rm rw l2 nx s w1 (hEn w1 (hE.2.2.1.mono t.p.st.h0)) t1.r.rhs hs t1.len2 (by omega)).mono ?_
    rw [cCreate_names t.names]
    rintro e2 w2 (⟨_, rfl, q3⟩ | ⟨q1, _⟩)
    · exact ⟨rfl, q3⟩
    · exact absurd q1 hE.1
  · have r1 := t.r1 tp
    have hl2 := t.len2
    refine ⟨0, by rw [errV_zero], hlow, keep_ps t.p.st tp, ?_⟩
    refine (rcreate_c rb rm rw l2 nx s w1 (hEn w1 hlow) r1.rhs hs hl2 (by omega)).mono ?_
    rw [cCreate_names t.names]
    rintro e2 w2 (⟨q1, _⟩ | ⟨_, rfl, r', ps2, q1, q2, q3, q4⟩)
    · exact absurd h0 q1
    · rw [hr] at q1
      obtain rfl := Option.some.inj q1
      have td : Tn (DS rb rm rw l2) w1 w2 := Tn.hk q2 (Or.inl rfl) (Or.inr (Or.inl rfl))
      have hlen : (lackB l2 r ++ [r]).length = (lackB l r ++ [r]).length := by rw [lack_names t.names]
      have hz : w.heap.size ≤ w1.heap.size := tp.size
      have hH1 : H ≤ w1.heap.size := Nat.le_trans t.p.st.h0 hz
      rw [lack_names t.names] at q3 q4
      refine ⟨rfl, td.lowD t.lowr t.lowb hH1, keep_ds r1 td, mb, rm, rw, _, _, Wl, _, W, _, _, wv, ⟨hp.st.tnD r1 td t.ne1 t.ne2, hp.hi⟩, r1.hk q2 q4 (r1.built q2 q3), ?_, t.wn, t.ne1, t.ne2, t.lowr, putAll_low t.r.rhs.2.sorted q3.made hH1 t.lowb, putAll_blk t.r.rhs.2.sorted q3.made r1.old t.blk2⟩
      exact t.same.made t.p.hi.sorted t.r.rhs.2.sorted t.p.st.old r1.old hm q3.made (fun n hn => lackT_new hno hn) (lackT_nodup l r)
theorem both_delete (t : TwoAt H K hb mb rb rm rw l l2 Wl nx W C C2 wv w) (hEn : ∀ W, Below H w W → NEnv W) (s : ByteArray) (hs : s.size ≤ 1000) :
    Calls Tryz.prog 43 #[.pointer (some ⟨hb, 0, none⟩), .string s] w fun e w1 => ∃ c, e = .returned (errV c) ∧ Below H w w1 ∧ KeepK w w1 ∧ Then H K hb rb 44 #[.pointer (some ⟨rb, 0, none⟩), .string s] c w1 := by
  refine (delete_p H hb mb K l nx W C wv s w (hEn w (Below.refl _ _)) t.p hs).mono ?_
  rintro e w1 (hE | ⟨h0, rfl, tp, hlow, r, hr, hp⟩)
  · refine ⟨_, then_err t hE fun t1 => ?_⟩
    have hl2 := t1.len2
    refine (rdelete_c rb rm rw l2 nx s w1 (hEn w1 (hE.2.2.1.mono t.p.st.h0)) t1.r.rhs hs (by omega) (fun p hp => by have := t1.short2 p hp; omega)).mono ?_
    rw [cDelete_names t.names]
    rintro e2 w2 (⟨_, rfl, q3⟩ | ⟨q1, _⟩)
    · exact ⟨rfl, q3⟩
    · exact absurd q1 hE.1
  · have r1 := t.r1 tp
    have hl2 := t.len2
    refine ⟨0, by rw [errV_zero], hlow, keep_ps t.p.st tp, ?_⟩
    refine (rdelete_c rb rm rw l2 nx s w1 (hEn w1 hlow) r1.rhs hs (by omega) (fun p hp => by have := t.short2 p hp; omega)).mono ?_
    rw [cDelete_names t.names]
    rintro e2 w2 (⟨q1, _⟩ | ⟨_, rfl, r', q1, q2, q4⟩)
    · exact absurd h0 q1
    · rw [hr] at q1
      obtain rfl := Option.some.inj q1
      have td : Tn (DS rb rm rw l2) w1 w2 := Tn.hk q2 (Or.inl rfl) (Or.inr (Or.inl rfl))
      have hH1 : H ≤ w1.heap.size := Nat.le_trans t.p.st.h0 tp.size
      have hsub : ∀ p ∈ delB l2 r, p ∈ l2 := fun p hp => (List.mem_filter.1 hp).1
      exact ⟨rfl, td.lowD t.lowr t.lowb hH1, keep_ds r1 td, mb, rm, rw, _, _, Wl, _, W, _, _, wv, ⟨hp.st.tnD r1 td t.ne1 t.ne2, hp.hi⟩, r1.hk q2 q4 (fun p hp => r1.box q2 (hsub p hp)), t.same.del r, t.wn, t.ne1, t.ne2, t.lowr, fun p hp => t.lowb p (hsub p hp), fun p hp q hq => t.blk2 p (hsub p hp) q (hsub q hq)⟩
theorem both_want (t : TwoAt H K hb mb rb rm rw l l2 Wl nx W C C2 wv w) (hEn : ∀ W, Below H w W → NEnv W) (s : ByteArray) (y : Bool) (hs : s.size ≤ 1000) :
    Calls Tryz.prog 36 #[.pointer (some ⟨hb, 0, none⟩), .string s, .bool y] w fun e w1 => ∃ c, e = .returned (errV c) ∧ Below H w w1 ∧ KeepK w w1 ∧ Then H K hb rb 46 #[.pointer (some ⟨rb, 0, none⟩), .string s, .bool y] c w1 := by
  have hwl := t.wlen2
  refine (want_p H hb mb K l nx W C wv s y w (hEn w (Below.refl _ _)) t.p hs).mono ?_
  rintro e w1 (hE | ⟨h0, rfl, tp, hlow, r, W', wv', hr, hmem, hp⟩)
  · refine ⟨_, then_err t hE fun t1 => ?_⟩
    refine (rwant_c rb rm rw l2 Wl nx s y w1 (hEn w1 (hE.2.2.1.mono t.p.st.h0)) t1.r.rhs t1.r.wm t1.r.one hs (by omega) t1.r.ne).mono ?_
    rw [t.wn]
    rintro e2 w2 (⟨_, rfl, q3⟩ | ⟨q1, _⟩)
    · exact ⟨rfl, q3⟩
    · exact absurd q1 hE.1
  · have r1 := t.r1 tp
    refine ⟨0, by rw [errV_zero], hlow, keep_ps t.p.st tp, ?_⟩
    refine (rwant_c rb rm rw l2 Wl nx s y w1 (hEn w1 hlow) r1.rhs r1.wm r1.one hs (by omega) r1.ne).mono ?_
    rw [t.wn]
    rintro e2 w2 (⟨q1, _⟩ | ⟨_, rfl, q2, q3, r', Wl', q4, q5, q6, q7⟩)
    · exact absurd h0 q1
    · rw [hr] at q4
      obtain rfl := Option.some.inj q4
      have td : Tn (DS rb rm rw l2) w1 w2 := Tn.hk q2 (Or.inr (Or.inr (Or.inl rfl))) (Or.inr (Or.inr (Or.inl rfl)))
      have hH1 : H ≤ w1.heap.size := Nat.le_trans t.p.st.h0 tp.size
      have hrst : RSt w2 rb rm rw l2 Wl' nx C2 := ⟨q3, q5, q6, fun p hp => by
        obtain ⟨lv, hB⟩ := r1.bx p hp
        have hne : p.2 ≠ rw := fun e => by
          obtain ⟨es, c, hm⟩ := r1.wm.map
          have := hB.1
          rw [e, hm] at this
          cases this
        refine ⟨lv, hB.tx (q2.block _ hB.lt hne hne) fun g i s hc => q2.block g (World.block_lt_of_cell? _ _ hc) (fun e => ?_) (fun e => ?_)⟩
        · obtain ⟨es, c, hm⟩ := r1.wm.map
          rw [e] at hc
          exact noStr_map hm i s hc
        · obtain ⟨es, c, hm⟩ := r1.wm.map
          rw [e] at hc
          exact noStr_map hm i s hc, r1.ne⟩
      have hWn : namesB Wl' = W' := sorted_ext (namesB_sorted q5.1) hp.hi.wsorted fun x => by
        rw [mem_namesB, q7, hmem, ← t.wn]
        simp only [mem_namesB]
      exact ⟨rfl, td.lowD t.lowr t.lowb hH1, keep_ds r1 td, mb, rm, rw, _, _, Wl', _, W', _, _, wv', ⟨hp.st.tnD r1 td t.ne1 t.ne2, hp.hi⟩, hrst, t.same, hWn, t.ne1, t.ne2, t.lowr, t.lowb, t.blk2⟩
end
end Go.Proofs.YtfdlopimncodcaaGreatDoor
