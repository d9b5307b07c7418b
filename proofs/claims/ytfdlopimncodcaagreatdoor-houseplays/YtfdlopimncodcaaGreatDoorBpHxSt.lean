/-
  A house with all that it has, in memory, whatever is done: what a deed, and more.
-/
import Derived.Test.YtfdlopimncodcaaGreatDoorBpInsShelf
import Derived.Test.YtfdlopimncodcaaGreatDoorBpRhMvMath
namespace Go.Proofs.YtfdlopimncodcaaGreatDoor
open Go.RowKit Go.Proofs.Aid Go.Proofs.Bx
structure Hst (H hb mb : Nat) (l : Bxs) (nx : Int) (W : List Nm) (C : Nat → Bxd) (wv : Value) (w : World) : Prop where
  hse : Hse w hb mb l nx wv W C
  row : WRow w wv W
  own : ∀ g, wv.ownBlock = some g → H ≤ g
  h0 : H ≤ w.heap.size
  h1 : H ≤ hb
  h2 : H ≤ mb
theorem Hst.below {H hb mb : Nat} {l : Bxs} {nx : Int} {W : List Nm} {C : Nat → Bxd} {wv : Value} {w w' : World} (h : Hst H hb mb l nx W C wv w) (hb' : Below w.heap.size w w') : Hst H hb mb l nx W C wv w' :=
  ⟨h.hse.below hb', h.row.below hb', h.own, Nat.le_trans h.h0 hb'.size, h.h1, h.h2⟩
theorem Hst.form {H hb mb : Nat} {l : Bxs} {nx : Int} {W : List Nm} {C : Nat → Bxd} {wv : Value} {w : World} (h : Hst H hb mb l nx W C wv w) : ∃ a c, wv = .slice a W.length c := by
  obtain ⟨a, c, e, _⟩ := h.hse.ws
  exact ⟨a, c, e⟩
theorem wrow_hk {w w' : World} {hb mb : Nat} {l : Bxs} {nx : Int} {wv v : Value} {W : List Nm} (hr : WRow w v W) (hS : HsAt w hb mb l nx wv) (hk : HK hb mb w w') : WRow w' v W := hr.same fun g hg => by
  obtain ⟨cap, cur, h1, _⟩ := hr.tblk hg
  exact hk.block g (Array.getElem?_eq_some_iff.1 h1).1 (ne_of_kind hS h1 (by decide)).1 (ne_of_kind hS h1 (by decide)).2
theorem Hst.turn {H hb mb : Nat} {l l' : Bxs} {nx nx' : Int} {W : List Nm} {C C' : Nat → Bxd} {wv : Value} {w w' : World} (h : Hst H hb mb l nx W C wv w) (hk : HK hb mb w w') (hs : HsAt w' hb mb l' nx' wv) (hbx : ∀ p ∈ l', BoxAt w' p.2 (C' p.2).v (C' p.2).n (C' p.2).ls) : Hst H hb mb l' nx' W C' wv w' :=
  ⟨⟨hs, (wrow_hk h.row h.hse.hs hk).sl, hbx⟩, wrow_hk h.row h.hse.hs hk, h.own, Nat.le_trans h.h0 hk.size, h.h1, h.h2⟩
theorem Hst.box {H hb mb : Nat} {l : Bxs} {nx : Int} {W : List Nm} {C : Nat → Bxd} {wv : Value} {w w' : World} (h : Hst H hb mb l nx W C wv w) (hk : HK hb mb w w') {p : Nm × Nat} (hp : p ∈ l) : BoxAt w' p.2 (C p.2).v (C p.2).n (C p.2).ls := by
  obtain ⟨a, c, rfl⟩ := h.form
  exact (h.hse.bx p hp).hk h.hse.hs hk
theorem Hst.old {H hb mb : Nat} {l : Bxs} {nx : Int} {W : List Nm} {C : Nat → Bxd} {wv : Value} {w : World} (h : Hst H hb mb l nx W C wv w) : ∀ p ∈ l, p.2 < w.heap.size := fun p hp => (h.hse.bx p hp).lt
theorem Hst.built {H hb mb : Nat} {l : Bxs} {nx : Int} {W : List Nm} {C : Nat → Bxd} {wv : Value} {w w' : World} {ns : List Nm} {ps : Bxs} (h : Hst H hb mb l nx W C wv w) (hk : HK hb mb w w') (hb' : Built w.heap.size w' nx ns ps) : ∀ p ∈ putAll l ps, BoxAt w' p.2 (withNew w.heap.size nx ps C p.2).v (withNew w.heap.size nx ps C p.2).n (withNew w.heap.size nx ps C p.2).ls := fun p hp => by
  rcases mem_putAll ps l h.hse.hs.2.sorted hp with h1 | h1
  · rw [withNew_old (h.old p h1)]
    exact h.box hk h1
  · obtain ⟨j, hj⟩ := List.getElem?_of_mem h1
    rw [withNew_new hb' hj]
    exact newBox_at (hb'.2.1 j p hj).2
theorem Hst.boxed {H hb mb : Nat} {l : Bxs} {nx : Int} {W : List Nm} {C : Nat → Bxd} {wv : Value} {w w' : World} {n : Nm} {b : Nat} {x : Bxd} (h : Hst H hb mb l nx W C wv w) (hp : (n, b) ∈ l) (hB : BoxAt w' b x.v x.n x.ls) (hb' : But w.heap.size b w w') : Hst H hb mb l nx W (setC C b x) wv w' := by
  have hbb := h.hse.bx _ hp
  have htx := TxKeep.but hbb hb'
  obtain ⟨lv, hbh, _⟩ := id hbb
  have hne := ne_of_kind h.hse.hs hbh (by decide)
  have hS : HsAt w' hb mb l nx wv := ⟨(hb'.block hb h.hse.hs.lt hne.1.symm).trans h.hse.hs.1, h.hse.hs.2.same (hb'.block mb h.hse.hs.2.lt hne.2.symm)⟩
  have hrow : WRow w' wv W := h.row.same fun g hg => by
    obtain ⟨cap, cur, h1, _⟩ := h.row.tblk hg
    refine hb'.block g (Array.getElem?_eq_some_iff.1 h1).1 fun e => ?_
    rw [e] at h1
    have h3 := h1.symm.trans hbh
    injection h3 with h3
    injection h3 with _ h3 _
    exact absurd h3 (by decide)
  refine ⟨⟨hS, hrow.sl, fun p hpl => ?_⟩, hrow, h.own, Nat.le_trans h.h0 hb'.size, h.h1, h.h2⟩
  by_cases e : p.2 = b
  · rw [e, setC_same]
    exact hB
  · rw [setC_other e]
    have h2 := h.hse.bx p hpl
    exact h2.tx (hb'.block _ h2.lt e) htx
end Go.Proofs.YtfdlopimncodcaaGreatDoor
namespace Go.Proofs.YtfdlopimncodcaaGreatDoor
open Go.RowKit Go.Proofs.Aid Go.Proofs.Bx
structure Same (l : Bxs) (C : Nat → Bxd) (l2 : Bxs) (C2 : Nat → Bxd) : Prop where
  names : namesB l = namesB l2
  same : ∀ m c c2, (m, c) ∈ l → (m, c2) ∈ l2 → C c = C2 c2
theorem has_names {l l2 : Bxs} (h : namesB l = namesB l2) (m : Nm) : hasB l m = hasB l2 m := by
  rw [Bool.eq_iff_iff, ← mem_namesB, ← mem_namesB, h]
theorem len_names {l l2 : Bxs} (h : namesB l = namesB l2) : l.length = l2.length := by
  have := congrArg List.length h
  simpa [namesB] using this
theorem lack_names {l l2 : Bxs} (h : namesB l = namesB l2) (n : Nm) : lackB l n = lackB l2 n := by
  unfold lackB lackTo
  congr 2
  funext i
  rw [has_names h]
theorem within_names {l l2 : Bxs} (h : namesB l = namesB l2) (n : Nm) : withinB l n = withinB l2 n := by
  unfold withinB
  rw [h]
theorem long_names {l l2 : Bxs} (h : namesB l = namesB l2) (N T : Nm) : longB l N T = longB l2 N T := by
  unfold longB mvNames
  rw [within_names h]
theorem same_of {l l2 : Bxs} {C C2 : Nat → Bxd} (h1 : SortedB l) (h2 : SortedB l2) (hn : ∀ m, hasB l m = true ↔ hasB l2 m = true) (hs : ∀ m c c2, (m, c) ∈ l → (m, c2) ∈ l2 → C c = C2 c2) : Same l C l2 C2 :=
  ⟨sorted_ext (namesB_sorted h1) (namesB_sorted h2) fun x => by rw [mem_namesB, mem_namesB]; exact hn x, hs⟩
theorem Same.boxes {l l2 : Bxs} {C C2 : Nat → Bxd} (h : Same l C l2 C2) : (l.map fun p => C p.2) = l2.map fun p => C2 p.2 := by
  refine List.ext_getElem? fun j => ?_
  rw [List.getElem?_map, List.getElem?_map]
  have hj : (namesB l)[j]? = (namesB l2)[j]? := by rw [h.names]
  unfold namesB at hj
  rw [List.getElem?_map, List.getElem?_map] at hj
  cases h1 : l[j]? with
  | none =>
    cases h2 : l2[j]? with
    | none => rfl
    | some q => rw [h1, h2] at hj; cases hj
  | some p =>
    cases h2 : l2[j]? with
    | none => rw [h1, h2] at hj; cases hj
    | some q =>
      rw [h1, h2] at hj
      have hj : p.1 = q.1 := Option.some.inj hj
      have := h.same p.1 p.2 q.2 (List.mem_of_getElem? h1) (by rw [hj]; exact List.mem_of_getElem? h2)
      show some (C p.2) = some (C2 q.2)
      rw [this]
theorem Same.made {l l2 ps ps2 : Bxs} {C C2 : Nat → Bxd} {B B2 : Nat} {nx : Int} {ns : List Nm} (h : Same l C l2 C2) (h1 : SortedB l) (h2 : SortedB l2) (ho : ∀ p ∈ l, p.2 < B) (ho2 : ∀ p ∈ l2, p.2 < B2) (hm : Made B ns ps) (hm2 : Made B2 ns ps2) (hn : ∀ n ∈ ns, hasB l n = false) (hd : ns.Nodup) :
    Same (putAll l ps) (withNew B nx ps C) (putAll l2 ps2) (withNew B2 nx ps2 C2) := by
  have hn2 : ∀ n ∈ ns, hasB l2 n = false := fun n hnn => by rw [← has_names h.names]; exact hn n hnn
  have m1 := fun m c => mem_putAll_iff (m := m) (c := c) ps l h1 (hm.1 ▸ hd) (hm.1 ▸ hn)
  have m2 := fun m c => mem_putAll_iff (m := m) (c := c) ps2 l2 h2 (hm2.1 ▸ hd) (hm2.1 ▸ hn2)
  have hfst : ∀ {qs : Bxs} {D : Nat} {m : Nm} {c : Nat}, Made D ns qs → (m, c) ∈ qs → m ∈ ns := fun {qs D m c} hq hmc => by
    rw [← hq.1]
    exact List.mem_map_of_mem (f := Prod.fst) hmc
  refine same_of (putAll_sorted ps l h1) (putAll_sorted ps2 l2 h2) (fun m => ?_) fun m c c2 hc hc2 => ?_
  · rw [has_putAll ps l h1, has_putAll ps2 l2 h2, hm.1, hm2.1, has_names h.names]
  · rcases (m1 m c).1 hc with q | q
    · rcases (m2 m c2).1 hc2 with q2 | q2
      · rw [withNew_old (ho _ q), withNew_old (ho2 _ q2)]
        exact h.same m c c2 q q2
      · exact absurd q (hasB_false.1 (hn m (hfst hm2 q2)) c)
    · rcases (m2 m c2).1 hc2 with q2 | q2
      · exact absurd q2 (hasB_false.1 (hn2 m (hfst hm q)) c2)
      · obtain ⟨i, hi⟩ := List.getElem?_of_mem q
        obtain ⟨j, hj⟩ := List.getElem?_of_mem q2
        have e1 : ns[i]? = some m := by rw [← hm.1, List.getElem?_map, hi]; rfl
        have e2 : ns[j]? = some m := by rw [← hm2.1, List.getElem?_map, hj]; rfl
        have hij : i = j := (List.getElem?_inj (List.getElem?_eq_some_iff.1 e1).1 hd).1 (e1.trans e2.symm)
        have r1 := made_new (C := C) (nx := nx) hm hi
        have r2 := made_new (C := C2) (nx := nx) hm2 hj
        have r1 : withNew B nx ps C c = ⟨nx + (i : Int), 1, []⟩ := r1
        have r2 : withNew B2 nx ps2 C2 c2 = ⟨nx + (j : Int), 1, []⟩ := r2
        rw [r1, r2, hij]
theorem Same.del {l l2 : Bxs} {C C2 : Nat → Bxd} (h : Same l C l2 C2) (r : Nm) : Same (delB l r) C (delB l2 r) C2 := by
  refine ⟨?_, fun m c c2 hc hc2 => h.same m c c2 (mem_delB.1 hc).2 (mem_delB.1 hc2).2⟩
  have e : ∀ q : Bxs, namesB (delB q r) = (namesB q).filter fun x => decide (x ≠ r) := fun q => by
    unfold namesB delB
    rw [List.filter_map]
    rfl
  rw [e, e, h.names]
theorem Same.set {l l2 : Bxs} {C C2 : Nat → Bxd} {n : Nm} {b b2 : Nat} {x : Bxd} (h : Same l C l2 C2) (h1 : (n, b) ∈ l) (h2 : (n, b2) ∈ l2) (hs : SortedB l) (hs2 : SortedB l2) (hb : ∀ p ∈ l, ∀ q ∈ l, p.2 = q.2 → p = q) (hb2 : ∀ p ∈ l2, ∀ q ∈ l2, p.2 = q.2 → p = q) : Same l (setC C b x) l2 (setC C2 b2 x) := by
  refine ⟨h.names, fun m c c2 hc hc2 => ?_⟩
  by_cases e : m = n
  · subst e
    rw [sorted_one hs hc h1, sorted_one hs2 hc2 h2, setC_same, setC_same]
  · have e1 : c ≠ b := fun e1 => e (congrArg Prod.fst (hb _ hc _ h1 e1))
    have e2 : c2 ≠ b2 := fun e2 => e (congrArg Prod.fst (hb2 _ hc2 _ h2 e2))
    rw [setC_other e1, setC_other e2]
    exact h.same m c c2 hc hc2
theorem Same.move {l l2 ps ps2 : Bxs} {C C2 : Nat → Bxd} {B B2 : Nat} {nx : Int} {N T : Nm} (h : Same l C l2 C2) (h1 : SortedB l) (h2 : SortedB l2) (ho : ∀ p ∈ l, p.2 < B) (ho2 : ∀ p ∈ l2, p.2 < B2) (hw : Wh l) (hN : hasB l N = true) (hT : hasB l T = false) (hin : inB T N = false) (hm : Made B (lackB l T) ps) (hm2 : Made B2 (lackB l T) ps2) :
    Same (mvAll T N (mvNames l N) (putAll l ps)) (withNew B nx ps C) (putAll (mvAll T N (mvList l2 N) l2) ps2) (withNew B2 nx ps2 C2) := by
  have hw2 : Wh l2 := fun n hn i hi => by rw [← has_names h.names] at hn ⊢; exact hw n hn i hi
  have hN2 : hasB l2 N = true := by rw [← has_names h.names]; exact hN
  have hT2 : hasB l2 T = false := by rw [← has_names h.names]; exact hT
  have hxs : ∀ x, x ∈ mvNames l N ↔ x ∈ mvList l2 N := fun x => by
    rw [mvl_mem]
    unfold mvNames
    rw [within_names h.names]
  have hpre := h.made (nx := nx) h1 h2 ho ho2 hm hm2 (fun n hn => lack_new hn) (lack_nodup l T)
  obtain ⟨_, hmem⟩ := move_mem h1 hw hN hT hin hm.1
  have hmem2 := fun m c => mv0_mem h2 hw2 hN2 hT2 (mvList l2 N).length m c
  simp only [List.take_length] at hmem2
  have so2 := mvAll_sorted (t := T) (n := N) (mvList l2 N) l2 h2
  have hlk : ∀ n ∈ lackB l T, ∀ c, (n, c) ∉ mvAll T N (mvList l2 N) l2 := fun n hn c hc => by
    rcases (hmem2 n c).1 hc with ⟨q, _⟩ | ⟨x, qx, _, q⟩
    · have := lack_new hn
      rw [has_names h.names] at this
      exact hasB_false.1 this c q
    · obtain ⟨_, t, _, rfl⟩ := (mem_mvNames hN2).1 (mvl_mem.1 qx)
      rw [called_app] at q
      obtain ⟨i, hi, _, h3⟩ := mem_lack.1 hn
      have hlt := (List.getElem?_eq_some_iff.1 hi).1
      have := congrArg List.length (q.symm.trans h3)
      rw [List.length_append, List.length_take] at this
      omega
  have m2 := fun m c => mem_putAll_iff (m := m) (c := c) ps2 _ so2 (hm2.1 ▸ lack_nodup l T) (fun n hn => by
    rw [hm2.1] at hn
    exact hasB_false.2 (hlk n hn))
  have p1 := fun m c => mem_putAll_iff (m := m) (c := c) ps l h1 (hm.1 ▸ lack_nodup l T) (hm.1 ▸ fun n hn => lack_new hn)
  have p2 := fun m c => mem_putAll_iff (m := m) (c := c) ps2 l2 h2 (hm2.1 ▸ lack_nodup l T) (hm2.1 ▸ fun n hn => by rw [← has_names h.names]; exact lack_new hn)
  -- who is where, on either side: by one word
  have key : ∀ (m : Nm) (c : Nat), (m, c) ∈ putAll (mvAll T N (mvList l2 N) l2) ps2 ↔ ((m, c) ∈ putAll l2 ps2 ∧ m ∉ mvNames l N) ∨ ∃ x ∈ mvNames l N, (x, c) ∈ putAll l2 ps2 ∧ m = calledB T N x := fun m c => by
    rw [m2, hmem2]
    have hnps : ∀ x, x ∈ mvNames l N → ∀ c, (x, c) ∉ ps2 := fun x hx c hc => by
      have q1 : x ∈ lackB l T := by rw [← hm2.1]; exact List.mem_map_of_mem (f := Prod.fst) hc
      have := lack_new q1
      rw [(mem_mvNames hN).1 hx |>.1] at this
      cases this
    constructor
    · rintro ((⟨q1, q2⟩ | ⟨x, q1, q2, q3⟩) | q)
      · exact Or.inl ⟨(p2 m c).2 (Or.inl q1), fun e => q2 ((hxs m).1 e)⟩
      · exact Or.inr ⟨x, (hxs x).2 q1, (p2 x c).2 (Or.inl q2), q3⟩
      · exact Or.inl ⟨(p2 m c).2 (Or.inr q), fun e => hnps m e c q⟩
    · rintro (⟨q1, q2⟩ | ⟨x, q1, q2, q3⟩)
      · rcases (p2 m c).1 q1 with q | q
        · exact Or.inl (Or.inl ⟨q, fun e => q2 ((hxs m).2 e)⟩)
        · exact Or.inr q
      · rcases (p2 x c).1 q2 with q | q
        · exact Or.inl (Or.inr ⟨x, (hxs x).1 q1, q, q3⟩)
        · exact absurd q (hnps x q1 c)
  have hkeep : ∀ (q : Bxs) (m : Nm), (∀ m c, (m, c) ∈ q ↔ ((m, c) ∈ putAll l ps ∧ m ∉ mvNames l N) ∨ ∃ x ∈ mvNames l N, (x, c) ∈ putAll l ps ∧ m = calledB T N x) → (hasB q m = true ↔ (hasB (putAll l ps) m = true ∧ m ∉ mvNames l N) ∨ ∃ x ∈ mvNames l N, hasB (putAll l ps) x = true ∧ m = calledB T N x) := fun q m hq => by
    rw [hasB_true]
    constructor
    · rintro ⟨c, hc⟩
      rcases (hq m c).1 hc with ⟨r1, r2⟩ | ⟨x, r1, r2, r3⟩
      · exact Or.inl ⟨hasB_true.2 ⟨c, r1⟩, r2⟩
      · exact Or.inr ⟨x, r1, hasB_true.2 ⟨c, r2⟩, r3⟩
    · rintro (⟨r1, r2⟩ | ⟨x, r1, r2, r3⟩)
      · obtain ⟨c, hc⟩ := hasB_true.1 r1
        exact ⟨c, (hq m c).2 (Or.inl ⟨hc, r2⟩)⟩
      · obtain ⟨c, hc⟩ := hasB_true.1 r2
        exact ⟨c, (hq m c).2 (Or.inr ⟨x, r1, hc, r3⟩)⟩
  have hkeep2 : ∀ (q : Bxs) (m : Nm), (∀ m c, (m, c) ∈ q ↔ ((m, c) ∈ putAll l2 ps2 ∧ m ∉ mvNames l N) ∨ ∃ x ∈ mvNames l N, (x, c) ∈ putAll l2 ps2 ∧ m = calledB T N x) → (hasB q m = true ↔ (hasB (putAll l2 ps2) m = true ∧ m ∉ mvNames l N) ∨ ∃ x ∈ mvNames l N, hasB (putAll l2 ps2) x = true ∧ m = calledB T N x) := fun q m hq => by
    rw [hasB_true]
    constructor
    · rintro ⟨c, hc⟩
      rcases (hq m c).1 hc with ⟨r1, r2⟩ | ⟨x, r1, r2, r3⟩
      · exact Or.inl ⟨hasB_true.2 ⟨c, r1⟩, r2⟩
      · exact Or.inr ⟨x, r1, hasB_true.2 ⟨c, r2⟩, r3⟩
    · rintro (⟨r1, r2⟩ | ⟨x, r1, r2, r3⟩)
      · obtain ⟨c, hc⟩ := hasB_true.1 r1
        exact ⟨c, (hq m c).2 (Or.inl ⟨hc, r2⟩)⟩
      · obtain ⟨c, hc⟩ := hasB_true.1 r2
        exact ⟨c, (hq m c).2 (Or.inr ⟨x, r1, hc, r3⟩)⟩
  refine same_of (mvAll_sorted _ _ (putAll_sorted ps l h1)) (putAll_sorted ps2 _ so2) (fun m => ?_) fun m c c2 hc hc2 => ?_
  · rw [hkeep _ m hmem, hkeep2 _ m key]
    simp only [has_names hpre.names]
  · rcases (hmem m c).1 hc with ⟨r1, r2⟩ | ⟨x, r1, r2, r3⟩
    · rcases (key m c2).1 hc2 with ⟨s1, s2⟩ | ⟨y, s1, s2, s3⟩
      · exact hpre.same m c c2 r1 s1
      · have q1 : hasB (putAll l ps) m = true := hasB_true.2 ⟨c, r1⟩
        rw [s3, ((move_mem h1 hw hN hT hin hm.1).1 y s1).2] at q1
        cases q1
    · rcases (key m c2).1 hc2 with ⟨s1, s2⟩ | ⟨y, s1, s2, s3⟩
      · have q1 : hasB (putAll l2 ps2) m = true := hasB_true.2 ⟨c2, s1⟩
        rw [← has_names hpre.names, r3, ((move_mem h1 hw hN hT hin hm.1).1 x r1).2] at q1
        cases q1
      · have hxy : x = y := by
          obtain ⟨_, t, _, rfl⟩ := (mem_mvNames hN).1 r1
          obtain ⟨_, u, _, rfl⟩ := (mem_mvNames hN).1 s1
          have := r3.symm.trans s3
          rw [called_app, called_app] at this
          rw [List.append_cancel_left this]
        subst hxy
        exact hpre.same x c c2 r2 s2
end Go.Proofs.YtfdlopimncodcaaGreatDoor
namespace Go.Proofs.YtfdlopimncodcaaGreatDoor
open Go.RowKit Go.Proofs.Aid Go.Proofs.Bx
theorem ds_kind {w : World} {rb rm rw k : Nat} {l2 Wl : Bxs} {nx : Int} {C2 : Nat → Bxd} (r : RSt w rb rm rw l2 Wl nx C2) {cs : Array Value} {ty : TypeId} {fz : Nat × Nat} (hg : w.heap[k]? = some (.cells cs ty fz)) (h1 : ty ≠ 88) (h2 : ty ≠ 84) : ¬ DS rb rm rw l2 k := by
  have hk := rhs_kind r.rhs hg h1
  rintro (e | e | e | ⟨p, hp, e⟩)
  · exact hk.1 e
  · exact hk.2 e
  · obtain ⟨es, c, hm⟩ := r.wm.map
    rw [e, hm] at hg
    cases hg
  · obtain ⟨lv, hB, _⟩ := r.bx p hp
    rw [← e, hB] at hg
    injection hg with hg
    injection hg with _ e2 _
    exact h2 e2.symm
theorem ds_text {w : World} {rb rm rw k i : Nat} {l2 Wl : Bxs} {nx : Int} {C2 : Nat → Bxd} {s : ByteArray} (r : RSt w rb rm rw l2 Wl nx C2) (hc : w.cell? ⟨k, i, none⟩ = some (.string s)) : ¬ DS rb rm rw l2 k := by
  rintro (e | e | e | ⟨p, hp, e⟩)
  · rw [e] at hc; exact noStr_rhouse r.rhs i s hc
  · obtain ⟨es, c, hm⟩ := r.rhs.2.map
    rw [e] at hc; exact noStr_map hm i s hc
  · obtain ⟨es, c, hm⟩ := r.wm.map
    rw [e] at hc; exact noStr_map hm i s hc
  · obtain ⟨lv, hB⟩ := r.bx p hp
    rw [← e] at hc; exact noStr_rbox hB i s hc
theorem Hst.tnD {H hb mb : Nat} {l : Bxs} {nx : Int} {W : List Nm} {C : Nat → Bxd} {wv : Value} {w w' : World} {rb rm rw : Nat} {l2 Wl : Bxs} {nx2 : Int} {C2 : Nat → Bxd} (h : Hst H hb mb l nx W C wv w) (r : RSt w rb rm rw l2 Wl nx2 C2) (t : Tn (DS rb rm rw l2) w w') (n1 : mb ≠ rm) (n2 : mb ≠ rw) : Hst H hb mb l nx W C wv w' := by
  have htx : TxKeep w w' := fun g i s hc => t.block g (World.block_lt_of_cell? _ _ hc) (ds_text r hc)
  have hmb : ¬ DS rb rm rw l2 mb := by
    obtain ⟨_, D, ⟨es, clock, hm, _⟩, _⟩ := h.hse.hs.2
    rintro (e | e | e | ⟨p, hp, e⟩)
    · have := r.rhs.1
      rw [← e, hm] at this
      cases this
    · exact n1 e
    · exact n2 e
    · obtain ⟨lv, hB, _⟩ := r.bx p hp
      rw [e, hm] at hB
      cases hB
  have hrow : WRow w' wv W := h.row.same fun g hg => by
    obtain ⟨cap, cur, h1, _⟩ := h.row.tblk hg
    exact t.block g (Array.getElem?_eq_some_iff.1 h1).1 (ds_kind r h1 (by decide) (by decide))
  refine ⟨⟨⟨(t.block hb h.hse.hs.lt (ds_kind r h.hse.hs.1 (by decide) (by decide))).trans h.hse.hs.1, h.hse.hs.2.same (t.block mb h.hse.hs.2.lt hmb)⟩, hrow.sl, fun p hp => ?_⟩, hrow, h.own, Nat.le_trans h.h0 t.size, h.h1, h.h2⟩
  have hB := h.hse.bx p hp
  obtain ⟨lv, h1, _⟩ := id hB
  exact hB.tx (t.block _ (Array.getElem?_eq_some_iff.1 h1).1 (ds_kind r h1 (by decide) (by decide))) htx
theorem ps_kind {H hb mb k : Nat} {l : Bxs} {nx : Int} {W : List Nm} {C : Nat → Bxd} {wv : Value} {w : World} (h : Hst H hb mb l nx W C wv w) {cs : Array Value} {ty : TypeId} {fz : Nat × Nat} (hg : w.heap[k]? = some (.cells cs ty fz)) (h1 : ty ≠ 80) (h2 : ty ≠ 72) (h3 : ty ≠ 9) : ¬ PS hb mb wv l k := by
  have hk := ne_of_kind h.hse.hs hg h1
  rintro (e | e | e | ⟨p, hp, e⟩)
  · exact hk.1 e
  · exact hk.2 e
  · obtain ⟨cap, cur, q, _⟩ := h.row.tblk e
    rw [q] at hg
    injection hg with hg
    injection hg with _ e2 _
    exact h3 e2.symm
  · obtain ⟨lv, hB, _⟩ := h.hse.bx p hp
    rw [← e, hB] at hg
    injection hg with hg
    injection hg with _ e2 _
    exact h2 e2.symm
theorem ps_map {H hb mb k : Nat} {l : Bxs} {nx : Int} {W : List Nm} {C : Nat → Bxd} {wv : Value} {w : World} (h : Hst H hb mb l nx W C wv w) {es : Array MapEntry} {c : Nat} (hg : w.heap[k]? = some (.map es c)) (hne : k ≠ mb) : ¬ PS hb mb wv l k := by
  rintro (e | e | e | ⟨p, hp, e⟩)
  · have := h.hse.hs.1
    rw [← e, hg] at this
    cases this
  · exact hne e
  · obtain ⟨cap, cur, q, _⟩ := h.row.tblk e
    rw [q] at hg
    cases hg
  · obtain ⟨lv, hB, _⟩ := h.hse.bx p hp
    rw [e, hg] at hB
    cases hB
theorem ps_both {H hb mb k i j : Nat} {l : Bxs} {nx n : Int} {W : List Nm} {C : Nat → Bxd} {wv : Value} {w : World} {s : ByteArray} (h : Hst H hb mb l nx W C wv w) (hc : w.cell? ⟨k, i, none⟩ = some (.string s)) (hd : w.cell? ⟨k, j, none⟩ = some (.int .i64 n)) : ¬ PS hb mb wv l k := by
  obtain ⟨a, c, hwv⟩ := h.form
  rintro (e | e | e | ⟨p, hp, e⟩)
  · rw [e] at hc
    have hS := h.hse.hs
    rw [hwv] at hS
    exact noStr_house hS i s hc
  · obtain ⟨_, D, ⟨es, clock, hm, _⟩, _⟩ := h.hse.hs.2
    rw [e] at hc
    exact noStr_map hm i s hc
  · obtain ⟨cap, ht⟩ := h.row.tblk e
    obtain ⟨s', hs'⟩ := ht.one hd
    cases hs'
  · obtain ⟨lv, h1, a1, c1, rfl, _⟩ := h.hse.bx p hp
    rw [← e] at hc
    exact noStr_box h1 ⟨_, _, _, rfl⟩ i s hc
theorem Lts.keepB {w w' : World} {v : Value} {ls : List Lt} (h : Lts w v ls) (hf : ∀ y ∈ ls, y.flags = []) (hk : ∀ (b i j : Nat) (n : Int) (s : ByteArray), w.cell? ⟨b, i, none⟩ = some (.string s) → w.cell? ⟨b, j, none⟩ = some (.int .i64 n) → w'.heap[b]? = w.heap[b]?) : Lts w' v ls := by
  obtain ⟨a, c, h1, h0, h2⟩ := h
  refine ⟨a, c, h1, h0, ?_⟩
  rcases h2 with h2 | ⟨b, o, h3, h4⟩
  · exact Or.inl h2
  · refine Or.inr ⟨b, o, h3, fun j x hj => ?_⟩
    obtain ⟨q1, ⟨fv, q2, q3⟩, q4, q5⟩ := h4 j x hj
    have hcell : ∀ i, w'.cell? ⟨b, i, none⟩ = w.cell? ⟨b, i, none⟩ := fun i => World.cell?_of_block (a := ⟨b, i, none⟩) (hk b _ _ _ _ q5 q1)
    refine ⟨(hcell _).trans q1, ⟨fv, (hcell _).trans q2, ?_⟩, (hcell _).trans q4, (hcell _).trans q5⟩
    rw [hf x (List.mem_of_getElem? hj)] at q3 ⊢
    obtain ⟨fa, fc, r1, r2, _⟩ := q3
    exact ⟨fa, fc, r1, r2, Or.inl rfl⟩
theorem RSt.tnP {H hb mb : Nat} {l : Bxs} {nx : Int} {W : List Nm} {C : Nat → Bxd} {wv : Value} {w w' : World} {rb rm rw : Nat} {l2 Wl : Bxs} {nx2 : Int} {C2 : Nat → Bxd} (r : RSt w rb rm rw l2 Wl nx2 C2) (h : Hst H hb mb l nx W C wv w) (hf : ∀ p ∈ l2, ∀ y ∈ (C2 p.2).ls, y.flags = []) (t : Tn (PS hb mb wv l) w w') (n1 : mb ≠ rm) (n2 : mb ≠ rw) : RSt w' rb rm rw l2 Wl nx2 C2 := by
  obtain ⟨es, c, hm⟩ := r.rhs.2.map
  obtain ⟨es2, c2, hm2⟩ := r.wm.map
  refine ⟨⟨(t.block rb r.rhs.lt (ps_kind h r.rhs.1 (by decide) (by decide) (by decide))).trans r.rhs.1, r.rhs.2.same (t.block rm r.rhs.2.lt (ps_map h hm (fun e => n1 e.symm)))⟩, r.wm.same (t.block rw r.wm.lt (ps_map h hm2 (fun e => n2 e.symm))), r.one, fun p hp => ?_, r.ne⟩
  obtain ⟨lv, hB⟩ := r.bx p hp
  refine ⟨lv, (t.block _ hB.lt (ps_kind h hB.1 (by decide) (by decide) (by decide))).trans hB.1, hB.2.keepB (hf p hp) fun b i j n s q5 q1 => ?_⟩
  exact t.block b (World.block_lt_of_cell? _ _ q5) (ps_both h q5 q1)
end Go.Proofs.YtfdlopimncodcaaGreatDoor
namespace Go.Proofs.YtfdlopimncodcaaGreatDoor
open Go.RowKit Go.Proofs.Aid Go.Proofs.Bx
def cCreate (l : Bxs) (s : Nm) : Int :=
  match nameB s with
  | none => 1
  | some r => if hasB l r = true then 9 else if 30 < l.length + (lackB l r ++ [r]).length then 12 else 0
def cDelete (l : Bxs) (s : Nm) : Int :=
  match nameB s with
  | none => 1
  | some r => if hasB l r = true then (if r = inboxN ∨ withinB l r ≠ [] then 6 else 0) else 7
def cRename (l : Bxs) (s u : Nm) : Int :=
  match nameB s with
  | none => 1
  | some N => if hasB l N = true then
      (match nameB u with
       | none => 1
       | some T => if hasB l T = true then 9 else if N = inboxN then (if 30 < l.length + (lackB l T ++ [T]).length then 12 else 0)
         else if inB T N = true then 6 else if longB l N T = true then 4 else if 30 < l.length + (lackB l T).length then 12 else 0)
    else 7
def cWant (W : List Nm) (s : Nm) (y : Bool) : Int :=
  match nameB s with
  | none => 1
  | some r => if y = true then (if r ∈ W then 0 else if 60 ≤ W.length then 12 else 0) else (if r ∈ W then 0 else 7)
theorem cCreate_names {l l2 : Bxs} (h : namesB l = namesB l2) (s : Nm) : cCreate l s = cCreate l2 s := by
  unfold cCreate
  simp only [has_names h, len_names h, lack_names h]
theorem cDelete_names {l l2 : Bxs} (h : namesB l = namesB l2) (s : Nm) : cDelete l s = cDelete l2 s := by
  unfold cDelete
  simp only [has_names h, within_names h]
theorem cRename_names {l l2 : Bxs} (h : namesB l = namesB l2) (s u : Nm) : cRename l s u = cRename l2 s u := by
  unfold cRename
  simp only [has_names h, len_names h, lack_names h, long_names h]
structure PH (H K hb mb : Nat) (l : Bxs) (nx : Int) (W : List Nm) (C : Nat → Bxd) (wv : Value) (w : World) : Prop where
  st : Hst H hb mb l nx W C wv w
  hi : HI H K l nx W C
theorem PH.below {H K hb mb : Nat} {l : Bxs} {nx : Int} {W : List Nm} {C : Nat → Bxd} {wv : Value} {w w' : World} (h : PH H K hb mb l nx W C wv w) (hb' : Below w.heap.size w w') : PH H K hb mb l nx W C wv w' := ⟨h.st.below hb', h.hi⟩
theorem PH.more {H K K' hb mb : Nat} {l : Bxs} {nx : Int} {W : List Nm} {C : Nat → Bxd} {wv : Value} {w : World} (h : PH H K hb mb l nx W C wv w) (hK : K ≤ K') : PH H K' hb mb l nx W C wv w := ⟨h.st, h.hi.more hK⟩
def ErrP (H K hb mb : Nat) (l : Bxs) (nx : Int) (W : List Nm) (C : Nat → Bxd) (wv : Value) (w : World) (c : Int) (e : Ending) (w' : World) : Prop := c ≠ 0 ∧ e = .returned (errN c) ∧ Below w.heap.size w w' ∧ PH H (K + 1) hb mb l nx W C wv w'
theorem ErrP.of {H K hb mb : Nat} {l : Bxs} {nx : Int} {W : List Nm} {C : Nat → Bxd} {wv : Value} {w w' : World} {c : Int} (h : PH H K hb mb l nx W C wv w) (hc : c ≠ 0) (hb' : Below w.heap.size w w') : ErrP H K hb mb l nx W C wv w c (.returned (errN c)) w' := ⟨hc, rfl, hb', (h.below hb').more (by omega)⟩
theorem create_p (H hb mb K : Nat) (l : Bxs) (nx : Int) (W : List Nm) (C : Nat → Bxd) (wv : Value) (s : ByteArray) (w : World) (hE : NEnv w) (h : PH H K hb mb l nx W C wv w) (hK : K ≤ 90) (hs : s.size ≤ 1000) :
    Calls Tryz.prog 41 #[.pointer (some ⟨hb, 0, none⟩), .string s] w fun e w' =>
      ErrP H K hb mb l nx W C wv w (cCreate l s.data.toList) e w' ∨
      (cCreate l s.data.toList = 0 ∧ e = .returned .nilIface ∧ Tn (PS hb mb wv l) w w' ∧ Below H w w' ∧ ∃ r ps, nameB s.data.toList = some r ∧ hasB l r = false ∧ Made w.heap.size (lackB l r ++ [r]) ps ∧ PH H (K + 1) hb mb (putAll l ps) (nx + ((lackB l r ++ [r]).length : Int)) W (withNew w.heap.size nx ps C) wv w') := by
  have hl := h.hi.len
  have hn := h.hi.nxt
  refine (create_is nameB hb mb l nx wv s w (nameC hE) h.st.hse.hs hs (by omega) (by omega)).mono ?_
  rintro e w' (⟨c1, c2, c3⟩ | ⟨r, c1, c2, c3, c4⟩ | ⟨r, c1, c2, c3, c4, c5⟩ | ⟨r, ps, c1, c2, c3, c4, c5, c6, c7⟩)
  · have hc : cCreate l s.data.toList = 1 := by unfold cCreate; rw [c1]
    rw [hc, c2]
    exact Or.inl (ErrP.of h (by decide) c3)
  · have hc : cCreate l s.data.toList = 9 := by unfold cCreate; simp only [c1]; rw [if_pos c2]
    rw [hc, c3]
    exact Or.inl (ErrP.of h (by decide) c4)
  · have hc : cCreate l s.data.toList = 12 := by unfold cCreate; simp only [c1]; rw [if_neg (by rw [c2]; simp), if_pos c3]
    rw [hc, c4]
    exact Or.inl (ErrP.of h (by decide) c5)
  · have hc : cCreate l s.data.toList = 0 := by unfold cCreate; simp only [c1]; rw [if_neg (by rw [c2]; simp), if_neg (by omega)]
    exact Or.inr ⟨hc, c4, Tn.hk c5 (Or.inl rfl) (Or.inr (Or.inl rfl)), c5.below h.st.h0 h.st.h1 h.st.h2, r, ps, c1, c2, c6.made, h.st.turn c5 c7 (h.st.built c5 c6), h.hi.create c6 h.st.old h.st.h0 c3 (nameB_idem c1)⟩
theorem delete_p (H hb mb K : Nat) (l : Bxs) (nx : Int) (W : List Nm) (C : Nat → Bxd) (wv : Value) (s : ByteArray) (w : World) (hE : NEnv w) (h : PH H K hb mb l nx W C wv w) (hs : s.size ≤ 1000) :
    Calls Tryz.prog 43 #[.pointer (some ⟨hb, 0, none⟩), .string s] w fun e w' =>
      ErrP H K hb mb l nx W C wv w (cDelete l s.data.toList) e w' ∨
      (cDelete l s.data.toList = 0 ∧ e = .returned .nilIface ∧ Tn (PS hb mb wv l) w w' ∧ Below H w w' ∧ ∃ r, nameB s.data.toList = some r ∧ PH H (K + 1) hb mb (delB l r) nx W C wv w') := by
  have hl := h.hi.len
  refine (delete_is nameB hb mb l nx wv s w (nameC hE) h.st.hse.hs hs (by omega)).mono ?_
  rintro e w' (⟨c1, c2, c3⟩ | ⟨r, c1, c2, c3, c4⟩ | ⟨r, c1, c2, c3, c4, c5⟩ | ⟨r, c1, c1', c2, c3, c4, c5, c7⟩)
  · have hc : cDelete l s.data.toList = 1 := by unfold cDelete; rw [c1]
    rw [hc, c2]
    exact Or.inl (ErrP.of h (by decide) c3)
  · have hc : cDelete l s.data.toList = 7 := by unfold cDelete; simp only [c1]; rw [if_neg (by rw [c2]; simp)]
    rw [hc, c3]
    exact Or.inl (ErrP.of h (by decide) c4)
  · have hc : cDelete l s.data.toList = 6 := by unfold cDelete; simp only [c1]; rw [if_pos c2, if_pos c3]
    rw [hc, c4]
    exact Or.inl (ErrP.of h (by decide) c5)
  · have hc : cDelete l s.data.toList = 0 := by
      unfold cDelete
      simp only [c1]
      rw [if_pos c1', if_neg]
      rintro (e | e)
      · exact c2 e
      · exact e c3
    exact Or.inr ⟨hc, c4, Tn.hk c5 (Or.inl rfl) (Or.inr (Or.inl rfl)), c5.below h.st.h0 h.st.h1 h.st.h2, r, c1, h.st.turn c5 c7 fun p hp => h.st.box c5 (List.mem_filter.1 hp).1, (h.hi.delete c3 c2).more (by omega)⟩
end Go.Proofs.YtfdlopimncodcaaGreatDoor
