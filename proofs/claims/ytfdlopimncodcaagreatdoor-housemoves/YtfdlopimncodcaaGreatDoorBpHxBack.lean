/-
  A box that is called otherwise, and called back: plain mathematics, and more.
-/
import Derived.Test.YtfdlopimncodcaaGreatDoorBpHxRen
import Derived.Test.YtfdlopimncodcaaGreatDoorMHsLoad
import Derived.Test.YtfdlopimncodcaaGreatDoorMHsAll
namespace Go.Proofs.YtfdlopimncodcaaGreatDoor
open Go.RowKit Go.Proofs.Aid

theorem sorted_ext : ∀ {l l' : Bxs}, SortedB l → SortedB l' → (∀ m c, (m, c) ∈ l ↔ (m, c) ∈ l') → l = l'
  | [], [], _, _, _ => rfl
  | [], q :: l', _, _, h => absurd ((h q.1 q.2).2 List.mem_cons_self) List.not_mem_nil
  | p :: l, [], _, _, h => absurd ((h p.1 p.2).1 List.mem_cons_self) List.not_mem_nil
  | p :: l, q :: l', h1, h2, h => by
    obtain ⟨a1, a2⟩ := List.pairwise_cons.1 h1
    obtain ⟨b1, b2⟩ := List.pairwise_cons.1 h2
    have hpq : p = q := by
      rcases List.mem_cons.1 ((h p.1 p.2).1 List.mem_cons_self) with e | e
      · exact e
      · rcases List.mem_cons.1 ((h q.1 q.2).2 List.mem_cons_self) with e2 | e2
        · exact e2.symm
        · have h3 : q.1 < p.1 := b1 _ e
          have h4 : p.1 < q.1 := a1 _ e2
          exact absurd (List.lt_trans h3 h4) (List.lt_irrefl _)
    subst hpq
    congr 1
    refine sorted_ext a2 b2 fun m c => ⟨fun hm => ?_, fun hm => ?_⟩
    · rcases List.mem_cons.1 ((h m c).1 (List.mem_cons_of_mem _ hm)) with e | e
      · have h3 : p.1 < m := a1 _ hm
        rw [← e] at h3
        exact absurd h3 (List.lt_irrefl _)
      · exact e
    · rcases List.mem_cons.1 ((h m c).2 (List.mem_cons_of_mem _ hm)) with e | e
      · have h3 : p.1 < m := b1 _ hm
        rw [← e] at h3
        exact absurd h3 (List.lt_irrefl _)
      · exact e
theorem putB_len_new {n : Nm} {b : Nat} : ∀ {l : Bxs}, hasB l n = false → (putB n b l).length = l.length + 1
  | [], _ => rfl
  | p :: l, h => by
    have h1 : ¬ n = p.1 := fun e => by
      have := (hasB_false.1 h) p.2
      rw [e] at this
      exact this List.mem_cons_self
    have h2 : hasB l n = false := hasB_false.2 fun c hc => (hasB_false.1 h) c (List.mem_cons_of_mem _ hc)
    unfold putB
    split
    · rfl
    · rw [List.length_cons, putB_len_new h2, List.length_cons]
theorem delB_none {x : Nm} : ∀ {l : Bxs}, hasB l x = false → delB l x = l := fun {l} h => by
  unfold delB
  rw [List.filter_eq_self]
  intro p hp
  rw [decide_eq_true_eq]
  intro e
  exact (hasB_false.1 h) p.2 (by rw [← e]; exact hp)
theorem delB_len : ∀ {l : Bxs}, SortedB l → ∀ {x : Nm}, hasB l x = true → (delB l x).length + 1 = l.length
  | [], _, x, h => by
    obtain ⟨c, hc⟩ := hasB_true.1 h
    exact absurd hc List.not_mem_nil
  | p :: l, hs, x, h => by
    obtain ⟨h1, h2⟩ := List.pairwise_cons.1 hs
    by_cases e : p.1 = x
    · have h3 : hasB l x = false := hasB_false.2 fun c hc => by
        have h4 : p.1 < x := h1 _ hc
        rw [e] at h4
        exact List.lt_irrefl _ h4
      have h5 : delB (p :: l) x = delB l x := by
        unfold delB
        rw [List.filter_cons_of_neg (by rw [decide_eq_true_eq]; exact fun h => h e)]
      rw [h5, delB_none h3, List.length_cons]
    · have h3 : hasB l x = true := by
        obtain ⟨c, hc⟩ := hasB_true.1 h
        rcases List.mem_cons.1 hc with hc | hc
        · exact absurd (by rw [← hc]) e
        · exact hasB_true.2 ⟨c, hc⟩
      have h5 : delB (p :: l) x = p :: delB l x := by
        unfold delB
        rw [List.filter_cons_of_pos (by rw [decide_eq_true_eq]; exact e)]
      rw [h5, List.length_cons, delB_len h2 h3, List.length_cons]
theorem mvStep_len_eq {t n x : Nm} {l : Bxs} (hs : SortedB l) (hx : hasB l x = true) (hf : hasB l (calledB t n x) = false) : (mvStep t n l x).length = l.length := by
  obtain ⟨b, hb, hm⟩ := lookB_some hx
  unfold mvStep
  rw [hb]
  show (delB (putB (calledB t n x) b l) x).length = _
  have h1 := delB_len (sorted_putB (n := calledB t n x) (b := b) hs) (has_put hs (c := calledB t n x) (b := b) hx)
  have h2 := putB_len_new (b := b) hf
  omega
theorem mvAll_len_eq {t n : Nm} : ∀ (xs : List Nm) (l : Bxs), SortedB l → xs.Nodup → (∀ x ∈ xs, hasB l x = true ∧ hasB l (calledB t n x) = false) → (∀ x ∈ xs, ∀ y ∈ xs, calledB t n x = calledB t n y → x = y) → (mvAll t n xs l).length = l.length
  | [], _, _, _, _, _ => rfl
  | x :: xs, l, hs, hd, hx, hi => by
    obtain ⟨hd1, hd2⟩ := List.nodup_cons.1 hd
    obtain ⟨hx1, hx2⟩ := hx x List.mem_cons_self
    have hst : ∀ (m : Nm) (c : Nat), (m, c) ∈ mvStep t n l x ↔ ((m, c) ∈ l ∧ m ≠ x) ∨ ((x, c) ∈ l ∧ m = calledB t n x) := fun m c => mem_mvStep_iff hs hx1 hx2
    have hne : ∀ y ∈ xs, y ≠ x := fun y hy e => hd1 (e ▸ hy)
    have ih := mvAll_len_eq (t := t) (n := n) xs (mvStep t n l x) (mvStep_sorted hs) hd2 (fun y hy => by
      obtain ⟨y1, y2⟩ := hx y (List.mem_cons_of_mem _ hy)
      refine ⟨?_, hasB_false.2 fun c hc => ?_⟩
      · obtain ⟨b, hb⟩ := hasB_true.1 y1
        exact hasB_true.2 ⟨b, (hst y b).2 (Or.inl ⟨hb, hne y hy⟩)⟩
      · rcases (hst _ c).1 hc with ⟨h1, _⟩ | ⟨_, h2⟩
        · exact (hasB_false.1 y2) c h1
        · exact hne y hy (hi y (List.mem_cons_of_mem _ hy) x List.mem_cons_self h2)) (fun a ha b hb => hi a (List.mem_cons_of_mem _ ha) b (List.mem_cons_of_mem _ hb))
    show (mvAll t n xs (mvStep t n l x)).length = _
    rw [ih, mvStep_len_eq hs hx1 hx2]
/-- What holds of a move that makes no box, and of the one back. -/
structure Back (l : Bxs) (N T : Nm) (l' : Bxs) : Prop where
  hasN : hasB l N = true
  noT : hasB l T = false
  len : l'.length = l.length
  mem : ∀ m c, (m, c) ∈ l' ↔ ((m, c) ∈ l ∧ m ∉ mvNames l N) ∨ ∃ x ∈ mvNames l N, (x, c) ∈ l ∧ m = calledB T N x
  sorted : SortedB l'
  hasT : hasB l' T = true
  noN : hasB l' N = false
  out : inB N T = false
  lack : lackB l' N = []
  short : ((mvNames l' T).any fun x => decide (60 < (calledB N T x).length)) = false
  back : mvAll N T (mvNames l' T) l' = l
theorem back_of {l : Bxs} {N T : Nm} (hs : SortedB l) (hw : Wh l) (hnm : NmsOk l) (hN : hasB l N = true) (hT : hasB l T = false) (hin : inB T N = false) (hl : lackB l T = []) : Back l N T (mvAll T N (mvNames l N) l) := by
  have hps : ([] : Bxs).map Prod.fst = lackB l T := by rw [hl]; rfl
  obtain ⟨hx, hmem⟩ := move_mem (ps := []) hs hw hN hT hin hps
  have hx : ∀ x ∈ mvNames l N, hasB l x = true ∧ hasB l (calledB T N x) = false := hx
  have hmem : ∀ m c, (m, c) ∈ mvAll T N (mvNames l N) l ↔ ((m, c) ∈ l ∧ m ∉ mvNames l N) ∨ ∃ x ∈ mvNames l N, (x, c) ∈ l ∧ m = calledB T N x := hmem
  have hinj : ∀ x ∈ mvNames l N, ∀ y ∈ mvNames l N, calledB T N x = calledB T N y → x = y := fun x hx y hy e => by
    obtain ⟨_, t, _, rfl⟩ := (mem_mvNames hN).1 hx
    obtain ⟨_, u, _, rfl⟩ := (mem_mvNames hN).1 hy
    rw [called_app, called_app] at e
    rw [List.append_cancel_left e]
  have hlen := mvAll_len_eq (mvNames l N) l hs (mvNames_nodup hs N) hx hinj
  have hs' : SortedB (mvAll T N (mvNames l N) l) := mvAll_sorted _ _ hs
  have hw' : Wh (mvAll T N (mvNames l N) l) := wh_move (ps := []) hs hw hN hT hin hps
  obtain ⟨l', hl'⟩ : ∃ x, mvAll T N (mvNames l N) l = x := ⟨_, rfl⟩
  rw [hl'] at hmem hlen hs' hw' ⊢
  have notT : ∀ t, Rest t → hasB l (T ++ t) = false := fun t ht => by
    rcases ht with rfl | ⟨u, rfl⟩
    · rw [List.append_nil]; exact hT
    · rw [← Bool.not_eq_true]
      intro h
      have := hw _ h T.length (by simp)
      rw [List.take_left, hT] at this
      cases this
  have hNN : N ∈ mvNames l N := (mem_mvNames hN).2 ⟨hN, [], Or.inl rfl, by simp⟩
  have hT' : hasB l' T = true := by
    obtain ⟨c, hc⟩ := hasB_true.1 hN
    refine hasB_true.2 ⟨c, (hmem T c).2 (Or.inr ⟨N, hNN, hc, ?_⟩)⟩
    have := called_app T N []
    simpa using this.symm
  have hout : inB N T = false := by
    rw [← Bool.not_eq_true]
    intro h
    obtain ⟨u, hu⟩ := in_iff.1 h
    have := notT (47 :: u) (Or.inr ⟨u, rfl⟩)
    rw [← hu, hN] at this
    cases this
  have hN' : hasB l' N = false := hasB_false.2 fun c hc => by
    rcases (hmem N c).1 hc with ⟨_, h2⟩ | ⟨x, h1, h2, h3⟩
    · exact h2 hNN
    · obtain ⟨_, t, ht, rfl⟩ := (mem_mvNames hN).1 h1
      rw [called_app] at h3
      have := notT t ht
      rw [← h3, hN] at this
      cases this
  have hmv : ∀ y ∈ mvNames l' T, ∃ t, Rest t ∧ y = T ++ t ∧ ∀ c, (y, c) ∈ l' → (N ++ t, c) ∈ l := fun y hy => by
    obtain ⟨h1, t, ht, rfl⟩ := (mem_mvNames hT').1 hy
    refine ⟨t, ht, rfl, fun c hc => ?_⟩
    rcases (hmem _ c).1 hc with ⟨h2, _⟩ | ⟨x, h2, h3, h4⟩
    · exact absurd h2 ((hasB_false.1 (notT t ht)) c)
    · obtain ⟨_, u, _, rfl⟩ := (mem_mvNames hN).1 h2
      rw [called_app] at h4
      rw [List.append_cancel_left h4]
      exact h3
  have hshort : ((mvNames l' T).any fun x => decide (60 < (calledB N T x).length)) = false := by
    rw [List.any_eq_false]
    intro y hy
    obtain ⟨h1, _⟩ := (mem_mvNames hT').1 hy
    obtain ⟨t, _, rfl, h3⟩ := hmv y hy
    obtain ⟨c, hc⟩ := hasB_true.1 h1
    rw [called_app]
    have := (nmOk_of (hnm _ (hasB_true.2 ⟨c, h3 c hc⟩))).len.2
    simpa using this
  have hlack : lackB l' N = [] := by
    rw [List.eq_nil_iff_forall_not_mem]
    intro m hm
    obtain ⟨i, hi, h2, rfl⟩ := mem_lack.1 hm
    obtain ⟨c, hc⟩ := hasB_true.1 (hw N hN i hi)
    refine (hasB_false.1 h2) c ((hmem _ c).2 (Or.inl ⟨hc, fun hmv2 => ?_⟩))
    obtain ⟨_, t, _, h5⟩ := (mem_mvNames hN).1 hmv2
    have h6 := congrArg List.length h5
    have h7 := (List.getElem?_eq_some_iff.1 hi).1
    rw [List.length_take, List.length_append] at h6
    omega
  have hps' : ([] : Bxs).map Prod.fst = lackB l' N := by rw [hlack]; rfl
  obtain ⟨_, hmem2⟩ := move_mem (ps := []) hs' hw' hT' hN' hout hps'
  have hmem2 : ∀ m c, (m, c) ∈ mvAll N T (mvNames l' T) l' ↔ ((m, c) ∈ l' ∧ m ∉ mvNames l' T) ∨ ∃ x ∈ mvNames l' T, (x, c) ∈ l' ∧ m = calledB N T x := hmem2
  refine ⟨hN, hT, hlen, hmem, hs', hT', hN', hout, hlack, hshort, sorted_ext (mvAll_sorted _ _ hs') hs fun m c => ?_⟩
  rw [hmem2]
  constructor
  · rintro (⟨h1, h2⟩ | ⟨x, h1, h2, rfl⟩)
    · rcases (hmem m c).1 h1 with ⟨h3, _⟩ | ⟨x, h3, h4, rfl⟩
      · exact h3
      · obtain ⟨_, t, ht, rfl⟩ := (mem_mvNames hN).1 h3
        refine absurd ((mem_mvNames hT').2 ⟨hasB_true.2 ⟨c, h1⟩, t, ht, called_app T N t⟩) h2
    · obtain ⟨t, _, rfl, h5⟩ := hmv x h1
      rw [called_app]
      exact h5 c h2
  · intro h
    by_cases hm : m ∈ mvNames l N
    · obtain ⟨_, t, ht, rfl⟩ := (mem_mvNames hN).1 hm
      have h1 : (T ++ t, c) ∈ l' := (hmem _ c).2 (Or.inr ⟨_, hm, h, (called_app T N t).symm⟩)
      exact Or.inr ⟨T ++ t, (mem_mvNames hT').2 ⟨hasB_true.2 ⟨c, h1⟩, t, ht, rfl⟩, h1, (called_app N T t).symm⟩
    · refine Or.inl ⟨(hmem m c).2 (Or.inl ⟨h, hm⟩), fun hm2 => ?_⟩
      obtain ⟨_, t, ht, rfl⟩ := (mem_mvNames hT').1 hm2
      exact (hasB_false.1 (notT t ht)) c h
/-- How a name reads behind the move. -/
def movedN (N T s : Nm) : Nm := if s = N ∨ inB s N = true then T ++ s.drop N.length else s
theorem Back.at {l l' : Bxs} {N T : Nm} (h : Back l N T l') {s : Nm} {c : Nat} (hs : (s, c) ∈ l) : (movedN N T s, c) ∈ l' := by
  have hN := h.hasN
  unfold movedN
  rw [h.mem]
  split
  · rename_i hc
    refine Or.inr ⟨s, ?_, hs, ?_⟩
    · refine (mem_mvNames hN).2 ⟨hasB_true.2 ⟨c, hs⟩, ?_⟩
      rcases hc with rfl | hc
      · exact ⟨[], Or.inl rfl, by simp⟩
      · obtain ⟨u, hu⟩ := in_iff.1 hc
        exact ⟨_, Or.inr ⟨u, rfl⟩, hu⟩
    · have : ∃ t, s = N ++ t := by
        rcases hc with rfl | hc
        · exact ⟨[], by simp⟩
        · obtain ⟨u, hu⟩ := in_iff.1 hc
          exact ⟨_, hu⟩
      obtain ⟨t, rfl⟩ := this
      rw [called_app, List.drop_left]
  · rename_i hc
    refine Or.inl ⟨hs, fun hm => hc ?_⟩
    obtain ⟨_, t, ht, rfl⟩ := (mem_mvNames hN).1 hm
    rcases ht with rfl | ⟨u, rfl⟩
    · exact Or.inl (by simp)
    · exact Or.inr (in_iff.2 ⟨u, rfl⟩)
/-- Where a box's own box is there, nothing is lacking. -/
theorem lack_last {l : Bxs} {T : Nm} (hw : Wh l) (h : ∀ i, T[i]? = some 47 → (∀ j, i < j → T[j]? ≠ some 47) → hasB l (T.take i) = true) : lackB l T = [] := by
  have key : ∀ (d i : Nat), T.length - i ≤ d → T[i]? = some 47 → hasB l (T.take i) = true := by
    intro d
    induction d with
    | zero =>
      intro i hd hi
      have := (List.getElem?_eq_some_iff.1 hi).1
      omega
    | succ d ih =>
      intro i hd hi
      by_cases hlast : ∀ j, i < j → T[j]? ≠ some 47
      · exact h i hi hlast
      · have : ∃ j, i < j ∧ T[j]? = some 47 := by
          refine Classical.byContradiction fun hc => hlast fun j hj e => hc ⟨j, hj, e⟩
        obtain ⟨j, hj, e⟩ := this
        have h1 := (List.getElem?_eq_some_iff.1 hi).1
        have h2 := ih j (by omega) e
        have h3 := hw _ h2 i (by rw [List.getElem?_take, if_pos hj]; exact hi)
        rw [List.take_take, Nat.min_eq_left (Nat.le_of_lt hj)] at h3
        exact h3
  rw [List.eq_nil_iff_forall_not_mem]
  intro m hm
  obtain ⟨i, hi, h2, rfl⟩ := mem_lack.1 hm
  rw [key _ i (Nat.le_refl _) hi] at h2
  cases h2
end Go.Proofs.YtfdlopimncodcaaGreatDoor
namespace Go.Proofs.YtfdlopimncodcaaGreatDoor
open Go.RowKit Go.Proofs.Aid Go.Proofs.Bx

set_option maxHeartbeats 2000000 in
set_option maxRecDepth 100000 in
theorem rename_bad (hb mb : Nat) (l : Bxs) (nx : Int) (wv : Value) (s u : ByteArray) (N T : Nm) (w : World) (hE : NEnv w) (h : HsAt w hb mb l nx wv) (hs : s.size ≤ 1000) (hu : u.size ≤ 1000) (e1 : nameB s.data.toList = some N) (e3 : nameB u.data.toList = some T) (hbad : hasB l N = false ∨ hasB l T = true) :
    Calls Tryz.prog 32 #[.pointer (some ⟨hb, 0, none⟩), .string s, .string u] w fun e w' => (∃ E, e = .returned (errN E)) ∧ Below w.heap.size w w' := by
  have cT := there_is nameB hb mb l nx wv s w (nameC hE) h hs
  have HH : Hid (HsAt w hb mb l nx wv ∧ NEnv w ∧ nameB s.data.toList = some N ∧ nameB u.data.toList = some T ∧ (hasB l N = false ∨ hasB l T = true)) := ⟨h, hE, e1, e3, hbad⟩
  clear hE h e1 e3 hbad
  go_enter Tryz.func32, Tryz.ntmps32
  go_wp2_with fail
  refine cT.mono ?_
  rintro e w1 ⟨hb1, ⟨r, hr, hr2, hr3, rfl⟩ | ⟨r, hr, hr3, rfl⟩ | ⟨hr, rfl⟩⟩
  · have cF := free_is nameB hb mb l nx wv u w1 (nameC (HH.out.2.1.below hb1)) (HH.out.1.below hb1 (Nat.le_refl _)) hu
    have HR : Hid (hasB l T = true ∧ Below w.heap.size w w1) := by
      refine ⟨?_, hb1⟩
      rcases HH.out.2.2.2.2 with h3 | h3
      · rw [HH.out.2.2.1] at hr
        rw [← Option.some.inj hr, h3] at hr3
        cases hr3
      · exact h3
    clear cT hr hr3 hb1
    go_wp2_with fail
    refine cF.mono ?_
    rintro e w2 ⟨hb2, ⟨q, hq, hq2, hq3, rfl⟩ | ⟨q, hq, hq3, rfl⟩ | ⟨hq, rfl⟩⟩
    · exfalso
      rw [HH.out.2.2.2.1] at hq
      rw [← Option.some.inj hq, HR.out.1] at hq3
      cases hq3
    · have HF : Hid (Below w.heap.size w w2) := HR.out.2.trans (hb2.mono HR.out.2.size)
      clear cF hq hq3 hb2
      go_wp2_with fail
      go_ret
      exact ⟨⟨_, rfl⟩, HF.out⟩
    · have HF : Hid (Below w.heap.size w w2) := HR.out.2.trans (hb2.mono HR.out.2.size)
      clear cF hq hb2
      go_wp2_with fail
      go_ret
      exact ⟨⟨_, rfl⟩, HF.out⟩
  · have HF : Hid (Below w.heap.size w w1) := hb1
    clear cT hr hr3 hb1
    go_wp2_with fail
    go_ret
    exact ⟨⟨_, rfl⟩, HF.out⟩
  · have HF : Hid (Below w.heap.size w w1) := hb1
    clear cT hr hb1
    go_wp2_with fail
    go_ret
    exact ⟨⟨_, rfl⟩, HF.out⟩
theorem mv_first (H hb mb K : Nat) (l : Bxs) (nx : Int) (W : List Nm) (C : Nat → Bxd) (wv : Value) (s u : ByteArray) (N T : Nm) (w : World) (hE : NEnv w) (hG : 8 ≤ w.heap.size) (h : Hst H hb mb l nx W C wv w) (hI : HI H K l nx W C) (hK : K ≤ 45) (hs : s.size ≤ 1000) (hu : u.size ≤ 1000) (e1 : nameB s.data.toList = some N) (e3 : nameB u.data.toList = some T) (e5 : N ≠ inboxN) (hL : lackB l T = []) :
    Calls Tryz.prog 32 #[.pointer (some ⟨hb, 0, none⟩), .string s, .string u] w fun e w' => ((∃ E, e = .returned (errN E)) ∧ Below w.heap.size w w') ∨
      (e = .returned .nilIface ∧ HK hb mb w w' ∧ Below H w w' ∧ ∃ l' C', Back l N T l' ∧ (∀ p ∈ l, C' p.2 = C p.2) ∧ Hst H hb mb l' nx W C' wv w' ∧ HI H (K + 1) l' nx W C') := by
  by_cases hbad : hasB l N = false ∨ hasB l T = true
  · exact (rename_bad hb mb l nx wv s u N T w hE h.hse.hs hs hu e1 e3 hbad).mono fun _ _ h => Or.inl h
  · have hN : hasB l N = true := by
      cases hb0 : hasB l N with
      | true => rfl
      | false => exact absurd (Or.inl hb0) hbad
    have hT : hasB l T = false := by
      cases hb0 : hasB l T with
      | false => rfl
      | true => exact absurd (Or.inr hb0) hbad
    have hl := hI.len
    have hn := hI.nxt
    refine (rename_is nameB hb mb l nx wv s u N T w (nameC hE) h.hse.hs hG hs hu (by omega) (fun p hp => by have := hI.short p hp; omega) (by omega) e1 hN e3 hT e5).mono ?_
    rintro e w' (⟨_, c2, c3⟩ | ⟨_, _, c3, c4⟩ | ⟨_, _, _, c4, c5⟩ | ⟨c1, c2, c3, c4, c5, ps, c6, c7⟩)
    · exact Or.inl ⟨⟨_, c2⟩, c3⟩
    · exact Or.inl ⟨⟨_, c3⟩, c4⟩
    · exact Or.inl ⟨⟨_, c4⟩, c5⟩
    · have hps : ps = [] := by
        have := c6.1
        rw [hL] at this
        exact List.map_eq_nil_iff.1 this
      subst hps
      have hbx := h.built c5 c6
      have hI2 := hI.move c6 h.old h.h0 c3 (nameB_idem e3) hN hT c1 c2 e5
      have hnx : nx + ((lackB l T).length : Int) = nx := by rw [hL]; simp
      rw [hnx] at c7 hI2
      refine Or.inr ⟨c4, c5, c5.below h.h0 h.h1 h.h2, _, withNew w.heap.size nx [] C, back_of hI.sorted hI.wh hI.nms hN hT c1 hL, fun p hp => withNew_old (h.old p hp), h.turn c5 c7 fun p hp => ?_, hI2⟩
      obtain ⟨p', hp', e6, _⟩ := mem_mvAll _ _ (putAll_sorted [] l hI.sorted) hp
      rw [e6]
      exact hbx p' hp'
theorem mv_back (H hb mb K : Nat) (l l' : Bxs) (nx : Int) (W : List Nm) (C : Nat → Bxd) (wv : Value) (s u : ByteArray) (N T : Nm) (w : World) (hE : NEnv w) (hG : 8 ≤ w.heap.size) (h : Hst H hb mb l' nx W C wv w) (hI : HI H K l' nx W C) (hB : Back l N T l') (hK : K ≤ 45) (hs : s.size ≤ 1000) (hu : u.size ≤ 1000) (e1 : nameB s.data.toList = some T) (e3 : nameB u.data.toList = some N) (e5 : T ≠ inboxN) :
    Calls Tryz.prog 32 #[.pointer (some ⟨hb, 0, none⟩), .string s, .string u] w fun e w' => e = .returned .nilIface ∧ HK hb mb w w' ∧ Below H w w' ∧ ∃ C', (∀ p ∈ l', C' p.2 = C p.2) ∧ Hst H hb mb l nx W C' wv w' := by
  have hl := hI.len
  have hn := hI.nxt
  refine (rename_is nameB hb mb l' nx wv s u T N w (nameC hE) h.hse.hs hG hs hu (by omega) (fun p hp => by have := hI.short p hp; omega) (by omega) e1 hB.hasT e3 hB.noN e5).mono ?_
  rintro e w' (⟨c1, _, _⟩ | ⟨_, c2, _, _⟩ | ⟨_, _, c3, _, _⟩ | ⟨c1, c2, c3, c4, c5, ps, c6, c7⟩)
  · rw [hB.out] at c1
    cases c1
  · rw [hB.short] at c2
    cases c2
  · rw [hB.lack] at c3
    simp at c3
    omega
  · have hps : ps = [] := by
      have := c6.1
      rw [hB.lack] at this
      exact List.map_eq_nil_iff.1 this
    subst hps
    have hbx := h.built c5 c6
    have hnx : nx + ((lackB l' N).length : Int) = nx := by rw [hB.lack]; simp
    have hback : mvAll N T (mvNames l' T) (putAll l' []) = l := hB.back
    rw [hnx, hback] at c7
    refine ⟨c4, c5, c5.below h.h0 h.h1 h.h2, withNew w.heap.size nx [] C, fun p hp => withNew_old (h.old p hp), h.turn c5 c7 fun p hp => ?_⟩
    rw [← hback] at hp
    obtain ⟨p', hp', e6, _⟩ := mem_mvAll _ _ (putAll_sorted [] l' hI.sorted) hp
    rw [e6]
    exact hbx p' hp'
/-- A cell that the house's two blocks have not. -/
theorem two_ints {w : World} {hb mb : Nat} {l : Bxs} {nx : Int} {a : Option Addr} {n c : Nat} (h : HsAt w hb mb l nx (.slice a n c)) {b i : Nat} {x y : Int} (h1 : w.cell? ⟨b, i, none⟩ = some (.int .i64 x)) (h2 : w.cell? ⟨b, i + 1, none⟩ = some (.int .i64 y)) : b ≠ hb ∧ b ≠ mb := by
  refine ⟨fun e => ?_, fun e => ?_⟩
  · rw [e] at h1 h2
    match i with
    | 0 => rw [h.cell.1] at h1; cases h1
    | 1 => rw [h.cell.2.1] at h1; cases h1
    | i + 2 => simp [World.cell?, h.1] at h2
  · rw [e] at h1
    obtain ⟨_, _, D, ⟨es, clock, h3, _⟩, _⟩ := h
    simp [World.cell?, h3] at h1
theorem SvAt.hk {w w' : World} {nv bv wv : Value} {S : Svd} {hb mb : Nat} {l : Bxs} {nx : Int} {a : Option Addr} {n c : Nat} (h : SvAt w nv bv wv S) (hS : HsAt w hb mb l nx (.slice a n c)) (hk : HK hb mb w w') : SvAt w' nv bv wv S := by
  have htx := TxKeep.hk hS hk
  obtain ⟨h1, ⟨ba, bc, hbv, h2⟩, h3⟩ := h
  refine ⟨h1.tx htx, ⟨ba, bc, hbv, ?_⟩, h3.tx htx⟩
  rcases h2 with h2 | ⟨b, o, h4, h5⟩
  · exact Or.inl h2
  · refine Or.inr ⟨b, o, h4, fun j x hj => ?_⟩
    obtain ⟨q1, q2, lv, q3, q4⟩ := h5 j x hj
    obtain ⟨n1, n2⟩ := two_ints hS q1 q2
    have hb' : w'.heap[b]? = w.heap[b]? := hk.block b (World.block_lt_of_cell? _ _ q1) n1 n2
    have hc : ∀ i, w'.cell? ⟨b, i, none⟩ = w.cell? ⟨b, i, none⟩ := fun i => World.cell?_of_block (a := ⟨b, i, none⟩) hb'
    exact ⟨(hc _).trans q1, (hc _).trans q2, lv, (hc _).trans q3, q4.tx htx⟩
/-- Another house stays. -/
theorem Hse.hk {w w' : World} {hb mb hb2 mb2 : Nat} {l l2 : Bxs} {nx nx2 : Int} {a : Option Addr} {n c : Nat} {wv : Value} {W : List Nm} {C : Nat → Bxd} (h : Hse w hb2 mb2 l2 nx2 wv W C) (hS : HsAt w hb mb l nx (.slice a n c)) (hk : HK hb mb w w') (h1 : hb2 ≠ hb) (h2 : hb2 ≠ mb) (h3 : mb2 ≠ hb) (h4 : mb2 ≠ mb) : Hse w' hb2 mb2 l2 nx2 wv W C :=
  ⟨⟨(hk.block hb2 h.hs.lt h1 h2).trans h.hs.1, h.hs.2.same (hk.block mb2 h.hs.2.lt h3 h4)⟩, h.ws.tx (TxKeep.hk hS hk), fun p hp => (h.bx p hp).hk hS hk⟩
/-- What is last a / tells what is lacking. -/
theorem lack_byte {l : Bxs} {m : ByteArray} (hw : Wh l) (h : Lib.lastIndexByte m 47 < 0 ∨ hasB l (m.data.toList.take (Lib.lastIndexByte m 47).toNat) = true) : lackB l m.data.toList = [] := by
  refine lack_last hw fun i hi hlast => ?_
  have hil := (List.getElem?_eq_some_iff.1 hi).1
  have hsz : m.data.toList.length = m.size := by rw [Array.length_toList]; rfl
  have hget : ∀ j, j < m.size → (((m.data[j]!).toNat : Int) = 47 ↔ m.data.toList[j]? = some 47) := fun j hj => by
    have hj' : j < m.data.toList.length := by omega
    rw [List.getElem?_eq_getElem hj']
    have : m.data[j]! = m.data.toList[j] := by
      rw [getElem!_pos _ _ (by simpa using hj')]
      simp
    rw [this]
    constructor
    · intro e
      congr 1
      apply UInt8.toNat_inj.1
      have : (47 : UInt8).toNat = 47 := rfl
      omega
    · intro e
      rw [Option.some.inj e]
      rfl
  rcases Lib.lastIdx_spec m 47 m.size with ⟨_, h2⟩ | ⟨k, h1, h2, h3, h4⟩
  · exact absurd ((hget i (by omega)).2 hi) (h2 i (by omega))
  · have hk : Lib.lastIndexByte m 47 = (k : Int) := h2
    rcases h with h | h
    · omega
    · rw [hk] at h
      have hik : i = k := by
        rcases Nat.lt_trichotomy i k with h5 | h5 | h5
        · exact absurd ((hget k h1).1 h3) (hlast k h5)
        · exact h5
        · exact absurd ((hget i (by omega)).2 hi) (h4 i h5 (by omega))
      rw [hik]
      exact h
end Go.Proofs.YtfdlopimncodcaaGreatDoor
namespace Go.Proofs
open Go.Shelf
def Tryz.lays149_ren : Go.Shelf.Ren := ⟨fun | 149 => 30 | 222 => 80 | n => n, fun | 9 => 9 | 5 => 5 | 3 => 3 | 4 => 4 | n => n, fun | n => n⟩
theorem Tryz.lays149 : Go.Proofs.Lays.n149 Tryz.prog Tryz.lays149_ren := {
  mixed := by kernel_rfl
  f149 := Tryz.func30.trans (congrArg some (by kernel_rfl))
  f222 := Tryz.func80.trans (congrArg some (by kernel_rfl))
  t3 := Tryz.underlying3
  a3 := Tryz.isAgg3
  z3 := Tryz.sizeOf3
  v3 := Tryz.zeroValue3
  t4 := Tryz.underlying4
  a4 := Tryz.isAgg4
  z4 := Tryz.sizeOf4
  v4 := Tryz.zeroValue4
  t5 := Tryz.underlying5
  a5 := Tryz.isAgg5
  z5 := Tryz.sizeOf5
  v5 := Tryz.zeroValue5
  t9 := Tryz.underlying9
  a9 := Tryz.isAgg9
  z9 := Tryz.sizeOf9
  v9 := Tryz.zeroValue9 }
open Go.RowKit Go.Lib in
theorem Tryz.strings_LastIndexByte (s : ByteArray) (c : Int) (hs : s.size < 4611686018427387904) (w : World) :
    Calls Tryz.prog 30 #[.string s, .int .u8 c] w fun e w' => e = .returned (.int .i64 (Lib.lastIndexByte s c)) ∧ w' = w := Any.strings_LastIndexByte Tryz.lays149 s c hs w
def Tryz.lays109_ren : Go.Shelf.Ren := ⟨fun | 109 => 34 | n => n, fun | 31 => 32 | 9 => 9 | 3 => 3 | 0 => 0 | 4 => 4 | n => n, fun | n => n⟩
theorem Tryz.lays109 : Go.Proofs.Lays.n109 Tryz.prog Tryz.lays109_ren := {
  mixed := by kernel_rfl
  f109 := Tryz.func34.trans (congrArg some (by kernel_rfl))
  t0 := Tryz.underlying0
  a0 := Tryz.isAgg0
  z0 := Tryz.sizeOf0
  v0 := Tryz.zeroValue0
  t3 := Tryz.underlying3
  a3 := Tryz.isAgg3
  z3 := Tryz.sizeOf3
  v3 := Tryz.zeroValue3
  t4 := Tryz.underlying4
  a4 := Tryz.isAgg4
  z4 := Tryz.sizeOf4
  v4 := Tryz.zeroValue4
  t9 := Tryz.underlying9
  a9 := Tryz.isAgg9
  z9 := Tryz.sizeOf9
  v9 := Tryz.zeroValue9
  t31 := Tryz.underlying32
  a31 := Tryz.isAgg32
  z31 := Tryz.sizeOf32
  v31 := Tryz.zeroValue32 }
open Go.Lib in
theorem Tryz.slices_Index_string (b off n c : Nat) (zs : List ByteArray) (x : ByteArray) (w : World) (hz : n ≤ zs.length) (hbig : n ≤ 9223372036854775807) (hc : ∀ j, j < zs.length → w.cell? ⟨b, off + j, none⟩ = some (.string (zs.getD j ByteArray.empty))) :
    Calls Tryz.prog 34 #[.slice (some ⟨b, off, none⟩) n c, .string x] w fun e w' => e = .returned (.int .i64 (Lib.idxOfS (zs.take n) x)) ∧ w' = w := Any.slices_Index_string Tryz.lays109 b off n c zs x w hz hbig hc
end Go.Proofs
