/-
  What holds of a box whatever is done, plain mathematics, and more.
-/
import Derived.Test.YtdmplfflmdanlaaGreatDoorMHxMath
import Derived.Maps.RangeWalk
import Derived.Sort.OwnSorted
import Derived.Shelf.Slices.In.SortNone
import Derived.Shelf.Sort.Plain
import Derived.Lib.SmallJoins
import Derived.Shelf.Spec.SlicesInsert
import Derived.Shelf.Spec.SlicesInsertGrow
namespace Go.Proofs.YtdmplfflmdanlaaGreatDoor
open Go.Proofs.Bx
open Go.Proofs.Fl (Own Ord setOf namesOf order fname)

/-- Flags that are a set. -/
def SetOk (F : List Fl.Tx) : Prop := (∀ s ∈ F, Own s) ∧ Ord F ∧ F.length ≤ 12
theorem namesOf_self : ∀ {x : List Fl.Tx}, (∀ s ∈ x, Own s) → namesOf x = (x, 0)
  | [], _ => rfl
  | s :: x, h => by
    have h1 : fname s = (s, 0) := h s List.mem_cons_self
    have h2 := namesOf_self (x := x) fun t ht => h t (List.mem_cons_of_mem _ ht)
    rw [Fl.namesOf, h1, h2]
    simp
theorem setOk_setOf {F : List Fl.Tx} (h : SetOk F) : setOf F = (F, 0) := by
  unfold Fl.setOf
  rw [namesOf_self h.1, if_neg (by simp), Fl.order_of_ord h.2.1, if_neg (by have := h.2.2; omega)]
/-- A message as it may be here. -/
def LtOk (x : Lt) : Prop := SetOk x.flags ∧ (0 ≤ x.day ∧ x.day < 1000) ∧ x.text.length ≤ 300
/-- A box as it may be here. -/
structure BInv (n : Int) (l : List Lt) : Prop where
  rise : Rise l
  uid : ∀ x ∈ l, 1 ≤ x.uid ∧ x.uid < n
  ok : ∀ x ∈ l, LtOk x
  next : 1 ≤ n
theorem okLt_of {x : Lt} (h : LtOk x) : okLt x = true := by
  unfold okLt
  rw [setOk_setOf h.1]
  have h1 := h.2.1
  have h2 := h.2.2
  simp
  exact ⟨⟨h1.1, by omega⟩, by omega⟩
theorem riseB_of {n : Int} : ∀ {l : List Lt} {last : Int}, Rise l → (∀ x ∈ l, last < x.uid ∧ x.uid < n) → (∀ x ∈ l, LtOk x) → riseB n last l = true
  | [], _, _, _, _ => rfl
  | x :: r, last, hr, hu, ho => by
    have h1 := hu x List.mem_cons_self
    unfold Rise at hr
    rw [List.pairwise_cons] at hr
    have h2 := riseB_of (n := n) (l := r) (last := x.uid) hr.2 (fun y hy => ⟨hr.1 y hy, (hu y (List.mem_cons_of_mem _ hy)).2⟩) fun y hy => ho y (List.mem_cons_of_mem _ hy)
    rw [riseB, h2, okLt_of (ho x List.mem_cons_self)]
    simp [h1.1, h1.2]
theorem BInv.right {n : Int} {l : List Lt} (h : BInv n l) (hn : n ≤ 2147483647) (hl : l.length ≤ 60) : rightB 1 n l = true := by
  unfold rightB mayB
  rw [riseB_of h.rise (fun x hx => ⟨by have := (h.uid x hx).1; omega, (h.uid x hx).2⟩) h.ok]
  have := h.next
  simp [this, hn, hl]
/-- One deed at a box: what stays, what is new. -/
structure BStep (n : Int) (l : List Lt) (n' : Int) (l' : List Lt) : Prop where
  inv : BInv n' l'
  up : n ≤ n' ∧ n' ≤ n + 1
  old : ∀ y ∈ l', (∃ x ∈ l, x.uid = y.uid ∧ x.text = y.text) ∨ (y.uid = n ∧ n' = n + 1)
  len : l'.length ≤ l.length + 1
theorem step_append {n : Int} {l : List Lt} (h : BInv n l) {F : List Fl.Tx} {day : Int} {t : Fl.Tx} (hF : SetOk F) (hd : 0 ≤ day ∧ day < 1000) (ht : t.length ≤ 300) : BStep n l (n + 1) (l ++ [⟨n, F, day, t⟩]) := by
  refine ⟨⟨?_, fun x hx => ?_, fun x hx => ?_, by have := h.next; omega⟩, ⟨by omega, by omega⟩, fun y hy => ?_, by simp⟩
  · unfold Rise
    rw [List.pairwise_append]
    refine ⟨h.rise, by simp, fun a ha b hb => ?_⟩
    rw [List.mem_singleton.1 hb]
    exact (h.uid a ha).2
  · rcases List.mem_append.1 hx with h1 | h1
    · have := h.uid x h1; omega
    · rw [List.mem_singleton.1 h1]; have := h.next; exact ⟨this, by show n < n + 1; omega⟩
  · rcases List.mem_append.1 hx with h1 | h1
    · exact h.ok x h1
    · rw [List.mem_singleton.1 h1]; exact ⟨hF, hd, ht⟩
  · rcases List.mem_append.1 hy with h1 | h1
    · exact Or.inl ⟨y, h1, rfl, rfl⟩
    · rw [List.mem_singleton.1 h1]; exact Or.inr ⟨rfl, rfl⟩
end Go.Proofs.YtdmplfflmdanlaaGreatDoor
namespace Go.Proofs.YtdmplfflmdanlaaGreatDoor
open Go.RowKit Go.Proofs.Aid Go.Proofs.Bx

/-- A letter as it is put into a box here. -/
def PlainL (y : Lt) : Prop := y.flags = [] ∧ y.day = 1 ∧ y.text.length ≤ 100
/-- A box as it may be here; K bounds how much was done. -/
structure GoodBx (K : Nat) (nx : Int) (x : Bxd) : Prop where
  inv : BInv x.n x.ls
  plain : ∀ y ∈ x.ls, PlainL y
  num : 1 ≤ x.v ∧ x.v < nx
  next : x.n ≤ (K : Int) + 1
  len : x.ls.length ≤ K
  most : x.ls.length ≤ 60
theorem GoodBx.more {K K' : Nat} {nx nx' : Int} {x : Bxd} (h : GoodBx K nx x) (hK : K ≤ K') (hn : nx ≤ nx') : GoodBx K' nx' x :=
  ⟨h.inv, h.plain, ⟨h.num.1, by have := h.num.2; omega⟩, by have := h.next; omega, by have := h.len; omega, h.most⟩
theorem good_new {K : Nat} {nx v : Int} (h : 1 ≤ v ∧ v < nx) : GoodBx K nx ⟨v, 1, []⟩ :=
  ⟨⟨List.Pairwise.nil, fun x hx => absurd hx List.not_mem_nil, fun x hx => absurd hx List.not_mem_nil, Int.le_refl _⟩, fun x hx => absurd hx List.not_mem_nil, h, by show (1 : Int) ≤ _; omega, Nat.zero_le _, Nat.zero_le _⟩
/-- A house as it may be here. -/
structure HI (H K : Nat) (l : Bxs) (nx : Int) (W : List Nm) (C : Nat → Bxd) : Prop where
  sorted : SortedB l
  len : l.length ≤ 30
  wh : Wh l
  nms : NmsOk l
  inbox : hasB l inboxN = true
  wlen : W.length ≤ 60
  wsorted : W.Pairwise (· < ·)
  wnm : ∀ n ∈ W, nameB n = some n
  nxt : 1 ≤ nx ∧ nx ≤ 30 * (K : Int) + 1000
  low : ∀ p ∈ l, H ≤ p.2
  blk : ∀ p ∈ l, ∀ q ∈ l, p.2 = q.2 → p = q
  num : ∀ p ∈ l, ∀ q ∈ l, (C p.2).v = (C q.2).v → p = q
  bx : ∀ p ∈ l, GoodBx K nx (C p.2)
theorem HI.more {H K K' : Nat} {l : Bxs} {nx : Int} {W : List Nm} {C : Nat → Bxd} (h : HI H K l nx W C) (hK : K ≤ K') : HI H K' l nx W C :=
  ⟨h.sorted, h.len, h.wh, h.nms, h.inbox, h.wlen, h.wsorted, h.wnm, ⟨h.nxt.1, by have := h.nxt.2; omega⟩, h.low, h.blk, h.num, fun p hp => (h.bx p hp).more hK (Int.le_refl _)⟩
theorem HI.wants {H K : Nat} {l : Bxs} {nx : Int} {W W' : List Nm} {C : Nat → Bxd} (h : HI H K l nx W C) (h1 : W'.length ≤ 60) (h2 : W'.Pairwise (· < ·)) (h3 : ∀ n ∈ W', nameB n = some n) : HI H K l nx W' C :=
  ⟨h.sorted, h.len, h.wh, h.nms, h.inbox, h1, h2, h3, h.nxt, h.low, h.blk, h.num, h.bx⟩
theorem nameB_len60 {n : Nm} (h : nameB n = some n) : n.length ≤ 60 := (nmOk_of h).len.2
theorem HI.short {H K : Nat} {l : Bxs} {nx : Int} {W : List Nm} {C : Nat → Bxd} (h : HI H K l nx W C) : ∀ p ∈ l, p.1.length ≤ 60 := fun p hp => nameB_len60 (h.nms _ (hasB_true.2 ⟨p.2, hp⟩))
theorem setOk_nil : SetOk [] := ⟨fun s hs => absurd hs List.not_mem_nil, List.Pairwise.nil, by simp⟩
/-- What a house has may be saved and loaded. -/
theorem HI.svOk {H K : Nat} {l : Bxs} {nx : Int} {W : List Nm} {C : Nat → Bxd} (h : HI H K l nx W C) (hK : K ≤ 400) : SvOk (svOf l W nx C) where
  len := by simp [svOf, namesB]
  most := by have := h.len; simpa [svOf, namesB] using this
  wmost := h.wlen
  nsorted := List.pairwise_map.2 h.sorted
  wsorted := h.wsorted
  nname := fun n hn => by
    obtain ⟨p, hp, rfl⟩ := List.mem_map.1 hn
    exact h.nms _ (hasB_true.2 ⟨p.2, hp⟩)
  wname := h.wnm
  inbox := by
    obtain ⟨b, hb⟩ := hasB_true.1 h.inbox
    exact List.mem_map.2 ⟨_, hb, rfl⟩
  whole := fun n hn => by
    obtain ⟨p, hp, rfl⟩ := List.mem_map.1 hn
    exact not_hang h.wh (hasB_true.2 ⟨p.2, hp⟩)
  next := ⟨h.nxt.1, by have := h.nxt.2; show nx ≤ _; omega⟩
  boxes := fun x hx => by
    obtain ⟨p, hp, rfl⟩ := List.mem_map.1 hx
    have g := h.bx p hp
    have g1 := g.num
    have g2 := g.next
    have g3 := g.most
    have g4 := h.nxt.2
    refine ⟨?_, g1.2, by omega, fun y hy => ?_⟩
    · have h0 := BInv.right g.inv (by omega) (by omega)
      unfold rightB at h0 ⊢
      have h1 : mayB (C p.2).v = true := by
        unfold mayB
        rw [decide_eq_true g1.1, decide_eq_true (by omega)]
        rfl
      rw [h1]
      simp only [Bool.and_eq_true] at h0 ⊢
      exact ⟨⟨⟨trivial, h0.1.1.2⟩, h0.1.2⟩, h0.2⟩
    · rw [(g.plain y hy).1]
      exact ⟨by simp, fun s hs => absurd hs List.not_mem_nil, by rw [setOk_setOf setOk_nil]; simp⟩
  once := by
    show ((l.map fun p => C p.2).map Bxd.v).Nodup
    rw [List.map_map]
    have hn := h.num
    have hs := h.sorted
    clear h
    induction l with
    | nil => simp
    | cons a l ih =>
      obtain ⟨h1, h2⟩ := List.pairwise_cons.1 hs
      rw [List.map_cons, List.nodup_cons]
      refine ⟨fun hm => ?_, ih (fun p hp q hq => hn p (List.mem_cons_of_mem _ hp) q (List.mem_cons_of_mem _ hq)) h2⟩
      obtain ⟨q, hq, e⟩ := List.mem_map.1 hm
      have e2 := hn q (List.mem_cons_of_mem _ hq) a List.mem_cons_self e
      have := h1 q hq
      rw [e2] at this
      exact List.lt_irrefl _ this
/-- What lies in boxes behind B, made one by one. -/
def withNew (B : Nat) (nx : Int) (ps : Bxs) (C : Nat → Bxd) : Nat → Bxd := fun b => if b < B then C b else ⟨nx + ((ps.findIdx fun p => p.2 == b : Nat) : Int), 1, []⟩
theorem withNew_old {B : Nat} {nx : Int} {ps : Bxs} {C : Nat → Bxd} {b : Nat} (h : b < B) : withNew B nx ps C b = C b := if_pos h
theorem withNew_new {B : Nat} {w : World} {nx : Int} {ns : List Nm} {ps : Bxs} {C : Nat → Bxd} (h : Built B w nx ns ps) {j : Nat} {p : Nm × Nat} (hj : ps[j]? = some p) : withNew B nx ps C p.2 = ⟨nx + (j : Int), 1, []⟩ := by
  have hB := (h.2.1 j p hj).1
  unfold withNew
  rw [if_neg (by omega)]
  obtain ⟨hlt, he⟩ := List.getElem?_eq_some_iff.1 hj
  have h1 : ps.findIdx (fun q => q.2 == p.2) = j := by
    rw [List.findIdx_eq hlt]
    refine ⟨by rw [he]; simp, fun i hi => ?_⟩
    have := List.pairwise_iff_getElem.1 h.2.2 i j (by simp; omega) (by simpa using hlt) hi
    simp only [List.getElem_map] at this
    rw [he] at this
    simp only [beq_eq_false_iff_ne, ne_eq]
    omega
  rw [h1]
theorem built_blk {B : Nat} {w : World} {nx : Int} {ns : List Nm} {ps : Bxs} (h : Built B w nx ns ps) {i j : Nat} {p q : Nm × Nat} (hi : ps[i]? = some p) (hj : ps[j]? = some q) (e : p.2 = q.2) : i = j := by
  obtain ⟨h1, e1⟩ := List.getElem?_eq_some_iff.1 hi
  obtain ⟨h2, e2⟩ := List.getElem?_eq_some_iff.1 hj
  rcases Nat.lt_trichotomy i j with h3 | h3 | h3
  · have := List.pairwise_iff_getElem.1 h.2.2 i j (by simpa using h1) (by simpa using h2) h3
    simp only [List.getElem_map] at this
    rw [e1, e2] at this
    omega
  · exact h3
  · have := List.pairwise_iff_getElem.1 h.2.2 j i (by simpa using h2) (by simpa using h1) h3
    simp only [List.getElem_map] at this
    rw [e1, e2] at this
    omega
/-- Boxes that are made: what stays as it was, whatever they are called. -/
theorem build_parts {H K B : Nat} {w : World} {l : Bxs} {nx : Int} {W : List Nm} {C : Nat → Bxd} {ns : List Nm} {ps : Bxs} (h : HI H K l nx W C) (hb : Built B w nx ns ps) (hlt : ∀ p ∈ l, p.2 < B) (hH : H ≤ B) (hn : l.length + ns.length ≤ 30) :
    SortedB (putAll l ps) ∧ (putAll l ps).length ≤ 30 ∧ (1 ≤ nx + (ns.length : Int) ∧ nx + (ns.length : Int) ≤ 30 * ((K + 1 : Nat) : Int) + 1000) ∧ (∀ p ∈ putAll l ps, H ≤ p.2) ∧ (∀ p ∈ putAll l ps, ∀ q ∈ putAll l ps, p.2 = q.2 → p = q) ∧
    (∀ p ∈ putAll l ps, ∀ q ∈ putAll l ps, (withNew B nx ps C p.2).v = (withNew B nx ps C q.2).v → p = q) ∧ ∀ p ∈ putAll l ps, GoodBx (K + 1) (nx + (ns.length : Int)) (withNew B nx ps C p.2) := by
  have hlen : ps.length = ns.length := by rw [← hb.1, List.length_map]
  have hcases : ∀ p ∈ putAll l ps, p ∈ l ∨ ∃ j, ps[j]? = some p := fun p hp => (mem_putAll ps l h.sorted hp).imp id fun h1 => List.getElem?_of_mem h1
  have hnx := h.nxt
  refine ⟨putAll_sorted ps l h.sorted, Nat.le_trans (putAll_len l _ ps rfl) (by omega), ⟨by omega, by omega⟩, fun p hp => ?_, fun p hp q hq e => ?_, fun p hp q hq e => ?_, fun p hp => ?_⟩
  · rcases hcases p hp with h1 | ⟨j, h1⟩
    · exact h.low p h1
    · have := (hb.2.1 j p h1).1; omega
  · rcases hcases p hp with h1 | ⟨i, h1⟩
    · rcases hcases q hq with h2 | ⟨j, h2⟩
      · exact h.blk p h1 q h2 e
      · have := (hb.2.1 j q h2).1; have := hlt p h1; omega
    · rcases hcases q hq with h2 | ⟨j, h2⟩
      · have := (hb.2.1 i p h1).1; have := hlt q h2; omega
      · have e1 := built_blk hb h1 h2 e
        rw [e1, h2] at h1
        exact (Option.some.inj h1).symm
  · rcases hcases p hp with h1 | ⟨i, h1⟩
    · rw [withNew_old (hlt p h1)] at e
      rcases hcases q hq with h2 | ⟨j, h2⟩
      · rw [withNew_old (hlt q h2)] at e
        exact h.num p h1 q h2 e
      · rw [withNew_new hb h2] at e
        have e : (C p.2).v = nx + (j : Int) := e
        have := (h.bx p h1).num.2
        omega
    · rw [withNew_new hb h1] at e
      rcases hcases q hq with h2 | ⟨j, h2⟩
      · rw [withNew_old (hlt q h2)] at e
        have e : nx + (i : Int) = (C q.2).v := e
        have := (h.bx q h2).num.2
        omega
      · rw [withNew_new hb h2] at e
        have e : nx + (i : Int) = nx + (j : Int) := e
        obtain rfl : i = j := by omega
        rw [h2] at h1
        exact (Option.some.inj h1).symm
  · rcases hcases p hp with h1 | ⟨i, h1⟩
    · rw [withNew_old (hlt p h1)]
      exact (h.bx p h1).more (by omega) (by omega)
    · rw [withNew_new hb h1]
      have := (List.getElem?_eq_some_iff.1 h1).1
      exact good_new ⟨by omega, by omega⟩
theorem HI.create {H K B : Nat} {w : World} {l : Bxs} {nx : Int} {W : List Nm} {C : Nat → Bxd} {r : Nm} {ps : Bxs} (h : HI H K l nx W C) (hb : Built B w nx (lackB l r ++ [r]) ps) (hlt : ∀ p ∈ l, p.2 < B) (hH : H ≤ B) (hn : l.length + (lackB l r ++ [r]).length ≤ 30) (hr : nameB r = some r) :
    HI H (K + 1) (putAll l ps) (nx + ((lackB l r ++ [r]).length : Int)) W (withNew B nx ps C) := by
  obtain ⟨q1, q2, q3, q4, q5, q6, q7⟩ := build_parts h hb hlt hH hn
  exact ⟨q1, q2, wh_create h.sorted h.wh hb.1, nms_create h.sorted h.nms hr hb.1, (has_putAll ps l h.sorted).2 (Or.inr h.inbox), h.wlen, h.wsorted, h.wnm, q3, q4, q5, q6, q7⟩
theorem HI.delete {H K : Nat} {l : Bxs} {nx : Int} {W : List Nm} {C : Nat → Bxd} {r : Nm} (h : HI H K l nx W C) (h0 : withinB l r = []) (hne : r ≠ inboxN) : HI H K (delB l r) nx W C := by
  have hsub : ∀ p ∈ delB l r, p ∈ l := fun p hp => (List.mem_filter.1 hp).1
  exact ⟨sorted_delB h.sorted r, Nat.le_trans (List.length_filter_le _ _) h.len, wh_delete h.wh h0, nms_delete h.nms, has_delB.2 ⟨fun e => hne e.symm, h.inbox⟩, h.wlen, h.wsorted, h.wnm, h.nxt, fun p hp => h.low p (hsub p hp), fun p hp q hq => h.blk p (hsub p hp) q (hsub q hq), fun p hp q hq => h.num p (hsub p hp) q (hsub q hq), fun p hp => h.bx p (hsub p hp)⟩
theorem HI.move {H K B : Nat} {w : World} {l : Bxs} {nx : Int} {W : List Nm} {C : Nat → Bxd} {N T : Nm} {ps : Bxs} (h : HI H K l nx W C) (hb : Built B w nx (lackB l T) ps) (hlt : ∀ p ∈ l, p.2 < B) (hH : H ≤ B) (hn : l.length + (lackB l T).length ≤ 30) (hr : nameB T = some T)
    (hN : hasB l N = true) (hT : hasB l T = false) (hin : inB T N = false) (hlong : ((mvNames l N).any fun x => decide (60 < (calledB T N x).length)) = false) (hne : N ≠ inboxN) :
    HI H (K + 1) (mvAll T N (mvNames l N) (putAll l ps)) (nx + ((lackB l T).length : Int)) W (withNew B nx ps C) := by
  obtain ⟨q1, q2, q3, q4, q5, q6, q7⟩ := build_parts h hb hlt hH hn
  obtain ⟨_, hmem⟩ := move_mem h.sorted h.wh hN hT hin hb.1
  have hone : ∀ p ∈ mvAll T N (mvNames l N) (putAll l ps), ∃ q ∈ putAll l ps, q.2 = p.2 ∧ ∀ p' ∈ mvAll T N (mvNames l N) (putAll l ps), p'.2 = q.2 → p' = p := fun p hp => by
    have huniq : ∀ {m m' : Nm} {c : Nat}, (m, c) ∈ mvAll T N (mvNames l N) (putAll l ps) → (m', c) ∈ mvAll T N (mvNames l N) (putAll l ps) → m = m' := fun {m m' c} h1 h2 => by
      rcases (hmem m c).1 h1 with ⟨a1, a2⟩ | ⟨x, x1, x2, x3⟩
      · rcases (hmem m' c).1 h2 with ⟨b1, b2⟩ | ⟨y, y1, y2, y3⟩
        · exact congrArg Prod.fst (q5 _ a1 _ b1 rfl)
        · have : m = y := congrArg Prod.fst (q5 _ a1 _ y2 rfl)
          exact absurd (this ▸ y1) a2
      · rcases (hmem m' c).1 h2 with ⟨b1, b2⟩ | ⟨y, y1, y2, y3⟩
        · have : m' = x := congrArg Prod.fst (q5 _ b1 _ x2 rfl)
          exact absurd (this ▸ x1) b2
        · have : x = y := congrArg Prod.fst (q5 _ x2 _ y2 rfl)
          rw [x3, y3, this]
    obtain ⟨m, c⟩ := p
    rcases (hmem m c).1 hp with ⟨a1, _⟩ | ⟨x, _, x2, _⟩
    · exact ⟨_, a1, rfl, fun ⟨m', c'⟩ hp' e => by
        obtain rfl : c' = c := e
        rw [huniq hp' hp]⟩
    · exact ⟨_, x2, rfl, fun ⟨m', c'⟩ hp' e => by
        obtain rfl : c' = c := e
        rw [huniq hp' hp]⟩
  refine ⟨mvAll_sorted _ _ q1, Nat.le_trans (mvAll_le _ _ q1) q2, wh_move h.sorted h.wh hN hT hin hb.1, nms_move h.sorted h.nms h.wh hN hT hin hb.1 hr hlong, inbox_move h.sorted h.wh hN hT hin hb.1 h.inbox hne, h.wlen, h.wsorted, h.wnm, q3, fun p hp => ?_, fun p hp q hq e => ?_, fun p hp q hq e => ?_, fun p hp => ?_⟩
  · obtain ⟨q, hq, e, _⟩ := hone p hp
    rw [← e]
    exact q4 q hq
  · obtain ⟨x, hx, e1, hu⟩ := hone p hp
    exact (hu q hq (by rw [e1]; exact e.symm)).symm
  · obtain ⟨x, hx, e1, hu⟩ := hone p hp
    obtain ⟨y, hy, e2, _⟩ := hone q hq
    rw [← e1, ← e2] at e
    have e3 := q6 x hx y hy e
    exact (hu q hq (by rw [e3]; exact e2.symm)).symm
  · obtain ⟨q, hq, e, _⟩ := hone p hp
    rw [← e]
    exact q7 q hq
/-- What lies in one box is another. -/
def setC (C : Nat → Bxd) (b : Nat) (x : Bxd) : Nat → Bxd := fun c => if c = b then x else C c
theorem setC_same {C : Nat → Bxd} {b : Nat} {x : Bxd} : setC C b x b = x := if_pos rfl
theorem setC_other {C : Nat → Bxd} {b c : Nat} {x : Bxd} (h : c ≠ b) : setC C b x c = C c := if_neg h
theorem setC_twice {C : Nat → Bxd} {b : Nat} {x y : Bxd} : setC (setC C b x) b y = setC C b y := funext fun c => by
  unfold setC
  split <;> rfl
theorem HI.box {H K K' : Nat} {l : Bxs} {nx : Int} {W : List Nm} {C : Nat → Bxd} {n : Nm} {b : Nat} {x : Bxd} (h : HI H K l nx W C) (hK : K ≤ K') (_hb : (n, b) ∈ l) (hv : x.v = (C b).v) (hx : GoodBx K' nx x) : HI H K' l nx W (setC C b x) := by
  have h' := h.more hK
  have hv' : ∀ c, (setC C b x c).v = (C c).v := fun c => by
    by_cases hc : c = b
    · rw [hc, setC_same, hv]
    · rw [setC_other hc]
  refine ⟨h.sorted, h.len, h.wh, h.nms, h.inbox, h.wlen, h.wsorted, h.wnm, h'.nxt, h.low, h.blk, fun p hp q hq e => ?_, fun p hp => ?_⟩
  · rw [hv', hv'] at e
    exact h.num p hp q hq e
  · by_cases hc : p.2 = b
    · rw [hc, setC_same]
      exact hx
    · rw [setC_other hc]
      exact h'.bx p hp
/-- A letter more. -/
theorem good_append {K : Nat} {nx : Int} {x : Bxd} {t : Nm} (h : GoodBx K nx x) (ht : t.length ≤ 100) (hl : x.ls.length < 60) : GoodBx (K + 1) nx ⟨x.v, x.n + 1, x.ls ++ [⟨x.n, [], 1, t⟩]⟩ := by
  have hs := step_append h.inv (F := []) (day := 1) (t := t) ⟨fun s hs => absurd hs List.not_mem_nil, List.Pairwise.nil, by simp⟩ (by omega) (by omega)
  refine ⟨hs.inv, fun y hy => ?_, h.num, by have := h.next; show x.n + 1 ≤ _; omega, ?_, by rw [List.length_append]; show x.ls.length + 1 ≤ 60; omega⟩
  · rcases List.mem_append.1 hy with h1 | h1
    · exact h.plain y h1
    · rw [List.mem_singleton.1 h1]
      exact ⟨rfl, rfl, ht⟩
  · have := h.len
    rw [List.length_append]
    simpa using this
end Go.Proofs.YtdmplfflmdanlaaGreatDoor
namespace Go.Proofs.YtdmplfflmdanlaaGreatDoor
open Go.RowKit Go.Proofs.Aid Go.Proofs.Bx

theorem noStr_map {w : World} {k : Nat} {es : Array MapEntry} {c : Nat} (h : w.heap[k]? = some (.map es c)) (i : Nat) (s : ByteArray) : w.cell? ⟨k, i, none⟩ ≠ some (.string s) := fun e => by simp [World.cell?, h] at e
/-- Boxes made one by one, whatever they are. -/
def Made (B : Nat) (ns : List Nm) (ps : Bxs) : Prop := ps.map Prod.fst = ns ∧ (∀ (j : Nat) (p : Nm × Nat), ps[j]? = some p → B ≤ p.2) ∧ (ps.map Prod.snd).Pairwise (· < ·)
theorem Built.made {B : Nat} {w : World} {nx : Int} {ns : List Nm} {ps : Bxs} (h : Built B w nx ns ps) : Made B ns ps := ⟨h.1, fun j p hj => (h.2.1 j p hj).1, h.2.2⟩
theorem made_new {B : Nat} {nx : Int} {ns : List Nm} {ps : Bxs} {C : Nat → Bxd} (h : Made B ns ps) {j : Nat} {p : Nm × Nat} (hj : ps[j]? = some p) : withNew B nx ps C p.2 = ⟨nx + (j : Int), 1, []⟩ := by
  have hB := h.2.1 j p hj
  unfold withNew
  rw [if_neg (by omega)]
  obtain ⟨hlt, he⟩ := List.getElem?_eq_some_iff.1 hj
  have h1 : ps.findIdx (fun q => q.2 == p.2) = j := by
    rw [List.findIdx_eq hlt]
    refine ⟨by rw [he]; simp, fun i hi => ?_⟩
    have := List.pairwise_iff_getElem.1 h.2.2 i j (by simp; omega) (by simpa using hlt) hi
    simp only [List.getElem_map] at this
    rw [he] at this
    simp only [beq_eq_false_iff_ne, ne_eq]
    omega
  rw [h1]
/-- Nothing but blocks of one kind was turned. -/
structure Tn (S : Nat → Prop) (w w' : World) : Prop where
  os : w'.os = w.os
  tape : w'.tape = w.tape
  output : w'.output = w.output
  size : w.heap.size ≤ w'.heap.size
  block : ∀ k, k < w.heap.size → ¬ S k → w'.heap[k]? = w.heap[k]?
theorem Tn.of {S : Nat → Prop} {w w' : World} (h : Below w.heap.size w w') : Tn S w w' := ⟨h.os, h.tape, h.output, h.size, fun k hk _ => h.block k hk⟩
theorem Tn.trans {S : Nat → Prop} {a b c : World} (h : Tn S a b) (k : Tn S b c) : Tn S a c := ⟨k.os.trans h.os, k.tape.trans h.tape, k.output.trans h.output, Nat.le_trans h.size k.size, fun j hj hn => (k.block j (Nat.lt_of_lt_of_le hj h.size) hn).trans (h.block j hj hn)⟩
theorem Tn.hk {S : Nat → Prop} {hb mb : Nat} {w w' : World} (h : HK hb mb w w') (h1 : S hb) (h2 : S mb) : Tn S w w' := ⟨h.os, h.tape, h.output, h.size, fun k hk hn => h.block k hk (fun e => hn (e ▸ h1)) (fun e => hn (e ▸ h2))⟩
theorem Tn.but {S : Nat → Prop} {b : Nat} {w w' : World} (h : But w.heap.size b w w') (h1 : S b) : Tn S w w' := ⟨h.os, h.tape, h.output, h.size, fun k hk hn => h.block k hk (fun e => hn (e ▸ h1))⟩
/-- One step more, that turns what is new or of that kind. -/
theorem Tn.butN {S : Nat → Prop} {b : Nat} {w0 w w' : World} (h0 : Tn S w0 w) (h : But w.heap.size b w w') (h1 : S b ∨ w0.heap.size ≤ b) : Tn S w0 w' := ⟨h.os.trans h0.os, h.tape.trans h0.tape, h.output.trans h0.output, Nat.le_trans h0.size h.size, fun k hk hn => (h.block k (Nat.lt_of_lt_of_le hk h0.size) (fun e => by
  rcases h1 with h1 | h1
  · exact hn (e ▸ h1)
  · omega)).trans (h0.block k hk hn)⟩
/-- The blocks of the program's house. -/
def PS (hb mb : Nat) (wv : Value) (l : Bxs) : Nat → Prop := fun k => k = hb ∨ k = mb ∨ wv.ownBlock = some k ∨ ∃ p ∈ l, p.2 = k
end Go.Proofs.YtdmplfflmdanlaaGreatDoor
namespace Go.Proofs.YtdmplfflmdanlaaGreatDoor
open Go.RowKit Go.Proofs.Aid Go.Proofs.Bx Go.Lib

/-- Some name would be too long. -/
def longB (l : Bxs) (N T : Nm) : Bool := (mvNames l N).any fun x => decide (60 < (calledB T N x).length)
end Go.Proofs.YtdmplfflmdanlaaGreatDoor
namespace Go.Proofs
open Go.Shelf
def Tryz.laysIns_ren : Go.Shelf.Ren := ⟨fun | 22 => 132 | 29 => 185 | 30 => 186 | 36 => 223 | 17 => 266 | n => n, fun | 24 => 22 | 9 => 9 | 3 => 3 | 4 => 4 | 0 => 0 | n => n, fun | n => n⟩
theorem Tryz.laysIns : Go.Proofs.Lays2.n22 Tryz.prog Tryz.laysIns_ren := {
  mixed := by kernel_rfl
  f17 := Tryz.func266.trans (congrArg some (by kernel_rfl))
  f22 := Tryz.func132.trans (congrArg some (by kernel_rfl))
  f29 := Tryz.func185.trans (congrArg some (by kernel_rfl))
  f30 := Tryz.func186.trans (congrArg some (by kernel_rfl))
  f36 := Tryz.func223.trans (congrArg some (by kernel_rfl))
  t0 := Tryz.underlying0
  a0 := Tryz.isAgg0
  z0 := Tryz.sizeOf0
  v0 := Tryz.zeroValue0
  t3 := Tryz.underlying3
  a3 := Tryz.isAgg3
  z3 := Tryz.sizeOf3
  v3 := Tryz.zeroValue3
  t4 := Tryz.underlying4
  a4 := Tryz.isAgg4
  z4 := Tryz.sizeOf4
  v4 := Tryz.zeroValue4
  t9 := Tryz.underlying9
  a9 := Tryz.isAgg9
  z9 := Tryz.sizeOf9
  v9 := Tryz.zeroValue9
  t24 := Tryz.underlying22
  a24 := Tryz.isAgg22
  z24 := Tryz.sizeOf22
  v24 := Tryz.zeroValue22
  i9 := by kernel_rfl }
end Go.Proofs
