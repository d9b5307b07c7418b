/-
  What holds of a house whatever is done, plain mathematics, and more.
-/
import Derived.Test.YtfdlopimncodcaaGreatDoorBpRhAdd
namespace Go.Proofs.YtfdlopimncodcaaGreatDoor
open Go.RowKit Go.Proofs.Aid Go.Proofs.Bx
def PlainL (y : Lt) : Prop := y.flags = [] ∧ y.day = 1 ∧ y.text.length ≤ 100
structure GoodBx (K : Nat) (nx : Int) (x : Bxd) : Prop where
  inv : BInv x.n x.ls
  plain : ∀ y ∈ x.ls, PlainL y
  num : 1 ≤ x.v ∧ x.v < nx
  next : x.n ≤ (K : Int) + 1
  len : x.ls.length ≤ K
  most : x.ls.length ≤ 60
theorem GoodBx.more {K K' : Nat} {nx nx' : Int} {x : Bxd} (h : GoodBx K nx x) (hK : K ≤ K') (hn : nx ≤ nx') : GoodBx K' nx' x :=
  ⟨h.inv, h.plain, ⟨h.num.1, by have := h.num.2; omega⟩, by have := h.next; omega, by have := h.len; omega, h.most⟩
theorem good_new {K : Nat} {nx v : Int} (h : 1 ≤ v ∧ v < nx) : GoodBx K nx ⟨v, 1, []⟩ :=
  ⟨⟨List.Pairwise.nil, fun x hx => absurd hx List.not_mem_nil, fun x hx => absurd hx List.not_mem_nil, Int.le_refl _⟩, fun x hx => absurd hx List.not_mem_nil, h, by show (1 : Int) ≤ _; omega, Nat.zero_le _, Nat.zero_le _⟩
structure HI (H K : Nat) (l : Bxs) (nx : Int) (W : List Nm) (C : Nat → Bxd) : Prop where
  sorted : SortedB l
  len : l.length ≤ 30
  wh : Wh l
  nms : NmsOk l
  inbox : hasB l inboxN = true
  wlen : W.length ≤ 60
  wsorted : W.Pairwise (· < ·)
  wnm : ∀ n ∈ W, nameB n = some n
  nxt : 1 ≤ nx ∧ nx ≤ 30 * (K : Int) + 1000
  low : ∀ p ∈ l, H ≤ p.2
  blk : ∀ p ∈ l, ∀ q ∈ l, p.2 = q.2 → p = q
  num : ∀ p ∈ l, ∀ q ∈ l, (C p.2).v = (C q.2).v → p = q
  bx : ∀ p ∈ l, GoodBx K nx (C p.2)
theorem HI.more {H K K' : Nat} {l : Bxs} {nx : Int} {W : List Nm} {C : Nat → Bxd} (h : HI H K l nx W C) (hK : K ≤ K') : HI H K' l nx W C :=
  ⟨h.sorted, h.len, h.wh, h.nms, h.inbox, h.wlen, h.wsorted, h.wnm, ⟨h.nxt.1, by have := h.nxt.2; omega⟩, h.low, h.blk, h.num, fun p hp => (h.bx p hp).more hK (Int.le_refl _)⟩
theorem HI.wants {H K : Nat} {l : Bxs} {nx : Int} {W W' : List Nm} {C : Nat → Bxd} (h : HI H K l nx W C) (h1 : W'.length ≤ 60) (h2 : W'.Pairwise (· < ·)) (h3 : ∀ n ∈ W', nameB n = some n) : HI H K l nx W' C :=
  ⟨h.sorted, h.len, h.wh, h.nms, h.inbox, h1, h2, h3, h.nxt, h.low, h.blk, h.num, h.bx⟩
theorem nameB_len60 {n : Nm} (h : nameB n = some n) : n.length ≤ 60 := (nmOk_of h).len.2
theorem HI.short {H K : Nat} {l : Bxs} {nx : Int} {W : List Nm} {C : Nat → Bxd} (h : HI H K l nx W C) : ∀ p ∈ l, p.1.length ≤ 60 := fun p hp => nameB_len60 (h.nms _ (hasB_true.2 ⟨p.2, hp⟩))
theorem setOk_nil : SetOk [] := ⟨fun s hs => absurd hs List.not_mem_nil, List.Pairwise.nil, by simp⟩
theorem HI.svOk {H K : Nat} {l : Bxs} {nx : Int} {W : List Nm} {C : Nat → Bxd} (h : HI H K l nx W C) (hK : K ≤ 90) : SvOk (svOf l W nx C) where
  len := by simp [svOf, namesB]
  most := by have := h.len; simpa [svOf, namesB] using this
  wmost := h.wlen
  nsorted := List.pairwise_map.2 h.sorted
  wsorted := h.wsorted
  nname := fun n hn => by
    obtain ⟨p, hp, rfl⟩ := List.mem_map.1 hn
    exact h.nms _ (hasB_true.2 ⟨p.2, hp⟩)
  wname := h.wnm
  inbox := by
    obtain ⟨b, hb⟩ := hasB_true.1 h.inbox
    exact List.mem_map.2 ⟨_, hb, rfl⟩
  whole := fun n hn => by
    obtain ⟨p, hp, rfl⟩ := List.mem_map.1 hn
    exact not_hang h.wh (hasB_true.2 ⟨p.2, hp⟩)
  next := ⟨h.nxt.1, by have := h.nxt.2; show nx ≤ _; omega⟩
  boxes := fun x hx => by
    obtain ⟨p, hp, rfl⟩ := List.mem_map.1 hx
    have g := h.bx p hp
    have g1 := g.num
    have g2 := g.next
    have g3 := g.most
    have g4 := h.nxt.2
    refine ⟨?_, g1.2, by omega, fun y hy => ?_⟩
    · have h0 := BInv.right g.inv (by omega) (by omega)
      unfold rightB at h0 ⊢
      have h1 : mayB (C p.2).v = true := by
        unfold mayB
        rw [decide_eq_true g1.1, decide_eq_true (by omega)]
        rfl
      rw [h1]
      simp only [Bool.and_eq_true] at h0 ⊢
      exact ⟨⟨⟨trivial, h0.1.1.2⟩, h0.1.2⟩, h0.2⟩
    · rw [(g.plain y hy).1]
      exact ⟨by simp, fun s hs => absurd hs List.not_mem_nil, by rw [setOk_setOf setOk_nil]; simp⟩
  once := by
    show ((l.map fun p => C p.2).map Bxd.v).Nodup
    rw [List.map_map]
    have hn := h.num
    have hs := h.sorted
    clear h
    induction l with
    | nil => simp
    | cons a l ih =>
      obtain ⟨h1, h2⟩ := List.pairwise_cons.1 hs
      rw [List.map_cons, List.nodup_cons]
      refine ⟨fun hm => ?_, ih (fun p hp q hq => hn p (List.mem_cons_of_mem _ hp) q (List.mem_cons_of_mem _ hq)) h2⟩
      obtain ⟨q, hq, e⟩ := List.mem_map.1 hm
      have e2 := hn q (List.mem_cons_of_mem _ hq) a List.mem_cons_self e
      have := h1 q hq
      rw [e2] at this
      exact List.lt_irrefl _ this
theorem HI.sml {H K : Nat} {l : Bxs} {nx : Int} {W : List Nm} {C : Nat → Bxd} (h : HI H K l nx W C) (_hK : K ≤ 90) : Sml l W C where
  len := h.len
  wlen := h.wlen
  nm := h.short
  ls := fun p hp => by have := (h.bx p hp).most; omega
  fl := fun p hp y hy => by rw [((h.bx p hp).plain y hy).1]; simp
def withNew (B : Nat) (nx : Int) (ps : Bxs) (C : Nat → Bxd) : Nat → Bxd := fun b => if b < B then C b else ⟨nx + ((ps.findIdx fun p => p.2 == b : Nat) : Int), 1, []⟩
theorem withNew_old {B : Nat} {nx : Int} {ps : Bxs} {C : Nat → Bxd} {b : Nat} (h : b < B) : withNew B nx ps C b = C b := if_pos h
theorem withNew_new {B : Nat} {w : World} {nx : Int} {ns : List Nm} {ps : Bxs} {C : Nat → Bxd} (h : Built B w nx ns ps) {j : Nat} {p : Nm × Nat} (hj : ps[j]? = some p) : withNew B nx ps C p.2 = ⟨nx + (j : Int), 1, []⟩ := by
  have hB := (h.2.1 j p hj).1
  unfold withNew
  rw [if_neg (by omega)]
  obtain ⟨hlt, he⟩ := List.getElem?_eq_some_iff.1 hj
  have h1 : ps.findIdx (fun q => q.2 == p.2) = j := by
    rw [List.findIdx_eq hlt]
    refine ⟨by rw [he]; simp, fun i hi => ?_⟩
    have := List.pairwise_iff_getElem.1 h.2.2 i j (by simp; omega) (by simpa using hlt) hi
    simp only [List.getElem_map] at this
    rw [he] at this
    simp only [beq_eq_false_iff_ne, ne_eq]
    omega
  rw [h1]
theorem built_blk {B : Nat} {w : World} {nx : Int} {ns : List Nm} {ps : Bxs} (h : Built B w nx ns ps) {i j : Nat} {p q : Nm × Nat} (hi : ps[i]? = some p) (hj : ps[j]? = some q) (e : p.2 = q.2) : i = j := by
  obtain ⟨h1, e1⟩ := List.getElem?_eq_some_iff.1 hi
  obtain ⟨h2, e2⟩ := List.getElem?_eq_some_iff.1 hj
  rcases Nat.lt_trichotomy i j with h3 | h3 | h3
  · have := List.pairwise_iff_getElem.1 h.2.2 i j (by simpa using h1) (by simpa using h2) h3
    simp only [List.getElem_map] at this
    rw [e1, e2] at this
    omega
  · exact h3
  · have := List.pairwise_iff_getElem.1 h.2.2 j i (by simpa using h2) (by simpa using h1) h3
    simp only [List.getElem_map] at this
    rw [e1, e2] at this
    omega
theorem build_parts {H K B : Nat} {w : World} {l : Bxs} {nx : Int} {W : List Nm} {C : Nat → Bxd} {ns : List Nm} {ps : Bxs} (h : HI H K l nx W C) (hb : Built B w nx ns ps) (hlt : ∀ p ∈ l, p.2 < B) (hH : H ≤ B) (hn : l.length + ns.length ≤ 30) :
    SortedB (putAll l ps) ∧ (putAll l ps).length ≤ 30 ∧ (1 ≤ nx + (ns.length : Int) ∧ nx + (ns.length : Int) ≤ 30 * ((K + 1 : Nat) : Int) + 1000) ∧ (∀ p ∈ putAll l ps, H ≤ p.2) ∧ (∀ p ∈ putAll l ps, ∀ q ∈ putAll l ps, p.2 = q.2 → p = q) ∧
    (∀ p ∈ putAll l ps, ∀ q ∈ putAll l ps, (withNew B nx ps C p.2).v = (withNew B nx ps C q.2).v → p = q) ∧ ∀ p ∈ putAll l ps, GoodBx (K + 1) (nx + (ns.length : Int)) (withNew B nx ps C p.2) := by
  have hlen : ps.length = ns.length := by rw [← hb.1, List.length_map]
  have hcases : ∀ p ∈ putAll l ps, p ∈ l ∨ ∃ j, ps[j]? = some p := fun p hp => (mem_putAll ps l h.sorted hp).imp id fun h1 => List.getElem?_of_mem h1
  have hnx := h.nxt
  refine ⟨putAll_sorted ps l h.sorted, Nat.le_trans (putAll_len l _ ps rfl) (by omega), ⟨by omega, by omega⟩, fun p hp => ?_, fun p hp q hq e => ?_, fun p hp q hq e => ?_, fun p hp => ?_⟩
  · rcases hcases p hp with h1 | ⟨j, h1⟩
    · exact h.low p h1
    · have := (hb.2.1 j p h1).1; omega
  · rcases hcases p hp with h1 | ⟨i, h1⟩
    · rcases hcases q hq with h2 | ⟨j, h2⟩
      · exact h.blk p h1 q h2 e
      · have := (hb.2.1 j q h2).1; have := hlt p h1; omega
    · rcases hcases q hq with h2 | ⟨j, h2⟩
      · have := (hb.2.1 i p h1).1; have := hlt q h2; omega
      · have e1 := built_blk hb h1 h2 e
        rw [e1, h2] at h1
        exact (Option.some.inj h1).symm
  · rcases hcases p hp with h1 | ⟨i, h1⟩
    · rw [withNew_old (hlt p h1)] at e
      rcases hcases q hq with h2 | ⟨j, h2⟩
      · rw [withNew_old (hlt q h2)] at e
        exact h.num p h1 q h2 e
      · rw [withNew_new hb h2] at e
        have e : (C p.2).v = nx + (j : Int) := e
        have := (h.bx p h1).num.2
        omega
    · rw [withNew_new hb h1] at e
      rcases hcases q hq with h2 | ⟨j, h2⟩
      · rw [withNew_old (hlt q h2)] at e
        have e : nx + (i : Int) = (C q.2).v := e
        have := (h.bx q h2).num.2
        omega
      · rw [withNew_new hb h2] at e
        have e : nx + (i : Int) = nx + (j : Int) := e
        obtain rfl : i = j := by omega
        rw [h2] at h1
        exact (Option.some.inj h1).symm
  · rcases hcases p hp with h1 | ⟨i, h1⟩
    · rw [withNew_old (hlt p h1)]
      exact (h.bx p h1).more (by omega) (by omega)
    · rw [withNew_new hb h1]
      have := (List.getElem?_eq_some_iff.1 h1).1
      exact good_new ⟨by omega, by omega⟩
theorem HI.create {H K B : Nat} {w : World} {l : Bxs} {nx : Int} {W : List Nm} {C : Nat → Bxd} {r : Nm} {ps : Bxs} (h : HI H K l nx W C) (hb : Built B w nx (lackB l r ++ [r]) ps) (hlt : ∀ p ∈ l, p.2 < B) (hH : H ≤ B) (hn : l.length + (lackB l r ++ [r]).length ≤ 30) (hr : nameB r = some r) :
    HI H (K + 1) (putAll l ps) (nx + ((lackB l r ++ [r]).length : Int)) W (withNew B nx ps C) := by
  obtain ⟨q1, q2, q3, q4, q5, q6, q7⟩ := build_parts h hb hlt hH hn
  exact ⟨q1, q2, wh_create h.sorted h.wh hb.1, nms_create h.sorted h.nms hr hb.1, (has_putAll ps l h.sorted).2 (Or.inr h.inbox), h.wlen, h.wsorted, h.wnm, q3, q4, q5, q6, q7⟩
theorem HI.delete {H K : Nat} {l : Bxs} {nx : Int} {W : List Nm} {C : Nat → Bxd} {r : Nm} (h : HI H K l nx W C) (h0 : withinB l r = []) (hne : r ≠ inboxN) : HI H K (delB l r) nx W C := by
  have hsub : ∀ p ∈ delB l r, p ∈ l := fun p hp => (List.mem_filter.1 hp).1
  exact ⟨sorted_delB h.sorted r, Nat.le_trans (List.length_filter_le _ _) h.len, wh_delete h.wh h0, nms_delete h.nms, has_delB.2 ⟨fun e => hne e.symm, h.inbox⟩, h.wlen, h.wsorted, h.wnm, h.nxt, fun p hp => h.low p (hsub p hp), fun p hp q hq => h.blk p (hsub p hp) q (hsub q hq), fun p hp q hq => h.num p (hsub p hp) q (hsub q hq), fun p hp => h.bx p (hsub p hp)⟩
theorem HI.move {H K B : Nat} {w : World} {l : Bxs} {nx : Int} {W : List Nm} {C : Nat → Bxd} {N T : Nm} {ps : Bxs} (h : HI H K l nx W C) (hb : Built B w nx (lackB l T) ps) (hlt : ∀ p ∈ l, p.2 < B) (hH : H ≤ B) (hn : l.length + (lackB l T).length ≤ 30) (hr : nameB T = some T)
    (hN : hasB l N = true) (hT : hasB l T = false) (hin : inB T N = false) (hlong : ((mvNames l N).any fun x => decide (60 < (calledB T N x).length)) = false) (hne : N ≠ inboxN) :
    HI H (K + 1) (mvAll T N (mvNames l N) (putAll l ps)) (nx + ((lackB l T).length : Int)) W (withNew B nx ps C) := by
  obtain ⟨q1, q2, q3, q4, q5, q6, q7⟩ := build_parts h hb hlt hH hn
  obtain ⟨_, hmem⟩ := move_mem h.sorted h.wh hN hT hin hb.1
  have hone : ∀ p ∈ mvAll T N (mvNames l N) (putAll l ps), ∃ q ∈ putAll l ps, q.2 = p.2 ∧ ∀ p' ∈ mvAll T N (mvNames l N) (putAll l ps), p'.2 = q.2 → p' = p := fun p hp => by
    have huniq : ∀ {m m' : Nm} {c : Nat}, (m, c) ∈ mvAll T N (mvNames l N) (putAll l ps) → (m', c) ∈ mvAll T N (mvNames l N) (putAll l ps) → m = m' := fun {m m' c} h1 h2 => by
      rcases (hmem m c).1 h1 with ⟨a1, a2⟩ | ⟨x, x1, x2, x3⟩
      · rcases (hmem m' c).1 h2 with ⟨b1, b2⟩ | ⟨y, y1, y2, y3⟩
        · exact congrArg Prod.fst (q5 _ a1 _ b1 rfl)
        · have : m = y := congrArg Prod.fst (q5 _ a1 _ y2 rfl)
          exact absurd (this ▸ y1) a2
      · rcases (hmem m' c).1 h2 with ⟨b1, b2⟩ | ⟨y, y1, y2, y3⟩
        · have : m' = x := congrArg Prod.fst (q5 _ b1 _ x2 rfl)
          exact absurd (this ▸ x1) b2
        · have : x = y := congrArg Prod.fst (q5 _ x2 _ y2 rfl)
          rw [x3, y3, this]
    obtain ⟨m, c⟩ := p
    rcases (hmem m c).1 hp with ⟨a1, _⟩ | ⟨x, _, x2, _⟩
    · exact ⟨_, a1, rfl, fun ⟨m', c'⟩ hp' e => by
        obtain rfl : c' = c := e
        rw [huniq hp' hp]⟩
    · exact ⟨_, x2, rfl, fun ⟨m', c'⟩ hp' e => by
        obtain rfl : c' = c := e
        rw [huniq hp' hp]⟩
  refine ⟨mvAll_sorted _ _ q1, Nat.le_trans (mvAll_le _ _ q1) q2, wh_move h.sorted h.wh hN hT hin hb.1, nms_move h.sorted h.nms h.wh hN hT hin hb.1 hr hlong, inbox_move h.sorted h.wh hN hT hin hb.1 h.inbox hne, h.wlen, h.wsorted, h.wnm, q3, fun p hp => ?_, fun p hp q hq e => ?_, fun p hp q hq e => ?_, fun p hp => ?_⟩
  · obtain ⟨q, hq, e, _⟩ := hone p hp
    rw [← e]
    exact q4 q hq
  · obtain ⟨x, hx, e1, hu⟩ := hone p hp
    exact (hu q hq (by rw [e1]; exact e.symm)).symm
  · obtain ⟨x, hx, e1, hu⟩ := hone p hp
    obtain ⟨y, hy, e2, _⟩ := hone q hq
    rw [← e1, ← e2] at e
    have e3 := q6 x hx y hy e
    exact (hu q hq (by rw [e3]; exact e2.symm)).symm
  · obtain ⟨q, hq, e, _⟩ := hone p hp
    rw [← e]
    exact q7 q hq
def setC (C : Nat → Bxd) (b : Nat) (x : Bxd) : Nat → Bxd := fun c => if c = b then x else C c
theorem setC_same {C : Nat → Bxd} {b : Nat} {x : Bxd} : setC C b x b = x := if_pos rfl
theorem setC_other {C : Nat → Bxd} {b c : Nat} {x : Bxd} (h : c ≠ b) : setC C b x c = C c := if_neg h
theorem setC_twice {C : Nat → Bxd} {b : Nat} {x y : Bxd} : setC (setC C b x) b y = setC C b y := funext fun c => by
  unfold setC
  split <;> rfl
theorem HI.box {H K K' : Nat} {l : Bxs} {nx : Int} {W : List Nm} {C : Nat → Bxd} {n : Nm} {b : Nat} {x : Bxd} (h : HI H K l nx W C) (hK : K ≤ K') (_hb : (n, b) ∈ l) (hv : x.v = (C b).v) (hx : GoodBx K' nx x) : HI H K' l nx W (setC C b x) := by
  have h' := h.more hK
  have hv' : ∀ c, (setC C b x c).v = (C c).v := fun c => by
    by_cases hc : c = b
    · rw [hc, setC_same, hv]
    · rw [setC_other hc]
  refine ⟨h.sorted, h.len, h.wh, h.nms, h.inbox, h.wlen, h.wsorted, h.wnm, h'.nxt, h.low, h.blk, fun p hp q hq e => ?_, fun p hp => ?_⟩
  · rw [hv', hv'] at e
    exact h.num p hp q hq e
  · by_cases hc : p.2 = b
    · rw [hc, setC_same]
      exact hx
    · rw [setC_other hc]
      exact h'.bx p hp
theorem good_append {K : Nat} {nx : Int} {x : Bxd} {t : Nm} (h : GoodBx K nx x) (ht : t.length ≤ 100) (hl : x.ls.length < 60) : GoodBx (K + 1) nx ⟨x.v, x.n + 1, x.ls ++ [⟨x.n, [], 1, t⟩]⟩ := by
  have hs := step_append h.inv (F := []) (day := 1) (t := t) ⟨fun s hs => absurd hs List.not_mem_nil, List.Pairwise.nil, by simp⟩ (by omega) (by omega)
  refine ⟨hs.inv, fun y hy => ?_, h.num, by have := h.next; show x.n + 1 ≤ _; omega, ?_, by rw [List.length_append]; show x.ls.length + 1 ≤ 60; omega⟩
  · rcases List.mem_append.1 hy with h1 | h1
    · exact h.plain y h1
    · rw [List.mem_singleton.1 h1]
      exact ⟨rfl, rfl, ht⟩
  · have := h.len
    rw [List.length_append]
    simpa using this
end Go.Proofs.YtfdlopimncodcaaGreatDoor
namespace Go.Proofs.YtfdlopimncodcaaGreatDoor
open Go.RowKit Go.Proofs.Aid Go.Proofs.Bx
theorem noStr_rhouse {w : World} {hb mb wb : Nat} {l : Bxs} {nx : Int} (h : RHs w hb mb wb l nx) (i : Nat) (s : ByteArray) : w.cell? ⟨hb, i, none⟩ ≠ some (.string s) := fun e => by
  match i with
  | 0 => rw [h.cell.1] at e; cases e
  | 1 => rw [h.cell.2.1] at e; cases e
  | 2 => rw [h.cell.2.2] at e; cases e
  | i + 3 => simp [World.cell?, h.1] at e
theorem noStr_map {w : World} {k : Nat} {es : Array MapEntry} {c : Nat} (h : w.heap[k]? = some (.map es c)) (i : Nat) (s : ByteArray) : w.cell? ⟨k, i, none⟩ ≠ some (.string s) := fun e => by simp [World.cell?, h] at e
theorem RMp.map {w : World} {mb : Nat} {l : Bxs} (h : RMp w mb l) : ∃ es c, w.heap[mb]? = some (.map es c) := by
  obtain ⟨_, D, ⟨es, clock, h2, _⟩, _⟩ := h
  exact ⟨es, clock, h2⟩
theorem RNm.map {w : World} {mb : Nat} {l : Bxs} (h : RNm w mb l) : ∃ es c, w.heap[mb]? = some (.map es c) := by
  obtain ⟨_, D, ⟨es, clock, h2, _⟩, _⟩ := h
  exact ⟨es, clock, h2⟩
theorem noStr_rbox {w : World} {b : Nat} {v n : Int} {lv : Value} {ls : List Lt} (h : RBox w b v n lv ls) (i : Nat) (s : ByteArray) : w.cell? ⟨b, i, none⟩ ≠ some (.string s) := fun e => by
  obtain ⟨h1, a, c, rfl, _⟩ := h
  match i with
  | 0 => rw [rd_cell h1 rfl] at e; cases e
  | 1 => rw [rd_cell h1 rfl] at e; cases e
  | 2 => rw [rd_cell h1 rfl] at e; cases e
  | i + 3 => simp [World.cell?, h1] at e
theorem TxKeep.rhk {w w' : World} {hb mb wb : Nat} {l : Bxs} {nx : Int} (hS : RHs w hb mb wb l nx) (h : HK hb mb w w') : TxKeep w w' := fun g i s hc => by
  refine h.block g (World.block_lt_of_cell? _ _ hc) (fun e => ?_) (fun e => ?_)
  · rw [e] at hc
    exact noStr_rhouse hS i s hc
  · obtain ⟨es, c, h2⟩ := hS.2.map
    rw [e] at hc
    exact noStr_map h2 i s hc
theorem TxKeep.rbut {w w' : World} {b : Nat} {v n : Int} {lv : Value} {ls : List Lt} (hB : RBox w b v n lv ls) (h : But w.heap.size b w w') : TxKeep w w' := fun g i s hc => by
  refine h.block g (World.block_lt_of_cell? _ _ hc) fun e => ?_
  rw [e] at hc
  exact noStr_rbox hB i s hc
theorem RBox.tx {w w' : World} {b : Nat} {v n : Int} {lv : Value} {ls : List Lt} (h : RBox w b v n lv ls) (hb : w'.heap[b]? = w.heap[b]?) (k : TxKeep w w') : RBox w' b v n lv ls := ⟨hb.trans h.1, h.2.tx k⟩
theorem RSt.ne_kind {w : World} {hb mb wb : Nat} {l Wl : Bxs} {nx : Int} {C : Nat → Bxd} (h : RSt w hb mb wb l Wl nx C) : hb ≠ mb ∧ hb ≠ wb ∧ wb ≠ mb := by
  refine ⟨h.rhs.ne, fun e => ?_, fun e => h.ne e.symm⟩
  obtain ⟨es, c, h2⟩ := h.wm.map
  have h1 := h.rhs.1
  rw [e, h2] at h1
  cases h1
theorem RSt.hk {w w' : World} {hb mb wb : Nat} {l l' Wl : Bxs} {nx nx' : Int} {C C' : Nat → Bxd} (h : RSt w hb mb wb l Wl nx C) (hk : HK hb mb w w') (hs : RHs w' hb mb wb l' nx') (hbx : ∀ p ∈ l', ∃ lv, RBox w' p.2 (C' p.2).v (C' p.2).n lv (C' p.2).ls) : RSt w' hb mb wb l' Wl nx' C' :=
  ⟨hs, h.wm.same (hk.block wb h.wm.lt (fun e => h.ne_kind.2.1 e.symm) h.ne_kind.2.2), h.one, hbx, h.ne⟩
theorem RSt.box {w w' : World} {hb mb wb : Nat} {l Wl : Bxs} {nx : Int} {C : Nat → Bxd} (h : RSt w hb mb wb l Wl nx C) (hk : HK hb mb w w') {p : Nm × Nat} (hp : p ∈ l) : ∃ lv, RBox w' p.2 (C p.2).v (C p.2).n lv (C p.2).ls := by
  obtain ⟨lv, h1⟩ := h.bx p hp
  have hne := rhs_kind h.rhs h1.1 (by decide)
  exact ⟨lv, h1.tx (hk.block _ h1.lt hne.1 hne.2) (TxKeep.rhk h.rhs hk)⟩
theorem RSt.old {w : World} {hb mb wb : Nat} {l Wl : Bxs} {nx : Int} {C : Nat → Bxd} (h : RSt w hb mb wb l Wl nx C) : ∀ p ∈ l, p.2 < w.heap.size := fun p hp => by
  obtain ⟨lv, h1⟩ := h.bx p hp
  exact h1.lt
def Made (B : Nat) (ns : List Nm) (ps : Bxs) : Prop := ps.map Prod.fst = ns ∧ (∀ (j : Nat) (p : Nm × Nat), ps[j]? = some p → B ≤ p.2) ∧ (ps.map Prod.snd).Pairwise (· < ·)
theorem RBuilt.made {B : Nat} {w : World} {nx : Int} {ns : List Nm} {ps : Bxs} (h : RBuilt B w nx ns ps) : Made B ns ps := ⟨h.1, fun j p hj => (h.2.1 j p hj).1, h.2.2⟩
theorem Built.made {B : Nat} {w : World} {nx : Int} {ns : List Nm} {ps : Bxs} (h : Built B w nx ns ps) : Made B ns ps := ⟨h.1, fun j p hj => (h.2.1 j p hj).1, h.2.2⟩
theorem made_new {B : Nat} {nx : Int} {ns : List Nm} {ps : Bxs} {C : Nat → Bxd} (h : Made B ns ps) {j : Nat} {p : Nm × Nat} (hj : ps[j]? = some p) : withNew B nx ps C p.2 = ⟨nx + (j : Int), 1, []⟩ := by
  have hB := h.2.1 j p hj
  unfold withNew
  rw [if_neg (by omega)]
  obtain ⟨hlt, he⟩ := List.getElem?_eq_some_iff.1 hj
  have h1 : ps.findIdx (fun q => q.2 == p.2) = j := by
    rw [List.findIdx_eq hlt]
    refine ⟨by rw [he]; simp, fun i hi => ?_⟩
    have := List.pairwise_iff_getElem.1 h.2.2 i j (by simp; omega) (by simpa using hlt) hi
    simp only [List.getElem_map] at this
    rw [he] at this
    simp only [beq_eq_false_iff_ne, ne_eq]
    omega
  rw [h1]
theorem rnew_box {w : World} {b : Nat} {v : Int} (h : RNew w b v) : RBox w b v 1 (.slice none 0 0) [] := ⟨h, Lts.nil w⟩
theorem RSt.built {w w' : World} {hb mb wb : Nat} {l Wl : Bxs} {nx : Int} {C : Nat → Bxd} {ns : List Nm} {ps : Bxs} (h : RSt w hb mb wb l Wl nx C) (hk : HK hb mb w w') (hb' : RBuilt w.heap.size w' nx ns ps) : ∀ p ∈ putAll l ps, ∃ lv, RBox w' p.2 (withNew w.heap.size nx ps C p.2).v (withNew w.heap.size nx ps C p.2).n lv (withNew w.heap.size nx ps C p.2).ls := fun p hp => by
  rcases mem_putAll ps l h.rhs.2.sorted hp with h1 | h1
  · rw [withNew_old (h.old p h1)]
    exact h.box hk h1
  · obtain ⟨j, hj⟩ := List.getElem?_of_mem h1
    rw [made_new hb'.made hj]
    exact ⟨_, rnew_box (hb'.2.1 j p hj).2⟩
theorem RSt.boxed {w w' : World} {hb mb wb : Nat} {l Wl : Bxs} {nx : Int} {C : Nat → Bxd} {n : Nm} {b : Nat} {x : Bxd} {lv : Value} (h : RSt w hb mb wb l Wl nx C) (hp : (n, b) ∈ l) (hB : RBox w' b x.v x.n lv x.ls) (hb' : But w.heap.size b w w') : RSt w' hb mb wb l Wl nx (setC C b x) := by
  obtain ⟨lv0, hbb⟩ := h.bx _ hp
  have htx := TxKeep.rbut hbb hb'
  have hne := rhs_kind h.rhs hbb.1 (by decide)
  have hwb : wb ≠ b := fun e => by
    obtain ⟨es, c, h2⟩ := h.wm.map
    have h3 := hbb.1
    rw [← e] at h3
    have h3 : w.heap[wb]? = some (.cells #[.int .i64 (C b).v, .int .i64 (C b).n, lv0] 84 (0, 0)) := by rw [e]; exact hbb.1
    rw [h2] at h3
    cases h3
  refine ⟨⟨(hb'.block hb h.rhs.lt hne.1.symm).trans h.rhs.1, h.rhs.2.same (hb'.block mb h.rhs.2.lt hne.2.symm)⟩, h.wm.same (hb'.block wb h.wm.lt hwb), h.one, fun p hpl => ?_, h.ne⟩
  by_cases e : p.2 = b
  · rw [e, setC_same]
    exact ⟨lv, hB⟩
  · rw [setC_other e]
    obtain ⟨lv2, h2⟩ := h.bx p hpl
    exact ⟨lv2, h2.tx (hb'.block _ h2.lt e) htx⟩
structure Tn (S : Nat → Prop) (w w' : World) : Prop where
  os : w'.os = w.os
  tape : w'.tape = w.tape
  output : w'.output = w.output
  size : w.heap.size ≤ w'.heap.size
  block : ∀ k, k < w.heap.size → ¬ S k → w'.heap[k]? = w.heap[k]?
theorem Tn.of {S : Nat → Prop} {w w' : World} (h : Below w.heap.size w w') : Tn S w w' := ⟨h.os, h.tape, h.output, h.size, fun k hk _ => h.block k hk⟩
theorem Tn.trans {S : Nat → Prop} {a b c : World} (h : Tn S a b) (k : Tn S b c) : Tn S a c := ⟨k.os.trans h.os, k.tape.trans h.tape, k.output.trans h.output, Nat.le_trans h.size k.size, fun j hj hn => (k.block j (Nat.lt_of_lt_of_le hj h.size) hn).trans (h.block j hj hn)⟩
theorem Tn.hk {S : Nat → Prop} {hb mb : Nat} {w w' : World} (h : HK hb mb w w') (h1 : S hb) (h2 : S mb) : Tn S w w' := ⟨h.os, h.tape, h.output, h.size, fun k hk hn => h.block k hk (fun e => hn (e ▸ h1)) (fun e => hn (e ▸ h2))⟩
theorem Tn.but {S : Nat → Prop} {b : Nat} {w w' : World} (h : But w.heap.size b w w') (h1 : S b) : Tn S w w' := ⟨h.os, h.tape, h.output, h.size, fun k hk hn => h.block k hk (fun e => hn (e ▸ h1))⟩
theorem Tn.butN {S : Nat → Prop} {b : Nat} {w0 w w' : World} (h0 : Tn S w0 w) (h : But w.heap.size b w w') (h1 : S b ∨ w0.heap.size ≤ b) : Tn S w0 w' := ⟨h.os.trans h0.os, h.tape.trans h0.tape, h.output.trans h0.output, Nat.le_trans h0.size h.size, fun k hk hn => (h.block k (Nat.lt_of_lt_of_le hk h0.size) (fun e => by
  rcases h1 with h1 | h1
  · exact hn (e ▸ h1)
  · omega)).trans (h0.block k hk hn)⟩
def DS (hb mb wb : Nat) (l : Bxs) : Nat → Prop := fun k => k = hb ∨ k = mb ∨ k = wb ∨ ∃ p ∈ l, p.2 = k
def PS (hb mb : Nat) (wv : Value) (l : Bxs) : Nat → Prop := fun k => k = hb ∨ k = mb ∨ wv.ownBlock = some k ∨ ∃ p ∈ l, p.2 = k
end Go.Proofs.YtfdlopimncodcaaGreatDoor
namespace Go.Proofs.YtfdlopimncodcaaGreatDoor
open Go.RowKit Go.Proofs.Aid
theorem lack_nodup (l : Bxs) (n : Nm) : (lackB l n).Nodup := by
  unfold lackB lackTo
  rw [List.nodup_iff_pairwise_ne, List.pairwise_map]
  refine List.Pairwise.imp_of_mem ?_ ((List.pairwise_lt_range (n := n.length)).filter _)
  intro a b ha hb hab e
  have h1 := List.mem_range.1 (List.mem_filter.1 ha).1
  have h2 := List.mem_range.1 (List.mem_filter.1 hb).1
  have := congrArg List.length e
  rw [List.length_take, List.length_take] at this
  omega
theorem lackT_nodup (l : Bxs) (n : Nm) : (lackB l n ++ [n]).Nodup := by
  rw [List.nodup_append]
  refine ⟨lack_nodup l n, by simp, fun a ha b hb e => ?_⟩
  obtain ⟨i, h1, _, h3⟩ := mem_lack.1 ha
  rw [List.mem_singleton.1 hb, h3] at e
  have := congrArg List.length e
  have h4 := (List.getElem?_eq_some_iff.1 h1).1
  rw [List.length_take] at this
  omega
theorem lack_new {l : Bxs} {n m : Nm} (h : m ∈ lackB l n) : hasB l m = false := by
  obtain ⟨i, _, h2, h3⟩ := mem_lack.1 h
  rw [h3]
  exact h2
theorem lackT_new {l : Bxs} {n m : Nm} (h0 : hasB l n = false) (h : m ∈ lackB l n ++ [n]) : hasB l m = false := by
  rcases List.mem_append.1 h with h | h
  · exact lack_new h
  · rw [List.mem_singleton.1 h]
    exact h0
theorem mem_putAll_iff {m : Nm} {c : Nat} : ∀ (ps l : Bxs), SortedB l → (ps.map Prod.fst).Nodup → (∀ n ∈ ps.map Prod.fst, hasB l n = false) → ((m, c) ∈ putAll l ps ↔ (m, c) ∈ l ∨ (m, c) ∈ ps)
  | [], l, _, _, _ => by simp [putAll]
  | p :: ps, l, hs, hd, hn => by
    rw [List.map_cons, List.nodup_cons] at hd
    have h0 := hn p.1 List.mem_cons_self
    have ih := mem_putAll_iff (m := m) (c := c) ps (putB p.1 p.2 l) (sorted_putB hs) hd.2 (fun n hm => by
      cases hh : hasB (putB p.1 p.2 l) n with
      | false => rfl
      | true =>
        rcases (has_putB hs).1 hh with e | e
        · exact absurd hm (e ▸ hd.1)
        · rw [hn n (List.mem_cons_of_mem _ hm)] at e; cases e)
    have e1 : putAll l (p :: ps) = putAll (putB p.1 p.2 l) ps := rfl
    rw [e1, ih, mem_putB hs, List.mem_cons]
    constructor
    · rintro ((⟨rfl, rfl⟩ | ⟨_, h⟩) | h)
      · exact Or.inr (Or.inl rfl)
      · exact Or.inl h
      · exact Or.inr (Or.inr h)
    · rintro (h | rfl | h)
      · refine Or.inl (Or.inr ⟨fun e => ?_, h⟩)
        exact hasB_false.1 h0 c (e ▸ h)
      · exact Or.inl (Or.inl ⟨rfl, rfl⟩)
      · exact Or.inr h
theorem built_in {l ps : Bxs} {ns : List Nm} {m : Nm} {c : Nat} (hs : SortedB l) (h1 : ps.map Prod.fst = ns) (hn : ∀ n ∈ ns, hasB l n = false) (hd : ns.Nodup) (h : (m, c) ∈ ps) : (m, c) ∈ putAll l ps :=
  (mem_putAll_iff ps l hs (h1 ▸ hd) (h1 ▸ hn)).2 (Or.inr h)
theorem old_in {l ps : Bxs} {ns : List Nm} {m : Nm} {c : Nat} (hs : SortedB l) (h1 : ps.map Prod.fst = ns) (hn : ∀ n ∈ ns, hasB l n = false) (hd : ns.Nodup) (hm : (m, c) ∈ l) : (m, c) ∈ putAll l ps :=
  (mem_putAll_iff ps l hs (h1 ▸ hd) (h1 ▸ hn)).2 (Or.inl hm)
end Go.Proofs.YtfdlopimncodcaaGreatDoor
