/-
  Who is told all sees all, plain mathematics.
  What the document's view tells, in memory; a message put ahead of others.
  What holds of a box and of a view whatever is done, plain mathematics.
-/
import Derived.Test.YtgpcnacpefficaaGreatDoorMViewLook
import Derived.Test.YtgpcnacpefficaaGreatDoorMBoxInv
import Derived.Test.YtgpcnacpefficaaGreatDoorMRbKnow
namespace Go.Proofs.YtgpcnacpefficaaGreatDoor
open Go.Proofs.Bx

def RiseS (S : List Sg) : Prop := S.Pairwise fun a b => a.uid < b.uid
/-- Whatever a box has is seen, or stands behind all that is. -/
def Seen (l : List Lt) (S : List Sg) : Prop := ∀ x ∈ l, (∃ s ∈ S, s.uid = x.uid) ∨ ∀ s ∈ S, s.uid < x.uid
theorem int_rise_eq : ∀ {a b : List Int}, a.Pairwise (· < ·) → b.Pairwise (· < ·) → (∀ z, z ∈ a ↔ z ∈ b) → a = b
  | [], [], _, _, _ => rfl
  | [], y :: b, _, _, h => absurd ((h y).2 (by simp)) (by simp)
  | x :: a, [], _, _, h => absurd ((h x).1 (by simp)) (by simp)
  | x :: a, y :: b, ha, hb, h => by
    rw [List.pairwise_cons] at ha hb
    have hxy : x = y := by
      rcases List.mem_cons.1 ((h x).1 (by simp)) with e | e
      · exact e
      · rcases List.mem_cons.1 ((h y).2 (by simp)) with e' | e'
        · exact e'.symm
        · have h1 := hb.1 x e
          have h2 := ha.1 y e'
          omega
    subst hxy
    rw [int_rise_eq ha.2 hb.2 fun z => ?_]
    constructor
    · intro hz
      rcases List.mem_cons.1 ((h z).1 (by simp [hz])) with e | e
      · subst e; have := ha.1 z hz; omega
      · exact e
    · intro hz
      rcases List.mem_cons.1 ((h z).2 (by simp [hz])) with e | e
      · subst e; have := hb.1 z hz; omega
      · exact e
theorem rise_count : ∀ {a : List Int} {lo hi : Int}, a.Pairwise (· < ·) → (∀ z ∈ a, lo ≤ z ∧ z < hi) → lo ≤ hi → (a.length : Int) ≤ hi - lo
  | [], lo, hi, _, _, h => by simp; omega
  | x :: a, lo, hi, hp, hb, h => by
    rw [List.pairwise_cons] at hp
    have hx := hb x (by simp)
    have := rise_count (a := a) (lo := x + 1) (hi := hi) hp.2 (fun z hz => ⟨by have := hp.1 z hz; omega, (hb z (by simp [hz])).2⟩) (by omega)
    simp only [List.length_cons]
    omega
theorem riseS_map {S : List Sg} : RiseS S ↔ (S.map Sg.uid).Pairwise (· < ·) := by unfold RiseS; rw [List.pairwise_map]
theorem rise_map {l : List Lt} : Rise l ↔ (l.map Lt.uid).Pairwise (· < ·) := by unfold Rise; rw [List.pairwise_map]
theorem lastS_ge {S : List Sg} (h : RiseS S) : ∀ s ∈ S, s.uid ≤ lastS S := by
  intro s hs
  unfold lastS
  cases hl : S.getLast? with
  | none => rw [List.getLast?_eq_none_iff] at hl; rw [hl] at hs; cases hs
  | some y =>
    obtain ⟨T, rfl⟩ := List.getLast?_eq_some_iff.1 hl
    rcases List.mem_append.1 hs with h1 | h1
    · unfold RiseS at h
      rw [List.pairwise_append] at h
      have := h.2.2 s h1 y (by simp)
      show s.uid ≤ y.uid
      omega
    · rw [List.mem_singleton.1 h1]; exact Int.le_refl _
theorem lastS_lt {S : List Sg} {u : Int} (h : ∀ s ∈ S, s.uid < u) (h0 : 0 < u) : lastS S < u := by
  unfold lastS
  cases hl : S.getLast? with
  | none => exact h0
  | some y => exact h y (List.mem_of_getLast? hl)
theorem newS_mem' {u : Int} {l : List Lt} {x : Lt} (hx : x ∈ l) (h : u < x.uid) : sgOf x ∈ newS u l := List.mem_map_of_mem (List.mem_filter.2 ⟨hx, by simpa using h⟩)
theorem newS_uid {u : Int} {l : List Lt} {s : Sg} (h : s ∈ newS u l) : u < s.uid := by
  obtain ⟨x, hx, rfl⟩ := List.mem_map.1 h
  have := (List.mem_filter.1 hx).2
  show u < x.uid
  simpa using this
theorem newS_rise {u : Int} {l : List Lt} (h : Rise l) : RiseS (newS u l) := by
  unfold RiseS newS
  rw [List.pairwise_map]
  exact List.Pairwise.filter _ h
theorem findB_mem {l : List Lt} {u : Int} : findB l u = true ↔ ∃ x ∈ l, x.uid = u := by
  unfold findB
  rw [List.any_eq_true]
  constructor
  · rintro ⟨x, hx, h⟩; exact ⟨x, hx, by simpa using h⟩
  · rintro ⟨x, hx, h⟩; exact ⟨x, hx, by simpa using h⟩
theorem look1_rise {S : List Sg} {l : List Lt} {g : Bool} (h : RiseS S) : RiseS (lookS1 S l g) := by
  unfold lookS1
  split
  · exact List.Pairwise.filter _ h
  · exact h
theorem look2_rise {S : List Sg} {l : List Lt} {g : Bool} (h : RiseS S) (hr : Rise l) : RiseS (lookS2 S l g) := by
  unfold lookS2 RiseS
  rw [List.pairwise_append]
  refine ⟨look1_rise h, newS_rise hr, fun a ha b hb => ?_⟩
  have h1 := lastS_ge (look1_rise (l := l) (g := g) h) a ha
  have h2 := newS_uid hb
  omega
theorem learn1_uid (l : List Lt) (s : Sg) : (learn1 l s).uid = s.uid := by unfold learn1; split <;> rfl
theorem look_uids (S : List Sg) (l : List Lt) (g : Bool) : (lookS S l g).map Sg.uid = (lookS2 S l g).map Sg.uid := by
  unfold lookS
  rw [List.map_map]
  exact List.map_congr_left fun s _ => learn1_uid l s
theorem look_rise {S : List Sg} {l : List Lt} {g : Bool} (h : RiseS S) (hr : Rise l) : RiseS (lookS S l g) := by
  rw [riseS_map, look_uids, ← riseS_map]
  exact look2_rise h hr
/-- All that a box has is seen. -/
theorem look_covers {n : Int} {S : List Sg} {l : List Lt} {g : Bool} (hs : Seen l S) (hb : BInv n l) {x : Lt} (hx : x ∈ l) : ∃ s ∈ lookS2 S l g, s.uid = x.uid := by
  have hu := hb.uid x hx
  rcases hs x hx with ⟨s, h1, h2⟩ | h1
  · refine ⟨s, List.mem_append_left _ ?_, h2⟩
    unfold lookS1
    split
    · exact List.mem_filter.2 ⟨h1, by show (!(!findB l s.uid)) = true; rw [findB_mem.2 ⟨x, hx, h2.symm⟩]; rfl⟩
    · exact h1
  · exact ⟨sgOf x, List.mem_append_right _ (newS_mem' hx (lastS_lt (fun s hs => h1 s (lookS1_mem S l g s hs)) (by omega))), rfl⟩
theorem look_has {S : List Sg} {l : List Lt} {s : Sg} (h : s ∈ lookS2 S l true) : findB l s.uid = true := by
  rcases List.mem_append.1 h with h1 | h1
  · have := (List.mem_filter.1 h1).2
    simpa using this
  · obtain ⟨x, hx, rfl⟩ := newS_mem h1
    exact findB_mem.2 ⟨x, hx, rfl⟩
theorem look_len {n : Int} {S : List Sg} {l : List Lt} (h : RiseS S) (hs : Seen l S) (hb : BInv n l) : (lookS2 S l true).length = l.length := by
  have : (lookS2 S l true).map Sg.uid = l.map Lt.uid := by
    refine int_rise_eq (riseS_map.1 (look2_rise h hb.rise)) (rise_map.1 hb.rise) fun z => ?_
    rw [List.mem_map, List.mem_map]
    constructor
    · rintro ⟨s, h1, rfl⟩
      obtain ⟨x, hx, h2⟩ := findB_mem.1 (look_has h1)
      exact ⟨x, hx, h2⟩
    · rintro ⟨x, hx, rfl⟩
      exact look_covers hs hb hx
  have := congrArg List.length this
  simpa using this
theorem flagsOf_mem {l : List Lt} (hr : Rise l) {x : Lt} (hx : x ∈ l) : flagsOf l x.uid = some x.flags := by
  have hf := findB_mem.2 ⟨x, hx, rfl⟩
  obtain ⟨y, h1, h2⟩ := flagsOf_some hr hf
  obtain ⟨z, h3, h4⟩ := find_true hr hf
  rw [h1] at h3
  obtain rfl := Option.some.inj h3
  rw [h2]
  obtain ⟨j, hj, rfl⟩ := List.mem_iff_getElem.1 hx
  obtain ⟨k1, k2⟩ := List.getElem?_eq_some_iff.1 h1
  rcases Nat.lt_trichotomy j (findI l l[j].uid) with h5 | h5 | h5
  · have := rise_at hr hj k1 h5; rw [k2] at this; omega
  · have : l[j] = y := by rw [← k2]; congr 1
    rw [this]
  · have := rise_at hr k1 hj h5; rw [k2] at this; omega
theorem learn1_flags {l : List Lt} {s : Sg} {F : List Fl.Tx} (h : flagsOf l s.uid = some F) : (learn1 l s).flags = F := by unfold learn1; rw [h]
theorem learn1_twice (l : List Lt) (s : Sg) : learn1 l (learn1 l s) = learn1 l s := by
  cases h : flagsOf l s.uid with
  | none =>
    have : learn1 l s = s := by unfold learn1; rw [h]
    rw [this, this]
  | some F =>
    have h1 : learn1 l s = ⟨s.uid, F⟩ := by unfold learn1; rw [h]
    rw [h1]
    unfold learn1
    show (match flagsOf l s.uid with | some F => _ | none => _) = _
    rw [h]
theorem learnN_none (l : List Lt) : ∀ (S : List Sg) (k : Nat), (∀ s ∈ S, learn1 l s = s) → learnN l k S = []
  | [], _, _ => rfl
  | s :: S, k, h => by
    rw [learnN, learnN_none l S (k + 1) fun t ht => h t (List.mem_cons_of_mem _ ht), List.append_nil]
    have h1 := h s List.mem_cons_self
    unfold news1
    cases hf : flagsOf l s.uid with
    | none => rfl
    | some F =>
      have := learn1_flags hf
      rw [h1] at this
      exact if_pos this.symm
theorem newS_none {n : Int} {S : List Sg} {l : List Lt} (hS : RiseS S) (hc : ∀ x ∈ l, ∃ s ∈ S, s.uid = x.uid) (_hb : BInv n l) : newS (lastS S) l = [] := by
  unfold newS
  rw [List.map_eq_nil_iff, List.filter_eq_nil_iff]
  intro x hx h
  obtain ⟨s, h1, h2⟩ := hc x hx
  have := lastS_ge hS s h1
  have h : lastS S < x.uid := by simpa using h
  omega
/-- Looked again: nothing is told, and all is as it was. -/
theorem look_again {n : Int} {S : List Sg} {l : List Lt} {g : Bool} (h : RiseS S) (hs : Seen l S) (hb : BInv n l) : lookN (lookS S l g) l g = [] ∧ lookS (lookS S l g) l g = lookS S l g := by
  have hr := look_rise (g := g) h hb.rise
  have hcov : ∀ x ∈ l, ∃ s ∈ lookS S l g, s.uid = x.uid := fun x hx => by
    obtain ⟨s, h1, h2⟩ := look_covers (g := g) hs hb hx
    exact ⟨learn1 l s, List.mem_map_of_mem h1, by rw [learn1_uid]; exact h2⟩
  have hgo : g = true → ∀ s ∈ lookS S l g, findB l s.uid = true := fun hg s hs2 => by
    subst hg
    obtain ⟨t, h1, rfl⟩ := List.mem_map.1 hs2
    rw [learn1_uid]
    exact look_has h1
  have h1 : lookS1 (lookS S l g) l g = lookS S l g := by
    unfold lookS1
    split
    · next hg => exact keepS_all fun s hs2 => by rw [hgo hg s hs2]; rfl
    · rfl
  have h2 : lookN1 (lookS S l g) l g = [] := by
    unfold lookN1
    split
    · next hg =>
      unfold goneN
      rw [List.map_eq_nil_iff, List.filter_eq_nil_iff]
      intro x hx hh
      unfold bk at hx
      obtain ⟨y, hy, rfl⟩ := List.mem_map.1 hx
      have hy2 := List.mem_of_mem_drop (List.mem_reverse.1 hy)
      have hy3 : y.1 ∈ lookS S l g := by
        obtain ⟨a, b⟩ := y
        exact (List.mem_zipIdx hy2).2.2 ▸ List.getElem_mem _
      have := hgo hg y.1 hy3
      simp [this] at hh
    · rfl
  have h3 : newS (lastS (lookS1 (lookS S l g) l g)) l = [] := by rw [h1]; exact newS_none hr hcov hb
  have h4 : lookS2 (lookS S l g) l g = lookS S l g := by unfold lookS2; rw [h3, List.append_nil, h1]
  have h5 : ∀ s ∈ lookS S l g, learn1 l s = s := fun s hs2 => by
    obtain ⟨t, _, rfl⟩ := List.mem_map.1 hs2
    exact learn1_twice l t
  refine ⟨?_, ?_⟩
  · unfold lookN lookN2
    rw [h2, h3, h4, learnN_none l _ 0 h5]
    rfl
  · show (lookS2 (lookS S l g) l g).map (learn1 l) = _
    rw [h4, List.map_congr_left h5, List.map_id']
theorem seen_step {n n' : Int} {l l' : List Lt} {S : List Sg} (h : Seen l S) (hn : ∀ s ∈ S, s.uid < n) (hs : BStep n l n' l') : Seen l' S := fun y hy => by
  rcases hs.old y hy with ⟨x, hx, h1, _⟩ | ⟨h1, _⟩
  · rw [← h1]; exact h x hx
  · exact Or.inr fun s h2 => by have := hn s h2; omega
theorem seen_look {n : Int} {S : List Sg} {l : List Lt} {g : Bool} (hs : Seen l S) (hb : BInv n l) : Seen l (lookS S l g) := fun x hx => by
  obtain ⟨s, h1, h2⟩ := look_covers (g := g) hs hb hx
  exact Or.inl ⟨learn1 l s, List.mem_map_of_mem h1, by rw [learn1_uid]; exact h2⟩
theorem look_below {n : Int} {S : List Sg} {l : List Lt} {g : Bool} (hS : ∀ s ∈ S, 1 ≤ s.uid ∧ s.uid < n) (hb : BInv n l) : ∀ s ∈ lookS S l g, 1 ≤ s.uid ∧ s.uid < n := fun s h => by
  obtain ⟨t, h1, rfl⟩ := List.mem_map.1 h
  rw [learn1_uid]
  rcases List.mem_append.1 h1 with h2 | h2
  · exact hS t (lookS1_mem S l g t h2)
  · obtain ⟨x, hx, rfl⟩ := newS_mem h2
    exact hb.uid x hx
theorem look_flags {n : Int} {S : List Sg} {l : List Lt} {g : Bool} (hS : ∀ s ∈ S, s.flags.length ≤ 12) (hb : BInv n l) : ∀ s ∈ lookS S l g, s.flags.length ≤ 12 := fun s h => by
  obtain ⟨t, h1, rfl⟩ := List.mem_map.1 h
  cases hf : flagsOf l t.uid with
  | none =>
    have : learn1 l t = t := by unfold learn1; rw [hf]
    rw [this]
    rcases List.mem_append.1 h1 with h2 | h2
    · exact hS t (lookS1_mem S l g t h2)
    · obtain ⟨x, hx, rfl⟩ := newS_mem h2
      exact (hb.ok x hx).1.2.2
  | some F =>
    rw [learn1_flags hf]
    unfold flagsOf at hf
    obtain ⟨x, hx, rfl⟩ := Option.map_eq_some_iff.1 hf
    exact (hb.ok x (List.mem_of_find?_eq_some hx)).1.2.2
end Go.Proofs.YtgpcnacpefficaaGreatDoor
namespace Go.Proofs
theorem Tryz.infoRn : (Tryz.prog.info? 104).map (fun i => (i.zero, i.size, i.bytes)) = some (some (.agg #[.int .i64 0, .int .i64 0, .slice none 0 0]), 3, 40) := by kernel_rfl
theorem Tryz.consNil (x : Addr) (w : World) : (Builtin.append_ #[22, 22] 22 #[.slice (some x) 1 1, .slice none 0 0]).run Tryz.prog w = .ok (.slice (some x) 1 1) w := by kernel_rfl
theorem Tryz.consNone (x b : Addr) (c : Nat) (w : World) : (Builtin.append_ #[22, 22] 22 #[.slice (some x) 1 1, .slice (some b) 0 c]).run Tryz.prog w = .ok (.slice (some x) 1 1) w := by kernel_rfl
end Go.Proofs
namespace Go.Proofs.YtgpcnacpefficaaGreatDoor
open Go.RowKit Go.Proofs.Aid Go.Proofs.Bx

/-- A row of news of the call's own; their flags lie where they lay in w0. -/
def RNw (w0 w : World) (base : Nat) (v : Value) (N : List Nw) : Prop := ∃ rows : List (List Value), w.ownsRow base 104 3 v N.length rows.flatten ∧ rows.length = N.length ∧ (∀ (j : Nat) x xs, N[j]? = some x → rows[j]? = some xs → ∃ fv, xs = [.int .i64 x.kind, .int .i64 x.n, fv] ∧ Sl w0 fv x.flags) ∧ ∀ xs ∈ rows, xs.length = 3
theorem RNw.nil (w0 w : World) (base : Nat) : RNw w0 w base (.slice none 0 0) [] := ⟨[], World.ownsRow_nil _ _ _ _, rfl, fun j x xs h => (by simp at h), fun xs h => (by cases h)⟩
theorem RNw.same {w0 w w' : World} {base : Nat} {v : Value} {N : List Nw} (h : RNw w0 w base v N) (hk : ∀ q, base ≤ q → q < w.heap.size → v.ownBlock = some q → w'.heap[q]? = w.heap[q]?) : RNw w0 w' base v N := by
  obtain ⟨rows, h1, h2, h3, h4⟩ := h
  exact ⟨rows, own_same h1 fun q hq => hk q (h1.lt q hq).1 (h1.lt q hq).2 hq, h2, h3, h4⟩
theorem RNw.form {w0 w : World} {base : Nat} {v : Value} {N : List Nw} (h : RNw w0 w base v N) : ∃ a c, v = .slice a N.length c := by
  obtain ⟨rows, h1, _⟩ := h
  rcases h1.2 with ⟨h2, h3⟩ | ⟨g, cap, cur, hv, _⟩
  · exact ⟨none, 0, by rw [h2, h3]⟩
  · exact ⟨_, _, hv⟩
/-- Messages and news lie apart. -/
theorem LOwn.apart {w0 w1 w : World} {base base' : Nat} {v v' : Value} {l : List Lt} {N : List Nw} (h : LOwn w0 w base v l) (h' : RNw w1 w base' v' N) {q : Nat} (hq : v.ownBlock = some q) : v'.ownBlock ≠ some q := by
  obtain ⟨rows, h1, _⟩ := h
  obtain ⟨rows', h2, _⟩ := h'
  exact own_apart (own_lower h1 (Nat.zero_le _)) (own_lower h2 (Nat.zero_le _)) (by decide) hq
theorem RNw.apart {w0 w1 w : World} {base base' : Nat} {v v' : Value} {l : List Lt} {N : List Nw} (h : RNw w0 w base v N) (h' : LOwn w1 w base' v' l) {q : Nat} (hq : v.ownBlock = some q) : v'.ownBlock ≠ some q := by
  obtain ⟨rows, h1, _⟩ := h
  obtain ⟨rows', h2, _⟩ := h'
  exact own_apart (own_lower h1 (Nat.zero_le _)) (own_lower h2 (Nat.zero_le _)) (by decide) hq
/-- One more is told. -/
theorem rnw_push {w0 w : World} {base : Nat} {va : Option Addr} {ca : Nat} {N : List Nw} (h : RNw w0 w base (.slice va N.length ca) N) (hL : N.length ≤ 2000) (x : Nw) (fv : Value) (hf : Sl w0 fv x.flags) (hbase : base ≤ w.heap.size) :
    ∃ g cap W, (Builtin.append_ #[79, 79] 79 #[.slice va N.length ca, .slice (some ⟨w.heap.size, 0, none⟩) 1 1]).run Tryz.prog (w.alloc (.cells #[.int .i64 x.kind, .int .i64 x.n, fv] 104)) = .ok (.slice (some ⟨g, 0, none⟩) (N.length + 1) cap) W ∧
      RNw w0 W base (.slice (some ⟨g, 0, none⟩) (N.length + 1) cap) (N ++ [x]) ∧ (W.os = w.os ∧ W.tape = w.tape ∧ W.output = w.output ∧ w.heap.size ≤ W.heap.size ∧ ∀ q, q < w.heap.size → (Value.slice va N.length ca).ownBlock ≠ some q → W.heap[q]? = w.heap[q]?) := by
  obtain ⟨rows, h1, h2, h3, h4⟩ := h
  obtain ⟨j0, hj, hz, hs, hby⟩ := info_parts Tryz.infoRn
  obtain ⟨fa, fc, hfv, _⟩ := id hf
  have b8 : Below w.heap.size w (w.alloc (.cells #[.int .i64 x.kind, .int .i64 x.n, fv] 104)) := (Below.refl _ _).alloc (Nat.le_refl _) _
  have hnews := World.news_of_block (heap_alloc_new w (.cells #[.int .i64 x.kind, .int .i64 x.n, fv] 104))
  obtain ⟨g9, cap9, W9, hrun, hown9, hg9, hor9, hlt9⟩ := run_append_lies (P := Tryz.prog) (w.alloc (.cells #[.int .i64 x.kind, .int .i64 x.n, fv] 104)) 79 79 base 104 j0 (.agg #[.int .i64 0, .int .i64 0, .slice none 0 0]) 3 40 Tryz.underlying79 hj hz hs hby rfl (by decide) (.slice va N.length ca) N.length _ (h1.alloc _) ⟨w.heap.size, 0, none⟩ 1 1 [.int .i64 x.kind, .int .i64 x.n, fv] rfl (by simpa using hnews) (by rw [hfv]; simp [Value.oneCell']) (by decide) (by unfold maxLen; omega) (by omega) (by simp; omega) _ rfl
  have hz8 := b8.size
  refine ⟨g9, cap9, W9, hrun, ⟨rows ++ [[.int .i64 x.kind, .int .i64 x.n, fv]], ?_, by simp [h2], fun j y ys hj hy => ?_, fun ys hy => ?_⟩, ⟨hg9.os.trans b8.os, hg9.tape.trans b8.tape, hg9.output.trans b8.output, Nat.le_trans hz8 hg9.size, fun q hq hne => (hg9.block q (by omega) (fun e => hne e.symm)).trans (b8.block q hq)⟩⟩
  · rw [List.length_append, List.flatten_append, List.flatten_cons, List.flatten_nil, List.append_nil]
    exact hown9
  · by_cases hjl : j < N.length
    · rw [List.getElem?_append_left hjl] at hj
      rw [List.getElem?_append_left (by omega)] at hy
      exact h3 j y ys hj hy
    · have : j < (N ++ [x]).length := (List.getElem?_eq_some_iff.1 hj).1
      obtain rfl : j = N.length := by simp at this; omega
      rw [List.getElem?_append_right (Nat.le_refl _), Nat.sub_self] at hj
      rw [List.getElem?_append_right (by omega), h2, Nat.sub_self] at hy
      obtain rfl : x = y := by simpa using hj
      obtain rfl := Option.some.inj hy
      exact ⟨fv, rfl, hf⟩
  · rcases List.mem_append.1 hy with h | h
    · exact h4 ys h
    · rw [List.mem_singleton.1 h]; rfl
/-- A message is put ahead of a row. -/
theorem lown_cons {w0 w : World} {base : Nat} {v : Value} {l : List Lt} (h : LOwn w0 w base v l) (hl : l.length ≤ 999) (x : Lt) (fv : Value) (hf : Sl w0 fv x.flags) (hbase : base ≤ w.heap.size) :
    ∃ g cap W, (Builtin.append_ #[22, 22] 22 #[.slice (some ⟨w.heap.size, 0, none⟩) 1 1, v]).run Tryz.prog (w.alloc (.cells #[.int .i64 x.uid, fv, .int .i64 x.day, .string ⟨x.text.toArray⟩] 51)) = .ok (.slice (some ⟨g, 0, none⟩) (l.length + 1) cap) W ∧
      LOwn w0 W base (.slice (some ⟨g, 0, none⟩) (l.length + 1) cap) (x :: l) ∧ Below w.heap.size w W := by
  have b8 : Below w.heap.size w (w.alloc (.cells #[.int .i64 x.uid, fv, .int .i64 x.day, .string ⟨x.text.toArray⟩] 51)) := (Below.refl _ _).alloc (Nat.le_refl _) _
  have e8 := heap_alloc_new w (.cells #[.int .i64 x.uid, fv, .int .i64 x.day, .string ⟨x.text.toArray⟩] 51)
  have hone : LOwn w0 (w.alloc (.cells #[.int .i64 x.uid, fv, .int .i64 x.day, .string ⟨x.text.toArray⟩] 51)) base (.slice (some ⟨w.heap.size, 0, none⟩) 1 1) [x] :=
    ⟨[[.int .i64 x.uid, fv, .int .i64 x.day, .string ⟨x.text.toArray⟩]], ⟨rfl, Or.inr ⟨w.heap.size, 1, _, rfl, hbase, e8, Nat.le_refl _, by unfold maxLen; omega, rfl, rfl⟩⟩, rfl, fun j y ys hj hy => by
      cases j with
      | zero =>
        obtain rfl : x = y := by simpa using hj
        obtain rfl := Option.some.inj hy
        exact ⟨fv, rfl, hf⟩
      | succ j => simp at hj, fun ys hy => by rw [List.mem_singleton.1 hy]; rfl⟩
  by_cases hl0 : l = []
  · subst hl0
    obtain ⟨a, c, rfl⟩ := h.form
    cases a with
    | none =>
      obtain ⟨rows, h1, _⟩ := h
      have hc : c = 0 := by
        rcases h1.2 with ⟨h2, _⟩ | ⟨g, cap, cur, hv, _⟩
        · injection h2
        · cases hv
      subst hc
      exact ⟨_, 1, _, Tryz.consNil _ _, hone, b8⟩
    | some ad => exact ⟨_, 1, _, Tryz.consNone _ ad c _, hone, b8⟩
  · obtain ⟨rows, h1, h2, h3, h4⟩ := id h
    obtain ⟨j0, hj, hz, hs, hby⟩ := info_parts Tryz.infoLt
    have hlp : 0 < l.length := List.length_pos_iff.2 hl0
    rcases h1.2 with ⟨_, h0⟩ | ⟨g, cap, cur, rfl, hg, hh, _⟩
    · omega
    have hgl := (Array.getElem?_eq_some_iff.1 hh).1
    obtain ⟨fa, fc, hfv, _⟩ := id hf
    obtain ⟨v', W, hrun, hown, hgr⟩ := run_append_arg_grows (P := Tryz.prog) (w := w.alloc (.cells #[.int .i64 x.uid, fv, .int .i64 x.day, .string ⟨x.text.toArray⟩] 51)) 22 22 51 j0 (.agg #[.int .i64 0, .slice none 0 0, .int .i64 0, .string ⟨#[]⟩]) 4 56 Tryz.underlying22 hj hz hs hby rfl (by decide) ⟨w.heap.size, 0, none⟩ 1 1 [.int .i64 x.uid, fv, .int .i64 x.day, .string ⟨x.text.toArray⟩] rfl (fun j u hu => by rw [Addr.add_lit, Nat.zero_add]; exact rd_cell e8 (by simpa using hu)) ⟨g, 0, none⟩ l.length cap rows.flatten (by rw [flat4_len h4, h2]) (fun k u hk => by
      rw [Addr.add_lit, Nat.zero_add]
      have hk4 : k < l.length * 4 := by have := (List.getElem?_eq_some_iff.1 hk).1; rw [flat4_len h4, h2] at this; exact this
      have h9 : w.cell? ⟨g, k, none⟩ = some u := by rw [h1.cellAt k hk4]; exact hk
      exact (b8.cell (p := ⟨g, _, none⟩) hgl).trans h9) (by omega) (by unfold maxLen; omega) (by omega)
    have hz8 := b8.size
    have hown2 : W.ownsRow base 51 4 v' (l.length + 1) ([.int .i64 x.uid, fv, .int .i64 x.day, .string ⟨x.text.toArray⟩] ++ rows.flatten) := by
      rw [Nat.add_comm]
      exact own_lower hown (by omega)
    obtain ⟨g9, cap9, rfl⟩ := row_some hown2 (by omega)
    refine ⟨g9, cap9, W, hrun, ⟨[.int .i64 x.uid, fv, .int .i64 x.day, .string ⟨x.text.toArray⟩] :: rows, hown2, by simp [h2], fun j y ys hj hy => ?_, fun ys hy => ?_⟩, ⟨hgr.os.trans b8.os, hgr.tape.trans b8.tape, hgr.output.trans b8.output, Nat.le_trans hz8 hgr.size, fun k hk => (hgr.block k (by omega) (by simp)).trans (b8.block k hk)⟩⟩
    · cases j with
      | zero =>
        obtain rfl : x = y := by simpa using hj
        obtain rfl := Option.some.inj hy
        exact ⟨fv, rfl, hf⟩
      | succ j => exact h3 j y ys (by simpa using hj) (by simpa using hy)
    · rcases List.mem_cons.1 hy with rfl | h
      · rfl
      · exact h4 ys h
/-- Which ones a Look does not see any more. -/
def goneP (l : List Lt) (gone : Bool) (u : Int) : Bool := gone && !findB l u
theorem look1_keep (S : List Sg) (l : List Lt) (gone : Bool) : lookS1 S l gone = keepS (goneP l gone) S := by
  unfold lookS1 keepS goneP
  cases gone with
  | true => simp
  | false =>
    rw [if_neg (by simp)]
    exact (List.filter_eq_self.2 fun _ _ => by simp).symm
theorem lookN1_gone (S : List Sg) (l : List Lt) (gone : Bool) : lookN1 S l gone = goneN (goneP l gone) (bk S 0) := by
  unfold lookN1 goneN goneP
  cases gone with
  | true => simp
  | false =>
    rw [if_neg (by simp)]
    symm
    rw [List.map_eq_nil_iff, List.filter_eq_nil_iff]
    intro a _
    simp
theorem keepS_drop {p : Int → Bool} {S : List Sg} {k : Nat} {s : Sg} (h : S[k]? = some s) : keepS p (S.drop k) = (if p s.uid = true then [] else [s]) ++ keepS p (S.drop (k + 1)) := by
  have hk := (List.getElem?_eq_some_iff.1 h).1
  unfold keepS
  rw [List.drop_eq_getElem_cons hk, (List.getElem?_eq_some_iff.1 h).2, List.filter_cons]
  by_cases hp : p s.uid = true <;> simp [hp]
theorem new_learn {l : List Lt} (hr : Rise l) (u : Int) : ∀ s ∈ newS u l, learn1 l s = s := fun s hs => by
  unfold newS at hs
  obtain ⟨x, hx, rfl⟩ := List.mem_map.1 hs
  unfold learn1
  rw [show (sgOf x).uid = x.uid from rfl, flagsOf_mem hr (List.mem_filter.1 hx).1]
  rfl
theorem lookS_is (S : List Sg) {l : List Lt} (hr : Rise l) (gone : Bool) : lookS S l gone = (lookS1 S l gone).map (learn1 l) ++ newS (lastS (lookS1 S l gone)) l := by
  unfold lookS lookS2
  rw [List.map_append]
  congr 1
  conv => rhs; rw [← List.map_id (newS (lastS (lookS1 S l gone)) l)]
  exact List.map_congr_left fun s hs => new_learn hr _ s hs
theorem lookN_is (S : List Sg) {l : List Lt} (hr : Rise l) (gone : Bool) : lookN S l gone = lookN2 S l gone ++ learnN l 0 (lookS1 S l gone) := by
  unfold lookN
  rw [show lookS2 S l gone = lookS1 S l gone ++ newS (lastS (lookS1 S l gone)) l from rfl, learnN_append, learnN_none l _ _ (new_learn hr _), List.append_nil]
end Go.Proofs.YtgpcnacpefficaaGreatDoor
namespace Go.Proofs.YtgpcnacpefficaaGreatDoor
open Go.Proofs.Bx

/-- A box as it may be here. -/
structure PInv (n : Int) (l : List Lt) : Prop where
  rise : Rise l
  uid : ∀ x ∈ l, 1 ≤ x.uid ∧ x.uid < n
  ok : ∀ x ∈ l, SetOk x.flags
  next : 1 ≤ n ∧ n ≤ 2147483647
  len : l.length ≤ 60
theorem pinv_of {v n : Int} {l : List Lt} (h : rightB v n l = true) : PInv n l := by
  unfold rightB mayB at h
  simp only [Bool.and_eq_true, decide_eq_true_eq] at h
  obtain ⟨⟨⟨_, hn⟩, hl⟩, hr⟩ := h
  have hall : ∀ {l : List Lt} {last : Int}, riseB n last l = true → Rise l ∧ (∀ x ∈ l, last < x.uid ∧ x.uid < n) ∧ ∀ x ∈ l, SetOk x.flags := by
    intro l
    induction l with
    | nil => exact fun _ => ⟨List.Pairwise.nil, fun _ h => (by cases h), fun _ h => (by cases h)⟩
    | cons x r ih =>
      intro last h
      rw [riseB] at h
      simp only [Bool.and_eq_true, decide_eq_true_eq] at h
      obtain ⟨⟨⟨h1, h2⟩, h3⟩, h4⟩ := h
      obtain ⟨i1, i2, i3⟩ := ih h4
      unfold okLt at h3
      simp only [Bool.and_eq_true, decide_eq_true_eq] at h3
      have hok : SetOk x.flags := by
        have := setOf_ok h3.1.1.1
        rw [h3.1.1.2] at this
        exact this
      refine ⟨List.pairwise_cons.2 ⟨fun y hy => (i2 y hy).1, i1⟩, fun y hy => ?_, fun y hy => ?_⟩
      · rcases List.mem_cons.1 hy with rfl | hy
        · exact ⟨h1, h2⟩
        · have := i2 y hy; omega
      · rcases List.mem_cons.1 hy with rfl | hy
        · exact hok
        · exact i3 y hy
  obtain ⟨r1, r2, r3⟩ := hall hr
  exact ⟨r1, fun x hx => by have := r2 x hx; omega, r3, hn, hl⟩
theorem pinv_append {n : Int} {l : List Lt} (h : PInv n l) {F : List Fl.Tx} {day : Int} {t : Fl.Tx} (hF : SetOk F) (hl : l.length < 60) (hn : n < 2147483647) : PInv (n + 1) (l ++ [⟨n, F, day, t⟩]) := by
  refine ⟨?_, fun x hx => ?_, fun x hx => ?_, by have := h.next; omega, by simp; omega⟩
  · unfold Rise
    rw [List.pairwise_append]
    refine ⟨h.rise, by simp, fun a ha b hb => ?_⟩
    rw [List.mem_singleton.1 hb]
    exact (h.uid a ha).2
  · rcases List.mem_append.1 hx with h1 | h1
    · have := h.uid x h1; omega
    · rw [List.mem_singleton.1 h1]; have := h.next; exact ⟨this.1, by show n < n + 1; omega⟩
  · rcases List.mem_append.1 hx with h1 | h1
    · exact h.ok x h1
    · rw [List.mem_singleton.1 h1]; exact hF
theorem set_uids {l : List Lt} {i : Nat} {x : Lt} (hx : l[i]? = some x) (G : List Fl.Tx) : (l.set i (Lt.withF x G)).map Lt.uid = l.map Lt.uid := by
  have hi := (List.getElem?_eq_some_iff.1 hx).1
  rw [List.map_set]
  apply List.ext_getElem?
  intro j
  rw [List.getElem?_set]
  by_cases hj : i = j
  · subst hj
    rw [if_pos rfl, if_pos (by simpa using hi), List.getElem?_map, hx]
    rfl
  · rw [if_neg hj]
theorem pinv_flag {n : Int} {l : List Lt} (h : PInv n l) {i : Nat} {x : Lt} (hx : l[i]? = some x) {G : List Fl.Tx} (hG : SetOk G) : PInv n (l.set i (Lt.withF x G)) := by
  have hxm := List.mem_of_getElem? hx
  have hmem : ∀ y ∈ l.set i (Lt.withF x G), y ∈ l ∨ y = Lt.withF x G := fun y hy => List.mem_or_eq_of_mem_set hy
  refine ⟨?_, fun y hy => ?_, fun y hy => ?_, h.next, by rw [List.length_set]; exact h.len⟩
  · rw [rise_map, set_uids hx, ← rise_map]
    exact h.rise
  · rcases hmem y hy with h1 | rfl
    · exact h.uid y h1
    · exact h.uid x hxm
  · rcases hmem y hy with h1 | rfl
    · exact h.ok y h1
    · exact hG
theorem pinv_stay {n : Int} {l : List Lt} (h : PInv n l) (p : Int → Bool) : PInv n (stay p l) := by
  have hm : ∀ y ∈ stay p l, y ∈ l := fun y hy => (List.mem_filter.1 hy).1
  exact ⟨List.Pairwise.filter _ h.rise, fun y hy => h.uid y (hm y hy), fun y hy => h.ok y (hm y hy), h.next, Nat.le_trans (stay_le p l) h.len⟩
/-- A view as it may be here, behind so many deeds. -/
structure VInv (l : List Lt) (S : List Sg) (i : Nat) : Prop where
  rise : RiseS S
  flags : ∀ s ∈ S, s.flags.length ≤ 1000
  len : S.length + (newS (lastS S) l).length ≤ 60 + i
theorem newS_len (u : Int) (l : List Lt) : (newS u l).length = ((l.map Lt.uid).filter fun z => decide (u < z)).length := by
  unfold newS
  rw [List.length_map, List.filter_map, List.length_map]
  rfl
theorem vinv_uids {l l' : List Lt} {S : List Sg} {i : Nat} (h : VInv l S i) (hu : l'.map Lt.uid = l.map Lt.uid) : VInv l' S (i + 1) :=
  ⟨h.rise, h.flags, by have := h.len; rw [newS_len] at this ⊢; rw [hu]; omega⟩
theorem vinv_append {l : List Lt} {S : List Sg} {i : Nat} (h : VInv l S i) (x : Lt) : VInv (l ++ [x]) S (i + 1) :=
  ⟨h.rise, h.flags, by
    have := h.len
    rw [newS_len] at this ⊢
    rw [List.map_append, List.filter_append, List.length_append]
    have h2 : (((([x] : List Lt).map Lt.uid).filter fun z => decide (lastS S < z))).length ≤ 1 := List.length_filter_le _ _
    omega⟩
theorem vinv_stay {l : List Lt} {S : List Sg} {i : Nat} (h : VInv l S i) (p : Int → Bool) : VInv (stay p l) S (i + 1) :=
  ⟨h.rise, h.flags, by
    have := h.len
    unfold newS stay at *
    rw [List.length_map] at this ⊢
    have h2 : ((l.filter fun x => !(Fl.hasF x.flags [92, 68, 101, 108, 101, 116, 101, 100] && p x.uid)).filter fun x => decide (lastS S < x.uid)).length ≤ (l.filter fun x => decide (lastS S < x.uid)).length := by
      exact (List.Sublist.filter _ List.filter_sublist).length_le
    omega⟩
theorem VInv.more {l : List Lt} {S : List Sg} {i : Nat} (h : VInv l S i) : VInv l S (i + 1) := ⟨h.rise, h.flags, by have := h.len; omega⟩
theorem know_uids (u : Int) (F : List Fl.Tx) (S : List Sg) : (S.map (know1 u F)).map Sg.uid = S.map Sg.uid := by
  rw [List.map_map]
  refine List.map_congr_left fun s _ => ?_
  show (know1 u F s).uid = s.uid
  unfold know1
  split <;> rfl
theorem lastS_uids {S T : List Sg} (h : S.map Sg.uid = T.map Sg.uid) : lastS S = lastS T := by
  have hl : ∀ U : List Sg, lastS U = match (U.map Sg.uid).getLast? with | some z => z | none => 0 := fun U => by
    unfold lastS
    rw [List.getLast?_map]
    cases U.getLast? <;> rfl
  rw [hl, hl, h]
theorem vinv_know {l : List Lt} {S : List Sg} {i : Nat} (h : VInv l S i) (u : Int) (F : List Fl.Tx) (hF : F.length ≤ 1000) : VInv l (S.map (know1 u F)) (i + 1) :=
  ⟨by rw [riseS_map, know_uids, ← riseS_map]; exact h.rise, fun s hs => by
    obtain ⟨t, ht, rfl⟩ := List.mem_map.1 hs
    unfold know1
    split
    · exact hF
    · exact h.flags t ht, by have := h.len; rw [lastS_uids (know_uids u F S), List.length_map]; omega⟩
theorem look_none {n : Int} {l : List Lt} {S : List Sg} {g : Bool} (hS : RiseS S) (hl : PInv n l) : newS (lastS (lookS S l g)) l = [] := by
  rw [lastS_uids (look_uids S l g)]
  unfold newS
  rw [List.map_eq_nil_iff, List.filter_eq_nil_iff]
  intro x hx
  have h2 := look2_rise (g := g) hS hl.rise
  have hge := lastS_ge h2
  have hx1 := (hl.uid x hx).1
  have hle : x.uid ≤ lastS (lookS2 S l g) := by
    by_cases hn : lastS (lookS1 S l g) < x.uid
    · exact hge (sgOf x) (by unfold lookS2; exact List.mem_append_right _ (newS_mem' hx hn))
    · cases hs : (lookS1 S l g).getLast? with
      | none =>
        have : lastS (lookS1 S l g) = 0 := by unfold lastS; rw [hs]
        omega
      | some s =>
        have h3 : lastS (lookS1 S l g) = s.uid := by unfold lastS; rw [hs]
        have h4 := hge s (by unfold lookS2; exact List.mem_append_left _ (List.mem_of_getLast? hs))
        omega
  simpa using hle
theorem look_gone_len {n : Int} {l : List Lt} {S : List Sg} (hS : RiseS S) (hl : PInv n l) : (lookS S l true).length ≤ 60 := by
  have h1 : (lookS S l true).length = ((lookS2 S l true).map Sg.uid).length := by rw [← look_uids, List.length_map]
  rw [h1]
  have h2 : (lookS2 S l true).map Sg.uid = (l.map Lt.uid).filter fun z => decide (z ∈ (lookS2 S l true).map Sg.uid) := by
    refine int_rise_eq (riseS_map.1 (look2_rise hS hl.rise)) (List.Pairwise.filter _ (rise_map.1 hl.rise)) fun z => ?_
    rw [List.mem_filter]
    constructor
    · intro hz
      obtain ⟨s, hs, rfl⟩ := List.mem_map.1 hz
      obtain ⟨x, hx, hxu⟩ := findB_mem.1 (look_has hs)
      exact ⟨List.mem_map.2 ⟨x, hx, hxu⟩, by simpa using ⟨s, hs, rfl⟩⟩
    · intro hz
      simpa using hz.2
  rw [h2]
  exact Nat.le_trans (List.length_filter_le _ _) (by rw [List.length_map]; exact hl.len)
theorem vinv_look {n : Int} {l : List Lt} {S : List Sg} {i : Nat} (h : VInv l S i) (hl : PInv n l) (g : Bool) : VInv l (lookS S l g) (i + 1) := by
  refine ⟨look_rise h.rise hl.rise, fun s hs => ?_, ?_⟩
  · unfold lookS at hs
    obtain ⟨t, ht, rfl⟩ := List.mem_map.1 hs
    have ht2 : t.flags.length ≤ 1000 := by
      unfold lookS2 at ht
      rcases List.mem_append.1 ht with h1 | h1
      · refine h.flags t ?_
        unfold lookS1 at h1
        split at h1
        · exact (List.mem_filter.1 h1).1
        · exact h1
      · unfold newS at h1
        obtain ⟨x, hx, rfl⟩ := List.mem_map.1 h1
        have := (hl.ok x (List.mem_filter.1 hx).1).2.2
        show x.flags.length ≤ 1000
        omega
    unfold learn1
    cases hf : flagsOf l t.uid with
    | none => exact ht2
    | some F =>
      unfold flagsOf at hf
      obtain ⟨x, hx, rfl⟩ := Option.map_eq_some_iff.1 hf
      have := (hl.ok x (List.mem_of_find?_eq_some hx)).2.2
      show x.flags.length ≤ 1000
      omega
  · rw [look_none h.rise hl]
    cases g with
    | true => have := look_gone_len h.rise hl; simp; omega
    | false =>
      have h1 : (lookS S l false).length = (lookS2 S l false).length := by unfold lookS; rw [List.length_map]
      have h2 : lookS2 S l false = S ++ newS (lastS S) l := rfl
      rw [h1, h2, List.length_append]
      have := h.len
      simp
      omega
theorem vinv_open {n : Int} {l : List Lt} (hl : PInv n l) : VInv l (l.map sgOf) 0 ∧ newS 0 l = l.map sgOf := by
  have hn : newS 0 l = l.map sgOf := by
    unfold newS
    rw [List.filter_eq_self.2 fun x hx => by have := (hl.uid x hx).1; simpa using (by omega : 0 < x.uid)]
  have hr : RiseS (l.map sgOf) := by
    rw [riseS_map, List.map_map]
    exact rise_map.1 hl.rise
  refine ⟨⟨hr, fun s hs => ?_, ?_⟩, hn⟩
  · obtain ⟨x, hx, rfl⟩ := List.mem_map.1 hs
    have := (hl.ok x hx).2.2
    show x.flags.length ≤ 1000
    omega
  · have : newS (lastS (l.map sgOf)) l = [] := by
      unfold newS
      rw [List.map_eq_nil_iff, List.filter_eq_nil_iff]
      intro x hx
      have : x.uid ≤ lastS (l.map sgOf) := lastS_ge hr (sgOf x) (List.mem_map_of_mem hx)
      simpa using this
    rw [this, List.length_map]
    have := hl.len
    simp
    omega
end Go.Proofs.YtgpcnacpefficaaGreatDoor
