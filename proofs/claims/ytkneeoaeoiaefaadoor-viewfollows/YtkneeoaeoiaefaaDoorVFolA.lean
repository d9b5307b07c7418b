/-
  Who is told all sees all, plain mathematics.
  Who takes what is told, one by one: plain mathematics.
  Flags as they were told, in memory: a row of slices of texts.
  The numbers that a view sees: Uids.
  A box, a view, and what was told, in memory.
-/
import Derived.Test.YtkneeoaeoiaefaaDoorVLook
import Derived.Test.YtkneeoaeoiaefaaDoorBoxInv
import Derived.Test.YtkneeoaeoiaefaaDoorViewMem
import Derived.Test.YtkneeoaeoiaefaaDoorBoxExp
namespace Go.Proofs.YtkneeoaeoiaefaaDoor
open Go.Proofs.Bx

def RiseS (S : List Sg) : Prop := S.Pairwise fun a b => a.uid < b.uid
/-- Whatever a box has is seen, or stands behind all that is. -/
def Seen (l : List Lt) (S : List Sg) : Prop := ∀ x ∈ l, (∃ s ∈ S, s.uid = x.uid) ∨ ∀ s ∈ S, s.uid < x.uid
theorem int_rise_eq : ∀ {a b : List Int}, a.Pairwise (· < ·) → b.Pairwise (· < ·) → (∀ z, z ∈ a ↔ z ∈ b) → a = b
  | [], [], _, _, _ => rfl
  | [], y :: b, _, _, h => absurd ((h y).2 (by simp)) (by simp)
  | x :: a, [], _, _, h => absurd ((h x).1 (by simp)) (by simp)
  | x :: a, y :: b, ha, hb, h => by
    rw [List.pairwise_cons] at ha hb
    have hxy : x = y := by
      rcases List.mem_cons.1 ((h x).1 (by simp)) with e | e
      · exact e
      · rcases List.mem_cons.1 ((h y).2 (by simp)) with e' | e'
        · exact e'.symm
        · have h1 := hb.1 x e
          have h2 := ha.1 y e'
          omega
    subst hxy
    rw [int_rise_eq ha.2 hb.2 fun z => ?_]
    constructor
    · intro hz
      rcases List.mem_cons.1 ((h z).1 (by simp [hz])) with e | e
      · subst e; have := ha.1 z hz; omega
      · exact e
    · intro hz
      rcases List.mem_cons.1 ((h z).2 (by simp [hz])) with e | e
      · subst e; have := hb.1 z hz; omega
      · exact e
theorem rise_count : ∀ {a : List Int} {lo hi : Int}, a.Pairwise (· < ·) → (∀ z ∈ a, lo ≤ z ∧ z < hi) → lo ≤ hi → (a.length : Int) ≤ hi - lo
  | [], lo, hi, _, _, h => by simp; omega
  | x :: a, lo, hi, hp, hb, h => by
    rw [List.pairwise_cons] at hp
    have hx := hb x (by simp)
    have := rise_count (a := a) (lo := x + 1) (hi := hi) hp.2 (fun z hz => ⟨by have := hp.1 z hz; omega, (hb z (by simp [hz])).2⟩) (by omega)
    simp only [List.length_cons]
    omega
theorem riseS_map {S : List Sg} : RiseS S ↔ (S.map Sg.uid).Pairwise (· < ·) := by unfold RiseS; rw [List.pairwise_map]
theorem rise_map {l : List Lt} : Rise l ↔ (l.map Lt.uid).Pairwise (· < ·) := by unfold Rise; rw [List.pairwise_map]
theorem lastS_ge {S : List Sg} (h : RiseS S) : ∀ s ∈ S, s.uid ≤ lastS S := by
  intro s hs
  unfold lastS
  cases hl : S.getLast? with
  | none => rw [List.getLast?_eq_none_iff] at hl; rw [hl] at hs; cases hs
  | some y =>
    obtain ⟨T, rfl⟩ := List.getLast?_eq_some_iff.1 hl
    rcases List.mem_append.1 hs with h1 | h1
    · unfold RiseS at h
      rw [List.pairwise_append] at h
      have := h.2.2 s h1 y (by simp)
      show s.uid ≤ y.uid
      omega
    · rw [List.mem_singleton.1 h1]; exact Int.le_refl _
theorem lastS_lt {S : List Sg} {u : Int} (h : ∀ s ∈ S, s.uid < u) (h0 : 0 < u) : lastS S < u := by
  unfold lastS
  cases hl : S.getLast? with
  | none => exact h0
  | some y => exact h y (List.mem_of_getLast? hl)
theorem newS_mem' {u : Int} {l : List Lt} {x : Lt} (hx : x ∈ l) (h : u < x.uid) : sgOf x ∈ newS u l := List.mem_map_of_mem (List.mem_filter.2 ⟨hx, by simpa using h⟩)
theorem newS_uid {u : Int} {l : List Lt} {s : Sg} (h : s ∈ newS u l) : u < s.uid := by
  obtain ⟨x, hx, rfl⟩ := List.mem_map.1 h
  have := (List.mem_filter.1 hx).2
  show u < x.uid
  simpa using this
theorem newS_rise {u : Int} {l : List Lt} (h : Rise l) : RiseS (newS u l) := by
  unfold RiseS newS
  rw [List.pairwise_map]
  exact List.Pairwise.filter _ h
theorem findB_mem {l : List Lt} {u : Int} : findB l u = true ↔ ∃ x ∈ l, x.uid = u := by
  unfold findB
  rw [List.any_eq_true]
  constructor
  · rintro ⟨x, hx, h⟩; exact ⟨x, hx, by simpa using h⟩
  · rintro ⟨x, hx, h⟩; exact ⟨x, hx, by simpa using h⟩
theorem look1_rise {S : List Sg} {l : List Lt} {g : Bool} (h : RiseS S) : RiseS (lookS1 S l g) := by
  unfold lookS1
  split
  · exact List.Pairwise.filter _ h
  · exact h
theorem look2_rise {S : List Sg} {l : List Lt} {g : Bool} (h : RiseS S) (hr : Rise l) : RiseS (lookS2 S l g) := by
  unfold lookS2 RiseS
  rw [List.pairwise_append]
  refine ⟨look1_rise h, newS_rise hr, fun a ha b hb => ?_⟩
  have h1 := lastS_ge (look1_rise (l := l) (g := g) h) a ha
  have h2 := newS_uid hb
  omega
theorem learn1_uid (l : List Lt) (s : Sg) : (learn1 l s).uid = s.uid := by unfold learn1; split <;> rfl
theorem look_uids (S : List Sg) (l : List Lt) (g : Bool) : (lookS S l g).map Sg.uid = (lookS2 S l g).map Sg.uid := by
  unfold lookS
  rw [List.map_map]
  exact List.map_congr_left fun s _ => learn1_uid l s
theorem look_rise {S : List Sg} {l : List Lt} {g : Bool} (h : RiseS S) (hr : Rise l) : RiseS (lookS S l g) := by
  rw [riseS_map, look_uids, ← riseS_map]
  exact look2_rise h hr
/-- All that a box has is seen. -/
theorem look_covers {n : Int} {S : List Sg} {l : List Lt} {g : Bool} (hs : Seen l S) (hb : BInv n l) {x : Lt} (hx : x ∈ l) : ∃ s ∈ lookS2 S l g, s.uid = x.uid := by
  have hu := hb.uid x hx
  rcases hs x hx with ⟨s, h1, h2⟩ | h1
  · refine ⟨s, List.mem_append_left _ ?_, h2⟩
    unfold lookS1
    split
    · exact List.mem_filter.2 ⟨h1, by show (!(!findB l s.uid)) = true; rw [findB_mem.2 ⟨x, hx, h2.symm⟩]; rfl⟩
    · exact h1
  · exact ⟨sgOf x, List.mem_append_right _ (newS_mem' hx (lastS_lt (fun s hs => h1 s (lookS1_mem S l g s hs)) (by omega))), rfl⟩
theorem look_has {S : List Sg} {l : List Lt} {s : Sg} (h : s ∈ lookS2 S l true) : findB l s.uid = true := by
  rcases List.mem_append.1 h with h1 | h1
  · have := (List.mem_filter.1 h1).2
    simpa using this
  · obtain ⟨x, hx, rfl⟩ := newS_mem h1
    exact findB_mem.2 ⟨x, hx, rfl⟩
theorem look_len {n : Int} {S : List Sg} {l : List Lt} (h : RiseS S) (hs : Seen l S) (hb : BInv n l) : (lookS2 S l true).length = l.length := by
  have : (lookS2 S l true).map Sg.uid = l.map Lt.uid := by
    refine int_rise_eq (riseS_map.1 (look2_rise h hb.rise)) (rise_map.1 hb.rise) fun z => ?_
    rw [List.mem_map, List.mem_map]
    constructor
    · rintro ⟨s, h1, rfl⟩
      obtain ⟨x, hx, h2⟩ := findB_mem.1 (look_has h1)
      exact ⟨x, hx, h2⟩
    · rintro ⟨x, hx, rfl⟩
      exact look_covers hs hb hx
  have := congrArg List.length this
  simpa using this
theorem flagsOf_mem {l : List Lt} (hr : Rise l) {x : Lt} (hx : x ∈ l) : flagsOf l x.uid = some x.flags := by
  have hf := findB_mem.2 ⟨x, hx, rfl⟩
  obtain ⟨y, h1, h2⟩ := flagsOf_some hr hf
  obtain ⟨z, h3, h4⟩ := find_true hr hf
  rw [h1] at h3
  obtain rfl := Option.some.inj h3
  rw [h2]
  obtain ⟨j, hj, rfl⟩ := List.mem_iff_getElem.1 hx
  obtain ⟨k1, k2⟩ := List.getElem?_eq_some_iff.1 h1
  rcases Nat.lt_trichotomy j (findI l l[j].uid) with h5 | h5 | h5
  · have := rise_at hr hj k1 h5; rw [k2] at this; omega
  · have : l[j] = y := by rw [← k2]; congr 1
    rw [this]
  · have := rise_at hr k1 hj h5; rw [k2] at this; omega
theorem learn1_flags {l : List Lt} {s : Sg} {F : List Fl.Tx} (h : flagsOf l s.uid = some F) : (learn1 l s).flags = F := by unfold learn1; rw [h]
theorem learn1_twice (l : List Lt) (s : Sg) : learn1 l (learn1 l s) = learn1 l s := by
  cases h : flagsOf l s.uid with
  | none =>
    have : learn1 l s = s := by unfold learn1; rw [h]
    rw [this, this]
  | some F =>
    have h1 : learn1 l s = ⟨s.uid, F⟩ := by unfold learn1; rw [h]
    rw [h1]
    unfold learn1
    show (match flagsOf l s.uid with | some F => _ | none => _) = _
    rw [h]
theorem learnN_none (l : List Lt) : ∀ (S : List Sg) (k : Nat), (∀ s ∈ S, learn1 l s = s) → learnN l k S = []
  | [], _, _ => rfl
  | s :: S, k, h => by
    rw [learnN, learnN_none l S (k + 1) fun t ht => h t (List.mem_cons_of_mem _ ht), List.append_nil]
    have h1 := h s List.mem_cons_self
    unfold news1
    cases hf : flagsOf l s.uid with
    | none => rfl
    | some F =>
      have := learn1_flags hf
      rw [h1] at this
      exact if_pos this.symm
theorem newS_none {n : Int} {S : List Sg} {l : List Lt} (hS : RiseS S) (hc : ∀ x ∈ l, ∃ s ∈ S, s.uid = x.uid) (_hb : BInv n l) : newS (lastS S) l = [] := by
  unfold newS
  rw [List.map_eq_nil_iff, List.filter_eq_nil_iff]
  intro x hx h
  obtain ⟨s, h1, h2⟩ := hc x hx
  have := lastS_ge hS s h1
  have h : lastS S < x.uid := by simpa using h
  omega
/-- Looked again: nothing is told, and all is as it was. -/
theorem look_again {n : Int} {S : List Sg} {l : List Lt} {g : Bool} (h : RiseS S) (hs : Seen l S) (hb : BInv n l) : lookN (lookS S l g) l g = [] ∧ lookS (lookS S l g) l g = lookS S l g := by
  have hr := look_rise (g := g) h hb.rise
  have hcov : ∀ x ∈ l, ∃ s ∈ lookS S l g, s.uid = x.uid := fun x hx => by
    obtain ⟨s, h1, h2⟩ := look_covers (g := g) hs hb hx
    exact ⟨learn1 l s, List.mem_map_of_mem h1, by rw [learn1_uid]; exact h2⟩
  have hgo : g = true → ∀ s ∈ lookS S l g, findB l s.uid = true := fun hg s hs2 => by
    subst hg
    obtain ⟨t, h1, rfl⟩ := List.mem_map.1 hs2
    rw [learn1_uid]
    exact look_has h1
  have h1 : lookS1 (lookS S l g) l g = lookS S l g := by
    unfold lookS1
    split
    · next hg => exact keepS_all fun s hs2 => by rw [hgo hg s hs2]; rfl
    · rfl
  have h2 : lookN1 (lookS S l g) l g = [] := by
    unfold lookN1
    split
    · next hg =>
      unfold goneN
      rw [List.map_eq_nil_iff, List.filter_eq_nil_iff]
      intro x hx hh
      unfold bk at hx
      obtain ⟨y, hy, rfl⟩ := List.mem_map.1 hx
      have hy2 := List.mem_of_mem_drop (List.mem_reverse.1 hy)
      have hy3 : y.1 ∈ lookS S l g := by
        obtain ⟨a, b⟩ := y
        exact (List.mem_zipIdx hy2).2.2 ▸ List.getElem_mem _
      have := hgo hg y.1 hy3
      simp [this] at hh
    · rfl
  have h3 : newS (lastS (lookS1 (lookS S l g) l g)) l = [] := by rw [h1]; exact newS_none hr hcov hb
  have h4 : lookS2 (lookS S l g) l g = lookS S l g := by unfold lookS2; rw [h3, List.append_nil, h1]
  have h5 : ∀ s ∈ lookS S l g, learn1 l s = s := fun s hs2 => by
    obtain ⟨t, _, rfl⟩ := List.mem_map.1 hs2
    exact learn1_twice l t
  refine ⟨?_, ?_⟩
  · unfold lookN lookN2
    rw [h2, h3, h4, learnN_none l _ 0 h5]
    rfl
  · show (lookS2 (lookS S l g) l g).map (learn1 l) = _
    rw [h4, List.map_congr_left h5, List.map_id']
theorem seen_step {n n' : Int} {l l' : List Lt} {S : List Sg} (h : Seen l S) (hn : ∀ s ∈ S, s.uid < n) (hs : BStep n l n' l') : Seen l' S := fun y hy => by
  rcases hs.old y hy with ⟨x, hx, h1, _⟩ | ⟨h1, _⟩
  · rw [← h1]; exact h x hx
  · exact Or.inr fun s h2 => by have := hn s h2; omega
theorem seen_look {n : Int} {S : List Sg} {l : List Lt} {g : Bool} (hs : Seen l S) (hb : BInv n l) : Seen l (lookS S l g) := fun x hx => by
  obtain ⟨s, h1, h2⟩ := look_covers (g := g) hs hb hx
  exact Or.inl ⟨learn1 l s, List.mem_map_of_mem h1, by rw [learn1_uid]; exact h2⟩
theorem look_below {n : Int} {S : List Sg} {l : List Lt} {g : Bool} (hS : ∀ s ∈ S, 1 ≤ s.uid ∧ s.uid < n) (hb : BInv n l) : ∀ s ∈ lookS S l g, 1 ≤ s.uid ∧ s.uid < n := fun s h => by
  obtain ⟨t, h1, rfl⟩ := List.mem_map.1 h
  rw [learn1_uid]
  rcases List.mem_append.1 h1 with h2 | h2
  · exact hS t (lookS1_mem S l g t h2)
  · obtain ⟨x, hx, rfl⟩ := newS_mem h2
    exact hb.uid x hx
theorem look_flags {n : Int} {S : List Sg} {l : List Lt} {g : Bool} (hS : ∀ s ∈ S, s.flags.length ≤ 12) (hb : BInv n l) : ∀ s ∈ lookS S l g, s.flags.length ≤ 12 := fun s h => by
  obtain ⟨t, h1, rfl⟩ := List.mem_map.1 h
  cases hf : flagsOf l t.uid with
  | none =>
    have : learn1 l t = t := by unfold learn1; rw [hf]
    rw [this]
    rcases List.mem_append.1 h1 with h2 | h2
    · exact hS t (lookS1_mem S l g t h2)
    · obtain ⟨x, hx, rfl⟩ := newS_mem h2
      exact (hb.ok x hx).1.2.2
  | some F =>
    rw [learn1_flags hf]
    unfold flagsOf at hf
    obtain ⟨x, hx, rfl⟩ := Option.map_eq_some_iff.1 hf
    exact (hb.ok x (List.mem_of_find?_eq_some hx)).1.2.2
end Go.Proofs.YtkneeoaeoiaefaaDoor
namespace Go.Proofs.YtkneeoaeoiaefaaDoor
open Go.Proofs.Bx

/-- One thing that is told, taken as it is meant; M: the flags of all that are seen then. -/
def stepT (M : List (List Fl.Tx)) (T : List (List Fl.Tx)) (x : Nw) : List (List Fl.Tx) :=
  if x.kind = 1 then T.eraseIdx (x.n - 1).toNat else if x.kind = 2 then T ++ M.drop T.length else T.set (x.n - 1).toNat x.flags
/-- What may be told. -/
def validT (M : List (List Fl.Tx)) (L : Nat) (g : Bool) (T : List (List Fl.Tx)) (x : Nw) : Prop :=
  (x.kind = 1 ∧ g = true ∧ 1 ≤ x.n ∧ x.n ≤ T.length) ∨ (x.kind = 2 ∧ (T.length : Int) < x.n ∧ x.n = M.length ∧ T.length = L) ∨ (x.kind = 3 ∧ 1 ≤ x.n ∧ x.n ≤ T.length)
def validAll (M : List (List Fl.Tx)) (L : Nat) (g : Bool) : List (List Fl.Tx) → List Nw → Prop
  | _, [] => True
  | T, x :: r => validT M L g T x ∧ validAll M L g (stepT M T x) r
theorem validAll_append {M : List (List Fl.Tx)} {L : Nat} {g : Bool} : ∀ {A B : List Nw} {T : List (List Fl.Tx)}, validAll M L g T (A ++ B) ↔ validAll M L g T A ∧ validAll M L g (A.foldl (stepT M) T) B
  | [], B, T => by simp [validAll]
  | x :: A, B, T => by
    rw [List.cons_append, validAll, validAll, validAll_append, List.foldl_cons, and_assoc]
theorem validAll_at {M : List (List Fl.Tx)} {L : Nat} {g : Bool} : ∀ {A : List Nw} {T : List (List Fl.Tx)} {j : Nat} {x : Nw}, validAll M L g T A → A[j]? = some x → validT M L g ((A.take j).foldl (stepT M) T) x
  | [], T, j, x, _, h => by simp at h
  | y :: A, T, 0, x, hv, h => by
    obtain rfl : y = x := by simpa using h
    exact hv.1
  | y :: A, T, j + 1, x, hv, h => by
    rw [List.take_succ_cons, List.foldl_cons]
    exact validAll_at hv.2 (by simpa using h)
theorem fold_next {M : List (List Fl.Tx)} {A : List Nw} {T : List (List Fl.Tx)} {j : Nat} {x : Nw} (h : A[j]? = some x) : (A.take (j + 1)).foldl (stepT M) T = stepT M ((A.take j).foldl (stepT M) T) x := by
  rw [List.take_add_one, h, List.foldl_append]
  rfl
/-- Those that are gone. -/
theorem fold_gone {M : List (List Fl.Tx)} {L : Nat} {S : List Sg} {p : Int → Bool} : ∀ (d k : Nat), k + d = S.length → ((goneN p (bk S k)).foldl (stepT M) (S.map Sg.flags) = (S.take k).map Sg.flags ++ (keepS p (S.drop k)).map Sg.flags) ∧ validAll M L true (S.map Sg.flags) (goneN p (bk S k))
  | 0, k, h => by
    obtain rfl : k = S.length := by omega
    rw [bk_end]
    constructor
    · show S.map Sg.flags = _
      rw [List.take_length, List.drop_length]
      simp [keepS]
    · trivial
  | d + 1, k, h => by
    have hk : k < S.length := by omega
    have hs : S[k]? = some S[k] := List.getElem?_eq_getElem hk
    obtain ⟨ih1, ih2⟩ := fold_gone (M := M) (L := L) (S := S) (p := p) d (k + 1) (by omega)
    have hd : S.drop k = S[k] :: S.drop (k + 1) := List.drop_eq_getElem_cons hk
    have ht : S.take (k + 1) = S.take k ++ [S[k]] := by rw [List.take_add_one, hs]; rfl
    rw [bk_next hs, goneN_snoc]
    by_cases hp : p S[k].uid = true
    · rw [if_pos hp, List.foldl_append, ih1]
      have hkp : keepS p (S.drop k) = keepS p (S.drop (k + 1)) := by
        unfold keepS
        rw [hd, List.filter_cons_of_neg (by simp [hp])]
      constructor
      · show stepT M _ ⟨1, (k : Int) + 1, []⟩ = _
        unfold stepT
        rw [if_pos rfl, show (((k : Int) + 1) - 1).toNat = k by omega, hkp, ht, List.map_append, List.append_assoc]
        have hl : ((S.take k).map Sg.flags).length = k := by rw [List.length_map, List.length_take]; omega
        rw [List.eraseIdx_append_of_length_le (by omega), hl, Nat.sub_self]
        rfl
      · rw [validAll_append]
        refine ⟨ih2, ⟨Or.inl ⟨rfl, rfl, by show (1 : Int) ≤ (k : Int) + 1; omega, ?_⟩, trivial⟩⟩
        rw [ih1]
        show (k : Int) + 1 ≤ _
        rw [List.length_append, List.length_map, List.length_take]
        omega
    · rw [if_neg hp, List.append_nil, ih1]
      have hkp : keepS p (S.drop k) = S[k] :: keepS p (S.drop (k + 1)) := by
        unfold keepS
        rw [hd, List.filter_cons_of_pos (by simp [hp])]
      refine ⟨?_, ih2⟩
      rw [hkp, ht, List.map_append, List.map_cons, List.append_assoc]
      rfl
/-- Flags that are others. -/
theorem fold_learn {M : List (List Fl.Tx)} {L : Nat} {g : Bool} {l : List Lt} : ∀ (S A : List Sg), ((learnN l A.length S).foldl (stepT M) ((A ++ S).map Sg.flags) = (A ++ S.map (learn1 l)).map Sg.flags) ∧ validAll M L g ((A ++ S).map Sg.flags) (learnN l A.length S)
  | [], A => by simp [learnN, validAll]
  | s :: S, A => by
    obtain ⟨ih1, ih2⟩ := fold_learn (M := M) (L := L) (g := g) (l := l) S (A ++ [learn1 l s])
    have hlen : (A ++ [learn1 l s]).length = A.length + 1 := by simp
    rw [hlen] at ih1 ih2
    have hgoal : (A ++ (s :: S).map (learn1 l)).map Sg.flags = (A ++ [learn1 l s] ++ S.map (learn1 l)).map Sg.flags := by simp
    have hstep : (news1 l A.length s).foldl (stepT M) ((A ++ s :: S).map Sg.flags) = (A ++ [learn1 l s] ++ S).map Sg.flags ∧ validAll M L g ((A ++ s :: S).map Sg.flags) (news1 l A.length s) := by
      unfold news1
      cases hf : flagsOf l s.uid with
      | none =>
        have : learn1 l s = s := by unfold learn1; rw [hf]
        rw [this]
        exact ⟨by simp, trivial⟩
      | some F =>
        have h1 := learn1_flags hf
        by_cases he : F = s.flags
        · dsimp only
          rw [if_pos he]
          refine ⟨?_, trivial⟩
          simp [h1, he]
        · dsimp only
          rw [if_neg he]
          constructor
          · show stepT M _ ⟨3, (A.length : Int) + 1, F⟩ = _
            unfold stepT
            rw [if_neg (by show ¬ (3 : Int) = 1; decide), if_neg (by show ¬ (3 : Int) = 2; decide)]
            show List.set _ (((A.length : Int) + 1) - 1).toNat F = _
            rw [show (((A.length : Int) + 1) - 1).toNat = A.length by omega, List.map_append, List.map_cons]
            have hl : (A.map Sg.flags).length = A.length := by simp
            rw [List.set_append_right _ _ (by omega), hl, Nat.sub_self]
            simp [h1]
          · refine ⟨Or.inr (Or.inr ⟨rfl, by show (1 : Int) ≤ (A.length : Int) + 1; omega, ?_⟩), trivial⟩
            show (A.length : Int) + 1 ≤ _
            rw [List.length_map, List.length_append, List.length_cons]
            omega
    rw [learnN, List.foldl_append, hstep.1, validAll_append, hstep.1, hgoal]
    exact ⟨ih1, hstep.2, ih2⟩
/-- All that is told by a look leads to what is seen behind it. -/
theorem fold_look {S : List Sg} {l : List Lt} {g : Bool} : ((lookN S l g).foldl (stepT ((lookS2 S l g).map Sg.flags)) (S.map Sg.flags) = (lookS S l g).map Sg.flags) ∧ validAll ((lookS2 S l g).map Sg.flags) (lookS1 S l g).length g (S.map Sg.flags) (lookN S l g) := by
  have h1 : (lookN1 S l g).foldl (stepT ((lookS2 S l g).map Sg.flags)) (S.map Sg.flags) = (lookS1 S l g).map Sg.flags ∧ validAll ((lookS2 S l g).map Sg.flags) (lookS1 S l g).length g (S.map Sg.flags) (lookN1 S l g) := by
    cases g with
    | false => exact ⟨rfl, trivial⟩
    | true =>
      have := fold_gone (M := (lookS2 S l true).map Sg.flags) (L := (lookS1 S l true).length) (S := S) (p := fun u => !findB l u) S.length 0 (by omega)
      simpa [lookN1, lookS1] using this
  have h2 : (lookN2 S l g).foldl (stepT ((lookS2 S l g).map Sg.flags)) (S.map Sg.flags) = (lookS2 S l g).map Sg.flags ∧ validAll ((lookS2 S l g).map Sg.flags) (lookS1 S l g).length g (S.map Sg.flags) (lookN2 S l g) := by
    unfold lookN2
    by_cases hn : 0 < (newS (lastS (lookS1 S l g)) l).length
    · rw [if_pos hn, List.foldl_append, h1.1, validAll_append, h1.1]
      constructor
      · show stepT _ _ ⟨2, ((lookS2 S l g).length : Int), []⟩ = _
        unfold stepT
        rw [if_neg (by show ¬ (2 : Int) = 1; decide), if_pos rfl]
        show _ ++ ((lookS1 S l g ++ newS (lastS (lookS1 S l g)) l).map Sg.flags).drop _ = (lookS1 S l g ++ newS (lastS (lookS1 S l g)) l).map Sg.flags
        rw [List.map_append, List.drop_left]
      · refine ⟨h1.2, Or.inr (Or.inl ⟨rfl, ?_, ?_, by simp⟩), trivial⟩
        · show (_ : Int) < ((lookS2 S l g).length : Int)
          unfold lookS2
          rw [List.length_append, List.length_map]
          omega
        · simp
    · rw [if_neg hn, List.append_nil]
      refine ⟨?_, h1.2⟩
      rw [h1.1]
      have : newS (lastS (lookS1 S l g)) l = [] := List.eq_nil_of_length_eq_zero (by omega)
      show (lookS1 S l g).map Sg.flags = (lookS1 S l g ++ newS (lastS (lookS1 S l g)) l).map Sg.flags
      rw [this, List.append_nil]
  have h3 := fold_learn (M := (lookS2 S l g).map Sg.flags) (L := (lookS1 S l g).length) (g := g) (l := l) (lookS2 S l g) []
  unfold lookN
  rw [List.foldl_append, h2.1, validAll_append, h2.1]
  simp only [List.nil_append, List.length_nil] at h3
  exact ⟨h3.1, h2.2, h3.2⟩
end Go.Proofs.YtkneeoaeoiaefaaDoor
namespace Go.Proofs
theorem Tryd.infoSs : (Tryd.prog.info? 34).map (fun i => (i.zero, i.size, i.bytes)) = some (some (.slice none 0 0), 1, 24) := by kernel_rfl
end Go.Proofs
namespace Go.Proofs.YtkneeoaeoiaefaaDoor
open Go.RowKit Go.Proofs.Aid Go.Proofs.Bx

/-- A row of slices of texts that is nobody else's; no text lies in its block. -/
def Tds (w : World) (v : Value) (T : List (List Fl.Tx)) : Prop := ∃ rows : List Value, w.ownsRow 0 34 1 v T.length rows ∧ (∀ (j : Nat) F fv, T[j]? = some F → rows[j]? = some fv → Sl w fv F) ∧ ∀ g, v.ownBlock = some g → AllC NoT w g
theorem Tds.nil (w : World) : Tds w (.slice none 0 0) [] := ⟨[], World.ownsRow_nil _ _ _ _, fun j x xs h => (by simp at h), fun g h => (by cases h)⟩
theorem Sl.kept {w w' : World} {v : Value} {l : List Fl.Tx} (h : Sl w v l) (hk : ∀ q, q < w.heap.size → ¬ NoStr w q → w'.heap[q]? = w.heap[q]?) : Sl w' v l := h.same fun q hq hl hlt => hk q hlt (h.noStr hl hq)
theorem Tds.same {w w' : World} {v : Value} {T : List (List Fl.Tx)} (h : Tds w v T) (hk : ∀ q, q < w.heap.size → v.ownBlock = some q ∨ ¬ NoStr w q → w'.heap[q]? = w.heap[q]?) : Tds w' v T := by
  obtain ⟨rows, h1, h3, h5⟩ := h
  exact ⟨rows, own_same h1 fun q hq => hk q (h1.lt q hq).2 (Or.inl hq), fun j F fv hj hx => (h3 j F fv hj hx).kept fun q hq hn => hk q hq (Or.inr hn), fun g hg => (h5 g hg).same (hk g (h1.lt g hg).2 (Or.inl hg))⟩
theorem Tds.below {w w' : World} {v : Value} {T : List (List Fl.Tx)} (h : Tds w v T) (hb : Below w.heap.size w w') : Tds w' v T := h.same fun q hq _ => hb.block q hq
theorem tds_form {w : World} {v : Value} {T : List (List Fl.Tx)} (h : Tds w v T) : ∃ a c, v = .slice a T.length c := by
  obtain ⟨rows, h1, _⟩ := h
  rcases h1.2 with ⟨h2, h3⟩ | ⟨g, cap, cur, hv, _⟩
  · exact ⟨none, 0, by rw [h2, h3]⟩
  · exact ⟨_, _, hv⟩
theorem Tds.lt {w : World} {v : Value} {T : List (List Fl.Tx)} (h : Tds w v T) {q : Nat} (hq : v.ownBlock = some q) : q < w.heap.size := by
  obtain ⟨rows, h1, _⟩ := h
  exact (h1.lt q hq).2
theorem Tds.noStr {w : World} {v : Value} {T : List (List Fl.Tx)} (h : Tds w v T) {q : Nat} (hq : v.ownBlock = some q) : NoStr w q := by
  obtain ⟨rows, _, _, h5⟩ := h
  exact noT_str (h5 q hq)
theorem tds_len {w : World} {v : Value} {T : List (List Fl.Tx)} {rows : List Value} (h1 : w.ownsRow 0 34 1 v T.length rows) : rows.length = T.length := by have := h1.1; omega
theorem tds_at {w : World} {v : Value} {T : List (List Fl.Tx)} (h : Tds w v T) {j : Nat} {F : List Fl.Tx} (hj : T[j]? = some F) : ∃ g c fv, v = .slice (some ⟨g, 0, none⟩) T.length c ∧ g < w.heap.size ∧ w.cell? ⟨g, j, none⟩ = some fv ∧ Sl w fv F ∧ w.frozen? ⟨g, j, none⟩ = false := by
  obtain ⟨rows, h1, h3, h5⟩ := h
  have hl := tds_len h1
  have hjl : j < T.length := (List.getElem?_eq_some_iff.1 hj).1
  rcases h1.2 with ⟨_, h0⟩ | ⟨g, cap, cur, rfl, hg, hh, _⟩
  · omega
  · have hjr : rows[j]? = some (rows[j]'(by omega)) := List.getElem?_eq_getElem (by omega)
    refine ⟨g, cap, rows[j]'(by omega), rfl, (Array.getElem?_eq_some_iff.1 hh).1, ?_, h3 j F _ hj hjr, rd_free hh j⟩
    rw [h1.cellAt j (by omega)]
    exact hjr
theorem noT_sl {w : World} {fv : Value} {F : List Fl.Tx} (h : Sl w fv F) : NoT fv ∧ fv.oneCell' = true := by
  obtain ⟨a, c, rfl, _⟩ := h
  exact ⟨fun s e => (by cases e), rfl⟩
theorem tds_cells {w : World} {v : Value} {T : List (List Fl.Tx)} {rows : List Value} (h1 : w.ownsRow 0 34 1 v T.length rows) (h3 : ∀ (j : Nat) F fv, T[j]? = some F → rows[j]? = some fv → Sl w fv F) : ∀ u ∈ rows, NoT u ∧ u.oneCell' = true := fun u hu => by
  obtain ⟨j, hj⟩ := List.getElem?_of_mem hu
  have hjl := (List.getElem?_eq_some_iff.1 hj).1
  have := tds_len h1
  exact noT_sl (h3 j _ u (List.getElem?_eq_getElem (show j < T.length by omega)) hj)
theorem zero_noT : ∀ u ∈ (Value.slice none 0 0).cells.toList, NoT u := fun u hu s => by
  have : u = .slice none 0 0 := by simpa [Value.cells] using hu
  rw [this]
  intro e
  cases e
/-- Rows that are put behind others. -/
theorem tds_cat {w : World} {va : Option Addr} {ca : Nat} {T U : List (List Fl.Tx)} {news : List Value} (h : Tds w (.slice va T.length ca) T) (ad : Addr) (c : Nat) (hm : 0 < U.length) (hl : news.length = U.length) (hnews : ∀ j u, news[j]? = some u → w.cell? (ad.add j) = some u) (hU : ∀ (j : Nat) F fv, U[j]? = some F → news[j]? = some fv → Sl w fv F) (hle : T.length + U.length ≤ 100000) :
    ∃ g cap W, (Builtin.append_ #[48, 48] 48 #[.slice va T.length ca, .slice (some ad) U.length c]).run Tryd.prog w = .ok (.slice (some ⟨g, 0, none⟩) (T.length + U.length) cap) W ∧
      Tds W (.slice (some ⟨g, 0, none⟩) (T.length + U.length) cap) (T ++ U) ∧ VKeep w.heap.size (.slice va T.length ca) w W ∧ Near w (.slice va T.length ca) (.slice (some ⟨g, 0, none⟩) (T.length + U.length) cap) := by
  obtain ⟨rows, h1, h3, h5⟩ := id h
  obtain ⟨j0, hj, hz, hs, hby⟩ := info_parts Tryd.infoSs
  have hcl : ∀ u ∈ news, NoT u ∧ u.oneCell' = true := fun u hu => by
    obtain ⟨j, hj⟩ := List.getElem?_of_mem hu
    have hjl := (List.getElem?_eq_some_iff.1 hj).1
    exact noT_sl (hU j _ u (List.getElem?_eq_getElem (show j < U.length by omega)) hj)
  obtain ⟨g9, cap9, W9, hrun, hown9, hg9, hor9, hlt9, hnt9⟩ := run_append_clean (P := Tryd.prog) w NoT 48 48 0 34 j0 (.slice none 0 0) 1 24 Tryd.underlying48 hj hz hs hby rfl (by decide) (.slice va T.length ca) T.length _ h1 h5 zero_noT ad U.length c news (by omega) hnews (fun u hu => (hcl u hu).2) (fun u hu => (hcl u hu).1) hm (by unfold maxLen; omega) (by omega) (Nat.zero_le _)
  have hkeep : ∀ q, q < w.heap.size → (Value.slice va T.length ca).ownBlock ≠ some q → W9.heap[q]? = w.heap[q]? := fun q hq hne => hg9.block q hq (fun e => hne e.symm)
  have hsl : ∀ y fu, Sl w fu y → Sl W9 fu y := fun y fu hy => hy.kept fun q hq hn => hkeep q hq fun e => hn (noT_str (h5 q e))
  refine ⟨g9, cap9, W9, hrun, ⟨rows ++ news, ?_, fun j F fv hj hx => ?_, fun g hg => ?_⟩, ⟨hg9.os, hg9.tape, hg9.output, hg9.size, fun q hq _ hne => hkeep q hq hne⟩, fun q hq => ?_⟩
  · rw [List.length_append]; exact hown9
  · have hrl := tds_len h1
    by_cases hjl : j < T.length
    · rw [List.getElem?_append_left hjl] at hj
      rw [List.getElem?_append_left (by omega)] at hx
      exact hsl _ _ (h3 j F fv hj hx)
    · rw [List.getElem?_append_right (by omega)] at hj
      rw [List.getElem?_append_right (by omega), hrl] at hx
      exact hsl _ _ (hU _ F fv hj hx)
  · obtain rfl : g9 = g := by simpa [Value.ownBlock] using hg
    exact hnt9
  · obtain rfl : g9 = q := by simpa [Value.ownBlock] using hq
    rcases hor9 with e9 | e9
    · exact Or.inl e9
    · exact Or.inr (by omega)
theorem tds_push {w : World} {va : Option Addr} {ca : Nat} {T : List (List Fl.Tx)} (h : Tds w (.slice va T.length ca) T) (F : List Fl.Tx) (fv : Value) (hf : Sl w fv F) (hle : T.length ≤ 10000) :
    ∃ g cap W, (Builtin.append_ #[48, 48] 48 #[.slice va T.length ca, .slice (some ⟨w.heap.size, 0, none⟩) 1 1]).run Tryd.prog (w.alloc (.cells #[fv] 34)) = .ok (.slice (some ⟨g, 0, none⟩) (T.length + 1) cap) W ∧
      Tds W (.slice (some ⟨g, 0, none⟩) (T.length + 1) cap) (T ++ [F]) ∧ VKeep w.heap.size (.slice va T.length ca) w W ∧ Near w (.slice va T.length ca) (.slice (some ⟨g, 0, none⟩) (T.length + 1) cap) := by
  have b8 : Below w.heap.size w (w.alloc (.cells #[fv] 34)) := (Below.refl _ _).alloc (Nat.le_refl _) _
  have hnews := World.news_of_block (heap_alloc_new w (.cells #[fv] 34))
  obtain ⟨g, cap, W, hrun, h1, h2, h3⟩ := tds_cat (U := [F]) (h.below b8) ⟨w.heap.size, 0, none⟩ 1 (by simp) (show [fv].length = [F].length from rfl) (by simpa using hnews) (fun j G u hj hu => by
    match j, hj, hu with
    | 0, hj, hu =>
      obtain rfl := Option.some.inj hj
      obtain rfl := Option.some.inj hu
      exact hf.below b8 (Nat.le_refl _)
    | j + 1, hj, _ => simp at hj) (by simp; omega)
  have hz : (w.alloc (.cells #[fv] 34)).heap.size = w.heap.size + 1 := by simp
  refine ⟨g, cap, W, hrun, h1, ⟨h2.os.trans b8.os, h2.tape.trans b8.tape, h2.output.trans b8.output, Nat.le_trans b8.size h2.size, fun q hq _ hne => (h2.block q (by omega) (by omega) hne).trans (b8.block q hq)⟩, fun q hq => ?_⟩
  rcases h3 q hq with h4 | h4
  · exact Or.inl h4
  · exact Or.inr (by omega)
/-- One is left out. -/
theorem tds_erase {w : World} {g ca k : Nat} {T : List (List Fl.Tx)} (h : Tds w (.slice (some ⟨g, 0, none⟩) T.length ca) T) (hk : k < T.length) (hle : T.length ≤ 10000) (ad : Addr) (c2 : Nat) (had : T.length - (k + 1) ≠ 0 → ad = ⟨g, k + 1, none⟩) :
    ∃ v1 W1 v2 W2, (Builtin.append_ #[48, 48] 48 #[.slice (some ⟨w.heap.size, 0, none⟩) 0 0, .slice (some ⟨g, 0, none⟩) k ca]).run Tryd.prog (w.alloc (.cells #[] 34)) = .ok v1 W1 ∧
      (Builtin.append_ #[48, 48] 48 #[v1, .slice (some ad) (T.length - (k + 1)) c2]).run Tryd.prog W1 = .ok v2 W2 ∧ Tds W2 v2 (T.eraseIdx k) ∧ Below w.heap.size w W1 ∧ Below w.heap.size w W2 ∧ ∀ q, v2.ownBlock = some q → w.heap.size ≤ q := by
  obtain ⟨rows, h1, h3, h5⟩ := id h
  have hrl := tds_len h1
  obtain ⟨j0, hj, hz, hs, hby⟩ := info_parts Tryd.infoSs
  have b8 : Below w.heap.size w (w.alloc (.cells #[] 34)) := (Below.refl _ _).alloc (Nat.le_refl _) _
  have e8 := heap_alloc_new w (.cells #[] 34)
  have hz8 : (w.alloc (.cells #[] 34)).heap.size = w.heap.size + 1 := by simp
  have t0 : Tds (w.alloc (.cells #[] 34)) (.slice (some ⟨w.heap.size, 0, none⟩) 0 0) [] := ⟨[], ⟨rfl, Or.inr ⟨w.heap.size, 0, #[], rfl, Nat.zero_le _, e8, Nat.le_refl _, Nat.zero_le _, rfl, rfl⟩⟩, fun j F fv hj => (by simp at hj), fun q hq => allC_of (cs := #[]) (t := 34) (fz := (0, 0)) (by
    have hq : w.heap.size = q := by simpa [Value.ownBlock] using hq
    rw [← hq]
    exact e8) (fun u hu => by simp at hu)⟩
  have hgl := (h1.lt g rfl).2
  have cell : ∀ W, Below w.heap.size w W → ∀ j u, rows[j]? = some u → W.cell? ⟨g, j, none⟩ = some u := fun W hW j u hu => by
    refine (hW.cell (p := ⟨g, j, none⟩) hgl).trans ?_
    have hjl := (List.getElem?_eq_some_iff.1 hu).1
    rw [h1.cellAt j (by omega)]
    exact hu
  have slW : ∀ W, Below w.heap.size w W → ∀ (j : Nat) F fv, T[j]? = some F → rows[j]? = some fv → Sl W fv F := fun W hW j F fv hj hx => (h3 j F fv hj hx).below hW (Nat.le_refl _)
  obtain ⟨v1, W1, hrun1, ht1, hb1, hn1⟩ : ∃ v1 W1, (Builtin.append_ #[48, 48] 48 #[.slice (some ⟨w.heap.size, 0, none⟩) 0 0, .slice (some ⟨g, 0, none⟩) k ca]).run Tryd.prog (w.alloc (.cells #[] 34)) = .ok v1 W1 ∧ Tds W1 v1 (T.take k) ∧ Below w.heap.size w W1 ∧ ∀ q, v1.ownBlock = some q → w.heap.size ≤ q := by
    by_cases hk0 : k = 0
    · subst hk0
      exact ⟨_, _, run_append_zero _ _ _ _ j0 Tryd.underlying48 hj _ 0 0 (Nat.le_refl _) _ _, by rw [List.take_zero]; exact t0, b8, fun q hq => Nat.le_of_eq (by simpa [Value.ownBlock] using hq)⟩
    · have hlk : (T.take k).length = k := by rw [List.length_take]; omega
      obtain ⟨g1, cap1, W1, hrun, q1, q2, q3⟩ := tds_cat (T := []) (U := T.take k) (news := rows.take k) t0 ⟨g, 0, none⟩ ca (by omega) (by rw [List.length_take, hlk]; omega) (fun j u hu => by
        have hjk : j < k := by have := (List.getElem?_eq_some_iff.1 hu).1; rw [List.length_take] at this; omega
        rw [List.getElem?_take_of_lt hjk] at hu
        have := cell _ b8 j u hu
        rw [Addr.add_lit, Nat.zero_add]
        exact this) (fun j F fv hj hx => by
        have hjk : j < k := by have := (List.getElem?_eq_some_iff.1 hj).1; omega
        rw [List.getElem?_take_of_lt hjk] at hj hx
        exact slW _ b8 j F fv hj hx) (by simp; omega)
      rw [hlk] at hrun q1
      simp only [List.length_nil, Nat.zero_add, List.nil_append] at hrun q1 q2 q3
      refine ⟨_, W1, hrun, q1, ⟨q2.os.trans b8.os, q2.tape.trans b8.tape, q2.output.trans b8.output, Nat.le_trans b8.size q2.size, fun q hq => (q2.block q (by omega) (by omega) (fun e => by
        have e : w.heap.size = q := by simpa [Value.ownBlock] using e
        omega)).trans (b8.block q hq)⟩, fun q hq => ?_⟩
      rcases q3 q (by simpa [Value.ownBlock] using hq) with h6 | h6
      · have h6 : w.heap.size = q := by simpa [Value.ownBlock] using h6
        omega
      · omega
  have her : T.eraseIdx k = T.take k ++ T.drop (k + 1) := List.eraseIdx_eq_take_drop_succ ..
  obtain ⟨a1, c1, rfl⟩ := tds_form ht1
  by_cases hm0 : T.length - (k + 1) = 0
  · rw [hm0]
    have hcap : (T.take k).length ≤ c1 := by
      obtain ⟨r, k1, _⟩ := ht1
      rcases k1.2 with ⟨h0, _⟩ | ⟨g2, _, _, h0, _, _, h6, _⟩
      · injection h0 with _ h0 _; omega
      · injection h0 with _ _ h0; omega
    refine ⟨_, W1, _, W1, hrun1, run_append_zero W1 _ _ _ j0 Tryd.underlying48 hj a1 _ c1 hcap (some ad) c2, ?_, hb1, hb1, hn1⟩
    rw [her, List.drop_of_length_le (by omega), List.append_nil]
    exact ht1
  · obtain rfl := had hm0
    have hdl : (T.drop (k + 1)).length = T.length - (k + 1) := by rw [List.length_drop]
    have hlk : (T.take k).length = k := by rw [List.length_take]; omega
    obtain ⟨g2, cap2, W2, hrun2, q1, q2, q3⟩ := tds_cat (U := T.drop (k + 1)) (news := rows.drop (k + 1)) ht1 ⟨g, k + 1, none⟩ c2 (by omega) (by rw [List.length_drop, hdl]; omega) (fun j u hu => by
      rw [List.getElem?_drop] at hu
      have := cell _ hb1 _ u hu
      rw [Addr.add_lit]
      exact this) (fun j F fv hj hx => by
      rw [List.getElem?_drop] at hj hx
      exact slW _ hb1 _ F fv hj hx) (by rw [hlk, hdl]; omega)
    rw [hdl] at hrun2
    refine ⟨_, W1, _, W2, hrun1, hrun2, ?_, hb1, ⟨q2.os.trans hb1.os, q2.tape.trans hb1.tape, q2.output.trans hb1.output, Nat.le_trans hb1.size q2.size, fun q hq => (q2.block q (by have := hb1.size; omega) (by have := hb1.size; omega) (fun e => by have := hn1 q e; omega)).trans (hb1.block q hq)⟩, fun q hq => ?_⟩
    · rw [her, ← hdl]
      exact q1
    · rcases q3 q (by simpa [Value.ownBlock] using hq) with h6 | h6
      · exact hn1 q h6
      · have := hb1.size; omega
/-- One is others. -/
theorem tds_set {w : World} {g ca k : Nat} {T : List (List Fl.Tx)} (h : Tds w (.slice (some ⟨g, 0, none⟩) T.length ca) T) {F : List Fl.Tx} {fv : Value} (hf : Sl w fv F) : Tds (w.setCell ⟨g, k, none⟩ fv) (.slice (some ⟨g, 0, none⟩) T.length ca) (T.set k F) := by
  obtain ⟨rows, h1, h3, h5⟩ := id h
  have hrl := tds_len h1
  have hns := h5 g rfl
  rcases h1.2 with ⟨hz, _⟩ | ⟨g', cap, cur, hv, hb, hh, hnc, hcm, hcs, htk⟩
  · cases hz
  injection hv with hv _ hv2
  injection hv with hv
  injection hv with hv _ _
  subst hv
  subst hv2
  have e9 := rd_set (i := k) fv hh
  have hsl : ∀ y fu, Sl w fu y → Sl (w.setCell ⟨g, k, none⟩ fv) fu y := fun y fu hy => hy.kept fun q hq hn => Below.heap_setCell _ _ _ _ fun e => hn (by have e : q = g := e; rw [e]; exact noT_str hns)
  refine ⟨rows.set k fv, ⟨by rw [List.length_set, List.length_set]; omega, Or.inr ⟨g, ca, _, by rw [List.length_set], hb, e9, by rw [List.length_set]; exact hnc, hcm, by rw [Array.size_setIfInBounds]; exact hcs, ?_⟩⟩, fun j G u hj hu => ?_, fun q hq => ?_⟩
  · rw [List.length_set, Array.toList_setIfInBounds, List.take_set, htk]
  · rw [List.getElem?_set] at hj hu
    by_cases hjk : k = j
    · rw [if_pos hjk] at hj hu
      split at hj
      · split at hu
        · obtain rfl := Option.some.inj hj
          obtain rfl := Option.some.inj hu
          exact hsl _ _ hf
        · cases hu
      · cases hj
    · rw [if_neg hjk] at hj hu
      exact hsl _ _ (h3 j G u hj hu)
  · obtain rfl : g = q := by simpa [Value.ownBlock] using hq
    refine allC_of e9 fun u hu => ?_
    rw [Array.toList_setIfInBounds] at hu
    rcases List.mem_or_eq_of_mem_set hu with h | h
    · exact allC_all hh hns u h
    · rw [h]; exact (noT_sl hf).1
end Go.Proofs.YtkneeoaeoiaefaaDoor
namespace Go.Proofs.YtkneeoaeoiaefaaDoor
open Go.RowKit Go.Proofs.Aid Go.Proofs.Bx

/-- One number more. -/
theorem push_num {w : World} {base : Nat} {vb : Option Addr} {cb : Nat} {ns : List Int} (hn : NOwn w base (.slice vb ns.length cb) ns) (hL : ns.length ≤ 1000) (u : Int) (hbase : base ≤ w.heap.size) :
    ∃ g cap W, (Builtin.append_ #[53, 53] 53 #[.slice vb ns.length cb, .slice (some ⟨w.heap.size, 0, none⟩) 1 1]).run Tryd.prog (w.alloc (.cells #[.int .i64 u] 3)) = .ok (.slice (some ⟨g, 0, none⟩) (ns.length + 1) cap) W ∧
      NOwn W base (.slice (some ⟨g, 0, none⟩) (ns.length + 1) cap) (ns ++ [u]) ∧ Below base w W := by
  obtain ⟨g, cap, W, h1, _, h2, h3⟩ := push_went (w0 := w) (L := []) (va := none) (ca := 0) ⟨[], World.ownsRow_nil _ _ _ _, rfl, fun j x xs h => (by simp at h), fun xs h => (by cases h)⟩ hn hL u hbase
  exact ⟨g, cap, W, h1, h2, h3⟩
set_option maxHeartbeats 2000000 in
set_option maxRecDepth 100000 in
theorem view_uids (vb : Nat) (sv : Value) (S : List Sg) (w : World) (h : ViewAt w vb sv S) (hS : S.length ≤ 1000) :
    Calls Tryd.prog 13 #[.pointer (some ⟨vb, 0, none⟩)] w fun e w' =>
      ∃ ov, e = .returned ov ∧ NOwn w' w.heap.size ov (S.map Sg.uid) ∧ Below w.heap.size w w' := by
  obtain ⟨y1, y2⟩ := h
  obtain ⟨a, c, rfl⟩ := sgs_form y2
  have p2 : w.cell? ⟨vb, 0, none⟩ = some (.slice a S.length c) := rd_cell y1 rfl
  have HL : Hid (Sgs w (.slice a S.length c) S) := y2
  obtain ⟨m, hm⟩ : ∃ m, S.length = m := ⟨_, rfl⟩
  have HM : Hid (S.length = m) := hm
  rw [hm] at p2 hS
  clear y1 y2 hm
  go_enter Tryd.func13, Tryd.ntmps13
  go_wp2_with fail
  go_loopw [3, 11] (fun ov i wr => ∃ (k : Nat) (vo : Option Addr) (n2 c2 : Nat), i = .int .i64 (k : Int) ∧ k ≤ m ∧ ov = .slice vo n2 c2 ∧ Hid (n2 = ((S.take k).map Sg.uid).length ∧ NOwn wr w.heap.size (.slice vo n2 c2) ((S.take k).map Sg.uid) ∧ Below w.heap.size w wr)) (fun _ i _ => m - (intOf i).toNat)
  case atStart => exact ⟨0, none, 0, 0, rfl, Nat.zero_le _, rfl, rfl, World.ownsRow_nil _ _ _ _, Below.refl _ _⟩
  case round =>
    obtain ⟨k, vo, n2, c2, rfl, hk, rfl, HI⟩ := hrel
    by_cases hlt : k < m
    · have hkl : k < S.length := by rw [HM.out]; exact hlt
      obtain ⟨x, hx⟩ : ∃ x, S[k] = x := ⟨_, rfl⟩
      have hxk : S[k]? = some x := by rw [List.getElem?_eq_getElem hkl, hx]
      obtain ⟨g, cg, fv, e0, hg2, q0, q1, hsf⟩ := sgs_at HL.out hxk
      injection e0 with e0 _ e1
      subst e0
      subst e1
      replace q0 := (HI.out.2.2.cell (p := ⟨g, _, none⟩) hg2).trans q0
      replace q1 := (HI.out.2.2.cell (p := ⟨g, _, none⟩) hg2).trans q1
      obtain ⟨XU, hXU⟩ : ∃ z, x.uid = z := ⟨_, rfl⟩
      rw [hXU] at q0
      have HNX : Hid ((S.take (k + 1)).map Sg.uid = (S.take k).map Sg.uid ++ [XU]) := by
        unfold Hid
        rw [List.take_add_one, hxk, ← hXU]
        simp
      obtain ⟨fa, fc, hfv, _⟩ := id hsf
      obtain ⟨FL, hFL⟩ : ∃ n, x.flags.length = n := ⟨_, rfl⟩
      rw [hFL] at hfv
      subst hfv
      have eA := heap_alloc_new wr (.cells #[.int .i64 XU, .slice fa FL fc] 72)
      have bA : Below wr.heap.size wr (wr.alloc (.cells #[.int .i64 XU, .slice fa FL fc] 72)) := (Below.refl _ _).alloc (Nat.le_refl _) _
      obtain ⟨W2, hW2⟩ : ∃ W, wr.alloc (.cells #[.int .i64 XU, .slice fa FL fc] 72) = W := ⟨_, rfl⟩
      rw [hW2] at eA bA
      have hb02 : Below w.heap.size w W2 := HI.out.2.2.trans (bA.mono HI.out.2.2.size)
      have a0 : W2.cell? ⟨wr.heap.size, 0, none⟩ = some (.int .i64 XU) := rd_cell eA rfl
      have kN := HI.out.2.1.below bA
      have HN : Hid (n2 = ((S.take k).map Sg.uid).length) := HI.out.1
      have hle : ((S.take k).map Sg.uid).length ≤ 1000 := by rw [List.length_map, List.length_take]; omega
      rw [HN.out] at kN
      obtain ⟨g9, cap9, W9, hrun, hN9, hb9⟩ := push_num kN hle XU hb02.size
      rw [← HN.out] at hrun hN9
      have HRUN : Hid ((Builtin.append_ #[53, 53] 53 #[.slice vo n2 c2, .slice (some ⟨W2.heap.size, 0, none⟩) 1 1]).run Tryd.prog (W2.alloc (.cells #[.int .i64 XU] 3)) = .ok (.slice (some ⟨g9, 0, none⟩) (n2 + 1) cap9) W9) := hrun
      have HD : Hid (n2 + 1 = ((S.take (k + 1)).map Sg.uid).length ∧ NOwn W9 w.heap.size (.slice (some ⟨g9, 0, none⟩) (n2 + 1) cap9) ((S.take (k + 1)).map Sg.uid) ∧ Below w.heap.size w W9) := by
        have hNX := HNX.out
        rw [hNX]
        exact ⟨by rw [List.length_append, ← HN.out]; rfl, hN9, hb02.trans hb9⟩
      clear hx hxk hXU hFL eA bA hb02 kN hrun hN9 hb9 hsf HNX hle HI hkl hg2
      go_wp2_with (at_builtin; go_must (refine Go.Lib.wpList_append_run _ rfl (.tmp 15) (.tmp 18) 53 53 rfl _ _ rfl rfl _ W9 HRUN.out ?_))
      go_roundw
      case rel => exact ⟨k + 1, _, _, _, by go_num, by omega, rfl, HD⟩
      case measure => simp [intOf]; omega
    · obtain rfl : k = m := by omega
      have hI := HI.out
      rw [List.take_of_length_le (by rw [HM.out]; exact Nat.le_refl _)] at hI
      have HF : Hid (NOwn wr w.heap.size (.slice vo n2 c2) (S.map Sg.uid) ∧ Below w.heap.size w wr) := hI.2
      clear hI HI
      go_wp2_with fail
      go_ret
      exact ⟨_, rfl, HF.out⟩
end Go.Proofs.YtkneeoaeoiaefaaDoor
namespace Go.Proofs.YtkneeoaeoiaefaaDoor
open Go.RowKit Go.Proofs.Aid Go.Proofs.Bx

structure VSt (w2 : World) (H vb : Nat) (n : Int) (l : List Lt) (S : List Sg) (T : List (List Fl.Tx)) (wr : World) (sv tv : Value) : Prop where
  box : BoxAt wr H 1 n l
  inv : BInv n l
  view : ViewAt wr vb sv S
  td : Tds wr tv T
  hv : H < vb
  hsv : ∀ q, sv.ownBlock = some q → H < q
  htv : ∀ q, tv.ownBlock = some q → H < q
  below : Below H w2 wr
theorem boxAt_noStr {w : World} {bb : Nat} {v n : Int} {l : List Lt} (h : BoxAt w bb v n l) : NoStr w bb := by
  obtain ⟨lv, h1, h2⟩ := h
  obtain ⟨a, c, rfl, _⟩ := h2
  exact noStr_box h1 ⟨_, _, _, rfl⟩
theorem VSt.size {w2 : World} {H vb : Nat} {n : Int} {l : List Lt} {S : List Sg} {T : List (List Fl.Tx)} {wr : World} {sv tv : Value} (h : VSt w2 H vb n l S T wr sv tv) : H < wr.heap.size := h.box.lt
theorem VSt.same {w2 : World} {H vb : Nat} {n : Int} {l : List Lt} {S : List Sg} {T : List (List Fl.Tx)} {wr w' : World} {sv tv : Value} (h : VSt w2 H vb n l S T wr sv tv) (hb : Below wr.heap.size wr w') : VSt w2 H vb n l S T w' sv tv :=
  ⟨h.box.below hb (Nat.le_refl _), h.inv, h.view.below hb, h.td.below hb, h.hv, h.hsv, h.htv, h.below.trans (hb.mono (Nat.le_of_lt h.size))⟩
theorem tds_off {w : World} {v : Value} {T : List (List Fl.Tx)} (h : Tds w v T) {b : Nat} {arr : Array Value} {t : TypeId} {fz : Nat × Nat} (hh : w.heap[b]? = some (.cells arr t fz)) (hne : 34 ≠ t) : v.ownBlock ≠ some b := by
  obtain ⟨rows, h1, _⟩ := h
  exact row_off h1 hh hne
theorem tds_sgs {w : World} {v sv : Value} {T : List (List Fl.Tx)} {S : List Sg} (h : Tds w v T) (hs : Sgs w sv S) {q : Nat} (hq : v.ownBlock = some q) : sv.ownBlock ≠ some q := by
  obtain ⟨rows, h1, _⟩ := h
  obtain ⟨rows2, h2, _⟩ := hs
  exact own_apart h1 h2 (by decide) hq
/-- A deed. -/
theorem VSt.deed {w2 : World} {H vb : Nat} {n n' : Int} {l l' : List Lt} {S : List Sg} {T : List (List Fl.Tx)} {wr w' : World} {sv tv : Value} (h : VSt w2 H vb n l S T wr sv tv) (hb : BoxAt w' H 1 n' l') (hi : BInv n' l') (hbut : But wr.heap.size H wr w') : VSt w2 H vb n' l' S T w' sv tv := by
  have hns := boxAt_noStr h.box
  refine ⟨hb, hi, h.view.but hbut (by have := h.hv; omega) hns (fun e => by have := h.hsv H e; omega), h.td.same fun q hq hh => hbut.block q hq fun e => ?_, h.hv, h.hsv, h.htv, h.below.trans (hbut.below (Nat.le_of_lt h.size) (Nat.le_refl _))⟩
  rcases hh with hh | hh
  · have := h.htv q hh; omega
  · exact hh (by rw [e]; exact hns)
/-- A look. -/
theorem VSt.look {w2 : World} {H vb : Nat} {n : Int} {l : List Lt} {S S' : List Sg} {T : List (List Fl.Tx)} {wr w' : World} {sv tv : Value} (h : VSt w2 H vb n l S T wr sv tv) (hn : VNext wr vb sv w' S') : ∃ sv', VSt w2 H vb n l S' T w' sv' tv := by
  obtain ⟨sv', h1, hk, hnr⟩ := hn
  have hH := h.size
  have hHs : sv.ownBlock ≠ some H := fun e => by have := h.hsv H e; omega
  refine ⟨sv', ⟨?_, h.inv, h1, h.td.same fun q hq hh => ?_, h.hv, fun q hq => ?_, h.htv, h.below.trans ⟨hk.os, hk.tape, hk.output, hk.size, fun q hq => hk.block q (by omega) (by have := h.hv; omega) (fun e => by have := h.hsv q e; omega)⟩⟩⟩
  · obtain ⟨lv, d1, d2⟩ := h.box
    exact ⟨lv, (hk.block H hH (by have := h.hv; omega) hHs).trans d1, d2.vkeep hk h.view⟩
  · rcases hh with hh | hh
    · exact hk.block q hq (fun e => tds_off h.td h.view.1 (by decide) (by rw [← e]; exact hh)) (tds_sgs h.td h.view.2 hh)
    · exact hk.texts h.view hq hh
  · rcases hnr q hq with h2 | h2
    · exact h.hsv q h2
    · omega
/-- What is told is taken. -/
theorem VSt.told {w2 : World} {H vb : Nat} {n : Int} {l : List Lt} {S : List Sg} {T T' : List (List Fl.Tx)} {wr w' : World} {sv tv tv' : Value} (h : VSt w2 H vb n l S T wr sv tv) (ht : Tds w' tv' T') (hk : VKeep wr.heap.size tv wr w') (hnr : Near wr tv tv') : VSt w2 H vb n l S T' w' sv tv' := by
  have hH := h.size
  have hkk : ∀ q, q < wr.heap.size → tv.ownBlock ≠ some q → w'.heap[q]? = wr.heap[q]? := fun q hq hne => hk.block q hq (by omega) hne
  have htx : ∀ q, q < wr.heap.size → ¬ NoStr wr q → w'.heap[q]? = wr.heap[q]? := fun q hq hn => hkk q hq fun e => hn (h.td.noStr e)
  have hHt : tv.ownBlock ≠ some H := fun e => by have := h.htv H e; omega
  refine ⟨?_, h.inv, ⟨(hkk vb h.view.lt (tds_off h.td h.view.1 (by decide))).trans h.view.1, h.view.2.same fun q hq hh => ?_⟩, ht, h.hv, h.hsv, fun q hq => ?_, h.below.trans ⟨hk.os, hk.tape, hk.output, hk.size, fun q hq => hkk q (by omega) (fun e => by have := h.htv q e; omega)⟩⟩
  · obtain ⟨lv, d1, d2⟩ := h.box
    refine ⟨lv, (hkk H hH hHt).trans d1, ?_⟩
    obtain ⟨a, c, h1, h0, h2⟩ := d2
    refine ⟨a, c, h1, h0, ?_⟩
    rcases h2 with h2 | ⟨b, o, h3, h4⟩
    · exact Or.inl h2
    · refine Or.inr ⟨b, o, h3, fun j x hj => ?_⟩
      obtain ⟨q1, ⟨fv, q2, q3⟩, q4, q5⟩ := h4 j x hj
      have e := htx b (World.block_lt_of_cell? _ _ q5) fun hn => hn _ _ q5
      have ec : ∀ i, w'.cell? ⟨b, i, none⟩ = wr.cell? ⟨b, i, none⟩ := fun i => World.cell?_of_block (a := ⟨b, i, none⟩) e
      exact ⟨(ec _).trans q1, ⟨fv, (ec _).trans q2, q3.kept htx⟩, (ec _).trans q4, (ec _).trans q5⟩
  · rcases hh with hh | hh
    · exact hkk q hq fun e => tds_sgs h.td h.view.2 e hh
    · exact htx q hq hh
  · rcases hnr q hq with h2 | h2
    · exact h.htv q h2
    · omega
/-- News stay while what is told is taken. -/
theorem Nws.told {wr w' : World} {nv tv : Value} {N : List Nw} {T : List (List Fl.Tx)} (h : Nws wr nv N) (ht : Tds wr tv T) (hk : VKeep wr.heap.size tv wr w') : Nws w' nv N := by
  refine h.same fun q hq hh => hk.block q hq (by omega) fun e => ?_
  rcases hh with hh | hh
  · obtain ⟨rows, h1, _⟩ := h
    obtain ⟨rows2, h2, _⟩ := ht
    exact own_apart h1 h2 (by decide) hh e
  · exact hh (ht.noStr e)
theorem NOwn.told {wr w' : World} {uv tv : Value} {us : List Int} {T : List (List Fl.Tx)} {base : Nat} (h : NOwn wr base uv us) (ht : Tds wr tv T) (hk : VKeep wr.heap.size tv wr w') : NOwn w' base uv us := by
  refine own_same h fun q hq => hk.block q (h.lt q hq).2 (by have := (h.lt q hq).2; omega) fun e => ?_
  obtain ⟨rows2, h2, _⟩ := ht
  rcases h.2 with ⟨h3, _⟩ | ⟨g, _, cur, h3, _, hh, _⟩
  · rw [h3] at hq; cases hq
  · rw [h3] at hq
    obtain rfl : g = q := by simpa [Value.ownBlock] using hq
    exact row_off h2 hh (by decide) e
theorem nown_at {w : World} {base : Nat} {v : Value} {us : List Int} (h : NOwn w base v us) {j : Nat} {u : Int} (hj : us[j]? = some u) : ∃ g c, v = .slice (some ⟨g, 0, none⟩) us.length c ∧ w.cell? ⟨g, j, none⟩ = some (.int .i64 u) := by
  have hjl := (List.getElem?_eq_some_iff.1 hj).1
  rcases h.2 with ⟨_, h3⟩ | ⟨g, c, cur, h3, _⟩
  · omega
  · refine ⟨g, c, h3, ?_⟩
    have := h.cells (g := g) (by rw [h3]; rfl) j (.int .i64 u) (by rw [List.getElem?_map, hj]; rfl)
    rw [Addr.add_lit, Nat.zero_add] at this
    exact this
end Go.Proofs.YtkneeoaeoiaefaaDoor
