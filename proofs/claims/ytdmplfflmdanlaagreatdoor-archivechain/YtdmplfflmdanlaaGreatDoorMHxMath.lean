/-
  What a house has stays whole: names in which a box lies are there, through all that is done.
-/
import Derived.Test.YtdmplfflmdanlaaGreatDoorBpHsBOwn
namespace Go.Proofs.YtdmplfflmdanlaaGreatDoor
open Go.RowKit Go.Proofs.Aid

/-- All in which a box lies are there. -/
def Wh (l : Bxs) : Prop := ∀ n, hasB l n = true → ∀ i, n[i]? = some 47 → hasB l (n.take i) = true
theorem has_putB {l : Bxs} (hs : SortedB l) {n m : Nm} {b : Nat} : hasB (putB n b l) m = true ↔ m = n ∨ hasB l m = true := by
  rw [hasB_true, hasB_true]
  constructor
  · rintro ⟨c, hc⟩
    rcases (mem_putB hs).1 hc with ⟨h1, _⟩ | ⟨_, h2⟩
    · exact Or.inl h1
    · exact Or.inr ⟨c, h2⟩
  · intro h
    by_cases hm : m = n
    · exact ⟨b, (mem_putB hs).2 (Or.inl ⟨hm, rfl⟩)⟩
    · rcases h with h | ⟨c, hc⟩
      · exact absurd h hm
      · exact ⟨c, (mem_putB hs).2 (Or.inr ⟨hm, hc⟩)⟩
theorem has_putAll {m : Nm} : ∀ (ps l : Bxs), SortedB l → (hasB (putAll l ps) m = true ↔ m ∈ ps.map Prod.fst ∨ hasB l m = true)
  | [], l, _ => by simp [putAll]
  | p :: ps, l, hs => by
    have ih := has_putAll (m := m) ps (putB p.1 p.2 l) (sorted_putB hs)
    rw [has_putB hs] at ih
    show hasB (putAll (putB p.1 p.2 l) ps) m = true ↔ _
    rw [ih, List.map_cons, List.mem_cons]
    constructor
    · rintro (h | h | h)
      · exact Or.inl (Or.inr h)
      · exact Or.inl (Or.inl h)
      · exact Or.inr h
    · rintro ((h | h) | h)
      · exact Or.inr (Or.inl h)
      · exact Or.inl h
      · exact Or.inr (Or.inr h)
theorem mem_lack {l : Bxs} {n m : Nm} : m ∈ lackB l n ↔ ∃ i, n[i]? = some 47 ∧ hasB l (n.take i) = false ∧ m = n.take i := by
  unfold lackB lackTo
  rw [List.mem_map]
  constructor
  · rintro ⟨i, hi, rfl⟩
    obtain ⟨h1, h2⟩ := List.mem_filter.1 hi
    have hlt := List.mem_range.1 h1
    simp only [Bool.and_eq_true, decide_eq_true_eq, Bool.not_eq_true'] at h2
    refine ⟨i, ?_, h2.2, rfl⟩
    have := h2.1
    rw [List.getD_eq_getElem?_getD, List.getElem?_eq_getElem hlt] at this
    rw [List.getElem?_eq_getElem hlt]
    exact congrArg some this
  · rintro ⟨i, h1, h2, rfl⟩
    obtain ⟨hlt, he⟩ := List.getElem?_eq_some_iff.1 h1
    refine ⟨i, List.mem_filter.2 ⟨List.mem_range.2 hlt, ?_⟩, rfl⟩
    simp only [Bool.and_eq_true, decide_eq_true_eq, Bool.not_eq_true']
    refine ⟨?_, h2⟩
    rw [List.getD_eq_getElem?_getD, h1]
    rfl
theorem take_slash {n : Nm} {i j : Nat} (h : (n.take j)[i]? = some 47) : i < j ∧ n[i]? = some 47 ∧ (n.take j).take i = n.take i := by
  rw [List.getElem?_take] at h
  split at h
  · rename_i hij
    exact ⟨hij, h, by rw [List.take_take, Nat.min_eq_left (Nat.le_of_lt hij)]⟩
  · cases h
/-- Boxes in which one lies are made: names ahead of it. -/
theorem wh_lack {l : Bxs} {r : Nm} {ps : Bxs} (hs : SortedB l) (hw : Wh l) (hp : ps.map Prod.fst = lackB l r) : Wh (putAll l ps) ∧ ∀ i, r[i]? = some 47 → hasB (putAll l ps) (r.take i) = true := by
  have hr : ∀ i, r[i]? = some 47 → hasB (putAll l ps) (r.take i) = true := fun i hi => by
    rw [has_putAll ps l hs, hp]
    cases hb : hasB l (r.take i) with
    | true => exact Or.inr rfl
    | false => exact Or.inl (mem_lack.2 ⟨i, hi, hb, rfl⟩)
  refine ⟨fun n hn i hi => ?_, hr⟩
  rw [has_putAll ps l hs, hp] at hn
  rcases hn with hn | hn
  · obtain ⟨j, hj, _, rfl⟩ := mem_lack.1 hn
    obtain ⟨_, h2, h3⟩ := take_slash hi
    rw [h3]
    exact hr i h2
  · exact (has_putAll ps l hs).2 (Or.inr (hw n hn i hi))
theorem wh_create {l : Bxs} {r : Nm} {ps : Bxs} (hs : SortedB l) (hw : Wh l) (hp : ps.map Prod.fst = lackB l r ++ [r]) : Wh (putAll l ps) := by
  have hr : ∀ i, r[i]? = some 47 → hasB (putAll l ps) (r.take i) = true := fun i hi => by
    rw [has_putAll ps l hs, hp]
    cases hb : hasB l (r.take i) with
    | true => exact Or.inr rfl
    | false => exact Or.inl (List.mem_append.2 (Or.inl (mem_lack.2 ⟨i, hi, hb, rfl⟩)))
  intro n hn i hi
  rw [has_putAll ps l hs, hp] at hn
  rcases hn with hn | hn
  · rcases List.mem_append.1 hn with hn | hn
    · obtain ⟨j, hj, _, rfl⟩ := mem_lack.1 hn
      obtain ⟨_, h2, h3⟩ := take_slash hi
      rw [h3]
      exact hr i h2
    · rw [List.mem_singleton.1 hn] at hi ⊢
      exact hr i hi
  · exact (has_putAll ps l hs).2 (Or.inr (hw n hn i hi))
theorem in_iff {a b : Nm} : inB a b = true ↔ ∃ t, a = b ++ 47 :: t := by
  unfold inB Lib.hasPrefix
  rw [List.isPrefixOf_iff_prefix]
  constructor
  · rintro ⟨t, ht⟩
    exact ⟨t, by rw [← ht]; simp⟩
  · rintro ⟨t, rfl⟩
    exact ⟨t, by simp⟩
theorem in_take {n : Nm} {i : Nat} (h : n[i]? = some 47) : inB n (n.take i) = true := in_iff.2 ⟨_, cut_at h⟩
theorem mem_within {l : Bxs} {n m : Nm} : m ∈ withinB l n ↔ hasB l m = true ∧ inB m n = true := by
  unfold withinB namesB
  rw [List.mem_filter, List.mem_map, hasB_true]
  constructor
  · rintro ⟨⟨⟨p, b⟩, hp, rfl⟩, h2⟩
    exact ⟨⟨b, hp⟩, h2⟩
  · rintro ⟨⟨b, hp⟩, h2⟩
    exact ⟨⟨_, hp, rfl⟩, h2⟩
theorem has_delB {l : Bxs} {n m : Nm} : hasB (delB l n) m = true ↔ m ≠ n ∧ hasB l m = true := by
  rw [hasB_true, hasB_true]
  constructor
  · rintro ⟨b, hb⟩
    exact ⟨(mem_delB.1 hb).1, b, (mem_delB.1 hb).2⟩
  · rintro ⟨h1, b, hb⟩
    exact ⟨b, mem_delB.2 ⟨h1, hb⟩⟩
theorem wh_delete {l : Bxs} {r : Nm} (hw : Wh l) (h0 : withinB l r = []) : Wh (delB l r) := fun n hn i hi => by
  obtain ⟨h1, h2⟩ := has_delB.1 hn
  refine has_delB.2 ⟨fun e => ?_, hw n h2 i hi⟩
  have h3 : n ∈ withinB l r := mem_within.2 ⟨h2, by rw [← e]; exact in_take hi⟩
  rw [h0] at h3
  exact List.not_mem_nil h3
theorem mem_mvStep_iff {t n x : Nm} {l : Bxs} (hs : SortedB l) (hx : hasB l x = true) (hf : hasB l (calledB t n x) = false) {m : Nm} {c : Nat} : (m, c) ∈ mvStep t n l x ↔ ((m, c) ∈ l ∧ m ≠ x) ∨ ((x, c) ∈ l ∧ m = calledB t n x) := by
  obtain ⟨b, hb, hm⟩ := lookB_some hx
  unfold mvStep
  rw [hb]
  have hne : calledB t n x ≠ x := fun e => by rw [e, hx] at hf; cases hf
  show (m, c) ∈ delB (putB (calledB t n x) b l) x ↔ _
  rw [mem_delB, mem_putB hs]
  constructor
  · rintro ⟨h1, ⟨h2, h3⟩ | ⟨h2, h3⟩⟩
    · exact Or.inr ⟨by rw [h3]; exact hm, h2⟩
    · exact Or.inl ⟨h3, h1⟩
  · rintro (⟨h1, h2⟩ | ⟨h1, h2⟩)
    · refine ⟨h2, Or.inr ⟨fun e => ?_, h1⟩⟩
      rw [e] at h1
      exact (hasB_false.1 hf) c h1
    · exact ⟨by rw [h2]; exact hne, Or.inl ⟨h2, sorted_one hs h1 hm⟩⟩
theorem mem_mvAll_iff {t n : Nm} : ∀ (xs : List Nm) (l : Bxs), SortedB l → xs.Nodup → (∀ x ∈ xs, hasB l x = true ∧ hasB l (calledB t n x) = false) → (∀ x ∈ xs, ∀ y ∈ xs, calledB t n x = calledB t n y → x = y) → ∀ (m : Nm) (c : Nat), (m, c) ∈ mvAll t n xs l ↔ ((m, c) ∈ l ∧ m ∉ xs) ∨ ∃ x ∈ xs, (x, c) ∈ l ∧ m = calledB t n x
  | [], l, _, _, _, _, m, c => by simp [mvAll]
  | x :: xs, l, hs, hd, hx, hi, m, c => by
    obtain ⟨hd1, hd2⟩ := List.nodup_cons.1 hd
    obtain ⟨hx1, hx2⟩ := hx x List.mem_cons_self
    have hst : ∀ (m : Nm) (c : Nat), (m, c) ∈ mvStep t n l x ↔ ((m, c) ∈ l ∧ m ≠ x) ∨ ((x, c) ∈ l ∧ m = calledB t n x) := fun m c => mem_mvStep_iff hs hx1 hx2
    have hne : ∀ y ∈ xs, y ≠ x ∧ y ≠ calledB t n x := fun y hy => ⟨fun e => hd1 (e ▸ hy), fun e => by
      have := (hx y (List.mem_cons_of_mem _ hy)).1
      rw [e, hx2] at this
      cases this⟩
    have ih := mem_mvAll_iff (t := t) (n := n) xs (mvStep t n l x) (mvStep_sorted hs) hd2 (fun y hy => by
      obtain ⟨y1, y2⟩ := hx y (List.mem_cons_of_mem _ hy)
      refine ⟨?_, hasB_false.2 fun c hc => ?_⟩
      · obtain ⟨b, hb⟩ := hasB_true.1 y1
        exact hasB_true.2 ⟨b, (hst y b).2 (Or.inl ⟨hb, (hne y hy).1⟩)⟩
      · rcases (hst _ c).1 hc with ⟨h1, _⟩ | ⟨_, h2⟩
        · exact (hasB_false.1 y2) c h1
        · exact (hne y hy).1 (hi y (List.mem_cons_of_mem _ hy) x List.mem_cons_self h2)) (fun a ha b hb => hi a (List.mem_cons_of_mem _ ha) b (List.mem_cons_of_mem _ hb)) m c
    show (m, c) ∈ mvAll t n xs (mvStep t n l x) ↔ _
    rw [ih]
    constructor
    · rintro (⟨h1, h2⟩ | ⟨y, hy, h1, h2⟩)
      · rcases (hst m c).1 h1 with ⟨h3, h4⟩ | ⟨h3, h4⟩
        · exact Or.inl ⟨h3, fun hm => (List.mem_cons.1 hm).elim h4 h2⟩
        · exact Or.inr ⟨x, List.mem_cons_self, h3, h4⟩
      · rcases (hst y c).1 h1 with ⟨h3, _⟩ | ⟨_, h4⟩
        · exact Or.inr ⟨y, List.mem_cons_of_mem _ hy, h3, h2⟩
        · exact absurd h4 (hne y hy).2
    · rintro (⟨h1, h2⟩ | ⟨y, hy, h1, h2⟩)
      · exact Or.inl ⟨(hst m c).2 (Or.inl ⟨h1, fun e => h2 (e ▸ List.mem_cons_self)⟩), fun hm => h2 (List.mem_cons_of_mem _ hm)⟩
      · rcases List.mem_cons.1 hy with rfl | hy
        · refine Or.inl ⟨(hst m c).2 (Or.inr ⟨h1, h2⟩), fun hm => ?_⟩
          exact (hne m hm).2 h2
        · exact Or.inr ⟨y, hy, (hst y c).2 (Or.inl ⟨h1, (hne y hy).1⟩), h2⟩
/-- What stands behind a name, or nothing. -/
def Rest (t : Nm) : Prop := t = [] ∨ ∃ u, t = 47 :: u
theorem mem_mvNames {l : Bxs} {n x : Nm} (hn : hasB l n = true) : x ∈ mvNames l n ↔ hasB l x = true ∧ ∃ t, Rest t ∧ x = n ++ t := by
  unfold mvNames
  rw [List.mem_append, mem_within, List.mem_singleton]
  constructor
  · rintro (⟨h1, h2⟩ | rfl)
    · obtain ⟨t, rfl⟩ := in_iff.1 h2
      exact ⟨h1, _, Or.inr ⟨t, rfl⟩, rfl⟩
    · exact ⟨hn, [], Or.inl rfl, by simp⟩
  · rintro ⟨h1, t, h2 | ⟨u, h2⟩, h3⟩
    · exact Or.inr (by rw [h3, h2, List.append_nil])
    · exact Or.inl ⟨h1, in_iff.2 ⟨u, by rw [h3, h2]⟩⟩
theorem called_app (t n x : Nm) : calledB t n (n ++ x) = t ++ x := by
  unfold calledB Lib.trimPrefix Lib.hasPrefix
  rw [if_pos (List.isPrefixOf_iff_prefix.2 ⟨x, rfl⟩), List.drop_left]
/-- All that a move wants, and what it makes. -/
theorem move_mem {l : Bxs} {N T : Nm} {ps : Bxs} (hs : SortedB l) (hw : Wh l) (hN : hasB l N = true) (hT : hasB l T = false) (_hin : inB T N = false) (hp : ps.map Prod.fst = lackB l T) :
    (∀ x ∈ mvNames l N, hasB (putAll l ps) x = true ∧ hasB (putAll l ps) (calledB T N x) = false) ∧ ∀ (m : Nm) (c : Nat), (m, c) ∈ mvAll T N (mvNames l N) (putAll l ps) ↔ ((m, c) ∈ putAll l ps ∧ m ∉ mvNames l N) ∨ ∃ x ∈ mvNames l N, (x, c) ∈ putAll l ps ∧ m = calledB T N x := by
  have h1 : ∀ x ∈ mvNames l N, hasB (putAll l ps) x = true ∧ hasB (putAll l ps) (calledB T N x) = false := fun x hx => by
    obtain ⟨q1, t, q2, rfl⟩ := (mem_mvNames hN).1 hx
    refine ⟨(has_putAll ps l hs).2 (Or.inr q1), ?_⟩
    rw [called_app, ← Bool.not_eq_true, has_putAll ps l hs, hp]
    rintro (h | h)
    · obtain ⟨i, hi, _, h3⟩ := mem_lack.1 h
      obtain ⟨hlt, _⟩ := List.getElem?_eq_some_iff.1 hi
      have := congrArg List.length h3
      rw [List.length_append, List.length_take] at this
      omega
    · rcases q2 with rfl | ⟨u, rfl⟩
      · rw [List.append_nil, hT] at h
        cases h
      · have := hw _ h T.length (by simp)
        rw [List.take_left, hT] at this
        cases this
  refine ⟨h1, mem_mvAll_iff _ _ (putAll_sorted ps l hs) (mvNames_nodup hs N) h1 fun x hx y hy e => ?_⟩
  obtain ⟨_, t, _, rfl⟩ := (mem_mvNames hN).1 hx
  obtain ⟨_, u, _, rfl⟩ := (mem_mvNames hN).1 hy
  rw [called_app, called_app] at e
  rw [List.append_cancel_left e]
theorem not_moved {l : Bxs} {N T : Nm} {ps : Bxs} (hs : SortedB l) (hN : hasB l N = true) (hin : inB T N = false) (hp : ps.map Prod.fst = lackB l T) {m : Nm} {i : Nat} (hm : hasB (putAll l ps) m = true ∧ m ∉ mvNames l N ∨ m = T) (hi : m[i]? = some 47) : m.take i ∉ mvNames l N := fun h => by
  obtain ⟨h1, t, h2, h3⟩ := (mem_mvNames hN).1 h
  have h4 := cut_at hi
  have h5 : inB m N = true := by
    rw [h4, h3]
    rcases h2 with rfl | ⟨u, rfl⟩
    · exact in_iff.2 ⟨m.drop (i + 1), by simp⟩
    · exact in_iff.2 ⟨u ++ 47 :: m.drop (i + 1), by simp⟩
  rcases hm with ⟨hm1, hm2⟩ | rfl
  · rw [has_putAll ps l hs, hp] at hm1
    rcases hm1 with hm1 | hm1
    · obtain ⟨j, hj, _, rfl⟩ := mem_lack.1 hm1
      obtain ⟨t', ht'⟩ := in_iff.1 h5
      have h6 := cut_at hj
      have h7 : inB T N = true := in_iff.2 ⟨t' ++ 47 :: T.drop (j + 1), by
        have h8 := h6
        rw [ht'] at h8
        rw [List.append_assoc, List.cons_append] at h8
        exact h8⟩
      rw [h7] at hin
      cases hin
    · obtain ⟨t', ht'⟩ := in_iff.1 h5
      exact hm2 ((mem_mvNames hN).2 ⟨hm1, _, Or.inr ⟨t', rfl⟩, ht'⟩)
  · rw [h5] at hin
    cases hin
theorem wh_move {l : Bxs} {N T : Nm} {ps : Bxs} (hs : SortedB l) (hw : Wh l) (hN : hasB l N = true) (hT : hasB l T = false) (hin : inB T N = false) (hp : ps.map Prod.fst = lackB l T) : Wh (mvAll T N (mvNames l N) (putAll l ps)) := by
  obtain ⟨_, hmem⟩ := move_mem hs hw hN hT hin hp
  obtain ⟨hw1, hT1⟩ := wh_lack hs hw hp
  intro m hm i hi
  obtain ⟨c, hc⟩ := hasB_true.1 hm
  rcases (hmem m c).1 hc with ⟨h1, h2⟩ | ⟨x, hx, h1, rfl⟩
  · obtain ⟨d, hd⟩ := hasB_true.1 (hw1 m (hasB_true.2 ⟨c, h1⟩) i hi)
    exact hasB_true.2 ⟨d, (hmem _ d).2 (Or.inl ⟨hd, not_moved hs hN hin hp (Or.inl ⟨hasB_true.2 ⟨c, h1⟩, h2⟩) hi⟩)⟩
  · obtain ⟨q1, t, q2, rfl⟩ := (mem_mvNames hN).1 hx
    rw [called_app] at hi ⊢
    by_cases hlt : i < T.length
    · rw [List.getElem?_append_left hlt] at hi
      rw [List.take_append_of_le_length (Nat.le_of_lt hlt)]
      obtain ⟨d, hd⟩ := hasB_true.1 (hT1 i hi)
      exact hasB_true.2 ⟨d, (hmem _ d).2 (Or.inl ⟨hd, not_moved hs hN hin hp (Or.inr rfl) hi⟩)⟩
    · rw [List.getElem?_append_right (by omega)] at hi
      have h3 : hasB l (N ++ t.take (i - T.length)) = true := by
        have := hw _ q1 (N.length + (i - T.length)) (by rw [List.getElem?_append_right (by omega), Nat.add_sub_cancel_left]; exact hi)
        rw [List.take_append, List.take_of_length_le (by omega), Nat.add_sub_cancel_left] at this
        exact this
      have h4 : Rest (t.take (i - T.length)) := by
        rcases q2 with rfl | ⟨u, rfl⟩
        · simp at hi
        · cases h5 : i - T.length with
          | zero => exact Or.inl rfl
          | succ k => exact Or.inr ⟨u.take k, rfl⟩
      have h6 : N ++ t.take (i - T.length) ∈ mvNames l N := (mem_mvNames hN).2 ⟨h3, _, h4, rfl⟩
      obtain ⟨d, hd⟩ := hasB_true.1 ((has_putAll ps l hs).2 (Or.inr h3))
      refine hasB_true.2 ⟨d, (hmem _ d).2 (Or.inr ⟨_, h6, hd, ?_⟩)⟩
      rw [called_app, List.take_append, List.take_of_length_le (by omega)]
/-- Names as boxes are called, through all that is done. -/
def NmsOk (l : Bxs) : Prop := ∀ n, hasB l n = true → nameB n = some n
theorem nms_lack {l : Bxs} {r m : Nm} (hr : nameB r = some r) (hm : m ∈ lackB l r) : nameB m = some m := by
  obtain ⟨i, hi, _, rfl⟩ := mem_lack.1 hm
  exact name_take hr hi
theorem nms_create {l : Bxs} {r : Nm} {ps : Bxs} (hs : SortedB l) (h : NmsOk l) (hr : nameB r = some r) (hp : ps.map Prod.fst = lackB l r ++ [r]) : NmsOk (putAll l ps) := fun n hn => by
  rw [has_putAll ps l hs, hp] at hn
  rcases hn with hn | hn
  · rcases List.mem_append.1 hn with hn | hn
    · exact nms_lack hr hn
    · rw [List.mem_singleton.1 hn]
      exact hr
  · exact h n hn
theorem nms_delete {l : Bxs} {r : Nm} (h : NmsOk l) : NmsOk (delB l r) := fun n hn => h n (has_delB.1 hn).2
theorem nms_move {l : Bxs} {N T : Nm} {ps : Bxs} (hs : SortedB l) (h : NmsOk l) (hw : Wh l) (hN : hasB l N = true) (hT : hasB l T = false) (hin : inB T N = false) (hp : ps.map Prod.fst = lackB l T) (hr : nameB T = some T) (hlong : ((mvNames l N).any fun x => decide (60 < (calledB T N x).length)) = false) : NmsOk (mvAll T N (mvNames l N) (putAll l ps)) := fun m hm => by
  obtain ⟨_, hmem⟩ := move_mem hs hw hN hT hin hp
  obtain ⟨c, hc⟩ := hasB_true.1 hm
  rcases (hmem m c).1 hc with ⟨h1, h2⟩ | ⟨x, hx, h1, rfl⟩
  · have h3 := hasB_true.2 ⟨c, h1⟩
    rw [has_putAll ps l hs, hp] at h3
    rcases h3 with h3 | h3
    · exact nms_lack hr h3
    · exact h m h3
  · obtain ⟨q1, t, q2, rfl⟩ := (mem_mvNames hN).1 hx
    have hl := List.any_eq_false.1 hlong _ hx
    rw [called_app] at hl ⊢
    rcases q2 with rfl | ⟨u, rfl⟩
    · rw [List.append_nil]
      exact hr
    · exact name_behind hr (h _ q1) (by simpa using hl)
theorem inbox_move {l : Bxs} {N T : Nm} {ps : Bxs} (hs : SortedB l) (hw : Wh l) (hN : hasB l N = true) (hT : hasB l T = false) (hin : inB T N = false) (hp : ps.map Prod.fst = lackB l T) (hI : hasB l inboxN = true) (hne : N ≠ inboxN) : hasB (mvAll T N (mvNames l N) (putAll l ps)) inboxN = true := by
  obtain ⟨_, hmem⟩ := move_mem hs hw hN hT hin hp
  obtain ⟨c, hc⟩ := hasB_true.1 ((has_putAll ps l hs).2 (Or.inr hI))
  refine hasB_true.2 ⟨c, (hmem _ c).2 (Or.inl ⟨hc, fun hm => ?_⟩)⟩
  obtain ⟨_, t, q2, q3⟩ := (mem_mvNames hN).1 hm
  rcases q2 with rfl | ⟨u, rfl⟩
  · exact hne (by rw [q3, List.append_nil])
  · have : (47 : UInt8) ∈ inboxN := by rw [q3]; simp
    exact absurd this (by decide)
/-- What is whole hangs nowhere. -/
theorem not_hang {l : Bxs} (hw : Wh l) {n : Nm} (hn : hasB l n = true) : hangB (namesB l) ⟨n.toArray⟩ = false := by
  unfold hangB
  rcases Lib.lastIdx_spec ⟨n.toArray⟩ 47 (⟨n.toArray⟩ : ByteArray).size with ⟨h1, _⟩ | ⟨i, h1, h2, h3, _⟩
  · rw [show Lib.lastIndexByte ⟨n.toArray⟩ 47 = -1 from h1]
    rfl
  · rw [show Lib.lastIndexByte ⟨n.toArray⟩ 47 = (i : Int) from h2]
    have hi : i < n.length := by
      have : (⟨n.toArray⟩ : ByteArray).size = n.length := ba_size n
      omega
    have h4 : n[i]? = some 47 := by
      have h5 : (((⟨n.toArray⟩ : ByteArray).data[i]!).toNat : Int) = 47 := h3
      have h6 : (⟨n.toArray⟩ : ByteArray).data[i]! = n[i] := by
        show n.toArray[i]! = n[i]
        rw [getElem!_pos _ _ (by rw [List.size_toArray]; exact hi)]
        simp
      rw [h6] at h5
      rw [List.getElem?_eq_getElem hi]
      congr 1
      apply UInt8.toNat_inj.1
      have : (47 : UInt8).toNat = 47 := rfl
      omega
    obtain ⟨b, hb⟩ := hasB_true.1 (hw n hn i h4)
    have h7 : n.take i ∈ namesB l := List.mem_map.2 ⟨_, hb, rfl⟩
    rw [show ((i : Int)).toNat = i from rfl]
    simp [h7]
end Go.Proofs.YtdmplfflmdanlaaGreatDoor
