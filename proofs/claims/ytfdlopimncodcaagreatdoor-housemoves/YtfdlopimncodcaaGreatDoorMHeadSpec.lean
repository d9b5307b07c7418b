/-
  Heads of messages, plain mathematics: letters great and small, where a head ends, its pieces. Of no program.
-/
import Derived.Test.YtfdlopimncodcaaGreatDoorBpAid
import Derived.Lib.SplitLaws
import Derived.Lib.IndexMore
namespace Go.Proofs.Hd
open Go.Proofs.Sq

abbrev Tx := List UInt8
/-- A letter of A to Z as a small one; of a to z as a great one. -/
def sm (c : UInt8) : UInt8 := if 65 ≤ c.toNat ∧ c.toNat ≤ 90 then c + 32 else c
def gr (c : UInt8) : UInt8 := if 97 ≤ c.toNat ∧ c.toNat ≤ 122 then c - 32 else c
def small (s : Tx) : Tx := s.map sm
def great (s : Tx) : Tx := s.map gr
theorem sm_gr (c : UInt8) : sm (gr c) = sm c := by
  have h : ∀ n : Fin 256, sm (gr (UInt8.ofNat n.val)) = sm (UInt8.ofNat n.val) := by decide +kernel
  have := h ⟨c.toNat, c.toNat_lt⟩
  simpa using this
theorem gr_sm (c : UInt8) : gr (sm c) = gr c := by
  have h : ∀ n : Fin 256, gr (sm (UInt8.ofNat n.val)) = gr (UInt8.ofNat n.val) := by decide +kernel
  have := h ⟨c.toNat, c.toNat_lt⟩
  simpa using this
theorem sm_sm (c : UInt8) : sm (sm c) = sm c := by
  have h : ∀ n : Fin 256, sm (sm (UInt8.ofNat n.val)) = sm (UInt8.ofNat n.val) := by decide +kernel
  have := h ⟨c.toNat, c.toNat_lt⟩
  simpa using this
theorem small_great (s : Tx) : small (great s) = small s := by
  unfold small great; rw [List.map_map]; exact List.map_congr_left fun c _ => sm_gr c
theorem great_small (s : Tx) : great (small s) = great s := by
  unfold small great; rw [List.map_map]; exact List.map_congr_left fun c _ => gr_sm c
theorem small_small (s : Tx) : small (small s) = small s := by
  unfold small; rw [List.map_map]; exact List.map_congr_left fun c _ => sm_sm c
theorem small_length (s : Tx) : (small s).length = s.length := List.length_map ..
theorem great_length (s : Tx) : (great s).length = s.length := List.length_map ..

/-- How long the head is; b: a line begins here. -/
def headLen : Bool → Tx → Nat
  | _, [] => 0
  | _, [_] => 1
  | b, c :: d :: r => if c = 13 ∧ d = 10 then (if b then 2 else 2 + headLen true r) else 1 + headLen false (d :: r)
/-- What stands between the CR LFs. -/
def pieces : Tx → List Tx
  | [] => [[]]
  | [c] => [[c]]
  | c :: d :: r => if c = 13 ∧ d = 10 then [] :: pieces r else (c :: (pieces (d :: r)).headD []) :: (pieces (d :: r)).tail
theorem headLen_le : ∀ (b : Bool) (s : Tx), headLen b s ≤ s.length
  | _, [] => by simp [headLen]
  | _, [_] => by simp [headLen]
  | b, c :: d :: r => by
    have h1 := headLen_le true r
    have h2 := headLen_le false (d :: r)
    rw [headLen]
    simp only [List.length_cons] at h2 ⊢
    split
    · split <;> omega
    · omega
theorem pieces_ne : ∀ (s : Tx), pieces s ≠ []
  | [] => by simp [pieces]
  | [c] => by simp [pieces]
  | c :: d :: r => by rw [pieces]; split <;> simp
theorem index_cons (b : UInt8) (r sub : Tx) : Lib.index (b :: r) sub = if sub.isPrefixOf (b :: r) then 0 else if Lib.index r sub = -1 then -1 else Lib.index r sub + 1 := by
  rw [Lib.index]
  split
  · rfl
  · simp only [beq_iff_eq]
/-- A head ends behind the first empty line. -/
theorem headLen_false : ∀ (s : Tx), headLen false s = if 0 ≤ Lib.index s [13, 10, 13, 10] then (Lib.index s [13, 10, 13, 10]).toNat + 4 else s.length
  | [] => by simp [headLen, Lib.index]
  | [c] => by simp [headLen, Lib.index, List.isPrefixOf]
  | c :: d :: r => by
    have ih := headLen_false (d :: r)
    have ih2 := headLen_false r
    have hg := Lib.index_ge r [13, 10, 13, 10]
    have hg2 := Lib.index_ge (d :: r) [13, 10, 13, 10]
    rw [headLen]
    by_cases h : c = 13 ∧ d = 10
    · obtain ⟨rfl, rfl⟩ := h
      rw [if_pos ⟨rfl, rfl⟩, if_neg (by simp)]
      match r, ih2 with
      | [], _ => simp [headLen, Lib.index, List.isPrefixOf]
      | [e], _ => simp [headLen, Lib.index, List.isPrefixOf]
      | e :: f :: q, ih2 =>
        by_cases h2 : e = 13 ∧ f = 10
        · obtain ⟨rfl, rfl⟩ := h2
          rw [headLen, if_pos ⟨rfl, rfl⟩, if_pos rfl]
          have e0 : Lib.index (13 :: 10 :: 13 :: 10 :: q) [13, 10, 13, 10] = 0 := by rw [index_cons, if_pos (by simp [List.isPrefixOf])]
          rw [e0]
          rfl
        · have e1 : headLen true (e :: f :: q) = headLen false (e :: f :: q) := by rw [headLen, headLen, if_neg h2, if_neg h2]
          have n0 : ([13, 10, 13, 10] : Tx).isPrefixOf (13 :: 10 :: e :: f :: q) = false := by
            cases hp : ([13, 10, 13, 10] : Tx).isPrefixOf (13 :: 10 :: e :: f :: q) with
            | false => rfl
            | true =>
              simp [List.isPrefixOf] at hp
              exact absurd ⟨hp.1.symm, hp.2.symm⟩ h2
          have n1 : ([13, 10, 13, 10] : Tx).isPrefixOf (10 :: e :: f :: q) = false := by simp [List.isPrefixOf]
          rw [e1, ih2, index_cons 13 (10 :: e :: f :: q), n0, index_cons 10 (e :: f :: q), n1]
          simp only [Bool.false_eq_true, if_false]
          generalize Lib.index (e :: f :: q) [13, 10, 13, 10] = z at hg
          by_cases hz : z = -1
          · subst hz; simp; omega
          · have : ¬ z + 1 = -1 := by omega
            rw [if_neg hz, if_neg this, if_pos (by omega), if_pos (by omega)]
            omega
    · rw [if_neg h, ih, index_cons c (d :: r)]
      have n0 : ([13, 10, 13, 10] : Tx).isPrefixOf (c :: d :: r) = false := by
        cases hp : ([13, 10, 13, 10] : Tx).isPrefixOf (c :: d :: r) with
        | false => rfl
        | true =>
          simp [List.isPrefixOf] at hp
          exact absurd ⟨hp.1.symm, hp.2.1.symm⟩ h
      rw [n0]
      simp only [Bool.false_eq_true, if_false]
      generalize Lib.index (d :: r) [13, 10, 13, 10] = z at hg2
      by_cases hz : z = -1
      · subst hz; simp; omega
      · rw [if_neg hz, if_pos (by omega), if_pos (by omega)]
        omega
theorem headLen_true (s : Tx) : headLen true s = if ([13, 10] : Tx).isPrefixOf s then 2 else if 0 ≤ Lib.index s [13, 10, 13, 10] then (Lib.index s [13, 10, 13, 10]).toNat + 4 else s.length := by
  rw [← headLen_false]
  match s with
  | [] => rfl
  | [c] => simp [headLen, List.isPrefixOf]
  | c :: d :: r =>
    by_cases h : c = 13 ∧ d = 10
    · obtain ⟨rfl, rfl⟩ := h
      simp [headLen, List.isPrefixOf]
    · have : ([13, 10] : Tx).isPrefixOf (c :: d :: r) = false := by
        cases hp : ([13, 10] : Tx).isPrefixOf (c :: d :: r) with
        | false => rfl
        | true =>
          simp [List.isPrefixOf] at hp
          exact absurd ⟨hp.1.symm, hp.2.symm⟩ h
      rw [this, headLen, headLen, if_neg h, if_neg h]
      simp
/-- A line, and what stands behind it. -/
theorem headLen_line {p : Tx} (hp : 13 ∉ p) (hne : p ≠ []) (rest : Tx) : headLen true (p ++ 13 :: 10 :: rest) = p.length + 2 + headLen true rest := by
  have hb : ∀ (q : Tx) (b : Bool), 13 ∉ q → headLen false (q ++ 13 :: 10 :: rest) = q.length + 2 + headLen true rest := by
    intro q
    induction q with
    | nil => intro b _; simp [headLen]
    | cons c q ih =>
      intro b hq
      have hc : c ≠ 13 := fun h => hq (by simp [h])
      have h2 := ih b (fun h => hq (List.mem_cons_of_mem _ h))
      have e : headLen false (c :: (q ++ 13 :: 10 :: rest)) = 1 + headLen false (q ++ 13 :: 10 :: rest) := by
        cases hx : q ++ 13 :: 10 :: rest with
        | nil => simp at hx
        | cons d r => rw [headLen, if_neg (fun h => hc h.1)]
      rw [List.cons_append, e, h2, List.length_cons]
      omega
  cases p with
  | nil => exact absurd rfl hne
  | cons c q =>
    have hc : c ≠ 13 := fun h => hp (by simp [h])
    have e : headLen true (c :: (q ++ 13 :: 10 :: rest)) = headLen false (c :: (q ++ 13 :: 10 :: rest)) := by
      cases hx : q ++ 13 :: 10 :: rest with
      | nil => simp at hx
      | cons d r => rw [headLen, headLen, if_neg (fun h => hc h.1), if_neg (fun h => hc h.1)]
    rw [List.cons_append, e, ← List.cons_append, hb _ true hp]
theorem pieces_line {p : Tx} (hp : 13 ∉ p) (rest : Tx) : pieces (p ++ 13 :: 10 :: rest) = p :: pieces rest := by
  induction p with
  | nil => simp [pieces]
  | cons c q ih =>
    have hc : c ≠ 13 := fun h => hp (by simp [h])
    have h2 := ih (fun h => hp (List.mem_cons_of_mem _ h))
    rw [List.cons_append]
    cases hx : q ++ 13 :: 10 :: rest with
    | nil => simp at hx
    | cons d r =>
      rw [pieces, if_neg (fun h => hc h.1), ← hx, h2]
      rfl
/-- A text's pieces by its first CR LF. -/
theorem pieces_index : ∀ (s : Tx), pieces s = if Lib.index s [13, 10] = -1 then [s] else s.take (Lib.index s [13, 10]).toNat :: pieces (s.drop ((Lib.index s [13, 10]).toNat + 2))
  | [] => by simp [pieces, Lib.index]
  | [c] => by simp [pieces, Lib.index, List.isPrefixOf]
  | c :: d :: r => by
    have ih := pieces_index (d :: r)
    have hg := Lib.index_ge (d :: r) [13, 10]
    rw [pieces]
    by_cases h : c = 13 ∧ d = 10
    · obtain ⟨rfl, rfl⟩ := h
      have e0 : Lib.index (13 :: 10 :: r) [13, 10] = 0 := by rw [index_cons, if_pos (by simp [List.isPrefixOf])]
      rw [if_pos ⟨rfl, rfl⟩, e0]
      simp
    · have n0 : ([13, 10] : Tx).isPrefixOf (c :: d :: r) = false := by
        cases hp : ([13, 10] : Tx).isPrefixOf (c :: d :: r) with
        | false => rfl
        | true =>
          simp [List.isPrefixOf] at hp
          exact absurd ⟨hp.1.symm, hp.2.symm⟩ h
      rw [if_neg h, ih, index_cons c (d :: r), n0]
      simp only [Bool.false_eq_true, if_false]
      generalize Lib.index (d :: r) [13, 10] = z at hg
      by_cases hz : z = -1
      · subst hz; simp
      · have hz1 : ¬ z + 1 = -1 := by omega
        rw [if_neg hz, if_neg hz, if_neg hz1]
        have e : (z + 1).toNat = z.toNat + 1 := by omega
        rw [e]
        simp
theorem splitK_pieces : ∀ (k : Nat) (s : Tx), (pieces s).length ≤ k + 1 → Lib.splitK [13, 10] 0 k s = pieces s
  | 0, s, h => by
    rw [pieces_index] at h ⊢
    split at h
    · next h1 => rw [if_pos h1]; rfl
    · next h1 =>
      have := List.length_pos_iff.2 (pieces_ne (s.drop ((Lib.index s [13, 10]).toNat + 2)))
      simp only [List.length_cons] at h
      omega
  | k + 1, s, h => by
    rw [pieces_index] at h ⊢
    rw [Lib.splitK]
    by_cases h1 : Lib.index s [13, 10] = -1
    · rw [if_pos h1, if_pos (beq_iff_eq.2 h1)]
    · rw [if_neg h1] at h ⊢
      rw [if_neg (fun e => h1 (beq_iff_eq.1 e)), splitK_pieces k _ (by simp only [List.length_cons] at h; exact Nat.le_of_succ_le_succ h)]
      rfl
theorem pieces_length : ∀ (s : Tx), ∀ p ∈ pieces s, p.length ≤ s.length
  | [], p, h => by simp [pieces] at h; simp [h]
  | [c], p, h => by simp [pieces] at h; simp [h]
  | c :: d :: r, p, h => by
    have h1 := pieces_length r
    have h2 := pieces_length (d :: r)
    rw [pieces] at h
    split at h
    · rcases List.mem_cons.1 h with rfl | h
      · simp
      · have := h1 p h; simp only [List.length_cons]; omega
    · rcases List.mem_cons.1 h with rfl | h
      · cases hb : pieces (d :: r) with
        | nil => exact absurd hb (pieces_ne _)
        | cons q qs =>
          have := h2 q (by rw [hb]; exact List.mem_cons_self)
          simp only [List.headD_cons, List.length_cons] at this ⊢; omega
      · have := h2 p (List.mem_of_mem_tail h); simp only [List.length_cons] at this ⊢; omega
theorem pieces_count : ∀ (k : Nat) (s : Tx), s.length < k → (pieces s).length = Lib.countFrom [13, 10] k s + 1
  | 0, s, h => absurd h (Nat.not_lt_zero _)
  | k + 1, s, h => by
    rw [pieces_index, Lib.countFrom]
    by_cases h1 : Lib.index s [13, 10] = -1
    · rw [if_pos h1, if_pos (beq_iff_eq.2 h1)]; rfl
    · have hr := Lib.index_room s [13, 10] (by have := Lib.index_ge s [13, 10]; omega)
      have hg := Lib.index_ge s [13, 10]
      have h2 : ([13, 10] : Tx).length = 2 := rfl
      rw [h2] at hr
      have ih := pieces_count k (s.drop ((Lib.index s [13, 10]).toNat + 2)) (by rw [List.length_drop]; omega)
      rw [if_neg h1, if_neg (fun e => h1 (beq_iff_eq.1 e)), List.length_cons, ih]
      show _ = 1 + Lib.countFrom [13, 10] k (s.drop ((Lib.index s [13, 10]).toNat + 2)) + 1
      omega
theorem split_pieces (s : ByteArray) : (Lib.splitB ⟨#[13, 10]⟩ 0 (Lib.countB s ⟨#[13, 10]⟩) s).map (·.data.toList) = pieces s.data.toList := by
  rw [Lib.splitB_data]
  refine splitK_pieces _ _ ?_
  have : Lib.countB s ⟨#[13, 10]⟩ = Lib.count s.data.toList [13, 10] := rfl
  rw [this, Lib.count, pieces_count _ _ (Nat.lt_succ_self _)]
  exact Nat.le_refl _
end Go.Proofs.Hd
