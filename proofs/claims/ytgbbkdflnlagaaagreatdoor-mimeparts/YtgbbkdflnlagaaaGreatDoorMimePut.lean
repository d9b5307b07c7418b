/-
  What is put together of texts, with a boundary that none of them has, has just these as parts. Of no program.
  Where parts lie, line by line as the document's answer goes about it; how parts are written. Of no program.
  The parts of a text are no greater than the text. Of no program.
-/
import Derived.Test.YtgbbkdflnlagaaaGreatDoorMimeSpec
import Derived.Test.YtgbbkdflnlagaaaGreatDoorHeadBounds
namespace Go.Proofs.Mm
open Go.Proofs.Sq Go.Proofs.Hd

theorem pieces_append (rest : Tx) : ∀ x : Tx, pieces (x ++ 13 :: 10 :: rest) = pieces x ++ pieces rest
  | [] => by simp [pieces]
  | [c] => by
    show pieces (c :: 13 :: 10 :: rest) = _
    have h0 : pieces (13 :: 10 :: rest) = [] :: pieces rest := by rw [pieces, if_pos ⟨rfl, rfl⟩]
    have h1 : pieces (c :: 13 :: 10 :: rest) = (c :: (pieces (13 :: 10 :: rest)).headD []) :: (pieces (13 :: 10 :: rest)).tail := by
      rw [pieces, if_neg (by rintro ⟨_, h⟩; exact absurd h (by decide))]
    rw [h1, h0]
    rfl
  | c :: d :: r => by
    have h1 := pieces_append rest r
    have h2 := pieces_append rest (d :: r)
    show pieces (c :: d :: (r ++ 13 :: 10 :: rest)) = _
    rw [pieces, pieces]
    by_cases h : c = 13 ∧ d = 10
    · rw [if_pos h, if_pos h, h1]; rfl
    · rw [if_neg h, if_neg h]
      rw [List.cons_append] at h2
      rw [h2]
      cases hp : pieces (d :: r) with
      | nil => exact absurd hp (pieces_ne _)
      | cons q qs => rfl
theorem pieces_infix : ∀ x q : Tx, q ∈ pieces x → ∃ a b, x = a ++ q ++ b ∧ (a = [] → pieces x = q :: (pieces x).tail ∨ True)
  | x, q, h => by
    have key : ∀ (x q : Tx), (q ∈ (pieces x).tail → ∃ a b, x = a ++ q ++ b) ∧ ∃ b, x = (pieces x).headD [] ++ b := by
      intro x
      induction hn : x.length using Nat.strongRecOn generalizing x with
      | ind n ih =>
        match x, hn with
        | [], _ => intro q; simp [pieces]
        | [c], _ => intro q; simp [pieces]
        | c :: d :: r, hn =>
          intro q
          simp only [List.length_cons] at hn
          rw [pieces]
          by_cases hc : c = 13 ∧ d = 10
          · rw [if_pos hc]
            refine ⟨fun hq => ?_, ⟨c :: d :: r, rfl⟩⟩
            have hq' : q ∈ pieces r := hq
            obtain ⟨h1, b, h2⟩ := ih r.length (by omega) r rfl q
            cases hp : pieces r with
            | nil => exact absurd hp (pieces_ne _)
            | cons p ps =>
              rw [hp] at hq' h1 h2
              rcases List.mem_cons.1 hq' with rfl | hq'
              · exact ⟨[c, d], b, by rw [h2]; rfl⟩
              · obtain ⟨a, b, h3⟩ := h1 hq'
                exact ⟨c :: d :: a, b, by rw [h3]; simp⟩
          · rw [if_neg hc]
            obtain ⟨h1, b, h2⟩ := ih (d :: r).length (by simp; omega) (d :: r) rfl q
            refine ⟨fun hq => ?_, ⟨b, ?_⟩⟩
            · obtain ⟨a, b, h3⟩ := h1 hq
              exact ⟨c :: a, b, by rw [h3]; rfl⟩
            · show c :: (d :: r) = c :: ((pieces (d :: r)).headD [] ++ b)
              rw [← h2]
    obtain ⟨h1, b, h2⟩ := key x q
    cases hp : pieces x with
    | nil => exact absurd hp (pieces_ne _)
    | cons p ps =>
      rw [hp] at h h1 h2
      rcases List.mem_cons.1 h with rfl | h
      · exact ⟨[], b, h2, fun _ => Or.inr trivial⟩
      · obtain ⟨a, b, h3⟩ := h1 h
        exact ⟨a, b, h3, fun _ => Or.inr trivial⟩
theorem room_append (a b : List Tx) : room (a ++ b) = room a + room b := by
  induction a with
  | nil => simp [room]
  | cons l ls ih => simp only [List.cons_append, room]; omega
theorem room_pieces : ∀ x : Tx, room (pieces x) = x.length + 2
  | [] => rfl
  | [c] => rfl
  | c :: d :: r => by
    have h1 := room_pieces r
    have h2 := room_pieces (d :: r)
    rw [pieces]
    split
    · simp only [room, List.length_cons, List.length_nil]; omega
    · cases hp : pieces (d :: r) with
      | nil => exact absurd hp (pieces_ne _)
      | cons q qs =>
        rw [hp] at h2
        simp only [room, List.headD_cons, List.tail_cons, List.length_cons] at h2 ⊢
        omega
theorem spans_skip (n : Nat) (mark : Tx) (beg : Option Nat) (rest : List Tx) : ∀ (ls : List Tx) (place : Nat), (∀ q ∈ ls, rtrim q ≠ mark ∧ rtrim q ≠ mark ++ [45, 45]) → place + room ls ≤ n → spans n mark place beg (ls ++ rest) = spans n mark (place + room ls) beg rest
  | [], place, _, _ => rfl
  | l :: ls, place, h, hr => by
    have h1 := h l List.mem_cons_self
    rw [room] at hr
    rw [List.cons_append, spans, if_neg h1.1, if_neg h1.2, show min (place + l.length + 2) n = place + l.length + 2 by omega, spans_skip n mark beg rest ls _ (fun q hq => h q (List.mem_cons_of_mem _ hq)) (by omega), room]
    congr 1
    omega
theorem rtrim_of {l : Tx} (h : ∀ c, l.getLast? = some c → blk c = false) : rtrim l = l := by
  unfold rtrim Lib.trimRightS
  rw [dropWhile_of_head (by simpa using h), List.reverse_reverse]
theorem rtrim_part (q : Tx) : ∃ b, q = rtrim q ++ b := by
  refine ⟨(q.reverse.takeWhile (([32, 9] : Tx).contains ·)).reverse, ?_⟩
  unfold rtrim Lib.trimRightS
  rw [← List.reverse_append, List.takeWhile_append_dropWhile, List.reverse_reverse]
/-- A boundary that may be. -/
structure Bd (bd : Tx) : Prop where
  ne : bd ≠ []
  ok : ∀ c ∈ bd, c ≠ 32 ∧ c ≠ 9 ∧ c ≠ 13 ∧ c ≠ 10 ∧ c ≠ 0 ∧ c ≠ 59 ∧ c ≠ 61 ∧ c ≠ 34
theorem Bd.last {bd : Tx} (h : Bd bd) (pre : Tx) : ∀ c, (pre ++ bd).getLast? = some c → blk c = false := by
  intro c hc
  have hm : c ∈ bd := by
    rw [List.getLast?_append] at hc
    cases hx : bd.getLast? with
    | none => exact absurd (List.getLast?_eq_none_iff.1 hx) h.ne
    | some d => rw [hx] at hc; cases hc; exact List.mem_of_getLast? hx
  have := h.ok c hm
  simp [blk, this.1, this.2.1]
theorem Bd.no13 {bd : Tx} (h : Bd bd) : 13 ∉ bd := fun hm => (h.ok 13 hm).2.2.1 rfl
theorem pieces_one {p : Tx} (hp : 13 ∉ p) : pieces p = [p] := by
  have h := pieces_line hp []
  have h2 := pieces_append [] p
  rw [h] at h2
  have : pieces p ++ [[]] = [p] ++ [[]] := h2.symm
  exact List.append_cancel_right this
def bodyM (bd : Tx) : List Tx → Tx
  | [] => (45 :: 45 :: bd ++ [45, 45]) ++ 13 :: 10 :: []
  | x :: l => (45 :: 45 :: bd) ++ 13 :: 10 :: ([] ++ 13 :: 10 :: (x ++ 13 :: 10 :: bodyM bd l))
def spansM (bd : Tx) : Nat → List Tx → List (Nat × Nat)
  | _, [] => []
  | p, x :: l => (p + bd.length + 4, p + bd.length + 6 + x.length) :: spansM bd (p + bd.length + 8 + x.length) l
/-- A text in which the boundary's dashes are not. -/
def NoDash (x : Tx) : Prop := ∀ a b : Tx, x ≠ a ++ 45 :: 45 :: b
theorem noDash_pieces {x : Tx} (h : NoDash x) (bd : Tx) : ∀ q ∈ pieces x, rtrim q ≠ 45 :: 45 :: bd ∧ rtrim q ≠ (45 :: 45 :: bd) ++ [45, 45] := by
  intro q hq
  obtain ⟨a, b, hx, _⟩ := pieces_infix x q hq
  obtain ⟨e, he⟩ := rtrim_part q
  constructor
  · intro h1
    rw [h1] at he
    exact h a (bd ++ e ++ b) (by rw [hx, he]; simp)
  · intro h1
    rw [h1] at he
    exact h a (bd ++ [45, 45] ++ e ++ b) (by rw [hx, he]; simp)
theorem spans_body {bd : Tx} (hbd : Bd bd) (n : Nat) : ∀ (l : List Tx) (place : Nat) (beg : Option Nat), (∀ x ∈ l, NoDash x) → n = place + (bodyM bd l).length → spans n (45 :: 45 :: bd) place beg (pieces (bodyM bd l)) = close beg (place - 2) ++ spansM bd place l
  | [], place, beg, _, hn => by
    have h13 : 13 ∉ (45 :: 45 :: bd ++ [45, 45] : Tx) := by
      intro h
      simp only [List.cons_append, List.mem_cons, List.mem_append, List.mem_nil_iff, or_false] at h
      rcases h with h | h | h | h | h
      · exact absurd h (by decide)
      · exact absurd h (by decide)
      · exact hbd.no13 h
      · exact absurd h (by decide)
      · exact absurd h (by decide)
    have hr : rtrim (45 :: 45 :: bd ++ [45, 45]) = 45 :: 45 :: bd ++ [45, 45] := rtrim_of (fun c hc => by
      rw [List.getLast?_append] at hc
      cases hc; rfl)
    rw [bodyM, pieces_append, pieces_one h13, List.singleton_append, spans, hr, if_neg, if_pos rfl, spansM, List.append_nil]
    intro h
    have := congrArg List.length h
    simp at this
  | x :: l, place, beg, hx, hn => by
    have h13 : 13 ∉ (45 :: 45 :: bd : Tx) := by
      intro h
      simp only [List.mem_cons] at h
      rcases h with h | h | h
      · exact absurd h (by decide)
      · exact absurd h (by decide)
      · exact hbd.no13 h
    have hr : rtrim (45 :: 45 :: bd) = 45 :: 45 :: bd := rtrim_of (hbd.last [45, 45])
    have hlen : (bodyM bd (x :: l)).length = bd.length + 8 + x.length + (bodyM bd l).length := by rw [bodyM]; simp; omega
    rw [hlen] at hn
    rw [bodyM, pieces_append, pieces_one h13, List.singleton_append, spans, if_pos hr, pieces_append, pieces_append]
    have hm : min (place + (45 :: 45 :: bd : Tx).length + 2) n = place + bd.length + 4 := by simp only [List.length_cons]; omega
    have hroom : room (pieces [] ++ pieces x) = x.length + 4 := by rw [room_append, room_pieces, room_pieces]; simp; omega
    rw [hm, ← List.append_assoc (pieces []), spans_skip n _ _ _ (pieces [] ++ pieces x) _ (fun q hq => by
      rcases List.mem_append.1 hq with hq | hq
      · have : q = [] := by simpa [pieces] using hq
        subst this
        exact ⟨by simp [rtrim, Lib.trimRightS], by simp [rtrim, Lib.trimRightS]⟩
      · exact noDash_pieces (hx x List.mem_cons_self) bd q hq) (by rw [hroom]; omega), hroom,
      spans_body hbd n l _ _ (fun y hy => hx y (List.mem_cons_of_mem _ hy)) (by omega), spansM]
    rw [show place + bd.length + 4 + (x.length + 4) = place + bd.length + 8 + x.length by omega, show place + bd.length + 8 + x.length - 2 = place + bd.length + 6 + x.length by omega]
    show _ ++ (close (some (place + bd.length + 4)) _ ++ _) = _
    rw [close, show max (place + bd.length + 4) (place + bd.length + 6 + x.length) = place + bd.length + 6 + x.length by omega]
    rfl
def leaves (bd : Tx) : Nat → List Tx → List Pt
  | _, [] => []
  | o, x :: l => .mk plainT [] (o + bd.length + 6) (o + bd.length + 6 + x.length) (x.count 10) [] :: leaves bd (o + bd.length + 8 + x.length) l
theorem textOf_mid (A B C : Tx) : textOf (A ++ (B ++ C)) A.length (A.length + B.length) = B := by
  unfold textOf
  rw [List.drop_left, show A.length + B.length - A.length = B.length by omega, List.take_left]
theorem headLen_crlf (x : Tx) : headLen true (13 :: 10 :: x) = 2 := by rw [headLen, if_pos ⟨rfl, rfl⟩, if_pos rfl]
theorem kind_empty : kindOf [13, 10] = (plainT, []) := by decide
theorem leaf {m : Tx} (A x C : Tx) (hm : m = A ++ ((13 :: 10 :: x) ++ C)) (f c lo hi : Nat) (hlo : lo = A.length) (hhi : hi = A.length + 2 + x.length) (hc : c + 1 ≤ 30) : partF m (f + 1) lo hi c = (c + 1, some (.mk plainT [] (A.length + 2) hi (x.count 10) [])) := by
  have ht : textOf m lo hi = 13 :: 10 :: x := by
    rw [hm, hlo, hhi, show A.length + 2 + x.length = A.length + (13 :: 10 :: x : Tx).length by simp; omega]
    exact textOf_mid _ _ _
  have hh : headOf (13 :: 10 :: x) = [13, 10] := by unfold headOf; rw [headLen_crlf]; rfl
  have hb : bodyOf (13 :: 10 :: x) = x := by unfold bodyOf; rw [headLen_crlf]; rfl
  rw [partF, if_neg (by omega), ht, hh, hb, kind_empty, if_pos rfl]
  rw [show hi - x.length = A.length + 2 by omega]
theorem parts_body {bd m : Tx} (f d : Nat) : ∀ (l : List Tx) (place c : Nat) (Pre : Tx), m = Pre ++ bodyM bd l → Pre.length = place + d → c + l.length ≤ 30 → partsF (partF m (f + 1)) ((spansM bd place l).map fun x => (x.1 + d, x.2 + d)) c = (c + l.length, some (leaves bd Pre.length l))
  | [], place, c, Pre, _, _, _ => rfl
  | x :: l, place, c, Pre, hm, hp, hc => by
    have e : m = (Pre ++ (45 :: 45 :: bd ++ [13, 10])) ++ ((13 :: 10 :: x) ++ (13 :: 10 :: bodyM bd l)) := by rw [hm, bodyM]; simp
    have hA : (Pre ++ (45 :: 45 :: bd ++ [13, 10])).length = Pre.length + bd.length + 4 := by simp; omega
    have h1 := leaf _ _ _ e f c (place + bd.length + 4 + d) (place + bd.length + 6 + x.length + d) (by rw [hA]; omega) (by rw [hA]; omega) (by simp only [List.length_cons] at hc; omega)
    have h2 := parts_body (bd := bd) (m := m) f d l (place + bd.length + 8 + x.length) (c + 1) (Pre ++ (45 :: 45 :: bd ++ 13 :: 10 :: 13 :: 10 :: (x ++ [13, 10]))) (by rw [hm, bodyM]; simp) (by simp; omega) (by simp only [List.length_cons] at hc; omega)
    have hl2 : (Pre ++ (45 :: 45 :: bd ++ 13 :: 10 :: 13 :: 10 :: (x ++ [13, 10]))).length = Pre.length + bd.length + 8 + x.length := by simp; omega
    rw [hl2] at h2
    rw [spansM, List.map_cons, partsF, h1]
    simp only [h2]
    rw [leaves, hA, show place + bd.length + 6 + x.length + d = Pre.length + bd.length + 6 + x.length by omega, show Pre.length + bd.length + 4 + 2 = Pre.length + bd.length + 6 by omega]
    simp only [List.length_cons]
    congr 1
    omega
/-- The head of what is put together. -/
def ctName : Tx := [67, 111, 110, 116, 101, 110, 116, 45, 84, 121, 112, 101]
def mxT : Tx := [109, 117, 108, 116, 105, 112, 97, 114, 116, 47, 120]
def bEq : Tx := [32, 98, 111, 117, 110, 100, 97, 114, 121]
def valM (bd : Tx) : Tx := mxT ++ 59 :: (bEq ++ 61 :: (34 :: bd ++ [34]))
def headM (bd : Tx) : Tx := printed [(ctName, valM bd)]
theorem bd_quoted {bd : Tx} (h : Bd bd) : 59 ∉ (bEq ++ 61 :: (34 :: bd ++ [34])) := by
  intro hm
  rcases List.mem_append.1 hm with hm | hm
  · exact absurd hm (by decide)
  · rcases List.mem_cons.1 hm with hm | hm
    · exact absurd hm (by decide)
    · rcases List.mem_append.1 hm with hm | hm
      · rcases List.mem_cons.1 hm with hm | hm
        · exact absurd hm (by decide)
        · exact (h.ok _ hm).2.2.2.2.2.1 rfl
      · exact absurd hm (by decide)
theorem param_quoted {bd : Tx} (h : Bd bd) : paramOf (valM bd) bndryT = some bd := by
  have hb : between 59 (valM bd) = [mxT, bEq ++ 61 :: (34 :: bd ++ [34])] := by
    have h1 : (cutAt 59 (valM bd)) = (mxT, bEq ++ 61 :: (34 :: bd ++ [34]), true) := cutAt_of _ (by decide)
    have h2 := cutAt_hit (c := 59) (l := valM bd) (by rw [h1])
    rw [h2.2, h1]
    show mxT :: between 59 (bEq ++ 61 :: (34 :: bd ++ [34])) = _
    rw [between_none (bd_quoted h)]
  have hc : cutAt 61 (bEq ++ 61 :: (34 :: bd ++ [34])) = (bEq, 34 :: bd ++ [34], true) := cutAt_of _ (by decide)
  have hi : isParam bndryT (bEq ++ 61 :: (34 :: bd ++ [34])) = true := by
    unfold isParam
    rw [hc]
    show (true && decide (small (bare bEq) = small bndryT)) = true
    decide
  have ht : Hd.Trim (34 :: bd ++ [34]) := by
    constructor
    · intro c hc; cases hc; rfl
    · intro c hc
      rw [List.getLast?_append] at hc
      cases hc; rfl
  unfold paramOf
  rw [hb, List.tail_cons, List.find?_cons_of_pos hi]
  simp only [Option.map_some, hc]
  rw [bare_of_trim ht]
  unfold unq
  rw [if_pos ⟨by simp, rfl, by rw [List.getLast?_append]; rfl⟩]
  simp
theorem kindV_M {bd : Tx} (h : Bd bd) : kindV (valM bd) = (mxT, bd) := by
  have h1 : (cutAt 59 (valM bd)) = (mxT, bEq ++ 61 :: (34 :: bd ++ [34]), true) := cutAt_of _ (by decide)
  unfold kindV
  rw [h1, param_quoted h]
  have h2 : small (bare mxT) = mxT := by decide
  rw [h2, if_pos (by decide)]
  rfl
theorem good_M {bd : Tx} (h : Bd bd) : ∀ f ∈ [(ctName, valM bd)], Hd.Good f := by
  intro f hf
  obtain rfl := List.mem_singleton.1 hf
  refine ⟨(by decide : nameOk ctName = true), (by decide : (58 : UInt8) ∉ ctName), ?_, ?_, ?_⟩
  · intro c hc
    rcases List.mem_append.1 hc with hc | hc
    · exact (by decide : ∀ c ∈ mxT, isBad c = false) c hc
    · rcases List.mem_cons.1 hc with rfl | hc
      · rfl
      · rcases List.mem_append.1 hc with hc | hc
        · exact (by decide : ∀ c ∈ bEq, isBad c = false) c hc
        · rcases List.mem_cons.1 hc with rfl | hc
          · rfl
          · rcases List.mem_append.1 hc with hc | hc
            · rcases List.mem_cons.1 hc with rfl | hc
              · rfl
              · have := h.ok c hc
                simp [isBad, this.2.2.1, this.2.2.2.1, this.2.2.2.2.1]
            · rw [List.mem_singleton.1 hc]; rfl
  · intro c hc; cases hc; rfl
  · intro c hc
    have e : valM bd = (mxT ++ 59 :: (bEq ++ 61 :: (34 :: bd))) ++ [34] := by unfold valM; simp
    have hc' : (valM bd).getLast? = some c := hc
    rw [e, List.getLast?_append] at hc'
    cases hc'; rfl
theorem parse_M {bd : Tx} (h : Bd bd) (l : List Tx) (hl : ∀ x ∈ l, NoDash x) (hn : l.length ≤ 10) : parseP (headM bd ++ bodyM bd l) = some (.mk mxT bd (headM bd).length (headM bd ++ bodyM bd l).length ((bodyM bd l).count 10) (leaves bd (headM bd).length l)) := by
  have hg := good_M h
  obtain ⟨hh, hb⟩ := head_printed (l := [(ctName, valM bd)]) (bodyM bd l) hg
  have hf := fields_printed (l := [(ctName, valM bd)]) [] hg (by simp)
  rw [List.append_nil] at hf
  have hk : kindOf (headM bd) = (mxT, bd) := by
    unfold kindOf headM
    rw [hf, if_pos rfl]
    have : getF [(ctName, valM bd)] ctypeT = some (valM bd) := by
      unfold getF
      rw [List.find?_cons_of_pos (by show decide (small ctName = small ctypeT) = true; decide)]
      rfl
    rw [this]
    exact kindV_M h
  unfold parseP
  have ht : textOf (headM bd ++ bodyM bd l) 0 (headM bd ++ bodyM bd l).length = headM bd ++ bodyM bd l := by
    unfold textOf
    rw [List.drop_zero, List.take_of_length_le (by omega)]
  have hd : (headM bd ++ bodyM bd l).length - (bodyM bd l).length = (headM bd).length := by rw [List.length_append]; omega
  have hsp : insideOf (bodyM bd l) (45 :: 45 :: bd) = spansM bd 0 l := by
    have := spans_body h (bodyM bd l).length l 0 none hl (by omega)
    exact this
  have hps := parts_body (bd := bd) (m := headM bd ++ bodyM bd l) 5 (headM bd).length l 0 1 (headM bd) rfl (by omega) (by omega)
  rw [partF, if_neg (by omega), ht, show headOf (headM bd ++ bodyM bd l) = headM bd from hh, show bodyOf (headM bd ++ bodyM bd l) = bodyM bd l from hb, hk, if_neg h.ne, hd]
  simp only
  rw [hsp]
  simp only [Nat.zero_add]
  rw [hps]
theorem leaves_length (bd : Tx) : ∀ (l : List Tx) (o : Nat), (leaves bd o l).length = l.length
  | [], _ => rfl
  | x :: l, o => by rw [leaves, List.length_cons, leaves_length bd l, List.length_cons]
theorem leaves_at {bd m : Tx} : ∀ (l : List Tx) (Pre : Tx) (i : Nat) (q : Pt), m = Pre ++ bodyM bd l → (leaves bd Pre.length l)[i]? = some q → q.type = plainT ∧ q.lo ≤ q.hi ∧ q.hi ≤ m.length ∧ q.parts = [] ∧ l[i]? = some (textOf m q.lo q.hi)
  | [], Pre, i, q, _, h => by simp [leaves] at h
  | x :: l, Pre, 0, q, hm, h => by
    rw [leaves, List.getElem?_cons_zero] at h
    cases h
    have e : m = (Pre ++ (45 :: 45 :: bd ++ [13, 10, 13, 10])) ++ (x ++ (13 :: 10 :: bodyM bd l)) := by rw [hm, bodyM]; simp
    have hA : (Pre ++ (45 :: 45 :: bd ++ [13, 10, 13, 10])).length = Pre.length + bd.length + 6 := by simp; omega
    refine ⟨rfl, ?_, ?_, rfl, ?_⟩
    · show Pre.length + bd.length + 6 ≤ Pre.length + bd.length + 6 + x.length; omega
    · show Pre.length + bd.length + 6 + x.length ≤ _
      rw [e, List.length_append, hA, List.length_append]; omega
    · show some x = some (textOf m (Pre.length + bd.length + 6) (Pre.length + bd.length + 6 + x.length))
      rw [e, ← hA, textOf_mid]
  | x :: l, Pre, i + 1, q, hm, h => by
    rw [leaves, List.getElem?_cons_succ] at h
    have hl2 : (Pre ++ (45 :: 45 :: bd ++ 13 :: 10 :: 13 :: 10 :: (x ++ [13, 10]))).length = Pre.length + bd.length + 8 + x.length := by simp; omega
    rw [← hl2] at h
    exact leaves_at l _ i q (by rw [hm, bodyM]; simp) h
end Go.Proofs.Mm
namespace Go.Proofs.Mm
open Go.Proofs.Sq Go.Proofs.Hd

theorem rtrim_nil : rtrim [] = [] := rfl
theorem spans_end (n : Nat) (bd : Tx) (beg : Option Nat) : spans n (45 :: 45 :: bd) n beg (pieces []) = spans n (45 :: 45 :: bd) n beg [] := by
  have h : spans n (45 :: 45 :: bd) n beg [[]] = spans n (45 :: 45 :: bd) (min (n + ([] : Tx).length + 2) n) beg [] := by
    conv => lhs; rw [spans]
    rw [rtrim_nil, if_neg (by simp), if_neg (by simp)]
  exact h.trans (by rw [show min (n + ([] : Tx).length + 2) n = n by simp])
/-- The line at a place, and where the next one begins. -/
def lineAt (rest : Tx) : Tx := if Lib.index rest [13, 10] = -1 then rest else rest.take (Lib.index rest [13, 10]).toNat
def nextAt (n place : Nat) (rest : Tx) : Nat := if Lib.index rest [13, 10] = -1 then n else place + (Lib.index rest [13, 10]).toNat + 2
theorem nextAt_le {body : Tx} {place : Nat} (h : place < body.length) : place < nextAt body.length place (body.drop place) ∧ nextAt body.length place (body.drop place) ≤ body.length := by
  unfold nextAt
  have hg := Lib.index_ge (body.drop place) [13, 10]
  split
  · exact ⟨h, Nat.le_refl _⟩
  · have hr := Lib.index_room (body.drop place) [13, 10] (by omega)
    rw [List.length_drop, show ([13, 10] : Tx).length = 2 from rfl] at hr
    omega
theorem spans_at {body bd : Tx} {place : Nat} (beg : Option Nat) (h : place < body.length) : spans body.length (45 :: 45 :: bd) place beg (pieces (body.drop place)) =
    if rtrim (lineAt (body.drop place)) = 45 :: 45 :: bd then close beg (place - 2) ++ spans body.length (45 :: 45 :: bd) (nextAt body.length place (body.drop place)) (some (nextAt body.length place (body.drop place))) (pieces (body.drop (nextAt body.length place (body.drop place))))
    else if rtrim (lineAt (body.drop place)) = (45 :: 45 :: bd) ++ [45, 45] then close beg (place - 2)
    else spans body.length (45 :: 45 :: bd) (nextAt body.length place (body.drop place)) beg (pieces (body.drop (nextAt body.length place (body.drop place)))) := by
  unfold lineAt nextAt
  have hg := Lib.index_ge (body.drop place) [13, 10]
  rw [pieces_index (body.drop place)]
  by_cases hi : Lib.index (body.drop place) [13, 10] = -1
  · rw [if_pos hi, if_pos hi, if_pos hi, spans, List.length_drop, show min (place + (body.length - place) + 2) body.length = body.length by omega, List.drop_eq_nil_of_le (Nat.le_refl body.length), spans_end, spans_end]
  · have hr := Lib.index_room (body.drop place) [13, 10] (by omega)
    rw [List.length_drop, show ([13, 10] : Tx).length = 2 from rfl] at hr
    rw [if_neg hi, if_neg hi, if_neg hi, spans, List.length_take, List.length_drop, List.drop_drop]
    generalize (Lib.index (body.drop place) [13, 10]) = z at hi hr hg
    obtain ⟨q, rfl⟩ : ∃ q : Nat, z = q := ⟨z.toNat, by omega⟩
    rw [Int.toNat_natCast, show min (place + min q (body.length - place) + 2) body.length = place + q + 2 by omega, show place + (q + 2) = place + q + 2 by omega]
mutual
/-- How parts are written. -/
def printP : Pt → Tx
  | .mk t _ lo hi n ps => if ps.isEmpty then 40 :: 34 :: (t ++ 34 :: 32 :: (Lib.itoa (n : Int) ++ 32 :: (Lib.itoa ((hi : Int) - (lo : Int)) ++ [41]))) else 40 :: (printPs ps ++ 34 :: (t ++ [34, 41]))
def printPs : List Pt → Tx
  | [] => []
  | p :: ps => printP p ++ 32 :: printPs ps
end
theorem printPs_append (a b : List Pt) : printPs (a ++ b) = printPs a ++ printPs b := by
  induction a with
  | nil => rfl
  | cons p a ih => rw [List.cons_append, printPs, printPs, ih]; simp
end Go.Proofs.Mm
namespace Go.Proofs.Mm
open Go.Proofs.Sq Go.Proofs.Hd

mutual
/-- Types, places and counts are within a bound. -/
def Fits (B : Nat) : Pt → Prop
  | .mk t _ lo hi n ps => t.length ≤ B ∧ lo ≤ hi ∧ hi ≤ B ∧ n ≤ B ∧ FitsAll B ps
def FitsAll (B : Nat) : List Pt → Prop
  | [] => True
  | p :: ps => Fits B p ∧ FitsAll B ps
end
theorem fitsAll_get {B : Nat} : ∀ {ps : List Pt} {j : Nat} {p : Pt}, FitsAll B ps → ps[j]? = some p → Fits B p
  | [], _, _, _, h => by simp at h
  | q :: ps, 0, p, hf, h => by simp at h; subst h; exact hf.1
  | q :: ps, j + 1, p, hf, h => fitsAll_get hf.2 (by simpa using h)
theorem cut_len1 (c : UInt8) : ∀ s : Tx, (cutAt c s).1.length ≤ s.length
  | [] => by simp [cutAt]
  | b :: r => by
    have ih := cut_len1 c r
    rw [cutAt]
    split
    · simp
    · simp only [List.length_cons]; omega
theorem getF_in {l : List Hd.Fd} {n v : Tx} (h : getF l n = some v) : ∃ f ∈ l, f.2 = v := by
  unfold getF at h
  obtain ⟨f, hf, rfl⟩ := Option.map_eq_some_iff.1 h
  exact ⟨f, List.mem_of_find?_eq_some hf, rfl⟩
theorem kind_len1 (h : Tx) : (kindOf h).1.length ≤ h.length + 11 := by
  have hp : plainT.length = 10 := rfl
  unfold kindOf
  split
  · split
    · show plainT.length ≤ _; omega
    · next v hv =>
      obtain ⟨f, hf, rfl⟩ := getF_in hv
      have h1 := values_short h f hf
      have h2 := bare_length (cutAt 59 f.2).1
      have h3 := cut_len1 59 f.2
      have h4 := small_length (bare (cutAt 59 f.2).1)
      unfold kindV
      split
      · show (small (bare (cutAt 59 f.2).1)).length ≤ _; omega
      · show (small (bare (cutAt 59 f.2).1)).length ≤ _; omega
  · show plainT.length ≤ _; omega
theorem headOf_length (t : Tx) : (headOf t).length ≤ t.length := by unfold headOf; rw [List.length_take]; omega
theorem partsF_fits {g : Nat → Nat → Nat → Nat × Option Pt} {B top : Nat} (hg : ∀ lo hi c p, lo ≤ hi → hi ≤ top → (g lo hi c).2 = some p → Fits B p) : ∀ (l : List (Nat × Nat)) (c a b : Nat) (ps : List Pt), b ≤ top → InRow l a b → (partsF g l c).2 = some ps → FitsAll B ps
  | [], c, a, b, ps, _, _, h => by cases h; trivial
  | s :: r, c, a, b, ps, hb, hr, h => by
    rw [partsF] at h
    split at h
    · cases h
    · next c1 p hq =>
      split at h
      · cases h
      · next c2 qs hp2 =>
        cases h
        exact ⟨hg s.1 s.2 c p hr.2.1 (Nat.le_trans hr.2.2.1 hb) (by rw [hq]), partsF_fits hg r c1 s.2 b qs hb hr.2.2.2 (by rw [hp2])⟩
theorem partF_fits (s : Tx) : ∀ (f lo hi c : Nat) (p : Pt), lo ≤ hi → hi ≤ s.length → (partF s f lo hi c).2 = some p → Fits (s.length + 11) p
  | 0, lo, hi, c, p, _, _, h => by cases h
  | f + 1, lo, hi, c, p, h1, h2, h => by
    have hT : (textOf s lo hi).length ≤ s.length := by rw [textOf_length s h1 h2]; omega
    have hbl : (bodyOf (textOf s lo hi)).length ≤ hi - lo := by have := bodyOf_length (textOf s lo hi); rw [textOf_length s h1 h2] at this; exact this
    have hk := kind_len1 (headOf (textOf s lo hi))
    have hhl := headOf_length (textOf s lo hi)
    have hcn : (bodyOf (textOf s lo hi)).count 10 ≤ hi - lo := Nat.le_trans List.count_le_length hbl
    rw [partF] at h
    split at h
    · cases h
    · split at h
      · cases h
        exact ⟨by omega, by omega, by omega, by omega, trivial⟩
      · split at h
        · cases h
        · next c' ps hps =>
          cases h
          refine ⟨by omega, by omega, by omega, by omega, ?_⟩
          have hrow := (inside_row (bodyOf (textOf s lo hi)) (45 :: 45 :: (kindOf (headOf (textOf s lo hi))).2)).shift (hi - (bodyOf (textOf s lo hi)).length)
          rw [show (bodyOf (textOf s lo hi)).length + (hi - (bodyOf (textOf s lo hi)).length) = hi by omega, Nat.zero_add] at hrow
          exact partsF_fits (fun lo hi c p h3 h4 h5 => partF_fits s f lo hi c p h3 h4 h5) _ _ _ _ _ h2 hrow (by rw [hps])
theorem parse_fits {s : Tx} {p : Pt} (h : parseP s = some p) : Fits (s.length + 11) p := partF_fits s 7 0 s.length 0 p (Nat.zero_le _) (Nat.le_refl _) h
end Go.Proofs.Mm
