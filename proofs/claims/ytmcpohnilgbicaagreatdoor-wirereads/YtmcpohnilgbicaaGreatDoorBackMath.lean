/-
  Where a command of plain bytes and of counted ones ends. Plain mathematics.
  Where a command ends, whatever byte stands last. Plain mathematics.
  What a command's parts are like that were read. Plain mathematics.
  How many parts a reading counts, and how deep they lie. Plain mathematics.
  What was read is read again as it is written. Plain mathematics.
  A part that was read is read again as it is written. Plain mathematics.
  A command that was read is read again as it is written. Plain mathematics.
  Texts that are quoted, in a command: where it ends, and what it is read as. Plain mathematics.
  What is written of a command, in pieces, and where it ends. Plain mathematics.
  Bytes in pieces: what Next tells of a beginning, and of all. Of no program but by its numbers' spec.
  How long what is written of a command may be. Plain mathematics.
-/
import Derived.Test.YtmcpohnilgbicaaGreatDoorWireQArg
import Derived.Test.YtmcpohnilgbicaaGreatDoorWireTail
import Derived.Test.YtmcpohnilgbicaaGreatDoorMWireSame
import Derived.Test.YtmcpohnilgbicaaGreatDoorWireBound
import Derived.Test.YtmcpohnilgbicaaGreatDoorWirePrSpec
import Derived.Test.YtmcpohnilgbicaaGreatDoorWriteAll
import Derived.Test.YtmcpohnilgbicaaGreatDoorWireSpec
import Derived.Test.YtmcpohnilgbicaaGreatDoorQuoteAll
namespace Go.Proofs.YtmcpohnilgbicaaGreatDoor
open Go.Proofs.Hd

theorem last_at {a b : Tx} (hb : ∀ c ∈ b, c ≠ 123) : Lib.lastIndexByte ⟨(a ++ 123 :: b).toArray⟩ 123 = (a.length : Int) := by
  have hsz : (⟨(a ++ 123 :: b).toArray⟩ : ByteArray).size = a.length + 1 + b.length := by
    show (a ++ 123 :: b).toArray.size = _
    simp; omega
  have hget : ∀ j : Nat, (⟨(a ++ 123 :: b).toArray⟩ : ByteArray).data[j]! = (a ++ 123 :: b).getD j 0 := fun j => by
    show (a ++ 123 :: b).toArray[j]! = _
    rw [getElem!_def, List.getD_eq_getElem?_getD]
    simp
    cases (a ++ 123 :: b)[j]? <;> rfl
  have hat : (a ++ 123 :: b).getD a.length 0 = 123 := by
    rw [List.getD_eq_getElem?_getD, List.getElem?_append_right (Nat.le_refl _), Nat.sub_self]; rfl
  rcases Lib.lastIdx_spec ⟨(a ++ 123 :: b).toArray⟩ 123 (⟨(a ++ 123 :: b).toArray⟩ : ByteArray).size with ⟨_, h⟩ | ⟨i, h1, h2, h3, h4⟩
  · exfalso
    have := h a.length (by rw [hsz]; omega)
    rw [hget, hat] at this
    exact this rfl
  · show Lib.lastIdx _ _ _ = _
    rw [h2]
    rw [hsz] at h1 h4
    rcases Nat.lt_trichotomy i a.length with h5 | h5 | h5
    · exfalso
      have := h4 a.length h5 (by omega)
      rw [hget, hat] at this
      exact this rfl
    · rw [h5]
    · exfalso
      rw [hget, List.getD_eq_getElem?_getD, List.getElem?_append_right (by omega)] at h3
      obtain ⟨j, hj⟩ : ∃ j, i - a.length = j + 1 := ⟨i - a.length - 1, by omega⟩
      rw [hj, List.getElem?_cons_succ] at h3
      have hjl : j < b.length := by omega
      rw [List.getElem?_eq_getElem hjl] at h3
      have h6 := hb _ (List.getElem_mem hjl)
      apply h6
      apply UInt8.toNat_inj.1
      have h7 : ((b[j]).toNat : Int) = 123 := h3
      show (b[j]).toNat = 123
      omega
theorem tail_counted {pre : Tx} {n : Nat} (hn : n ≤ 2147483647) : tailF (pre ++ 123 :: (Lib.itoa (n : Int) ++ [125])) = some n := by
  have hb : ∀ c ∈ Lib.itoa (n : Int) ++ [125], c ≠ 123 := fun c hc => by
    rcases List.mem_append.1 hc with h | h
    · have := itoa_digits n c h
      rintro rfl
      revert this
      decide
    · rw [List.mem_singleton.1 h]; decide
  unfold tailF
  rw [last_at hb]
  have hsf : Lib.hasSuffix (pre ++ 123 :: (Lib.itoa (n : Int) ++ [125])) [125] = true := by
    unfold Lib.hasSuffix
    rw [List.isSuffixOf_iff_suffix]
    exact ⟨pre ++ 123 :: Lib.itoa (n : Int), by simp⟩
  rw [hsf, if_neg (by simp), Int.toNat_natCast]
  have h1 : (pre ++ 123 :: (Lib.itoa (n : Int) ++ [125])).drop (pre.length + 1) = Lib.itoa (n : Int) ++ [125] := by
    rw [show pre ++ 123 :: (Lib.itoa (n : Int) ++ [125]) = (pre ++ [123]) ++ (Lib.itoa (n : Int) ++ [125]) by simp, show pre.length + 1 = (pre ++ [123]).length by simp, List.drop_left]
  rw [h1]
  have h2 : (pre ++ 123 :: (Lib.itoa (n : Int) ++ [125])).length - 1 - (pre.length + 1) = (Lib.itoa (n : Int)).length := by
    simp only [List.length_append, List.length_cons, List.length_nil]; omega
  rw [h2, List.take_left, numW_itoa n hn]
theorem tail_other {l : Tx} {d : UInt8} (hd : d ≠ 125) : tailF (l ++ [d]) = none := by
  unfold tailF
  rw [if_pos]
  right
  unfold Lib.hasSuffix
  rw [← Bool.not_eq_true, List.isSuffixOf_iff_suffix]
  rintro ⟨t, ht⟩
  have := List.append_inj_right' ht rfl
  simp at this
  exact hd this.symm
/-- A piece of a command: bytes as they stand, or bytes that are counted ahead. -/
inductive Sg where
  | plain (t : Tx) : Sg
  | lit (t : Tx) : Sg
def Sg.text : Sg → Tx
  | .plain t => t
  | .lit t => 123 :: (Lib.itoa (t.length : Int) ++ [125, 13, 10] ++ t)
def Sg.good : Sg → Prop
  | .plain t => ∀ c ∈ t, c ≠ 13
  | .lit t => t.length ≤ 2147483647
def segs (l : List Sg) : Tx := l.flatMap Sg.text
theorem next_segs {s : Tx} {d : UInt8} {rest : Tx} (hd : d ≠ 125) (hd13 : d ≠ 13) : ∀ (l : List Sg) (pre : Tx) (a k : Nat), (∀ c ∈ pre, c ≠ 13) → (∀ g ∈ l, g.good) → a ≤ s.length → s.drop a = pre ++ segs l ++ d :: 13 :: 10 :: rest → a + (pre ++ segs l).length + 3 ≤ 3000 →
    ∃ k', nextW s a k = (a + (pre ++ segs l).length + 3, k', false)
  | [], pre, a, k, hp, _, ha, h, hm => by
    have h1 : s.drop a = (pre ++ [d]) ++ (13 :: [10]) ++ rest := by rw [h]; simp [segs]
    have hi : Lib.index (s.drop a) [13, 10] = (((pre ++ [d]).length : Nat) : Int) := by
      rw [h1]
      exact index_behind _ fun c hc => by
        rcases List.mem_append.1 hc with h2 | h2
        · exact hp c h2
        · rw [List.mem_singleton.1 h2]; exact hd13
    have ht : tailF ((s.drop a).take (pre ++ [d]).length) = none := by
      rw [h1, List.append_assoc, List.take_left]
      exact tail_other hd
    rw [nextW_last hi ht]
    simp only [segs, List.flatMap_nil, List.append_nil, List.length_append, List.length_cons, List.length_nil] at hm ⊢
    rw [if_neg (by omega)]
    exact ⟨k, by rw [show a + (pre.length + (0 + 1)) + 2 = a + pre.length + 3 by omega]⟩
  | .plain t :: l, pre, a, k, hp, hg, ha, h, hm => by
    have e : pre ++ segs (.plain t :: l) = (pre ++ t) ++ segs l := by simp [segs, Sg.text]
    rw [e] at h hm ⊢
    exact next_segs hd hd13 l (pre ++ t) a k (fun c hc => (List.mem_append.1 hc).elim (hp c) (hg _ List.mem_cons_self c)) (fun g hgm => hg g (List.mem_cons_of_mem _ hgm)) ha h hm
  | .lit t :: l, pre, a, k, hp, hg, ha, h, hm => by
    have htl : t.length ≤ 2147483647 := hg _ List.mem_cons_self
    have e : pre ++ segs (.lit t :: l) = pre ++ 123 :: (Lib.itoa (t.length : Int) ++ [125]) ++ (13 :: [10]) ++ (t ++ segs l) := by simp [segs, Sg.text]
    have hlen := drop_len h ha
    have h1 : s.drop a = (pre ++ 123 :: (Lib.itoa (t.length : Int) ++ [125])) ++ (13 :: [10]) ++ (t ++ segs l ++ d :: 13 :: 10 :: rest) := by rw [h, e]; simp
    have hi : Lib.index (s.drop a) [13, 10] = (((pre ++ 123 :: (Lib.itoa (t.length : Int) ++ [125])).length : Nat) : Int) := by
      rw [h1]
      exact index_behind _ fun c hc => by
        rcases List.mem_append.1 hc with h2 | h2
        · exact hp c h2
        · rcases List.mem_cons.1 h2 with h2 | h2
          · rw [h2]; decide
          · rcases List.mem_append.1 h2 with h2 | h2
            · have := itoa_digits t.length c h2
              rintro rfl
              revert this
              decide
            · rw [List.mem_singleton.1 h2]; decide
    have ht : tailF ((s.drop a).take (pre ++ 123 :: (Lib.itoa (t.length : Int) ++ [125])).length) = some t.length := by
      rw [h1, List.append_assoc, List.take_left]
      exact tail_counted htl
    have eL : (pre ++ segs (.lit t :: l)).length = (pre ++ 123 :: (Lib.itoa (t.length : Int) ++ [125])).length + 2 + t.length + (segs l).length := by
      rw [e]; simp only [List.length_append, List.length_cons, List.length_nil]; omega
    have hsl : s.length = a + (pre ++ segs (.lit t :: l)).length + 3 + rest.length := by
      rw [hlen]; simp only [List.length_append, List.length_cons]; omega
    have h2 : s.drop (a + (pre ++ 123 :: (Lib.itoa (t.length : Int) ++ [125])).length + 2 + t.length) = [] ++ segs l ++ d :: 13 :: 10 :: rest := by
      have h3 := drop_more (a := (pre ++ 123 :: (Lib.itoa (t.length : Int) ++ [125])) ++ (13 :: [10]) ++ t) (r := segs l ++ d :: 13 :: 10 :: rest) (by rw [h1]; simp)
      rw [List.nil_append, ← h3]
      congr 1
      simp only [List.length_append, List.length_cons, List.length_nil]
      omega
    rw [nextW_more hi ht]
    rw [eL] at hm hsl ⊢
    generalize (pre ++ 123 :: (Lib.itoa (t.length : Int) ++ [125])).length = LL at hm hsl h2 ⊢
    rw [if_neg (by omega), if_neg (by omega)]
    obtain ⟨k', ih⟩ := next_segs hd hd13 l [] (a + LL + 2 + t.length) (k + 1) (fun c hc => by cases hc) (fun g hgm => hg g (List.mem_cons_of_mem _ hgm)) (by omega) h2 (by simp only [List.nil_append]; omega)
    refine ⟨k', ih.trans ?_⟩
    simp only [List.nil_append]
    congr 1
    omega
end Go.Proofs.YtmcpohnilgbicaaGreatDoor
namespace Go.Proofs.YtmcpohnilgbicaaGreatDoor
open Go.Proofs.Hd

/-- Behind the last { a quote stands. -/
def QuA (l : Tx) : Prop := ∀ u v, l = u ++ 123 :: v → (∀ c ∈ v, c ≠ 123) → 34 ∈ v
def Sg.keeps : Sg → Prop
  | .plain t => ∀ pre, QuA pre → QuA (pre ++ t)
  | .lit _ => True
theorem qua_nil : QuA [] := fun u v h _ => by simp at h
theorem qua_none {pre t : Tx} (hp : QuA pre) (ht : ∀ c ∈ t, c ≠ 123) : QuA (pre ++ t) := by
  intro u v h hv
  rcases List.append_eq_append_iff.1 h with ⟨a, h1, h2⟩ | ⟨a, h1, h2⟩
  · cases a with
    | nil =>
      rw [List.nil_append] at h2
      exact absurd rfl (ht 123 (by rw [h2]; exact List.mem_cons_self))
    | cons x a =>
      have : (123 : UInt8) ∈ t := by rw [h2]; exact List.mem_append_right _ List.mem_cons_self
      exact absurd rfl (ht 123 this)
  · cases a with
    | nil =>
      rw [List.nil_append] at h2
      exact absurd rfl (ht 123 (by rw [← h2]; exact List.mem_cons_self))
    | cons x a =>
      rw [List.cons_append] at h2
      injection h2 with e1 e2
      subst e1
      have := hp u a h1 (fun c hc => hv c (by rw [e2]; exact List.mem_append_left _ hc))
      rw [e2]
      exact List.mem_append_left _ this
theorem qua_quote {pre t : Tx} : QuA (pre ++ (t ++ [34])) := by
  intro u v h hv
  have h1 : (pre ++ t) ++ [34] = u ++ 123 :: v := by rw [← h]; simp
  rcases List.eq_nil_or_concat v with rfl | ⟨w, x, rfl⟩
  · have := List.append_inj_right' h1 rfl
    simp at this
  · have h2 : (pre ++ t) ++ [34] = (u ++ 123 :: w) ++ [x] := by rw [h1]; simp
    have := List.append_inj_right' h2 rfl
    simp at this
    rw [this]
    simp
theorem last_part : ∀ (l : Tx), (∀ c ∈ l, c ≠ 123) ∨ ∃ u v, l = u ++ 123 :: v ∧ ∀ c ∈ v, c ≠ 123
  | [] => Or.inl (by simp)
  | x :: l => by
    rcases last_part l with h | ⟨u, v, rfl, h⟩
    · by_cases hx : x = 123
      · exact Or.inr ⟨[], l, by rw [hx]; rfl, h⟩
      · exact Or.inl fun c hc => (List.mem_cons.1 hc).elim (fun e => by rw [e]; exact hx) (h c)
    · exact Or.inr ⟨x :: u, v, rfl, h⟩
theorem numW_digs {x : Tx} {n : Nat} (h : numW x = some n) : ∀ c ∈ x, 48 ≤ c.toNat ∧ c.toNat ≤ 57 := by
  cases ha : Lib.atoiAll x with
  | ok z =>
    rw [numW_ok ha] at h
    split at h
    · next hz =>
      rw [← hz.2.2]
      have := itoa_digits z.toNat
      rw [Int.toNat_of_nonneg hz.1] at this
      exact this
    · cases h
  | «syntax» => rw [numW_syntax ha] at h; cases h
  | range => rw [numW_range ha] at h; cases h
theorem tail_q {l : Tx} (h : QuA l) : tailF l = none := by
  rcases last_part l with h1 | ⟨u, v, rfl, h1⟩
  · unfold tailF
    rw [if_pos]
    left
    rcases Lib.lastIdx_spec ⟨l.toArray⟩ 123 (⟨l.toArray⟩ : ByteArray).size with ⟨e, _⟩ | ⟨i, hi, _, h3, _⟩
    · show Lib.lastIdx _ _ _ < 0
      rw [e]; decide
    · exfalso
      have hil : i < l.length := by
        have : (⟨l.toArray⟩ : ByteArray).size = l.length := by show l.toArray.size = _; simp
        omega
      have hg : (⟨l.toArray⟩ : ByteArray).data[i]! = l[i] := by
        show l.toArray[i]! = _
        rw [getElem!_def]
        simp [hil]
      rw [hg] at h3
      refine h1 _ (List.getElem_mem hil) (UInt8.toNat_inj.1 ?_)
      show (l[i]).toNat = 123
      omega
  · have hq := h u v rfl h1
    cases hT : tailF (u ++ 123 :: v) with
    | none => rfl
    | some n =>
      exfalso
      unfold tailF at hT
      rw [last_at h1, Int.toNat_natCast] at hT
      split at hT
      · cases hT
      · next hn =>
        have hsf : Lib.hasSuffix (u ++ 123 :: v) [125] = true := by
          cases hh : Lib.hasSuffix (u ++ 123 :: v) [125] with
          | true => rfl
          | false => exact absurd (Or.inr hh) hn
        obtain ⟨q, hq2⟩ := List.isSuffixOf_iff_suffix.1 hsf
        rcases List.eq_nil_or_concat v with rfl | ⟨w, x, rfl⟩
        · simp at hq
        · have h2 : q ++ [125] = (u ++ 123 :: w) ++ [x] := by rw [hq2]; simp
          have hx := List.append_inj_right' h2 rfl
          simp at hx
          subst hx
          have hw : (34 : UInt8) ∈ w := by simpa using hq
          have e1 : (u ++ 123 :: w.concat 125).drop (u.length + 1) = w ++ [125] := by
            rw [show u ++ 123 :: w.concat 125 = (u ++ [123]) ++ (w ++ [125]) by simp, show u.length + 1 = (u ++ [123]).length by simp, List.drop_left]
          rw [e1] at hT
          have e2 : (u ++ 123 :: w.concat 125).length - 1 - (u.length + 1) = w.length := by simp; omega
          rw [e2, List.take_left] at hT
          have := numW_digs hT 34 hw
          revert this
          decide
theorem next_run {s rest : Tx} : ∀ (l : List Sg) (pre : Tx) (a k : Nat), (∀ c ∈ pre, c ≠ 13) → QuA pre → (∀ g ∈ l, g.good ∧ g.keeps) → a ≤ s.length → s.drop a = pre ++ segs l ++ 13 :: 10 :: rest → a + (pre ++ segs l).length + 2 ≤ 3000 →
    ∃ k', nextW s a k = (a + (pre ++ segs l).length + 2, k', false)
  | [], pre, a, k, hp, hq, _, ha, h, hm => by
    have h1 : s.drop a = pre ++ (13 :: [10]) ++ rest := by rw [h]; simp [segs]
    have hi : Lib.index (s.drop a) [13, 10] = ((pre.length : Nat) : Int) := by
      rw [h1]
      exact index_behind _ hp
    have ht : tailF ((s.drop a).take pre.length) = none := by
      rw [h1, List.append_assoc, List.take_left]
      exact tail_q hq
    rw [nextW_last hi ht]
    simp only [segs, List.flatMap_nil, List.append_nil] at hm ⊢
    rw [if_neg (by omega)]
    exact ⟨k, rfl⟩
  | .plain t :: l, pre, a, k, hp, hq, hg, ha, h, hm => by
    have e : pre ++ segs (.plain t :: l) = (pre ++ t) ++ segs l := by simp [segs, Sg.text]
    rw [e] at h hm ⊢
    exact next_run l (pre ++ t) a k (fun c hc => (List.mem_append.1 hc).elim (hp c) ((hg _ List.mem_cons_self).1 c)) ((hg _ List.mem_cons_self).2 pre hq) (fun g hgm => hg g (List.mem_cons_of_mem _ hgm)) ha h hm
  | .lit t :: l, pre, a, k, hp, _, hg, ha, h, hm => by
    have htl : t.length ≤ 2147483647 := (hg _ List.mem_cons_self).1
    have e : pre ++ segs (.lit t :: l) = pre ++ 123 :: (Lib.itoa (t.length : Int) ++ [125]) ++ (13 :: [10]) ++ (t ++ segs l) := by simp [segs, Sg.text]
    have hlen := drop_len h ha
    have h1 : s.drop a = (pre ++ 123 :: (Lib.itoa (t.length : Int) ++ [125])) ++ (13 :: [10]) ++ (t ++ segs l ++ 13 :: 10 :: rest) := by rw [h, e]; simp
    have hi : Lib.index (s.drop a) [13, 10] = (((pre ++ 123 :: (Lib.itoa (t.length : Int) ++ [125])).length : Nat) : Int) := by
      rw [h1]
      exact index_behind _ fun c hc => by
        rcases List.mem_append.1 hc with h2 | h2
        · exact hp c h2
        · rcases List.mem_cons.1 h2 with h2 | h2
          · rw [h2]; decide
          · rcases List.mem_append.1 h2 with h2 | h2
            · have := itoa_digits t.length c h2
              rintro rfl
              revert this
              decide
            · rw [List.mem_singleton.1 h2]; decide
    have ht : tailF ((s.drop a).take (pre ++ 123 :: (Lib.itoa (t.length : Int) ++ [125])).length) = some t.length := by
      rw [h1, List.append_assoc, List.take_left]
      exact tail_counted htl
    have eL : (pre ++ segs (.lit t :: l)).length = (pre ++ 123 :: (Lib.itoa (t.length : Int) ++ [125])).length + 2 + t.length + (segs l).length := by
      rw [e]; simp only [List.length_append, List.length_cons, List.length_nil]; omega
    have hsl : s.length = a + (pre ++ segs (.lit t :: l)).length + 2 + rest.length := by
      rw [hlen]; simp only [List.length_append, List.length_cons]; omega
    have h2 : s.drop (a + (pre ++ 123 :: (Lib.itoa (t.length : Int) ++ [125])).length + 2 + t.length) = [] ++ segs l ++ 13 :: 10 :: rest := by
      have h3 := drop_more (a := (pre ++ 123 :: (Lib.itoa (t.length : Int) ++ [125])) ++ (13 :: [10]) ++ t) (r := segs l ++ 13 :: 10 :: rest) (by rw [h1]; simp)
      rw [List.nil_append, ← h3]
      congr 1
      simp only [List.length_append, List.length_cons, List.length_nil]
      omega
    rw [nextW_more hi ht]
    rw [eL] at hm hsl ⊢
    generalize (pre ++ 123 :: (Lib.itoa (t.length : Int) ++ [125])).length = LL at hm hsl h2 ⊢
    rw [if_neg (by omega), if_neg (by omega)]
    obtain ⟨k', ih⟩ := next_run l [] (a + LL + 2 + t.length) (k + 1) (fun c hc => by cases hc) qua_nil (fun g hgm => hg g (List.mem_cons_of_mem _ hgm)) (by omega) h2 (by simp only [List.nil_append]; omega)
    refine ⟨k', ih.trans ?_⟩
    simp only [List.nil_append]
    congr 1
    omega
end Go.Proofs.YtmcpohnilgbicaaGreatDoor
namespace Go.Proofs.YtmcpohnilgbicaaGreatDoor
open Go.Proofs.Hd
open Go.Proofs.Sr (Ar)

/-- A part that was read. -/
def Shp (f : Nat) (a : Ar) : Prop := a.text.length ≤ 100000 ∧ (a.kind = 1 ∨ a.kind = 2 ∨ (a.kind = 3 ∧ Pr f a.list)) ∧ Ln a.list
theorem ln_nil : Ln [] := .mk [] (by simp) (by simp)
theorem quoted_len {s : Tx} {c : Nat} : ∀ (f p : Nat) (acc t : Tx) (p' c' : Nat), quotedW s p c acc f = .ok t p' c' → t.length ≤ acc.length + f
  | 0, p, acc, t, p', c', h => by rw [quotedW] at h; cases h
  | f + 1, p, acc, t, p', c', h => by
    rw [quotedW] at h
    split at h
    · cases h; omega
    · split at h
      · split at h
        · cases h
        · have := quoted_len f _ _ t p' c' h
          simp at this
          omega
      · split at h
        · cases h
        · have := quoted_len f _ _ t p' c' h
          simp at this
          omega
theorem word_sh_sz {s : Tx} {p c p' c' : Nat} {t : Tx} (h : wordW s p c = .ok t p' c') : t.length ≤ s.length := by
  rw [wordW] at h
  split at h
  · cases h
  · cases h
    have h1 : (wordT (s.drop p)).length ≤ (s.drop p).length := (List.takeWhile_sublist _).length_le
    rw [List.length_drop] at h1
    omega
theorem more_shape {s : Tx} {g : Nat → Nat → Wd Ar} {f : Nat} (hG : ∀ p c a p' c', g p c = .ok a p' c' → Shp f a) : ∀ (n : Nat) (acc : List Ar) (p c : Nat) (l : List Ar) (p' c' : Nat), (∀ x ∈ acc, Shp f x) → moreW g s n acc p c = .ok l p' c' → (∀ x ∈ l, Shp f x) ∧ l.length ≤ acc.length + n
  | 0, acc, p, c, l, p', c', ha, h => by rw [moreW] at h; cases h
  | n + 1, acc, p, c, l, p', c', ha, h => by
    rw [moreW] at h
    split at h
    · cases h; exact ⟨ha, by omega⟩
    · obtain ⟨u, p1, c1, _, h2⟩ := then_ok h
      obtain ⟨a, p2, c2, h3, h4⟩ := then_ok h2
      obtain ⟨i1, i2⟩ := more_shape hG n _ _ _ _ _ _ (fun x hx => by
        rcases List.mem_append.1 hx with hx | hx
        · exact ha x hx
        · obtain rfl := List.mem_singleton.1 hx; exact hG _ _ _ _ _ h3) h4
      exact ⟨i1, by simp at i2; omega⟩
theorem list_shape {s : Tx} {g : Nat → Nat → Wd Ar} {f : Nat} (hG : ∀ p c a p' c', g p c = .ok a p' c' → Shp f a) {p c : Nat} {l : List Ar} {p' c' : Nat} (h : listW g s p c = .ok l p' c') : (∀ x ∈ l, Shp f x) ∧ l.length ≤ 63 := by
  rw [listW] at h
  split at h
  · cases h; exact ⟨by simp, by simp⟩
  · obtain ⟨a, p1, c1, h1, h2⟩ := then_ok h
    obtain ⟨i1, i2⟩ := more_shape hG _ _ _ _ _ _ _ (fun x hx => by obtain rfl := List.mem_singleton.1 hx; exact hG _ _ _ _ _ h1) h2
    exact ⟨i1, by simp at i2; omega⟩
theorem pr_of {f : Nat} {l : List Ar} (h : ∀ x ∈ l, Shp f x) (hl : l.length ≤ 100000) : Pr (f + 1) l ∧ Ln l := ⟨⟨hl, fun x hx => ⟨(h x hx).1, (h x hx).2.1⟩⟩, .mk l hl fun x hx => (h x hx).2.2⟩
theorem counted_len {s : Tx} {p c p' c' : Nat} {t : Tx} (h : countedW s p c = .ok t p' c') : t.length ≤ s.length := by
  rw [countedW] at h
  split at h
  · cases h
  · split at h
    · cases h
    · split at h
      · cases h
      · cases h
        have h1 : (Lib.cut ((s.drop p).drop 1) [125, 13, 10]).2.1.length ≤ s.length := by
          unfold Lib.cut
          split
          · simp only [List.length_drop]; omega
          · simp
        rw [List.length_take]
        omega
theorem arg_shape {s : Tx} (hs : s.length ≤ 100000) : ∀ (f p c : Nat) (a : Ar) (p' c' : Nat), argW s f p c = .ok a p' c' → Shp f a
  | 0, p, c, a, p', c', h => by rw [argW] at h; cases h
  | f + 1, p, c, a, p', c', h => by
    rw [argW] at h
    split at h
    · cases h
    · split at h
      · obtain ⟨t, h1, rfl⟩ := map_ok h
        exact ⟨Nat.le_trans (counted_len h1) hs, Or.inr (Or.inl rfl), ln_nil⟩
      · split at h
        · obtain ⟨t, h1, rfl⟩ := map_ok h
          have := quoted_len _ _ _ _ _ _ h1
          exact ⟨by simp at this; show t.length ≤ _; omega, Or.inr (Or.inl rfl), ln_nil⟩
        · split at h
          · obtain ⟨l, h1, rfl⟩ := map_ok h
            obtain ⟨i1, i2⟩ := list_shape (arg_shape hs f) h1
            obtain ⟨j1, j2⟩ := pr_of i1 (by omega)
            exact ⟨by simp [Sr.Ar.text], Or.inr (Or.inr ⟨rfl, j1⟩), j2⟩
          · obtain ⟨t, h1, rfl⟩ := map_ok h
            exact ⟨Nat.le_trans (word_sh_sz h1) hs, Or.inl rfl, ln_nil⟩
theorem args_shape {s : Tx} (hs : s.length ≤ 100000) : ∀ (n : Nat) (acc : List Ar) (p c : Nat) (l : List Ar) (p' c' : Nat), (∀ x ∈ acc, Shp 7 x) → argsW s n acc p c = .ok l p' c' → (∀ x ∈ l, Shp 7 x) ∧ l.length ≤ acc.length + n
  | 0, acc, p, c, l, p', c', ha, h => by rw [argsW] at h; cases h
  | n + 1, acc, p, c, l, p', c', ha, h => by
    rw [argsW] at h
    split at h
    · cases h; exact ⟨ha, by omega⟩
    · obtain ⟨u, p1, c1, _, h2⟩ := then_ok h
      obtain ⟨a, p2, c2, h3, h4⟩ := then_ok h2
      obtain ⟨i1, i2⟩ := args_shape hs n _ _ _ _ _ _ (fun x hx => by
        rcases List.mem_append.1 hx with hx | hx
        · exact ha x hx
        · obtain rfl := List.mem_singleton.1 hx; exact arg_shape hs _ _ _ _ _ _ h3) h4
      exact ⟨i1, by simp at i2; omega⟩
end Go.Proofs.YtmcpohnilgbicaaGreatDoor
namespace Go.Proofs.YtmcpohnilgbicaaGreatDoor
open Go.Proofs.Hd
open Go.Proofs.Sr (Ar)

mutual
def cntA : Ar → Nat
  | .mk _ _ l => 1 + cntL l
def cntL : List Ar → Nat
  | [] => 0
  | a :: r => cntA a + cntL r
end
mutual
def dpA : Ar → Nat
  | .mk kind _ l => if kind = 3 then 1 + dpL l else 1
def dpL : List Ar → Nat
  | [] => 0
  | a :: r => max (dpA a) (dpL r)
end
theorem cntL_app : ∀ (l r : List Ar), cntL (l ++ r) = cntL l + cntL r
  | [], r => by rw [List.nil_append, cntL]; omega
  | a :: l, r => by rw [List.cons_append, cntL, cntL, cntL_app l r]; omega
theorem dpL_app : ∀ (l r : List Ar), dpL (l ++ r) = max (dpL l) (dpL r)
  | [], r => by rw [List.nil_append, dpL]; omega
  | a :: l, r => by rw [List.cons_append, dpL, dpL, dpL_app l r]; omega
theorem cntL_one (a : Ar) : cntL [a] = cntA a := by rw [cntL, cntL]; omega
theorem dpL_one (a : Ar) : dpL [a] = dpA a := by rw [dpL, dpL]; omega
theorem word_cnt {s : Tx} {p c p' c' : Nat} {t : Tx} (h : wordW s p c = .ok t p' c') : c' = c := by
  rw [wordW] at h
  split at h
  · cases h
  · cases h; rfl
theorem blank_cnt {s : Tx} {p c p' c' : Nat} {u : Unit} (h : blankW s p c = .ok u p' c') : c' = c := by
  rw [blankW] at h
  split at h
  · cases h; rfl
  · cases h
theorem more_cnt {s : Tx} {g : Nat → Nat → Wd Ar} {f : Nat} (hG : ∀ p c a p' c', g p c = .ok a p' c' → c' = c + cntA a ∧ dpA a ≤ f ∧ c' ≤ 60) : ∀ (n : Nat) (acc : List Ar) (p c : Nat) (l : List Ar) (p' c' : Nat), c ≤ 60 → dpL acc ≤ f → moreW g s n acc p c = .ok l p' c' → c' + cntL acc = c + cntL l ∧ dpL l ≤ f ∧ c' ≤ 60
  | 0, acc, p, c, l, p', c', hc, ha, h => by rw [moreW] at h; cases h
  | n + 1, acc, p, c, l, p', c', hc, ha, h => by
    rw [moreW] at h
    split at h
    · cases h; exact ⟨rfl, ha, hc⟩
    · obtain ⟨u, p1, c1, h1, h2⟩ := then_ok h
      obtain ⟨a, p2, c2, h3, h4⟩ := then_ok h2
      have e1 := blank_cnt h1
      obtain ⟨i1, i2, i3⟩ := hG _ _ _ _ _ h3
      obtain ⟨j1, j2, j3⟩ := more_cnt hG n _ _ _ _ _ _ i3 (by rw [dpL_app, dpL_one]; omega) h4
      rw [cntL_app, cntL_one] at j1
      exact ⟨by omega, j2, j3⟩
theorem list_cnt {s : Tx} {g : Nat → Nat → Wd Ar} {f : Nat} (hG : ∀ p c a p' c', g p c = .ok a p' c' → c' = c + cntA a ∧ dpA a ≤ f ∧ c' ≤ 60) {p c : Nat} {l : List Ar} {p' c' : Nat} (hc : c ≤ 60) (h : listW g s p c = .ok l p' c') : c' = c + cntL l ∧ dpL l ≤ f ∧ c' ≤ 60 := by
  rw [listW] at h
  split at h
  · cases h; exact ⟨by rw [cntL]; omega, by rw [dpL]; omega, hc⟩
  · obtain ⟨a, p1, c1, h1, h2⟩ := then_ok h
    obtain ⟨i1, i2, i3⟩ := hG _ _ _ _ _ h1
    obtain ⟨j1, j2, j3⟩ := more_cnt hG _ _ _ _ _ _ _ i3 (by rw [dpL_one]; exact i2) h2
    rw [cntL_one] at j1
    exact ⟨by omega, j2, j3⟩
theorem cntA_leaf (k : Int) (t : Tx) : cntA (.mk k t []) = 1 := by rw [cntA, cntL]
theorem arg_cnt {s : Tx} : ∀ (f p c : Nat) (a : Ar) (p' c' : Nat), argW s f p c = .ok a p' c' → c' = c + cntA a ∧ dpA a ≤ f ∧ c' ≤ 60
  | 0, p, c, a, p', c', h => by rw [argW] at h; cases h
  | f + 1, p, c, a, p', c', h => by
    rw [argW] at h
    split at h
    · cases h
    · split at h
      · obtain ⟨t, h1, rfl⟩ := map_ok h
        have e := (counted_ok h1).2
        exact ⟨by rw [cntA_leaf]; omega, by rw [dpA]; simp, by omega⟩
      · split at h
        · obtain ⟨t, h1, rfl⟩ := map_ok h
          have e := (quoted_ok _ _ _ _ _ _ h1).2
          exact ⟨by rw [cntA_leaf]; omega, by rw [dpA]; simp, by omega⟩
        · split at h
          · obtain ⟨l, h1, rfl⟩ := map_ok h
            obtain ⟨i1, i2, i3⟩ := list_cnt (arg_cnt f) (by omega) h1
            exact ⟨by rw [cntA]; omega, by rw [dpA, if_pos rfl]; omega, i3⟩
          · obtain ⟨t, h1, rfl⟩ := map_ok h
            have e := word_cnt h1
            exact ⟨by rw [cntA_leaf]; omega, by rw [dpA]; simp, by omega⟩
theorem args_cnt {s : Tx} : ∀ (n : Nat) (acc : List Ar) (p c : Nat) (l : List Ar) (p' c' : Nat), c ≤ 60 → dpL acc ≤ 7 → argsW s n acc p c = .ok l p' c' → c' + cntL acc = c + cntL l ∧ dpL l ≤ 7 ∧ c' ≤ 60
  | 0, acc, p, c, l, p', c', hc, ha, h => by rw [argsW] at h; cases h
  | n + 1, acc, p, c, l, p', c', hc, ha, h => by
    rw [argsW] at h
    split at h
    · cases h; exact ⟨rfl, ha, hc⟩
    · obtain ⟨u, p1, c1, h1, h2⟩ := then_ok h
      obtain ⟨a, p2, c2, h3, h4⟩ := then_ok h2
      have e1 := blank_cnt h1
      obtain ⟨i1, i2, i3⟩ := arg_cnt 7 _ _ _ _ _ h3
      obtain ⟨j1, j2, j3⟩ := args_cnt n _ _ _ _ _ _ i3 (by rw [dpL_app, dpL_one]; omega) h4
      rw [cntL_app, cntL_one] at j1
      exact ⟨by omega, j2, j3⟩
end Go.Proofs.YtmcpohnilgbicaaGreatDoor
namespace Go.Proofs.YtmcpohnilgbicaaGreatDoor
open Go.Proofs.Hd
open Go.Proofs.Sr (Ar)

/-- Parts that a reading may tell. -/
inductive Rdb : Ar → Prop
  | atom (t : Tx) (h : t ≠ []) (hw : ∀ c ∈ t, wordy c = true) : Rdb (.mk 1 t [])
  | str (t : Tx) (ht : t.length ≤ 100000) : Rdb (.mk 2 t [])
  | lst (l : List Ar) (h : ∀ x ∈ l, Rdb x) : Rdb (.mk 3 [] l)
theorem more_rdb {s : Tx} {g : Nat → Nat → Wd Ar} (hG : ∀ p c a p' c', g p c = .ok a p' c' → Rdb a) : ∀ (n : Nat) (acc : List Ar) (p c : Nat) (l : List Ar) (p' c' : Nat), (∀ x ∈ acc, Rdb x) → moreW g s n acc p c = .ok l p' c' → ∀ x ∈ l, Rdb x
  | 0, acc, p, c, l, p', c', ha, h => by rw [moreW] at h; cases h
  | n + 1, acc, p, c, l, p', c', ha, h => by
    rw [moreW] at h
    split at h
    · cases h; exact ha
    · obtain ⟨u, p1, c1, _, h2⟩ := then_ok h
      obtain ⟨a, p2, c2, h3, h4⟩ := then_ok h2
      exact more_rdb hG n _ _ _ _ _ _ (fun x hx => by
        rcases List.mem_append.1 hx with hx | hx
        · exact ha x hx
        · obtain rfl := List.mem_singleton.1 hx; exact hG _ _ _ _ _ h3) h4
theorem arg_rdb {s : Tx} (hs : s.length ≤ 100000) : ∀ (f p c : Nat) (a : Ar) (p' c' : Nat), argW s f p c = .ok a p' c' → Rdb a
  | 0, p, c, a, p', c', h => by rw [argW] at h; cases h
  | f + 1, p, c, a, p', c', h => by
    rw [argW] at h
    split at h
    · cases h
    · split at h
      · obtain ⟨t, h1, rfl⟩ := map_ok h
        exact .str t (Nat.le_trans (counted_len h1) hs)
      · split at h
        · obtain ⟨t, h1, rfl⟩ := map_ok h
          have := quoted_len _ _ _ _ _ _ h1
          exact .str t (by simp at this; omega)
        · split at h
          · obtain ⟨l, h1, rfl⟩ := map_ok h
            refine .lst l ?_
            rw [listW] at h1
            split at h1
            · cases h1; simp
            · obtain ⟨a, p1, c1, h2, h3⟩ := then_ok h1
              exact more_rdb (arg_rdb hs f) _ _ _ _ _ _ _ (fun x hx => by obtain rfl := List.mem_singleton.1 hx; exact arg_rdb hs f _ _ _ _ _ h2) h3
          · obtain ⟨t, h1, rfl⟩ := map_ok h
            rw [wordW] at h1
            split at h1
            · cases h1
            · next hne =>
              cases h1
              exact .atom _ hne (List.all_eq_true.1 List.all_takeWhile)
theorem args_rdb {s : Tx} (hs : s.length ≤ 100000) : ∀ (n : Nat) (acc : List Ar) (p c : Nat) (l : List Ar) (p' c' : Nat), (∀ x ∈ acc, Rdb x) → argsW s n acc p c = .ok l p' c' → ∀ x ∈ l, Rdb x
  | 0, acc, p, c, l, p', c', ha, h => by rw [argsW] at h; cases h
  | n + 1, acc, p, c, l, p', c', ha, h => by
    rw [argsW] at h
    split at h
    · cases h; exact ha
    · obtain ⟨u, p1, c1, _, h2⟩ := then_ok h
      obtain ⟨a, p2, c2, h3, h4⟩ := then_ok h2
      exact args_rdb hs n _ _ _ _ _ _ (fun x hx => by
        rcases List.mem_append.1 hx with hx | hx
        · exact ha x hx
        · obtain rfl := List.mem_singleton.1 hx; exact arg_rdb hs _ _ _ _ _ _ h3) h4
theorem not_wordy {x y : UInt8} (hx : wordy x = true) (hy : wordy y = false) : (y == x) = false := by
  cases h : (y == x) with
  | false => rfl
  | true => rw [← (beq_iff_eq.1 h), hy] at hx; cases hx
theorem word_back {s t r : Tx} {p c f : Nat} {d : UInt8} (hd : wordy d = false) (hc : c + 1 ≤ 60) (h0 : t ≠ []) (hw : ∀ c ∈ t, wordy c = true) (h : s.drop p = t ++ d :: r) : argW s (f + 1) p c = .ok (.mk 1 t []) (p + t.length) (c + 1) := by
  rw [argW, if_neg (by omega)]
  cases t with
  | nil => exact absurd rfl h0
  | cons x t =>
    have hx := hw x List.mem_cons_self
    have hdr : s.drop p = x :: (t ++ d :: r) := h
    rw [took_drop hdr, not_wordy hx (by decide), if_neg (by simp), took_drop hdr, not_wordy hx (by decide), if_neg (by simp), took_drop hdr, not_wordy hx (by decide), if_neg (by simp)]
    unfold wordW
    rw [h, word_upto hw hd, if_neg (by simp)]
    rfl
theorem quo_behind {s t r : Tx} {p c f : Nat} (hc : c + 1 ≤ 60) (hp : p ≤ s.length) (ht : ∀ x ∈ t, plainB x = true) (h : s.drop p = 34 :: (esc t ++ [34]) ++ r) : argW s (f + 1) p c = .ok (.mk 2 t []) (p + (34 :: (esc t ++ [34])).length) (c + 1) := by
  have hdr : s.drop p = 34 :: (esc t ++ 34 :: r) := by rw [h]; simp
  have h1 : s.drop (p + 1) = esc t ++ 34 :: r := drop_more (a := [34]) hdr
  have hl := drop_len hdr hp
  rw [argW, if_neg (by omega), took_drop hdr, if_neg (by decide), took_drop hdr, if_pos (by decide)]
  rw [quoted_at t [] s.length (p + 1) ht h1 (by
    simp only [List.length_cons, List.length_append] at hl
    have : t.length ≤ (esc t).length := by
      clear hl h1 hdr h ht
      induction t with
      | nil => simp
      | cons x t ih =>
        show _ ≤ (List.flatMap _ (x :: t)).length
        rw [List.flatMap_cons, List.length_append]
        have : 1 ≤ (if x = 92 ∨ x = 34 then [92, x] else [x]).length := by split <;> simp
        have h2 : (esc t).length = (List.flatMap (fun c => if c = 92 ∨ c = 34 then [92, c] else [c]) t).length := rfl
        rw [List.length_cons]
        omega
    omega)]
  show Wd.ok _ _ _ = _
  simp
  omega
end Go.Proofs.YtmcpohnilgbicaaGreatDoor
namespace Go.Proofs.YtmcpohnilgbicaaGreatDoor
open Go.Proofs.Hd
open Go.Proofs.Sr (Ar)

theorem cou_back {s t r : Tx} {p c f : Nat} (hc : c + 1 ≤ 60) (hp : p ≤ s.length) (ht : t.length ≤ 100000) (h : s.drop p = 123 :: (Lib.itoa (t.length : Int) ++ [125, 13, 10] ++ t) ++ r) :
    argW s (f + 1) p c = .ok (.mk 2 t []) (p + (123 :: (Lib.itoa (t.length : Int) ++ [125, 13, 10] ++ t)).length) (c + 1) := by
  have hdr : s.drop p = 123 :: (Lib.itoa (t.length : Int) ++ [125, 13, 10] ++ t ++ r) := by rw [h]; simp
  rw [argW, if_neg (by omega), took_drop hdr, if_pos (by decide), counted_at (by omega) hp h]
  rfl
theorem wordy_plain {c : UInt8} (h : wordy c = true) : plainB c = true := by
  unfold wordy at h
  unfold plainB
  simp only [Bool.and_eq_true, decide_eq_true_eq] at h ⊢
  omega
theorem str_back {s t r : Tx} {p c f : Nat} (hc : c + 1 ≤ 60) (hp : p ≤ s.length) (ht : t.length ≤ 100000) (h : s.drop p = strW t ++ r) : argW s (f + 1) p c = .ok (.mk 2 t []) (p + (strW t).length) (c + 1) := by
  unfold strW at h ⊢
  by_cases hb : bareW t = true
  · rw [if_pos hb] at h ⊢
    unfold bareW at hb
    simp only [Bool.and_eq_true, Bool.not_eq_true', decide_eq_true_eq] at hb
    exact quo_behind hc hp (fun x hx => wordy_plain (word_all hb.1.2 x hx)) h
  · rw [if_neg hb] at h ⊢
    unfold quoteW at h ⊢
    rw [if_neg hb] at h ⊢
    by_cases ha : t.all plainB = true
    · rw [if_pos ha] at h ⊢
      exact quo_behind hc hp (List.all_eq_true.1 ha) h
    · rw [if_neg ha] at h ⊢
      exact cou_back hc hp ht h
theorem more_back {s : Tx} {g : Nat → Nat → Wd Ar} {r : Tx} : ∀ (l : List Ar) (acc : List Ar) (p c n : Nat), (∀ x ∈ l, ∀ p c d r, wordy d = false → s.drop p = prA x ++ d :: r → p ≤ s.length → c + cntA x ≤ 60 → g p c = .ok x (p + (prA x).length) (c + cntA x)) →
    s.drop p = prL false l ++ 41 :: r → p ≤ s.length → c + cntL l ≤ 60 → l.length < n → moreW g s n acc p c = .ok (acc ++ l) (p + (prL false l).length + 1) (c + cntL l)
  | l, acc, p, c, 0, _, _, _, _, hn => by omega
  | [], acc, p, c, n + 1, hG, h, hp, hc, hn => by
    rw [prL, List.nil_append] at h
    rw [moreW, took_drop h, if_pos (by decide), prL, cntL]
    simp
  | a :: l, acc, p, c, n + 1, hG, h, hp, hc, hn => by
    rw [prL] at h ⊢
    rw [cntL] at hc ⊢
    have hdr : s.drop p = 32 :: (prA a ++ (prL false l ++ 41 :: r)) := by rw [h]; simp
    have hl := drop_len hdr hp
    simp only [List.length_cons] at hl
    have h1 : s.drop (p + 1) = prA a ++ (prL false l ++ 41 :: r) := drop_more (a := [32]) hdr
    obtain ⟨d, q, hd, hq⟩ : ∃ d q, wordy d = false ∧ prL false l ++ 41 :: r = d :: q := by
      cases l with
      | nil => exact ⟨41, r, by decide, by rw [prL]; rfl⟩
      | cons b l => exact ⟨32, _, by decide, by rw [prL]; rfl⟩
    have h2 := h1
    rw [hq] at h2
    have e := hG a List.mem_cons_self (p + 1) c d q hd h2 (by omega) (by omega)
    have h3 : s.drop (p + 1 + (prA a).length) = prL false l ++ 41 :: r := drop_more h1
    have hl2 : p + 1 + (prA a).length ≤ s.length := by
      simp only [List.length_append] at hl
      omega
    have ih := more_back l (acc ++ [a]) (p + 1 + (prA a).length) (c + cntA a) n (fun x hx => hG x (List.mem_cons_of_mem _ hx)) h3 hl2 (by omega) (by simp at hn; omega)
    rw [moreW, took_drop hdr, if_neg (by decide)]
    show (blankW s p c).then _ = _
    rw [blankW, took_drop hdr, if_pos (by decide)]
    show (g (p + 1) c).then _ = _
    rw [e]
    show moreW g s n (acc ++ [a]) (p + 1 + (prA a).length) (c + cntA a) = _
    rw [ih]
    simp only [List.append_assoc, List.singleton_append, Bool.false_eq_true, if_false, List.length_append, List.length_cons]
    congr 1 <;> omega
theorem dp_mem : ∀ {l : List Ar} {x : Ar}, x ∈ l → dpA x ≤ dpL l
  | a :: l, x, h => by
    rw [dpL]
    rcases List.mem_cons.1 h with rfl | h
    · omega
    · have := dp_mem h
      omega
theorem cnt_pos (a : Ar) : 1 ≤ cntA a := by
  cases a with
  | mk k t l => rw [cntA]; omega
theorem len_cnt : ∀ (l : List Ar), l.length ≤ cntL l
  | [] => by simp
  | a :: l => by
    rw [cntL, List.length_cons]
    have := len_cnt l
    have := cnt_pos a
    omega
theorem pr_first {a : Ar} (h : Rdb a) : ∃ x q, prA a = x :: q ∧ ((41 : UInt8) == x) = false := by
  cases h with
  | atom t h hw =>
    rw [prA_1 rfl]
    cases t with
    | nil => exact absurd rfl h
    | cons x t => exact ⟨x, t, rfl, not_wordy (hw x List.mem_cons_self) (by decide)⟩
  | str t ht =>
    rw [prA_2 rfl]
    show ∃ x q, strW t = x :: q ∧ _
    unfold strW
    split
    · exact ⟨34, _, rfl, by decide⟩
    · next hb =>
      unfold quoteW
      rw [if_neg hb]
      split
      · exact ⟨34, _, rfl, by decide⟩
      · exact ⟨123, _, rfl, by decide⟩
  | lst l h =>
    rw [prA_3 rfl]
    exact ⟨40, _, rfl, by decide⟩
theorem arg_back {s : Tx} {a : Ar} (ha : Rdb a) : ∀ (f p c : Nat) (d : UInt8) (r : Tx), dpA a ≤ f → wordy d = false → s.drop p = prA a ++ d :: r → p ≤ s.length → c + cntA a ≤ 60 → argW s f p c = .ok a (p + (prA a).length) (c + cntA a) := by
  induction ha with
  | atom t h hw =>
    intro f p c d r hf hd hs hp hc
    rw [cntA_leaf] at hc ⊢
    rw [prA_1 rfl] at hs ⊢
    rw [dpA] at hf
    obtain ⟨f, rfl⟩ : ∃ g, f = g + 1 := ⟨f - 1, by simp at hf; omega⟩
    exact word_back hd hc h hw hs
  | str t ht =>
    intro f p c d r hf hd hs hp hc
    rw [cntA_leaf] at hc ⊢
    rw [prA_2 rfl] at hs ⊢
    rw [dpA] at hf
    obtain ⟨f, rfl⟩ : ∃ g, f = g + 1 := ⟨f - 1, by simp at hf; omega⟩
    exact str_back hc hp ht hs
  | lst l h ih =>
    intro f p c d r hf hd hs hp hc
    rw [prA_3 rfl] at hs ⊢
    rw [dpA, if_pos rfl] at hf
    rw [cntA] at hc ⊢
    obtain ⟨f, rfl⟩ : ∃ g, f = g + 1 := ⟨f - 1, by omega⟩
    have hs : s.drop p = 40 :: (prL true l ++ (41 :: d :: r)) := by rw [hs]; simp [Sr.Ar.list]
    have hl := drop_len hs hp
    simp only [List.length_cons, List.length_append] at hl
    have h1 : s.drop (p + 1) = prL true l ++ (41 :: d :: r) := drop_more (a := [40]) hs
    rw [argW, if_neg (by omega), took_drop hs, if_neg (by decide), took_drop hs, if_neg (by decide), took_drop hs, if_pos (by decide)]
    show (listW (argW s f) s (p + 1) (c + 1)).map _ = _
    cases l with
    | nil =>
      rw [prL, List.nil_append] at h1
      rw [listW, took_drop h1, if_pos (by decide), cntL]
      show Wd.ok _ _ _ = _
      simp [Sr.Ar.list, prL]
    | cons b l =>
      obtain ⟨x, q, hx, hx1⟩ := pr_first (h b List.mem_cons_self)
      rw [prL, if_pos rfl, List.nil_append] at h1
      rw [cntL] at hc ⊢
      have h1' : s.drop (p + 1) = x :: (q ++ (prL false l ++ (41 :: d :: r))) := by rw [h1, hx]; simp
      have h2 : s.drop (p + 1) = prA b ++ (prL false l ++ 41 :: d :: r) := by rw [h1]; simp
      obtain ⟨e, q2, he, hq⟩ : ∃ e q, wordy e = false ∧ prL false l ++ 41 :: d :: r = e :: q := by
        cases l with
        | nil => exact ⟨41, _, by decide, by rw [prL]; rfl⟩
        | cons b l => exact ⟨32, _, by decide, by rw [prL]; rfl⟩
      have h3 := h2
      rw [hq] at h3
      have hdb := dp_mem (List.mem_cons_self (a := b) (l := l))
      have g1 := ih b List.mem_cons_self f (p + 1) (c + 1) e q2 (by omega) he h3 (by omega) (by omega)
      have h4 : s.drop (p + 1 + (prA b).length) = prL false l ++ 41 :: d :: r := drop_more h2
      have hl3 : p + 1 + (prA b).length ≤ s.length := by
        rw [prL] at hl
        simp only [List.length_append] at hl
        omega
      have hlc := len_cnt l
      have g2 := more_back (g := argW s f) l [b] (p + 1 + (prA b).length) (c + 1 + cntA b) 62 (fun y hy p c d r hd hs hp hc => ih y (List.mem_cons_of_mem _ hy) f p c d r (by have := dp_mem (List.mem_cons_of_mem b hy); omega) hd hs hp hc) h4 hl3 (by omega) (by omega)
      rw [listW, took_drop h1', hx1, if_neg (by decide)]
      rw [g1]
      show Wd.map _ (moreW (argW s f) s 62 [b] _ _) = _
      rw [g2]
      show Wd.ok _ _ _ = _
      simp only [Sr.Ar.list, prL, if_true, List.nil_append, List.length_cons, List.length_append, List.length_nil, List.singleton_append]
      congr 1 <;> omega
end Go.Proofs.YtmcpohnilgbicaaGreatDoor
namespace Go.Proofs.YtmcpohnilgbicaaGreatDoor
open Go.Proofs.Hd
open Go.Proofs.Sr (Ar)

theorem args_back {s : Tx} : ∀ (l : List Ar) (acc : List Ar) (p c n : Nat), (∀ x ∈ l, Rdb x) → dpL l ≤ 7 → s.drop p = prL false l ++ [13, 10] → p ≤ s.length → c + cntL l ≤ 60 → l.length < n → argsW s n acc p c = .ok (acc ++ l) (p + (prL false l).length) (c + cntL l)
  | l, acc, p, c, 0, _, _, _, _, _, hn => by omega
  | [], acc, p, c, n + 1, hR, hD, h, hp, hc, hn => by
    rw [prL, List.nil_append] at h
    rw [argsW, if_pos h, prL, cntL]
    simp
  | a :: l, acc, p, c, n + 1, hR, hD, h, hp, hc, hn => by
    rw [prL] at h ⊢
    rw [cntL] at hc ⊢
    have hdr : s.drop p = 32 :: (prA a ++ (prL false l ++ [13, 10])) := by rw [h]; simp
    have hl := drop_len hdr hp
    simp only [List.length_cons] at hl
    have h1 : s.drop (p + 1) = prA a ++ (prL false l ++ [13, 10]) := drop_more (a := [32]) hdr
    obtain ⟨d, q, hd, hq⟩ : ∃ d q, wordy d = false ∧ prL false l ++ [13, 10] = d :: q := by
      cases l with
      | nil => exact ⟨13, [10], by decide, by rw [prL]; rfl⟩
      | cons b l => exact ⟨32, _, by decide, by rw [prL]; rfl⟩
    have h2 := h1
    rw [hq] at h2
    have hdb : dpA a ≤ 7 := Nat.le_trans (dp_mem List.mem_cons_self) hD
    have e := arg_back (hR a List.mem_cons_self) 7 (p + 1) c d q hdb hd h2 (by omega) (by omega)
    have h3 : s.drop (p + 1 + (prA a).length) = prL false l ++ [13, 10] := drop_more h1
    have hl2 : p + 1 + (prA a).length ≤ s.length := by
      simp only [List.length_append] at hl
      omega
    have ih := args_back l (acc ++ [a]) (p + 1 + (prA a).length) (c + cntA a) n (fun x hx => hR x (List.mem_cons_of_mem _ hx)) (by rw [dpL] at hD; omega) h3 hl2 (by omega) (by simp at hn; omega)
    rw [argsW, if_neg (by rw [hdr]; simp)]
    rw [blankW, took_drop hdr, if_pos (by decide)]
    show (argW s 7 (p + 1) c).then _ = _
    rw [e]
    show argsW s n (acc ++ [a]) (p + 1 + (prA a).length) (c + cntA a) = _
    rw [ih]
    simp only [List.append_assoc, List.singleton_append, Bool.false_eq_true, if_false, List.length_append, List.length_cons]
    congr 1 <;> omega
theorem gr_word (c : UInt8) : (wordy c = true → wordy (gr c) = true) ∧ gr (gr c) = gr c := by
  have h : ∀ n : Fin 256, (wordy (UInt8.ofNat n.val) = true → wordy (gr (UInt8.ofNat n.val)) = true) ∧ gr (gr (UInt8.ofNat n.val)) = gr (UInt8.ofNat n.val) := by decide +kernel
  have := h ⟨c.toNat, c.toNat_lt⟩
  simpa using this
theorem great_twice (s : Tx) : great (great s) = great s := by
  unfold great
  rw [List.map_map]
  exact List.map_congr_left fun c _ => (gr_word c).2
/-- What a reading tells of a command. -/
def Told (k : Cmd) : Prop := (k.tag ≠ [] ∧ ∀ c ∈ k.tag, wordy c = true) ∧ (k.name ≠ [] ∧ (∀ c ∈ k.name, wordy c = true) ∧ great k.name = k.name) ∧ (∀ x ∈ k.args, Rdb x ∧ Shp 7 x) ∧ dpL k.args ≤ 7 ∧ cntL k.args ≤ 60
theorem word_told {s t : Tx} {p c p' c' : Nat} (h : wordW s p c = .ok t p' c') : t ≠ [] ∧ ∀ c ∈ t, wordy c = true := by
  rw [wordW] at h
  split at h
  · cases h
  · next hne =>
    cases h
    exact ⟨hne, List.all_eq_true.1 List.all_takeWhile⟩
theorem parse_told {s : Tx} (hs : s.length ≤ 100000) {k : Cmd} {p c : Nat} (h : parseW s = .ok k p c) : Told k := by
  rw [parseW] at h
  split at h
  · rw [commandW] at h
    obtain ⟨t, p1, c1, h1, h⟩ := then_ok h
    obtain ⟨u, p2, c2, h2, h⟩ := then_ok h
    obtain ⟨n, p3, c3, h3, h⟩ := then_ok h
    obtain ⟨l, h4, rfl⟩ := map_ok h
    have e1 := word_cnt h1
    have e2 := blank_cnt h2
    have e3 := word_cnt h3
    have w3 := word_told h3
    obtain ⟨i1, i2, i3⟩ := args_cnt _ _ _ _ _ _ _ (by omega) (by rw [dpL]; omega) h4
    have j := args_shape hs _ _ _ _ _ _ _ (by simp) h4
    have r := args_rdb hs _ _ _ _ _ _ _ (by simp) h4
    refine ⟨word_told h1, ⟨?_, ?_, great_twice n⟩, fun x hx => ⟨r x hx, j.1 x hx⟩, i2, ?_⟩
    · intro e
      exact w3.1 (List.eq_nil_of_length_eq_zero (by have := congrArg List.length e; simpa [great] using this))
    · intro c hc
      obtain ⟨b, hb, rfl⟩ := List.mem_map.1 hc
      exact (gr_word b).1 (w3.2 b hb)
    · rw [cntL] at i1
      show cntL l ≤ 60
      omega
  · cases h
theorem parse_back {k : Cmd} (h : Told k) : ∃ p c, parseW (prC k.tag k.name k.args) = .ok k p c := by
  obtain ⟨⟨t0, tw⟩, ⟨n0, nw, ng⟩, hx, hd, hc⟩ := h
  obtain ⟨tag, name, l⟩ := k
  simp only at t0 tw n0 nw ng hx hd hc ⊢
  obtain ⟨s, hs⟩ : ∃ s, prC tag name l = s := ⟨_, rfl⟩
  have h0 : s.drop 0 = tag ++ 32 :: (name ++ (prL false l ++ [13, 10])) := by rw [List.drop_zero, ← hs, prC]; simp
  have hsuf : Lib.hasSuffix s [13, 10] = true := by
    rw [← hs, prC]
    exact List.isSuffixOf_iff_suffix.2 (List.suffix_append _ _)
  have h1 : s.drop (0 + tag.length) = 32 :: (name ++ (prL false l ++ [13, 10])) := drop_more h0
  have h2 : s.drop (0 + tag.length + 1) = name ++ (prL false l ++ [13, 10]) := drop_more (a := [32]) h1
  have h3 : s.drop (0 + tag.length + 1 + name.length) = prL false l ++ [13, 10] := drop_more h2
  obtain ⟨d, q, hd1, hq⟩ : ∃ d q, wordy d = false ∧ prL false l ++ [13, 10] = d :: q := by
    cases l with
    | nil => exact ⟨13, [10], by decide, by rw [prL]; rfl⟩
    | cons b l => exact ⟨32, _, by decide, by rw [prL]; rfl⟩
  have hl0 := drop_len h0 (Nat.zero_le _)
  simp only [List.length_append, List.length_cons] at hl0
  have hln := len_cnt l
  have e4 := args_back l [] (0 + tag.length + 1 + name.length) 0 62 (fun x hm => (hx x hm).1) hd h3 (by omega) (by omega) (by omega)
  have h2' := h2
  rw [hq] at h2'
  rw [hs, parseW, if_pos hsuf, commandW]
  refine ⟨0 + tag.length + 1 + name.length + (prL false l).length, 0 + cntL l, ?_⟩
  rw [wordW, h0, word_upto tw (by decide), if_neg t0]
  show (blankW s (0 + tag.length) 0).then _ = _
  rw [blankW, took_drop h1, if_pos (by decide)]
  show (wordW s (0 + tag.length + 1) 0).then _ = _
  rw [wordW, h2', word_upto nw hd1, if_neg n0]
  show (argsW s 62 [] (0 + tag.length + 1 + name.length) 0).map _ = _
  rw [e4]
  show Wd.ok (Cmd.mk tag (great name) ([] ++ l)) _ _ = _
  rw [ng, List.nil_append]
end Go.Proofs.YtmcpohnilgbicaaGreatDoor
namespace Go.Proofs.YtmcpohnilgbicaaGreatDoor
open Go.Proofs.Hd
open Go.Proofs.Sr (Ar)

theorem esc_plain {s : Tx} (h : ∀ c ∈ s, plainB c = true) : ∀ c ∈ esc s, plainB c = true := by
  intro c hc
  unfold esc at hc
  obtain ⟨x, hx, hc⟩ := List.mem_flatMap.1 hc
  split at hc
  · rcases List.mem_cons.1 hc with rfl | hc
    · decide
    · rw [List.mem_singleton.1 hc]; exact h x hx
  · rw [List.mem_singleton.1 hc]; exact h x hx
theorem plain_13 {c : UInt8} (h : plainB c = true) : c ≠ 13 := by rintro rfl; revert h; decide
theorem quote_seg (t : Tx) (ht : t.length ≤ 100000) : ∃ g : Sg, g.text = quoteW t ∧ g.good := by
  unfold quoteW
  by_cases hb : bareW t = true
  · rw [if_pos hb]
    unfold bareW at hb
    simp only [Bool.and_eq_true, Bool.not_eq_true', decide_eq_true_eq] at hb
    exact ⟨.plain t, rfl, fun c hc => (wordy_ne (word_all hb.1.2 c hc)).1⟩
  · rw [if_neg hb]
    by_cases hp : t.all plainB = true
    · rw [if_pos hp]
      refine ⟨.plain (34 :: (esc t ++ [34])), rfl, fun c hc => ?_⟩
      rcases List.mem_cons.1 hc with rfl | hc
      · decide
      · rcases List.mem_append.1 hc with hc | hc
        · exact plain_13 (esc_plain (List.all_eq_true.1 hp) c hc)
        · rw [List.mem_singleton.1 hc]; decide
    · rw [if_neg hp]
      exact ⟨.lit t, rfl, show t.length ≤ _ by omega⟩
/-- The first letter of a text that is quoted is no ). -/
theorem quote_first (t : Tx) : ∃ x r, quoteW t = x :: r ∧ ((41 : UInt8) == x) = false := by
  unfold quoteW
  by_cases hb : bareW t = true
  · rw [if_pos hb]
    unfold bareW at hb
    simp only [Bool.and_eq_true, Bool.not_eq_true', decide_eq_true_eq] at hb
    cases t with
    | nil => simp at hb
    | cons x t =>
      have hw := word_all hb.1.2 x List.mem_cons_self
      refine ⟨x, t, rfl, ?_⟩
      cases h9 : ((41 : UInt8) == x) with
      | false => rfl
      | true => rw [← (beq_iff_eq.1 h9)] at hw; revert hw; decide
  · rw [if_neg hb]
    split
    · exact ⟨34, _, rfl, by decide⟩
    · exact ⟨123, _, rfl, by decide⟩
def xText (s t : Tx) : Tx := [97, 32, 98, 32] ++ quoteW s ++ [32, 40] ++ quoteW t ++ [32] ++ quoteW s ++ [41, 13, 10]
theorem x_next (s t rest : Tx) (hs : s.length ≤ 100000) (ht : t.length ≤ 100000) (hl : (xText s t).length ≤ 3000) : ∃ k, nextW (xText s t ++ rest) 0 0 = ((xText s t).length, k, false) := by
  obtain ⟨g1, e1, k1⟩ := quote_seg s hs
  obtain ⟨g2, e2, k2⟩ := quote_seg t ht
  have hseg : segs [.plain [97, 32, 98, 32], g1, .plain [32, 40], g2, .plain [32], g1] = [97, 32, 98, 32] ++ quoteW s ++ [32, 40] ++ quoteW t ++ [32] ++ quoteW s := by
    unfold segs
    simp only [List.flatMap_cons, List.flatMap_nil, e1, e2]
    simp [Sg.text]
  have hx : xText s t = segs [.plain [97, 32, 98, 32], g1, .plain [32, 40], g2, .plain [32], g1] ++ [41, 13, 10] := by rw [hseg]; rfl
  have hlen : (xText s t).length = (segs [.plain [97, 32, 98, 32], g1, .plain [32, 40], g2, .plain [32], g1]).length + 3 := by rw [hx]; simp
  obtain ⟨k, hk⟩ := next_segs (s := xText s t ++ rest) (d := 41) (rest := rest) (by decide) (by decide) [.plain [97, 32, 98, 32], g1, .plain [32, 40], g2, .plain [32], g1] [] 0 0 (fun c hc => by cases hc)
    (fun g hg => by
      simp only [List.mem_cons, List.not_mem_nil, or_false] at hg
      rcases hg with rfl | rfl | rfl | rfl | rfl | rfl
      · show ∀ c ∈ _, _; decide
      · exact k1
      · show ∀ c ∈ _, _; decide
      · exact k2
      · show ∀ c ∈ _, _; decide
      · exact k1)
    (by omega) (by rw [List.drop_zero, List.nil_append, hx]; simp) (by rw [List.nil_append]; omega)
  refine ⟨k, hk.trans ?_⟩
  rw [List.nil_append, hlen]
  congr 1
  omega
theorem w32 : wordy 32 = false := by decide
theorem w41 : wordy 41 = false := by decide
theorem x_parse (s t : Tx) (hs : s.length ≤ 100000) (ht : t.length ≤ 100000) : ∃ k1 k2 k3 p c, parseW (xText s t) = .ok ⟨[97], [66], [.mk k1 s [], .mk 3 [] [.mk k2 t [], .mk k3 s []]]⟩ p c := by
  obtain ⟨X, hX⟩ : ∃ X, xText s t = X := ⟨_, rfl⟩
  rw [hX]
  have d0 : X.drop 0 = [97] ++ 32 :: (98 :: 32 :: (quoteW s ++ 32 :: (40 :: (quoteW t ++ 32 :: (quoteW s ++ 41 :: [13, 10]))))) := by rw [← hX]; simp [xText]
  have d1 : X.drop 1 = 32 :: (98 :: 32 :: (quoteW s ++ 32 :: (40 :: (quoteW t ++ 32 :: (quoteW s ++ 41 :: [13, 10]))))) := drop_more (a := [97]) d0
  have d2 : X.drop 2 = [98] ++ 32 :: (quoteW s ++ 32 :: (40 :: (quoteW t ++ 32 :: (quoteW s ++ 41 :: [13, 10])))) := drop_more (a := [97, 32]) (by rw [d0]; rfl)
  have d3 : X.drop 3 = 32 :: (quoteW s ++ 32 :: (40 :: (quoteW t ++ 32 :: (quoteW s ++ 41 :: [13, 10])))) := drop_more (a := [97, 32, 98]) (by rw [d0]; rfl)
  have d4 : X.drop 4 = quoteW s ++ 32 :: (40 :: (quoteW t ++ 32 :: (quoteW s ++ 41 :: [13, 10]))) := drop_more (a := [97, 32, 98, 32]) (by rw [d0]; rfl)
  have hlx : X.length = 4 + (quoteW s ++ 32 :: (40 :: (quoteW t ++ 32 :: (quoteW s ++ 41 :: [13, 10])))).length := by rw [← hX]; simp [xText]; omega
  have d5 := drop_more d4
  have d6 : X.drop (4 + (quoteW s).length + 1) = 40 :: (quoteW t ++ 32 :: (quoteW s ++ 41 :: [13, 10])) := drop_more (a := [32]) d5
  have d7 : X.drop (4 + (quoteW s).length + 1 + 1) = quoteW t ++ 32 :: (quoteW s ++ 41 :: [13, 10]) := drop_more (a := [40]) d6
  have d8 := drop_more d7
  have d9 : X.drop (4 + (quoteW s).length + 1 + 1 + (quoteW t).length + 1) = quoteW s ++ 41 :: [13, 10] := drop_more (a := [32]) d8
  have d10 := drop_more d9
  have d11 : X.drop (4 + (quoteW s).length + 1 + 1 + (quoteW t).length + 1 + (quoteW s).length + 1) = [13, 10] := drop_more (a := [41]) d10
  simp only [List.length_append, List.length_cons, List.length_nil] at hlx
  obtain ⟨k1, a1⟩ := arg_at (f := 6) (c := 0) w32 hs (by omega) (by omega) d4
  obtain ⟨k2, a2⟩ := arg_at (f := 5) (c := 2) w32 ht (by omega) (by omega) d7
  obtain ⟨k3, a3⟩ := arg_at (f := 5) (c := 3) w41 hs (by omega) (by omega) d9
  have hends : Lib.hasSuffix X [13, 10] = true := by
    unfold Lib.hasSuffix
    rw [List.isSuffixOf_iff_suffix, ← d11]
    exact List.drop_suffix _ _
  have hw1 : wordW X 0 0 = .ok [97] 1 0 := by
    unfold wordW
    rw [d0, word_upto (by decide) w32]
    rfl
  have hw2 : wordW X 2 0 = .ok [98] 3 0 := by
    unfold wordW
    rw [d2, word_upto (by decide) w32]
    rfl
  have bl : ∀ {p c : Nat} {r : Tx}, X.drop p = 32 :: r → blankW X p c = .ok () (p + 1) c := fun h => by
    unfold blankW
    rw [took_drop h]
    rfl
  obtain ⟨x0, r0, hq0, hq1⟩ := quote_first t
  have hlist : listW (argW X 6) X (4 + (quoteW s).length + 1 + 1) 2 = .ok [.mk k2 t [], .mk k3 s []] (4 + (quoteW s).length + 1 + 1 + (quoteW t).length + 1 + (quoteW s).length + 1) 4 := by
    unfold listW
    have hd7 := d7
    rw [hq0] at hd7
    rw [took_drop hd7, hq1, if_neg (by simp), a2]
    show moreW (argW X 6) X 62 [.mk k2 t []] _ _ = _
    rw [moreW, took_drop d8, if_neg (by decide), bl d8]
    show ((argW X 6 _ _).then _) = _
    rw [a3]
    show moreW (argW X 6) X 61 _ _ _ = _
    rw [moreW, took_drop d10, if_pos (by decide)]
    rfl
  have harg2 : argW X 7 (4 + (quoteW s).length + 1) 1 = .ok (.mk 3 [] [.mk k2 t [], .mk k3 s []]) (4 + (quoteW s).length + 1 + 1 + (quoteW t).length + 1 + (quoteW s).length + 1) 4 := by
    rw [argW, if_neg (by omega), took_drop d6, if_neg (by decide), took_drop d6, if_neg (by decide), took_drop d6, if_pos (by decide), hlist]
    rfl
  refine ⟨k1, k2, k3, 4 + (quoteW s).length + 1 + 1 + (quoteW t).length + 1 + (quoteW s).length + 1, 4, ?_⟩
  unfold parseW
  rw [hends, if_pos rfl]
  unfold commandW
  rw [hw1]
  show ((blankW X 1 0).then _) = _
  rw [bl d1]
  show ((wordW X 2 0).then _) = _
  rw [hw2]
  show ((argsW X 62 [] 3 0).map _) = _
  rw [argsW, d3, if_neg (by simp), bl d3]
  show (Wd.map _ ((argW X 7 4 0).then _)) = _
  rw [a1]
  show (Wd.map _ (argsW X 61 _ _ _)) = _
  rw [argsW, d5, if_neg (by simp), bl d5]
  show (Wd.map _ ((argW X 7 _ _).then _)) = _
  rw [harg2]
  show (Wd.map _ (argsW X 60 _ _ _)) = _
  rw [argsW, d11, if_pos rfl]
  rfl
end Go.Proofs.YtmcpohnilgbicaaGreatDoor
namespace Go.Proofs.YtmcpohnilgbicaaGreatDoor
open Go.Proofs.Hd
open Go.Proofs.Sr (Ar)

/-- A text in pieces that are good. -/
def Sgs (t : Tx) : Prop := ∃ L : List Sg, t = segs L ∧ ∀ g ∈ L, g.good ∧ g.keeps
theorem Sgs.nil : Sgs [] := ⟨[], rfl, by simp⟩
theorem Sgs.app {a b : Tx} (ha : Sgs a) (hb : Sgs b) : Sgs (a ++ b) := by
  obtain ⟨L, rfl, hL⟩ := ha
  obtain ⟨M, rfl, hM⟩ := hb
  exact ⟨L ++ M, by simp [segs], fun g hg => (List.mem_append.1 hg).elim (hL g) (hM g)⟩
theorem Sgs.plain {t : Tx} (h : ∀ c ∈ t, c ≠ 13 ∧ c ≠ 123) : Sgs t := ⟨[.plain t], by simp [segs, Sg.text], fun g hg => by
  obtain rfl := List.mem_singleton.1 hg
  exact ⟨fun c hc => (h c hc).1, fun pre hp => qua_none hp fun c hc => (h c hc).2⟩⟩
theorem wordy_sign {c : UInt8} (h : wordy c = true) : c ≠ 13 ∧ c ≠ 123 := ⟨by rintro rfl; revert h; decide, by rintro rfl; revert h; decide⟩
theorem quo_sgs {t : Tx} (h : ∀ x ∈ t, plainB x = true) : Sgs (34 :: (esc t ++ [34])) := ⟨[.plain (34 :: (esc t ++ [34]))], by simp [segs, Sg.text], fun g hg => by
  obtain rfl := List.mem_singleton.1 hg
  refine ⟨fun c hc => ?_, fun pre _ => qua_quote (t := 34 :: esc t)⟩
  rcases List.mem_cons.1 hc with rfl | hc
  · decide
  · rcases List.mem_append.1 hc with hc | hc
    · exact plain_13 (esc_plain h c hc)
    · rw [List.mem_singleton.1 hc]; decide⟩
theorem str_sgs {t : Tx} (ht : t.length ≤ 100000) : Sgs (strW t) := by
  unfold strW
  by_cases hb : bareW t = true
  · rw [if_pos hb]
    unfold bareW at hb
    simp only [Bool.and_eq_true, Bool.not_eq_true', decide_eq_true_eq] at hb
    exact quo_sgs fun x hx => wordy_plain (word_all hb.1.2 x hx)
  · rw [if_neg hb]
    unfold quoteW
    rw [if_neg hb]
    by_cases ha : t.all plainB = true
    · rw [if_pos ha]
      exact quo_sgs (List.all_eq_true.1 ha)
    · rw [if_neg ha]
      exact ⟨[.lit t], by simp [segs, Sg.text], fun g hg => by obtain rfl := List.mem_singleton.1 hg; exact ⟨by show t.length ≤ 2147483647; omega, trivial⟩⟩
theorem prL_sgs : ∀ (l : List Ar) (first : Bool), (∀ x ∈ l, Sgs (prA x)) → Sgs (prL first l)
  | [], first, _ => by rw [prL]; exact Sgs.nil
  | a :: l, first, h => by
    rw [prL]
    refine ((Sgs.plain ?_).app (h a List.mem_cons_self)).app (prL_sgs l false fun x hx => h x (List.mem_cons_of_mem _ hx))
    intro c hc
    split at hc
    · cases hc
    · rw [List.mem_singleton.1 hc]; decide
theorem pr_sgs {a : Ar} (h : Rdb a) : Sgs (prA a) := by
  induction h with
  | atom t h hw => rw [prA_1 rfl]; exact Sgs.plain fun c hc => wordy_sign (hw c hc)
  | str t ht => rw [prA_2 rfl]; exact str_sgs ht
  | lst l h ih =>
    rw [prA_3 rfl, show (40 : UInt8) :: (prL true (Ar.mk 3 [] l).list ++ [41]) = [40] ++ (prL true l ++ [41]) from rfl]
    exact (Sgs.plain (by decide)).app ((prL_sgs l true ih).app (Sgs.plain (by decide)))
theorem next_back {k : Cmd} (h : Told k) (rest : Tx) (hl : (prC k.tag k.name k.args).length ≤ 3000) : ∃ w, nextW (prC k.tag k.name k.args ++ rest) 0 0 = ((prC k.tag k.name k.args).length, w, false) := by
  obtain ⟨⟨_, tw⟩, ⟨_, nw, _⟩, hx, _, _⟩ := h
  have hS : Sgs (k.tag ++ 32 :: k.name ++ prL false k.args) := by
    rw [show k.tag ++ 32 :: k.name ++ prL false k.args = k.tag ++ ([32] ++ (k.name ++ prL false k.args)) by simp]
    exact (Sgs.plain fun c hc => wordy_sign (tw c hc)).app ((Sgs.plain (by decide)).app ((Sgs.plain fun c hc => wordy_sign (nw c hc)).app (prL_sgs _ _ fun x hm => pr_sgs (hx x hm).1)))
  obtain ⟨L, hL, hg⟩ := hS
  have hP : prC k.tag k.name k.args = segs L ++ [13, 10] := by rw [prC, hL]
  rw [hP] at hl ⊢
  obtain ⟨w, hw⟩ := next_run (s := segs L ++ [13, 10] ++ rest) (rest := rest) L [] 0 0 (by simp) qua_nil hg (Nat.zero_le _) (by simp) (by simp at hl ⊢; omega)
  refine ⟨w, hw.trans ?_⟩
  simp
end Go.Proofs.YtmcpohnilgbicaaGreatDoor
namespace Go.Proofs.YtmcpohnilgbicaaGreatDoor
open Go.Proofs.Hd

theorem crlf_take : ∀ (l : Tx) (q : Nat), (0 ≤ Lib.index (l.take q) [13, 10] → Lib.index l [13, 10] = Lib.index (l.take q) [13, 10]) ∧ (Lib.index (l.take q) [13, 10] < 0 → Lib.index l [13, 10] < 0 ∨ (q : Int) < Lib.index l [13, 10] + 2)
  | l, 0 => by
    have h0 : Lib.index ([] : Tx) [13, 10] = -1 := by decide
    rw [List.take_zero, h0]
    refine ⟨fun h => absurd h (by decide), fun _ => ?_⟩
    omega
  | [], q + 1 => by
    have h0 : Lib.index ([] : Tx) [13, 10] = -1 := by decide
    rw [List.take_nil, h0]
    exact ⟨fun h => absurd h (by decide), fun _ => Or.inl (by decide)⟩
  | b :: r, q + 1 => by
    obtain ⟨iA, iB⟩ := crlf_take r q
    rw [List.take_succ_cons, index_cons, index_cons]
    have g1 := Lib.index_ge r [13, 10]
    have g2 := Lib.index_ge (r.take q) [13, 10]
    by_cases hp : ([13, 10] : Tx).isPrefixOf (b :: r.take q) = true
    · have hp2 : ([13, 10] : Tx).isPrefixOf (b :: r) = true := by
        rw [List.isPrefixOf_iff_prefix] at hp ⊢
        exact hp.trans ((List.prefix_cons_inj b).2 (List.take_prefix q r))
      rw [if_pos hp, if_pos hp2]
      exact ⟨fun _ => rfl, fun h => absurd h (by decide)⟩
    · rw [if_neg hp]
      by_cases hp2 : ([13, 10] : Tx).isPrefixOf (b :: r) = true
      · rw [if_pos hp2]
        have hq : q = 0 := by
          cases q with
          | zero => rfl
          | succ q =>
            exfalso
            apply hp
            cases r with
            | nil => simp [List.isPrefixOf] at hp2
            | cons c r => simpa [List.isPrefixOf] using hp2
        subst hq
        have h0 : Lib.index ([] : Tx) [13, 10] = -1 := by decide
        rw [List.take_zero, h0]
        refine ⟨fun h => absurd h (by decide), fun _ => Or.inr (by decide)⟩
      · rw [if_neg hp2]
        by_cases h1 : Lib.index (r.take q) [13, 10] = -1
        · rw [if_pos h1]
          refine ⟨fun h => absurd h (by decide), fun _ => ?_⟩
          by_cases h2 : Lib.index r [13, 10] = -1
          · rw [if_pos h2]; exact Or.inl (by decide)
          · rw [if_neg h2]
            rcases iB (by omega) with h | h <;> right <;> push_cast <;> omega
        · rw [if_neg h1]
          have h2 := iA (by omega)
          rw [h2, if_neg h1]
          exact ⟨fun _ => rfl, fun h => absurd h (by omega)⟩
/-- What Next tells: it never waits less, and ends behind where it began. -/
theorem next_ends (s : Tx) : ∀ (f a k : Nat), s.length - a ≤ f → k ≤ (nextW s a k).2.1 ∧ ((nextW s a k).1 = 0 ∨ (a < (nextW s a k).1 ∧ (nextW s a k).1 ≤ s.length))
  | f, a, k, hf => by
    by_cases h : Lib.index (s.drop a) [13, 10] < 0
    · rw [nextW_none h]; exact ⟨Nat.le_refl _, Or.inl rfl⟩
    · obtain ⟨z, hz⟩ : ∃ z : Nat, Lib.index (s.drop a) [13, 10] = (z : Int) := ⟨(Lib.index (s.drop a) [13, 10]).toNat, by omega⟩
      have hle := index_lt (show 0 ≤ Lib.index (s.drop a) [13, 10] by omega)
      rw [hz, Int.toNat_natCast, List.length_drop] at hle
      cases ht : tailF ((s.drop a).take z) with
      | none =>
        rw [nextW_last hz ht]
        split
        · exact ⟨Nat.le_refl _, Or.inl rfl⟩
        · exact ⟨Nat.le_refl _, Or.inr ⟨by simp only; omega, by simp only; omega⟩⟩
      | some n =>
        rw [nextW_more hz ht]
        split
        · exact ⟨Nat.le_refl _, Or.inl rfl⟩
        · split
          · exact ⟨Nat.le_succ _, Or.inl rfl⟩
          · match f, hf with
            | 0, hf => exact absurd hf (by omega)
            | f + 1, hf =>
              obtain ⟨i1, i2⟩ := next_ends s f (a + z + 2 + n) (k + 1) (by omega)
              exact ⟨by omega, i2.imp id fun i => ⟨by omega, i.2⟩⟩
/-- A beginning of bytes, and all of them. -/
theorem next_pieces (s : Tx) (q : Nat) (hq : q ≤ s.length) (hs : s.length ≤ 3000) : ∀ (f a k : Nat), s.length - a ≤ f → a ≤ q →
    ((nextW (s.take q) a k).2.2 = true → (nextW s a k).2.2 = true) ∧
    ((nextW (s.take q) a k).2.2 = false → (nextW s a k).2.2 = false → (nextW (s.take q) a k).2.1 ≤ (nextW s a k).2.1 ∧ ((nextW (s.take q) a k).1 = 0 ∨ ((nextW (s.take q) a k).1 = (nextW s a k).1 ∧ (nextW (s.take q) a k).2.1 = (nextW s a k).2.1)) ∧ ((nextW s a k).1 = 0 ∨ q < (nextW s a k).1 ∨ (nextW (s.take q) a k).1 = (nextW s a k).1))
  | f, a, k, hf, ha => by
    have hdt : (s.take q).drop a = (s.drop a).take (q - a) := by rw [List.drop_take]
    obtain ⟨iA, iB⟩ := crlf_take (s.drop a) (q - a)
    have hlen : (s.take q).length = q := by rw [List.length_take]; omega
    by_cases h : Lib.index ((s.take q).drop a) [13, 10] < 0
    · rw [nextW_none h, hlen]
      have hF : decide (3000 < q) = false := decide_eq_false (by omega)
      rw [hF]
      refine ⟨fun q => (Bool.noConfusion q), fun _ _ => ?_⟩
      obtain ⟨e1, e2⟩ := next_ends s f a k hf
      refine ⟨e1, Or.inl rfl, ?_⟩
      rw [hdt] at h
      rcases iB h with h1 | h1
      · rw [nextW_none h1]; exact Or.inl rfl
      · have h0 : 0 ≤ Lib.index (s.drop a) [13, 10] ∨ Lib.index (s.drop a) [13, 10] < 0 := by omega
        rcases h0 with h0 | h0
        · obtain ⟨z, hz⟩ : ∃ z : Nat, Lib.index (s.drop a) [13, 10] = (z : Int) := ⟨(Lib.index (s.drop a) [13, 10]).toNat, by omega⟩
          rw [hz] at h1
          cases ht : tailF ((s.drop a).take z) with
          | none =>
            rw [nextW_last hz ht]
            split
            · exact Or.inl rfl
            · exact Or.inr (Or.inl (by simp only; omega))
          | some n =>
            rw [nextW_more hz ht]
            split
            · exact Or.inl rfl
            · split
              · exact Or.inl rfl
              · obtain ⟨_, i2⟩ := next_ends s s.length (a + z + 2 + n) (k + 1) (by omega)
                exact i2.imp id fun i => Or.inl (by omega)
        · rw [nextW_none h0]; exact Or.inl rfl
    · have hz0 : 0 ≤ Lib.index ((s.drop a).take (q - a)) [13, 10] := by rw [← hdt]; omega
      have hsame := iA hz0
      obtain ⟨z, hz⟩ : ∃ z : Nat, Lib.index ((s.take q).drop a) [13, 10] = (z : Int) := ⟨(Lib.index ((s.take q).drop a) [13, 10]).toNat, by omega⟩
      have hz2 : Lib.index (s.drop a) [13, 10] = (z : Int) := by rw [hsame, ← hdt, hz]
      have hle := index_lt hz0
      rw [← hdt, hz, Int.toNat_natCast, List.length_drop, hlen] at hle
      have hline : ((s.take q).drop a).take z = (s.drop a).take z := by rw [hdt, List.take_take, Nat.min_eq_left (by omega)]
      cases ht : tailF ((s.drop a).take z) with
      | none =>
        rw [nextW_last hz2 ht, nextW_last hz (by rw [hline]; exact ht)]
        split
        · exact ⟨id, fun h => Bool.noConfusion h⟩
        · exact ⟨id, fun _ _ => ⟨Nat.le_refl _, Or.inr ⟨rfl, rfl⟩, Or.inr (Or.inr rfl)⟩⟩
      | some n =>
        rw [nextW_more hz2 ht, nextW_more hz (by rw [hline]; exact ht), hlen]
        split
        · exact ⟨id, fun h => Bool.noConfusion h⟩
        · by_cases h1 : q < a + z + 2 + n
          · rw [if_pos h1]
            refine ⟨fun h => Bool.noConfusion h, fun _ _ => ?_⟩
            split
            · exact ⟨Nat.le_refl _, Or.inl rfl, Or.inl rfl⟩
            · obtain ⟨i1, i2⟩ := next_ends s s.length (a + z + 2 + n) (k + 1) (by omega)
              exact ⟨i1, Or.inl rfl, i2.imp id fun i => Or.inl (by omega)⟩
          · rw [if_neg h1, if_neg (by omega)]
            match f, hf with
            | 0, hf => exact absurd hf (by omega)
            | f + 1, hf => exact next_pieces s q hq hs f (a + z + 2 + n) (k + 1) (by omega) (by omega)
end Go.Proofs.YtmcpohnilgbicaaGreatDoor
namespace Go.Proofs.YtmcpohnilgbicaaGreatDoor
open Go.Proofs.Hd
open Go.Proofs.Sr (Ar)

mutual
def txA : Ar → Nat
  | .mk _ t l => t.length + txL l
def txL : List Ar → Nat
  | [] => 0
  | a :: r => txA a + txL r
end
theorem txL_app : ∀ (l r : List Ar), txL (l ++ r) = txL l + txL r
  | [], r => by rw [List.nil_append, txL]; omega
  | a :: l, r => by rw [List.cons_append, txL, txL, txL_app l r]; omega
theorem txL_one (a : Ar) : txL [a] = txA a := by rw [txL, txL]; omega
theorem txA_leaf (k : Int) (t : Tx) : txA (.mk k t []) = t.length := by rw [txA, txL]; omega
theorem quoted_tx {s : Tx} {c : Nat} : ∀ (f p : Nat) (acc t : Tx) (p' c' : Nat), quotedW s p c acc f = .ok t p' c' → t.length + p ≤ acc.length + p'
  | 0, p, acc, t, p', c', h => by rw [quotedW] at h; cases h
  | f + 1, p, acc, t, p', c', h => by
    rw [quotedW] at h
    split at h
    · cases h; omega
    · split at h
      · split at h
        · cases h
        · have := quoted_tx f _ _ t p' c' h
          simp at this
          omega
      · split at h
        · cases h
        · have := quoted_tx f _ _ t p' c' h
          simp at this
          omega
theorem word_tx {s : Tx} {p c p' c' : Nat} {t : Tx} (h : wordW s p c = .ok t p' c') : p' = p + t.length := by
  rw [wordW] at h
  split at h
  · cases h
  · cases h; rfl
theorem blank_tx {s : Tx} {p c p' c' : Nat} {u : Unit} (h : blankW s p c = .ok u p' c') : p' = p + 1 := by
  rw [blankW] at h
  split at h
  · cases h; rfl
  · cases h
theorem counted_tx {s : Tx} {p c p' c' : Nat} {t : Tx} (hp : p ≤ s.length) (h : countedW s p c = .ok t p' c') : p + t.length ≤ p' := by
  rw [countedW] at h
  split at h
  · cases h
  · split at h
    · cases h
    · split at h
      · cases h
      · cases h
        have h1 : (Lib.cut ((s.drop p).drop 1) [125, 13, 10]).2.1.length ≤ s.length - p := by
          unfold Lib.cut
          split
          · simp only [List.length_drop]; omega
          · simp
        rw [List.length_take]
        omega
theorem more_tx {s : Tx} {g : Nat → Nat → Wd Ar} (hE : Ends s) (hG : ∀ p c a p' c', p + 2 ≤ s.length → g p c = .ok a p' c' → p + txA a ≤ p' ∧ p' ≤ s.length) : ∀ (n : Nat) (acc : List Ar) (p c : Nat) (l : List Ar) (p' c' : Nat), moreW g s n acc p c = .ok l p' c' → p + txL l ≤ p' + txL acc
  | 0, acc, p, c, l, p', c', h => by rw [moreW] at h; cases h
  | n + 1, acc, p, c, l, p', c', h => by
    rw [moreW] at h
    split at h
    · cases h; omega
    · obtain ⟨u, p1, c1, h1, h2⟩ := then_ok h
      obtain ⟨a, p2, c2, h3, h4⟩ := then_ok h2
      have e1 := blank_wok hE h1
      have i1 := hG _ _ _ _ _ (by omega) h3
      have j := more_tx hE hG n _ _ _ _ _ _ h4
      rw [txL_app, txL_one] at j
      omega
theorem arg_tx {s : Tx} (hE : Ends s) : ∀ (f p c : Nat) (a : Ar) (p' c' : Nat), p + 2 ≤ s.length → argW s f p c = .ok a p' c' → p + txA a ≤ p' ∧ p' ≤ s.length
  | 0, p, c, a, p', c', _, h => by rw [argW] at h; cases h
  | f + 1, p, c, a, p', c', hp, h0 => by
    have hle := (arg_ok hE (f + 1) p c a p' c' hp h0).1
    refine ⟨?_, hle⟩
    have h := h0
    rw [argW] at h
    split at h
    · cases h
    · split at h
      · obtain ⟨t, h1, rfl⟩ := map_ok h
        rw [txA_leaf]
        exact counted_tx (by omega) h1
      · split at h
        · obtain ⟨t, h1, rfl⟩ := map_ok h
          rw [txA_leaf]
          have := quoted_tx _ _ _ _ _ _ h1
          simp at this
          omega
        · split at h
          · next h40 =>
            obtain ⟨l, h1, rfl⟩ := map_ok h
            rw [txA]
            have h2 := h1
            rw [listW] at h2
            split at h2
            · cases h2; rw [txL]; simp; omega
            · obtain ⟨b, p1, c1, h3, h4⟩ := then_ok h2
              have hp3 : p + 1 + 2 ≤ s.length := hE.took h40 (by decide) (by decide)
              have i1 := arg_tx hE f _ _ _ _ _ hp3 h3
              have j := more_tx hE (arg_tx hE f) _ _ _ _ _ _ _ h4
              rw [txL_one] at j
              simp
              omega
          · obtain ⟨t, h1, rfl⟩ := map_ok h
            rw [txA_leaf]
            have := word_tx h1
            omega
theorem args_tx {s : Tx} (hE : Ends s) : ∀ (n : Nat) (acc : List Ar) (p c : Nat) (l : List Ar) (p' c' : Nat), p ≤ s.length → argsW s n acc p c = .ok l p' c' → p + txL l ≤ s.length + txL acc
  | 0, acc, p, c, l, p', c', _, h => by rw [argsW] at h; cases h
  | n + 1, acc, p, c, l, p', c', hp, h => by
    rw [argsW] at h
    split at h
    · cases h; omega
    · obtain ⟨u, p1, c1, h1, h2⟩ := then_ok h
      obtain ⟨a, p2, c2, h3, h4⟩ := then_ok h2
      have e1 := blank_wok hE h1
      have i1 := arg_tx hE 7 _ _ _ _ _ (by omega) h3
      have j := args_tx hE n _ _ _ _ _ _ i1.2 h4
      rw [txL_app, txL_one] at j
      omega
theorem str_len {t : Tx} (ht : t.length ≤ 100000) : (strW t).length ≤ 2 * t.length + 14 := by
  have he := esc_len t
  unfold strW quoteW
  split
  · simp only [List.length_cons, List.length_append, List.length_nil]; omega
  · split
    · simp only [List.length_cons, List.length_append, List.length_nil]; omega
    · have hi : (Lib.itoa (t.length : Int)).length ≤ 10 := by
        rw [show Lib.itoa (t.length : Int) = Lib.decDigits t.length by rw [Lib.itoa, if_neg (by omega), Int.toNat_natCast]]
        exact Go.Proofs.Sq.nDigits_le (by omega)
      simp only [List.length_cons, List.length_append, List.length_nil]; omega
theorem prL_len : ∀ (l : List Ar) (first : Bool), (∀ x ∈ l, (prA x).length + 1 ≤ 2 * txA x + 17 * cntA x) → (prL first l).length ≤ 2 * txL l + 17 * cntL l
  | [], first, _ => by rw [prL]; simp
  | a :: l, first, h => by
    rw [prL, txL, cntL]
    have h1 := h a List.mem_cons_self
    have h2 := prL_len l false fun x hx => h x (List.mem_cons_of_mem _ hx)
    have h3 : (if first = true then ([] : Tx) else [32]).length ≤ 1 := by split <;> simp
    simp only [List.length_append]
    omega
theorem pr_len {a : Ar} (h : Rdb a) : (prA a).length + 1 ≤ 2 * txA a + 17 * cntA a := by
  induction h with
  | atom t h hw => rw [prA_1 rfl, txA_leaf, cntA_leaf]; show t.length + 1 ≤ _; omega
  | str t ht =>
    rw [prA_2 rfl, txA_leaf, cntA_leaf]
    have := str_len ht
    show (strW t).length + 1 ≤ _
    omega
  | lst l h ih =>
    rw [prA_3 rfl, txA, cntA]
    have := prL_len l true ih
    show ((40 : UInt8) :: (prL true l ++ [41])).length + 1 ≤ _
    simp only [List.length_cons, List.length_append, List.length_nil]
    omega
theorem cmd_len {s : Tx} (hs : s.length ≤ 800) {k : Cmd} {p c : Nat} (h : parseW s = .ok k p c) : (prC k.tag k.name k.args).length ≤ 3000 := by
  have hT := parse_told (by omega) h
  have hP := prL_len k.args false fun x hx => pr_len (hT.2.2.1 x hx).1
  have hC := hT.2.2.2.2
  rw [parseW] at h
  split at h
  · next hsf =>
    have hE := ends_of hsf
    rw [commandW] at h
    obtain ⟨t, p1, c1, h1, h⟩ := then_ok h
    obtain ⟨u, p2, c2, h2, h⟩ := then_ok h
    obtain ⟨n, p3, c3, h3, h⟩ := then_ok h
    obtain ⟨l, h4, rfl⟩ := map_ok h
    have e1 := word_tx h1
    have e2 := blank_wok hE h2
    have e3 := word_tx h3
    have e4 := (word_wok (by omega) h3).1
    have e5 := args_tx hE _ _ _ _ _ _ _ e4 h4
    rw [txL] at e5
    have hP : (prL false l).length ≤ 2 * txL l + 17 * cntL l := hP
    have hC : cntL l ≤ 60 := hC
    show (prC t (great n) l).length ≤ 3000
    rw [prC]
    have hn : (great n).length = n.length := great_length n
    simp only [List.length_append, List.length_cons, List.length_nil, hn]
    omega
  · cases h
theorem next_short {k : Cmd} (h : Told k) (hl : (prC k.tag k.name k.args).length ≤ 3000) {q : Nat} (hq : q < (prC k.tag k.name k.args).length) : ∃ w, nextW ((prC k.tag k.name k.args).take q) 0 0 = (0, w, false) := by
  obtain ⟨w, hw⟩ := next_back h [] hl
  rw [List.append_nil] at hw
  obtain ⟨s, hs⟩ : ∃ s, prC k.tag k.name k.args = s := ⟨_, rfl⟩
  rw [hs] at hw hl hq ⊢
  obtain ⟨i1, i2⟩ := next_pieces s q (by omega) hl s.length 0 0 (by omega) (Nat.zero_le _)
  rw [hw] at i1 i2
  obtain ⟨_, i3⟩ := next_ends (s.take q) (s.take q).length 0 0 (by omega)
  rw [List.length_take] at i3
  obtain ⟨⟨n, v, b⟩, hN⟩ : ∃ a, nextW (s.take q) 0 0 = a := ⟨_, rfl⟩
  rw [hN] at i1 i2 i3 ⊢
  simp only at i1 i2 i3
  have hb : b = false := by
    cases b with
    | false => rfl
    | true => exact absurd (i1 rfl) (by decide)
  subst hb
  obtain ⟨_, i4, _⟩ := i2 (by simp) (by simp)
  refine ⟨v, ?_⟩
  have : n = 0 := by omega
  rw [this]
end Go.Proofs.YtmcpohnilgbicaaGreatDoor
