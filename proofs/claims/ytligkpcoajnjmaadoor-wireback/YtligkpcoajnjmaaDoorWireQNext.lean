/-
  Where a command of plain bytes and of counted ones ends. Plain mathematics.
-/
import Derived.Test.YtligkpcoajnjmaaDoorWireQArg
import Derived.Test.YtligkpcoajnjmaaDoorWireTail
namespace Go.Proofs.YtligkpcoajnjmaaDoor
open Go.Proofs.Hd

theorem last_at {a b : Tx} (hb : ∀ c ∈ b, c ≠ 123) : Lib.lastIndexByte ⟨(a ++ 123 :: b).toArray⟩ 123 = (a.length : Int) := by
  have hsz : (⟨(a ++ 123 :: b).toArray⟩ : ByteArray).size = a.length + 1 + b.length := by
    show (a ++ 123 :: b).toArray.size = _
    simp; omega
  have hget : ∀ j : Nat, (⟨(a ++ 123 :: b).toArray⟩ : ByteArray).data[j]! = (a ++ 123 :: b).getD j 0 := fun j => by
    show (a ++ 123 :: b).toArray[j]! = _
    rw [getElem!_def, List.getD_eq_getElem?_getD]
    simp
    cases (a ++ 123 :: b)[j]? <;> rfl
  have hat : (a ++ 123 :: b).getD a.length 0 = 123 := by
    rw [List.getD_eq_getElem?_getD, List.getElem?_append_right (Nat.le_refl _), Nat.sub_self]; rfl
  rcases Lib.lastIdx_spec ⟨(a ++ 123 :: b).toArray⟩ 123 (⟨(a ++ 123 :: b).toArray⟩ : ByteArray).size with ⟨_, h⟩ | ⟨i, h1, h2, h3, h4⟩
  · exfalso
    have := h a.length (by rw [hsz]; omega)
    rw [hget, hat] at this
    exact this rfl
  · show Lib.lastIdx _ _ _ = _
    rw [h2]
    rw [hsz] at h1 h4
    rcases Nat.lt_trichotomy i a.length with h5 | h5 | h5
    · exfalso
      have := h4 a.length h5 (by omega)
      rw [hget, hat] at this
      exact this rfl
    · rw [h5]
    · exfalso
      rw [hget, List.getD_eq_getElem?_getD, List.getElem?_append_right (by omega)] at h3
      obtain ⟨j, hj⟩ : ∃ j, i - a.length = j + 1 := ⟨i - a.length - 1, by omega⟩
      rw [hj, List.getElem?_cons_succ] at h3
      have hjl : j < b.length := by omega
      rw [List.getElem?_eq_getElem hjl] at h3
      have h6 := hb _ (List.getElem_mem hjl)
      apply h6
      apply UInt8.toNat_inj.1
      have h7 : ((b[j]).toNat : Int) = 123 := h3
      show (b[j]).toNat = 123
      omega
theorem tail_counted {pre : Tx} {n : Nat} (hn : n ≤ 2147483647) : tailF (pre ++ 123 :: (Lib.itoa (n : Int) ++ [125])) = some n := by
  have hb : ∀ c ∈ Lib.itoa (n : Int) ++ [125], c ≠ 123 := fun c hc => by
    rcases List.mem_append.1 hc with h | h
    · have := itoa_digits n c h
      rintro rfl
      revert this
      decide
    · rw [List.mem_singleton.1 h]; decide
  unfold tailF
  rw [last_at hb]
  have hsf : Lib.hasSuffix (pre ++ 123 :: (Lib.itoa (n : Int) ++ [125])) [125] = true := by
    unfold Lib.hasSuffix
    rw [List.isSuffixOf_iff_suffix]
    exact ⟨pre ++ 123 :: Lib.itoa (n : Int), by simp⟩
  rw [hsf, if_neg (by simp), Int.toNat_natCast]
  have h1 : (pre ++ 123 :: (Lib.itoa (n : Int) ++ [125])).drop (pre.length + 1) = Lib.itoa (n : Int) ++ [125] := by
    rw [show pre ++ 123 :: (Lib.itoa (n : Int) ++ [125]) = (pre ++ [123]) ++ (Lib.itoa (n : Int) ++ [125]) by simp, show pre.length + 1 = (pre ++ [123]).length by simp, List.drop_left]
  rw [h1]
  have h2 : (pre ++ 123 :: (Lib.itoa (n : Int) ++ [125])).length - 1 - (pre.length + 1) = (Lib.itoa (n : Int)).length := by
    simp only [List.length_append, List.length_cons, List.length_nil]; omega
  rw [h2, List.take_left, numW_itoa n hn]
theorem tail_other {l : Tx} {d : UInt8} (hd : d ≠ 125) : tailF (l ++ [d]) = none := by
  unfold tailF
  rw [if_pos]
  right
  unfold Lib.hasSuffix
  rw [← Bool.not_eq_true, List.isSuffixOf_iff_suffix]
  rintro ⟨t, ht⟩
  have := List.append_inj_right' ht rfl
  simp at this
  exact hd this.symm
/-- A piece of a command: bytes as they stand, or bytes that are counted ahead. -/
inductive Sg where
  | plain (t : Tx) : Sg
  | lit (t : Tx) : Sg
def Sg.text : Sg → Tx
  | .plain t => t
  | .lit t => 123 :: (Lib.itoa (t.length : Int) ++ [125, 13, 10] ++ t)
def Sg.good : Sg → Prop
  | .plain t => ∀ c ∈ t, c ≠ 13
  | .lit t => t.length ≤ 2147483647
def segs (l : List Sg) : Tx := l.flatMap Sg.text
theorem next_segs {s : Tx} {d : UInt8} {rest : Tx} (hd : d ≠ 125) (hd13 : d ≠ 13) : ∀ (l : List Sg) (pre : Tx) (a k : Nat), (∀ c ∈ pre, c ≠ 13) → (∀ g ∈ l, g.good) → a ≤ s.length → s.drop a = pre ++ segs l ++ d :: 13 :: 10 :: rest → a + (pre ++ segs l).length + 3 ≤ 3000 →
    ∃ k', nextW s a k = (a + (pre ++ segs l).length + 3, k', false)
  | [], pre, a, k, hp, _, ha, h, hm => by
    have h1 : s.drop a = (pre ++ [d]) ++ (13 :: [10]) ++ rest := by rw [h]; simp [segs]
    have hi : Lib.index (s.drop a) [13, 10] = (((pre ++ [d]).length : Nat) : Int) := by
      rw [h1]
      exact index_behind _ fun c hc => by
        rcases List.mem_append.1 hc with h2 | h2
        · exact hp c h2
        · rw [List.mem_singleton.1 h2]; exact hd13
    have ht : tailF ((s.drop a).take (pre ++ [d]).length) = none := by
      rw [h1, List.append_assoc, List.take_left]
      exact tail_other hd
    rw [nextW_last hi ht]
    simp only [segs, List.flatMap_nil, List.append_nil, List.length_append, List.length_cons, List.length_nil] at hm ⊢
    rw [if_neg (by omega)]
    exact ⟨k, by rw [show a + (pre.length + (0 + 1)) + 2 = a + pre.length + 3 by omega]⟩
  | .plain t :: l, pre, a, k, hp, hg, ha, h, hm => by
    have e : pre ++ segs (.plain t :: l) = (pre ++ t) ++ segs l := by simp [segs, Sg.text]
    rw [e] at h hm ⊢
    exact next_segs hd hd13 l (pre ++ t) a k (fun c hc => (List.mem_append.1 hc).elim (hp c) (hg _ List.mem_cons_self c)) (fun g hgm => hg g (List.mem_cons_of_mem _ hgm)) ha h hm
  | .lit t :: l, pre, a, k, hp, hg, ha, h, hm => by
    have htl : t.length ≤ 2147483647 := hg _ List.mem_cons_self
    have e : pre ++ segs (.lit t :: l) = pre ++ 123 :: (Lib.itoa (t.length : Int) ++ [125]) ++ (13 :: [10]) ++ (t ++ segs l) := by simp [segs, Sg.text]
    have hlen := drop_len h ha
    have h1 : s.drop a = (pre ++ 123 :: (Lib.itoa (t.length : Int) ++ [125])) ++ (13 :: [10]) ++ (t ++ segs l ++ d :: 13 :: 10 :: rest) := by rw [h, e]; simp
    have hi : Lib.index (s.drop a) [13, 10] = (((pre ++ 123 :: (Lib.itoa (t.length : Int) ++ [125])).length : Nat) : Int) := by
      rw [h1]
      exact index_behind _ fun c hc => by
        rcases List.mem_append.1 hc with h2 | h2
        · exact hp c h2
        · rcases List.mem_cons.1 h2 with h2 | h2
          · rw [h2]; decide
          · rcases List.mem_append.1 h2 with h2 | h2
            · have := itoa_digits t.length c h2
              rintro rfl
              revert this
              decide
            · rw [List.mem_singleton.1 h2]; decide
    have ht : tailF ((s.drop a).take (pre ++ 123 :: (Lib.itoa (t.length : Int) ++ [125])).length) = some t.length := by
      rw [h1, List.append_assoc, List.take_left]
      exact tail_counted htl
    have eL : (pre ++ segs (.lit t :: l)).length = (pre ++ 123 :: (Lib.itoa (t.length : Int) ++ [125])).length + 2 + t.length + (segs l).length := by
      rw [e]; simp only [List.length_append, List.length_cons, List.length_nil]; omega
    have hsl : s.length = a + (pre ++ segs (.lit t :: l)).length + 3 + rest.length := by
      rw [hlen]; simp only [List.length_append, List.length_cons]; omega
    have h2 : s.drop (a + (pre ++ 123 :: (Lib.itoa (t.length : Int) ++ [125])).length + 2 + t.length) = [] ++ segs l ++ d :: 13 :: 10 :: rest := by
      have h3 := drop_more (a := (pre ++ 123 :: (Lib.itoa (t.length : Int) ++ [125])) ++ (13 :: [10]) ++ t) (r := segs l ++ d :: 13 :: 10 :: rest) (by rw [h1]; simp)
      rw [List.nil_append, ← h3]
      congr 1
      simp only [List.length_append, List.length_cons, List.length_nil]
      omega
    rw [nextW_more hi ht]
    rw [eL] at hm hsl ⊢
    generalize (pre ++ 123 :: (Lib.itoa (t.length : Int) ++ [125])).length = LL at hm hsl h2 ⊢
    rw [if_neg (by omega), if_neg (by omega)]
    obtain ⟨k', ih⟩ := next_segs hd hd13 l [] (a + LL + 2 + t.length) (k + 1) (fun c hc => by cases hc) (fun g hgm => hg g (List.mem_cons_of_mem _ hgm)) (by omega) h2 (by simp only [List.nil_append]; omega)
    refine ⟨k', ih.trans ?_⟩
    simp only [List.nil_append]
    congr 1
    omega
end Go.Proofs.YtligkpcoajnjmaaDoor
