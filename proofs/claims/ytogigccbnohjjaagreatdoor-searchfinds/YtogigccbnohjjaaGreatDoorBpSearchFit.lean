/-
  Every key that words tell fits: how deep it is, how many lie in it, ho, and more.
-/
import Derived.Test.YtogigccbnohjjaaGreatDoorBpHeadOnly
import Derived.Test.YtogigccbnohjjaaGreatDoorBpHeadTies
namespace Go.Proofs.YtogigccbnohjjaaGreatDoor
open Go.RowKit Go.Proofs.Aid Go.Proofs.Sq Go.Proofs.Sr
theorem fit_leaf {f : Nat} {code n : Int} {name text : Sr.Tx} {set : List (Nat × Nat)} (h : AllL code name text) (hs : set.length ≤ 1000) : Fit AllL (f + 1) (.mk code name text n set []) := ⟨hs, by simp, Or.inl h⟩
theorem fit_flag {f : Nat} (n : Sr.Tx) : Fit AllL (f + 1) (flagK n) := fit_leaf (Or.inr (Or.inl rfl)) (by simp)
theorem fit_not {f : Nat} {k : Ky} (h : Fit AllL f k) : Fit AllL (f + 1) (notK k) := ⟨by simp, by simp, Or.inr ⟨Or.inl ⟨rfl, by simp⟩, fun q hq => by obtain rfl := List.mem_singleton.1 hq; exact h⟩⟩
theorem fit_or {f : Nat} {a b : Ky} (ha : Fit AllL f a) (hb : Fit AllL f b) : Fit AllL (f + 1) (.mk 14 [] [] 0 [] [a, b]) := ⟨by simp, by simp, Or.inr ⟨Or.inr (Or.inl rfl), fun q hq => by
 rcases List.mem_cons.1 hq with rfl | hq
 ·exact ha
 ·obtain rfl := List.mem_singleton.1 hq; exact hb⟩⟩
theorem fit_join {f : Nat} {ks : List Ky} (h : ∀ k ∈ ks, Fit AllL f k) (hl : ks.length ≤ 1000) (hn : ks ≠ []) : Fit AllL (f + 1) (joinK ks) := by
 unfold joinK
 split
 ·exact (h _ (by simp)).step
 ·exact ⟨by simp, hl, Or.inr ⟨Or.inr (Or.inr rfl), h⟩⟩
def FitG (B D : Nat) (g : List Ar → Nat → Rs Ky) : Prop := ∀ l c k l' c', g l c = .ok k l' c' → Sz B l → Fit AllL D k ∧ Sz B l'
theorem more_fit {B D : Nat} {g : List Ar → Nat → Rs Ky} (hG : FitG B D g) : ∀ (n : Nat) (acc : List Ky) (l : List Ar) (c : Nat) (ks : List Ky) (l' : List Ar) (c' : Nat), (∀ k ∈ acc, Fit AllL D k) → acc ≠ [] → Sz B l → moreF g n acc l c = .ok ks l' c' → (∀ k ∈ ks, Fit AllL D k) ∧ ks ≠ [] ∧ ks.length ≤ acc.length + n ∧ Sz B l'
 | n, acc, [], c, ks, l', c', ha, hn, hl, h => by
  have h : Rs.ok acc [] c = .ok ks l' c' := by cases n <;> exact h
  cases h
  exact ⟨ha, hn, by omega, hl⟩
 | 0, acc, a :: r, c, ks, l', c', ha, hn, hl, h => by cases h
 | n + 1, acc, a :: r, c, ks, l', c', ha, hn, hl, h => by
  rw [moreF] at h
  obtain ⟨k, l1, c1, h1, h2⟩ := rs_then h
  obtain ⟨i1, i2⟩ := hG _ _ _ _ _ h1 hl
  obtain ⟨j1, j2, j3, j4⟩ := more_fit hG n _ _ _ _ _ _ (fun q hq => by
   rcases List.mem_append.1 hq with hq | hq
   ·exact ha q hq
   ·obtain rfl := List.mem_singleton.1 hq; exact i1) (by simp) i2 h2
  exact ⟨j1, j2, by simp at j3; omega, j4⟩
theorem keys_fit {B D : Nat} {g : List Ar → Nat → Rs Ky} (hG : FitG B D g) : FitG B (D + 1) (keysF g) := fun l c k l' c' h hl => by
 unfold keysF at h
 obtain ⟨ks, h0, rfl⟩ := rs_map h
 obtain ⟨k1, l1, c1, h1, h2⟩ := rs_then h0
 obtain ⟨i1, i2⟩ := hG _ _ _ _ _ h1 hl
 obtain ⟨j1, j2, j3, j4⟩ := more_fit hG _ _ _ _ _ _ _ (fun q hq => by obtain rfl := List.mem_singleton.1 hq; exact i1) (by simp) i2 h2
 exact ⟨fit_join j1 (by simp at j3; omega) j2, j4⟩
theorem wordK_fit {B D : Nat} (hB : B ≤ 2000000) {g : List Ar → Nat → Rs Ky} (hG : FitG B D g) {w : Sr.Tx} {l l' : List Ar} {c c' : Nat} {k : Ky} (hw : w.length ≤ B) (hl : Sz B l) (h : wordK g w l c = .ok k l' c') : Fit AllL (D + 2) k ∧ Sz B l' := by
 rw [wordK] at h
 by_cases p0 : Hd.great w = wAll
 ·rw [if_pos p0] at h; cases h; exact ⟨fit_leaf (Or.inr (Or.inr (Or.inl rfl))) (by simp), hl⟩
 rw [if_neg p0] at h
 by_cases p1 : wSys.contains (Hd.great w) = true
 ·rw [if_pos p1] at h; obtain ⟨⟨n, rfl⟩, rfl⟩ := flag_rest h; exact ⟨fit_flag n, hl⟩
 rw [if_neg p1] at h
 by_cases p2 : wUn.contains (Hd.great w) = true
 ·rw [if_pos p2] at h; obtain ⟨_, h0, rfl⟩ := rs_map h; obtain ⟨⟨n, rfl⟩, rfl⟩ := flag_rest h0; exact ⟨fit_not (fit_flag n), hl⟩
 rw [if_neg p2] at h
 by_cases p3 : Hd.great w = wKeyword
 ·rw [if_pos p3] at h; obtain ⟨_, _, _, h1, h2⟩ := rs_then h; obtain ⟨⟨n, rfl⟩, rfl⟩ := flag_rest h2; exact ⟨fit_flag n, (word_sz h1 hl).2⟩
 rw [if_neg p3] at h
 by_cases p4 : Hd.great w = 85 :: 78 :: wKeyword
 ·rw [if_pos p4] at h; obtain ⟨_, h0, rfl⟩ := rs_map h; obtain ⟨_, _, _, h1, h2⟩ := rs_then h0; obtain ⟨⟨n, rfl⟩, rfl⟩ := flag_rest h2; exact ⟨fit_not (fit_flag n), (word_sz h1 hl).2⟩
 rw [if_neg p4] at h
 by_cases p5 : wFields.contains (Hd.great w) = true
 ·rw [if_pos p5] at h; obtain ⟨t, h0, rfl⟩ := rs_map h
  have := word_sz h0 hl
  exact ⟨fit_leaf (Or.inl ⟨Or.inl rfl, by rw [Hd.small_length]; omega, by omega⟩) (by simp), this.2⟩
 rw [if_neg p5] at h
 by_cases p6 : Hd.great w = wHeader
 ·rw [if_pos p6] at h; obtain ⟨_, _, _, h1, h2⟩ := rs_then h; obtain ⟨_, h3, rfl⟩ := rs_map h2
  have i := word_sz h1 hl
  have j := word_sz h3 i.2
  exact ⟨fit_leaf (Or.inl ⟨Or.inl rfl, by rw [Hd.small_length]; omega, by omega⟩) (by simp), j.2⟩
 rw [if_neg p6] at h
 by_cases p7 : Hd.great w = wBody
 ·rw [if_pos p7] at h; obtain ⟨_, h0, rfl⟩ := rs_map h
  have := word_sz h0 hl
  exact ⟨fit_leaf (Or.inl ⟨Or.inr (Or.inl rfl), by simp, by omega⟩) (by simp), this.2⟩
 rw [if_neg p7] at h
 by_cases p8 : Hd.great w = wText
 ·rw [if_pos p8] at h; obtain ⟨_, h0, rfl⟩ := rs_map h
  have := word_sz h0 hl
  exact ⟨fit_leaf (Or.inl ⟨Or.inr (Or.inr rfl), by simp, by omega⟩) (by simp), this.2⟩
 rw [if_neg p8] at h
 by_cases p9 : wMeas.contains (Hd.great w) = true
 ·rw [if_pos p9] at h; obtain ⟨_, _, _, h1, h2⟩ := rs_then h; obtain ⟨_, h3, rfl⟩ := rs_map h2
  obtain rfl := num_rest h3
  have hi : wMeas.idxOf (Hd.great w) < 5 := List.idxOf_lt_length_of_mem (List.contains_iff_mem.1 p9)
  exact ⟨fit_leaf (Or.inr (Or.inr (by unfold NumL; omega))) (by simp), (word_sz h1 hl).2⟩
 rw [if_neg p9] at h
 by_cases p10 : Hd.great w = wUid
 ·rw [if_pos p10] at h; obtain ⟨_, _, _, h1, h2⟩ := rs_then h; obtain ⟨_, h3, rfl⟩ := rs_map h2
  obtain ⟨i, rfl⟩ := set_len h3
  exact ⟨fit_leaf (Or.inr (Or.inr (by unfold NumL; omega))) (by omega), (word_sz h1 hl).2⟩
 rw [if_neg p10] at h
 by_cases p11 : Hd.great w = wNot
 ·rw [if_pos p11] at h; obtain ⟨_, h0, rfl⟩ := rs_map h
  obtain ⟨i1, i2⟩ := hG _ _ _ _ _ h0 hl
  exact ⟨(fit_not i1).step, i2⟩
 rw [if_neg p11] at h
 by_cases p12 : Hd.great w = wOr
 ·rw [if_pos p12] at h; obtain ⟨_, _, _, h1, h2⟩ := rs_then h; obtain ⟨_, h3, rfl⟩ := rs_map h2
  obtain ⟨i1, i2⟩ := hG _ _ _ _ _ h1 hl
  obtain ⟨j1, j2⟩ := hG _ _ _ _ _ h3 i2
  exact ⟨(fit_or i1 j1).step, j2⟩
 rw [if_neg p12] at h
 obtain ⟨_, h0, rfl⟩ := rs_map h
 obtain ⟨i, rfl⟩ := set_len h0
 exact ⟨fit_leaf (Or.inr (Or.inr (by unfold NumL; omega))) (by omega), hl⟩
theorem key_fit {B : Nat} (hB : B ≤ 2000000) : ∀ (f : Nat), FitG B (2 * f) (keyF f)
 | 0, l, c, k, l', c', h, _ => by cases h
 | f + 1, l, c, k, l', c', h, hl => by
  by_cases hc : 60 < c + 1
  ·rw [keyF_lim hc] at h; cases h
  ·cases l with
   | nil => rw [keyF_nil hc] at h; cases h
   | cons a r =>
    obtain ⟨t1, t2, t3⟩ := hl.tail
    by_cases h3 : a.kind = 3
    ·rw [keyF_list hc h3] at h
     obtain ⟨k1, l1, c1, h1, h2⟩ := rs_then h
     cases h2
     exact ⟨(keys_fit (key_fit hB f) _ _ _ _ _ h1 t2).1.le (by omega), t3⟩
    ·rw [keyF_word hc h3] at h
     have := wordK_fit hB (key_fit hB f) t1 t3 h
     exact ⟨this.1.le (by omega), this.2⟩
theorem parse_fit {B : Nat} (hB : B ≤ 2000000) {l l' : List Ar} {c : Nat} {k : Ky} (hl : Sz B l) (h : parseK l = .ok k l' c) : Fit AllL 900 k := ((keys_fit (key_fit hB 7)) _ _ _ _ _ h hl).1.le (by omega)
theorem ags_sz {w : World} {Ok : Nat → Prop} {B : Nat} {l : List Ar} {v : Value} (h : Ags w Ok B l v) : Sz B l := by
 induction h with
 | mk l a c txt vs hc hc2 htx hk ha ih =>
  refine Sz.mk l (fun x hx => ?_) fun x hx => ?_
  ·obtain ⟨j, hj, rfl⟩ := List.getElem_of_mem hx
   have := htx j _ (List.getElem?_eq_getElem hj)
   rw [← this.1, list_size]
   exact this.2
  ·obtain ⟨j, hj, rfl⟩ := List.getElem_of_mem hx
   exact ih j _ (List.getElem?_eq_getElem hj)
end Go.Proofs.YtogigccbnohjjaaGreatDoor
namespace Go.Proofs.YtogigccbnohjjaaGreatDoor
open Go.RowKit Go.Proofs.Aid Go.Proofs.Sq Go.Proofs.Sr
inductive Sm : Ky → Prop
 | mk (code n : Int) (name text : Sr.Tx) (set : List (Nat × Nat)) (keys : List Ky) (hs : set.length ≤ 1000) (hk : keys.length ≤ 1000) (hn : code = 3 → Hd.small name = name) (h : ∀ q ∈ keys, Sm q) : Sm (.mk code name text n set keys)
theorem sm_leaf {code n : Int} {name text : Sr.Tx} {set : List (Nat × Nat)} (hs : set.length ≤ 1000) (hn : code = 3 → Hd.small name = name) : Sm (.mk code name text n set []) := Sm.mk _ _ _ _ _ _ hs (by simp) hn (fun q hq => by simp at hq)
theorem sm_flag (n : Sr.Tx) : Sm (flagK n) := sm_leaf (by simp) (by omega)
theorem sm_not {k : Ky} (h : Sm k) : Sm (notK k) := Sm.mk _ _ _ _ _ _ (by simp) (by simp) (by omega) (fun q hq => by obtain rfl := List.mem_singleton.1 hq; exact h)
theorem sm_or {a b : Ky} (ha : Sm a) (hb : Sm b) : Sm (.mk 14 [] [] 0 [] [a, b]) := Sm.mk _ _ _ _ _ _ (by simp) (by simp) (by omega) (fun q hq => by
 rcases List.mem_cons.1 hq with rfl | hq
 ·exact ha
 ·obtain rfl := List.mem_singleton.1 hq; exact hb)
theorem sm_join {ks : List Ky} (h : ∀ k ∈ ks, Sm k) (hl : ks.length ≤ 1000) : Sm (joinK ks) := by
 unfold joinK
 split
 ·exact h _ (by simp)
 ·exact Sm.mk _ _ _ _ _ _ (by simp) hl (by omega) h
def SmG (g : List Ar → Nat → Rs Ky) : Prop := ∀ l c k l' c', g l c = .ok k l' c' → Sm k
theorem more_sm {g : List Ar → Nat → Rs Ky} (hG : SmG g) : ∀ (n : Nat) (acc : List Ky) (l : List Ar) (c : Nat) (ks : List Ky) (l' : List Ar) (c' : Nat), (∀ k ∈ acc, Sm k) → moreF g n acc l c = .ok ks l' c' → (∀ k ∈ ks, Sm k) ∧ ks.length ≤ acc.length + n
 | n, acc, [], c, ks, l', c', ha, h => by
  have h : Rs.ok acc [] c = .ok ks l' c' := by cases n <;> exact h
  cases h
  exact ⟨ha, by omega⟩
 | 0, acc, a :: r, c, ks, l', c', ha, h => by cases h
 | n + 1, acc, a :: r, c, ks, l', c', ha, h => by
  rw [moreF] at h
  obtain ⟨k, l1, c1, h1, h2⟩ := rs_then h
  have i1 := hG _ _ _ _ _ h1
  obtain ⟨j1, j3⟩ := more_sm hG n _ _ _ _ _ _ (fun q hq => by
   rcases List.mem_append.1 hq with hq | hq
   ·exact ha q hq
   ·obtain rfl := List.mem_singleton.1 hq; exact i1) h2
  exact ⟨j1, by simp at j3; omega⟩
theorem keys_sm {g : List Ar → Nat → Rs Ky} (hG : SmG g) : SmG (keysF g) := fun l c k l' c' h => by
 unfold keysF at h
 obtain ⟨ks, h0, rfl⟩ := rs_map h
 obtain ⟨k1, l1, c1, h1, h2⟩ := rs_then h0
 obtain ⟨j1, j3⟩ := more_sm hG _ _ _ _ _ _ _ (fun q hq => by obtain rfl := List.mem_singleton.1 hq; exact hG _ _ _ _ _ h1) h2
 exact sm_join j1 (by simp at j3; omega)
theorem wordK_sm {g : List Ar → Nat → Rs Ky} (hG : SmG g) {w : Sr.Tx} {l l' : List Ar} {c c' : Nat} {k : Ky} (h : wordK g w l c = .ok k l' c') : Sm k := by
 rw [wordK] at h
 by_cases p0 : Hd.great w = wAll
 ·rw [if_pos p0] at h; cases h; exact sm_leaf (by simp) (by omega)
 rw [if_neg p0] at h
 by_cases p1 : wSys.contains (Hd.great w) = true
 ·rw [if_pos p1] at h; obtain ⟨⟨n, rfl⟩, rfl⟩ := flag_rest h; exact sm_flag n
 rw [if_neg p1] at h
 by_cases p2 : wUn.contains (Hd.great w) = true
 ·rw [if_pos p2] at h; obtain ⟨_, h0, rfl⟩ := rs_map h; obtain ⟨⟨n, rfl⟩, rfl⟩ := flag_rest h0; exact sm_not (sm_flag n)
 rw [if_neg p2] at h
 by_cases p3 : Hd.great w = wKeyword
 ·rw [if_pos p3] at h; obtain ⟨_, _, _, h1, h2⟩ := rs_then h; obtain ⟨⟨n, rfl⟩, rfl⟩ := flag_rest h2; exact sm_flag n
 rw [if_neg p3] at h
 by_cases p4 : Hd.great w = 85 :: 78 :: wKeyword
 ·rw [if_pos p4] at h; obtain ⟨_, h0, rfl⟩ := rs_map h; obtain ⟨_, _, _, h1, h2⟩ := rs_then h0; obtain ⟨⟨n, rfl⟩, rfl⟩ := flag_rest h2; exact sm_not (sm_flag n)
 rw [if_neg p4] at h
 by_cases p5 : wFields.contains (Hd.great w) = true
 ·rw [if_pos p5] at h; obtain ⟨t, h0, rfl⟩ := rs_map h
  exact sm_leaf (by simp) (fun _ => Hd.small_small _)
 rw [if_neg p5] at h
 by_cases p6 : Hd.great w = wHeader
 ·rw [if_pos p6] at h; obtain ⟨_, _, _, h1, h2⟩ := rs_then h; obtain ⟨_, h3, rfl⟩ := rs_map h2
  exact sm_leaf (by simp) (fun _ => Hd.small_small _)
 rw [if_neg p6] at h
 by_cases p7 : Hd.great w = wBody
 ·rw [if_pos p7] at h; obtain ⟨_, h0, rfl⟩ := rs_map h
  exact sm_leaf (by simp) (by omega)
 rw [if_neg p7] at h
 by_cases p8 : Hd.great w = wText
 ·rw [if_pos p8] at h; obtain ⟨_, h0, rfl⟩ := rs_map h
  exact sm_leaf (by simp) (by omega)
 rw [if_neg p8] at h
 by_cases p9 : wMeas.contains (Hd.great w) = true
 ·rw [if_pos p9] at h; obtain ⟨_, _, _, h1, h2⟩ := rs_then h; obtain ⟨_, h3, rfl⟩ := rs_map h2
  obtain rfl := num_rest h3
  exact sm_leaf (by simp) (by omega)
 rw [if_neg p9] at h
 by_cases p10 : Hd.great w = wUid
 ·rw [if_pos p10] at h; obtain ⟨_, _, _, h1, h2⟩ := rs_then h; obtain ⟨_, h3, rfl⟩ := rs_map h2
  obtain ⟨i, rfl⟩ := set_len h3
  exact sm_leaf (by omega) (by omega)
 rw [if_neg p10] at h
 by_cases p11 : Hd.great w = wNot
 ·rw [if_pos p11] at h; obtain ⟨_, h0, rfl⟩ := rs_map h
  exact sm_not (hG _ _ _ _ _ h0)
 rw [if_neg p11] at h
 by_cases p12 : Hd.great w = wOr
 ·rw [if_pos p12] at h; obtain ⟨_, _, _, h1, h2⟩ := rs_then h; obtain ⟨_, h3, rfl⟩ := rs_map h2
  exact sm_or (hG _ _ _ _ _ h1) (hG _ _ _ _ _ h3)
 rw [if_neg p12] at h
 obtain ⟨_, h0, rfl⟩ := rs_map h
 obtain ⟨i, rfl⟩ := set_len h0
 exact sm_leaf (by omega) (by omega)
theorem key_sm : ∀ (f : Nat), SmG (keyF f)
 | 0, l, c, k, l', c', h => by cases h
 | f + 1, l, c, k, l', c', h => by
  by_cases hc : 60 < c + 1
  ·rw [keyF_lim hc] at h; cases h
  ·cases l with
   | nil => rw [keyF_nil hc] at h; cases h
   | cons a r =>
    by_cases h3 : a.kind = 3
    ·rw [keyF_list hc h3] at h
     obtain ⟨k1, l1, c1, h1, h2⟩ := rs_then h
     cases h2
     exact keys_sm (key_sm f) _ _ _ _ _ h1
    ·rw [keyF_word hc h3] at h
     exact wordK_sm (key_sm f) h
theorem parse_sm {l l' : List Ar} {c : Nat} {k : Ky} (h : parseK l = .ok k l' c) : Sm k := keys_sm (key_sm 7) _ _ _ _ _ h
end Go.Proofs.YtogigccbnohjjaaGreatDoor
namespace Go.Proofs.YtogigccbnohjjaaGreatDoor
open Go.RowKit Go.Proofs.Aid Go.Proofs.Sq Go.Proofs.Hd
set_option maxHeartbeats 4000000
set_option maxRecDepth 100000
theorem rfhas (kb : Nat) (s p : ByteArray) (m : Int) (w : World) (hs : s.size ≤ 900000) (hp : p.size ≤ 900000) (hc : w.cell? ⟨kb, 2, none⟩ = some (.string p)) (hm : w.cell? ⟨1, 0, none⟩ = some (.int .i64 m)) :
  Calls Tryz.prog 23 #[.string s, .pointer (some ⟨kb, 0, none⟩)] w fun e w' => e = .returned (.bool (Sr.hasT s.data.toList p.data.toList)) ∧ Below w.heap.size w w' := by
 have K0 : Hid (∀ W, Below w.heap.size w W → W.cell? ⟨1, 0, none⟩ = some (.int .i64 m) ∧ W.cell? ⟨kb, 2, none⟩ = some (.string p)) := fun W h => ⟨(h.cell (World.block_lt_of_cell? _ _ hm)).trans hm, (h.cell (World.block_lt_of_cell? _ _ hc)).trans hc⟩
 have c1 := fun W => rsmall_is s W (by omega)
 obtain ⟨st, hst⟩ : ∃ x : ByteArray, ⟨(small s.data.toList).toArray⟩ = x := ⟨_, rfl⟩
 obtain ⟨sp, hsp⟩ : ∃ x : ByteArray, ⟨(small p.data.toList).toArray⟩ = x := ⟨_, rfl⟩
 have hsz : st.size = s.size := by rw [← list_size, ← hst]; show (small s.data.toList).length = _; rw [small_length, list_size]
 have c2 := fun W => rsmall_is p W (by omega)
 rw [hst] at c1
 rw [hsp] at c2
 obtain ⟨R, hR⟩ : ∃ b, Sr.hasT s.data.toList p.data.toList = b := ⟨_, rfl⟩
 have HR : Hid (Lib.contains st.data.toList sp.data.toList = R) := by show _ = _; rw [← hR, Sr.hasT, ← hst, ← hsp]
 rw [hR]
 have hz2 : st.size < 4294967281 := by omega
 have hbw0 : Below w.heap.size w w.drew := (Below.refl _ _).drew
 clear hst hsp hR hm hsz hc
 go_enter Tryz.func23, Tryz.ntmps23
 go_wp2_with fail
 refine wp_region_held_drew (S := fun W => W.cell? ⟨kb, 2, none⟩ = some (.string p)) (by kernel_rfl) ?_ (fun hHeld => ?_)
 ·exact (K0.out _ hbw0).2
 refine wpAnyH_take (i := 0) (v := ?_) rfl (by kernel_rfl) (by kernel_rfl) (by kernel_rfl) (fun _ _ _ h => h) (Or.inl ⟨by rfl, ?_⟩) (by assumption) ?_
 rotate_left
 ·intro w hSw; go_simp; (try with_reducible rfl)
 change wpAnyH _ _ _ _ _ _ _ (Act.put _ (some 4) _) _; simp only [Act.put, List.setIfInBounds_toArray, List.set_cons_zero, List.set_cons_succ]
 refine wpAnyH_take (i := 2) (v := ?_) rfl (by kernel_rfl) (by kernel_rfl) (by kernel_rfl) (fun _ _ _ h => h) (Or.inl ⟨by rfl, ?_⟩) (by assumption) ?_
 rotate_left
 ·intro w hSw; go_simp; (try with_reducible rfl)
 change wpAnyH _ _ _ _ _ _ _ (Act.put _ (some 6) _) _; simp only [Act.put, List.setIfInBounds_toArray, List.set_cons_zero, List.set_cons_succ]
 refine wpAnyH_take (i := 3) (v := ?_) rfl (by kernel_rfl) (by kernel_rfl) (by kernel_rfl) (fun _ _ _ h => h) (Or.inl ⟨by rfl, ?_⟩) (by assumption) ?_
 rotate_left
 ·intro w hSw; go_simp; (try with_reducible rfl)
 change wpAnyH _ _ _ _ _ _ _ (Act.put _ (some 7) _) _; simp only [Act.put, List.setIfInBounds_toArray, List.set_cons_zero, List.set_cons_succ]
 refine wpAnyH_ready (rs := [1]) (by kernel_rfl) (by simp) ?_
 refine AllReadyH.cons rfl (fun K hK => ?_) AllReadyH.nil
 go_simp
 refine (c1 _).mono ?_
 rintro e wa ⟨rfl, hqwa⟩
 have hbwa : Below w.heap.size w wa := hbw0.trans (hqwa.mono hbw0.size)
 refine hK.out _ _ ?_ (fun hHeld => ?_)
 ·exact (K0.out _ hbwa).2
 clear hK K
 refine wpAnyH_ready (rs := [4]) (by kernel_rfl) (by simp) ?_
 refine AllReadyH.cons rfl (fun K hK => ?_) AllReadyH.nil
 go_simp
 refine (c2 _).mono ?_
 rintro e wb ⟨rfl, hqwb⟩
 have hbwb : Below w.heap.size w wb := hbwa.trans (hqwb.mono hbwa.size)
 refine hK.out _ _ ?_ (fun hHeld => ?_)
 ·exact (K0.out _ hbwb).2
 clear hK K
 refine wpAnyH_ready (rs := [5]) (by kernel_rfl) (by simp) ?_
 refine AllReadyH.cons rfl (fun K hK => ?_) AllReadyH.nil
 go_simp
 have c3 := Tryz.strings_Contains st sp m wb hz2 (K0.out wb hbwb).1
 rw [HR.out] at c3
 refine c3.mono ?_
 rintro e wc ⟨rfl, hwc⟩
 obtain rfl : wb = wc := hwc.symm
 refine hK.out _ _ ?_ (fun hHeld => ?_)
 ·exact (K0.out _ hbwb).2
 clear hK K
 refine wpAnyH_take (i := 6) (v := ?_) rfl (by kernel_rfl) (by kernel_rfl) (by kernel_rfl) (fun _ _ _ h => h) (Or.inl ⟨by rfl, ?_⟩) (by assumption) ?_
 rotate_left
 ·intro w hSw; go_simp; (try with_reducible rfl)
 change wpAnyH _ _ _ _ _ _ _ (Act.put _ (some 3) _) _; simp only [Act.put, List.setIfInBounds_toArray, List.set_cons_zero, List.set_cons_succ]
 refine wpAnyH_done (by kernel_rfl) ?_ _
 go_wp2_with fail
 go_ret
 exact ⟨rfl, hbwb⟩
end Go.Proofs.YtogigccbnohjjaaGreatDoor
namespace Go.Proofs.YtogigccbnohjjaaGreatDoor
open Go.RowKit Go.Proofs.Aid Go.Proofs.Fl Go.Sort Go.Lib
set_option maxHeartbeats 2000000
set_option maxRecDepth 100000
theorem ba_eq {a b : ByteArray} (h : a.data.toList = b.data.toList) : a = b := by
 obtain ⟨⟨x⟩⟩ := a
 obtain ⟨⟨y⟩⟩ := b
 have : x = y := h
 rw [this]
theorem ref_holds (v : Value) (l : List Tx) (s : ByteArray) (w : World) (h : Sl w v l) (hl : l.length ≤ 1000) :
  Calls Tryz.prog 27 #[v, .string s] w fun e w' => e = .returned (.bool (l.contains s.data.toList)) ∧ w' = w := by
 obtain ⟨a, c, rfl, _, ha⟩ := h
 obtain ⟨n, hn⟩ : ∃ n, l.length = n := ⟨_, rfl⟩
 rw [hn] at hl ⊢
 have HN : Hid (l.length = n) := hn
 obtain ⟨R, hR⟩ : ∃ R, l.contains s.data.toList = R := ⟨_, rfl⟩
 rw [hR]
 have HR : Hid (l.contains s.data.toList = R) := hR
 clear hn hR
 go_enter Tryz.func27, Tryz.ntmps27
 go_wp2
 go_loop [9] (fun i => ∃ k : Nat, i = .int .i64 (k : Int) ∧ k ≤ n ∧ Hid (s.data.toList ∉ l.take k)) (fun i => n - (Go.RowKit.intOf i).toNat)
 case atStart => exact ⟨0, rfl, Nat.zero_le _, by show _ ∉ _; simp⟩
 case round =>
  obtain ⟨k, rfl, hk, HK⟩ := hrel
  have hnn := HN.out
  by_cases hlt : k < n
  ·rcases ha with rfl | ⟨b, o, rfl, hat⟩
   ·simp at hnn; omega
   have hkl : k < l.length := by omega
   have c1 := hat k _ (List.getElem?_eq_getElem hkl)
   obtain ⟨u, hu⟩ : ∃ u : ByteArray, ⟨l[k].toArray⟩ = u := ⟨_, rfl⟩
   have c2 : w.cell? ⟨b, o + k, none⟩ = some (.string u) := by rw [← hu]; exact c1
   have HU : Hid (u.data.toList = l[k]) := by show u.data.toList = _; rw [← hu]
   clear hat c1 hu hnn
   by_cases hq : u = s
   ·subst hq
    have HC : Hid (R = true) := by
     show R = true
     rw [← HR.out, HU.out]; simp
    go_wp2
    go_ret
    exact ⟨by rw [HC.out]; rfl, rfl⟩
   ·have hne : (u.toList == s.toList) = false := by
     rw [Lib.toList_data, Lib.toList_data, beq_eq_false_iff_ne]
     exact fun h => hq (ba_eq h)
    have HNE : Hid (s.data.toList ≠ u.data.toList) := fun h => hq (ba_eq h.symm)
    clear hq
    go_wp2
    go_round
    case rel => exact ⟨k + 1, by go_num, by omega, by
     show _ ∉ _
     rw [List.take_succ_eq_append_getElem hkl, List.mem_append, List.mem_singleton]
     rintro (h | h)
     ·exact HK.out h
     ·exact HNE.out (h.trans HU.out.symm)⟩
    case measure => simp [Go.RowKit.intOf]; omega
  ·have HC : Hid (R = false) := by
    show R = false
    rw [← HR.out, Bool.eq_false_iff]
    intro h
    have := HK.out
    rw [List.take_of_length_le (by omega)] at this
    exact this (List.contains_iff_mem.1 h)
   clear ha hnn
   go_wp2
   go_ret
   exact ⟨by rw [HC.out]; rfl, rfl⟩
end Go.Proofs.YtogigccbnohjjaaGreatDoor
namespace Go.Proofs.YtogigccbnohjjaaGreatDoor
open Go.RowKit Go.Proofs.Aid Go.Proofs.Sq
set_option maxHeartbeats 2000000
set_option maxRecDepth 100000
theorem in_either {p q n : Int} : decide (min p q ≤ n ∧ n ≤ max p q) = (decide (p ≤ n ∧ n ≤ q) || decide (q ≤ n ∧ n ≤ p)) := by
 rw [Bool.eq_iff_iff, Bool.or_eq_true, decide_eq_true_eq, decide_eq_true_eq, decide_eq_true_eq]; omega
theorem ref_inset (v : Value) (l : List (Int × Int)) (n g : Int) (w : World) (h : Rg w v l) (hl : l.length ≤ 1000) :
  Calls Tryz.prog 29 #[v, .int .i64 n, .int .i64 g] w fun e w' => e = .returned (.bool (hasSet n g l)) ∧ Below w.heap.size w w' := by
 obtain ⟨a, c, rfl, ha⟩ := h
 obtain ⟨ANS, hANS⟩ : ∃ ANS, hasSet n g l = ANS := ⟨_, rfl⟩
 rw [hANS]
 obtain ⟨len, hn⟩ : ∃ n, l.length = n := ⟨_, rfl⟩
 rw [hn] at hl ⊢
 go_enter Tryz.func29, Tryz.ntmps29
 go_wp2
 go_loopw [11] (fun i wr => ∃ k : Nat, i = .int .i64 (k : Int) ∧ k ≤ len ∧ hasSet n g (l.drop k) = ANS ∧ Below w.heap.size w wr) (fun i _ => len - (intOf i).toNat)
 case atStart => exact ⟨0, rfl, by omega, by simpa using hANS, Below.refl _ _⟩
 case round =>
  obtain ⟨k, rfl, hk, hd, hb⟩ := hrel
  by_cases hlt : k < len
  ·rcases ha with rfl | ⟨b, o, rfl, hat⟩
   ·simp at hn; omega
   have hlk : l[k]? = some l[k] := List.getElem?_eq_getElem _
   obtain ⟨c1, c2⟩ := (hat.below hb (Nat.le_refl _)) k _ hlk
   rw [List.drop_eq_getElem_cons (by omega), hasSet, List.any_cons] at hd
   obtain ⟨⟨x, y⟩, hxy⟩ : ∃ p, l[k]'(by omega) = p := ⟨_, rfl⟩
   rw [hxy] at c1 c2 hd
   simp only at c1 c2
   rw [show hasR n g (x, y) = decide (min (meant g x) (meant g y) ≤ n ∧ n ≤ max (meant g x) (meant g y)) from rfl, in_either] at hd
   have m1 := ref_in n (meant g x) (meant g y)
   have m2 := ref_in n (meant g y) (meant g x)
   generalize decide (meant g x ≤ n ∧ n ≤ meant g y) = b1 at m1 hd
   generalize decide (meant g y ≤ n ∧ n ≤ meant g x) = b2 at m2 hd
   have HD : Hid ((b1 || b2 || (l.drop (k + 1)).any (hasR n g)) = ANS) := hd
   have hbs := hb.size
   clear hANS hlk hxy hat hd
   have hx : meant g x = if x = 0 then g else x := rfl
   have hy : meant g y = if y = 0 then g else y := rfl
   rw [hx, hy] at m1 m2
   clear hx hy
   by_cases hx0 : x = 0 <;> by_cases hy0 : y = 0
   all_goals
    simp only [hx0, hy0, if_true, if_false] at m1 m2 c1 c2
    go_wp2_with fail
    refine (m1 _).mono ?_
    rintro e w1 ⟨rfl, rfl⟩
    cases b1
    ·go_wp2_with fail
     refine (m2 _).mono ?_
     rintro e w1 ⟨rfl, rfl⟩
     cases b2
     ·go_wp2_with fail
      go_roundw
      case rel => exact ⟨k + 1, by go_num, by omega, by simpa [hasSet] using HD.out, by first | exact hb.alloc hbs _ | exact (hb.alloc hbs _).setCell hbs _ | exact ((hb.alloc hbs _).setCell hbs _).setCell hbs _⟩
      case measure => simp [intOf]; omega
     ·go_wp2_with fail
      go_ret
      exact ⟨by rw [← HD.out]; simp, by first | exact hb.alloc hbs _ | exact (hb.alloc hbs _).setCell hbs _ | exact ((hb.alloc hbs _).setCell hbs _).setCell hbs _⟩
    ·go_wp2_with fail
     go_ret
     exact ⟨by rw [← HD.out]; simp, by first | exact hb.alloc hbs _ | exact (hb.alloc hbs _).setCell hbs _ | exact ((hb.alloc hbs _).setCell hbs _).setCell hbs _⟩
  ·have HD : Hid (false = ANS) := by
    show false = ANS
    rw [List.drop_eq_nil_of_le (by omega)] at hd
    simpa [hasSet] using hd
   clear hd hANS ha
   go_wp2
   go_ret
   exact ⟨congrArg (fun b => Ending.returned (Value.bool b)) HD, hb⟩
end Go.Proofs.YtogigccbnohjjaaGreatDoor
