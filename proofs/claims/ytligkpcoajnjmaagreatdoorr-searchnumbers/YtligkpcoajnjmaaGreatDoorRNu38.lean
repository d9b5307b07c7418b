/-
  What SearchNumbers asks, word for word.
  What SearchNumbers asks, wherever the words lie.
-/
import Derived.Test.YtligkpcoajnjmaaGreatDoorRNu37
namespace Go.Proofs.YtligkpcoajnjmaaGreatDoorR
open Go.RowKit Go.Proofs.Aid Go.Proofs.Sq Go.Proofs.Hd

/-- What the function holds finds where it was made. -/
structure NumE (m : Sr.Lt) (tb : ByteArray) (fa : Option Addr) (fn fc lb p1 p2 p3 : Nat) (w : World) : Prop where
  text : tb.data.toList = m.text
  letter : w.heap[lb]? = some (.cells #[.int .i64 m.uid, .slice fa fn fc, .int .i64 m.day, .string tb] 25 (0, 0))
  which : w.heap[p1]? = some (.cells #[.int .i64 m.which] 3 (0, 0))
  many : w.heap[p2]? = some (.cells #[.int .i64 m.many] 3 (0, 0))
  greatest : w.heap[p3]? = some (.cells #[.int .i64 m.greatest] 3 (0, 0))
  env : ∀ W, Below w.heap.size w W → SysAt W ∧ ErrType W ∧ NumAt W ∧ ∃ m, W.cell? ⟨1, 0, none⟩ = some (.int .i64 m)
theorem NumE.below {m : Sr.Lt} {tb : ByteArray} {fa : Option Addr} {fn fc lb p1 p2 p3 : Nat} {w w' : World} (h : NumE m tb fa fn fc lb p1 p2 p3 w) (hb : Below w.heap.size w w') : NumE m tb fa fn fc lb p1 p2 p3 w' :=
  ⟨h.text, (hb.block _ (Array.getElem?_eq_some_iff.1 h.letter).1).trans h.letter, (hb.block _ (Array.getElem?_eq_some_iff.1 h.which).1).trans h.which, (hb.block _ (Array.getElem?_eq_some_iff.1 h.many).1).trans h.many, (hb.block _ (Array.getElem?_eq_some_iff.1 h.greatest).1).trans h.greatest, fun W hW => h.env W (hb.trans (hW.mono hb.size))⟩
theorem ask_words (ws : List ByteArray) (N : Nat) (hN : ws.length = N) (hN3 : N ≤ 1000) (hs : ∀ y ∈ ws, y.size ≤ 20000) (m : Sr.Lt) (tb : ByteArray) (fa : Option Addr) (fn fc lb p1 p2 p3 : Nat) (k : Sr.Ky) (l : List Sr.Ar) (c : Nat) (A : Bool) (w : World) (h : NumE m tb fa fn fc lb p1 p2 p3 w)
    (hp : Sr.parseK (wordsA ws) = .ok k l c) (hf : Fit NumL 900 k) (hA : Sr.holdsK m k = A) :
    Calls Tryz.prog 16 #[.slice (some ⟨w.heap.size, 0, none⟩) N N, .pointer (some ⟨lb, 0, none⟩), .pointer (some ⟨p1, 0, none⟩), .pointer (some ⟨p2, 0, none⟩), .pointer (some ⟨p3, 0, none⟩)] (w.alloc (.cells (ws.map Value.string).toArray 9)) fun e w' => e = .returned (.bool A) ∧ Below w.heap.size w w' := by
  have hb : Below w.heap.size w (w.alloc (.cells (ws.map Value.string).toArray 9)) := (Below.refl _ _).alloc (Nat.le_refl _) _
  have e := heap_alloc_new w (.cells (ws.map Value.string).toArray 9)
  have h' := h.below hb
  have hk : askW m ws = A := by unfold askW; rw [hp]; exact hA
  have := ask_is m NumL ws w.heap.size lb p1 p2 p3 N 20000 tb fa fn fc _ h'.text hN hN3 hs (by omega) (fun j y hj => rd_cell e (by simp [hj])) h'.letter h'.which h'.many h'.greatest h'.env (fun W Ok hW => num_leafs m _ Ok W ⟨tb, fa, fn, fc, rfl, h.text⟩) (fun k' l' c' hp' => by rw [hp] at hp'; injection hp' with h1; rw [← h1]; exact hf)
  rw [hk] at this
  exact this.mono fun e w' h => ⟨h.1, hb.trans (h.2.mono hb.size)⟩
theorem fit_set {code : Int} {l : List (Int × Int)} (h : NumL code) (hl : l.length ≤ 1000) (f : Nat) : Fit NumL (f + 1) (Sr.setKy code l) := ⟨by rw [List.length_map]; exact hl, by simp, Or.inl h⟩
theorem fit_num {i n : Nat} (h : i < 5) (f : Nat) : Fit NumL (f + 1) (Sr.numKy i n) := ⟨by simp, by simp, Or.inl (by unfold NumL; omega)⟩
theorem right_len {l : List (Int × Int)} (h : rightR l = true) : l.length ≤ 1000 := by
  unfold rightR at h
  simp only [Bool.and_eq_true, decide_eq_true_eq] at h
  omega
theorem fit_both {l : List (Int × Int)} (hr : rightR l = true) : Fit NumL 900 (.mk 15 [] [] 0 [] [Sr.setKy 11 l, Sr.setKy 12 l]) := by
  refine ⟨by simp, by simp, Or.inr ⟨Or.inr (Or.inr rfl), fun k hk => ?_⟩⟩
  rcases List.mem_cons.1 hk with rfl | hk
  · exact fit_set (by unfold NumL; omega) (right_len hr) _
  · obtain rfl := List.mem_singleton.1 hk
    exact fit_set (by unfold NumL; omega) (right_len hr) _
section
variable (s : ByteArray) (l : List (Int × Int)) (m : Sr.Lt) (tb : ByteArray) (fa : Option Addr) (fn fc lb p1 p2 p3 : Nat) (w : World)
theorem ask_1 (hr : rightR l = true) (hs : s.data.toList = wrote l) (hz : s.size ≤ 20000) (h : NumE m tb fa fn fc lb p1 p2 p3 w) :
    Calls Tryz.prog 16 #[.slice (some ⟨w.heap.size, 0, none⟩) 1 1, .pointer (some ⟨lb, 0, none⟩), .pointer (some ⟨p1, 0, none⟩), .pointer (some ⟨p2, 0, none⟩), .pointer (some ⟨p3, 0, none⟩)] (w.alloc (.cells #[.string s] 9)) fun e w' => e = .returned (.bool (hasSet m.which m.many l)) ∧ Below w.heap.size w w' :=
  ask_words [s] 1 rfl (by omega) (by simpa using hz) m tb fa fn fc lb p1 p2 p3 _ _ _ _ w h (by rw [show wordsA [s] = [.mk 1 (wrote l) []] by simp [wordsA, hs]]; exact Sr.parse_set hr) (fit_set (by unfold NumL; omega) (right_len hr) _) (Sr.holds_set hr m).1
theorem ask_2 (u : ByteArray) (hu : Hd.great u.data.toList = Sr.wUid) (huz : u.size ≤ 20000) (hr : rightR l = true) (hs : s.data.toList = wrote l) (hz : s.size ≤ 20000) (h : NumE m tb fa fn fc lb p1 p2 p3 w) :
    Calls Tryz.prog 16 #[.slice (some ⟨w.heap.size, 0, none⟩) 2 2, .pointer (some ⟨lb, 0, none⟩), .pointer (some ⟨p1, 0, none⟩), .pointer (some ⟨p2, 0, none⟩), .pointer (some ⟨p3, 0, none⟩)] (w.alloc (.cells #[.string u, .string s] 9)) fun e w' => e = .returned (.bool (hasSet m.uid m.greatest l)) ∧ Below w.heap.size w w' :=
  ask_words [u, s] 2 rfl (by omega) (by simpa using ⟨huz, hz⟩) m tb fa fn fc lb p1 p2 p3 _ _ _ _ w h (by rw [show wordsA [u, s] = [.mk 1 u.data.toList [], .mk 1 (wrote l) []] by simp [wordsA, hs]]; exact Sr.parse_uid hr _ hu) (fit_set (by unfold NumL; omega) (right_len hr) _) (Sr.holds_set hr m).2
theorem ask_3 (u : ByteArray) (hu : Hd.great u.data.toList = Sr.wUid) (huz : u.size ≤ 20000) (hr : rightR l = true) (hs : s.data.toList = wrote l) (hz : s.size ≤ 20000) (h : NumE m tb fa fn fc lb p1 p2 p3 w) :
    Calls Tryz.prog 16 #[.slice (some ⟨w.heap.size, 0, none⟩) 3 3, .pointer (some ⟨lb, 0, none⟩), .pointer (some ⟨p1, 0, none⟩), .pointer (some ⟨p2, 0, none⟩), .pointer (some ⟨p3, 0, none⟩)] (w.alloc (.cells #[.string u, .string s, .string s] 9)) fun e w' => e = .returned (.bool (hasSet m.uid m.greatest l && hasSet m.which m.many l)) ∧ Below w.heap.size w w' :=
  ask_words [u, s, s] 3 rfl (by omega) (by simpa using ⟨huz, hz⟩) m tb fa fn fc lb p1 p2 p3 _ _ _ _ w h (by rw [show wordsA [u, s, s] = [.mk 1 u.data.toList [], .mk 1 (wrote l) [], .mk 1 (wrote l) []] by simp [wordsA, hs]]; exact Sr.parse_both hr _ hu)
    (fit_both hr)
    (by rw [Sr.holds_both, (Sr.holds_set hr m).1, (Sr.holds_set hr m).2])
theorem ask_n (i n : Nat) (hi : i < 5) (hn : n ≤ 2147483647) (u d : ByteArray) (hu : Sr.wMeas[i]? = some (Hd.great u.data.toList)) (huz : u.size ≤ 20000) (hd : d.data.toList = Lib.itoa (n : Int)) (hz : d.size ≤ 20000) (h : NumE m tb fa fn fc lb p1 p2 p3 w) :
    Calls Tryz.prog 16 #[.slice (some ⟨w.heap.size, 0, none⟩) 2 2, .pointer (some ⟨lb, 0, none⟩), .pointer (some ⟨p1, 0, none⟩), .pointer (some ⟨p2, 0, none⟩), .pointer (some ⟨p3, 0, none⟩)] (w.alloc (.cells #[.string u, .string d] 9)) fun e w' => e = .returned (.bool (Sr.holdsK m (Sr.numKy i n))) ∧ Below w.heap.size w w' :=
  ask_words [u, d] 2 rfl (by omega) (by simpa using ⟨huz, hz⟩) m tb fa fn fc lb p1 p2 p3 _ _ _ _ w h (by rw [show wordsA [u, d] = [.mk 1 u.data.toList [], .mk 1 (Lib.itoa (n : Int)) []] by simp [wordsA, hd]]; exact Sr.parse_meas n i hn _ hi hu) (fit_num hi _) rfl
end
end Go.Proofs.YtligkpcoajnjmaaGreatDoorR
namespace Go.Proofs.YtligkpcoajnjmaaGreatDoorR
open Go.RowKit Go.Proofs.Aid Go.Proofs.Sq Go.Proofs.Hd

theorem ask_at (ws : List ByteArray) (N : Nat) (hN : ws.length = N) (hN3 : N ≤ 1000) (hs : ∀ y ∈ ws, y.size ≤ 20000) (m : Sr.Lt) (tb : ByteArray) (fa : Option Addr) (fn fc lb p1 p2 p3 b : Nat) (k : Sr.Ky) (l : List Sr.Ar) (c : Nat) (A : Bool) (w : World) (h : NumE m tb fa fn fc lb p1 p2 p3 w)
    (hw : ∀ (j : Nat) y, ws[j]? = some y → w.cell? ⟨b, j, none⟩ = some (.string y)) (hp : Sr.parseK (wordsA ws) = .ok k l c) (hf : Fit NumL 900 k) (hA : Sr.holdsK m k = A) :
    Calls Tryz.prog 16 #[.slice (some ⟨b, 0, none⟩) N N, .pointer (some ⟨lb, 0, none⟩), .pointer (some ⟨p1, 0, none⟩), .pointer (some ⟨p2, 0, none⟩), .pointer (some ⟨p3, 0, none⟩)] w fun e w' => e = .returned (.bool A) ∧ Below w.heap.size w w' := by
  have hk : askW m ws = A := by unfold askW; rw [hp]; exact hA
  have := ask_is m NumL ws b lb p1 p2 p3 N 20000 tb fa fn fc w h.text hN hN3 hs (by omega) hw h.letter h.which h.many h.greatest h.env (fun W Ok hW => num_leafs m _ Ok W ⟨tb, fa, fn, fc, rfl, h.text⟩) (fun k' l' c' hp' => by rw [hp] at hp'; injection hp' with h1; rw [← h1]; exact hf)
  rw [hk] at this
  exact this
section
variable (s : ByteArray) (l : List (Int × Int)) (m : Sr.Lt) (tb : ByteArray) (fa : Option Addr) (fn fc lb p1 p2 p3 b : Nat) (w : World)
theorem put_1 (hr : rightR l = true) (hs : s.data.toList = wrote l) (hz : s.size ≤ 20000) (h : NumE m tb fa fn fc lb p1 p2 p3 w) (h0 : w.cell? ⟨b, 0, none⟩ = some (.string s)) :
    Calls Tryz.prog 16 #[.slice (some ⟨b, 0, none⟩) 1 1, .pointer (some ⟨lb, 0, none⟩), .pointer (some ⟨p1, 0, none⟩), .pointer (some ⟨p2, 0, none⟩), .pointer (some ⟨p3, 0, none⟩)] w fun e w' => e = .returned (.bool (hasSet m.which m.many l)) ∧ Below w.heap.size w w' :=
  ask_at [s] 1 rfl (by omega) (by simpa using hz) m tb fa fn fc lb p1 p2 p3 b _ _ _ _ w h (fun j y hj => by
    match j, hj with
    | 0, hj => rw [← Option.some.inj hj]; exact h0
    | j + 1, hj => simp at hj) (by rw [show wordsA [s] = [.mk 1 (wrote l) []] by simp [wordsA, hs]]; exact Sr.parse_set hr) (fit_set (by unfold NumL; omega) (right_len hr) _) (Sr.holds_set hr m).1
theorem put_2 (u : ByteArray) (hu : Hd.great u.data.toList = Sr.wUid) (huz : u.size ≤ 20000) (hr : rightR l = true) (hs : s.data.toList = wrote l) (hz : s.size ≤ 20000) (h : NumE m tb fa fn fc lb p1 p2 p3 w) (h0 : w.cell? ⟨b, 0, none⟩ = some (.string u)) (h1 : w.cell? ⟨b, 1, none⟩ = some (.string s)) :
    Calls Tryz.prog 16 #[.slice (some ⟨b, 0, none⟩) 2 2, .pointer (some ⟨lb, 0, none⟩), .pointer (some ⟨p1, 0, none⟩), .pointer (some ⟨p2, 0, none⟩), .pointer (some ⟨p3, 0, none⟩)] w fun e w' => e = .returned (.bool (hasSet m.uid m.greatest l)) ∧ Below w.heap.size w w' :=
  ask_at [u, s] 2 rfl (by omega) (by simpa using ⟨huz, hz⟩) m tb fa fn fc lb p1 p2 p3 b _ _ _ _ w h (fun j y hj => by
    match j, hj with
    | 0, hj => rw [← Option.some.inj hj]; exact h0
    | 1, hj => rw [← Option.some.inj hj]; exact h1
    | j + 2, hj => simp at hj) (by rw [show wordsA [u, s] = [.mk 1 u.data.toList [], .mk 1 (wrote l) []] by simp [wordsA, hs]]; exact Sr.parse_uid hr _ hu) (fit_set (by unfold NumL; omega) (right_len hr) _) (Sr.holds_set hr m).2
theorem put_3 (u : ByteArray) (hu : Hd.great u.data.toList = Sr.wUid) (huz : u.size ≤ 20000) (hr : rightR l = true) (hs : s.data.toList = wrote l) (hz : s.size ≤ 20000) (h : NumE m tb fa fn fc lb p1 p2 p3 w) (h0 : w.cell? ⟨b, 0, none⟩ = some (.string u)) (h1 : w.cell? ⟨b, 1, none⟩ = some (.string s)) (h2 : w.cell? ⟨b, 2, none⟩ = some (.string s)) :
    Calls Tryz.prog 16 #[.slice (some ⟨b, 0, none⟩) 3 3, .pointer (some ⟨lb, 0, none⟩), .pointer (some ⟨p1, 0, none⟩), .pointer (some ⟨p2, 0, none⟩), .pointer (some ⟨p3, 0, none⟩)] w fun e w' => e = .returned (.bool (hasSet m.uid m.greatest l && hasSet m.which m.many l)) ∧ Below w.heap.size w w' :=
  ask_at [u, s, s] 3 rfl (by omega) (by simpa using ⟨huz, hz⟩) m tb fa fn fc lb p1 p2 p3 b _ _ _ _ w h (fun j y hj => by
    match j, hj with
    | 0, hj => rw [← Option.some.inj hj]; exact h0
    | 1, hj => rw [← Option.some.inj hj]; exact h1
    | 2, hj => rw [← Option.some.inj hj]; exact h2
    | j + 3, hj => simp at hj) (by rw [show wordsA [u, s, s] = [.mk 1 u.data.toList [], .mk 1 (wrote l) [], .mk 1 (wrote l) []] by simp [wordsA, hs]]; exact Sr.parse_both hr _ hu)
    (fit_both hr) (by rw [Sr.holds_both, (Sr.holds_set hr m).1, (Sr.holds_set hr m).2])
theorem put_n (i n : Nat) (hi : i < 5) (hn : n ≤ 2147483647) (u d : ByteArray) (hu : Sr.wMeas[i]? = some (Hd.great u.data.toList)) (huz : u.size ≤ 20000) (hd : d.data.toList = Lib.itoa (n : Int)) (hz : d.size ≤ 20000) (h : NumE m tb fa fn fc lb p1 p2 p3 w) (h0 : w.cell? ⟨b, 0, none⟩ = some (.string u)) (h1 : w.cell? ⟨b, 1, none⟩ = some (.string d)) :
    Calls Tryz.prog 16 #[.slice (some ⟨b, 0, none⟩) 2 2, .pointer (some ⟨lb, 0, none⟩), .pointer (some ⟨p1, 0, none⟩), .pointer (some ⟨p2, 0, none⟩), .pointer (some ⟨p3, 0, none⟩)] w fun e w' => e = .returned (.bool (Sr.holdsK m (Sr.numKy i n))) ∧ Below w.heap.size w w' :=
  ask_at [u, d] 2 rfl (by omega) (by simpa using ⟨huz, hz⟩) m tb fa fn fc lb p1 p2 p3 b _ _ _ _ w h (fun j y hj => by
    match j, hj with
    | 0, hj => rw [← Option.some.inj hj]; exact h0
    | 1, hj => rw [← Option.some.inj hj]; exact h1
    | j + 2, hj => simp at hj) (by rw [show wordsA [u, d] = [.mk 1 u.data.toList [], .mk 1 (Lib.itoa (n : Int)) []] by simp [wordsA, hd]]; exact Sr.parse_meas n i hn _ hi hu) (fit_num hi _) rfl
end
end Go.Proofs.YtligkpcoajnjmaaGreatDoorR
