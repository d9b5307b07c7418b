/-
  Texts that are quoted, in a command: where it ends, and what it is read as. Plain mathematics.
-/
import Derived.Test.YtligkpcoajnjmaaDoorWireQNext
namespace Go.Proofs.YtligkpcoajnjmaaDoor
open Go.Proofs.Hd
open Go.Proofs.Sr (Ar)

theorem esc_plain {s : Tx} (h : ∀ c ∈ s, plainB c = true) : ∀ c ∈ esc s, plainB c = true := by
  intro c hc
  unfold esc at hc
  obtain ⟨x, hx, hc⟩ := List.mem_flatMap.1 hc
  split at hc
  · rcases List.mem_cons.1 hc with rfl | hc
    · decide
    · rw [List.mem_singleton.1 hc]; exact h x hx
  · rw [List.mem_singleton.1 hc]; exact h x hx
theorem plain_13 {c : UInt8} (h : plainB c = true) : c ≠ 13 := by rintro rfl; revert h; decide
theorem quote_seg (t : Tx) (ht : t.length ≤ 100000) : ∃ g : Sg, g.text = quoteW t ∧ g.good := by
  unfold quoteW
  by_cases hb : bareW t = true
  · rw [if_pos hb]
    unfold bareW at hb
    simp only [Bool.and_eq_true, Bool.not_eq_true', decide_eq_true_eq] at hb
    exact ⟨.plain t, rfl, fun c hc => (wordy_ne (word_all hb.1.2 c hc)).1⟩
  · rw [if_neg hb]
    by_cases hp : t.all plainB = true
    · rw [if_pos hp]
      refine ⟨.plain (34 :: (esc t ++ [34])), rfl, fun c hc => ?_⟩
      rcases List.mem_cons.1 hc with rfl | hc
      · decide
      · rcases List.mem_append.1 hc with hc | hc
        · exact plain_13 (esc_plain (List.all_eq_true.1 hp) c hc)
        · rw [List.mem_singleton.1 hc]; decide
    · rw [if_neg hp]
      exact ⟨.lit t, rfl, show t.length ≤ _ by omega⟩
/-- The first letter of a text that is quoted is no ). -/
theorem quote_first (t : Tx) : ∃ x r, quoteW t = x :: r ∧ ((41 : UInt8) == x) = false := by
  unfold quoteW
  by_cases hb : bareW t = true
  · rw [if_pos hb]
    unfold bareW at hb
    simp only [Bool.and_eq_true, Bool.not_eq_true', decide_eq_true_eq] at hb
    cases t with
    | nil => simp at hb
    | cons x t =>
      have hw := word_all hb.1.2 x List.mem_cons_self
      refine ⟨x, t, rfl, ?_⟩
      cases h9 : ((41 : UInt8) == x) with
      | false => rfl
      | true => rw [← (beq_iff_eq.1 h9)] at hw; revert hw; decide
  · rw [if_neg hb]
    split
    · exact ⟨34, _, rfl, by decide⟩
    · exact ⟨123, _, rfl, by decide⟩
def xText (s t : Tx) : Tx := [97, 32, 98, 32] ++ quoteW s ++ [32, 40] ++ quoteW t ++ [32] ++ quoteW s ++ [41, 13, 10]
theorem x_next (s t rest : Tx) (hs : s.length ≤ 100000) (ht : t.length ≤ 100000) (hl : (xText s t).length ≤ 3000) : ∃ k, nextW (xText s t ++ rest) 0 0 = ((xText s t).length, k, false) := by
  obtain ⟨g1, e1, k1⟩ := quote_seg s hs
  obtain ⟨g2, e2, k2⟩ := quote_seg t ht
  have hseg : segs [.plain [97, 32, 98, 32], g1, .plain [32, 40], g2, .plain [32], g1] = [97, 32, 98, 32] ++ quoteW s ++ [32, 40] ++ quoteW t ++ [32] ++ quoteW s := by
    unfold segs
    simp only [List.flatMap_cons, List.flatMap_nil, e1, e2]
    simp [Sg.text]
  have hx : xText s t = segs [.plain [97, 32, 98, 32], g1, .plain [32, 40], g2, .plain [32], g1] ++ [41, 13, 10] := by rw [hseg]; rfl
  have hlen : (xText s t).length = (segs [.plain [97, 32, 98, 32], g1, .plain [32, 40], g2, .plain [32], g1]).length + 3 := by rw [hx]; simp
  obtain ⟨k, hk⟩ := next_segs (s := xText s t ++ rest) (d := 41) (rest := rest) (by decide) (by decide) [.plain [97, 32, 98, 32], g1, .plain [32, 40], g2, .plain [32], g1] [] 0 0 (fun c hc => by cases hc)
    (fun g hg => by
      simp only [List.mem_cons, List.not_mem_nil, or_false] at hg
      rcases hg with rfl | rfl | rfl | rfl | rfl | rfl
      · show ∀ c ∈ _, _; decide
      · exact k1
      · show ∀ c ∈ _, _; decide
      · exact k2
      · show ∀ c ∈ _, _; decide
      · exact k1)
    (by omega) (by rw [List.drop_zero, List.nil_append, hx]; simp) (by rw [List.nil_append]; omega)
  refine ⟨k, hk.trans ?_⟩
  rw [List.nil_append, hlen]
  congr 1
  omega
theorem w32 : wordy 32 = false := by decide
theorem w41 : wordy 41 = false := by decide
theorem x_parse (s t : Tx) (hs : s.length ≤ 100000) (ht : t.length ≤ 100000) : ∃ k1 k2 k3 p c, parseW (xText s t) = .ok ⟨[97], [66], [.mk k1 s [], .mk 3 [] [.mk k2 t [], .mk k3 s []]]⟩ p c := by
  obtain ⟨X, hX⟩ : ∃ X, xText s t = X := ⟨_, rfl⟩
  rw [hX]
  have d0 : X.drop 0 = [97] ++ 32 :: (98 :: 32 :: (quoteW s ++ 32 :: (40 :: (quoteW t ++ 32 :: (quoteW s ++ 41 :: [13, 10]))))) := by rw [← hX]; simp [xText]
  have d1 : X.drop 1 = 32 :: (98 :: 32 :: (quoteW s ++ 32 :: (40 :: (quoteW t ++ 32 :: (quoteW s ++ 41 :: [13, 10]))))) := drop_more (a := [97]) d0
  have d2 : X.drop 2 = [98] ++ 32 :: (quoteW s ++ 32 :: (40 :: (quoteW t ++ 32 :: (quoteW s ++ 41 :: [13, 10])))) := drop_more (a := [97, 32]) (by rw [d0]; rfl)
  have d3 : X.drop 3 = 32 :: (quoteW s ++ 32 :: (40 :: (quoteW t ++ 32 :: (quoteW s ++ 41 :: [13, 10])))) := drop_more (a := [97, 32, 98]) (by rw [d0]; rfl)
  have d4 : X.drop 4 = quoteW s ++ 32 :: (40 :: (quoteW t ++ 32 :: (quoteW s ++ 41 :: [13, 10]))) := drop_more (a := [97, 32, 98, 32]) (by rw [d0]; rfl)
  have hlx : X.length = 4 + (quoteW s ++ 32 :: (40 :: (quoteW t ++ 32 :: (quoteW s ++ 41 :: [13, 10])))).length := by rw [← hX]; simp [xText]; omega
  have d5 := drop_more d4
  have d6 : X.drop (4 + (quoteW s).length + 1) = 40 :: (quoteW t ++ 32 :: (quoteW s ++ 41 :: [13, 10])) := drop_more (a := [32]) d5
  have d7 : X.drop (4 + (quoteW s).length + 1 + 1) = quoteW t ++ 32 :: (quoteW s ++ 41 :: [13, 10]) := drop_more (a := [40]) d6
  have d8 := drop_more d7
  have d9 : X.drop (4 + (quoteW s).length + 1 + 1 + (quoteW t).length + 1) = quoteW s ++ 41 :: [13, 10] := drop_more (a := [32]) d8
  have d10 := drop_more d9
  have d11 : X.drop (4 + (quoteW s).length + 1 + 1 + (quoteW t).length + 1 + (quoteW s).length + 1) = [13, 10] := drop_more (a := [41]) d10
  simp only [List.length_append, List.length_cons, List.length_nil] at hlx
  obtain ⟨k1, a1⟩ := arg_at (f := 6) (c := 0) w32 hs (by omega) (by omega) d4
  obtain ⟨k2, a2⟩ := arg_at (f := 5) (c := 2) w32 ht (by omega) (by omega) d7
  obtain ⟨k3, a3⟩ := arg_at (f := 5) (c := 3) w41 hs (by omega) (by omega) d9
  have hends : Lib.hasSuffix X [13, 10] = true := by
    unfold Lib.hasSuffix
    rw [List.isSuffixOf_iff_suffix, ← d11]
    exact List.drop_suffix _ _
  have hw1 : wordW X 0 0 = .ok [97] 1 0 := by
    unfold wordW
    rw [d0, word_upto (by decide) w32]
    rfl
  have hw2 : wordW X 2 0 = .ok [98] 3 0 := by
    unfold wordW
    rw [d2, word_upto (by decide) w32]
    rfl
  have bl : ∀ {p c : Nat} {r : Tx}, X.drop p = 32 :: r → blankW X p c = .ok () (p + 1) c := fun h => by
    unfold blankW
    rw [took_drop h]
    rfl
  obtain ⟨x0, r0, hq0, hq1⟩ := quote_first t
  have hlist : listW (argW X 6) X (4 + (quoteW s).length + 1 + 1) 2 = .ok [.mk k2 t [], .mk k3 s []] (4 + (quoteW s).length + 1 + 1 + (quoteW t).length + 1 + (quoteW s).length + 1) 4 := by
    unfold listW
    have hd7 := d7
    rw [hq0] at hd7
    rw [took_drop hd7, hq1, if_neg (by simp), a2]
    show moreW (argW X 6) X 62 [.mk k2 t []] _ _ = _
    rw [moreW, took_drop d8, if_neg (by decide), bl d8]
    show ((argW X 6 _ _).then _) = _
    rw [a3]
    show moreW (argW X 6) X 61 _ _ _ = _
    rw [moreW, took_drop d10, if_pos (by decide)]
    rfl
  have harg2 : argW X 7 (4 + (quoteW s).length + 1) 1 = .ok (.mk 3 [] [.mk k2 t [], .mk k3 s []]) (4 + (quoteW s).length + 1 + 1 + (quoteW t).length + 1 + (quoteW s).length + 1) 4 := by
    rw [argW, if_neg (by omega), took_drop d6, if_neg (by decide), took_drop d6, if_neg (by decide), took_drop d6, if_pos (by decide), hlist]
    rfl
  refine ⟨k1, k2, k3, 4 + (quoteW s).length + 1 + 1 + (quoteW t).length + 1 + (quoteW s).length + 1, 4, ?_⟩
  unfold parseW
  rw [hends, if_pos rfl]
  unfold commandW
  rw [hw1]
  show ((blankW X 1 0).then _) = _
  rw [bl d1]
  show ((wordW X 2 0).then _) = _
  rw [hw2]
  show ((argsW X 62 [] 3 0).map _) = _
  rw [argsW, d3, if_neg (by simp), bl d3]
  show (Wd.map _ ((argW X 7 4 0).then _)) = _
  rw [a1]
  show (Wd.map _ (argsW X 61 _ _ _)) = _
  rw [argsW, d5, if_neg (by simp), bl d5]
  show (Wd.map _ ((argW X 7 _ _).then _)) = _
  rw [harg2]
  show (Wd.map _ (argsW X 60 _ _ _)) = _
  rw [argsW, d11, if_pos rfl]
  rfl
end Go.Proofs.YtligkpcoajnjmaaDoor
