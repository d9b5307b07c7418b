/-
  What a field says, when lines meet, as the document's answer goes about it; and which name may be. Of no program.
-/
import Derived.Test.YtgbbkdflnlagaaaGreatDoorHeadTies
namespace Go.Proofs.Hd
open Go.Proofs.Sq

/-- A text without blanks at both ends. -/
def spb (t : Tx) : Tx := ((t.dropWhile (· == 32)).reverse.dropWhile (· == 32)).reverse
theorem spb_head (t : Tx) : spb (32 :: t) = spb t := by
  unfold spb
  rw [List.dropWhile_cons_of_pos (by rfl)]
theorem dw_of {t : Tx} (h : ∀ d, t.head? = some d → d ≠ 32) : t.dropWhile (· == 32) = t := by
  cases t with
  | nil => rfl
  | cons c r => rw [List.dropWhile_cons_of_neg]; have := h c rfl; simpa using this
theorem spb_last {t : Tx} (h : ∀ d, (t ++ [32]).head? = some d → d ≠ 32) : spb (t ++ [32]) = spb t := by
  have h2 : ∀ d, t.head? = some d → d ≠ 32 := fun d hd => h d (by rw [List.head?_append, hd]; rfl)
  unfold spb
  rw [dw_of h, dw_of h2, List.reverse_append, List.reverse_singleton, List.singleton_append, List.dropWhile_cons_of_pos (by rfl)]
theorem spb_of {t : Tx} (h1 : ∀ d, t.head? = some d → d ≠ 32) (h2 : ∀ d, t.getLast? = some d → d ≠ 32) : spb t = t := by
  unfold spb
  rw [dw_of h1, dw_of (by simpa using h2), List.reverse_reverse]
theorem blk_ne {c : UInt8} (h : blk c = false) : c ≠ 32 := by
  rintro rfl
  exact absurd h (by decide)
theorem spb_join {v b : Tx} (hv : Trim v) (hb : Trim b) : spb (v ++ 32 :: b) = joinV v b := by
  unfold joinV
  by_cases h1 : b = []
  · subst h1
    rw [if_pos rfl]
    by_cases h2 : v = []
    · subst h2; rfl
    · rw [spb_last, spb_of (fun d hd => blk_ne (hv.1 d hd)) (fun d hd => blk_ne (hv.2 d hd))]
      intro d hd
      refine blk_ne (hv.1 d ?_)
      cases v with
      | nil => exact absurd rfl h2
      | cons c r => simpa using hd
  · rw [if_neg h1]
    by_cases h2 : v = []
    · subst h2
      rw [if_pos rfl, List.nil_append, spb_head, spb_of (fun d hd => blk_ne (hb.1 d hd)) (fun d hd => blk_ne (hb.2 d hd))]
    · rw [if_neg h2]
      refine spb_of ?_ ?_
      · intro d hd
        refine blk_ne (hv.1 d ?_)
        cases v with
        | nil => exact absurd rfl h2
        | cons c r => simpa using hd
      · intro d hd
        refine blk_ne (hb.2 d ?_)
        rw [List.getLast?_append, List.getLast?_cons] at hd
        cases hx : b.getLast? with
        | none => exact absurd (List.getLast?_eq_none_iff.1 hx) h1
        | some e => rw [hx] at hd; simpa using hd
theorem name_no {n : Tx} (h : n = [] ∨ 60 < n.length) : nameOk n = false := by
  unfold nameOk
  rcases h with h | h
  · simp [h]
  · rw [show decide (n.length ≤ 60) = false from decide_eq_false (by omega)]; simp
theorem name_bad {n : Tx} {c : UInt8} (hc : c ∈ n) (h : ¬ (33 ≤ c.toNat ∧ c.toNat ≤ 126)) : nameOk n = false := by
  cases hn : nameOk n with
  | false => rfl
  | true => exact absurd (name_byte hn c hc) h
theorem name_yes {n : Tx} (h0 : n ≠ []) (h1 : n.length ≤ 60) (h : ∀ c ∈ n, 33 ≤ c.toNat ∧ c.toNat ≤ 126) : nameOk n = true := by
  unfold nameOk
  simp only [Bool.and_eq_true, decide_eq_true_eq, List.all_eq_true]
  exact ⟨⟨h0, h1⟩, h⟩
theorem step_bad {l : List Fd} {p : Tx} {c : UInt8} (hc : c ∈ p) (h : isBad c = true) : step l p = (3, []) := by
  unfold step
  rw [if_neg (fun e => by rw [e] at hc; simp at hc), if_pos (List.any_eq_true.2 ⟨c, hc, h⟩)]
theorem step_clean {l : List Fd} {p : Tx} (h0 : p ≠ []) (h : ∀ c ∈ p, isBad c = false) : step l p =
    if blk (p.headD 0) then (if l = [] then (3, []) else (0, onto l (bare p)))
    else if (cutAt 58 p).2.2 = false ∨ nameOk (cutAt 58 p).1 = false then (3, [])
    else if l.length = 40 then (4, [])
    else (0, l ++ [((cutAt 58 p).1, bare (cutAt 58 p).2.1)]) := by
  unfold step
  rw [if_neg h0, if_neg (c := p.any isBad = true)]
  intro e
  obtain ⟨c, hc, hb⟩ := List.any_eq_true.1 e
  rw [h c hc] at hb
  exact absurd hb (by simp)
end Go.Proofs.Hd
