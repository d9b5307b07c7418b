/-
  How long what stands at a head can be. Of no program.
-/
import Derived.Test.YtgbbkdflnlagaaaGreatDoorHeadFields
namespace Go.Proofs.Hd
open Go.Proofs.Sq

theorem joinV_len (v b : Tx) : (joinV v b).length ≤ v.length + b.length + 1 := by
  unfold joinV
  split
  · omega
  · split
    · omega
    · simp; omega
theorem onto_bound {M : Nat} : ∀ {l : List Fd} {b : Tx}, (∀ f ∈ l, f.2.length ≤ M) → ∀ f ∈ onto l b, f.2.length ≤ M + b.length + 1
  | [], _, _, f, hf => by simp [onto] at hf
  | [g], b, h, f, hf => by
    have hg := h g List.mem_cons_self
    rw [onto, List.mem_singleton] at hf
    subst hf
    have := joinV_len g.2 b
    show (joinV g.2 b).length ≤ _
    omega
  | g :: k :: r, b, h, f, hf => by
    rw [onto] at hf
    rcases List.mem_cons.1 hf with rfl | hf
    · have := h _ List.mem_cons_self; omega
    · exact onto_bound (fun x hx => h x (List.mem_cons_of_mem _ hx)) f hf
theorem cut_len (c : UInt8) : ∀ s : Tx, (cutAt c s).2.1.length ≤ s.length
  | [] => by simp [cutAt]
  | b :: r => by
    have ih := cut_len c r
    rw [cutAt]
    split
    · simp
    · simp only [List.length_cons]; omega
theorem step_bound {M : Nat} {l : List Fd} {p : Tx} (h : ∀ f ∈ l, f.2.length ≤ M) : ∀ f ∈ (step l p).2, f.2.length ≤ M + (p.length + 1) := by
  intro f hf
  unfold step at hf
  split at hf
  · have := h f hf; omega
  · split at hf
    · simp at hf
    · split at hf
      · split at hf
        · simp at hf
        · have := onto_bound h f hf
          have := bare_length p
          omega
      · split at hf
        · simp at hf
        · split at hf
          · simp at hf
          · rcases List.mem_append.1 hf with hf | hf
            · have := h f hf; omega
            · obtain rfl := List.mem_singleton.1 hf
              have h1 := bare_length (cutAt 58 p).2.1
              have h2 := cut_len 58 p
              show (bare (cutAt 58 p).2.1).length ≤ _
              omega
theorem fieldsFrom_bound : ∀ (ps : List Tx) (i M : Nat) (l : List Fd), (∀ f ∈ l, f.2.length ≤ M) → ∀ f ∈ (fieldsFrom i l ps).2, f.2.length ≤ M + (ps.map fun p => p.length + 1).sum
  | [], _, _, _, h, f, hf => by have := h f hf; simpa using this
  | p :: ps, i, M, l, h, f, hf => by
    rw [fieldsFrom] at hf
    split at hf
    · have := fieldsFrom_bound ps (i + 1) (M + (p.length + 1)) _ (step_bound h) f hf
      rw [List.map_cons, List.sum_cons]
      omega
    · simp at hf
theorem pieces_sum : ∀ (s : Tx), ((pieces s).map fun p => p.length + 1).sum ≤ s.length + 1
  | [] => by simp [pieces]
  | [c] => by simp [pieces]
  | c :: d :: r => by
    have h1 := pieces_sum r
    have h2 := pieces_sum (d :: r)
    rw [pieces]
    split
    · simp only [List.map_cons, List.sum_cons, List.length_cons, List.length_nil]; omega
    · cases hb : pieces (d :: r) with
      | nil => exact absurd hb (pieces_ne _)
      | cons q qs =>
        rw [hb] at h2
        simp only [List.map_cons, List.sum_cons, List.length_cons, List.headD_cons, List.tail_cons] at h2 ⊢
        omega
theorem values_short (s : Tx) : ∀ f ∈ (fieldsOf s).2, f.2.length ≤ s.length + 1 := by
  intro f hf
  have h1 := fieldsFrom_bound (pieces (headOf s)) 0 0 [] (by simp) f hf
  have h2 := pieces_sum (headOf s)
  have h3 : (headOf s).length ≤ s.length := by unfold headOf; rw [List.length_take]; omega
  omega
theorem printed_len {V : Nat} : ∀ {l : List Fd}, (∀ f ∈ l, Good f ∧ f.2.length ≤ V) → (printed l).length ≤ l.length * (64 + V) + 2
  | [], _ => by simp [printed]
  | f :: r, h => by
    have ih := printed_len (fun x hx => h x (List.mem_cons_of_mem _ hx) : ∀ x ∈ r, Good x ∧ x.2.length ≤ V)
    have hf := h f List.mem_cons_self
    have hn := (name_ne hf.1.name).2
    rw [printed, List.length_append, List.length_cons, List.length_cons, List.length_cons, Nat.add_mul]
    have : (lineOf f).length = f.1.length + (f.2.length + 2) := by unfold lineOf; simp
    omega
theorem head_body (s : Tx) : headOf s ++ bodyOf s = s := List.take_append_drop _ _
end Go.Proofs.Hd
