/-
  Parts of a command that are handed in, opened: they lie in one another as deep as they like.
-/
import Derived.Test.YtligkpcoajnjmaaGreatDoorRRows
import Derived.Test.YtligkpcoajnjmaaGreatDoorRAl03
import Derived.Test.YtligkpcoajnjmaaGreatDoorRLawLetter
namespace Go.Proofs.YtligkpcoajnjmaaGreatDoorR
open Go.RowKit Go.ChangeShapes Go.WideShapes Go.Deep

theorem Ags.grow {w : World} {Ok : Nat → Prop} {B C : Nat} (hBC : B ≤ C) {l : List Sr.Ar} {v : Value} (h : Ags w Ok B l v) : Ags w Ok C l v := by
  induction h with
  | mk l a c txt vs hc hc2 htx hk ha ih => exact Ags.mk l a c txt vs hc hc2 (fun j x hj => ⟨(htx j x hj).1, Nat.le_trans (htx j x hj).2 hBC⟩) ih ha
theorem bulk_mem {H : Type} : ∀ {l : List (DataW H)} {d : DataW H}, d ∈ l → Rows.uptoBulk d ≤ Rows.uptoBulkAll l
  | x :: l, d, h => by
    rw [Rows.uptoBulkAll]
    rcases List.mem_cons.1 h with rfl | h
    · omega
    · have := bulk_mem h
      omega
variable {H : Type} {enc : TypeId × Value → H} {P : Program}
theorem open_args {t e : TypeId} {f0 f1 f2 : Field} {W : World} (ht : P.underlying t = some (.slice e)) (he : P.underlying e = some (.struct #[f0, f1, f2])) (ce : P.cellsOf e = 3) (o0 : f0.offset = 0) (o1 : f1.offset = 1) (o2 : f2.offset = 2)
    (c0 : P.cellsOf f0.type = 1) (c1 : P.cellsOf f1.type = 1) (c2 : P.cellsOf f2.type = 1) (u0 : P.underlying f0.type = some (.int .i64)) (u1 : P.underlying f1.type = some .string) (u2 : f2.type = t) :
    ∀ (N : Nat) (v : Value) (x : DataW H × List MemPlace) (fuel : Nat), Rows.uptoBulk x.1 ≤ N → DataW.trod enc P W 0 (fun _ => true) true fuel t [v] = some x → ∃ l, Ags W (fun k => k < W.heap.size) N l v := by
  intro N
  induction N with
  | zero =>
    intro v x fuel hN h
    rcases open_slice ht h with ⟨_, rfl⟩ | ⟨a, len, cap, m, n, D, Pl, _, hb, hl, hm, hmm, rfl, hx⟩
    · simp [Rows.uptoBulk] at hN
    · simp [Rows.uptoBulk] at hN
  | succ N ih =>
    intro v x fuel hN h
    rcases open_slice ht h with ⟨hcs, rfl⟩ | ⟨a, len, cap, m, n, D, Pl, hcs, hb, hl, hm, hmm, rfl, hx⟩
    · simp only [List.cons.injEq, and_true] at hcs
      subst hcs
      exact ⟨[], Ags.mk [] none 0 (fun _ => ⟨#[]⟩) (fun _ => .slice none 0 0) (by simp) (by omega) (fun j x hj => by simp at hj) (fun j x hj => by simp at hj) (Or.inl rfl)⟩
    · simp only [List.cons.injEq, and_true] at hcs
      subst hcs
      simp only [if_true] at hmm
      subst hmm
      have each : ∀ i, ∃ q : Int × ByteArray × Value × List Sr.Ar, i < len → W.cell? (a.add (i * 3)) = some (.int .i64 q.1) ∧ W.cell? (a.add (i * 3 + 1)) = some (.string q.2.1) ∧ W.cell? (a.add (i * 3 + 2)) = some q.2.2.1 ∧ q.2.1.size ≤ N + 1 ∧ Ags W (fun k => k < W.heap.size) N q.2.2.2 q.2.2.1 := by
        intro i
        by_cases hi : i < len
        · obtain ⟨cs', h1, h2⟩ := hx i (by omega)
          rw [ce] at h1
          obtain ⟨_, hlen, hcell⟩ := World.cells?_some h1
          obtain ⟨xs, k, hk, hxy, _, hxl, hf⟩ := DataW.trod_struct he h2
          match xs, hxl, cs', hlen with
          | [y0, y1, y2], _, [v0, v1, v2], _ =>
            have g0 := hf 0 f0 rfl
            have g1 := hf 1 f1 rfl
            have g2 := hf 2 f2 rfl
            simp [o0, o1, o2, c0, c1, c2] at g0 g1 g2
            have e0 := hcell 0 (by omega)
            have e1 := hcell 1 (by omega)
            have e2 := hcell 2 (by omega)
            rw [add_add] at e0 e1 e2
            obtain ⟨z, hz, _, _⟩ := DataW.trod_int u0 g0
            obtain ⟨s, hs, hs2, _⟩ := DataW.trod_string u1 g1
            simp only [List.cons.injEq, and_true] at hz hs
            subst hz hs
            simp only [Prod.mk.injEq] at hxy
            have hD : D i = .agg [y0.1, y1.1, y2.1] := by simpa using hxy.1
            have hbi : Rows.uptoBulk (D i) ≤ Rows.uptoBulkAll ((List.range len).map D) := bulk_mem (List.mem_map_of_mem (List.mem_range.2 hi))
            simp only [Rows.uptoBulk] at hN
            rw [hD] at hbi
            simp only [Rows.uptoBulk, Rows.uptoBulkAll] at hbi
            have hs3 : y1.1 = .lit (.string s.data.toList) := by rw [hs2]
            rw [hs3] at hbi
            simp only [Rows.uptoBulk] at hbi
            have hz : s.data.toList.length = s.size := by show s.data.toList.length = s.data.size; simp
            rw [hz] at hbi
            rw [u2] at g2
            obtain ⟨l, hl2⟩ := ih v2 y2 _ (by omega) g2
            exact ⟨(z, s, v2, l), fun _ => ⟨by simpa using e0, by simpa using e1, by simpa using e2, by show s.size ≤ N + 1; omega, hl2⟩⟩
        · exact ⟨(0, ⟨#[]⟩, .slice none 0 0, []), fun h => absurd h hi⟩
      let q : Nat → Int × ByteArray × Value × List Sr.Ar := fun i => (each i).choose
      have hq : ∀ i, i < len → W.cell? (a.add (i * 3)) = some (.int .i64 (q i).1) ∧ W.cell? (a.add (i * 3 + 1)) = some (.string (q i).2.1) ∧ W.cell? (a.add (i * 3 + 2)) = some (q i).2.2.1 ∧ (q i).2.1.size ≤ N + 1 ∧ Ags W (fun k => k < W.heap.size) N (q i).2.2.2 (q i).2.2.1 := fun i => (each i).choose_spec
      obtain ⟨L, hL⟩ : ∃ L : List Sr.Ar, (List.range len).map (fun i => Sr.Ar.mk (q i).1 (q i).2.1.data.toList (q i).2.2.2) = L := ⟨_, rfl⟩
      have hLl : L.length = len := by rw [← hL]; simp
      have hat : ∀ (j : Nat) y, L[j]? = some y → j < len ∧ y = Sr.Ar.mk (q j).1 (q j).2.1.data.toList (q j).2.2.2 := fun j y hj => by
        have hjl : j < len := by rw [← hLl]; exact (List.getElem?_eq_some_iff.1 hj).1
        refine ⟨hjl, ?_⟩
        rw [← hL, List.getElem?_map, List.getElem?_range hjl] at hj
        exact (Option.some.inj hj).symm
      refine ⟨L, ?_⟩
      rw [← hLl]
      refine Ags.mk L (some a) _ (fun j => (q j).2.1) (fun j => (q j).2.2.1) (by omega) (by unfold maxLen at hm; omega) (fun j y hj => ?_) (fun j y hj => ?_) ?_
      · obtain ⟨h1, rfl⟩ := hat j y hj
        exact ⟨rfl, (hq j h1).2.2.2.1⟩
      · obtain ⟨h1, rfl⟩ := hat j y hj
        exact ((hq j h1).2.2.2.2).grow (by omega)
      · by_cases h0 : len = 0
        · left; exact List.eq_nil_of_length_eq_zero (by omega)
        · right
          obtain ⟨b, o, spot⟩ := a
          have hspot : spot = none := by simpa [Addr.add] using World.cell?_spot (hq 0 (by omega)).1
          subst hspot
          have hbl : b < W.heap.size := by simpa [Addr.add] using World.block_lt_of_cell? _ _ (hq 0 (by omega)).1
          refine ⟨b, o, rfl, hbl, fun j y hj => ?_⟩
          obtain ⟨h1, rfl⟩ := hat j y hj
          obtain ⟨k0, k1, k2, _⟩ := hq j h1
          rw [Addr.add_lit] at k0 k1 k2
          exact ⟨k0, k1, k2⟩
end Go.Proofs.YtligkpcoajnjmaaGreatDoorR
