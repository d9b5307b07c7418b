/-
  Appending a slice of ranges to a row that the call owns.
-/
import Derived.Test.YtneipabooahihaaDoorSeqBase
import Derived.Laws.AppendOwnNone
namespace Go.Proofs.YtneipabooahihaaDoor
open Go.RowKit Go.Proofs.Aid Go.Proofs.Sq

theorem Tryd.infoRange3 : (Tryd.prog.info? 40).map (fun i => (i.zero, i.size, i.bytes)) = some (some (.agg #[.int .i64 0, .int .i64 0]), 2, 16) := by kernel_rfl
theorem cellsR_at {w : World} {b o : Nat} {l : List (Int × Int)} (h : RgAt w b o l) : ∀ (j : Nat) (u : Value), (cellsR l)[j]? = some u → w.cell? ((⟨b, o, none⟩ : Addr).add j) = some u := by
  intro j u hj
  rw [Addr.add_lit]
  have hlt : j < (cellsR l).length := (List.getElem?_eq_some_iff.1 hj).1
  rw [cellsR_length] at hlt
  have hlk : l[j / 2]? = some (l[j / 2]'(by omega)) := List.getElem?_eq_getElem _
  obtain ⟨g1, g2⟩ := cellsR_get l (j / 2) _ hlk
  obtain ⟨c1, c2⟩ := h (j / 2) _ hlk
  rcases Nat.mod_two_eq_zero_or_one j with h0 | h0
  · have hj2 : j / 2 * 2 = j := by omega
    rw [hj2] at g1 c1
    rw [c1, ← hj, g1]
  · have hj2 : j / 2 * 2 + 1 = j := by omega
    rw [hj2] at g2
    rw [show o + j / 2 * 2 + 1 = o + j by omega] at c2
    rw [c2, ← hj, g2]
theorem cellsR_one {l : List (Int × Int)} : ∀ u ∈ cellsR l, u.oneCell' = true := by
  intro u hu
  unfold cellsR at hu
  obtain ⟨r, _, hr⟩ := List.mem_flatMap.1 hu
  simp at hr
  rcases hr with rfl | rfl <;> rfl
theorem wpList_append_rg {ops : Array Oper} {rest : List Oper} {o : Oper} {a : Act} {Q : Exit → Act → World → Prop} {w : World} (hgd : o.guard = none) (s x : Operand)
    (ho : o.op = .call { callee := .builtin .append, args := #[s, x], argTypes := #[33, 33] })
    (base : Nat) (v : Value) (n : Nat) (xs : List Value) (hs : a.eval s = v) (hown : w.ownsRow base 40 2 v n xs)
    (vx : Value) (l : List (Int × Int)) (hx : a.eval x = vx) (hrg : Rg w vx l) (hnil : ∀ k c, vx = .slice none k c → c = 0) (hlen : n + l.length ≤ 1000) (hbase : base ≤ w.heap.size)
    (h : ∀ v' w', w'.ownsRow base 40 2 v' (n + l.length) (xs ++ cellsR l) → w.grownBy w' v.ownBlock → wpList Tryd.prog ops Q rest (a.put o.dst v') w') : wpList Tryd.prog ops Q (o :: rest) a w := by
  obtain ⟨i0, hi, hz0, hz1, hz2⟩ := info_parts Tryd.infoRange3
  obtain ⟨ad, c, rfl, hc⟩ := hrg
  cases ad with
  | none =>
    obtain rfl := hnil _ _ rfl
    have hl : l = [] := by
      rcases hc with h1 | ⟨b, o', h1, _⟩
      · exact h1
      · cases h1
    subst hl
    refine wpList_append_own_none hgd s x 33 ho base 40 i0 2 Tryd.underlying33 hi v n xs hs hown hx ?_
    refine h v w (by simpa [cellsR] using hown) ⟨rfl, rfl, rfl, Nat.le_refl _, fun _ _ _ => rfl⟩
  | some ad =>
    have hnews : ∀ (j : Nat) (u : Value), (cellsR l)[j]? = some u → w.cell? (ad.add j) = some u := by
      rcases hc with rfl | ⟨b, o', h1, h2⟩
      · intro j u hj; simp [cellsR] at hj
      · cases h1
        exact cellsR_at h2
    refine wpList_append_own w hgd s x 33 ho base 40 i0 (.agg #[.int .i64 0, .int .i64 0]) 2 16 Tryd.underlying33 hi hz0 hz1 hz2 rfl (by decide) v n xs hs hown ad l.length c (cellsR l) hx (cellsR_length l) hnews cellsR_one (by unfold maxLen; omega) (by omega) hbase ?_
    intro v' w' h1 h2 _
    exact h v' w' h1 h2
end Go.Proofs.YtneipabooahihaaDoor
