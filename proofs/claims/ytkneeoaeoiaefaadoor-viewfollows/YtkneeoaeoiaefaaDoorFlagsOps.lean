/-
  Rows of texts: copied, appended, put behind one another; flags.Not's closure; flags.Not.
-/
import Derived.Test.YtkneeoaeoiaefaaDoorFlagsSearch
import Derived.Laws.AppendOwnNone
namespace Go.Proofs.YtkneeoaeoiaefaaDoor
open Go.RowKit Go.Proofs.Aid Go.Proofs.Fl Go.Sort Go.Lib

def bas (l : List Tx) : List ByteArray := l.map fun t => ⟨t.toArray⟩
theorem bas_length (l : List Tx) : (bas l).length = l.length := by simp [bas]
theorem bas_map (l : List Tx) : (bas l).map Value.string = l.map encStr := by simp [bas, Function.comp_def]
theorem bas_inj {a b : List Tx} (h : bas a = bas b) : a = b := by
  have := congrArg (List.map fun s : ByteArray => s.data.toList) h
  simpa [bas, Function.comp_def] using this
theorem cells_bas {w : World} {b o : Nat} {l : List Tx} (h : ∀ (j : Nat) t, l[j]? = some t → w.cell? ⟨b, o + j, none⟩ = some (encStr t)) : ∀ j, j < (bas l).length → w.cell? ⟨b, o + j, none⟩ = some (.string ((bas l).getD j ByteArray.empty)) := by
  intro j hj
  rw [bas_length] at hj
  rw [h j _ (List.getElem?_eq_getElem hj)]
  simp [bas, List.getD_eq_getElem?_getD, hj]
theorem clone_txs (v : Value) (l : List Tx) (w : World) (h : Sl w v l) (hl : l.length ≤ 1000) :
    Calls Tryd.prog 37 #[v] w fun e w' => (∃ v', e = .returned v' ∧ Row w' w.heap.size v' l) ∧ Below w.heap.size w w' := by
  obtain ⟨a, c, rfl, h0, ha⟩ := h
  cases a with
  | none =>
    have hn : l = [] := by
      rcases ha with h | ⟨b, o, h, _⟩
      · exact h
      · cases h
    subst hn
    refine (Tryd.slices_Clone_string_nil _ c w).mono ?_
    rintro e w' ⟨rfl, rfl⟩
    exact ⟨⟨_, rfl, World.ownsRow_nil _ _ _ _⟩, Below.refl _ _⟩
  | some ad =>
    rcases ha with rfl | ⟨b, o, h1, hat⟩
    · refine (Tryd.slices_Clone_string_zero ad c w).mono ?_
      rintro e w' ⟨v', rfl, hrow, _, hb⟩
      exact ⟨⟨v', rfl, hrow⟩, hb⟩
    · cases h1
      refine (Tryd.slices_Clone_string b o l.length c (bas l) w (by rw [bas_length]; exact Nat.le_refl _) (by omega) (cells_bas hat)).mono ?_
      rintro e w' ⟨v', rfl, hrow, _, hb⟩
      rw [List.take_of_length_le (by rw [bas_length]; exact Nat.le_refl _), bas_map] at hrow
      exact ⟨⟨v', rfl, hrow⟩, hb⟩
theorem Tryd.infoStr : (Tryd.prog.info? 9).map (fun i => (i.zero, i.size, i.bytes)) = some (some (.string ⟨#[]⟩), 1, 16) := by kernel_rfl
theorem enc_at {w : World} {b o : Nat} {l : List Tx} (h : ∀ (j : Nat) t, l[j]? = some t → w.cell? ⟨b, o + j, none⟩ = some (encStr t)) : ∀ (j : Nat) (u : Value), (l.map encStr)[j]? = some u → w.cell? ((⟨b, o, none⟩ : Addr).add j) = some u := by
  intro j u hj
  rw [Addr.add_lit]
  rw [List.getElem?_map, Option.map_eq_some_iff] at hj
  obtain ⟨t, ht, rfl⟩ := hj
  exact h j t ht
theorem wpList_append_sl {ops : Array Oper} {rest : List Oper} {o : Oper} {a : Act} {Q : Exit → Act → World → Prop} {w : World} (hgd : o.guard = none) (s x : Operand)
    (ho : o.op = .call { callee := .builtin .append, args := #[s, x], argTypes := #[34, 34] })
    (base : Nat) (v : Value) (n : Nat) (xs : List Value) (hs : a.eval s = v) (hown : w.ownsRow base 9 1 v n xs)
    (vx : Value) (l : List Tx) (hx : a.eval x = vx) (hsl : Sl w vx l) (hlen : n + l.length ≤ 1000) (hbase : base ≤ w.heap.size)
    (h : ∀ v' w', w'.ownsRow base 9 1 v' (n + l.length) (xs ++ l.map encStr) → w.grownBy w' v.ownBlock → wpList Tryd.prog ops Q rest (a.put o.dst v') w') : wpList Tryd.prog ops Q (o :: rest) a w := by
  obtain ⟨i0, hi, hz0, hz1, hz2⟩ := info_parts Tryd.infoStr
  obtain ⟨ad, c, rfl, hnil, hc⟩ := hsl
  cases ad with
  | none =>
    obtain rfl := hnil.1 rfl
    have hl : l = [] := by
      rcases hc with h1 | ⟨b, o', h1, _⟩
      · exact h1
      · cases h1
    subst hl
    refine wpList_append_own_none hgd s x 34 ho base 9 i0 1 Tryd.underlying34 hi v n xs hs hown hx ?_
    refine h v w (by simpa using hown) ⟨rfl, rfl, rfl, Nat.le_refl _, fun _ _ _ => rfl⟩
  | some ad =>
    have hnews : ∀ (j : Nat) (u : Value), (l.map encStr)[j]? = some u → w.cell? (ad.add j) = some u := by
      rcases hc with rfl | ⟨b, o', h1, h2⟩
      · intro j u hj; simp at hj
      · cases h1
        exact enc_at h2
    refine wpList_append_own w hgd s x 34 ho base 9 i0 (.string ⟨#[]⟩) 1 16 Tryd.underlying34 hi hz0 hz1 hz2 rfl (by decide) v n xs hs hown ad l.length c (l.map encStr) hx (by simp) hnews (by intro u hu; obtain ⟨t, _, rfl⟩ := List.mem_map.1 hu; rfl) (by unfold maxLen; omega) (by omega) hbase ?_
    intro v' w' h1 h2 _
    exact h v' w' h1 h2
/-- flags.Not's closure: is the flag one of the others? -/
theorem taken_any (x : Tx) (p : Nat) (vo : Value) (l : List Tx) (W : World) (hc : W.cell? ⟨p, 0, none⟩ = some vo) (h : Sl W vo l) (ho : Ord l) (hg : SysAt W) (hl : l.length ≤ 1000) :
    Calls Tryd.prog 57 #[encStr x, .pointer (some ⟨p, 0, none⟩)] W fun e w' => e = .returned (.bool (l.contains x)) ∧ ∃ q, w' = W.drewN q := by
  have cS := search_txs vo l x W h ho hg hl
  obtain ⟨C, hC⟩ : ∃ C, l.contains x = C := ⟨_, rfl⟩
  rw [hC] at cS ⊢
  obtain ⟨X, hX⟩ : ∃ X : ByteArray, ⟨x.toArray⟩ = X := ⟨_, rfl⟩
  change Calls Tryd.prog _ #[_, .string ⟨x.toArray⟩, _] W _ at cS
  show Calls Tryd.prog _ #[.string ⟨x.toArray⟩, _] W _
  rw [hX] at cS ⊢
  clear h ho hg hC hX
  go_enter Tryd.func57, Tryd.ntmps57
  go_wp2_with fail
  refine cS.mono ?_
  rintro e w' ⟨⟨i, rfl⟩, q, rfl⟩
  go_wp2_with fail
  go_ret
  exact ⟨rfl, q, rfl⟩
end Go.Proofs.YtkneeoaeoiaefaaDoor
