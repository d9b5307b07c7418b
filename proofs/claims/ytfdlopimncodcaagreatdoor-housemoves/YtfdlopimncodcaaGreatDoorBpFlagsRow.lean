/-
  flags, and more.
-/
import Derived.Test.YtfdlopimncodcaaGreatDoorBpFlagsOrder
import Derived.Laws.AppendOwnNone
namespace Go.Proofs.YtfdlopimncodcaaGreatDoor
open Go.RowKit Go.Proofs.Aid Go.Proofs.Fl Go.Sort Go.Lib

/-- A row of texts that the call owns. -/
def Row (w : World) (base : Nat) (v : Value) (l : List Tx) : Prop := w.ownsRow base 9 1 v l.length (l.map encStr)
theorem below_grow3 {B : Nat} {w0 w : World} (h : Below B w0 w) (hB : B ≤ w.heap.size) (os : Array Obj) : Below B w0 (grow w os) :=
  h.trans (Lib.below_grow B w hB 0 os)
theorem row_grow3 {w : World} {base e size n : Nat} {v : Value} {xs : List Value} (h : w.ownsRow base e size v n xs) (os : Array Obj) : (grow w os).ownsRow base e size v n xs :=
  row_below (B := w.heap.size) (Lib.below_grow w.heap.size w (Nat.le_refl _) 0 os) (Nat.le_refl _) h
theorem Row.nil_of {w : World} {base : Nat} {l : List Tx} (h : Row w base (.slice none 0 0) l) : l = [] := by
  rcases h.2 with ⟨_, h2⟩ | ⟨g, cap, cur, h2, _⟩
  · exact List.eq_nil_of_length_eq_zero h2
  · cases h2
theorem Row.below {w w' : World} {base B : Nat} {v : Value} {l : List Tx} (h : Row w base v l) (hb : Below B w w') (hB : w.heap.size ≤ B) : Row w' base v l := row_below hb hB h
theorem size_sortWorld {α : Type} [Inhabited α] (enc : α → Value) (w : World) (blk off m : Nat) (dk : Array α) (os : Array Obj) : w.heap.size ≤ (sortWorld enc w blk off m dk os).heap.size := by
  simp [sortWorld, grow, putRow, mapBlock, Sort.ahead]
theorem below_sortWorld {α : Type} [Inhabited α] (enc : α → Value) (B : Nat) (w : World) (blk m : Nat) (dk : Array α) (os : Array Obj) (hB : B ≤ w.heap.size) (hb : B ≤ blk) : Below B w (sortWorld enc w blk 0 m dk os) :=
  below_grow3 (Lib.below_putRow (Below.refl _ _) hb) (by simp [putRow, mapBlock, Sort.ahead]; exact hB) os
theorem ltOf_cf : ltOf cf = ltc := rfl
theorem compare_cI : ∀ x y W, Calls Tryz.prog 203 #[.int .i64 x, .int .i64 y] W fun e w' => e = .returned (.int .i64 (Lib.compareInt x y)) ∧ w' = W := fun x y W => Tryz.cmp_Compare_int x y W
theorem compare_tx (x y : Tx) (w : World) (hg : SysAt w) : Calls Tryz.prog 175 #[encStr x, encStr y] w fun e w' => e = .returned (.int .i64 (cf x y)) ∧ w' = w := by
  have := compare_any ⟨x.toArray⟩ ⟨y.toArray⟩ w hg compare_cI
  simpa using this
theorem sort_txs (base : Nat) (v : Value) (l : List Tx) (w : World) (h : Row w base v l) (hB : base ≤ w.heap.size) (hl : l.length ≤ 1000) (hg : SysAt w) (hgb : 4 < base) :
    Calls Tryz.prog 174 #[v, .func (.func 175) #[] #[]] w fun e w' => e = .returned (.tuple #[]) ∧ Row w' base v (sorted l) ∧ Below base w w' := by
  by_cases hv : v = .slice none 0 0
  · subst hv
    obtain rfl := h.nil_of
    refine (Tryz.slices_SortFunc_none (α := Tx) none 0 _ w).mono ?_
    rintro e w' ⟨rfl, rfl⟩
    exact ⟨rfl, by rw [show sorted [] = [] by simp [sorted]]; exact World.ownsRow_nil _ _ _ _, Below.refl _ _⟩
  · obtain ⟨g, cap, rfl, hgb2, hlt, hc, hm, _, hH⟩ := Lib.holds_of_ownsRow h hv
    have eg : ∀ args w, (callFunc 175 args).run Tryz.prog w = .ok (.enter 175 args) w := enters_of Tryz.func175 (by kernel_rfl) rfl
    have hcmp : CmpReads Tryz.prog 175 #[] encStr cf g 0 l.toArray.size w := fun m os dk _ x y => by
      have := compare_tx x y (sortWorld encStr w g 0 m dk os) (hg.below (below_sortWorld encStr base w g m dk os hB hgb2) hgb)
      refine this.mono ?_
      rintro e w' ⟨rfl, rfl⟩
      exact ⟨rfl, 0, rfl⟩
    have hS := Tryz.slices_SortFunc_total encStr (fun _ => rfl) cf (by rw [ltOf_cf]; exact swo) 175 #[] g 0 cap l.toArray w eg hcmp.lays hH hlt (by simp; omega) (by rw [ltOf_cf]; exact tot)
    rw [ltOf_cf] at hS
    have hsz : l.toArray.size = l.length := by simp
    rw [hsz] at hS
    refine hS.mono ?_
    rintro e w' ⟨rfl, n, os, rfl⟩
    have h1 := Lib.ownsRow_putRow (q := n) (ys := sorted l) (k := l.length) h (sorted_length l) (Nat.le_refl _)
    rw [List.take_of_length_le (by rw [sorted_length]; exact Nat.le_refl _)] at h1
    refine ⟨rfl, ?_, below_sortWorld encStr base w g n _ os hB hgb2⟩
    unfold Row
    rw [sorted_length]
    exact row_grow3 h1 os
theorem compact_txs (base : Nat) (v : Value) (l : List Tx) (w : World) (h : Row w base v l) (hl : l.length ≤ 1000) :
    Calls Tryz.prog 176 #[v] w fun e w' => (∃ v', e = .returned v' ∧ Row w' base v' (Lib.compact l)) ∧ Below base w w' := by
  by_cases hv : v = .slice none 0 0
  · subst hv
    obtain rfl := h.nil_of
    refine (Tryz.slices_Compact_string_empty none 0 w).mono ?_
    rintro e w' ⟨rfl, rfl⟩
    exact ⟨⟨_, rfl, World.ownsRow_nil _ _ _ _⟩, Below.refl _ _⟩
  · obtain ⟨g, cap, rfl, hg, hlt, hc, hm, _, hH⟩ := Lib.holds_of_ownsRow h hv
    refine (Tryz.slices_Compact_string g 0 cap l w hH (by omega) hc).mono ?_
    rintro e w' ⟨rfl, q, rfl⟩
    have hcl := Lib.compact_length_le l
    have h1 := Lib.ownsRow_putRow (q := q) (ys := Lib.compact l ++ List.replicate (l.length - (Lib.compact l).length) []) (k := (Lib.compact l).length) h (by simp; omega) hcl
    rw [List.take_left] at h1
    exact ⟨⟨_, rfl, h1⟩, Lib.below_putRow (Below.refl _ _) hg⟩
set_option maxHeartbeats 1000000 in
theorem order_row (base : Nat) (v : Value) (l : List Tx) (w : World) (h : Row w base v l) (hB : base ≤ w.heap.size) (hl : l.length ≤ 1000) (hg : SysAt w) (hgb : 4 < base) :
    Calls Tryz.prog 145 #[v] w fun e w' => (∃ v', e = .returned v' ∧ Row w' base v' (order l)) ∧ Below base w w' := by
  have cS := sort_txs base v l w h hB hl hg hgb
  clear h hg
  go_enter Tryz.func145, Tryz.ntmps145
  go_wp2_with fail
  refine cS.mono ?_
  rintro e w1 ⟨rfl, h1, hb1⟩
  have cC := compact_txs base v (sorted l) w1 h1 (by rw [sorted_length]; exact hl)
  clear cS h1
  go_wp2_with fail
  refine cC.mono ?_
  rintro e w2 ⟨⟨v', rfl, h2⟩, hb2⟩
  go_wp2_with fail
  go_ret
  exact ⟨⟨v', rfl, h2⟩, hb1.trans hb2⟩
end Go.Proofs.YtfdlopimncodcaaGreatDoor
-- PRUNED
/-
  slices.BinarySearchFunc with flags.compare, in texts in order.
-/
namespace Go.Proofs.YtfdlopimncodcaaGreatDoor
open Go.RowKit Go.Proofs.Aid Go.Proofs.Fl Go.Sort Go.Lib

theorem Sl.of_row {w : World} {base : Nat} {v : Value} {l : List Tx} (h : Row w base v l) : Sl w v l := by
  rcases h.2 with ⟨h1, h2⟩ | ⟨g, cap, cur, hv, _, hh, hcp, _, hsz, htk⟩
  · exact ⟨none, 0, by rw [h1, h2], ⟨fun _ => rfl, by rw [h2]; exact Nat.le_refl _⟩, Or.inl (List.eq_nil_of_length_eq_zero h2)⟩
  · refine ⟨_, cap, hv, ⟨fun e => (by cases e), hcp⟩, Or.inr ⟨g, 0, rfl, fun j z hj => ?_⟩⟩
    have hlt : j < l.length := (List.getElem?_eq_some_iff.1 hj).1
    have h1 : (l.map encStr)[j]? = some (encStr z) := by simp [hj]
    rw [← htk, List.getElem?_take_of_lt (by omega)] at h1
    simp only [World.cell?, hh, Nat.zero_add]
    simpa using h1
theorem SysAt.drew {w : World} (h : SysAt w) (n : Nat) : SysAt (w.drewN n) := h
theorem cf_lt (a b : Tx) : cf a b < 0 ↔ flt a b = true := by rw [← cf_neg]; simp [ltc]
/-- Where a text would stand. -/
theorem place_found {l : List Tx} {x : Tx} {i : Nat} (ho : Ord l) (h1 : ∀ t (h : t < l.length), t < i → cf l[t] x < 0) (hi : i < l.length) (h2 : ¬ cf l[i] x < 0) : l.contains x = decide (cf l[i] x = 0) := by
  rw [Bool.eq_iff_iff, decide_eq_true_eq, cf_zero, List.contains_iff_mem]
  constructor
  · intro hm
    obtain ⟨p, hp, rfl⟩ := List.getElem_of_mem hm
    rcases Nat.lt_trichotomy p i with h | h | h
    · have := h1 p hp h
      rw [cf_lt, flt_irrefl] at this; cases this
    · subst h; rfl
    · have := List.pairwise_iff_getElem.1 ho i p hi hp h
      exact absurd ((cf_lt _ _).2 this) h2
  · intro h; rw [← h]; exact List.getElem_mem _
theorem place_none {l : List Tx} {x : Tx} (h1 : ∀ t (h : t < l.length), cf l[t] x < 0) : l.contains x = false := by
  rw [Bool.eq_false_iff]
  intro hm
  obtain ⟨p, hp, rfl⟩ := List.getElem_of_mem (List.contains_iff_mem.1 hm)
  have := h1 p hp
  rw [cf_lt, flt_irrefl] at this; cases this
theorem below_all {l : List Tx} {x : Tx} {m : Nat} (ho : Ord l) (hm : m < l.length) (h : cf l[m] x < 0) : ∀ t (h : t < l.length), t < m + 1 → cf l[t] x < 0 := by
  intro t ht htm
  rcases Nat.lt_or_eq_of_le (Nat.le_of_lt_succ htm) with h1 | rfl
  · rw [cf_lt] at h ⊢
    exact flt_trans (List.pairwise_iff_getElem.1 ho t m ht hm h1) h
  · exact h
end Go.Proofs.YtfdlopimncodcaaGreatDoor
-- PRUNED
/-
  Rows of texts: copied, appended, put behind one another; flags.Not's closure; flags.Not.
-/
namespace Go.Proofs.YtfdlopimncodcaaGreatDoor
open Go.RowKit Go.Proofs.Aid Go.Proofs.Fl Go.Sort Go.Lib

def bas (l : List Tx) : List ByteArray := l.map fun t => ⟨t.toArray⟩
theorem bas_length (l : List Tx) : (bas l).length = l.length := by simp [bas]
theorem bas_map (l : List Tx) : (bas l).map Value.string = l.map encStr := by simp [bas, Function.comp_def]
theorem bas_inj {a b : List Tx} (h : bas a = bas b) : a = b := by
  have := congrArg (List.map fun s : ByteArray => s.data.toList) h
  simpa [bas, Function.comp_def] using this
theorem cells_bas {w : World} {b o : Nat} {l : List Tx} (h : ∀ (j : Nat) t, l[j]? = some t → w.cell? ⟨b, o + j, none⟩ = some (encStr t)) : ∀ j, j < (bas l).length → w.cell? ⟨b, o + j, none⟩ = some (.string ((bas l).getD j ByteArray.empty)) := by
  intro j hj
  rw [bas_length] at hj
  rw [h j _ (List.getElem?_eq_getElem hj)]
  simp [bas, List.getD_eq_getElem?_getD, hj]
theorem clone_txs (v : Value) (l : List Tx) (w : World) (h : Sl w v l) (hl : l.length ≤ 1000) :
    Calls Tryz.prog 51 #[v] w fun e w' => (∃ v', e = .returned v' ∧ Row w' w.heap.size v' l) ∧ Below w.heap.size w w' := by
  obtain ⟨a, c, rfl, h0, ha⟩ := h
  cases a with
  | none =>
    have hn : l = [] := by
      rcases ha with h | ⟨b, o, h, _⟩
      · exact h
      · cases h
    subst hn
    refine (Tryz.slices_Clone_string_nil _ c w).mono ?_
    rintro e w' ⟨rfl, rfl⟩
    exact ⟨⟨_, rfl, World.ownsRow_nil _ _ _ _⟩, Below.refl _ _⟩
  | some ad =>
    rcases ha with rfl | ⟨b, o, h1, hat⟩
    · refine (Tryz.slices_Clone_string_zero ad c w).mono ?_
      rintro e w' ⟨v', rfl, hrow, _, hb⟩
      exact ⟨⟨v', rfl, hrow⟩, hb⟩
    · cases h1
      refine (Tryz.slices_Clone_string b o l.length c (bas l) w (by rw [bas_length]; exact Nat.le_refl _) (by omega) (cells_bas hat)).mono ?_
      rintro e w' ⟨v', rfl, hrow, _, hb⟩
      rw [List.take_of_length_le (by rw [bas_length]; exact Nat.le_refl _), bas_map] at hrow
      exact ⟨⟨v', rfl, hrow⟩, hb⟩
theorem Tryz.infoStr : (Tryz.prog.info? 9).map (fun i => (i.zero, i.size, i.bytes)) = some (some (.string ⟨#[]⟩), 1, 16) := by kernel_rfl
theorem enc_at {w : World} {b o : Nat} {l : List Tx} (h : ∀ (j : Nat) t, l[j]? = some t → w.cell? ⟨b, o + j, none⟩ = some (encStr t)) : ∀ (j : Nat) (u : Value), (l.map encStr)[j]? = some u → w.cell? ((⟨b, o, none⟩ : Addr).add j) = some u := by
  intro j u hj
  rw [Addr.add_lit]
  rw [List.getElem?_map, Option.map_eq_some_iff] at hj
  obtain ⟨t, ht, rfl⟩ := hj
  exact h j t ht
theorem wpList_append_sl {ops : Array Oper} {rest : List Oper} {o : Oper} {a : Act} {Q : Exit → Act → World → Prop} {w : World} (hgd : o.guard = none) (s x : Operand)
    (ho : o.op = .call { callee := .builtin .append, args := #[s, x], argTypes := #[32, 32] })
    (base : Nat) (v : Value) (n : Nat) (xs : List Value) (hs : a.eval s = v) (hown : w.ownsRow base 9 1 v n xs)
    (vx : Value) (l : List Tx) (hx : a.eval x = vx) (hsl : Sl w vx l) (hlen : n + l.length ≤ 1000) (hbase : base ≤ w.heap.size)
    (h : ∀ v' w', w'.ownsRow base 9 1 v' (n + l.length) (xs ++ l.map encStr) → w.grownBy w' v.ownBlock → wpList Tryz.prog ops Q rest (a.put o.dst v') w') : wpList Tryz.prog ops Q (o :: rest) a w := by
  obtain ⟨i0, hi, hz0, hz1, hz2⟩ := info_parts Tryz.infoStr
  obtain ⟨ad, c, rfl, hnil, hc⟩ := hsl
  cases ad with
  | none =>
    obtain rfl := hnil.1 rfl
    have hl : l = [] := by
      rcases hc with h1 | ⟨b, o', h1, _⟩
      · exact h1
      · cases h1
    subst hl
    refine wpList_append_own_none hgd s x 32 ho base 9 i0 1 Tryz.underlying32 hi v n xs hs hown hx ?_
    refine h v w (by simpa using hown) ⟨rfl, rfl, rfl, Nat.le_refl _, fun _ _ _ => rfl⟩
  | some ad =>
    have hnews : ∀ (j : Nat) (u : Value), (l.map encStr)[j]? = some u → w.cell? (ad.add j) = some u := by
      rcases hc with rfl | ⟨b, o', h1, h2⟩
      · intro j u hj; simp at hj
      · cases h1
        exact enc_at h2
    refine wpList_append_own w hgd s x 32 ho base 9 i0 (.string ⟨#[]⟩) 1 16 Tryz.underlying32 hi hz0 hz1 hz2 rfl (by decide) v n xs hs hown ad l.length c (l.map encStr) hx (by simp) hnews (by intro u hu; obtain ⟨t, _, rfl⟩ := List.mem_map.1 hu; rfl) (by unfold maxLen; omega) (by omega) hbase ?_
    intro v' w' h1 h2 _
    exact h v' w' h1 h2
end Go.Proofs.YtfdlopimncodcaaGreatDoor
-- PRUNED
/-
  flags.Not: what is left of texts without others.
-/
namespace Go.Proofs.YtfdlopimncodcaaGreatDoor
open Go.RowKit Go.Proofs.Aid Go.Proofs.Fl Go.Sort Go.Lib

theorem index_nil (f : Value) (w : World) : Calls Tryz.prog 122 #[.slice none 0 0, f] w fun e w' => e = .returned (.int .i64 (-1)) ∧ w' = w := by
  go_enter Tryz.func122, Tryz.ntmps122
  go_wp2
  refine wp_loop_rounds 1 ?_
  rw [rounds_succ]
  go_wp2
  go_ret
  exact ⟨rfl, rfl⟩
theorem delete_nil (f : Value) (w : World) : Calls Tryz.prog 78 #[.slice none 0 0, f] w fun e w' => e = .returned (.slice none 0 0) ∧ w' = w := by
  go_enter Tryz.func78, Tryz.ntmps78
  go_wp2_with (refine (index_nil _ _).mono ?_; rintro e w' ⟨rfl, rfl⟩)
  go_ret
  exact ⟨rfl, rfl⟩
theorem Tryz.zeroStr (w : World) : (zeroValue 9).run Tryz.prog w = .ok (encStr []) w := by kernel_rfl
end Go.Proofs.YtfdlopimncodcaaGreatDoor
