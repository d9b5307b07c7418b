/-
  flags.inOrder at a row of texts that the call owns; the search in such a row.
-/
import Derived.Test.YtkneeoaeoiaefaaDoorFlagsOrder
import Derived.Test.YtkneeoaeoiaefaaDoorFlagsShelf
import Derived.Test.YtkneeoaeoiaefaaDoorSeqBase
import Derived.Lib.OwnBridge
import Derived.Lib.RowBridge
import Derived.Lib.AppendIntMem
namespace Go.Proofs.YtkneeoaeoiaefaaDoor
open Go.RowKit Go.Proofs.Aid Go.Proofs.Fl Go.Sort Go.Lib

/-- A row of texts that the call owns. -/
def Row (w : World) (base : Nat) (v : Value) (l : List Tx) : Prop := w.ownsRow base 9 1 v l.length (l.map encStr)
theorem below_grow3 {B : Nat} {w0 w : World} (h : Below B w0 w) (hB : B ≤ w.heap.size) (os : Array Obj) : Below B w0 (grow w os) :=
  h.trans (Lib.below_grow B w hB 0 os)
theorem row_grow3 {w : World} {base e size n : Nat} {v : Value} {xs : List Value} (h : w.ownsRow base e size v n xs) (os : Array Obj) : (grow w os).ownsRow base e size v n xs :=
  row_below (B := w.heap.size) (Lib.below_grow w.heap.size w (Nat.le_refl _) 0 os) (Nat.le_refl _) h
theorem Row.nil_of {w : World} {base : Nat} {l : List Tx} (h : Row w base (.slice none 0 0) l) : l = [] := by
  rcases h.2 with ⟨_, h2⟩ | ⟨g, cap, cur, h2, _⟩
  · exact List.eq_nil_of_length_eq_zero h2
  · cases h2
theorem Row.below {w w' : World} {base B : Nat} {v : Value} {l : List Tx} (h : Row w base v l) (hb : Below B w w') (hB : w.heap.size ≤ B) : Row w' base v l := row_below hb hB h
theorem size_sortWorld {α : Type} [Inhabited α] (enc : α → Value) (w : World) (blk off m : Nat) (dk : Array α) (os : Array Obj) : w.heap.size ≤ (sortWorld enc w blk off m dk os).heap.size := by
  simp [sortWorld, grow, putRow, mapBlock, Sort.ahead]
theorem below_sortWorld {α : Type} [Inhabited α] (enc : α → Value) (B : Nat) (w : World) (blk m : Nat) (dk : Array α) (os : Array Obj) (hB : B ≤ w.heap.size) (hb : B ≤ blk) : Below B w (sortWorld enc w blk 0 m dk os) :=
  below_grow3 (Lib.below_putRow (Below.refl _ _) hb) (by simp [putRow, mapBlock, Sort.ahead]; exact hB) os
theorem ltOf_cf : ltOf cf = ltc := rfl
theorem compare_cI : ∀ x y W, Calls Tryd.prog 25 #[.int .i64 x, .int .i64 y] W fun e w' => e = .returned (.int .i64 (Lib.compareInt x y)) ∧ w' = W := fun x y W => Tryd.cmp_Compare_int x y W
theorem compare_tx (x y : Tx) (w : World) (hg : SysAt w) : Calls Tryd.prog 53 #[encStr x, encStr y] w fun e w' => e = .returned (.int .i64 (cf x y)) ∧ w' = w := by
  have := compare_any ⟨x.toArray⟩ ⟨y.toArray⟩ w hg compare_cI
  simpa using this
theorem sort_txs (base : Nat) (v : Value) (l : List Tx) (w : World) (h : Row w base v l) (hB : base ≤ w.heap.size) (hl : l.length ≤ 1000) (hg : SysAt w) (hgb : 0 < base) :
    Calls Tryd.prog 52 #[v, .func (.func 53) #[] #[]] w fun e w' => e = .returned (.tuple #[]) ∧ Row w' base v (sorted l) ∧ Below base w w' := by
  by_cases hv : v = .slice none 0 0
  · subst hv
    obtain rfl := h.nil_of
    refine (Tryd.slices_SortFunc_none (α := Tx) none 0 _ w).mono ?_
    rintro e w' ⟨rfl, rfl⟩
    exact ⟨rfl, by rw [show sorted [] = [] by simp [sorted]]; exact World.ownsRow_nil _ _ _ _, Below.refl _ _⟩
  · obtain ⟨g, cap, rfl, hgb2, hlt, hc, hm, _, hH⟩ := Lib.holds_of_ownsRow h hv
    have eg : ∀ args w, (callFunc 53 args).run Tryd.prog w = .ok (.enter 53 args) w := enters_of Tryd.func53 (by kernel_rfl) rfl
    have hcmp : CmpReads Tryd.prog 53 #[] encStr cf g 0 l.toArray.size w := fun m os dk _ x y => by
      have := compare_tx x y (sortWorld encStr w g 0 m dk os) (hg.below (below_sortWorld encStr base w g m dk os hB hgb2) hgb)
      refine this.mono ?_
      rintro e w' ⟨rfl, rfl⟩
      exact ⟨rfl, 0, rfl⟩
    have hS := Tryd.slices_SortFunc_total encStr (fun _ => rfl) cf (by rw [ltOf_cf]; exact swo) 53 #[] g 0 cap l.toArray w eg hcmp.lays hH hlt (by simp; omega) (by rw [ltOf_cf]; exact tot)
    rw [ltOf_cf] at hS
    have hsz : l.toArray.size = l.length := by simp
    rw [hsz] at hS
    refine hS.mono ?_
    rintro e w' ⟨rfl, n, os, rfl⟩
    have h1 := Lib.ownsRow_putRow (q := n) (ys := sorted l) (k := l.length) h (sorted_length l) (Nat.le_refl _)
    rw [List.take_of_length_le (by rw [sorted_length]; exact Nat.le_refl _)] at h1
    refine ⟨rfl, ?_, below_sortWorld encStr base w g n _ os hB hgb2⟩
    unfold Row
    rw [sorted_length]
    exact row_grow3 h1 os
theorem compact_txs (base : Nat) (v : Value) (l : List Tx) (w : World) (h : Row w base v l) (hl : l.length ≤ 1000) :
    Calls Tryd.prog 54 #[v] w fun e w' => (∃ v', e = .returned v' ∧ Row w' base v' (Lib.compact l)) ∧ Below base w w' := by
  by_cases hv : v = .slice none 0 0
  · subst hv
    obtain rfl := h.nil_of
    refine (Tryd.slices_Compact_string_empty none 0 w).mono ?_
    rintro e w' ⟨rfl, rfl⟩
    exact ⟨⟨_, rfl, World.ownsRow_nil _ _ _ _⟩, Below.refl _ _⟩
  · obtain ⟨g, cap, rfl, hg, hlt, hc, hm, _, hH⟩ := Lib.holds_of_ownsRow h hv
    refine (Tryd.slices_Compact_string g 0 cap l w hH (by omega) hc).mono ?_
    rintro e w' ⟨rfl, q, rfl⟩
    have hcl := Lib.compact_length_le l
    have h1 := Lib.ownsRow_putRow (q := q) (ys := Lib.compact l ++ List.replicate (l.length - (Lib.compact l).length) []) (k := (Lib.compact l).length) h (by simp; omega) hcl
    rw [List.take_left] at h1
    exact ⟨⟨_, rfl, h1⟩, Lib.below_putRow (Below.refl _ _) hg⟩
set_option maxHeartbeats 1000000 in
theorem order_row (base : Nat) (v : Value) (l : List Tx) (w : World) (h : Row w base v l) (hB : base ≤ w.heap.size) (hl : l.length ≤ 1000) (hg : SysAt w) (hgb : 0 < base) :
    Calls Tryd.prog 42 #[v] w fun e w' => (∃ v', e = .returned v' ∧ Row w' base v' (order l)) ∧ Below base w w' := by
  have cS := sort_txs base v l w h hB hl hg hgb
  clear h hg
  go_enter Tryd.func42, Tryd.ntmps42
  go_wp2_with fail
  refine cS.mono ?_
  rintro e w1 ⟨rfl, h1, hb1⟩
  have cC := compact_txs base v (sorted l) w1 h1 (by rw [sorted_length]; exact hl)
  clear cS h1
  go_wp2_with fail
  refine cC.mono ?_
  rintro e w2 ⟨⟨v', rfl, h2⟩, hb2⟩
  go_wp2_with fail
  go_ret
  exact ⟨⟨v', rfl, h2⟩, hb1.trans hb2⟩
end Go.Proofs.YtkneeoaeoiaefaaDoor
