/-
  flags.inOrder at a row of texts that the call owns; the search in such a row.
  slices.BinarySearchFunc with flags.compare, in texts in order.
-/
import Derived.Test.YtgpcnacpefficaaGreatDoorMFlagsOrder
import Derived.Test.YtgpcnacpefficaaGreatDoorFlagsShelf
import Derived.Test.YtgpcnacpefficaaGreatDoorBpBoxSpec
import Derived.Lib.OwnBridge
import Derived.Lib.RowBridge
import Derived.Lib.AppendIntMem
import Derived.Test.YtgpcnacpefficaaGreatDoorBpFlagsSl
namespace Go.Proofs.YtgpcnacpefficaaGreatDoor
open Go.RowKit Go.Proofs.Aid Go.Proofs.Fl Go.Sort Go.Lib

/-- A row of texts that the call owns. -/
def Row (w : World) (base : Nat) (v : Value) (l : List Tx) : Prop := w.ownsRow base 9 1 v l.length (l.map encStr)
theorem below_grow3 {B : Nat} {w0 w : World} (h : Below B w0 w) (hB : B ≤ w.heap.size) (os : Array Obj) : Below B w0 (grow w os) :=
  h.trans (Lib.below_grow B w hB 0 os)
theorem row_grow3 {w : World} {base e size n : Nat} {v : Value} {xs : List Value} (h : w.ownsRow base e size v n xs) (os : Array Obj) : (grow w os).ownsRow base e size v n xs :=
  row_below (B := w.heap.size) (Lib.below_grow w.heap.size w (Nat.le_refl _) 0 os) (Nat.le_refl _) h
theorem Row.nil_of {w : World} {base : Nat} {l : List Tx} (h : Row w base (.slice none 0 0) l) : l = [] := by
  rcases h.2 with ⟨_, h2⟩ | ⟨g, cap, cur, h2, _⟩
  · exact List.eq_nil_of_length_eq_zero h2
  · cases h2
theorem Row.below {w w' : World} {base B : Nat} {v : Value} {l : List Tx} (h : Row w base v l) (hb : Below B w w') (hB : w.heap.size ≤ B) : Row w' base v l := row_below hb hB h
theorem size_sortWorld {α : Type} [Inhabited α] (enc : α → Value) (w : World) (blk off m : Nat) (dk : Array α) (os : Array Obj) : w.heap.size ≤ (sortWorld enc w blk off m dk os).heap.size := by
  simp [sortWorld, grow, putRow, mapBlock, Sort.ahead]
theorem below_sortWorld {α : Type} [Inhabited α] (enc : α → Value) (B : Nat) (w : World) (blk m : Nat) (dk : Array α) (os : Array Obj) (hB : B ≤ w.heap.size) (hb : B ≤ blk) : Below B w (sortWorld enc w blk 0 m dk os) :=
  below_grow3 (Lib.below_putRow (Below.refl _ _) hb) (by simp [putRow, mapBlock, Sort.ahead]; exact hB) os
theorem ltOf_cf : ltOf cf = ltc := rfl
theorem compare_cI : ∀ x y W, Calls Tryz.prog 39 #[.int .i64 x, .int .i64 y] W fun e w' => e = .returned (.int .i64 (Lib.compareInt x y)) ∧ w' = W := fun x y W => Tryz.cmp_Compare_int x y W
theorem compare_tx (x y : Tx) (w : World) (hg : SysAt w) : Calls Tryz.prog 77 #[encStr x, encStr y] w fun e w' => e = .returned (.int .i64 (cf x y)) ∧ w' = w := by
  have := compare_any ⟨x.toArray⟩ ⟨y.toArray⟩ w hg compare_cI
  simpa using this
theorem sort_txs (base : Nat) (v : Value) (l : List Tx) (w : World) (h : Row w base v l) (hB : base ≤ w.heap.size) (hl : l.length ≤ 1000) (hg : SysAt w) (hgb : 0 < base) :
    Calls Tryz.prog 76 #[v, .func (.func 77) #[] #[]] w fun e w' => e = .returned (.tuple #[]) ∧ Row w' base v (sorted l) ∧ Below base w w' := by
  by_cases hv : v = .slice none 0 0
  · subst hv
    obtain rfl := h.nil_of
    refine (Tryz.slices_SortFunc_none (α := Tx) none 0 _ w).mono ?_
    rintro e w' ⟨rfl, rfl⟩
    exact ⟨rfl, by rw [show sorted [] = [] by simp [sorted]]; exact World.ownsRow_nil _ _ _ _, Below.refl _ _⟩
  · obtain ⟨g, cap, rfl, hgb2, hlt, hc, hm, _, hH⟩ := Lib.holds_of_ownsRow h hv
    have eg : ∀ args w, (callFunc 77 args).run Tryz.prog w = .ok (.enter 77 args) w := enters_of Tryz.func77 (by kernel_rfl) rfl
    have hcmp : CmpReads Tryz.prog 77 #[] encStr cf g 0 l.toArray.size w := fun m os dk _ x y => by
      have := compare_tx x y (sortWorld encStr w g 0 m dk os) (hg.below (below_sortWorld encStr base w g m dk os hB hgb2) hgb)
      refine this.mono ?_
      rintro e w' ⟨rfl, rfl⟩
      exact ⟨rfl, 0, rfl⟩
    have hS := Tryz.slices_SortFunc_total encStr (fun _ => rfl) cf (by rw [ltOf_cf]; exact swo) 77 #[] g 0 cap l.toArray w eg hcmp.lays hH hlt (by simp; omega) (by rw [ltOf_cf]; exact tot)
    rw [ltOf_cf] at hS
    have hsz : l.toArray.size = l.length := by simp
    rw [hsz] at hS
    refine hS.mono ?_
    rintro e w' ⟨rfl, n, os, rfl⟩
    have h1 := Lib.ownsRow_putRow (q := n) (ys := sorted l) (k := l.length) h (sorted_length l) (Nat.le_refl _)
    rw [List.take_of_length_le (by rw [sorted_length]; exact Nat.le_refl _)] at h1
    refine ⟨rfl, ?_, below_sortWorld encStr base w g n _ os hB hgb2⟩
    unfold Row
    rw [sorted_length]
    exact row_grow3 h1 os
theorem compact_txs (base : Nat) (v : Value) (l : List Tx) (w : World) (h : Row w base v l) (hl : l.length ≤ 1000) :
    Calls Tryz.prog 78 #[v] w fun e w' => (∃ v', e = .returned v' ∧ Row w' base v' (Lib.compact l)) ∧ Below base w w' := by
  by_cases hv : v = .slice none 0 0
  · subst hv
    obtain rfl := h.nil_of
    refine (Tryz.slices_Compact_string_empty none 0 w).mono ?_
    rintro e w' ⟨rfl, rfl⟩
    exact ⟨⟨_, rfl, World.ownsRow_nil _ _ _ _⟩, Below.refl _ _⟩
  · obtain ⟨g, cap, rfl, hg, hlt, hc, hm, _, hH⟩ := Lib.holds_of_ownsRow h hv
    refine (Tryz.slices_Compact_string g 0 cap l w hH (by omega) hc).mono ?_
    rintro e w' ⟨rfl, q, rfl⟩
    have hcl := Lib.compact_length_le l
    have h1 := Lib.ownsRow_putRow (q := q) (ys := Lib.compact l ++ List.replicate (l.length - (Lib.compact l).length) []) (k := (Lib.compact l).length) h (by simp; omega) hcl
    rw [List.take_left] at h1
    exact ⟨⟨_, rfl, h1⟩, Lib.below_putRow (Below.refl _ _) hg⟩
set_option maxHeartbeats 1000000 in
theorem order_row (base : Nat) (v : Value) (l : List Tx) (w : World) (h : Row w base v l) (hB : base ≤ w.heap.size) (hl : l.length ≤ 1000) (hg : SysAt w) (hgb : 0 < base) :
    Calls Tryz.prog 62 #[v] w fun e w' => (∃ v', e = .returned v' ∧ Row w' base v' (order l)) ∧ Below base w w' := by
  have cS := sort_txs base v l w h hB hl hg hgb
  clear h hg
  go_enter Tryz.func62, Tryz.ntmps62
  go_wp2_with fail
  refine cS.mono ?_
  rintro e w1 ⟨rfl, h1, hb1⟩
  have cC := compact_txs base v (sorted l) w1 h1 (by rw [sorted_length]; exact hl)
  clear cS h1
  go_wp2_with fail
  refine cC.mono ?_
  rintro e w2 ⟨⟨v', rfl, h2⟩, hb2⟩
  go_wp2_with fail
  go_ret
  exact ⟨⟨v', rfl, h2⟩, hb1.trans hb2⟩
end Go.Proofs.YtgpcnacpefficaaGreatDoor
namespace Go.Proofs.YtgpcnacpefficaaGreatDoor
open Go.RowKit Go.Proofs.Aid Go.Proofs.Fl Go.Sort Go.Lib

theorem Sl.of_row {w : World} {base : Nat} {v : Value} {l : List Tx} (h : Row w base v l) : Sl w v l := by
  rcases h.2 with ⟨h1, h2⟩ | ⟨g, cap, cur, hv, _, hh, hcp, _, hsz, htk⟩
  · exact ⟨none, 0, by rw [h1, h2], ⟨fun _ => rfl, by rw [h2]; exact Nat.le_refl _⟩, Or.inl (List.eq_nil_of_length_eq_zero h2)⟩
  · refine ⟨_, cap, hv, ⟨fun e => (by cases e), hcp⟩, Or.inr ⟨g, 0, rfl, fun j z hj => ?_⟩⟩
    have hlt : j < l.length := (List.getElem?_eq_some_iff.1 hj).1
    have h1 : (l.map encStr)[j]? = some (encStr z) := by simp [hj]
    rw [← htk, List.getElem?_take_of_lt (by omega)] at h1
    simp only [World.cell?, hh, Nat.zero_add]
    simpa using h1
theorem SysAt.drew {w : World} (h : SysAt w) (n : Nat) : SysAt (w.drewN n) := h
theorem cf_lt (a b : Tx) : cf a b < 0 ↔ flt a b = true := by rw [← cf_neg]; simp [ltc]
/-- Where a text would stand. -/
theorem place_found {l : List Tx} {x : Tx} {i : Nat} (ho : Ord l) (h1 : ∀ t (h : t < l.length), t < i → cf l[t] x < 0) (hi : i < l.length) (h2 : ¬ cf l[i] x < 0) : l.contains x = decide (cf l[i] x = 0) := by
  rw [Bool.eq_iff_iff, decide_eq_true_eq, cf_zero, List.contains_iff_mem]
  constructor
  · intro hm
    obtain ⟨p, hp, rfl⟩ := List.getElem_of_mem hm
    rcases Nat.lt_trichotomy p i with h | h | h
    · have := h1 p hp h
      rw [cf_lt, flt_irrefl] at this; cases this
    · subst h; rfl
    · have := List.pairwise_iff_getElem.1 ho i p hi hp h
      exact absurd ((cf_lt _ _).2 this) h2
  · intro h; rw [← h]; exact List.getElem_mem _
theorem place_none {l : List Tx} {x : Tx} (h1 : ∀ t (h : t < l.length), cf l[t] x < 0) : l.contains x = false := by
  rw [Bool.eq_false_iff]
  intro hm
  obtain ⟨p, hp, rfl⟩ := List.getElem_of_mem (List.contains_iff_mem.1 hm)
  have := h1 p hp
  rw [cf_lt, flt_irrefl] at this; cases this
theorem below_all {l : List Tx} {x : Tx} {m : Nat} (ho : Ord l) (hm : m < l.length) (h : cf l[m] x < 0) : ∀ t (h : t < l.length), t < m + 1 → cf l[t] x < 0 := by
  intro t ht htm
  rcases Nat.lt_or_eq_of_le (Nat.le_of_lt_succ htm) with h1 | rfl
  · rw [cf_lt] at h ⊢
    exact flt_trans (List.pairwise_iff_getElem.1 ho t m ht hm h1) h
  · exact h
set_option maxHeartbeats 1000000 in
set_option maxRecDepth 100000 in
theorem search_txs (v : Value) (l : List Tx) (x : Tx) (w : World) (h : Sl w v l) (ho : Ord l) (hg : SysAt w) (hl : l.length ≤ 1000) :
    Calls Tryz.prog 84 #[v, encStr x, .func (.func 77) #[] #[]] w fun e w' => (∃ i, e = .returned (.tuple #[i, .bool (l.contains x)])) ∧ ∃ q, w' = w.drewN q := by
  obtain ⟨a, c, rfl, _, ha⟩ := h
  obtain ⟨n, hn⟩ : ∃ n, l.length = n := ⟨_, rfl⟩
  rw [hn] at hl ⊢
  have eg : ∀ args w, (callFunc 77 args).run Tryz.prog w = .ok (.enter 77 args) w := enters_of Tryz.func77 (by kernel_rfl) rfl
  have HO : Hid (Ord l) := ho
  have cC : ∀ (y : Tx) q, Calls Tryz.prog 77 #[.string ⟨y.toArray⟩, .string ⟨x.toArray⟩] (w.drewN q) fun e w' => e = .returned (.int .i64 (cf y x)) ∧ w' = w.drewN q := fun y q => compare_tx y x _ (hg.drew q)
  obtain ⟨X, hX⟩ : ∃ X : ByteArray, ⟨x.toArray⟩ = X := ⟨_, rfl⟩
  show Calls Tryz.prog _ #[_, .string ⟨x.toArray⟩, _] w _
  rw [hX] at cC ⊢
  obtain ⟨C, hC⟩ : ∃ C, l.contains x = C := ⟨_, rfl⟩
  rw [hC]
  have HC : Hid (l.contains x = C) := hC
  clear ho hg hX hC
  go_enter Tryz.func84, Tryz.ntmps84
  go_wp2
  go_loopw [9, 10] (fun si sj wr => ∃ i j q : Nat, si = .int .i64 (i : Int) ∧ sj = .int .i64 (j : Int) ∧ i ≤ j ∧ j ≤ n ∧ Hid (∀ t (h : t < l.length), t < i → cf l[t] x < 0) ∧ Hid (∀ (h : j < l.length), 0 ≤ cf l[j] x) ∧ wr = w.drewN q) (fun si sj _ => (intOf sj).toNat - (intOf si).toNat)
  case atStart => exact ⟨0, n, 0, rfl, rfl, Nat.zero_le _, Nat.le_refl _, fun t _ h => absurd h (by omega), fun h => absurd h (by omega), rfl⟩
  case round =>
    obtain ⟨i, j, q, rfl, rfl, hij, hjn, H1, H2, rfl⟩ := hrel
    by_cases hlt : i < j
    · rcases ha with rfl | ⟨b, o, rfl, hat⟩
      · simp at hn; omega
      have hml : (i + j) / 2 < l.length := by omega
      have cm := hat ((i + j) / 2) _ (List.getElem?_eq_getElem hml)
      obtain ⟨y, hy⟩ : ∃ y, l[(i + j) / 2] = y := ⟨_, rfl⟩
      have HY : Hid (l[(i + j) / 2] = y) := hy
      rw [hy] at cm
      have cY := cC y
      obtain ⟨Y, hY⟩ : ∃ Y : ByteArray, ⟨y.toArray⟩ = Y := ⟨_, rfl⟩
      have cm2 : w.cell? ⟨b, o + (i + j) / 2, none⟩ = some (.string Y) := by rw [← hY]; exact cm
      rw [hY] at cY
      obtain ⟨z, hz⟩ : ∃ z, cf y x = z := ⟨_, rfl⟩
      have HZ : Hid (cf y x = z) := hz
      rw [hz] at cY
      clear hat hy hY hz cm cC
      by_cases hz0 : z < 0
      · go_wp2_with (refine (cY _).mono ?_; rintro e w' ⟨rfl, rfl⟩)
        go_roundw
        case rel => exact ⟨(i + j) / 2 + 1, j, _, by rw [show ((i : Int) + (j : Int)) / 2 + 1 = (((i + j) / 2 + 1 : Nat) : Int) by omega], rfl, by omega, hjn, fun t ht hti => below_all HO.out hml (by rw [HY.out, HZ.out]; exact hz0) t ht hti, H2, rfl⟩
        case measure => simp [intOf]; omega
      · go_wp2_with (refine (cY _).mono ?_; rintro e w' ⟨rfl, rfl⟩)
        go_roundw
        case rel => exact ⟨i, (i + j) / 2, _, rfl, by rw [show ((i : Int) + (j : Int)) / 2 = (((i + j) / 2 : Nat) : Int) by omega], by omega, by omega, H1, fun h => by rw [HY.out, HZ.out]; omega, rfl⟩
        case measure => simp [intOf]; omega
    · obtain rfl : j = i := by omega
      by_cases hin : j < n
      · rcases ha with rfl | ⟨b, o, rfl, hat⟩
        · simp at hn; omega
        have hml : j < l.length := by omega
        have cm := hat j _ (List.getElem?_eq_getElem hml)
        have HF : Hid (l.contains x = decide (cf l[j] x = 0)) := place_found HO.out H1.out hml (by have := H2.out hml; omega)
        obtain ⟨y, hy⟩ : ∃ y, l[j] = y := ⟨_, rfl⟩
        have HY : Hid (l[j] = y) := hy
        rw [hy] at cm
        have cY := cC y
        obtain ⟨Y, hY⟩ : ∃ Y : ByteArray, ⟨y.toArray⟩ = Y := ⟨_, rfl⟩
        have cm2 : w.cell? ⟨b, o + j, none⟩ = some (.string Y) := by rw [← hY]; exact cm
        rw [hY] at cY
        obtain ⟨z, hz⟩ : ∃ z, cf y x = z := ⟨_, rfl⟩
        have HZ : Hid (cf y x = z) := hz
        rw [hz] at cY
        clear hat hy hY hz cm cC
        by_cases hz0 : z = 0
        · subst hz0
          go_wp2_with (refine (cY _).mono ?_; rintro e w' ⟨rfl, rfl⟩)
          go_ret2
          exact ⟨⟨_, by rw [← HC.out, HF.out, HY.out, HZ.out]; rfl⟩, _, rfl⟩
        · have hzb : (z == 0) = false := by simpa using hz0
          go_wp2_with (refine (cY _).mono ?_; rintro e w' ⟨rfl, rfl⟩)
          go_ret2
          exact ⟨⟨_, by rw [← HC.out, HF.out, HY.out, HZ.out, decide_eq_false hz0]; rfl⟩, _, rfl⟩
      · have HF : Hid (l.contains x = false) := place_none fun t ht => H1.out t ht (by omega)
        have hin' : ¬ (j : Int) < (n : Int) := by omega
        clear ha cC
        go_wp2
        go_ret2
        exact ⟨⟨_, by rw [← HC.out, HF.out]; rfl⟩, _, rfl⟩
end Go.Proofs.YtgpcnacpefficaaGreatDoor
