/-
  slices.Concat of two slices of texts; flags.Or; flags.Has.
-/
import Derived.Test.YtkneeoaeoiaefaaDoorFlagsNot
import Derived.Test.YtkneeoaeoiaefaaDoorFlagsName
import Derived.Test.YtkneeoaeoiaefaaDoorGrowShelf
namespace Go.Proofs.YtkneeoaeoiaefaaDoor
open Go.RowKit Go.Proofs.Aid Go.Proofs.Fl Go.Sort Go.Lib

theorem grow_txs (n : Nat) (w : World) (hn : n ≤ 2000) : Calls Tryd.prog 67 #[.slice none 0 0, .int .i64 (n : Int)] w fun e w' => (∃ v', e = .returned v' ∧ w'.ownsRow w.heap.size 9 1 v' 0 []) ∧ Below w.heap.size w w' := by
  obtain ⟨i0, hi, hz0, hz1, hz2⟩ := info_parts Tryd.infoStr
  by_cases h0 : n = 0
  · subst h0
    refine (Any8.slices_Grow_room Tryd.growL none 0 0 0 w (Nat.le_refl _) (by omega) (by omega) (Nat.le_refl _)).mono ?_
    rintro e w' ⟨rfl, rfl⟩
    exact ⟨⟨_, rfl, World.ownsRow_nil _ _ _ _⟩, Below.refl _ _⟩
  · refine (Any8.slices_Grow_grow Tryd.growL i0 (.string ⟨#[]⟩) hi hz0 (by rw [hz1]; decide) none 0 0 n [] w (Nat.le_refl _) (by omega) (by rw [hz2]; omega) (by omega) (by simp) (fun _ => rfl) (fun a e => by cases e)).mono ?_
    rintro e w' ⟨rfl, rfl⟩
    have g1 := grownCap_ge w (0 + n) 0 9
    have g2 := grownCap_le_maxLen w (0 + n) 0 9 (by unfold maxLen; omega)
    refine ⟨⟨_, rfl, ⟨rfl, Or.inr ⟨w.heap.size, _, _, rfl, Nat.le_refl _, heap_alloc_new w.drew _, Nat.zero_le _, g2, ?_, rfl⟩⟩⟩, (Below.refl _ _).drew.alloc (Nat.le_refl _) _⟩
    have gg : n ≤ grownCap w n 0 (Tryd.growL_ren.t 25) := by
      have : 0 + n ≤ grownCap w (0 + n) 0 (Tryd.growL_ren.t 25) := g1
      simpa using this
    simp [Builtin.zeroCells, Value.cells]
    omega

set_option maxHeartbeats 1000000 in
set_option maxRecDepth 100000 in
theorem concat_txs (va vb : Value) (x y : List Tx) (B : Nat) (w : World) (hc0 : w.cell? ⟨B, 0, none⟩ = some va) (hc1 : w.cell? ⟨B, 1, none⟩ = some vb) (ha : Sl w va x) (hb : Sl w vb y) (hx : x.length ≤ 400) (hy : y.length ≤ 400) :
    Calls Tryd.prog 55 #[.slice (some ⟨B, 0, none⟩) 2 2] w fun e w' => (∃ v', e = .returned v' ∧ Row w' w.heap.size v' (x ++ y)) ∧ Below w.heap.size w w' := by
  have ra : ∀ W, Below w.heap.size w W → Sl W va x := fun W h => ha.below h (Nat.le_refl _)
  have rb : ∀ W, Below w.heap.size w W → Sl W vb y := fun W h => hb.below h (Nat.le_refl _)
  have hBl : B < w.heap.size := World.block_lt_of_cell? _ _ hc0
  obtain ⟨a0, c0, rfl, _, _⟩ := ha
  obtain ⟨a1, c1, rfl, _, _⟩ := hb
  obtain ⟨n0, e0⟩ : ∃ k, x.length = k := ⟨_, rfl⟩
  obtain ⟨n1, e1⟩ : ∃ k, y.length = k := ⟨_, rfl⟩
  rw [e0] at hx hc0 ra
  rw [e1] at hy hc1 rb
  have E0 : Hid (x.length = n0) := e0
  have E1 : Hid (y.length = n1) := e1
  have cG := grow_txs (n0 + n1) w (by omega)
  clear e0 e1
  go_enter Tryd.func55, Tryd.ntmps55
  go_wp2
  go_loop [3, 11] (fun z i => (i = .int .i64 0 ∧ z = .int .i64 0) ∨ (i = .int .i64 1 ∧ z = .int .i64 (n0 : Int)) ∨ (i = .int .i64 2 ∧ z = .int .i64 ((n0 + n1 : Nat) : Int))) (fun _ i => 2 - (intOf i).toNat)
  case atStart => exact Or.inl ⟨rfl, rfl⟩
  case round =>
    rcases hrel with ⟨rfl, rfl⟩ | ⟨rfl, rfl⟩ | ⟨rfl, rfl⟩
    · go_wp2
      go_round
      case rel => exact Or.inr (Or.inl ⟨rfl, by simp⟩)
      case measure => simp [intOf]
    · have hnn : ¬ ((n0 : Int) + (n1 : Int) < 0) := by omega
      go_wp2
      go_round
      case rel => exact Or.inr (Or.inr ⟨rfl, by go_num⟩)
      case measure => simp [intOf]
    · have hn : ((n0 + n1 : Nat) : Int) = (n0 : Int) + (n1 : Int) := by omega
      rw [hn] at cG
      clear hn
      go_wp2_with (refine cG.mono ?_; rintro e w1 ⟨⟨v1, rfl, hrow1⟩, hb1⟩)
      go_loopw [6, 27] (fun rv i wr => Below w.heap.size w wr ∧ ((i = .int .i64 0 ∧ wr.ownsRow w.heap.size 9 1 rv 0 []) ∨ (i = .int .i64 1 ∧ wr.ownsRow w.heap.size 9 1 rv n0 (x.map encStr)) ∨ (i = .int .i64 2 ∧ wr.ownsRow w.heap.size 9 1 rv (n0 + n1) (x.map encStr ++ y.map encStr)))) (fun _ i _ => 2 - (intOf i).toNat)
      case atStart => exact ⟨hb1, Or.inl ⟨rfl, hrow1⟩⟩
      case round =>
        obtain ⟨hbW, hcase⟩ := hrel
        have k0 := (hbW.cell (p := ⟨B, 0, none⟩) hBl).trans hc0
        have k1 := (hbW.cell (p := ⟨B, 1, none⟩) hBl).trans hc1
        rcases hcase with ⟨rfl, hrow⟩ | ⟨rfl, hrow⟩ | ⟨rfl, hrow⟩
        · have hsl := ra _ hbW
          go_wp2_with (at_builtin; refine wpList_append_sl rfl (.tmp 31) (.tmp 32) rfl w.heap.size _ 0 [] (by rfl) hrow _ x (by rfl) hsl (by rw [E0.out]; omega) hbW.size ?_; intro v' w3 hown3 hg3)
          go_roundw
          case rel => exact ⟨hbW.grown hg3 hbW.size (fun k e => (hrow.lt k e).1), Or.inr (Or.inl ⟨rfl, by rw [E0.out] at hown3; simpa using hown3⟩)⟩
          case measure => simp [intOf]
        · have hsl := rb _ hbW
          go_wp2_with (at_builtin; refine wpList_append_sl rfl (.tmp 31) (.tmp 32) rfl w.heap.size _ _ _ (by rfl) hrow _ y (by rfl) hsl (by rw [E1.out]; omega) hbW.size ?_; intro v' w3 hown3 hg3)
          go_roundw
          case rel => exact ⟨hbW.grown hg3 hbW.size (fun k e => (hrow.lt k e).1), Or.inr (Or.inr ⟨rfl, by rw [E1.out] at hown3; exact hown3⟩)⟩
          case measure => simp [intOf]
        · go_wp2
          go_ret
          refine ⟨⟨_, rfl, ?_⟩, hbW⟩
          unfold Row
          rw [List.length_append, E0.out, E1.out, List.map_append]
          exact hrow
set_option maxHeartbeats 1000000 in
theorem or_any (va vb : Value) (x y : List Tx) (w : World) (ha : Sl w va x) (hb : Sl w vb y) (hx : x.length ≤ 400) (hy : y.length ≤ 400) (hg : SysAt w) :
    Calls Tryd.prog 43 #[va, vb] w fun e w' => (∃ v', e = .returned v' ∧ Sl w' v' (order (x ++ y))) ∧ Below w.heap.size w w' := by
  have hgl := hg.lt
  have hbA : Below w.heap.size w (w.alloc (.cells #[va, vb] 34)) := (Below.refl _ _).alloc (Nat.le_refl _) _
  have cC := concat_txs va vb x y w.heap.size (w.alloc (.cells #[va, vb] 34)) (by simp) (by simp) (ha.below hbA (Nat.le_refl _)) (hb.below hbA (Nat.le_refl _)) hx hy
  obtain ⟨a0, c0, rfl, _, _⟩ := ha
  obtain ⟨a1, c1, rfl, _, _⟩ := hb
  go_enter Tryd.func43, Tryd.ntmps43
  go_wp2_with fail
  refine cC.mono ?_
  rintro e w1 ⟨⟨v1, rfl, h1⟩, hb1⟩
  have hb01 : Below w.heap.size w w1 := hbA.trans (hb1.mono hbA.size)
  have cO := order_row _ v1 (x ++ y) w1 h1 hb1.size (by simp; omega) (hg.below hb01 hgl) (Nat.lt_of_lt_of_le hgl hbA.size)
  clear cC h1
  go_wp2_with fail
  refine cO.mono ?_
  rintro e w2 ⟨⟨v2, rfl, h2⟩, hb2⟩
  go_wp2_with fail
  go_ret
  exact ⟨⟨v2, rfl, Sl.of_row h2⟩, hb01.trans (hb2.mono hbA.size)⟩
theorem contains_eq (l : List Tx) (x : Tx) : Lib.containsS (bas l) ⟨x.toArray⟩ = l.contains x := by
  rw [Bool.eq_iff_iff, Lib.containsS_iff, List.contains_iff_mem]
  unfold bas
  rw [List.mem_map]
  constructor
  · rintro ⟨t, ht, h⟩
    have : t = x := by simpa using congrArg (fun s : ByteArray => s.data.toList) h
    rw [← this]; exact ht
  · intro h; exact ⟨x, h, rfl⟩
theorem contains_txs (v : Value) (l : List Tx) (x : Tx) (w : World) (h : Sl w v l) (hl : l.length ≤ 1000) :
    Calls Tryd.prog 45 #[v, encStr x] w fun e w' => e = .returned (.bool (l.contains x)) ∧ w' = w := by
  obtain ⟨a, c, rfl, h0, ha⟩ := h
  rcases ha with rfl | ⟨b, o, rfl, hat⟩
  · exact Tryd.slices_Contains_string_empty a c ⟨x.toArray⟩ w
  · have := Tryd.slices_Contains_string b o l.length c (bas l) ⟨x.toArray⟩ w (by rw [bas_length]; exact Nat.le_refl _) (by omega) (cells_bas hat)
    rw [List.take_of_length_le (by rw [bas_length]; exact Nat.le_refl _), contains_eq] at this
    exact this
/-- The names of flags are themselves. -/
theorem has_txs (v : Value) (l : List Tx) (s : ByteArray) (w : World) (h : Sl w v l) (hl : l.length ≤ 1000) (hs : s.size ≤ 1000000) (hg : SysAt w) :
    Calls Tryd.prog 34 #[v, .string s] w fun e w' => e = .returned (.bool (hasF l s.data.toList)) ∧ Below w.heap.size w w' := by
  have cN := name_any s w (by omega) hg (fun W => Tryd.strings_HasPrefix s ⟨#[92]⟩ W)
  have hk : ∀ W, Below w.heap.size w W → Sl W v l := fun W hb => h.below hb (Nat.le_refl _)
  obtain ⟨a, c, rfl, _, _⟩ := h
  obtain ⟨R, hR⟩ : ∃ R, hasF l s.data.toList = R := ⟨_, rfl⟩
  rw [hR]
  unfold hasF at hR
  go_enter Tryd.func34, Tryd.ntmps34
  go_wp2_with fail
  refine cN.mono ?_
  rintro e w1 ⟨⟨h0, n, hn, rfl⟩ | ⟨h0, rfl⟩, q, rfl⟩
  · rw [decide_eq_true h0, Bool.true_and, ← hn] at hR
    have hbq : Below w.heap.size w (w.drewN q) := below_drewN (Below.refl _ _) q
    have cC := contains_txs _ l n.data.toList _ (hk _ hbq) hl
    have en : encStr n.data.toList = .string n := by simp [encStr]
    rw [en, hR] at cC
    clear hR hn cN hk en
    go_wp2_with fail
    refine cC.mono ?_
    rintro e w2 ⟨rfl, rfl⟩
    cases R
    all_goals
      go_wp2_with fail
      go_ret
      exact ⟨rfl, hbq⟩
  · rw [decide_eq_false h0, Bool.false_and] at hR
    subst hR
    clear cN hk
    go_wp2_with fail
    go_ret
    exact ⟨rfl, below_drewN (Below.refl _ _) q⟩
end Go.Proofs.YtkneeoaeoiaefaaDoor
