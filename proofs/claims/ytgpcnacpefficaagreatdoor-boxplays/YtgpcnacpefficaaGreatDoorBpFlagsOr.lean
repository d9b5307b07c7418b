/-
  slices.Concat of two slices of texts; flags.Or; flags.Has.
  slices.Equal of texts.
  Flags as a box has them: learn.
-/
import Derived.Test.YtgpcnacpefficaaGreatDoorBpFlagsNot
import Derived.Test.YtgpcnacpefficaaGreatDoorBpFlagsOps
namespace Go.Proofs.YtgpcnacpefficaaGreatDoor
open Go.RowKit Go.Proofs.Aid Go.Proofs.Fl Go.Sort Go.Lib

theorem grow_txs (n : Nat) (w : World) (hn : n ≤ 2000) : Calls Tryz.prog 97 #[.slice none 0 0, .int .i64 (n : Int)] w fun e w' => (∃ v', e = .returned v' ∧ w'.ownsRow w.heap.size 9 1 v' 0 []) ∧ Below w.heap.size w w' := by
  obtain ⟨i0, hi, hz0, hz1, hz2⟩ := info_parts Tryz.infoStr
  by_cases h0 : n = 0
  · subst h0
    refine (Any8.slices_Grow_room Tryz.growL none 0 0 0 w (Nat.le_refl _) (by omega) (by omega) (Nat.le_refl _)).mono ?_
    rintro e w' ⟨rfl, rfl⟩
    exact ⟨⟨_, rfl, World.ownsRow_nil _ _ _ _⟩, Below.refl _ _⟩
  · refine (Any8.slices_Grow_grow Tryz.growL i0 (.string ⟨#[]⟩) hi hz0 (by rw [hz1]; decide) none 0 0 n [] w (Nat.le_refl _) (by omega) (by rw [hz2]; omega) (by omega) (by simp) (fun _ => rfl) (fun a e => by cases e)).mono ?_
    rintro e w' ⟨rfl, rfl⟩
    have g1 := grownCap_ge w (0 + n) 0 9
    have g2 := grownCap_le_maxLen w (0 + n) 0 9 (by unfold maxLen; omega)
    refine ⟨⟨_, rfl, ⟨rfl, Or.inr ⟨w.heap.size, _, _, rfl, Nat.le_refl _, heap_alloc_new w.drew _, Nat.zero_le _, g2, ?_, rfl⟩⟩⟩, (Below.refl _ _).drew.alloc (Nat.le_refl _) _⟩
    have gg : n ≤ grownCap w n 0 (Tryz.growL_ren.t 25) := by
      have : 0 + n ≤ grownCap w (0 + n) 0 (Tryz.growL_ren.t 25) := g1
      simpa using this
    simp [Builtin.zeroCells, Value.cells]
    omega

set_option maxHeartbeats 1000000 in
set_option maxRecDepth 100000 in
theorem concat_txs (va vb : Value) (x y : List Tx) (B : Nat) (w : World) (hc0 : w.cell? ⟨B, 0, none⟩ = some va) (hc1 : w.cell? ⟨B, 1, none⟩ = some vb) (ha : Sl w va x) (hb : Sl w vb y) (hx : x.length ≤ 400) (hy : y.length ≤ 400) :
    Calls Tryz.prog 81 #[.slice (some ⟨B, 0, none⟩) 2 2] w fun e w' => (∃ v', e = .returned v' ∧ Row w' w.heap.size v' (x ++ y)) ∧ Below w.heap.size w w' := by
  have ra : ∀ W, Below w.heap.size w W → Sl W va x := fun W h => ha.below h (Nat.le_refl _)
  have rb : ∀ W, Below w.heap.size w W → Sl W vb y := fun W h => hb.below h (Nat.le_refl _)
  have hBl : B < w.heap.size := World.block_lt_of_cell? _ _ hc0
  obtain ⟨a0, c0, rfl, _, _⟩ := ha
  obtain ⟨a1, c1, rfl, _, _⟩ := hb
  obtain ⟨n0, e0⟩ : ∃ k, x.length = k := ⟨_, rfl⟩
  obtain ⟨n1, e1⟩ : ∃ k, y.length = k := ⟨_, rfl⟩
  rw [e0] at hx hc0 ra
  rw [e1] at hy hc1 rb
  have E0 : Hid (x.length = n0) := e0
  have E1 : Hid (y.length = n1) := e1
  have cG := grow_txs (n0 + n1) w (by omega)
  clear e0 e1
  go_enter Tryz.func81, Tryz.ntmps81
  go_wp2
  go_loop [3, 11] (fun z i => (i = .int .i64 0 ∧ z = .int .i64 0) ∨ (i = .int .i64 1 ∧ z = .int .i64 (n0 : Int)) ∨ (i = .int .i64 2 ∧ z = .int .i64 ((n0 + n1 : Nat) : Int))) (fun _ i => 2 - (intOf i).toNat)
  case atStart => exact Or.inl ⟨rfl, rfl⟩
  case round =>
    rcases hrel with ⟨rfl, rfl⟩ | ⟨rfl, rfl⟩ | ⟨rfl, rfl⟩
    · go_wp2
      go_round
      case rel => exact Or.inr (Or.inl ⟨rfl, by simp⟩)
      case measure => simp [intOf]
    · have hnn : ¬ ((n0 : Int) + (n1 : Int) < 0) := by omega
      go_wp2
      go_round
      case rel => exact Or.inr (Or.inr ⟨rfl, by go_num⟩)
      case measure => simp [intOf]
    · have hn : ((n0 + n1 : Nat) : Int) = (n0 : Int) + (n1 : Int) := by omega
      rw [hn] at cG
      clear hn
      go_wp2_with (refine cG.mono ?_; rintro e w1 ⟨⟨v1, rfl, hrow1⟩, hb1⟩)
      go_loopw [6, 27] (fun rv i wr => Below w.heap.size w wr ∧ ((i = .int .i64 0 ∧ wr.ownsRow w.heap.size 9 1 rv 0 []) ∨ (i = .int .i64 1 ∧ wr.ownsRow w.heap.size 9 1 rv n0 (x.map encStr)) ∨ (i = .int .i64 2 ∧ wr.ownsRow w.heap.size 9 1 rv (n0 + n1) (x.map encStr ++ y.map encStr)))) (fun _ i _ => 2 - (intOf i).toNat)
      case atStart => exact ⟨hb1, Or.inl ⟨rfl, hrow1⟩⟩
      case round =>
        obtain ⟨hbW, hcase⟩ := hrel
        have k0 := (hbW.cell (p := ⟨B, 0, none⟩) hBl).trans hc0
        have k1 := (hbW.cell (p := ⟨B, 1, none⟩) hBl).trans hc1
        rcases hcase with ⟨rfl, hrow⟩ | ⟨rfl, hrow⟩ | ⟨rfl, hrow⟩
        · have hsl := ra _ hbW
          go_wp2_with (at_builtin; refine wpList_append_sl rfl (.tmp 31) (.tmp 32) rfl w.heap.size _ 0 [] (by rfl) hrow _ x (by rfl) hsl (by rw [E0.out]; omega) hbW.size ?_; intro v' w3 hown3 hg3)
          go_roundw
          case rel => exact ⟨hbW.grown hg3 hbW.size (fun k e => (hrow.lt k e).1), Or.inr (Or.inl ⟨rfl, by rw [E0.out] at hown3; simpa using hown3⟩)⟩
          case measure => simp [intOf]
        · have hsl := rb _ hbW
          go_wp2_with (at_builtin; refine wpList_append_sl rfl (.tmp 31) (.tmp 32) rfl w.heap.size _ _ _ (by rfl) hrow _ y (by rfl) hsl (by rw [E1.out]; omega) hbW.size ?_; intro v' w3 hown3 hg3)
          go_roundw
          case rel => exact ⟨hbW.grown hg3 hbW.size (fun k e => (hrow.lt k e).1), Or.inr (Or.inr ⟨rfl, by rw [E1.out] at hown3; exact hown3⟩)⟩
          case measure => simp [intOf]
        · go_wp2
          go_ret
          refine ⟨⟨_, rfl, ?_⟩, hbW⟩
          unfold Row
          rw [List.length_append, E0.out, E1.out, List.map_append]
          exact hrow
set_option maxHeartbeats 1000000 in
theorem or_any (va vb : Value) (x y : List Tx) (w : World) (ha : Sl w va x) (hb : Sl w vb y) (hx : x.length ≤ 400) (hy : y.length ≤ 400) (hg : SysAt w) :
    Calls Tryz.prog 66 #[va, vb] w fun e w' => (∃ v', e = .returned v' ∧ Sl w' v' (order (x ++ y))) ∧ Below w.heap.size w w' := by
  have hgl := hg.lt
  have hbA : Below w.heap.size w (w.alloc (.cells #[va, vb] 35)) := (Below.refl _ _).alloc (Nat.le_refl _) _
  have cC := concat_txs va vb x y w.heap.size (w.alloc (.cells #[va, vb] 35)) (by simp) (by simp) (ha.below hbA (Nat.le_refl _)) (hb.below hbA (Nat.le_refl _)) hx hy
  obtain ⟨a0, c0, rfl, _, _⟩ := ha
  obtain ⟨a1, c1, rfl, _, _⟩ := hb
  go_enter Tryz.func66, Tryz.ntmps66
  go_wp2_with fail
  refine cC.mono ?_
  rintro e w1 ⟨⟨v1, rfl, h1⟩, hb1⟩
  have hb01 : Below w.heap.size w w1 := hbA.trans (hb1.mono hbA.size)
  have cO := order_row _ v1 (x ++ y) w1 h1 hb1.size (by simp; omega) (hg.below hb01 hgl) (Nat.lt_of_lt_of_le hgl hbA.size)
  clear cC h1
  go_wp2_with fail
  refine cO.mono ?_
  rintro e w2 ⟨⟨v2, rfl, h2⟩, hb2⟩
  go_wp2_with fail
  go_ret
  exact ⟨⟨v2, rfl, Sl.of_row h2⟩, hb01.trans (hb2.mono hbA.size)⟩
theorem contains_eq (l : List Tx) (x : Tx) : Lib.containsS (bas l) ⟨x.toArray⟩ = l.contains x := by
  rw [Bool.eq_iff_iff, Lib.containsS_iff, List.contains_iff_mem]
  unfold bas
  rw [List.mem_map]
  constructor
  · rintro ⟨t, ht, h⟩
    have : t = x := by simpa using congrArg (fun s : ByteArray => s.data.toList) h
    rw [← this]; exact ht
  · intro h; exact ⟨x, h, rfl⟩
theorem contains_txs (v : Value) (l : List Tx) (x : Tx) (w : World) (h : Sl w v l) (hl : l.length ≤ 1000) :
    Calls Tryz.prog 68 #[v, encStr x] w fun e w' => e = .returned (.bool (l.contains x)) ∧ w' = w := by
  obtain ⟨a, c, rfl, h0, ha⟩ := h
  rcases ha with rfl | ⟨b, o, rfl, hat⟩
  · exact Tryz.slices_Contains_string_empty a c ⟨x.toArray⟩ w
  · have := Tryz.slices_Contains_string b o l.length c (bas l) ⟨x.toArray⟩ w (by rw [bas_length]; exact Nat.le_refl _) (by omega) (cells_bas hat)
    rw [List.take_of_length_le (by rw [bas_length]; exact Nat.le_refl _), contains_eq] at this
    exact this
/-- The names of flags are themselves. -/
theorem has_txs (v : Value) (l : List Tx) (s : ByteArray) (w : World) (h : Sl w v l) (hl : l.length ≤ 1000) (hs : s.size ≤ 1000000) (hg : SysAt w) :
    Calls Tryz.prog 52 #[v, .string s] w fun e w' => e = .returned (.bool (hasF l s.data.toList)) ∧ Below w.heap.size w w' := by
  have cN := name_any s w (by omega) hg (fun W => Tryz.strings_HasPrefix s ⟨#[92]⟩ W)
  have hk : ∀ W, Below w.heap.size w W → Sl W v l := fun W hb => h.below hb (Nat.le_refl _)
  obtain ⟨a, c, rfl, _, _⟩ := h
  obtain ⟨R, hR⟩ : ∃ R, hasF l s.data.toList = R := ⟨_, rfl⟩
  rw [hR]
  unfold hasF at hR
  go_enter Tryz.func52, Tryz.ntmps52
  go_wp2_with fail
  refine cN.mono ?_
  rintro e w1 ⟨⟨h0, n, hn, rfl⟩ | ⟨h0, rfl⟩, q, rfl⟩
  · rw [decide_eq_true h0, Bool.true_and, ← hn] at hR
    have hbq : Below w.heap.size w (w.drewN q) := below_drewN (Below.refl _ _) q
    have cC := contains_txs _ l n.data.toList _ (hk _ hbq) hl
    have en : encStr n.data.toList = .string n := by simp [encStr]
    rw [en, hR] at cC
    clear hR hn cN hk en
    go_wp2_with fail
    refine cC.mono ?_
    rintro e w2 ⟨rfl, rfl⟩
    cases R
    all_goals
      go_wp2_with fail
      go_ret
      exact ⟨rfl, hbq⟩
  · rw [decide_eq_false h0, Bool.false_and] at hR
    subst hR
    clear cN hk
    go_wp2_with fail
    go_ret
    exact ⟨rfl, below_drewN (Below.refl _ _) q⟩
end Go.Proofs.YtgpcnacpefficaaGreatDoor
namespace Go.Proofs.YtgpcnacpefficaaGreatDoor
open Go.RowKit Go.Proofs.Aid Go.Proofs.Fl Go.Sort Go.Lib

theorem equal_len (a0 a1 : Option Addr) (n m c0 c1 : Nat) (w : World) (h : n ≠ m) :
    Calls Tryz.prog 41 #[.slice a0 n c0, .slice a1 m c1] w fun e w' => e = .returned (.bool false) ∧ w' = w := by
  have h' : ((n : Int) == (m : Int)) = false := by rw [beq_eq_false_iff_ne]; omega
  go_enter Tryz.func41, Tryz.ntmps41
  go_wp2
  go_ret
  exact ⟨rfl, rfl⟩
theorem equal_txs (va vb : Value) (x y : List Tx) (w : World) (ha : Sl w va x) (hb : Sl w vb y) (hx : x.length ≤ 1000) (hy : y.length ≤ 1000) :
    Calls Tryz.prog 41 #[va, vb] w fun e w' => e = .returned (.bool (decide (x = y))) ∧ ∃ q, w' = w.drewN q := by
  obtain ⟨a0, c0, rfl, _, ha⟩ := ha
  obtain ⟨a1, c1, rfl, _, hb⟩ := hb
  rcases ha with rfl | ⟨b, o, rfl, hat⟩
  · have := Tryz.slices_Equal_string_empty a0 a1 c0 y.length c1 w (by omega)
    refine this.mono ?_
    rintro e w' ⟨rfl, rfl⟩
    refine ⟨?_, 0, rfl⟩
    congr 2
    rw [Bool.eq_iff_iff]
    cases y <;> simp
  · by_cases hxy : x.length = y.length
    · rcases hb with rfl | ⟨b', o', rfl, hbt⟩
      · have h0 : x = [] := List.eq_nil_of_length_eq_zero hxy
        subst h0
        have := Tryz.slices_Equal_string_empty (some ⟨b, o, none⟩) a1 c0 0 c1 w (by omega)
        refine this.mono ?_
        rintro e w' ⟨rfl, rfl⟩
        exact ⟨rfl, 0, rfl⟩
      · have := Tryz.slices_Equal_string b o x.length c0 b' o' y.length c1 (bas x) (bas y) w (by rw [bas_length]; exact Nat.le_refl _) (by rw [bas_length]; exact Nat.le_refl _) (by omega) (by omega) (cells_bas hat) (cells_bas hbt)
        rw [List.take_of_length_le (by rw [bas_length]; exact Nat.le_refl _), List.take_of_length_le (by rw [bas_length]; exact Nat.le_refl _)] at this
        refine this.mono ?_
        rintro e w' ⟨rfl, q, rfl⟩
        refine ⟨?_, q, rfl⟩
        have e1 : decide (bas x = bas y) = decide (x = y) := by
          rw [Bool.eq_iff_iff, decide_eq_true_eq, decide_eq_true_eq]
          exact ⟨bas_inj, fun h => by rw [h]⟩
        rw [e1]
    · refine (equal_len _ a1 x.length y.length c0 c1 w hxy).mono ?_
      rintro e w' ⟨rfl, rfl⟩
      refine ⟨?_, 0, rfl⟩
      rw [decide_eq_false (fun h => hxy (by rw [h]))]
end Go.Proofs.YtgpcnacpefficaaGreatDoor
namespace Go.Proofs.YtgpcnacpefficaaGreatDoor
open Go.RowKit Go.Proofs.Aid Go.Proofs.Bx

/-- The flags that a box has of a number. -/
def flagsOf (l : List Lt) (u : Int) : Option (List Fl.Tx) := (l.find? fun x => x.uid == u).map Lt.flags
def learn1 (l : List Lt) (s : Sg) : Sg := match flagsOf l s.uid with | some F => ⟨s.uid, F⟩ | none => s
def news1 (l : List Lt) (k : Nat) (s : Sg) : List Nw := match flagsOf l s.uid with | some F => if F = s.flags then [] else [⟨3, (k : Int) + 1, F⟩] | none => []
def learnN (l : List Lt) : Nat → List Sg → List Nw
  | _, [] => []
  | k, s :: S => news1 l k s ++ learnN l (k + 1) S
theorem learnN_append (l : List Lt) : ∀ (k : Nat) (S T : List Sg), learnN l k (S ++ T) = learnN l k S ++ learnN l (k + S.length) T
  | k, [], T => by simp [learnN]
  | k, s :: S, T => by
    rw [List.cons_append, learnN, learnN, learnN_append l (k + 1) S T, List.append_assoc, List.length_cons, show k + 1 + S.length = k + (S.length + 1) by omega]
theorem learnN_next {l : List Lt} {S : List Sg} {k : Nat} {s : Sg} (h : S[k]? = some s) : learnN l 0 (S.take (k + 1)) = learnN l 0 (S.take k) ++ news1 l k s := by
  have hk := (List.getElem?_eq_some_iff.1 h).1
  rw [List.take_add_one, h, Option.toList_some, learnN_append, List.length_take, Nat.min_eq_left (by omega), Nat.zero_add]
  simp [learnN]
theorem learnN_le (l : List Lt) : ∀ (k : Nat) (S : List Sg), (learnN l k S).length ≤ S.length
  | k, [] => by simp [learnN]
  | k, s :: S => by
    have := learnN_le l (k + 1) S
    have h1 : (news1 l k s).length ≤ 1 := by unfold news1; split <;> (try split) <;> simp
    rw [learnN, List.length_append, List.length_cons]
    omega
theorem flagsOf_some {l : List Lt} {u : Int} (hr : Rise l) (h : findB l u = true) : ∃ x, l[findI l u]? = some x ∧ flagsOf l u = some x.flags := by
  obtain ⟨x, h1, h2⟩ := find_true hr h
  refine ⟨x, h1, ?_⟩
  unfold flagsOf
  obtain ⟨hlt, h3⟩ := List.getElem?_eq_some_iff.1 h1
  cases hf : l.find? fun x => x.uid == u with
  | none => exact absurd (List.find?_eq_none.1 hf x (h3 ▸ List.getElem_mem hlt)) (by simp [h2])
  | some y =>
    have hy : y.uid = u := by simpa using List.find?_some hf
    obtain ⟨j, hj, rfl⟩ := List.mem_iff_getElem.1 (List.mem_of_find?_eq_some hf)
    rcases Nat.lt_trichotomy j (findI l u) with h4 | h4 | h4
    · have := rise_at hr hj hlt h4; rw [h3] at this; omega
    · subst h4; rw [h3]; rfl
    · have := rise_at hr hlt hj h4; rw [h3] at this; omega
theorem flagsOf_none {l : List Lt} {u : Int} (h : findB l u = false) : flagsOf l u = none := by
  unfold flagsOf
  rw [Option.map_eq_none_iff, List.find?_eq_none]
  intro x hx he
  unfold findB at h
  rw [← Bool.not_eq_true, List.any_eq_true] at h
  exact h ⟨x, hx, he⟩
/-- A sight's flags are turned. -/
theorem sgs_set {w : World} {va : Option Addr} {g ca : Nat} {S : List Sg} {k : Nat} {x : Sg} (h : Sgs w (.slice va S.length ca) S) (hva : va = some ⟨g, 0, none⟩) (hk : S[k]? = some x) {fv : Value} {F : List Fl.Tx} (hf : Sl w fv F) :
    Sgs (w.setCell ⟨g, k * 2 + 1, none⟩ fv) (.slice va S.length ca) (S.set k ⟨x.uid, F⟩) := by
  obtain ⟨rows, h1, h2, h3, h4, h5⟩ := id h
  subst hva
  have hkl := (List.getElem?_eq_some_iff.1 hk).1
  obtain ⟨fa, fc, hfv, _⟩ := id hf
  have hns := h5 g rfl
  rcases h1.2 with ⟨hz, _⟩ | ⟨g', cap, cur, hv, hb, hh, hnc, hcm, hcs, htk⟩
  · cases hz
  injection hv with hv _ hv2
  injection hv with hv
  injection hv with hv _ _
  subst hv
  subst hv2
  have e9 := rd_set (i := k * 2 + 1) fv hh
  have hot : ∀ q, q ≠ g → (w.setCell ⟨g, k * 2 + 1, none⟩ fv).heap[q]? = w.heap[q]? := fun q hq => Below.heap_setCell _ _ _ _ hq
  have hsl : ∀ y fu, Sl w fu y → Sl (w.setCell ⟨g, k * 2 + 1, none⟩ fv) fu y := fun y fu hy => hy.same fun q hq hl _ => hot q fun e => hy.noStr hl hq (by rw [e]; exact noT_str hns)
  have hrk : rows[k]? = some (rows[k]'(by omega)) := List.getElem?_eq_getElem (by omega)
  refine ⟨rows.set k [.int .i64 x.uid, fv], ⟨?_, Or.inr ⟨g, ca, _, by rw [List.length_set], hb, e9, by rw [List.length_set]; exact hnc, hcm, by rw [Array.size_setIfInBounds]; exact hcs, ?_⟩⟩, by simp [h2], fun j y ys hj hy => ?_, fun xs hx => ?_, fun q hq => ?_⟩
  · rw [List.length_set]
    have : ∀ (R : List (List Value)), (∀ xs ∈ R, xs.length = 2) → R.flatten.length = R.length * 2 := by
      intro R
      induction R with
      | nil => simp
      | cons a R ih => intro hR; rw [List.flatten_cons, List.length_append, ih (fun xs hx => hR xs (List.mem_cons_of_mem _ hx)), hR a List.mem_cons_self, List.length_cons]; omega
    rw [this _ (fun xs hx => by
      rcases List.mem_or_eq_of_mem_set hx with h | h
      · exact h4 xs h
      · rw [h]; rfl), List.length_set, h2]
  · rw [List.length_set, Array.toList_setIfInBounds, List.take_set, htk]
    obtain ⟨fu, e1, _⟩ := h3 k x _ hk hrk
    apply List.ext_getElem?
    intro i
    rw [List.getElem?_set]
    by_cases hi : i < S.length * 2
    · have hd : i = i / 2 * 2 + i % 2 := by omega
      have hjr : rows[i / 2]? = some (rows[i / 2]'(by omega)) := List.getElem?_eq_getElem (by omega)
      have hfl := flat2_get (i := i % 2) h4 hjr (by omega)
      rw [← hd] at hfl
      have h4' : ∀ xs ∈ rows.set k [.int .i64 x.uid, fv], xs.length = 2 := fun xs hx => by
        rcases List.mem_or_eq_of_mem_set hx with h | h
        · exact h4 xs h
        · rw [h]; rfl
      have hlt' : i / 2 < (rows.set k [.int .i64 x.uid, fv]).length := by rw [List.length_set]; omega
      have hfl' := flat2_get (i := i % 2) h4' (List.getElem?_eq_getElem hlt') (by omega)
      rw [← hd] at hfl'
      rw [hfl']
      by_cases hik : i / 2 = k
      · rw [List.getElem_set, if_pos hik.symm]
        by_cases hi1 : k * 2 + 1 = i
        · rw [if_pos hi1, if_pos (by rw [h1.1]; omega), show i % 2 = 1 by omega]; rfl
        · rw [if_neg hi1, hfl, show i % 2 = 0 by omega]
          have : rows[i / 2]'(by omega) = [.int .i64 x.uid, fu] := by rw [← e1]; simp only [hik]
          rw [this]; rfl
      · have hne : ¬ (k * 2 + 1 = i) := by omega
        rw [if_neg hne, hfl, List.getElem_set, if_neg (fun e => hik e.symm)]
    · rw [if_neg (by omega), List.getElem?_eq_none (by rw [h1.1]; omega), List.getElem?_eq_none]
      have : ∀ (R : List (List Value)), (∀ xs ∈ R, xs.length = 2) → R.flatten.length = R.length * 2 := by
        intro R
        induction R with
        | nil => simp
        | cons a R ih => intro hR; rw [List.flatten_cons, List.length_append, ih (fun xs hx => hR xs (List.mem_cons_of_mem _ hx)), hR a List.mem_cons_self, List.length_cons]; omega
      rw [this _ (fun xs hx => by
        rcases List.mem_or_eq_of_mem_set hx with h | h
        · exact h4 xs h
        · rw [h]; rfl), List.length_set, h2]
      omega
  · by_cases hjk : k = j
    · subst hjk
      rw [List.getElem?_set, if_pos rfl, if_pos hkl] at hj
      rw [List.getElem?_set, if_pos rfl, if_pos (by omega)] at hy
      obtain rfl := Option.some.inj hj
      obtain rfl := Option.some.inj hy
      refine ⟨fv, rfl, hsl _ _ hf, ?_⟩
      by_cases hF : F = []
      · exact Or.inl hF
      · exact Or.inr fun q hq e => by
          obtain rfl : g = q := by simpa [Value.ownBlock] using e
          exact hf.noStr hF hq (noT_str hns)
    · rw [List.getElem?_set, if_neg hjk] at hj
      rw [List.getElem?_set, if_neg hjk] at hy
      obtain ⟨fu, e1, e2, e3⟩ := h3 j y ys hj hy
      refine ⟨fu, e1, hsl _ _ e2, e3.imp id fun h q hq => ?_⟩
      have := h q hq
      simpa [Value.ownBlock] using this
  · rcases List.mem_or_eq_of_mem_set hx with h | h
    · exact h4 xs h
    · rw [h]; rfl
  · obtain rfl : g = q := by simpa [Value.ownBlock] using hq
    refine allC_of e9 fun u hu => ?_
    rw [Array.toList_setIfInBounds] at hu
    rcases List.mem_or_eq_of_mem_set hu with h | h
    · exact allC_all hh hns u h
    · rw [h, hfv]; exact fun s e => by cases e
end Go.Proofs.YtgpcnacpefficaaGreatDoor
