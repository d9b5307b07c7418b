/-
  A slice of texts in memory.
  A block of the caller's that a call turns, and no other; cells of a block. Of no program.
  Messages in memory; a box.
  Where a message stands in a box: cmp.Compare of numbers, slices.BinarySearchFunc over messages, Find.
-/
import Derived.Test.YtgpcnacpefficaaGreatDoorBpBoxSpec
import Derived.Test.YtgpcnacpefficaaGreatDoorFlagsSpec
import Derived.Deep.Cut
import Derived.Deep.CutRange
import Derived.Deep.DeepCutAuto
import Derived.Deep.CutBlock
import Derived.Deep.QuietTactic
import Derived.BigQuiet
import Derived.Deep.RegionWith
import Derived.Shelf.Abstract
namespace Go.Proofs.YtgpcnacpefficaaGreatDoor
open Go.RowKit Go.Proofs.Aid Go.Proofs.Fl Go.Sort Go.Lib

/-- A slice of texts. -/
def Sl (w : World) (v : Value) (l : List Tx) : Prop :=
  ∃ a c, v = .slice a l.length c ∧ ((a = none → c = 0) ∧ l.length ≤ c) ∧ (l = [] ∨ ∃ b o, a = some ⟨b, o, none⟩ ∧ ∀ (j : Nat) t, l[j]? = some t → w.cell? ⟨b, o + j, none⟩ = some (encStr t))
theorem Sl.below {w w' : World} {v : Value} {B : Nat} {l : List Tx} (h : Sl w v l) (hb : Below B w w') (hB : w.heap.size ≤ B) : Sl w' v l := by
  obtain ⟨a, c, h1, h0, h2⟩ := h
  refine ⟨a, c, h1, h0, ?_⟩
  rcases h2 with h2 | ⟨b, o, h3, h4⟩
  · exact Or.inl h2
  · refine Or.inr ⟨b, o, h3, fun j z hj => ?_⟩
    have h5 := h4 j z hj
    have hlt := World.block_lt_of_cell? _ _ h5
    exact (hb.cell (p := ⟨b, _, none⟩) (Nat.lt_of_lt_of_le hlt hB)).trans h5
end Go.Proofs.YtgpcnacpefficaaGreatDoor
namespace Go.Proofs.YtgpcnacpefficaaGreatDoor
open Go.RowKit Go.Proofs.Aid

/-- A row of another type stays what it was. -/
theorem kept_row {e e' : TypeId} {B base size : Nat} {w w' : World} (h : Kept e B w w') (hne : e' ≠ e) {v : Value} {n : Nat} {xs : List Value} (hown : w.ownsRow base e' size v n xs) : w'.ownsRow base e' size v n xs := by
  refine ⟨hown.1, ?_⟩
  rcases hown.2 with h2 | ⟨g, cap, cur, hv, hg, hh, r⟩
  · exact Or.inl h2
  · exact Or.inr ⟨g, cap, cur, hv, hg, h.others g _ hh (by simp) (fun c fz he => hne (by cases he; rfl)), r⟩
theorem row_off {e t : TypeId} {base size n b : Nat} {w : World} {v : Value} {xs : List Value} {arr : Array Value} {fz : Nat × Nat} (h : w.ownsRow base e size v n xs) (hh : w.heap[b]? = some (.cells arr t fz)) (hne : e ≠ t) : v.ownBlock ≠ some b := fun e1 => by
  rcases h.2 with ⟨rfl, _⟩ | ⟨g, cap, cur, rfl, _, hg, _⟩
  · simp [Value.ownBlock] at e1
  · simp [Value.ownBlock] at e1
    subst e1
    rw [hg] at hh
    injection hh with hh
    injection hh with _ e2 _
    exact hne e2
/-- Below base nothing but block b is changed. -/
structure But (base b : Nat) (w w' : World) : Prop where
  os : w'.os = w.os
  tape : w'.tape = w.tape
  output : w'.output = w.output
  size : w.heap.size ≤ w'.heap.size
  block : ∀ k, k < base → k ≠ b → w'.heap[k]? = w.heap[k]?
theorem to_but {base b : Nat} {w w' : World} (h : Below base w w') : But base b w w' := ⟨h.os, h.tape, h.output, h.size, fun k hk _ => h.block k hk⟩
theorem But.trans {base b : Nat} {w w' w'' : World} (h : But base b w w') (k : But base b w' w'') : But base b w w'' :=
  ⟨k.os.trans h.os, k.tape.trans h.tape, k.output.trans h.output, Nat.le_trans h.size k.size, fun j hj hb => (k.block j hj hb).trans (h.block j hj hb)⟩
theorem But.setB {base b : Nat} {w w' : World} (h : But base b w w') (i : Nat) (x : Value) : But base b w (w'.setCell ⟨b, i, none⟩ x) :=
  ⟨h.os, h.tape, h.output, by simpa using h.size, fun k hk hb => (Below.heap_setCell _ _ _ _ hb).trans (h.block k hk hb)⟩
theorem But.cell {base b : Nat} {w w' : World} (h : But base b w w') {p : Addr} (hp : p.block < base) (hb : p.block ≠ b) : w'.cell? p = w.cell? p := World.cell?_of_block (w := w) (h.block p.block hp hb)
theorem But.below {base b B : Nat} {w w' : World} (h : But base b w w') (h1 : B ≤ base) (h2 : B ≤ b) : Below B w w' := ⟨h.os, h.tape, h.output, h.size, fun k hk => h.block k (Nat.lt_of_lt_of_le hk h1) (by omega)⟩
theorem rd_cell {W : World} {b j : Nat} {arr : Array Value} {t : TypeId} {v : Value} (hh : W.heap[b]? = some (.cells arr t (0, 0))) (hv : arr[j]? = some v) : W.cell? ⟨b, j, none⟩ = some v := by simp [World.cell?, hh, hv]
theorem rd_free {W : World} {b : Nat} {arr : Array Value} {t : TypeId} (hh : W.heap[b]? = some (.cells arr t (0, 0))) (j : Nat) : W.frozen? ⟨b, j, none⟩ = false := by simp [World.frozen?, hh]
theorem rd_set {W : World} {b i : Nat} {arr : Array Value} {t : TypeId} (x : Value) (hh : W.heap[b]? = some (.cells arr t (0, 0))) : (W.setCell ⟨b, i, none⟩ x).heap[b]? = some (.cells (arr.setIfInBounds i x) t (0, 0)) := by
  rw [setCell_eq_setRow W b i arr t (0, 0) x hh]
  exact setRow_heap _ _ _ _ _ _ hh
theorem But.less {base base' b : Nat} {w w' : World} (h : But base b w w') (hb : base' ≤ base) : But base' b w w' := ⟨h.os, h.tape, h.output, h.size, fun k hk hn => h.block k (Nat.lt_of_lt_of_le hk hb) hn⟩
theorem row_some {w : World} {base e size n : Nat} {v : Value} {xs : List Value} (h : w.ownsRow base e size v n xs) (hn : n ≠ 0) : ∃ g cap, v = .slice (some ⟨g, 0, none⟩) n cap := by
  rcases h.2 with ⟨_, h2⟩ | ⟨g, cap, cur, hv, _⟩
  · exact absurd h2 hn
  · exact ⟨g, cap, hv⟩
theorem own_same {e : TypeId} {base size n : Nat} {w w' : World} {v : Value} {xs : List Value} (h : w.ownsRow base e size v n xs) (hk : ∀ g, v.ownBlock = some g → w'.heap[g]? = w.heap[g]?) : w'.ownsRow base e size v n xs := by
  refine ⟨h.1, ?_⟩
  rcases h.2 with h2 | ⟨g, cap, cur, rfl, h4, hh, r⟩
  · exact Or.inl h2
  · exact Or.inr ⟨g, cap, cur, rfl, h4, (hk g rfl).trans hh, r⟩
end Go.Proofs.YtgpcnacpefficaaGreatDoor
namespace Go.Proofs.YtgpcnacpefficaaGreatDoor
open Go.RowKit Go.Proofs.Aid Go.Proofs.Bx

/-- A message lies at four cells. -/
def LtAt (w : World) (b o : Nat) (x : Lt) : Prop :=
  w.cell? ⟨b, o, none⟩ = some (.int .i64 x.uid) ∧ (∃ fv, w.cell? ⟨b, o + 1, none⟩ = some fv ∧ Sl w fv x.flags) ∧ w.cell? ⟨b, o + 2, none⟩ = some (.int .i64 x.day) ∧ w.cell? ⟨b, o + 3, none⟩ = some (.string ⟨x.text.toArray⟩)
theorem LtAt.below {w w' : World} {b o B : Nat} {x : Lt} (h : LtAt w b o x) (hb : Below B w w') (hB : w.heap.size ≤ B) : LtAt w' b o x := by
  obtain ⟨h1, ⟨fv, h2, h3⟩, h4, h5⟩ := h
  have hlt : b < B := Nat.lt_of_lt_of_le (World.block_lt_of_cell? _ _ h1) hB
  exact ⟨(hb.cell (p := ⟨b, _, none⟩) hlt).trans h1, ⟨fv, (hb.cell (p := ⟨b, _, none⟩) hlt).trans h2, h3.below hb hB⟩, (hb.cell (p := ⟨b, _, none⟩) hlt).trans h4, (hb.cell (p := ⟨b, _, none⟩) hlt).trans h5⟩
/-- A slice of messages. -/
def Lts (w : World) (v : Value) (l : List Lt) : Prop :=
  ∃ a c, v = .slice a l.length c ∧ ((a = none → c = 0) ∧ l.length ≤ c ∧ c ≤ 9223372036854775807) ∧ (l = [] ∨ ∃ b o, a = some ⟨b, o, none⟩ ∧ ∀ (j : Nat) x, l[j]? = some x → LtAt w b (o + j * 4) x)
theorem Lts.below {w w' : World} {v : Value} {B : Nat} {l : List Lt} (h : Lts w v l) (hb : Below B w w') (hB : w.heap.size ≤ B) : Lts w' v l := by
  obtain ⟨a, c, h1, h0, h2⟩ := h
  refine ⟨a, c, h1, h0, ?_⟩
  rcases h2 with h2 | ⟨b, o, h3, h4⟩
  · exact Or.inl h2
  · exact Or.inr ⟨b, o, h3, fun j x hj => (h4 j x hj).below hb hB⟩
theorem Lts.nil (w : World) : Lts w (.slice none 0 0) [] := ⟨none, 0, rfl, ⟨fun _ => rfl, Nat.le_refl _, by decide⟩, Or.inl rfl⟩
/-- A box in memory: its own number, the next one's, messages. -/
def BoxAt (w : World) (bb : Nat) (v n : Int) (l : List Lt) : Prop := ∃ lv, w.heap[bb]? = some (.cells #[.int .i64 v, .int .i64 n, lv] 28 (0, 0)) ∧ Lts w lv l
/-- What turns nothing but block b, below base; what was laid anew stays as it is. -/
theorem BoxAt.below {w w' : World} {bb B : Nat} {v n : Int} {l : List Lt} (h : BoxAt w bb v n l) (hb : Below B w w') (hB : w.heap.size ≤ B) : BoxAt w' bb v n l := by
  obtain ⟨lv, h1, h2⟩ := h
  exact ⟨lv, (hb.block bb (Nat.lt_of_lt_of_le (Array.getElem?_eq_some_iff.1 h1).1 hB)).trans h1, h2.below hb hB⟩
/-- A box whose messages lie in a row that was laid at B or behind it. -/
def BoxNew (B : Nat) (w : World) (bb : Nat) (v n : Int) (l : List Lt) : Prop := ∃ lv, w.heap[bb]? = some (.cells #[.int .i64 v, .int .i64 n, lv] 28 (0, 0)) ∧ Lts w lv l ∧ ∀ q, lv.ownBlock = some q → B ≤ q
theorem BoxNew.at {B : Nat} {w : World} {bb : Nat} {v n : Int} {l : List Lt} (h : BoxNew B w bb v n l) : BoxAt w bb v n l := by
  obtain ⟨lv, h1, h2, _⟩ := h
  exact ⟨lv, h1, h2⟩
theorem BoxAt.lt {w : World} {bb : Nat} {v n : Int} {l : List Lt} (h : BoxAt w bb v n l) : bb < w.heap.size := by
  obtain ⟨lv, h1, _⟩ := h
  exact (Array.getElem?_eq_some_iff.1 h1).1
end Go.Proofs.YtgpcnacpefficaaGreatDoor
namespace Go.Proofs.YtgpcnacpefficaaGreatDoor
open Go.RowKit Go.Proofs.Aid Go.Proofs.Bx

def cmpI (a b : Int) : Int := if a < b then -1 else if b < a then 1 else 0
theorem isNaN_int (a : Int) (w : World) : Calls Tryz.prog 60 #[.int .i64 a] w fun e w' => e = .returned (.bool false) ∧ w' = w := by
  go_enter Tryz.func60, Tryz.ntmps60
  go_wp2_with fail
  go_ret
  exact ⟨by simp, rfl⟩
set_option maxHeartbeats 1000000 in
theorem compare_int (a b : Int) (w : World) : Calls Tryz.prog 39 #[.int .i64 a, .int .i64 b] w fun e w' => e = .returned (.int .i64 (cmpI a b)) ∧ w' = w := by
  have c1 := fun W => isNaN_int a W
  have c2 := fun W => isNaN_int b W
  unfold cmpI
  by_cases h1 : a < b
  · rw [if_pos h1]
    have d1 : decide (a < b) = true := decide_eq_true h1
    go_enter Tryz.func39, Tryz.ntmps39
    go_wp2_with fail
    refine (c1 _).mono ?_
    rintro e w1 ⟨rfl, hw⟩
    obtain rfl : w = w1 := hw.symm
    go_wp2_with fail
    refine (c2 _).mono ?_
    rintro e w1 ⟨rfl, hw⟩
    obtain rfl : w = w1 := hw.symm
    go_wp2_with fail
    go_ret
    exact ⟨rfl, rfl⟩
  · rw [if_neg h1]
    have d1 : decide (a < b) = false := decide_eq_false h1
    by_cases h2 : b < a
    · rw [if_pos h2]
      have d2 : decide (b < a) = true := decide_eq_true h2
      go_enter Tryz.func39, Tryz.ntmps39
      go_wp2_with fail
      refine (c1 _).mono ?_
      rintro e w1 ⟨rfl, hw⟩
      obtain rfl : w = w1 := hw.symm
      go_wp2_with fail
      refine (c2 _).mono ?_
      rintro e w1 ⟨rfl, hw⟩
      obtain rfl : w = w1 := hw.symm
      go_wp2_with fail
      go_ret
      exact ⟨rfl, rfl⟩
    · rw [if_neg h2]
      have d2 : decide (b < a) = false := decide_eq_false h2
      go_enter Tryz.func39, Tryz.ntmps39
      go_wp2_with fail
      refine (c1 _).mono ?_
      rintro e w1 ⟨rfl, hw⟩
      obtain rfl : w = w1 := hw.symm
      go_wp2_with fail
      refine (c2 _).mono ?_
      rintro e w1 ⟨rfl, hw⟩
      obtain rfl : w = w1 := hw.symm
      go_wp2_with fail
      go_ret
      exact ⟨rfl, rfl⟩
set_option maxHeartbeats 1000000 in
theorem find1_is (u x d : Int) (fv : Value) (t : ByteArray) (w : World) : Calls Tryz.prog 38 #[.agg #[.int .i64 x, fv, .int .i64 d, .string t], .int .i64 u] w fun e w' => e = .returned (.int .i64 (cmpI x u)) ∧ Below w.heap.size w w' := by
  have c := fun W => compare_int x u W
  go_enter Tryz.func38, Tryz.ntmps38
  go_wp2_with fail
  refine (c _).mono ?_
  rintro e w1 ⟨rfl, hw⟩
  have hb : Below w.heap.size w w1 := by rw [hw]; exact (Below.refl _ _).alloc (Nat.le_refl _) _
  clear c hw
  go_wp2_with fail
  go_ret
  exact ⟨rfl, hb⟩
theorem cmpI_neg (a b : Int) : cmpI a b < 0 ↔ a < b := by unfold cmpI; split <;> (try split) <;> omega
theorem cmpI_zero (a b : Int) : cmpI a b = 0 ↔ a = b := by unfold cmpI; split <;> (try split) <;> omega
set_option maxHeartbeats 4000000 in
set_option maxRecDepth 100000 in
theorem search_lts (v : Value) (l : List Lt) (u : Int) (w : World) (h : Lts w v l) (hr : Rise l) (hl : l.length ≤ 1000) :
    Calls Tryz.prog 37 #[v, .int .i64 u, .func (.func 38) #[] #[]] w fun e w' => e = .returned (.tuple #[.int .i64 (findI l u : Int), .bool (findB l u)]) ∧ Below w.heap.size w w' := by
  obtain ⟨a, c, rfl, _, ha⟩ := h
  obtain ⟨n, hn⟩ : ∃ n, l.length = n := ⟨_, rfl⟩
  rw [hn] at hl ⊢
  have eg : ∀ args w, (callFunc 38 args).run Tryz.prog w = .ok (.enter 38 args) w := enters_of Tryz.func38 (by kernel_rfl) rfl
  have HO : Hid (Rise l) := hr
  obtain ⟨FI, hFI⟩ : ∃ C, findI l u = C := ⟨_, rfl⟩
  obtain ⟨FB, hFB⟩ : ∃ C, findB l u = C := ⟨_, rfl⟩
  rw [hFI, hFB]
  have HC : Hid (findI l u = FI ∧ findB l u = FB) := ⟨hFI, hFB⟩
  have HAT : Hid (l = [] ∨ ∃ b o, a = some ⟨b, o, none⟩ ∧ ∀ (j : Nat) x, l[j]? = some x → LtAt w b (o + j * 4) x) := ha
  have HN : Hid (l.length = n) := hn
  clear hr hFI hFB ha hn
  go_enter Tryz.func37, Tryz.ntmps37
  go_wp2_with fail
  go_loopw [9, 10] (fun si sj wr => ∃ i j : Nat, si = .int .i64 (i : Int) ∧ sj = .int .i64 (j : Int) ∧ i ≤ j ∧ j ≤ n ∧ Hid (∀ t (h : t < l.length), t < i → l[t].uid < u) ∧ Hid (∀ (h : j < l.length), u ≤ l[j].uid) ∧ Below w.heap.size w wr) (fun si sj _ => (intOf sj).toNat - (intOf si).toNat)
  case atStart => exact ⟨0, n, rfl, rfl, Nat.zero_le _, Nat.le_refl _, fun t _ h => absurd h (by omega), fun h => absurd h (by rw [HN.out]; omega), Below.refl _ _⟩
  case round =>
    obtain ⟨i, j, rfl, rfl, hij, hjn, H1, H2, hb⟩ := hrel
    have HB : Hid (Below w.heap.size w wr) := hb
    by_cases hlt : i < j
    · have hml : (i + j) / 2 < l.length := by rw [HN.out]; omega
      obtain ⟨b, o, rfl, hat⟩ : ∃ b o, a = some ⟨b, o, none⟩ ∧ ∀ (j : Nat) x, l[j]? = some x → LtAt w b (o + j * 4) x := by
        rcases HAT.out with h | h
        · rw [h] at hml; simp at hml
        · exact h
      obtain ⟨q1, ⟨fv, q2, _⟩, q3, q4⟩ := (hat _ _ (List.getElem?_eq_getElem hml)).below hb (Nat.le_refl _)
      obtain ⟨y, hy⟩ : ∃ y, l[(i + j) / 2] = y := ⟨_, rfl⟩
      have HY : Hid (l[(i + j) / 2] = y) := hy
      rw [hy] at q1 q3 q4
      have cY := fun W => find1_is u y.uid y.day fv ⟨y.text.toArray⟩ W
      obtain ⟨z, hz⟩ : ∃ z, cmpI y.uid u = z := ⟨_, rfl⟩
      have HZ : Hid (cmpI y.uid u = z) := hz
      rw [hz] at cY
      obtain ⟨YU, hYU⟩ : ∃ z, y.uid = z := ⟨_, rfl⟩
      obtain ⟨YD, hYD⟩ : ∃ z, y.day = z := ⟨_, rfl⟩
      obtain ⟨YT, hYT⟩ : ∃ z : ByteArray, ⟨y.text.toArray⟩ = z := ⟨_, rfl⟩
      rw [hYU, hYD, hYT] at cY
      rw [hYU] at q1
      rw [hYD] at q3
      rw [hYT] at q4
      clear hat hy hz hYU hYD hYT hb
      by_cases hz0 : z < 0
      · go_wp2_with fail
        refine (cY _).mono ?_
        rintro e w' ⟨rfl, hb2⟩
        have HB2 : Hid (Below w.heap.size w w') := HB.out.trans (hb2.mono HB.out.size)
        clear cY hb2
        go_wp2_with fail
        go_roundw
        case rel => exact ⟨(i + j) / 2 + 1, j, by rw [show ((i : Int) + (j : Int)) / 2 + 1 = (((i + j) / 2 + 1 : Nat) : Int) by omega], rfl, by omega, hjn, below_mid HO.out hml (by rw [HY.out]; exact (cmpI_neg _ _).1 (by rw [HZ.out]; exact hz0)), H2, HB2.out⟩
        case measure => simp [intOf]; omega
      · go_wp2_with fail
        refine (cY _).mono ?_
        rintro e w' ⟨rfl, hb2⟩
        have HB2 : Hid (Below w.heap.size w w') := HB.out.trans (hb2.mono HB.out.size)
        clear cY hb2
        go_wp2_with fail
        go_roundw
        case rel => exact ⟨i, (i + j) / 2, rfl, by rw [show ((i : Int) + (j : Int)) / 2 = (((i + j) / 2 : Nat) : Int) by omega], by omega, by omega, H1, fun h => by rw [HY.out]; have := mt (cmpI_neg y.uid u).2 (by rw [HZ.out]; omega); omega, HB2.out⟩
        case measure => simp [intOf]; omega
    · obtain rfl : j = i := by omega
      have HFI : Hid (FI = j) := by show FI = j; rw [← HC.out.1]; exact find_at H1.out (by rw [HN.out]; exact hjn) H2.out
      have hFI := HFI.out
      subst hFI
      by_cases hin : FI < n
      · have hml : FI < l.length := by rw [HN.out]; omega
        obtain ⟨b, o, rfl, hat⟩ : ∃ b o, a = some ⟨b, o, none⟩ ∧ ∀ (j : Nat) x, l[j]? = some x → LtAt w b (o + j * 4) x := by
          rcases HAT.out with h | h
          · rw [h] at hml; simp at hml
          · exact h
        obtain ⟨q1, ⟨fv, q2, _⟩, q3, q4⟩ := (hat _ _ (List.getElem?_eq_getElem hml)).below hb (Nat.le_refl _)
        have HF : Hid (findB l u = decide (l[FI].uid = u)) := by
          rcases find_some HO.out H1.out hml with h | h
          · exact h
          · have := H2.out hml; omega
        obtain ⟨y, hy⟩ : ∃ y, l[FI] = y := ⟨_, rfl⟩
        have HY : Hid (l[FI] = y) := hy
        rw [hy] at q1 q3 q4
        have cY := fun W => find1_is u y.uid y.day fv ⟨y.text.toArray⟩ W
        obtain ⟨z, hz⟩ : ∃ z, cmpI y.uid u = z := ⟨_, rfl⟩
        have HZ : Hid (cmpI y.uid u = z) := hz
        rw [hz] at cY
        obtain ⟨YU, hYU⟩ : ∃ z, y.uid = z := ⟨_, rfl⟩
        obtain ⟨YD, hYD⟩ : ∃ z, y.day = z := ⟨_, rfl⟩
        obtain ⟨YT, hYT⟩ : ∃ z : ByteArray, ⟨y.text.toArray⟩ = z := ⟨_, rfl⟩
        rw [hYU, hYD, hYT] at cY
        rw [hYU] at q1
        rw [hYD] at q3
        rw [hYT] at q4
        have HFB : Hid (FB = (z == 0)) := by
          show FB = _
          rw [← HC.out.2, HF.out, HY.out]
          by_cases h0 : z = 0
          · rw [decide_eq_true ((cmpI_zero _ _).1 (HZ.out.trans h0)), h0]; rfl
          · rw [decide_eq_false (fun e => h0 (HZ.out.symm.trans ((cmpI_zero _ _).2 e)))]; simpa using h0
        clear hat hy hz hYU hYD hYT hb HF
        by_cases hz0 : z = 0
        · subst hz0
          go_wp2_with fail
          refine (cY _).mono ?_
          rintro e w' ⟨rfl, hb2⟩
          have HB2 : Hid (Below w.heap.size w w') := HB.out.trans (hb2.mono HB.out.size)
          clear cY hb2
          go_wp2_with fail
          go_ret2
          exact ⟨by rw [HFB.out]; rfl, HB2.out⟩
        · have hzb : (z == 0) = false := by simpa using hz0
          go_wp2_with fail
          refine (cY _).mono ?_
          rintro e w' ⟨rfl, hb2⟩
          have HB2 : Hid (Below w.heap.size w w') := HB.out.trans (hb2.mono HB.out.size)
          clear cY hb2
          go_wp2_with fail
          go_ret2
          exact ⟨by rw [HFB.out, hzb]; rfl, HB2.out⟩
      · have HFB : Hid (FB = false) := by
          show FB = false
          rw [← HC.out.2]
          exact find_none fun t h => H1.out t h (by have := HN.out; omega)
        have hFB := HFB.out
        subst hFB
        clear hb
        go_wp2_with fail
        go_ret2
        exact ⟨rfl, HB.out⟩
set_option maxHeartbeats 1000000 in
theorem find_is (bb : Nat) (v n u : Int) (l : List Lt) (w : World) (h : BoxAt w bb v n l) (hr : Rise l) (hl : l.length ≤ 1000) :
    Calls Tryz.prog 12 #[.pointer (some ⟨bb, 0, none⟩), .int .i64 u] w fun e w' => e = .returned (.tuple #[.int .i64 (findI l u : Int), .bool (findB l u)]) ∧ Below w.heap.size w w' := by
  obtain ⟨lv, h1, h2⟩ := h
  have cS := search_lts lv l u w h2 hr hl
  have p2 : w.cell? ⟨bb, 2, none⟩ = some lv := rd_cell h1 rfl
  obtain ⟨FI, hFI⟩ : ∃ C, findI l u = C := ⟨_, rfl⟩
  obtain ⟨FB, hFB⟩ : ∃ C, findB l u = C := ⟨_, rfl⟩
  rw [hFI, hFB] at cS ⊢
  obtain ⟨a, c, rfl, _⟩ := h2
  clear h1 hFI hFB
  go_enter Tryz.func12, Tryz.ntmps12
  go_wp2_with fail
  refine cS.mono ?_
  rintro e w1 ⟨rfl, hb⟩
  go_wp2_with fail
  go_ret2
  exact ⟨rfl, hb⟩
end Go.Proofs.YtgpcnacpefficaaGreatDoor
