/-
  Parts in memory: six cells set and read, rows of parts, how many there are.
-/
import Derived.Test.YtgbbkdflnlagaaaGreatDoorMimeInside
import Derived.Test.YtgbbkdflnlagaaaGreatDoorMimeMem
namespace Go.Proofs.YtgbbkdflnlagaaaGreatDoor
open Go.RowKit Go.Proofs.Aid Go.Proofs.Sq Go.Proofs.Hd Go.Proofs.Mm

theorem Tryz.infoPart : (Tryz.prog.info? 25).map (fun i => (i.zero, i.size, i.bytes)) = some (some (.agg #[.string ⟨#[]⟩, .string ⟨#[]⟩, .int .i64 0, .int .i64 0, .int .i64 0, .slice none 0 0]), 6, 80) := by kernel_rfl
theorem setm_read {W : World} {b i : Nat} {arr : Array Value} {t : TypeId} (hh : W.heap[b]? = some (.cells arr t (0, 0))) (hi : i < arr.size) (x : Value) : (W.setCell ⟨b, i, none⟩ x).cell? ⟨b, i, none⟩ = some x :=
  rd_cell (rd_set x hh) (by rw [Array.getElem?_setIfInBounds_self_of_lt hi])
def zeroSix : List Value := [.string ⟨#[]⟩, .string ⟨#[]⟩, .int .i64 0, .int .i64 0, .int .i64 0, .slice none 0 0]
/-- A reader in memory: its text, and how many it counted. -/
def RdM (w : World) (rb : Nat) (s : ByteArray) (c : Nat) : Prop := w.heap[rb]? = some (.cells #[.string s, .int .i64 (c : Int)] 81 (0, 0))
theorem rdM_below {w w' : World} {rb c : Nat} {s : ByteArray} (h : RdM w rb s c) (hb : Below w.heap.size w w') : RdM w' rb s c := (hb.block rb (Array.getElem?_eq_some_iff.1 h).1).trans h
def PartPost (s : ByteArray) (rb : Nat) (w : World) (R : Nat × Option Mm.Pt) (e : Ending) (w' : World) : Prop :=
  RdM w' rb s R.1 ∧ But w.heap.size rb w w' ∧
    ((R.2 = none ∧ e = .returned (.tuple #[.agg zeroSix.toArray, .bool false])) ∨ ∃ p xs, R.2 = some p ∧ e = .returned (.tuple #[.agg xs.toArray, .bool true]) ∧ Six w' (fun k => w.heap.size ≤ k) p xs)
/-- Six cells that were set, read. -/
theorem six_set {W : World} {R : Nat} {a0 a1 a2 a3 a4 a5 : Value} {t : TypeId} (hh : W.heap[R]? = some (.cells #[a0, a1, a2, a3, a4, a5] t (0, 0))) (x0 x1 x2 x3 x4 x5 : Value) :
    ((((((W.setCell ⟨R, 0, none⟩ x0).setCell ⟨R, 1, none⟩ x1).setCell ⟨R, 2, none⟩ x2).setCell ⟨R, 3, none⟩ x3).setCell ⟨R, 4, none⟩ x4).setCell ⟨R, 5, none⟩ x5).heap[R]? = some (.cells #[x0, x1, x2, x3, x4, x5] t (0, 0)) := by
  have h0 := rd_set (i := 0) x0 hh
  have h1 := rd_set (i := 1) x1 h0
  have h2 := rd_set (i := 2) x2 h1
  have h3 := rd_set (i := 3) x3 h2
  have h4 := rd_set (i := 4) x4 h3
  exact rd_set (i := 5) x5 h4
theorem six_other (W : World) {R k : Nat} (h : k ≠ R) (x0 x1 x2 x3 x4 x5 : Value) : ((((((W.setCell ⟨R, 0, none⟩ x0).setCell ⟨R, 1, none⟩ x1).setCell ⟨R, 2, none⟩ x2).setCell ⟨R, 3, none⟩ x3).setCell ⟨R, 4, none⟩ x4).setCell ⟨R, 5, none⟩ x5).heap[k]? = W.heap[k]? := by
  rw [Below.heap_setCell _ _ _ _ h, Below.heap_setCell _ _ _ _ h, Below.heap_setCell _ _ _ _ h, Below.heap_setCell _ _ _ _ h, Below.heap_setCell _ _ _ _ h, Below.heap_setCell _ _ _ _ h]
theorem six_but {base rb R : Nat} {w W : World} (h : But base rb w W) (hR : base ≤ R) (x0 x1 x2 x3 x4 x5 : Value) : But base rb w ((((((W.setCell ⟨R, 0, none⟩ x0).setCell ⟨R, 1, none⟩ x1).setCell ⟨R, 2, none⟩ x2).setCell ⟨R, 3, none⟩ x3).setCell ⟨R, 4, none⟩ x4).setCell ⟨R, 5, none⟩ x5) :=
  h.trans (to_but ((((((((Below.refl base W).setCell (p := ⟨R, 0, none⟩) hR x0).setCell (p := ⟨R, 1, none⟩) hR x1).setCell (p := ⟨R, 2, none⟩) hR x2).setCell (p := ⟨R, 3, none⟩) hR x3).setCell (p := ⟨R, 4, none⟩) hR x4).setCell (p := ⟨R, 5, none⟩) hR x5)))
theorem between_len (c : UInt8) : ∀ (l p : Tx), p ∈ between c l → p.length ≤ l.length
  | [], p, h => by simp [between] at h; simp [h]
  | b :: r, p, h => by
    rw [between] at h
    split at h
    · rcases List.mem_cons.1 h with rfl | h
      · simp
      · have := between_len c r p h
        simp; omega
    · rcases List.mem_cons.1 h with rfl | h
      · cases hb : between c r with
        | nil => simp
        | cons x xs =>
          have := between_len c r x (by rw [hb]; simp)
          simp; omega
      · have := between_len c r p (List.mem_of_mem_tail h)
        simp; omega
theorem unq_len (l : Tx) : (unq l).length ≤ l.length := by
  unfold unq
  split
  · simp; omega
  · exact Nat.le_refl _
theorem param_len {v n r : Tx} (h : paramOf v n = some r) : r.length ≤ v.length := by
  unfold paramOf at h
  obtain ⟨p, hp, rfl⟩ := Option.map_eq_some_iff.1 h
  have h1 := between_len 59 v p (List.mem_of_mem_tail (List.mem_of_find?_eq_some hp))
  have h2 := unq_len (Hd.bare (cutAt 61 p).2.1)
  have h3 := bare_length (cutAt 61 p).2.1
  have h4 := (cutAt_len 61 p).2
  omega
theorem kind_len (h : Tx) : (kindOf h).2.length ≤ h.length + 1 := by
  unfold kindOf
  split
  · split
    · simp
    · next v hv =>
      obtain ⟨f, hf, rfl⟩ := getF_mem hv
      have h1 := values_short h f hf
      unfold kindV
      split
      · show ((paramOf f.2 bndryT).getD []).length ≤ _
        cases hp : paramOf f.2 bndryT with
        | none => simp
        | some r => have := param_len hp; show r.length ≤ _; omega
      · simp
  · simp
theorem cellsS_at : ∀ {L : List (Nat × Nat)} {k x y : Nat}, L[k]? = some (x, y) → (cellsS L)[k * 2]? = some (.int .i64 (x : Int)) ∧ (cellsS L)[k * 2 + 1]? = some (.int .i64 (y : Int))
  | [], _, _, _, h => by simp at h
  | f :: L, 0, x, y, h => by
    simp at h
    subst h
    exact ⟨rfl, rfl⟩
  | f :: L, k + 1, x, y, h => by
    have := cellsS_at (L := L) (k := k) (x := x) (y := y) (by simpa using h)
    rw [show (k + 1) * 2 = k * 2 + 2 by omega]
    exact this
theorem spans_length (n : Nat) (mark : Tx) : ∀ (ls : List Tx) (place : Nat) (beg : Option Nat), (spans n mark place beg ls).length ≤ ls.length + (opn beg).length
  | [], _, beg => by cases beg <;> simp [spans, close, opn]
  | l :: ls, place, beg => by
    have h1 := spans_length n mark ls (min (place + l.length + 2) n) (some (min (place + l.length + 2) n))
    have h2 := spans_length n mark ls (min (place + l.length + 2) n) beg
    have h3 : ∀ e, (close beg e).length = (opn beg).length := fun e => by cases beg <;> rfl
    have h4 : (opn (some (min (place + l.length + 2) n))).length = 1 := rfl
    rw [spans]
    split
    · rw [List.length_append, h3, List.length_cons]; omega
    · split
      · rw [h3]; omega
      · rw [List.length_cons]; omega
theorem inside_length (bd mk : ByteArray) : (insideOf bd.data.toList mk.data.toList).length ≤ bd.size + 1 := by
  have h0 := spans_length bd.data.toList.length mk.data.toList (pieces bd.data.toList) 0 none
  have h1 := pieces_count (bd.data.toList.length + 1) bd.data.toList (Nat.lt_succ_self _)
  have h2 := Lib.countB_le ⟨#[13, 10]⟩ (by decide) _ bd (Nat.le_refl _)
  have h3 : Lib.countB bd ⟨#[13, 10]⟩ = Lib.countFrom [13, 10] (bd.data.toList.length + 1) bd.data.toList := rfl
  have h4 : (opn none).length = 0 := rfl
  unfold insideOf
  omega
def addP (acc : List Mm.Pt) (R : Nat × Option (List Mm.Pt)) : Nat × Option (List Mm.Pt) := (R.1, R.2.map (acc ++ ·))
theorem addP_nil (R : Nat × Option (List Mm.Pt)) : addP [] R = R := by
  obtain ⟨a, b⟩ := R
  cases b <;> simp [addP]
theorem addP_add (a b : List Mm.Pt) (R : Nat × Option (List Mm.Pt)) : addP a (addP b R) = addP (a ++ b) R := by
  obtain ⟨c, d⟩ := R
  cases d <;> simp [addP]
theorem partsF_none {g : Nat → Nat → Nat → Nat × Option Mm.Pt} {x y c c1 : Nat} {r : List (Nat × Nat)} (h : g x y c = (c1, none)) : partsF g ((x, y) :: r) c = (c1, none) := by
  rw [partsF, h]
theorem partsF_some {g : Nat → Nat → Nat → Nat × Option Mm.Pt} {x y c c1 : Nat} {p : Mm.Pt} {r : List (Nat × Nat)} (h : g x y c = (c1, some p)) : partsF g ((x, y) :: r) c = addP [p] (partsF g r c1) := by
  rw [partsF, h]
  show (match partsF g r c1 with | (c2, none) => (c2, none) | (c2, some ps) => (c2, some (p :: ps))) = addP [p] (partsF g r c1)
  generalize partsF g r c1 = Z
  obtain ⟨a, b⟩ := Z
  cases b <;> rfl
theorem inRow_get : ∀ {L : List (Nat × Nat)} {a b k x y : Nat}, InRow L a b → L[k]? = some (x, y) → x ≤ y ∧ y ≤ b
  | [], _, _, _, _, _, _, h => by simp at h
  | s :: L, a, b, 0, x, y, hr, h => by
    simp at h
    subst h
    exact ⟨hr.2.1, hr.2.2.1⟩
  | s :: L, a, b, k + 1, x, y, hr, h => inRow_get hr.2.2.2 (by simpa using h)
theorem flat_length {rows : List (List Value)} (h : ∀ xs ∈ rows, xs.length = 6) : rows.flatten.length = rows.length * 6 := by
  induction rows with
  | nil => rfl
  | cons r rs ih =>
    have h1 := h r List.mem_cons_self
    rw [List.flatten_cons, List.length_append, h1, ih (fun x hx => h x (List.mem_cons_of_mem _ hx)), List.length_cons]
    omega
theorem flat_get : ∀ {rows : List (List Value)} {j i : Nat} {xs : List Value}, (∀ ys ∈ rows, ys.length = 6) → rows[j]? = some xs → i < 6 → rows.flatten[j * 6 + i]? = xs[i]?
  | [], _, _, _, _, h, _ => by simp at h
  | r :: rs, 0, i, xs, h6, h, hi => by
    simp at h
    subst h
    rw [List.flatten_cons, Nat.zero_mul, Nat.zero_add, List.getElem?_append_left (by rw [h6 _ List.mem_cons_self]; exact hi)]
  | r :: rs, j + 1, i, xs, h6, h, hi => by
    have hr := h6 r List.mem_cons_self
    rw [List.flatten_cons, List.getElem?_append_right (by omega), hr, show (j + 1) * 6 + i - 6 = j * 6 + i by omega]
    exact flat_get (fun y hy => h6 y (List.mem_cons_of_mem _ hy)) (by simpa using h) hi
theorem six_cells {w : World} {Ok : Nat → Prop} {p : Mm.Pt} {xs : List Value} (h : Six w Ok p xs) : ∃ (tb bb : ByteArray) (l1 h1 n1 : Nat) (a1 : Option Addr) (k1 c1 : Nat), xs = [.string tb, .string bb, .int .i64 (l1 : Int), .int .i64 (h1 : Int), .int .i64 (n1 : Int), .slice a1 k1 c1] := by
  cases h
  exact ⟨_, _, _, _, _, _, _, _, rfl⟩
theorem maxLen_ne {w : World} {rb c : Nat} {s : ByteArray} {m : Int} (hr : RdM w rb s c) (hm : w.cell? ⟨1, 0, none⟩ = some (.int .i64 m)) : 1 ≠ rb := by
  intro e
  have := rd_cell (j := 0) hr rfl
  rw [← e, hm] at this
  cases this
theorem extract_text (s : ByteArray) (lo hi : Nat) : (s.extract lo hi).data.toList = textOf s.data.toList lo hi := by
  have e : (s.extract lo hi).data = s.data.extract lo hi := ByteArray.data_extract
  rw [e, Array.toList_extract, List.extract_eq_take_drop]
  rfl
end Go.Proofs.YtgbbkdflnlagaaaGreatDoor
