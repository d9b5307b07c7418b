/-
  What the methods say and join of head.reader do: a reader in memory, with the fields so far and what the last one says.
-/
import Derived.Test.YtgbbkdflnlagaaaGreatDoorHeadCut
import Derived.Test.YtgbbkdflnlagaaaGreatDoorHeadAny2
import Derived.Test.YtgbbkdflnlagaaaGreatDoorJoinShelf
import Derived.Test.YtgbbkdflnlagaaaGreatDoorSeqBase
import Derived.Deep.Cut
import Derived.Deep.CutRange
import Derived.Deep.DeepCutAuto
import Derived.Deep.CutBlock
namespace Go.Proofs.YtgbbkdflnlagaaaGreatDoor
open Go.RowKit Go.Proofs.Aid Go.Proofs.Hd

theorem Tryz.infoTx : (Tryz.prog.info? 9).map (fun i => (i.zero, i.size, i.bytes)) = some (some (.string ⟨#[]⟩), 1, 16) := by kernel_rfl
theorem Tryz.infoField : (Tryz.prog.info? 123).map (fun i => (i.zero, i.size, i.bytes)) = some (some (.agg #[.string ⟨#[]⟩, .string ⟨#[]⟩]), 2, 32) := by kernel_rfl
abbrev Fb := ByteArray × ByteArray
def cellsF (l : List Fb) : List Value := l.flatMap fun f => [.string f.1, .string f.2]
theorem cellsF_append (a b : List Fb) : cellsF (a ++ b) = cellsF a ++ cellsF b := by simp [cellsF]
theorem cellsF_length (l : List Fb) : (cellsF l).length = l.length * 2 := by
  induction l with
  | nil => rfl
  | cons f l ih => rw [show cellsF (f :: l) = [.string f.1, .string f.2] ++ cellsF l from rfl, List.length_append, ih]; simp; omega
/-- A row of another type stays what it was. -/
theorem kept_row {e e' : TypeId} {B base size : Nat} {w w' : World} (h : Kept e B w w') (hne : e' ≠ e) {v : Value} {n : Nat} {xs : List Value} (hown : w.ownsRow base e' size v n xs) : w'.ownsRow base e' size v n xs := by
  refine ⟨hown.1, ?_⟩
  rcases hown.2 with h2 | ⟨g, cap, cur, hv, hg, hh, r⟩
  · exact Or.inl h2
  · exact Or.inr ⟨g, cap, cur, hv, hg, h.others g _ hh (by simp) (fun c fz he => hne (by cases he; rfl)), r⟩
theorem row_off {e t : TypeId} {base size n b : Nat} {w : World} {v : Value} {xs : List Value} {arr : Array Value} {fz : Nat × Nat} (h : w.ownsRow base e size v n xs) (hh : w.heap[b]? = some (.cells arr t fz)) (hne : e ≠ t) : v.ownBlock ≠ some b := fun e1 => by
  rcases h.2 with ⟨rfl, _⟩ | ⟨g, cap, cur, rfl, _, hg, _⟩
  · simp [Value.ownBlock] at e1
  · simp [Value.ownBlock] at e1
    subst e1
    rw [hg] at hh
    injection hh with hh
    injection hh with _ e2 _
    exact hne e2
/-- Below base nothing but block b is changed. -/
structure But (base b : Nat) (w w' : World) : Prop where
  os : w'.os = w.os
  tape : w'.tape = w.tape
  output : w'.output = w.output
  size : w.heap.size ≤ w'.heap.size
  block : ∀ k, k < base → k ≠ b → w'.heap[k]? = w.heap[k]?
theorem to_but {base b : Nat} {w w' : World} (h : Below base w w') : But base b w w' := ⟨h.os, h.tape, h.output, h.size, fun k hk _ => h.block k hk⟩
theorem But.trans {base b : Nat} {w w' w'' : World} (h : But base b w w') (k : But base b w' w'') : But base b w w'' :=
  ⟨k.os.trans h.os, k.tape.trans h.tape, k.output.trans h.output, Nat.le_trans h.size k.size, fun j hj hb => (k.block j hj hb).trans (h.block j hj hb)⟩
theorem But.setB {base b : Nat} {w w' : World} (h : But base b w w') (i : Nat) (x : Value) : But base b w (w'.setCell ⟨b, i, none⟩ x) :=
  ⟨h.os, h.tape, h.output, by simpa using h.size, fun k hk hb => (Below.heap_setCell _ _ _ _ hb).trans (h.block k hk hb)⟩
theorem But.cell {base b : Nat} {w w' : World} (h : But base b w w') {p : Addr} (hp : p.block < base) (hb : p.block ≠ b) : w'.cell? p = w.cell? p := World.cell?_of_block (w := w) (h.block p.block hp hb)
theorem But.below {base b B : Nat} {w w' : World} (h : But base b w w') (h1 : B ≤ base) (h2 : B ≤ b) : Below B w w' := ⟨h.os, h.tape, h.output, h.size, fun k hk => h.block k (Nat.lt_of_lt_of_le hk h1) (by omega)⟩
/-- A reader in block b. -/
structure Rd (base b : Nat) (R : List Fb) (S : List ByteArray) (w : World) : Prop where
  st : ∃ vf vs, w.heap[b]? = some (.cells #[vf, vs] 201 (0, 0)) ∧ w.ownsRow base 123 2 vf R.length (cellsF R) ∧ w.ownsRow base 9 1 vs S.length (S.map Value.string)
theorem Rd.below {base b : Nat} {R : List Fb} {S : List ByteArray} {w w' : World} (h : Rd base b R S w) (hb : Below w.heap.size w w') : Rd base b R S w' := by
  obtain ⟨vf, vs, h1, h2, h3⟩ := h.st
  exact ⟨vf, vs, (hb.block b (Array.getElem?_eq_some_iff.1 h1).1).trans h1, row_below hb (Nat.le_refl _) h2, row_below hb (Nat.le_refl _) h3⟩
theorem rd_cell {W : World} {b j : Nat} {arr : Array Value} {t : TypeId} {v : Value} (hh : W.heap[b]? = some (.cells arr t (0, 0))) (hv : arr[j]? = some v) : W.cell? ⟨b, j, none⟩ = some v := by simp [World.cell?, hh, hv]
theorem rd_free {W : World} {b : Nat} {arr : Array Value} {t : TypeId} (hh : W.heap[b]? = some (.cells arr t (0, 0))) (j : Nat) : W.frozen? ⟨b, j, none⟩ = false := by simp [World.frozen?, hh]
theorem rd_set {W : World} {b i : Nat} {arr : Array Value} {t : TypeId} (x : Value) (hh : W.heap[b]? = some (.cells arr t (0, 0))) : (W.setCell ⟨b, i, none⟩ x).heap[b]? = some (.cells (arr.setIfInBounds i x) t (0, 0)) := by
  rw [setCell_eq_setRow W b i arr t (0, 0) x hh]
  exact setRow_heap _ _ _ _ _ _ hh
set_option maxHeartbeats 1000000 in
set_option maxRecDepth 100000 in
theorem say_is (base b : Nat) (R : List Fb) (S : List ByteArray) (p : ByteArray) (w : World) (h : Rd base b R S w) (hp : p.size ≤ 1000000) (hS : S.length ≤ 100000) (hbw : base ≤ w.heap.size) :
    Calls Tryz.prog 203 #[.pointer (some ⟨b, 0, none⟩), .string p] w fun e w' => e = .returned (.tuple #[]) ∧ Rd base b R (if bare p.data.toList = [] then S else S ++ [⟨(bare p.data.toList).toArray⟩]) w' ∧ But base b w w' := by
  have cB := bare_is' p w hp
  obtain ⟨x, hx⟩ : ∃ x : ByteArray, ⟨(bare p.data.toList).toArray⟩ = x := ⟨_, rfl⟩
  have hxl : x.data.toList = bare p.data.toList := by rw [← hx]
  rw [hx] at cB ⊢
  rw [← hxl]
  clear hx hxl
  obtain ⟨S', hS'⟩ : ∃ S', (if x.data.toList = [] then S else S ++ [x]) = S' := ⟨_, rfl⟩
  rw [hS']
  have HS : Hid ((if x.data.toList = [] then S else S ++ [x]) = S') := hS'
  clear hS'
  go_enter Tryz.func203, Tryz.ntmps203
  go_wp2_with fail
  refine cB.mono ?_
  clear cB
  rintro e w1 ⟨rfl, hb1⟩
  have h1 := h.below hb1
  have hb01 : Below base w w1 := hb1.mono hbw
  have hbs := hb01.size
  clear h hb1
  by_cases hx0 : x.data.toList = []
  · have HE : Hid (S = S') := by have := HS.out; rw [if_pos hx0] at this; exact this
    have f1 : x.toList = [] := by rw [Lib.toList_data]; exact hx0
    have f2 : x.toList.isEmpty = true := by rw [f1]; rfl
    go_wp2_with fail
    go_end0
    exact ⟨rfl, HE.out ▸ h1, to_but hb01⟩
  · have HE : Hid (S ++ [x] = S') := by have := HS.out; rw [if_neg hx0] at this; exact this
    have f1 : ¬ x.toList = [] := by rw [Lib.toList_data]; exact hx0
    have f2 : x.toList.isEmpty = false := by rw [Lib.toList_data]; cases hh : x.data.toList with | nil => exact absurd hh hx0 | cons _ _ => rfl
    obtain ⟨vf, vs, hh, hrf, hrs⟩ := h1.st
    have c1 : w1.cell? ⟨b, 1, none⟩ = some vs := rd_cell hh rfl
    have hbs1 : base ≤ w1.heap.size := Nat.le_trans hbw hbs
    clear h1 hx0
    go_wp2_with (at_builtin; go_must (refine wpList_push rfl (.tmp 13) (.tmp 15) 39 rfl _ base 9 (.string ⟨#[]⟩) 16 Tryz.underlying39 Tryz.infoTx rfl _ _ _ (by rfl) hrs [.string x] _ (by rfl) (by simp) (by simp [Value.oneCell']) (by simp) (by rfl) (by decide) (by simp; omega) hbs1 ?_); intro g2 cap2 w2 hown2 hg2 hlt2; have hk2 := (Kept.refl _ _ _).grown hrs hg2 (Nat.le_refl _) hbs1; have hh2 := hk2.block hh (fun c fz e => by injection e with _ e2 _; exact absurd e2 (by decide)); have c2 : w2.cell? ⟨b, 1, none⟩ = some vs := rd_cell hh2 rfl; have f2 := rd_free hh2 1)
    have hb2 : Below base w w2 := hb01.trans hk2.below
    have hrf2 := kept_row hk2 (by decide) hrf
    have hh3 := rd_set (i := 1) (.slice (some ⟨g2, 0, none⟩) (S.length + 1) cap2) hh2
    have hrf3 := ownsRow_setCell_other hrf2 (a := ⟨b, 1, none⟩) (row_off hrf2 hh2 (by decide)) (.slice (some ⟨g2, 0, none⟩) (S.length + 1) cap2)
    have hrs3 := ownsRow_setCell_other hown2 (a := ⟨b, 1, none⟩) (row_off hown2 hh2 (by decide)) (.slice (some ⟨g2, 0, none⟩) (S.length + 1) cap2)
    go_end0
    refine ⟨rfl, ⟨_, _, hh3, hrf3, ?_⟩, (to_but hb2).setB _ _⟩
    rw [← HE.out, List.length_append, List.map_append]
    exact hrs3
end Go.Proofs.YtgbbkdflnlagaaaGreatDoor
