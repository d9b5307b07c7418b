/-
  What the method arg of wire.reader does.
-/
import Derived.Test.YtligkpcoajnjmaaDoorWireList
import Derived.Test.YtligkpcoajnjmaaDoorWireBound
import Derived.Test.YtligkpcoajnjmaaDoorSixAid
namespace Go.Proofs.YtligkpcoajnjmaaDoor
open Go.RowKit Go.Proofs.Aid Go.Proofs.Hd

theorem three_other (W : World) {R k : Nat} (h : k ≠ R) (x0 x1 x2 : Value) : (((W.setCell ⟨R, 0, none⟩ x0).setCell ⟨R, 1, none⟩ x1).setCell ⟨R, 2, none⟩ x2).heap[k]? = W.heap[k]? := by
  rw [Below.heap_setCell _ _ _ _ h, Below.heap_setCell _ _ _ _ h, Below.heap_setCell _ _ _ _ h]
theorem three_but {base rb R : Nat} {w W : World} (h : But base rb w W) (hR : base ≤ R) (x0 x1 x2 : Value) : But base rb w (((W.setCell ⟨R, 0, none⟩ x0).setCell ⟨R, 1, none⟩ x1).setCell ⟨R, 2, none⟩ x2) :=
  h.trans (to_but (((((Below.refl base W).setCell (p := ⟨R, 0, none⟩) hR x0).setCell (p := ⟨R, 1, none⟩) hR x1).setCell (p := ⟨R, 2, none⟩) hR x2)))
theorem three_facts {W : World} {R : Nat} {a0 a1 a2 : Value} {t : TypeId} (hh : W.heap[R]? = some (.cells #[a0, a1, a2] t (0, 0))) (x0 x1 x2 : Value) :
    (W.cell? ⟨R, 0, none⟩ = some a0 ∧ W.cell? ⟨R, 1, none⟩ = some a1 ∧ W.cell? ⟨R, 2, none⟩ = some a2) ∧
    (W.frozen? ⟨R, 0, none⟩ = false ∧ W.frozen? ⟨R, 1, none⟩ = false ∧ W.frozen? ⟨R, 2, none⟩ = false) ∧
    ((W.setCell ⟨R, 0, none⟩ x0).cell? ⟨R, 0, none⟩ = some x0 ∧ ((W.setCell ⟨R, 0, none⟩ x0).setCell ⟨R, 1, none⟩ x1).cell? ⟨R, 1, none⟩ = some x1 ∧ (((W.setCell ⟨R, 0, none⟩ x0).setCell ⟨R, 1, none⟩ x1).setCell ⟨R, 2, none⟩ x2).cell? ⟨R, 2, none⟩ = some x2) := by
  have h0 := rd_set (i := 0) x0 hh
  have h1 := rd_set (i := 1) x1 h0
  exact ⟨⟨rd_cell hh rfl, rd_cell hh rfl, rd_cell hh rfl⟩, ⟨rd_free hh 0, rd_free hh 1, rd_free hh 2⟩, setm_read hh (by simp) x0, setm_read h0 (by simp) x1, setm_read h1 (by simp) x2⟩
/-- What a reader's functions read of the world besides: it stays, whatever the reader in block rb does. -/
def EnvW (w : World) (rb : Nat) (m : Int) : Prop := ∀ W, But w.heap.size rb w W → NumAt W ∧ W.cell? ⟨0, 0, none⟩ = some (.int .i64 m)
theorem EnvW.next {w W : World} {rb : Nat} {m : Int} (h : EnvW w rb m) (hb : But w.heap.size rb w W) : EnvW W rb m := fun W' h' => h W' (hb.trans (h'.less hb.size))
/-- arg has begun: a cell for its answer, one more is counted. -/
theorem arg_begun (rb p c : Nat) (s : ByteArray) (w : World) (hr : RdW w rb s p c) :
    ∃ W1 W2, w.alloc (.cells #[.int .i64 0, .string ⟨#[]⟩, .slice none 0 0] 68) = W1 ∧ W1.setCell ⟨rb, 2, none⟩ (.int .i64 ((c : Int) + 1)) = W2 ∧
      W1.cell? ⟨rb, 2, none⟩ = some (.int .i64 (c : Int)) ∧ W1.frozen? ⟨rb, 2, none⟩ = false ∧ W2.cell? ⟨rb, 2, none⟩ = some (.int .i64 ((c : Int) + 1)) ∧
      W2.heap.size = w.heap.size + 1 ∧ RdW W2 rb s p (c + 1) ∧ But w.heap.size rb w W2 ∧
      W2.heap[w.heap.size]? = some (.cells #[.int .i64 0, .string ⟨#[]⟩, .slice none 0 0] 68 (0, 0)) := by
  have hrb := hr.lt
  have b1 : Below w.heap.size w (w.alloc (.cells #[.int .i64 0, .string ⟨#[]⟩, .slice none 0 0] 68)) := (Below.refl _ _).alloc (Nat.le_refl _) _
  have e1 := heap_alloc_new w (.cells #[.int .i64 0, .string ⟨#[]⟩, .slice none 0 0] 68)
  have z1 : (w.alloc (.cells #[.int .i64 0, .string ⟨#[]⟩, .slice none 0 0] 68)).heap.size = w.heap.size + 1 := by simp
  generalize w.alloc (.cells #[.int .i64 0, .string ⟨#[]⟩, .slice none 0 0] 68) = W1 at b1 e1 z1
  have hr1 : RdW W1 rb s p c := hr.kept (b1.block rb hrb)
  have hs := rd_set (i := 2) (.int .i64 ((c : Int) + 1)) hr1
  refine ⟨W1, _, rfl, rfl, rd_cell hr1 rfl, rd_free hr1 2, setm_read hr1 (by simp) _, by simpa using z1, hs, (to_but b1).setB 2 _, ?_⟩
  rw [Below.heap_setCell _ _ _ _ (show w.heap.size ≠ rb by omega)]
  exact e1
theorem arg_done {w w3 : World} {rb p c : Nat} {s : ByteArray} {k : Int} {t : Tx} {l : List Sr.Ar} {tb : ByteArray} {lv : Value} (hrb : rb < w.heap.size) (htb : tb.data.toList = t) (hl : Agw w3 (fun q => w.heap.size + 1 ≤ q) l lv) (hr : RdW w3 rb s p c) (hb : But w.heap.size rb w w3) :
    OutA w rb s (.ok (.mk k t l) p c) (.returned (.agg #[.int .i64 k, .string tb, lv])) (((w3.setCell ⟨w.heap.size, 0, none⟩ (.int .i64 k)).setCell ⟨w.heap.size, 1, none⟩ (.string tb)).setCell ⟨w.heap.size, 2, none⟩ lv) :=
  ⟨[.int .i64 k, .string tb, lv], rfl, ⟨tb, lv, rfl, htb, hl.kept fun q hq _ => ⟨by omega, three_other _ (by omega) _ _ _⟩⟩, hr.kept (three_other _ (by omega) _ _ _), three_but hb (Nat.le_refl _) _ _ _⟩
set_option maxHeartbeats 2000000 in
set_option maxRecDepth 100000 in
theorem arg_limit (rb p c d : Nat) (s : ByteArray) (w : World) (hr : RdW w rb s p c) (hc : c ≤ 1000) (hd : d ≤ 1000) (h : 6 < d ∨ 60 < c + 1) :
    Calls Tryd.prog 52 #[.pointer (some ⟨rb, 0, none⟩), .int .i64 (d : Int)] w fun e w' => OutA w rb s (.bad 4 p) e w' := by
  obtain ⟨W1, W2, hW1, hW2, p1, f1, q1, z2, hr2, hb2, hE2⟩ := arg_begun rb p c s w hr
  have cF := fail_is rb p (c + 1) 4 s W2 hr2
  unfold thrownA at cF
  have HB : Hid (But w.heap.size rb w W2 ∧ W2.heap.size = w.heap.size + 1) := ⟨hb2, z2⟩
  clear hr hr2 hb2 hE2 z2
  by_cases h1 : 60 < c + 1
  · have d2 : decide ((60 : Int) < (c : Int) + 1) = true := decide_eq_true (by omega)
    go_enter Tryd.func52, Tryd.ntmps52
    go_wp2_with fail
    refine cF.mono ?_
    rintro e w3 ⟨rfl, ha, hb3⟩
    have HD : Hid (AtIs w3 W2.heap.size 4 p ∧ But w.heap.size rb w w3) := ⟨ha, HB.out.1.trans (to_but (hb3.mono (by have := HB.out.2; omega)))⟩
    clear cF ha hb3
    go_wp2_with fail
    exact ⟨rfl, _, rfl, by have := HB.out.2; omega, HD.out⟩
  · have d2 : decide ((60 : Int) < (c : Int) + 1) = false := decide_eq_false (by omega)
    have d1 : decide ((6 : Int) < (d : Int)) = true := decide_eq_true (by omega)
    go_enter Tryd.func52, Tryd.ntmps52
    go_wp2_with fail
    refine cF.mono ?_
    rintro e w3 ⟨rfl, ha, hb3⟩
    have HD : Hid (AtIs w3 W2.heap.size 4 p ∧ But w.heap.size rb w w3) := ⟨ha, HB.out.1.trans (to_but (hb3.mono (by have := HB.out.2; omega)))⟩
    clear cF ha hb3
    go_wp2_with fail
    exact ⟨rfl, _, rfl, by have := HB.out.2; omega, HD.out⟩
end Go.Proofs.YtligkpcoajnjmaaDoor
