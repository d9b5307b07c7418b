/-
  A box goes, and more.
-/
import Derived.Test.YtfdlopimncodcaaGreatDoorMHsDeeds
import Derived.Test.YtfdlopimncodcaaGreatDoorMSeqBase
namespace Go.Proofs.YtfdlopimncodcaaGreatDoor
open Go.RowKit Go.Proofs.Aid

set_option maxHeartbeats 4000000 in
set_option maxRecDepth 100000 in
theorem delete_is (nB : Nm → Option Nm) (hb mb : Nat) (l : Bxs) (nx : Int) (wv : Value) (s : ByteArray) (w : World) (hN : NameC nB w) (h : HsAt w hb mb l nx wv) (hs : s.size ≤ 1000) (hl : l.length ≤ 1000) :
    Calls Tryz.prog 43 #[.pointer (some ⟨hb, 0, none⟩), .string s] w fun e w' =>
      (nB s.data.toList = none ∧ e = .returned (errN 1) ∧ Below w.heap.size w w') ∨
      (∃ r, nB s.data.toList = some r ∧ hasB l r = false ∧ e = .returned (errN 7) ∧ Below w.heap.size w w') ∨
      (∃ r, nB s.data.toList = some r ∧ hasB l r = true ∧ (r = inboxN ∨ withinB l r ≠ []) ∧ e = .returned (errN 6) ∧ Below w.heap.size w w') ∨
      (∃ r, nB s.data.toList = some r ∧ hasB l r = true ∧ r ≠ inboxN ∧ withinB l r = [] ∧ e = .returned .nilIface ∧ HK hb mb w w' ∧ HsAt w' hb mb (delB l r) nx wv) := by
  have cT := there_is nB hb mb l nx wv s w hN h hs
  have HH : Hid (HsAt w hb mb l nx wv) := h
  clear hN h
  go_enter Tryz.func43, Tryz.ntmps43
  go_wp2_with fail
  refine cT.mono ?_
  rintro e w1 ⟨hb1, ⟨r, hr, hr2, hr3, rfl⟩ | ⟨r, hr, hr3, rfl⟩ | ⟨hr, rfl⟩⟩
  · have h1 := HH.out.below hb1 (Nat.le_refl _)
    have cW := within_is hb mb l nx wv r w1 h1 hl (by omega)
    by_cases hin : r.data.toList = inboxN
    · have hE : r.toList = [73, 78, 66, 79, 88] := by rw [Lib.toList_data]; exact hin
      have HR : Hid (nB s.data.toList = some r.data.toList ∧ hasB l r.data.toList = true ∧ r.data.toList = inboxN ∧ Below w.heap.size w w1) := ⟨hr, hr3, hin, hb1⟩
      clear cT cW hr hr3 hb1 h1 hin
      go_wp2_with fail
      go_ret
      exact Or.inr (Or.inr (Or.inl ⟨_, HR.out.1, HR.out.2.1, Or.inl HR.out.2.2.1, rfl, HR.out.2.2.2⟩))
    · have hE : ¬ r.toList = [73, 78, 66, 79, 88] := by rw [Lib.toList_data]; exact hin
      have hE2 : (r.toList == [73, 78, 66, 79, 88]) = false := beq_eq_false_iff_ne.2 hE
      have HR : Hid (nB s.data.toList = some r.data.toList ∧ hasB l r.data.toList = true ∧ r.data.toList ≠ inboxN ∧ Below w.heap.size w w1 ∧ HsAt w1 hb mb l nx wv) := ⟨hr, hr3, hin, hb1, h1⟩
      clear cT hr hr3 hb1 h1 hin
      go_wp2_with fail
      refine cW.mono ?_
      rintro e w2 ⟨⟨v, rfl, hrow⟩, hb2⟩
      obtain ⟨LL, hLL⟩ : ∃ n, (withinB l r.data.toList).length = n := ⟨_, rfl⟩
      unfold NRow at hrow
      rw [hLL] at hrow
      obtain ⟨oa, oc, rfl⟩ := row_form hrow
      have hB2 : Below w.heap.size w w2 := HR.out.2.2.2.1.trans (hb2.mono HR.out.2.2.2.1.size)
      have h2 := HR.out.2.2.2.2.below hb2 (Nat.le_refl _)
      by_cases h0 : LL = 0
      · have d0 : decide ((0 : Int) < (LL : Int)) = false := decide_eq_false (by omega)
        obtain ⟨W3, hp, hm3, ht⟩ := mp_del h2.2 r (by omega) 0
        have c0 := h2.cell.1
        have HQ : Hid (withinB l r.data.toList = [] ∧ HK hb mb w W3 ∧ HsAt W3 hb mb (delB l r.data.toList) nx wv) := ⟨List.eq_nil_of_length_eq_zero (by omega), (HK.of hB2).trans (HK.turned ht), ((turned_but ht).block hb h2.lt h2.ne).trans h2.1, hm3⟩
        clear hrow hb2 hB2 h2 hm3 ht hLL cW
        go_wp2_with fail
        go_ret
        exact Or.inr (Or.inr (Or.inr ⟨_, HR.out.1, HR.out.2.1, HR.out.2.2.1, HQ.out.1, rfl, HQ.out.2.1, HQ.out.2.2⟩))
      · have d0 : decide ((0 : Int) < (LL : Int)) = true := decide_eq_true (by omega)
        have HQ : Hid (withinB l r.data.toList ≠ [] ∧ Below w.heap.size w w2) := ⟨fun e => by rw [e] at hLL; exact h0 hLL.symm, hB2⟩
        clear hrow hb2 hB2 h2 hLL cW
        go_wp2_with fail
        go_ret
        exact Or.inr (Or.inr (Or.inl ⟨_, HR.out.1, HR.out.2.1, Or.inr HQ.out.1, rfl, HQ.out.2⟩))
  · have HR : Hid (nB s.data.toList = some r.data.toList ∧ hasB l r.data.toList = false ∧ Below w.heap.size w w1) := ⟨hr, hr3, hb1⟩
    clear cT hr hr3 hb1
    go_wp2_with fail
    go_ret
    exact Or.inr (Or.inl ⟨_, HR.out.1, HR.out.2.1, rfl, HR.out.2.2⟩)
  · have HR : Hid (nB s.data.toList = none ∧ Below w.heap.size w w1) := ⟨hr, hb1⟩
    clear cT hr hb1
    go_wp2_with fail
    go_ret
    exact Or.inl ⟨HR.out.1, rfl, HR.out.2⟩
end Go.Proofs.YtfdlopimncodcaaGreatDoor
namespace Go.Proofs.YtfdlopimncodcaaGreatDoor
open Go.RowKit Go.Proofs.Aid

theorem run_store_func (P : Program) (w : World) (a : Addr) (f : Nat) (bs : Array Value) (old : Value) (h : w.cell? a = some old) (hf : w.frozen? a = false) : (store a (.func (.func f) #[] bs)).run P w = .ok () (w.setCell a (.func (.func f) #[] bs)) := by
  rw [run_store P w a _ _ rfl, h, hf]
  rfl
end Go.Proofs.YtfdlopimncodcaaGreatDoor
