/-
  A copy of texts, as a slice; a new view: Open.
-/
import Derived.Test.YtkneeoaeoiaefaaDoorViewMeet
import Derived.Test.YtkneeoaeoiaefaaDoorFlagsOps
namespace Go.Proofs.YtkneeoaeoiaefaaDoor
open Go.RowKit Go.Proofs.Aid Go.Proofs.Bx

theorem clone_sl : CloneAt := fun v l w h hl => by
  refine (clone_txs v l w h hl).mono ?_
  rintro e w' ⟨⟨v', rfl, hr⟩, hb⟩
  exact ⟨⟨v', rfl, Sl.of_row hr⟩, hb⟩
set_option maxHeartbeats 1000000 in
theorem open_is (vv nn : Int) (lv : Value) (l : List Lt) (w : World) (hl : Lts w lv l) (hS : l.length ≤ 900) (hfl : ∀ x ∈ l, x.flags.length ≤ 1000) :
    Calls Tryd.prog 11 #[.agg #[.int .i64 vv, .int .i64 nn, lv]] w fun e w' =>
      ∃ vb sv, e = .returned (.pointer (some ⟨vb, 0, none⟩)) ∧ w.heap.size ≤ vb ∧ ViewAt w' vb sv (newS 0 l) ∧ (∀ q, sv.ownBlock = some q → w.heap.size ≤ q) ∧ Below w.heap.size w w' := by
  obtain ⟨la, lc, rfl, lcap, lrest⟩ := id hl
  obtain ⟨m, hm⟩ : ∃ m, l.length = m := ⟨_, rfl⟩
  rw [hm] at hl ⊢
  have b1 : Below w.heap.size w ((w.alloc (.cells #[.int .i64 vv, .int .i64 nn, .slice la m lc] 28)).alloc (.cells #[.slice none 0 0] 69)) := ((Below.refl _ _).alloc (Nat.le_refl _) _).alloc (by simp) _
  have e1 := heap_alloc_new (w.alloc (.cells #[.int .i64 vv, .int .i64 nn, .slice la m lc] 28)) (.cells #[.slice none 0 0] 69)
  have cM := meet_is clone_sl _ (.slice none 0 0) [] vv nn (.slice la m lc) l ((w.alloc (.cells #[.int .i64 vv, .int .i64 nn, .slice la m lc] 28)).alloc (.cells #[.slice none 0 0] 69)) ⟨e1, Sgs.nil _⟩ (hl.below b1 (Nat.le_refl _)) (by simp; omega) hfl
  rw [World.size_alloc] at cM
  have HB1 : Hid (Below w.heap.size w ((w.alloc (.cells #[.int .i64 vv, .int .i64 nn, .slice la m lc] 28)).alloc (.cells #[.slice none 0 0] 69))) := b1
  clear b1 e1 hl lrest lcap hfl hm
  go_enter Tryd.func11, Tryd.ntmps11
  go_wp2_with fail
  refine cM.mono ?_
  rintro e w1 ⟨rfl, sv, hv, hk, hn⟩
  have HV : Hid (w.heap.size ≤ w.heap.size + 1 ∧ ViewAt w1 (w.heap.size + 1) sv (newS 0 l) ∧ (∀ q, sv.ownBlock = some q → w.heap.size ≤ q) ∧ Below w.heap.size w w1) := by
    have hz : ((w.alloc (.cells #[.int .i64 vv, .int .i64 nn, .slice la m lc] 28)).alloc (.cells #[.slice none 0 0] 69)).heap.size = w.heap.size + 1 + 1 := by simp
    refine ⟨by omega, hv, fun q hq => ?_, HB1.out.trans ⟨hk.os, hk.tape, hk.output, hk.size, fun q hq => hk.block q (by omega) (by omega) (by simp [Value.ownBlock])⟩⟩
    rcases hn q hq with h | h
    · cases h
    · rw [hz] at h; omega
  clear cM hv hk hn
  go_wp2_with fail
  go_ret
  exact ⟨_, sv, rfl, HV.out⟩
end Go.Proofs.YtkneeoaeoiaefaaDoor
