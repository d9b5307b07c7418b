/-
  What the statement's sameRanges says of ranges that are the same.
-/
import Derived.Test.YtefgpafoajoofaaGreatDoorSeqBase
import Derived.Deep.QuietTactic
import Derived.BigQuiet
namespace Go.Proofs.YtefgpafoajoofaaGreatDoor
open Go.RowKit Go.Proofs.Aid Go.Proofs.Sq

set_option maxHeartbeats 1000000 in
set_option maxRecDepth 100000 in
theorem same_ranges (v u : Value) (l : List (Int × Int)) (w : World) (h : Rg w v l) (h' : Rg w u l) (hl : l.length ≤ 1000) :
    Calls Tryz.prog 9 #[v, u] w fun e w' => e = .returned (.bool true) ∧ Below w.heap.size w w' := by
  obtain ⟨a, c, rfl, ha⟩ := h
  obtain ⟨a', c', rfl, ha'⟩ := h'
  obtain ⟨len, hn⟩ : ∃ n, l.length = n := ⟨_, rfl⟩
  rw [hn] at hl ⊢
  go_enter Tryz.func9, Tryz.ntmps9
  go_wp2
  go_loopw [5] (fun i wr => ∃ k : Nat, i = .int .i64 (k : Int) ∧ k ≤ len ∧ Below w.heap.size w wr) (fun i _ => len - (intOf i).toNat)
  case atStart => exact ⟨0, rfl, by omega, Below.refl _ _⟩
  case round =>
    obtain ⟨k, rfl, hk, hb⟩ := hrel
    by_cases hlt : k < len
    · rcases ha with rfl | ⟨b, o, rfl, hat⟩
      · simp at hn; omega
      rcases ha' with rfl | ⟨b', o', rfl, hat'⟩
      · simp at hn; omega
      have hlk : l[k]? = some l[k] := List.getElem?_eq_getElem _
      obtain ⟨c1, c2⟩ := (hat.below hb (Nat.le_refl _)) k _ hlk
      obtain ⟨c3, c4⟩ := (hat'.below hb (Nat.le_refl _)) k _ hlk
      obtain ⟨⟨x, y⟩, hxy⟩ : ∃ p, l[k]'(by omega) = p := ⟨_, rfl⟩
      rw [hxy] at c1 c2 c3 c4
      simp only at c1 c2 c3 c4
      have hltI : (k : Int) < (len : Int) := by omega
      have h0I : (0 : Int) ≤ (k : Int) := by omega
      clear hlk hat hat'
      go_wp2
      go_quiet (fail)
      go_wp2
      go_roundw
      case rel => exact ⟨k + 1, by go_num, by omega, below_drewN hb _⟩
      case measure => simp [intOf]; omega
    · clear ha ha'
      go_wp2
      go_ret
      exact ⟨rfl, hb⟩
end Go.Proofs.YtefgpafoajoofaaGreatDoor
