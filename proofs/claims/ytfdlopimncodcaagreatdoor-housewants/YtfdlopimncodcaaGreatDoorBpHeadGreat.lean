/-
  What head, and more.
-/
import Derived.Test.YtfdlopimncodcaaGreatDoorMHeadMoved
import Derived.Test.YtfdlopimncodcaaGreatDoorSeqSpec
import Derived.Lib.SplitLaws
namespace Go.Proofs.YtfdlopimncodcaaGreatDoor
open Go.RowKit Go.Proofs.Aid Go.Proofs.Hd Go.Proofs.Sq
theorem great_is (s : ByteArray) (w : World) (hs : s.size ≤ 2000000) :
    Calls Tryz.prog 62 #[.string s] w fun e w' => e = .returned (.string ⟨(great s.data.toList).toArray⟩) ∧ Below w.heap.size w w' := by
  have c := moved_any 97 65 (by decide) (by decide) s w hs
  rw [show s.data.toList.map (mv 97 65) = great s.data.toList from List.map_congr_left fun c _ => mv_gr c] at c
  go_enter Tryz.func62, Tryz.ntmps62
  go_wp2_with fail
  refine c.mono ?_
  rintro e w1 ⟨rfl, hb⟩
  go_wp2_with fail
  go_ret
  exact ⟨rfl, hb⟩
end Go.Proofs.YtfdlopimncodcaaGreatDoor
namespace Go.Proofs.Sq

theorem splitK_cut (c : UInt8) (k : Nat) (s : List UInt8) : Lib.splitK [c] 0 (k + 1) s = if (cutAt c s).2.2 = false then [s] else (cutAt c s).1 :: Lib.splitK [c] 0 k (cutAt c s).2.1 := by
  rw [← cut_eq, Lib.splitK]
  by_cases h : Lib.index s [c] = -1
  · have e : Lib.cut s [c] = (s, [], false) := by rw [Lib.cut, if_neg (by omega)]
    rw [if_pos (beq_iff_eq.2 h), e, if_pos rfl]
  · have hge := Lib.index_ge s [c]
    have e : Lib.cut s [c] = (s.take (Lib.index s [c]).toNat, s.drop ((Lib.index s [c]).toNat + [c].length), true) := by rw [Lib.cut, if_pos (by omega)]
    rw [if_neg (fun e => h (beq_iff_eq.1 e)), e, if_neg (by simp)]
    rfl
theorem splitK_all (c : UInt8) : ∀ (k : Nat) (s : List UInt8), s.count c ≤ k → Lib.splitK [c] 0 k s = between c s
  | 0, s, h => by
    have : c ∉ s := fun hm => by have := List.count_pos_iff.2 hm; omega
    rw [between_none this]; rfl
  | k + 1, s, h => by
    rw [splitK_cut]
    cases hc : (cutAt c s).2.2 with
    | false => rw [if_pos rfl, (cutAt_miss hc).2.2]
    | true =>
      obtain ⟨h1, h2⟩ := cutAt_hit hc
      have h3 : (cutAt c s).2.1.count c ≤ k := by
        have := congrArg (List.count c) h1
        rw [List.count_append, List.count_cons_self] at this
        omega
      rw [if_neg (by simp), splitK_all c k _ h3, h2]
theorem split_between (c : UInt8) (s : ByteArray) : (Lib.splitB ⟨#[c]⟩ 0 (Lib.countB s ⟨#[c]⟩) s).map (·.data.toList) = between c s.data.toList := by
  rw [Lib.splitB_data]
  refine splitK_all c _ _ ?_
  have : Lib.countB s ⟨#[c]⟩ = Lib.count s.data.toList [c] := rfl
  rw [this, Lib.count_one]
  exact Nat.le_refl _
theorem split_two (c : UInt8) (s : ByteArray) : (Lib.splitB ⟨#[c]⟩ 0 (min 2 (s.size + 1) - 1) s).map (·.data.toList) = if (cutAt c s.data.toList).2.2 = false then [s.data.toList] else [(cutAt c s.data.toList).1, (cutAt c s.data.toList).2.1] := by
  rw [Lib.splitB_data]
  by_cases h : s.size = 0
  · have hd : s.data.toList = [] := by
      have : s.data.size = 0 := h
      rw [Array.size_eq_length_toList] at this
      exact List.eq_nil_of_length_eq_zero this
    rw [h, hd]
    rfl
  · rw [show min 2 (s.size + 1) - 1 = 0 + 1 by omega]
    show Lib.splitK [c] 0 (0 + 1) _ = _
    rw [splitK_cut]
    rfl
end Go.Proofs.Sq
