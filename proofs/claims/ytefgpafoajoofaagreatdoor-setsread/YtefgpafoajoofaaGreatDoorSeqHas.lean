/-
  What seq.Has does.
-/
import Derived.Test.YtefgpafoajoofaaGreatDoorSeqBase
import Derived.Deep.QuietTactic
import Derived.BigQuiet
namespace Go.Proofs.YtefgpafoajoofaaGreatDoor
open Go.RowKit Go.Proofs.Aid Go.Proofs.Sq

theorem meant_any (g n : Int) (B : Nat) (w : World) (h : w.cell? ⟨B, 0, none⟩ = some (.int .i64 g)) :
    Calls Tryz.prog 64 #[.int .i64 n, .pointer (some ⟨B, 0, none⟩)] w fun e w' => e = .returned (.int .i64 (meant g n)) ∧ w' = w := by
  by_cases h0 : n = 0
  · rw [show meant g n = g from if_pos h0]
    subst h0
    go_enter Tryz.func64, Tryz.ntmps64
    go_wp2
    go_ret
    exact ⟨rfl, rfl⟩
  · rw [show meant g n = n from if_neg h0]
    go_enter Tryz.func64, Tryz.ntmps64
    go_wp2
    go_ret
    exact ⟨rfl, rfl⟩
theorem has_yes {p q n : Int} {r ANS : Bool} (h : Hid ((decide (min p q ≤ n ∧ n ≤ max p q) || r) = ANS)) (h1 : min p q ≤ n ∧ n ≤ max p q) : true = ANS := by
  have h2 : (decide (min p q ≤ n ∧ n ≤ max p q) || r) = ANS := h
  rw [decide_eq_true h1] at h2; simpa using h2
theorem has_no {p q n : Int} {r ANS : Bool} (h : Hid ((decide (min p q ≤ n ∧ n ≤ max p q) || r) = ANS)) (h1 : ¬ (min p q ≤ n ∧ n ≤ max p q)) : r = ANS := by
  have h2 : (decide (min p q ≤ n ∧ n ≤ max p q) || r) = ANS := h
  rw [decide_eq_false h1] at h2; simpa using h2
set_option maxHeartbeats 1000000 in
set_option maxRecDepth 100000 in
theorem has_any (v : Value) (l : List (Int × Int)) (n g : Int) (w : World) (h : Rg w v l) (hl : l.length ≤ 1000) :
    Calls Tryz.prog 14 #[v, .int .i64 n, .int .i64 g] w fun e w' => e = .returned (.bool (hasSet n g l)) ∧ Below w.heap.size w w' := by
  obtain ⟨a, c, rfl, ha⟩ := h
  obtain ⟨ANS, hANS⟩ : ∃ ANS, hasSet n g l = ANS := ⟨_, rfl⟩
  rw [hANS]
  obtain ⟨len, hn⟩ : ∃ n, l.length = n := ⟨_, rfl⟩
  rw [hn] at hl ⊢
  go_enter Tryz.func14, Tryz.ntmps14
  go_wp2
  go_loopw [15] (fun i wr => ∃ k : Nat, i = .int .i64 (k : Int) ∧ k ≤ len ∧ hasSet n g (l.drop k) = ANS ∧ Below w.heap.size w wr ∧ wr.cell? ⟨w.heap.size, 0, none⟩ = some (.int .i64 g)) (fun i _ => len - (intOf i).toNat)
  case atStart => exact ⟨0, rfl, by omega, by simpa using hANS, (Below.refl _ _).alloc (Nat.le_refl _) _, by simp⟩
  case round =>
    obtain ⟨k, rfl, hk, hd, hb, hg⟩ := hrel
    by_cases hlt : k < len
    · rcases ha with rfl | ⟨b, o, rfl, hat⟩
      · simp at hn; omega
      have hlk : l[k]? = some l[k] := List.getElem?_eq_getElem _
      obtain ⟨c1, c2⟩ := (hat.below hb (Nat.le_refl _)) k _ hlk
      rw [List.drop_eq_getElem_cons (by omega), hasSet, List.any_cons] at hd
      obtain ⟨⟨x, y⟩, hxy⟩ : ∃ p, l[k]'(by omega) = p := ⟨_, rfl⟩
      rw [hxy] at c1 c2 hd
      simp only at c1 c2
      rw [show hasR n g (x, y) = decide (min (meant g x) (meant g y) ≤ n ∧ n ≤ max (meant g x) (meant g y)) from rfl] at hd
      have hlt2 : w.heap.size < wr.heap.size := World.block_lt_of_cell? _ _ hg
      have m1 : ∀ N w', w'.cell? ⟨w.heap.size, 0, none⟩ = some (.int .i64 g) → Calls Tryz.prog 64 #[.int .i64 N, .pointer (some ⟨w.heap.size, 0, none⟩)] w' fun e w'' => e = .returned (.int .i64 (meant g N)) ∧ w'' = w' := fun N w' h => meant_any g N _ w' h
      clear hANS hlk hxy hat
      go_wp2
      have hg2 : (wr.alloc (.cells #[.int .i64 x, .int .i64 y] 78)).cell? ⟨w.heap.size, 0, none⟩ = some (.int .i64 g) := by
        rw [World.cell?_alloc_old _ _ _ (Nat.ne_of_lt hlt2)]; exact hg
      have k1 : (wr.alloc (.cells #[.int .i64 x, .int .i64 y] 78)).cell? ⟨wr.heap.size, 0, none⟩ = some (.int .i64 x) := by simp
      have k2 : (wr.alloc (.cells #[.int .i64 x, .int .i64 y] 78)).cell? ⟨wr.heap.size, 1, none⟩ = some (.int .i64 y) := by simp
      have hb2 : Below w.heap.size w (wr.alloc (.cells #[.int .i64 x, .int .i64 y] 78)) := hb.alloc hb.size _
      generalize wr.alloc (.cells #[.int .i64 x, .int .i64 y] 78) = W at hg2 k1 k2 hb2 ⊢
      go_quiet (first | (go_at_call 64; refine Calls.quiet_of_same (m1 _ _ ?_); simpa using hg2))
      generalize meant g x = p at hd ⊢
      generalize meant g y = q at hd ⊢
      have HDs : Hid ((decide (min p q ≤ n ∧ n ≤ max p q) || List.any (List.drop (k + 1) l) (hasR n g)) = ANS) := hd
      clear hd
      go_wp2
      all_goals first
        | (go_ret; exact ⟨congrArg (fun b => Ending.returned (Value.bool b)) (has_yes HDs (by omega)), below_drewN hb2 _⟩)
        | (go_roundw
           case rel => exact ⟨k + 1, by go_num, by omega, has_no HDs (by omega), below_drewN hb2 _, by simpa using hg2⟩
           case measure => simp [intOf]; omega)
    · have HD : Hid (false = ANS) := by
        show false = ANS
        rw [List.drop_eq_nil_of_le (by omega)] at hd
        simpa [hasSet] using hd
      clear hd hANS ha
      go_wp2
      go_ret
      exact ⟨congrArg (fun b => Ending.returned (Value.bool b)) HD, hb⟩
end Go.Proofs.YtefgpafoajoofaaGreatDoor
