/-
  The document's answer on what is one of a set.
-/
import Derived.Test.YtefgpafoajoofaaGreatDoorRefRanges
namespace Go.Proofs.YtefgpafoajoofaaGreatDoor
open Go.RowKit Go.Proofs.Aid Go.Proofs.Sq

theorem in_either {p q n : Int} : decide (min p q ≤ n ∧ n ≤ max p q) = (decide (p ≤ n ∧ n ≤ q) || decide (q ≤ n ∧ n ≤ p)) := by
  rw [Bool.eq_iff_iff, Bool.or_eq_true, decide_eq_true_eq, decide_eq_true_eq, decide_eq_true_eq]; omega
set_option maxHeartbeats 1000000 in
set_option maxRecDepth 100000 in
theorem ref_inset (v : Value) (l : List (Int × Int)) (n g : Int) (w : World) (h : Rg w v l) (hl : l.length ≤ 1000) :
    Calls Tryz.prog 15 #[v, .int .i64 n, .int .i64 g] w fun e w' => e = .returned (.bool (hasSet n g l)) ∧ Below w.heap.size w w' := by
  obtain ⟨a, c, rfl, ha⟩ := h
  obtain ⟨ANS, hANS⟩ : ∃ ANS, hasSet n g l = ANS := ⟨_, rfl⟩
  rw [hANS]
  obtain ⟨len, hn⟩ : ∃ n, l.length = n := ⟨_, rfl⟩
  rw [hn] at hl ⊢
  go_enter Tryz.func15, Tryz.ntmps15
  go_wp2
  go_loopw [11] (fun i wr => ∃ k : Nat, i = .int .i64 (k : Int) ∧ k ≤ len ∧ hasSet n g (l.drop k) = ANS ∧ Below w.heap.size w wr) (fun i _ => len - (intOf i).toNat)
  case atStart => exact ⟨0, rfl, by omega, by simpa using hANS, Below.refl _ _⟩
  case round =>
    obtain ⟨k, rfl, hk, hd, hb⟩ := hrel
    by_cases hlt : k < len
    · rcases ha with rfl | ⟨b, o, rfl, hat⟩
      · simp at hn; omega
      have hlk : l[k]? = some l[k] := List.getElem?_eq_getElem _
      obtain ⟨c1, c2⟩ := (hat.below hb (Nat.le_refl _)) k _ hlk
      rw [List.drop_eq_getElem_cons (by omega), hasSet, List.any_cons] at hd
      obtain ⟨⟨x, y⟩, hxy⟩ : ∃ p, l[k]'(by omega) = p := ⟨_, rfl⟩
      rw [hxy] at c1 c2 hd
      simp only at c1 c2
      rw [show hasR n g (x, y) = decide (min (meant g x) (meant g y) ≤ n ∧ n ≤ max (meant g x) (meant g y)) from rfl, in_either] at hd
      have m1 := ref_in n (meant g x) (meant g y)
      have m2 := ref_in n (meant g y) (meant g x)
      generalize decide (meant g x ≤ n ∧ n ≤ meant g y) = b1 at m1 hd
      generalize decide (meant g y ≤ n ∧ n ≤ meant g x) = b2 at m2 hd
      have HD : Hid ((b1 || b2 || (l.drop (k + 1)).any (hasR n g)) = ANS) := hd
      have hbs := hb.size
      clear hANS hlk hxy hat hd
      have hx : meant g x = if x = 0 then g else x := rfl
      have hy : meant g y = if y = 0 then g else y := rfl
      rw [hx, hy] at m1 m2
      clear hx hy
      by_cases hx0 : x = 0 <;> by_cases hy0 : y = 0
      all_goals
        simp only [hx0, hy0, if_true, if_false] at m1 m2 c1 c2
        go_wp2_with fail
        refine (m1 _).mono ?_
        rintro e w1 ⟨rfl, rfl⟩
        cases b1
        · go_wp2_with fail
          refine (m2 _).mono ?_
          rintro e w1 ⟨rfl, rfl⟩
          cases b2
          · go_wp2_with fail
            go_roundw
            case rel => exact ⟨k + 1, by go_num, by omega, by simpa [hasSet] using HD.out, by first | exact hb.alloc hbs _ | exact (hb.alloc hbs _).setCell hbs _ | exact ((hb.alloc hbs _).setCell hbs _).setCell hbs _⟩
            case measure => simp [intOf]; omega
          · go_wp2_with fail
            go_ret
            exact ⟨by rw [← HD.out]; simp, by first | exact hb.alloc hbs _ | exact (hb.alloc hbs _).setCell hbs _ | exact ((hb.alloc hbs _).setCell hbs _).setCell hbs _⟩
        · go_wp2_with fail
          go_ret
          exact ⟨by rw [← HD.out]; simp, by first | exact hb.alloc hbs _ | exact (hb.alloc hbs _).setCell hbs _ | exact ((hb.alloc hbs _).setCell hbs _).setCell hbs _⟩
    · have HD : Hid (false = ANS) := by
        show false = ANS
        rw [List.drop_eq_nil_of_le (by omega)] at hd
        simpa [hasSet] using hd
      clear hd hANS ha
      go_wp2
      go_ret
      exact ⟨congrArg (fun b => Ending.returned (Value.bool b)) HD, hb⟩
end Go.Proofs.YtefgpafoajoofaaGreatDoor
