/-
  What utf7.Right answers: whether a name may be.
-/
import Derived.Test.YtfdlopimncodcaaGreatDoorBpBoxSpec
import Derived.Test.YtfdlopimncodcaaGreatDoorBpRunes
import Derived.Test.YtfdlopimncodcaaGreatDoorBpFlagsSl
namespace Go.Proofs.YtfdlopimncodcaaGreatDoor
open Go.RowKit Go.Proofs.Aid Go.Proofs.Ut

/-- The tables of package utf8. -/
def Tabs (w : World) : Prop := Lib.Utf8Tabs 2 3 w
theorem Tabs.below {w w' : World} (h : Tabs w) (hb : Below w.heap.size w w') : Tabs w' := Utf8Tabs_below h hb

theorem drop_ne (s : ByteArray) (pos : Nat) (h : pos < s.size) : s.data.toList.drop pos ≠ [] := by
  intro e
  have := congrArg List.length e
  have hs : s.data.toList.length = s.size := (Lib.size_eq s).symm
  simp only [List.length_drop, List.length_nil] at this
  omega
theorem drop_nil (s : ByteArray) (pos : Nat) (h : ¬ pos < s.size) : s.data.toList.drop pos = [] := by
  apply List.drop_eq_nil_of_le
  have hs : s.data.toList.length = s.size := (Lib.size_eq s).symm
  omega
theorem runes_at (s : ByteArray) (pos : Nat) (h : pos < s.size) : runes (s.data.toList.drop pos) = (Utf8.decode s pos).1 :: runes (s.data.toList.drop (pos + (Utf8.decode s pos).2)) := by
  rw [runes_step _ (drop_ne s pos h), Lib.decodeL_drop, List.drop_drop]

set_option maxHeartbeats 1000000 in
set_option maxRecDepth 100000 in
theorem right_any (s : ByteArray) (w : World) (hs : s.size ≤ 4611686018427387904) (hT : Tabs w) :
    Calls Tryz.prog 60 #[.string s] w fun e w' => e = .returned (.bool (rightB s.data.toList)) ∧ Below w.heap.size w w' := by
  have hsl : s.data.toList.length = s.size := (Lib.size_eq s).symm
  by_cases h1 : 1 ≤ s.size
  · by_cases h60 : s.size ≤ 60
    · have cV := Tryz.utf8_ValidString s w (by omega) hT
      have hr : rightB s.data.toList = (Lib.validD s.data.toList && (runes s.data.toList).all okRune) := by
        simp [rightB, hsl, h1, h60]
      rw [hr]
      clear hr hsl
      by_cases hv : Lib.validD s.data.toList = true
      · rw [hv] at cV ⊢
        rw [Bool.true_and]
        obtain ⟨ANS, hANS⟩ : ∃ ANS, (runes s.data.toList).all okRune = ANS := ⟨_, rfl⟩
        rw [hANS]
        go_enter Tryz.func60, Tryz.ntmps60
        go_wp2_with (go_at_call 111; refine cV.mono ?_; rintro e w1 ⟨rfl, hb1⟩)
        clear cV hv
        go_loopw [] (fun wr => ∃ pos : Nat, wr.heap[w1.heap.size]? = some (.stringIter s pos) ∧ Below w.heap.size w wr ∧ (runes (s.data.toList.drop pos)).all okRune = ANS) (fun wr => s.size - wr.iterPos w1.heap.size)
        case atStart =>
          refine ⟨0, World.iter_heap w1 s 0, ?_, by simpa using hANS⟩
          exact hb1.alloc hb1.size _
        case round =>
          obtain ⟨pos, hit, hbw, hall⟩ := hrel
          clear hANS
          have hsz1 : w.heap.size ≤ w1.heap.size := hb1.size
          by_cases hp : pos < s.size
          · have hnx : ∀ ty, (Instr.next (.pointer (some ⟨w1.heap.size, 0, none⟩)) true ty).run Tryz.prog wr = _ := fun ty => Lib.run_next_any_at wr w1.heap.size s pos ty hit hp
            have hra := runes_at s pos hp
            have hwd : 1 ≤ (Utf8.decode s pos).2 := by have := Lib.decodeL_width (s.data.toList.drop pos); rw [Lib.decodeL_drop] at this; exact this
            rw [hra, List.all_cons] at hall
            have HA : Hid ((okRune (Utf8.decode s pos).1 && (runes (s.data.toList.drop (pos + (Utf8.decode s pos).2))).all okRune) = ANS) := hall
            have hit2 := Lib.iterAt_heap wr w1.heap.size s pos (pos + (Utf8.decode s pos).2) hit
            have hbw2 := Lib.below_iterAt hbw (k := w1.heap.size) (by omega) s (pos + (Utf8.decode s pos).2)
            clear hra hall
            by_cases hok : okRune (Utf8.decode s pos).1 = true
            · have hok2 : (32 ≤ (Utf8.decode s pos).1 ∧ (Utf8.decode s pos).1 < 127) ∨ 159 < (Utf8.decode s pos).1 := by
                simp [okRune] at hok; omega
              rcases hok2 with ⟨hk1, hk2⟩ | hk1
              all_goals
                go_wp2
                go_roundw
                case rel =>
                  refine ⟨_, hit2, hbw2, ?_⟩
                  have := HA.out
                  rw [hok, Bool.true_and] at this
                  exact this
                case measure =>
                  simp only [World.iterPos, hit2, hit]
                  omega
            · have hok2 : (Utf8.decode s pos).1 < 32 ∨ (127 ≤ (Utf8.decode s pos).1 ∧ (Utf8.decode s pos).1 ≤ 159) := by
                simp [okRune] at hok; omega
              have hans : ANS = false := by
                have := HA.out
                rw [Bool.not_eq_true] at hok
                rw [hok, Bool.false_and] at this
                exact this.symm
              subst hans
              rcases hok2 with hk1 | ⟨hk1, hk2⟩
              all_goals
                go_wp2
                go_ret
                exact ⟨rfl, hbw2⟩
          · have hnx : ∀ ty, (Instr.next (.pointer (some ⟨w1.heap.size, 0, none⟩)) true ty).run Tryz.prog wr = _ := fun ty => Lib.run_next_end_at wr w1.heap.size s pos ty hit hp
            rw [drop_nil s pos hp] at hall
            have hans : ANS = true := hall.symm
            subst hans
            go_wp2
            go_ret
            exact ⟨rfl, hbw⟩
      · rw [Bool.not_eq_true] at hv
        rw [hv] at cV ⊢
        rw [Bool.false_and]
        go_enter Tryz.func60, Tryz.ntmps60
        go_wp2_with (go_at_call 111; refine cV.mono ?_; rintro e w1 ⟨rfl, hb1⟩)
        go_ret
        exact ⟨rfl, by assumption⟩
    · have hr : rightB s.data.toList = false := by simp [rightB, hsl, h60]
      rw [hr]
      clear hsl
      go_enter Tryz.func60, Tryz.ntmps60
      go_wp2
      go_ret
      exact ⟨rfl, Below.refl _ _⟩
  · have hr : rightB s.data.toList = false := by simp [rightB, hsl, h1]
    rw [hr]
    clear hsl
    go_enter Tryz.func60, Tryz.ntmps60
    go_wp2
    go_ret
    exact ⟨rfl, Below.refl _ _⟩
end Go.Proofs.YtfdlopimncodcaaGreatDoor
