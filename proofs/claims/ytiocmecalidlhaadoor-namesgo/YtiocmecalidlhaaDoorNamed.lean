/-
  What the document's answer to Right is: the same.
-/
import Derived.Test.YtiocmecalidlhaaDoorRight
namespace Go.Proofs.YtiocmecalidlhaaDoor
open Go.RowKit Go.Proofs.Aid Go.Proofs.Ut

set_option maxHeartbeats 400000 in
theorem in_any (n lo hi : Int) (w : World) : Calls Tryd.prog 14 #[.int .i64 n, .int .i64 lo, .int .i64 hi] w fun e w' => e = .returned (.bool (decide (lo ≤ n) && decide (n ≤ hi))) ∧ w' = w := by
  by_cases h1 : lo ≤ n
  · have h1d : decide (lo ≤ n) = true := decide_eq_true h1
    go_enter Tryd.func14, Tryd.ntmps14
    go_wp2
    go_ret
    exact ⟨by rw [h1d]; rfl, rfl⟩
  · have h1d : decide (lo ≤ n) = false := decide_eq_false h1
    go_enter Tryd.func14, Tryd.ntmps14
    go_wp2
    go_ret
    exact ⟨rfl, rfl⟩
theorem in_yes (n lo hi : Int) (w : World) (h1 : lo ≤ n) (h2 : n ≤ hi) : Calls Tryd.prog 14 #[.int .i64 n, .int .i64 lo, .int .i64 hi] w fun e w' => e = .returned (.bool true) ∧ w' = w := by
  refine (in_any n lo hi w).mono ?_
  rintro e w' ⟨rfl, rfl⟩
  exact ⟨by simp [h1, h2], rfl⟩
theorem in_no (n lo hi : Int) (w : World) (h : n < lo ∨ hi < n) : Calls Tryd.prog 14 #[.int .i64 n, .int .i64 lo, .int .i64 hi] w fun e w' => e = .returned (.bool false) ∧ w' = w := by
  refine (in_any n lo hi w).mono ?_
  rintro e w' ⟨rfl, rfl⟩
  refine ⟨?_, rfl⟩
  congr 2
  rw [Bool.and_eq_false_iff]
  rcases h with h | h
  · exact Or.inl (decide_eq_false (by omega))
  · exact Or.inr (decide_eq_false (by omega))

set_option maxHeartbeats 1000000 in
set_option maxRecDepth 100000 in
theorem named_any (s : ByteArray) (w : World) (hs : s.size ≤ 4611686018427387904) (hT : Tabs w) :
    Calls Tryd.prog 9 #[.string s] w fun e w' => e = .returned (.bool (rightB s.data.toList)) ∧ Below w.heap.size w w' := by
  have hsl : s.data.toList.length = s.size := (Lib.size_eq s).symm
  have hr : rightB s.data.toList = ((runes s.data.toList).all okRune && (decide (1 ≤ s.size) && decide (s.size ≤ 60) && Lib.validD s.data.toList)) := by
    simp only [rightB, hsl]
    rw [Bool.and_comm]
  rw [hr]
  clear hr hsl
  obtain ⟨ANS, hANS⟩ : ∃ ANS, (runes s.data.toList).all okRune = ANS := ⟨_, rfl⟩
  obtain ⟨FIN, hFIN⟩ : ∃ FIN, (ANS && (decide (1 ≤ s.size) && decide (s.size ≤ 60) && Lib.validD s.data.toList)) = FIN := ⟨_, rfl⟩
  rw [hANS, hFIN]
  have HF : Hid ((ANS && (decide (1 ≤ s.size) && decide (s.size ≤ 60) && Lib.validD s.data.toList)) = FIN) := hFIN
  clear hFIN
  go_enter Tryd.func9, Tryd.ntmps9
  go_wp2
  go_loopw [] (fun wr => ∃ pos : Nat, wr.heap[w.heap.size]? = some (.stringIter s pos) ∧ Below w.heap.size w wr ∧ (runes (s.data.toList.drop pos)).all okRune = ANS) (fun wr => s.size - wr.iterPos w.heap.size)
  case atStart =>
    refine ⟨0, World.iter_heap w s 0, ?_, by simpa using hANS⟩
    exact (Below.refl _ _).alloc (Nat.le_refl _) _
  case round =>
    obtain ⟨pos, hit, hbw, hall⟩ := hrel
    clear hANS
    by_cases hp : pos < s.size
    · have hnx : ∀ ty, (Instr.next (.pointer (some ⟨w.heap.size, 0, none⟩)) true ty).run Tryd.prog wr = _ := fun ty => Lib.run_next_any_at wr w.heap.size s pos ty hit hp
      have hra := runes_at s pos hp
      have hwd : 1 ≤ (Utf8.decode s pos).2 := by have := Lib.decodeL_width (s.data.toList.drop pos); rw [Lib.decodeL_drop] at this; exact this
      have hrm : (Utf8.decode s pos).1 ≤ 1114111 := by have := Lib.decodeL_rune (s.data.toList.drop pos); rw [Lib.decodeL_drop] at this; exact this
      rw [hra, List.all_cons] at hall
      have HA : Hid ((okRune (Utf8.decode s pos).1 && (runes (s.data.toList.drop (pos + (Utf8.decode s pos).2))).all okRune) = ANS) := hall
      have hit2 := Lib.iterAt_heap wr w.heap.size s pos (pos + (Utf8.decode s pos).2) hit
      have hbw2 := Lib.below_iterAt hbw (k := w.heap.size) (by omega) s (pos + (Utf8.decode s pos).2)
      clear hra hall
      by_cases hok : okRune (Utf8.decode s pos).1 = true
      · have hok2 : 32 ≤ (Utf8.decode s pos).1 ∧ ((Utf8.decode s pos).1 < 127 ∨ 159 < (Utf8.decode s pos).1) := by
          simp [okRune] at hok; omega
        obtain ⟨hk1, hk2⟩ := hok2
        have cN := fun w => in_no (Utf8.decode s pos).1 127 159 w (by omega)
        go_wp2_with (go_at_call 14; refine (cN _).mono ?_; rintro e w' ⟨rfl, rfl⟩)
        go_roundw
        case rel =>
          refine ⟨_, hit2, hbw2, ?_⟩
          have := HA.out
          rw [hok, Bool.true_and] at this
          exact this
        case measure =>
          simp only [World.iterPos, hit2, hit]
          omega
      · have hok2 : (Utf8.decode s pos).1 < 32 ∨ (127 ≤ (Utf8.decode s pos).1 ∧ (Utf8.decode s pos).1 ≤ 159) := by
          simp [okRune] at hok; omega
        have hans : ANS = false := by
          have := HA.out
          rw [Bool.not_eq_true] at hok
          rw [hok, Bool.false_and] at this
          exact this.symm
        subst hans
        have hfin : FIN = false := by have := HF.out; rw [Bool.false_and] at this; exact this.symm
        subst hfin
        rcases hok2 with hk1 | ⟨hk1, hk2⟩
        · go_wp2
          go_ret
          exact ⟨rfl, hbw2⟩
        · have cN := fun w => in_yes (Utf8.decode s pos).1 127 159 w (by omega) (by omega)
          go_wp2_with (go_at_call 14; refine (cN _).mono ?_; rintro e w' ⟨rfl, rfl⟩)
          go_ret
          exact ⟨rfl, hbw2⟩
    · have hnx : ∀ ty, (Instr.next (.pointer (some ⟨w.heap.size, 0, none⟩)) true ty).run Tryd.prog wr = _ := fun ty => Lib.run_next_end_at wr w.heap.size s pos ty hit hp
      rw [drop_nil s pos hp] at hall
      have hans : ANS = true := hall.symm
      subst hans
      have hTr : Tabs wr := hT.below hbw
      have cV := Tryd.utf8_ValidString s wr (by omega) hTr
      generalize Lib.validD s.data.toList = V at cV HF
      by_cases hl : 1 ≤ s.size ∧ s.size ≤ 60
      · obtain ⟨hl1, hl2⟩ := hl
        have cN := fun w => in_yes s.size 1 60 w (by omega) (by omega)
        have hfin : FIN = V := by have := HF.out; simp [hl1, hl2] at this; exact this.symm
        subst hfin
        go_wp2_with (first | (go_at_call 14; refine (cN _).mono ?_; rintro e w' ⟨rfl, rfl⟩) | (go_at_call 21; refine cV.mono ?_; rintro e w1 ⟨rfl, hb1⟩))
        go_ret
        exact ⟨rfl, hbw.trans (hb1.mono hbw.size)⟩
      · have hl2 : s.size < 1 ∨ 60 < s.size := by omega
        have cN := fun w => in_no s.size 1 60 w (by omega)
        have hfin : FIN = false := by
          have := HF.out
          rw [← this]
          rcases hl2 with h | h
          · rw [decide_eq_false (show ¬ 1 ≤ s.size by omega)]; rfl
          · rw [decide_eq_false (show ¬ s.size ≤ 60 by omega)]; simp
        subst hfin
        clear hl hl2
        go_wp2_with (first | (go_at_call 14; refine (cN _).mono ?_; rintro e w' ⟨rfl, rfl⟩) | (go_at_call 21; refine cV.mono ?_; rintro e w1 ⟨rfl, hb1⟩))
        go_ret
        exact ⟨rfl, hbw⟩
end Go.Proofs.YtiocmecalidlhaaDoor
