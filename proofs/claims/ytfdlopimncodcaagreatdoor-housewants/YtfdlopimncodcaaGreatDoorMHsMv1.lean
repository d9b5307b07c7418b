/-
  How a box is called then: the functions that Rename makes.
-/
import Derived.Test.YtfdlopimncodcaaGreatDoorBpHsDel
namespace Go.Proofs.YtfdlopimncodcaaGreatDoor
open Go.RowKit Go.Proofs.Aid

/-- How a box is called when name n is called t. -/
def calledB (t n x : Nm) : Nm := t ++ Lib.trimPrefix x n
theorem trim_len (x n : Nm) : (Lib.trimPrefix x n).length ≤ x.length := by
  unfold Lib.trimPrefix
  split
  · rw [List.length_drop]; omega
  · exact Nat.le_refl _
theorem ba_list {a : ByteArray} {l : Nm} (h : a.data.toList = l) : a = ⟨l.toArray⟩ := by
  rw [← h]
set_option maxHeartbeats 2000000 in
set_option maxRecDepth 100000 in
theorem move1_is (x t n : ByteArray) (TB NB : Nat) (w : World) (c1 : w.cell? ⟨TB, 0, none⟩ = some (.string t)) (c2 : w.cell? ⟨NB, 0, none⟩ = some (.string n)) (hx : x.size ≤ 1000000) (ht : t.size ≤ 1000000) :
    Calls Tryz.prog 125 #[.string x, .pointer (some ⟨TB, 0, none⟩), .pointer (some ⟨NB, 0, none⟩)] w fun e w' => e = .returned (.string ⟨(calledB t.data.toList n.data.toList x.data.toList).toArray⟩) ∧ w' = w.drew := by
  obtain ⟨WD, hWD⟩ : ∃ W, w.drew = W := ⟨_, rfl⟩
  have cT := Tryz.strings_TrimPrefix x n WD
  obtain ⟨y, hy⟩ : ∃ y : ByteArray, ⟨(Lib.trimPrefix x.data.toList n.data.toList).toArray⟩ = y := ⟨_, rfl⟩
  have hyl : y.size ≤ 1000000 := by
    rw [← hy]
    have := trim_len x.data.toList n.data.toList
    have hxl : x.data.toList.length = x.size := by rw [Array.length_toList]; rfl
    show (Lib.trimPrefix x.data.toList n.data.toList).toArray.size ≤ _
    rw [List.size_toArray]
    omega
  have HD : Hid ((⟨(calledB t.data.toList n.data.toList x.data.toList).toArray⟩ : ByteArray) = t ++ y) := by
    refine (ba_list ?_).symm
    rw [← hy]
    simp [calledB]
  rw [hy] at cT
  have hlim : (9223372036854775807 < t.size + y.size) = False := eq_false (by omega)
  clear hy
  rw [hWD]
  go_enter Tryz.func125, Tryz.ntmps125
  go_upto_region 1 with fail
  refine wp_region_held_drew (S := fun W => W.cell? ⟨TB, 0, none⟩ = some (.string t) ∧ W.cell? ⟨NB, 0, none⟩ = some (.string n)) (by kernel_rfl) ?_ (fun hHeld => ?_)
  · exact ⟨by simpa using c1, by simpa using c2⟩
  rw [hWD] at hHeld ⊢
  refine wpAnyH_take (i := 0) (v := ?_) rfl (by kernel_rfl) (by kernel_rfl) (by kernel_rfl) (fun _ _ _ h => h) (Or.inl ⟨by rfl, ?_⟩) (by first | assumption | trivial) ?_
  rotate_left
  · intro w hSw; go_simp; (try with_reducible rfl)
  change wpAnyH _ _ _ _ _ _ _ (Act.put _ (some 5) _) _; simp only [Act.put, List.setIfInBounds_toArray, List.set_cons_zero, List.set_cons_succ]
  refine wpAnyH_take (i := 1) (v := ?_) rfl (by kernel_rfl) (by kernel_rfl) (by kernel_rfl) (fun _ _ _ h => h) (Or.inl ⟨by rfl, ?_⟩) (by first | assumption | trivial) ?_
  rotate_left
  · intro w hSw; go_simp; (try with_reducible rfl)
  change wpAnyH _ _ _ _ _ _ _ (Act.put _ (some 6) _) _; simp only [Act.put, List.setIfInBounds_toArray, List.set_cons_zero, List.set_cons_succ]
  refine wpAnyH_take (i := 2) (v := ?_) rfl (by kernel_rfl) (by kernel_rfl) (by kernel_rfl) (fun _ _ _ h => h) (Or.inl ⟨by rfl, ?_⟩) (by first | assumption | trivial) ?_
  rotate_left
  · intro w hSw; go_simp; (try with_reducible rfl)
  change wpAnyH _ _ _ _ _ _ _ (Act.put _ (some 7) _) _; simp only [Act.put, List.setIfInBounds_toArray, List.set_cons_zero, List.set_cons_succ]
  refine wpAnyH_ready (rs := [3]) (by kernel_rfl) (by simp) ?_
  refine AllReadyH.cons rfl (fun K hK => ?_) AllReadyH.nil
  go_simp
  refine cT.mono ?_
  rintro e w7 ⟨rfl, hw⟩
  obtain rfl : WD = w7 := hw.symm
  clear hw cT
  refine hK.out _ _ ?_ (fun hHeld => ?_)
  · exact hHeld
  clear hK K
  refine wpAnyH_take (i := 4) (v := ?_) rfl (by kernel_rfl) (by kernel_rfl) (by kernel_rfl) (fun _ _ _ h => h) (Or.inl ⟨by rfl, ?_⟩) (by first | assumption | trivial) ?_
  rotate_left
  · intro w hSw; go_simp; (try with_reducible rfl)
  change wpAnyH _ _ _ _ _ _ _ (Act.put _ (some 9) _) _; simp only [Act.put, List.setIfInBounds_toArray, List.set_cons_zero, List.set_cons_succ]
  refine wpAnyH_take (i := 5) (v := ?_) rfl (by kernel_rfl) (by kernel_rfl) (by kernel_rfl) (fun _ _ _ h => h) (Or.inl ⟨by rfl, ?_⟩) (by first | assumption | trivial) ?_
  rotate_left
  · intro w hSw; go_simp; (try with_reducible rfl)
  refine wpAnyH_done (by kernel_rfl) ?_ _
  clear hHeld
  go_wp2_with fail
  go_ret
  exact ⟨by rw [HD.out]; rfl, rfl⟩
set_option maxHeartbeats 2000000 in
set_option maxRecDepth 100000 in
theorem move2_is (x t n : ByteArray) (TB NB FB : Nat) (w : World) (c0 : w.cell? ⟨FB, 0, none⟩ = some (.func (.func 125) #[] #[.pointer (some ⟨TB, 0, none⟩), .pointer (some ⟨NB, 0, none⟩)])) (c1 : w.cell? ⟨TB, 0, none⟩ = some (.string t)) (c2 : w.cell? ⟨NB, 0, none⟩ = some (.string n)) (hx : x.size ≤ 1000000) (ht : t.size ≤ 1000000) :
    Calls Tryz.prog 127 #[.string x, .pointer (some ⟨FB, 0, none⟩)] w fun e w' => e = .returned (.bool (decide (60 < (calledB t.data.toList n.data.toList x.data.toList).length))) ∧ w' = w.drew := by
  have cM := move1_is x t n TB NB w c1 c2 hx ht
  obtain ⟨y, hy⟩ : ∃ y : ByteArray, ⟨(calledB t.data.toList n.data.toList x.data.toList).toArray⟩ = y := ⟨_, rfl⟩
  have hyl : (calledB t.data.toList n.data.toList x.data.toList).length = y.size := by
    rw [← hy]
    show _ = (calledB t.data.toList n.data.toList x.data.toList).toArray.size
    rw [List.size_toArray]
  rw [hy] at cM
  rw [hyl]
  have HA : Hid (decide (60 < y.size) = decide ((60 : Int) < (y.size : Int))) := by
    unfold Hid
    exact decide_eq_decide.2 ⟨fun h => by omega, fun h => by omega⟩
  rw [HA.out]
  clear hy hyl c1 c2 HA
  go_enter Tryz.func127, Tryz.ntmps127
  go_wp2_with fail
  refine cM.mono ?_
  rintro e w7 ⟨rfl, rfl⟩
  go_wp2_with fail
  go_ret
  exact ⟨rfl, rfl⟩
end Go.Proofs.YtfdlopimncodcaaGreatDoor
