/-
  What seq.readRange does.
-/
import Derived.Test.YtefgpafoajoofaaGreatDoorSeqNum
import Derived.Test.YtefgpafoajoofaaGreatDoorSeqShelf
import Derived.Laws.ResultCell
namespace Go.Proofs.YtefgpafoajoofaaGreatDoor
open Go.RowKit Go.Proofs.Aid Go.Proofs.Sq

theorem cut_call (c : UInt8) (s : ByteArray) (m : Int) (w : World) (hs : s.size ≤ 1000000) (hm : w.cell? ⟨2, 0, none⟩ = some (.int .i64 m)) :
    Calls Tryz.prog 89 #[.string s, .string ⟨#[c]⟩] w fun e w' => e = .returned (.tuple #[.string ⟨(cutAt c s.data.toList).1.toArray⟩, .string ⟨(cutAt c s.data.toList).2.1.toArray⟩, .bool (cutAt c s.data.toList).2.2]) ∧ ∃ n, w' = w.drewN n := by
  refine (Tryz.strings_Cut s ⟨#[c]⟩ m w (by omega) hm).mono ?_
  rintro e w' ⟨rfl, n, rfl⟩
  rw [show Lib.cut s.data.toList (⟨#[c]⟩ : ByteArray).data.toList = cutAt c s.data.toList from cut_eq c _]
  exact ⟨rfl, n, rfl⟩
theorem two_below (w : World) (o : Obj) (n : Nat) (a b : Value) : Below w.heap.size w ((((w.alloc o).drewN n).setCell ⟨w.heap.size, 0, none⟩ a).setCell ⟨w.heap.size, 1, none⟩ b) :=
  ((below_drewN ((Below.refl _ _).alloc (Nat.le_refl _) _) _).setCell (p := ⟨w.heap.size, 0, none⟩) (Nat.le_refl _) _).setCell (p := ⟨w.heap.size, 1, none⟩) (Nat.le_refl _) _
set_option maxHeartbeats 1000000 in
set_option maxRecDepth 100000 in
theorem range_any (s : ByteArray) (m : Int) (w : World) (hs : s.size ≤ 1000000) (hm : w.cell? ⟨2, 0, none⟩ = some (.int .i64 m)) :
    Calls Tryz.prog 54 #[.string s] w fun e w' => ((∃ r : Nat × Nat, rangeOf s.data.toList = some r ∧ r.1 ≤ 2147483647 ∧ r.2 ≤ 2147483647 ∧ e = .returned (.tuple #[.agg #[.int .i64 (r.1 : Int), .int .i64 (r.2 : Int)], .bool true])) ∨ (rangeOf s.data.toList = none ∧ e = .returned (.tuple #[.agg #[.int .i64 0, .int .i64 0], .bool false]))) ∧ Below w.heap.size w w' ∧ w'.heap.size = w.heap.size + 1 := by
  have cC := fun w1 hm1 => cut_call 58 s m w1 hs hm1
  obtain ⟨ANS, hANS⟩ : ∃ ANS, rangeOf s.data.toList = ANS := ⟨_, rfl⟩
  rw [hANS]
  unfold rangeOf at hANS
  have hl := cutAt_length 58 s.data.toList
  rw [← Lib.size_eq] at hl
  generalize (cutAt 58 s.data.toList) = C at cC hANS hl
  obtain ⟨l1, l2, two⟩ := C
  simp only at cC hANS hl
  obtain ⟨s1, h1⟩ : ∃ s1 : ByteArray, s1 = ⟨l1.toArray⟩ := ⟨_, rfl⟩
  obtain ⟨s2, h2⟩ : ∃ s2 : ByteArray, s2 = ⟨l2.toArray⟩ := ⟨_, rfl⟩
  rw [← h1, ← h2] at cC
  have e1 : s1.data.toList = l1 := by rw [h1]
  have e2 : s2.data.toList = l2 := by rw [h2]
  have z1 : s1.size ≤ 1000000 := by rw [Lib.size_eq, e1]; omega
  have z2 : s2.size ≤ 1000000 := by rw [Lib.size_eq, e2]; omega
  clear h1 h2 hl
  have c1 := fun w1 => number_any s1 w1 z1
  have c2 := fun w1 => number_any s2 w1 z2
  rw [e1] at c1
  rw [e2] at c2
  clear z1 z2 e1 e2
  have hmA : ∀ (o : Obj), (w.alloc o).cell? ⟨2, 0, none⟩ = some (.int .i64 m) := fun o => by
    rw [World.cell?_alloc_old _ _ _ (Nat.ne_of_lt (World.block_lt_of_cell? _ _ hm))]; exact hm
  have cC' := fun o => cC (w.alloc o) (hmA o)
  clear cC
  go_enter Tryz.func54, Tryz.ntmps54
  go_wp2_with fail
  refine (cC' _).mono ?_
  rintro e w1 ⟨rfl, n, rfl⟩
  go_wp2_with fail
  refine (c1 _).mono ?_
  rintro e w1 ⟨⟨a, hn1, ha, rfl⟩ | ⟨hn1, rfl⟩, rfl⟩
  · rw [hn1, Option.bind_some] at hANS
    cases two
    · have HA : Hid (some (a, a) = ANS) := by show some (a, a) = ANS; simpa using hANS
      clear hANS
      go_wp2
      (try simp only [Exit.inBlock, Exit.then])
      refine bodyPost_ret (v := .tuple #[.agg #[.int .i64 (a : Int), .int .i64 (a : Int)], .bool true]) ?_ rfl ⟨Or.inl ⟨(a, a), HA.symm, ha, ha, rfl⟩, ?_, ?_⟩
      · rw [results_cell_tmp rfl]; go_simp
      · exact two_below _ _ _ _ _
      · simp
    · go_wp2_with fail
      refine (c2 _).mono ?_
      rintro e w1 ⟨⟨b, hn2, hb, rfl⟩ | ⟨hn2, rfl⟩, rfl⟩
      · have HA : Hid (some (a, b) = ANS) := by show some (a, b) = ANS; simpa [hn2] using hANS
        clear hANS
        go_wp2
        (try simp only [Exit.inBlock, Exit.then])
        refine bodyPost_ret (v := .tuple #[.agg #[.int .i64 (a : Int), .int .i64 (b : Int)], .bool true]) ?_ rfl ⟨Or.inl ⟨(a, b), HA.symm, ha, hb, rfl⟩, ?_, ?_⟩
        · rw [results_cell_tmp rfl]; go_simp
        · exact two_below _ _ _ _ _
        · simp
      · have HA : Hid (none = ANS) := by show none = ANS; simpa [hn2] using hANS
        clear hANS
        go_wp2
        (try simp only [Exit.inBlock, Exit.then])
        refine bodyPost_ret (v := .tuple #[.agg #[.int .i64 0, .int .i64 0], .bool false]) ?_ rfl ⟨Or.inr ⟨HA.symm, rfl⟩, ?_, ?_⟩
        · rw [results_cell_tmp rfl]; go_simp
        · exact two_below _ _ _ _ _
        · simp
  · have HA : Hid (none = ANS) := by show none = ANS; simpa [hn1] using hANS
    clear hANS
    go_wp2
    (try simp only [Exit.inBlock, Exit.then])
    refine bodyPost_ret (v := .tuple #[.agg #[.int .i64 0, .int .i64 0], .bool false]) ?_ rfl ⟨Or.inr ⟨HA.symm, rfl⟩, ?_, ?_⟩
    · rw [results_cell_tmp rfl]; go_simp
    · exact two_below _ _ _ _ _
    · simp
end Go.Proofs.YtefgpafoajoofaaGreatDoor
