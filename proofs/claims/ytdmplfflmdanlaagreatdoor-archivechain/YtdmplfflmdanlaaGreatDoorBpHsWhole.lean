/-
  Whether names are whole: INBOX is one of them, and all in which they l, and more.
-/
import Derived.Test.YtdmplfflmdanlaaGreatDoorBpHsRight2
namespace Go.Proofs.YtdmplfflmdanlaaGreatDoor
open Go.RowKit Go.Proofs.Aid Go.Proofs.Bx

theorem drew_drewN (w : World) (q : Nat) : (w.drew).drewN q = w.drewN (1 + q) := by
  exact (show (w.drewN 1).drewN q = w.drewN (1 + q) from by rw [World.drewN_drewN])
/-- A name of which the one in which it lies is not there. -/
def hangB (ns : List Nm) (x : ByteArray) : Bool := decide (0 ≤ Lib.lastIndexByte x 47) && !decide (x.data.toList.take (Lib.lastIndexByte x 47).toNat ∈ ns)
set_option maxHeartbeats 4000000 in
set_option maxRecDepth 100000 in
theorem hangs_is (x : ByteArray) (FB LB : Nat) (v : Value) (ns : List Nm) (w : World) (c0 : w.cell? ⟨FB, 0, none⟩ = some (.func (.func 83) #[] #[.pointer (some ⟨LB, 0, none⟩)])) (c1 : w.cell? ⟨LB, 0, none⟩ = some v) (h : Sl w v ns) (hs : ns.Pairwise (· < ·)) (hl : ns.length ≤ 1000) (hx : x.size ≤ 1000) :
    Calls Tryz.prog 85 #[.string x, .pointer (some ⟨FB, 0, none⟩)] w fun e w' => e = .returned (.bool (hangB ns x)) ∧ ∃ q, w' = w.drewN q := by
  have cL := Tryz.strings_LastIndex_one x ⟨#[47]⟩ rfl (by omega) w
  rw [show (((⟨#[47]⟩ : ByteArray)[0]'(by decide)).toNat : Int) = 47 from rfl] at cL
  obtain ⟨WD, hWD⟩ : ∃ W, w.drew = W := ⟨_, rfl⟩
  have c0D : WD.cell? ⟨FB, 0, none⟩ = some (.func (.func 83) #[] #[.pointer (some ⟨LB, 0, none⟩)]) := by rw [← hWD]; exact c0
  have c1D : WD.cell? ⟨LB, 0, none⟩ = some v := by rw [← hWD]; exact c1
  have hSD : Sl WD v ns := by rw [← hWD]; exact h
  have hspec := Lib.lastIndexByte_spec x 47
  by_cases hi : 0 ≤ Lib.lastIndexByte x 47
  · obtain ⟨i, hi1, hi2⟩ : ∃ i : Nat, Lib.lastIndexByte x 47 = i ∧ i < x.size := by
      rcases hspec with ⟨e, _⟩ | ⟨i, hlt, e, _⟩
      · omega
      · exact ⟨i, e, hlt⟩
    have cH := has1_is (x.extract 0 i) LB v ns WD c1D hSD hs hl
    rw [take_ext] at cH
    obtain ⟨A, hA⟩ : ∃ A, decide (x.data.toList.take i ∈ ns) = A := ⟨_, rfl⟩
    rw [hA] at cH
    have HA : Hid (hangB ns x = !A) := by
      unfold Hid hangB
      rw [hi1, decide_eq_true (by omega), Bool.true_and, Int.toNat_natCast, hA]
    rw [hi1] at cL
    have d1 : decide ((0 : Int) ≤ (i : Int)) = true := decide_eq_true (by omega)
    have i1 : (0 : Int) ≤ (i : Int) := by omega
    have i2 : (i : Int) ≤ (x.size : Int) := by omega
    clear hspec hi hi1 hA h hSD hs c1 c1D
    go_enter Tryz.func85, Tryz.ntmps85
    go_wp2_with fail
    refine cL.mono ?_
    rintro e w1 ⟨rfl, hw⟩
    obtain rfl : w = w1 := hw.symm
    clear hw cL
    go_upto_region 2 with fail
    refine wp_region_held_drew (S := fun W => W.cell? ⟨FB, 0, none⟩ = some (.func (.func 83) #[] #[.pointer (some ⟨LB, 0, none⟩)])) (by kernel_rfl) ?_ (fun hHeld => ?_)
    · simpa using c0
    rw [hWD] at hHeld ⊢
    refine wpAnyH_take (i := 0) (v := ?_) rfl (by kernel_rfl) (by kernel_rfl) (by kernel_rfl) (fun _ _ _ h => h) (Or.inl ⟨by rfl, ?_⟩) (by first | assumption | trivial) ?_
    rotate_left
    · intro w hSw; go_simp; (try with_reducible rfl)
    change wpAnyH _ _ _ _ _ _ _ (Act.put _ (some 7) _) _; simp only [Act.put, List.setIfInBounds_toArray, List.set_cons_zero, List.set_cons_succ]
    refine wpAnyH_take (i := 1) (v := ?_) rfl (by kernel_rfl) (by kernel_rfl) (by kernel_rfl) (fun _ _ _ h => h) (Or.inl ⟨by rfl, ?_⟩) (by first | assumption | trivial) ?_
    rotate_left
    · intro w hSw; go_simp; (try with_reducible rfl)
    change wpAnyH _ _ _ _ _ _ _ (Act.put _ (some 8) _) _; simp only [Act.put, List.setIfInBounds_toArray, List.set_cons_zero, List.set_cons_succ]
    refine wpAnyH_take (i := 2) (v := ?_) rfl (by kernel_rfl) (by kernel_rfl) (by kernel_rfl) (fun _ _ _ h => h) (Or.inl ⟨by rfl, ?_⟩) (by first | assumption | trivial) ?_
    rotate_left
    · intro w hSw; go_simp; (try with_reducible rfl)
    change wpAnyH _ _ _ _ _ _ _ (Act.put _ (some 9) _) _; simp only [Act.put, List.setIfInBounds_toArray, List.set_cons_zero, List.set_cons_succ]
    refine wpAnyH_take (i := 3) (v := ?_) rfl (by kernel_rfl) (by kernel_rfl) (by kernel_rfl) (fun _ _ _ h => h) (Or.inl ⟨by rfl, ?_⟩) (by first | assumption | trivial) ?_
    rotate_left
    · intro w hSw; go_simp; (try with_reducible rfl)
    change wpAnyH _ _ _ _ _ _ _ (Act.put _ (some 10) _) _; simp only [Act.put, List.setIfInBounds_toArray, List.set_cons_zero, List.set_cons_succ]
    refine wpAnyH_take (i := 4) (v := ?_) rfl (by kernel_rfl) (by kernel_rfl) (by kernel_rfl) (fun _ _ _ h => h) (Or.inl ⟨by rfl, ?_⟩) (by first | assumption | trivial) ?_
    rotate_left
    · intro w hSw; go_simp; (try with_reducible rfl)
    change wpAnyH _ _ _ _ _ _ _ (Act.put _ (some 11) _) _; simp only [Act.put, List.setIfInBounds_toArray, List.set_cons_zero, List.set_cons_succ]
    refine wpAnyH_take (i := 5) (v := ?_) rfl (by kernel_rfl) (by kernel_rfl) (by kernel_rfl) (fun _ _ _ h => h) (Or.inl ⟨by rfl, ?_⟩) (by first | assumption | trivial) ?_
    rotate_left
    · intro w hSw; go_simp; (try with_reducible rfl)
    change wpAnyH _ _ _ _ _ _ _ (Act.put _ (some 12) _) _; simp only [Act.put, List.setIfInBounds_toArray, List.set_cons_zero, List.set_cons_succ]
    refine wpAnyH_take (i := 6) (v := ?_) rfl (by kernel_rfl) (by kernel_rfl) (by kernel_rfl) (fun _ _ _ h => h) (Or.inl ⟨by rfl, ?_⟩) (by first | assumption | trivial) ?_
    rotate_left
    · intro w hSw; go_simp; (try with_reducible rfl)
    change wpAnyH _ _ _ _ _ _ _ (Act.put _ (some 13) _) _; simp only [Act.put, List.setIfInBounds_toArray, List.set_cons_zero, List.set_cons_succ]
    refine wpAnyH_ready (rs := [7]) (by kernel_rfl) (by simp) ?_
    refine AllReadyH.cons rfl (fun K hK => ?_) AllReadyH.nil
    go_simp
    refine cH.mono ?_
    rintro e w7 ⟨rfl, q, hq⟩
    have k7 : w7.cell? ⟨FB, 0, none⟩ = some (.func (.func 83) #[] #[.pointer (some ⟨LB, 0, none⟩)]) := by rw [hq]; exact c0D
    have HQ : Hid (∃ q, w7 = w.drewN q) := ⟨1 + q, by rw [hq, ← hWD]; exact drew_drewN w q⟩
    clear cH hq
    refine hK.out _ _ ?_ (fun hHeld => ?_)
    · exact k7
    clear hK K
    refine wpAnyH_take (i := 8) (v := ?_) rfl (by kernel_rfl) (by kernel_rfl) (by kernel_rfl) (fun _ _ _ h => h) (Or.inl ⟨by rfl, ?_⟩) (by first | assumption | trivial) ?_
    rotate_left
    · intro w hSw; go_simp; (try with_reducible rfl)
    change wpAnyH _ _ _ _ _ _ _ (Act.put _ (some 15) _) _; simp only [Act.put, List.setIfInBounds_toArray, List.set_cons_zero, List.set_cons_succ]
    refine wpAnyH_take (i := 9) (v := ?_) rfl (by kernel_rfl) (by kernel_rfl) (by kernel_rfl) (fun _ _ _ h => h) (Or.inl ⟨by rfl, ?_⟩) (by first | assumption | trivial) ?_
    rotate_left
    · intro w hSw; go_simp; (try with_reducible rfl)
    change wpAnyH _ _ _ _ _ _ _ (Act.put _ (some 16) _) _; simp only [Act.put, List.setIfInBounds_toArray, List.set_cons_zero, List.set_cons_succ]
    refine wpAnyH_take (i := 10) (v := ?_) rfl (by kernel_rfl) (by kernel_rfl) (by kernel_rfl) (fun _ _ _ h => h) (Or.inl ⟨by rfl, ?_⟩) (by first | assumption | trivial) ?_
    rotate_left
    · intro w hSw; go_simp; (try with_reducible rfl)
    refine wpAnyH_done (by kernel_rfl) ?_ _
    clear hHeld k7
    go_wp2_with fail
    go_ret
    exact ⟨by rw [HA.out]; rfl, HQ.out⟩
  · have HA : Hid (hangB ns x = false) := by
      unfold Hid hangB
      rw [decide_eq_false hi, Bool.false_and]
    obtain ⟨I, hI⟩ : ∃ i, Lib.lastIndexByte x 47 = i := ⟨_, rfl⟩
    rw [hI] at cL hi
    have d1 : decide ((0 : Int) ≤ I) = false := decide_eq_false hi
    clear hspec hI h hSD hs c1 c1D
    go_enter Tryz.func85, Tryz.ntmps85
    go_wp2_with fail
    refine cL.mono ?_
    rintro e w1 ⟨rfl, hw⟩
    obtain rfl : w = w1 := hw.symm
    clear hw cL
    go_upto_region 2 with fail
    refine wp_region_held_drew (S := fun W => W.cell? ⟨FB, 0, none⟩ = some (.func (.func 83) #[] #[.pointer (some ⟨LB, 0, none⟩)])) (by kernel_rfl) ?_ (fun hHeld => ?_)
    · simpa using c0
    rw [hWD] at hHeld ⊢
    refine wpAnyH_take (i := 0) (v := ?_) rfl (by kernel_rfl) (by kernel_rfl) (by kernel_rfl) (fun _ _ _ h => h) (Or.inl ⟨by rfl, ?_⟩) (by first | assumption | trivial) ?_
    rotate_left
    · intro w hSw; go_simp; (try with_reducible rfl)
    change wpAnyH _ _ _ _ _ _ _ (Act.put _ (some 7) _) _; simp only [Act.put, List.setIfInBounds_toArray, List.set_cons_zero, List.set_cons_succ]
    refine wpAnyH_take (i := 1) (v := ?_) rfl (by kernel_rfl) (by kernel_rfl) (by kernel_rfl) (fun _ _ _ h => h) (Or.inl ⟨by rfl, ?_⟩) (by first | assumption | trivial) ?_
    rotate_left
    · intro w hSw; go_simp; (try with_reducible rfl)
    change wpAnyH _ _ _ _ _ _ _ (Act.put _ (some 8) _) _; simp only [Act.put, List.setIfInBounds_toArray, List.set_cons_zero, List.set_cons_succ]
    refine wpAnyH_take (i := 2) (v := ?_) rfl (by kernel_rfl) (by kernel_rfl) (by kernel_rfl) (fun _ _ _ h => h) (Or.inl ⟨by rfl, ?_⟩) (by first | assumption | trivial) ?_
    rotate_left
    · intro w hSw; go_simp; (try with_reducible rfl)
    change wpAnyH _ _ _ _ _ _ _ (Act.put _ (some 9) _) _; simp only [Act.put, List.setIfInBounds_toArray, List.set_cons_zero, List.set_cons_succ]
    refine wpAnyH_take (i := 3) (v := undef) rfl (by kernel_rfl) (by kernel_rfl) (by kernel_rfl) (fun _ _ _ h => h) (Or.inr ⟨by rfl, rfl⟩) (by first | assumption | trivial) ?_
    change wpAnyH _ _ _ _ _ _ _ (Act.put _ (some 10) _) _; simp only [Act.put, List.setIfInBounds_toArray, List.set_cons_zero, List.set_cons_succ]
    refine wpAnyH_take (i := 4) (v := undef) rfl (by kernel_rfl) (by kernel_rfl) (by kernel_rfl) (fun _ _ _ h => h) (Or.inr ⟨by rfl, rfl⟩) (by first | assumption | trivial) ?_
    change wpAnyH _ _ _ _ _ _ _ (Act.put _ (some 11) _) _; simp only [Act.put, List.setIfInBounds_toArray, List.set_cons_zero, List.set_cons_succ]
    refine wpAnyH_take (i := 5) (v := undef) rfl (by kernel_rfl) (by kernel_rfl) (by kernel_rfl) (fun _ _ _ h => h) (Or.inr ⟨by rfl, rfl⟩) (by first | assumption | trivial) ?_
    change wpAnyH _ _ _ _ _ _ _ (Act.put _ (some 12) _) _; simp only [Act.put, List.setIfInBounds_toArray, List.set_cons_zero, List.set_cons_succ]
    refine wpAnyH_take (i := 6) (v := undef) rfl (by kernel_rfl) (by kernel_rfl) (by kernel_rfl) (fun _ _ _ h => h) (Or.inr ⟨by rfl, rfl⟩) (by first | assumption | trivial) ?_
    change wpAnyH _ _ _ _ _ _ _ (Act.put _ (some 13) _) _; simp only [Act.put, List.setIfInBounds_toArray, List.set_cons_zero, List.set_cons_succ]
    refine wpAnyH_take (i := 7) (v := undef) rfl (by kernel_rfl) (by kernel_rfl) (by kernel_rfl) (fun _ _ _ h => h) (Or.inr ⟨by rfl, rfl⟩) (by first | assumption | trivial) ?_
    change wpAnyH _ _ _ _ _ _ _ (Act.put _ (some 14) _) _; simp only [Act.put, List.setIfInBounds_toArray, List.set_cons_zero, List.set_cons_succ]
    refine wpAnyH_take (i := 8) (v := undef) rfl (by kernel_rfl) (by kernel_rfl) (by kernel_rfl) (fun _ _ _ h => h) (Or.inr ⟨by rfl, rfl⟩) (by first | assumption | trivial) ?_
    change wpAnyH _ _ _ _ _ _ _ (Act.put _ (some 15) _) _; simp only [Act.put, List.setIfInBounds_toArray, List.set_cons_zero, List.set_cons_succ]
    refine wpAnyH_take (i := 9) (v := ?_) rfl (by kernel_rfl) (by kernel_rfl) (by kernel_rfl) (fun _ _ _ h => h) (Or.inl ⟨by rfl, ?_⟩) (by first | assumption | trivial) ?_
    rotate_left
    · intro w hSw; go_simp; (try with_reducible rfl)
    change wpAnyH _ _ _ _ _ _ _ (Act.put _ (some 16) _) _; simp only [Act.put, List.setIfInBounds_toArray, List.set_cons_zero, List.set_cons_succ]
    refine wpAnyH_take (i := 10) (v := ?_) rfl (by kernel_rfl) (by kernel_rfl) (by kernel_rfl) (fun _ _ _ h => h) (Or.inl ⟨by rfl, ?_⟩) (by first | assumption | trivial) ?_
    rotate_left
    · intro w hSw; go_simp; (try with_reducible rfl)
    refine wpAnyH_done (by kernel_rfl) ?_ _
    clear hHeld
    go_wp2_with fail
    go_ret
    exact ⟨by rw [HA.out]; rfl, 1, hWD.symm⟩
end Go.Proofs.YtdmplfflmdanlaaGreatDoor
namespace Go.Proofs.YtdmplfflmdanlaaGreatDoor
open Go.RowKit Go.Proofs.Aid Go.Proofs.Bx

/-- No name of the row hangs. -/
theorem none_hangs (FB LB : Nat) (v : Value) (ns : List Nm) (w : World) (c0 : w.cell? ⟨FB, 0, none⟩ = some (.func (.func 83) #[] #[.pointer (some ⟨LB, 0, none⟩)])) (c1 : w.cell? ⟨LB, 0, none⟩ = some v) (h : Sl w v ns) (hs : ns.Pairwise (· < ·)) (hl : ns.length ≤ 1000) (hx : ∀ n ∈ ns, n.length ≤ 1000) (hh : ∀ n ∈ ns, hangB ns ⟨n.toArray⟩ = false) :
    Calls Tryz.prog 87 #[v, .func (.func 85) #[] #[.pointer (some ⟨FB, 0, none⟩)]] w fun e w' => e = .returned (.bool false) ∧ ∃ q, w' = w.drewN q := by
  have hp : PredAt Tryz.prog 85 #[.pointer (some ⟨FB, 0, none⟩)] encShort (fun x => hangB ns ⟨x.1.toArray⟩) w := fun V x hV => by
    have k0 := (hV.cell (p := ⟨FB, 0, none⟩) (World.block_lt_of_cell? _ _ c0)).trans c0
    have k1 := (hV.cell (p := ⟨LB, 0, none⟩) (World.block_lt_of_cell? _ _ c1)).trans c1
    exact hangs_is ⟨x.1.toArray⟩ FB LB v ns V k0 k1 (h.below hV (Nat.le_refl _)) hs hl (by rw [ba_size]; exact x.2)
  by_cases hv : ns = []
  · subst hv
    obtain ⟨a, c, rfl, _⟩ := h
    refine (Tryz.slices_ContainsFunc_empty (α := Short) a c _ w).mono ?_
    rintro e w' ⟨rfl, rfl⟩
    exact ⟨rfl, 0, rfl⟩
  · obtain ⟨zs, hzs⟩ : ∃ z, (ns.attach.map fun x => (⟨x.1, hx x.1 x.2⟩ : Short)) = z := ⟨_, rfl⟩
    have hzx : zs.map (·.1) = ns := by rw [← hzs, List.map_map]; exact List.attach_map_subtype_val ns
    have hzl : zs.length = ns.length := by rw [← hzx, List.length_map]
    have hany : (zs.any fun x => hangB ns ⟨x.1.toArray⟩) = false := by
      rw [List.any_eq_false]
      intro x hxm
      have : x.1 ∈ ns := by rw [← hzx]; exact List.mem_map_of_mem hxm
      rw [hh x.1 this]
      simp
    have hpos : 0 < ns.length := List.length_pos_iff.2 hv
    obtain ⟨a, c, rfl, _⟩ := id h
    obtain ⟨b, o, rfl, hat⟩ := sl_at h (k := 0) (x := ns[0]) (List.getElem?_eq_getElem hpos)
    have hC := Tryz.slices_ContainsFunc encShort (fun x => hangB ns ⟨x.1.toArray⟩) 85 #[.pointer (some ⟨FB, 0, none⟩)] (enters_of Tryz.func85 (by kernel_rfl) rfl) b o ns.length c zs w hp (by omega) (by omega) (fun j hj => by
      have hjx : j < ns.length := by omega
      rw [hat j _ (List.getElem?_eq_getElem hjx)]
      have e2 : zs[j]!.1 = ns[j] := by
        rw [getElem!_pos zs j hj]
        have := congrArg (fun l => l[j]?) hzx
        simp only [List.getElem?_map, List.getElem?_eq_getElem hj, List.getElem?_eq_getElem hjx, Option.map_some, Option.some.injEq] at this
        exact this
      show _ = some (encStr zs[j]!.1)
      rw [e2])
    rw [List.take_of_length_le (by omega), hany] at hC
    exact hC
set_option maxHeartbeats 4000000 in
set_option maxRecDepth 100000 in
theorem whole_true (v : Value) (ns : List Nm) (w : World) (h : Sl w v ns) (hs : ns.Pairwise (· < ·)) (hl : ns.length ≤ 1000) (hx : ∀ n ∈ ns, n.length ≤ 1000) (hin : inboxN ∈ ns) (hh : ∀ n ∈ ns, hangB ns ⟨n.toArray⟩ = false) :
    Calls Tryz.prog 29 #[v] w fun e w' => e = .returned (.bool true) ∧ Below w.heap.size w w' := by
  obtain ⟨a, c, rfl, _⟩ := id h
  obtain ⟨M, hM⟩ : ∃ m, ns.length = m := ⟨_, rfl⟩
  rw [hM] at h ⊢
  have b1 : Below w.heap.size w (w.alloc (.cells #[.slice a M c] 22)) := (Below.refl _ _).alloc (Nat.le_refl _) _
  have e1 := heap_alloc_new w (.cells #[.slice a M c] 22)
  have z1 : (w.alloc (.cells #[.slice a M c] 22)).heap.size = w.heap.size + 1 := World.size_alloc _ _
  obtain ⟨W1, hW1⟩ : ∃ W, w.alloc (.cells #[.slice a M c] 22) = W := ⟨_, rfl⟩
  rw [hW1] at b1 e1 z1
  have hst := store_new W1 146 83 #[.pointer (some ⟨w.heap.size, 0, none⟩)] Tryz.prog
  have b2 : Below W1.heap.size W1 (W1.alloc (.cells #[.func (.func 83) #[] #[.pointer (some ⟨w.heap.size, 0, none⟩)]] 146)) := (Below.refl _ _).alloc (Nat.le_refl _) _
  have e2 := heap_alloc_new W1 (.cells #[.func (.func 83) #[] #[.pointer (some ⟨w.heap.size, 0, none⟩)]] 146)
  obtain ⟨W2, hW2⟩ : ∃ W, W1.alloc (.cells #[.func (.func 83) #[] #[.pointer (some ⟨w.heap.size, 0, none⟩)]] 146) = W := ⟨_, rfl⟩
  rw [hW2] at hst b2 e2
  rw [z1] at hst e2
  have c0 : W2.cell? ⟨w.heap.size + 1, 0, none⟩ = some (.func (.func 83) #[] #[.pointer (some ⟨w.heap.size, 0, none⟩)]) := rd_cell e2 rfl
  have c1 : W2.cell? ⟨w.heap.size, 0, none⟩ = some (.slice a M c) := rd_cell ((b2.block _ (by omega)).trans e1) rfl
  have hB2 : Below w.heap.size w W2 := b1.trans (b2.mono (by omega))
  have h2 := h.below hB2 (Nat.le_refl _)
  have cH := has1_is ⟨#[73, 78, 66, 79, 88]⟩ w.heap.size (.slice a M c) ns W2 c1 h2 hs hl
  rw [decide_eq_true (show (⟨#[73, 78, 66, 79, 88]⟩ : ByteArray).data.toList ∈ ns from hin)] at cH
  have HC : Hid (∀ q, Calls Tryz.prog 87 #[.slice a M c, .func (.func 85) #[] #[.pointer (some ⟨w.heap.size + 1, 0, none⟩)]] (W2.drewN q) fun e w' => e = .returned (.bool false) ∧ ∃ p, w' = (W2.drewN q).drewN p) := fun q => none_hangs (w.heap.size + 1) w.heap.size (.slice a M c) ns (W2.drewN q) c0 c1 h2 hs hl hx hh
  have HB2 : Hid (Below w.heap.size w W2) := hB2
  have HC1 : Hid (∀ q, (W2.drewN q).cell? ⟨w.heap.size, 0, none⟩ = some (.slice a M c)) := fun _ => c1
  clear h h2 hs hl hx hin hh b1 e1 b2 e2 hB2 hM
  go_enter Tryz.func29, Tryz.ntmps29
  go_wp2_with fail
  refine cH.mono ?_
  rintro e w3 ⟨rfl, q, rfl⟩
  have c3 := HC1.out q
  have cC := HC.out q
  have HB3 : Hid (Below w.heap.size w (W2.drewN q)) := below_drewN HB2.out q
  obtain ⟨W3, hW3⟩ : ∃ W, W2.drewN q = W := ⟨_, rfl⟩
  rw [hW3] at c3 cC HB3 ⊢
  clear cH HC HC1 hW3 c0 c1
  go_wp2_with fail
  refine cC.mono ?_
  rintro e w4 ⟨rfl, p, hp⟩
  have HB4 : Hid (Below w.heap.size w w4) := by rw [hp]; exact below_drewN HB3.out p
  clear cC hp
  go_wp2_with fail
  go_ret
  exact ⟨rfl, HB4.out⟩
end Go.Proofs.YtdmplfflmdanlaaGreatDoor
