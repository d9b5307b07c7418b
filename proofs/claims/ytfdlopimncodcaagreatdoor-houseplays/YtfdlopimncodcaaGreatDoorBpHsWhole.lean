/-
  Whether names are whole: INBOX is one of them, and all in which they l, and more.
-/
import Derived.Test.YtfdlopimncodcaaGreatDoorBpHmMath
namespace Go.Proofs.YtfdlopimncodcaaGreatDoor
open Go.RowKit Go.Proofs.Aid Go.Proofs.Bx
theorem drew_drewN (w : World) (q : Nat) : (w.drew).drewN q = w.drewN (1 + q) := by
  exact (show (w.drewN 1).drewN q = w.drewN (1 + q) from by rw [World.drewN_drewN])
def hangB (ns : List Nm) (x : ByteArray) : Bool := decide (0 ≤ Lib.lastIndexByte x 47) && !decide (x.data.toList.take (Lib.lastIndexByte x 47).toNat ∈ ns)
set_option maxHeartbeats 4000000 in
set_option maxRecDepth 100000 in
theorem hangs_is (x : ByteArray) (FB LB : Nat) (v : Value) (ns : List Nm) (w : World) (c0 : w.cell? ⟨FB, 0, none⟩ = some (.func (.func 104) #[] #[.pointer (some ⟨LB, 0, none⟩)])) (c1 : w.cell? ⟨LB, 0, none⟩ = some v) (h : Sl w v ns) (hs : ns.Pairwise (· < ·)) (hl : ns.length ≤ 1000) (hx : x.size ≤ 1000) :
    Calls Tryz.prog 105 #[.string x, .pointer (some ⟨FB, 0, none⟩)] w fun e w' => e = .returned (.bool (hangB ns x)) ∧ ∃ q, w' = w.drewN q := by
  have cL := Tryz.strings_LastIndex_one x ⟨#[47]⟩ rfl (by omega) w
  rw [show (((⟨#[47]⟩ : ByteArray)[0]'(by decide)).toNat : Int) = 47 from rfl] at cL
  obtain ⟨WD, hWD⟩ : ∃ W, w.drew = W := ⟨_, rfl⟩
  have c0D : WD.cell? ⟨FB, 0, none⟩ = some (.func (.func 104) #[] #[.pointer (some ⟨LB, 0, none⟩)]) := by rw [← hWD]; exact c0
  have c1D : WD.cell? ⟨LB, 0, none⟩ = some v := by rw [← hWD]; exact c1
  have hSD : Sl WD v ns := by rw [← hWD]; exact h
  have hspec := Lib.lastIndexByte_spec x 47
  by_cases hi : 0 ≤ Lib.lastIndexByte x 47
  · obtain ⟨i, hi1, hi2⟩ : ∃ i : Nat, Lib.lastIndexByte x 47 = i ∧ i < x.size := by
      rcases hspec with ⟨e, _⟩ | ⟨i, hlt, e, _⟩
      · omega
      · exact ⟨i, e, hlt⟩
    have cH := has1_is (x.extract 0 i) LB v ns WD c1D hSD hs hl
    rw [take_ext] at cH
    obtain ⟨A, hA⟩ : ∃ A, decide (x.data.toList.take i ∈ ns) = A := ⟨_, rfl⟩
    rw [hA] at cH
    have HA : Hid (hangB ns x = !A) := by
      unfold Hid hangB
      rw [hi1, decide_eq_true (by omega), Bool.true_and, Int.toNat_natCast, hA]
    rw [hi1] at cL
    have d1 : decide ((0 : Int) ≤ (i : Int)) = true := decide_eq_true (by omega)
    have i1 : (0 : Int) ≤ (i : Int) := by omega
    have i2 : (i : Int) ≤ (x.size : Int) := by omega
    clear hspec hi hi1 hA h hSD hs c1 c1D
    go_enter Tryz.func105, Tryz.ntmps105
    go_wp2_with fail
    refine cL.mono ?_
    rintro e w1 ⟨rfl, hw⟩
    obtain rfl : w = w1 := hw.symm
    clear hw cL
    go_upto_region 2 with fail
    refine wp_region_held_drew (S := fun W => W.cell? ⟨FB, 0, none⟩ = some (.func (.func 104) #[] #[.pointer (some ⟨LB, 0, none⟩)])) (by kernel_rfl) ?_ (fun hHeld => ?_)
    · simpa using c0
    rw [hWD] at hHeld ⊢
    refine wpAnyH_take (i := 0) (v := ?_) rfl (by kernel_rfl) (by kernel_rfl) (by kernel_rfl) (fun _ _ _ h => h) (Or.inl ⟨by rfl, ?_⟩) (by first | assumption | trivial) ?_
    rotate_left
    · intro w hSw; go_simp; (try with_reducible rfl)
    change wpAnyH _ _ _ _ _ _ _ (Act.put _ (some 7) _) _; simp only [Act.put, List.setIfInBounds_toArray, List.set_cons_zero, List.set_cons_succ]
    refine wpAnyH_take (i := 1) (v := ?_) rfl (by kernel_rfl) (by kernel_rfl) (by kernel_rfl) (fun _ _ _ h => h) (Or.inl ⟨by rfl, ?_⟩) (by first | assumption | trivial) ?_
    rotate_left
    · intro w hSw; go_simp; (try with_reducible rfl)
    change wpAnyH _ _ _ _ _ _ _ (Act.put _ (some 8) _) _; simp only [Act.put, List.setIfInBounds_toArray, List.set_cons_zero, List.set_cons_succ]
    refine wpAnyH_take (i := 2) (v := ?_) rfl (by kernel_rfl) (by kernel_rfl) (by kernel_rfl) (fun _ _ _ h => h) (Or.inl ⟨by rfl, ?_⟩) (by first | assumption | trivial) ?_
    rotate_left
    · intro w hSw; go_simp; (try with_reducible rfl)
    change wpAnyH _ _ _ _ _ _ _ (Act.put _ (some 9) _) _; simp only [Act.put, List.setIfInBounds_toArray, List.set_cons_zero, List.set_cons_succ]
    refine wpAnyH_take (i := 3) (v := ?_) rfl (by kernel_rfl) (by kernel_rfl) (by kernel_rfl) (fun _ _ _ h => h) (Or.inl ⟨by rfl, ?_⟩) (by first | assumption | trivial) ?_
    rotate_left
    · intro w hSw; go_simp; (try with_reducible rfl)
    change wpAnyH _ _ _ _ _ _ _ (Act.put _ (some 10) _) _; simp only [Act.put, List.setIfInBounds_toArray, List.set_cons_zero, List.set_cons_succ]
    refine wpAnyH_take (i := 4) (v := ?_) rfl (by kernel_rfl) (by kernel_rfl) (by kernel_rfl) (fun _ _ _ h => h) (Or.inl ⟨by rfl, ?_⟩) (by first | assumption | trivial) ?_
    rotate_left
    · intro w hSw; go_simp; (try with_reducible rfl)
    change wpAnyH _ _ _ _ _ _ _ (Act.put _ (some 11) _) _; simp only [Act.put, List.setIfInBounds_toArray, List.set_cons_zero, List.set_cons_succ]
    refine wpAnyH_take (i := 5) (v := ?_) rfl (by kernel_rfl) (by kernel_rfl) (by kernel_rfl) (fun _ _ _ h => h) (Or.inl ⟨by rfl, ?_⟩) (by first | assumption | trivial) ?_
    rotate_left
    · intro w hSw; go_simp; (try with_reducible rfl)
    change wpAnyH _ _ _ _ _ _ _ (Act.put _ (some 12) _) _; simp only [Act.put, List.setIfInBounds_toArray, List.set_cons_zero, List.set_cons_succ]
    refine wpAnyH_take (i := 6) (v := ?_) rfl (by kernel_rfl) (by kernel_rfl) (by kernel_rfl) (fun _ _ _ h => h) (Or.inl ⟨by rfl, ?_⟩) (by first | assumption | trivial) ?_
    rotate_left
    · intro w hSw; go_simp; (try with_reducible rfl)
    change wpAnyH _ _ _ _ _ _ _ (Act.put _ (some 13) _) _; simp only [Act.put, List.setIfInBounds_toArray, List.set_cons_zero, List.set_cons_succ]
    refine wpAnyH_ready (rs := [7]) (by kernel_rfl) (by simp) ?_
    refine AllReadyH.cons rfl (fun K hK => ?_) AllReadyH.nil
    go_simp
    refine cH.mono ?_
    rintro e w7 ⟨rfl, q, hq⟩
    have k7 : w7.cell? ⟨FB, 0, none⟩ = some (.func (.func 104) #[] #[.pointer (some ⟨LB, 0, none⟩)]) := by rw [hq]; exact c0D
    have HQ : Hid (∃ q, w7 = w.drewN q) := ⟨1 + q, by rw [hq, ← hWD]; exact drew_drewN w q⟩
    clear cH hq
    refine hK.out _ _ ?_ (fun hHeld => ?_)
    · exact k7
    clear hK K
    refine wpAnyH_take (i := 8) (v := ?_) rfl (by kernel_rfl) (by kernel_rfl) (by kernel_rfl) (fun _ _ _ h => h) (Or.inl ⟨by rfl, ?_⟩) (by first | assumption | trivial) ?_
    rotate_left
    · intro w hSw; go_simp; (try with_reducible rfl)
    change wpAnyH _ _ _ _ _ _ _ (Act.put _ (some 15) _) _; simp only [Act.put, List.setIfInBounds_toArray, List.set_cons_zero, List.set_cons_succ]
    refine wpAnyH_take (i := 9) (v := ?_) rfl (by kernel_rfl) (by kernel_rfl) (by kernel_rfl) (fun _ _ _ h => h) (Or.inl ⟨by rfl, ?_⟩) (by first | assumption | trivial) ?_
    rotate_left
    · intro w hSw; go_simp; (try with_reducible rfl)
    change wpAnyH _ _ _ _ _ _ _ (Act.put _ (some 16) _) _; simp only [Act.put, List.setIfInBounds_toArray, List.set_cons_zero, List.set_cons_succ]
    refine wpAnyH_take (i := 10) (v := ?_) rfl (by kernel_rfl) (by kernel_rfl) (by kernel_rfl) (fun _ _ _ h => h) (Or.inl ⟨by rfl, ?_⟩) (by first | assumption | trivial) ?_
    rotate_left
    · intro w hSw; go_simp; (try with_reducible rfl)
    refine wpAnyH_done (by kernel_rfl) ?_ _
    clear hHeld k7
    go_wp2_with fail
    go_ret
    exact ⟨by rw [HA.out]; rfl, HQ.out⟩
  · have HA : Hid (hangB ns x = false) := by
      unfold Hid hangB
      rw [decide_eq_false hi, Bool.false_and]
    obtain ⟨I, hI⟩ : ∃ i, Lib.lastIndexByte x 47 = i := ⟨_, rfl⟩
    rw [hI] at cL hi
    have d1 : decide ((0 : Int) ≤ I) = false := decide_eq_false hi
    clear hspec hI h hSD hs c1 c1D
    go_enter Tryz.func105, Tryz.ntmps105
    go_wp2_with fail
    refine cL.mono ?_
    rintro e w1 ⟨rfl, hw⟩
    obtain rfl : w = w1 := hw.symm
    clear hw cL
    go_upto_region 2 with fail
    refine wp_region_held_drew (S := fun W => W.cell? ⟨FB, 0, none⟩ = some (.func (.func 104) #[] #[.pointer (some ⟨LB, 0, none⟩)])) (by kernel_rfl) ?_ (fun hHeld => ?_)
    · simpa using c0
    rw [hWD] at hHeld ⊢
    refine wpAnyH_take (i := 0) (v := ?_) rfl (by kernel_rfl) (by kernel_rfl) (by kernel_rfl) (fun _ _ _ h => h) (Or.inl ⟨by rfl, ?_⟩) (by first | assumption | trivial) ?_
    rotate_left
    · intro w hSw; go_simp; (try with_reducible rfl)
    change wpAnyH _ _ _ _ _ _ _ (Act.put _ (some 7) _) _; simp only [Act.put, List.setIfInBounds_toArray, List.set_cons_zero, List.set_cons_succ]
    refine wpAnyH_take (i := 1) (v := ?_) rfl (by kernel_rfl) (by kernel_rfl) (by kernel_rfl) (fun _ _ _ h => h) (Or.inl ⟨by rfl, ?_⟩) (by first | assumption | trivial) ?_
    rotate_left
    · intro w hSw; go_simp; (try with_reducible rfl)
    change wpAnyH _ _ _ _ _ _ _ (Act.put _ (some 8) _) _; simp only [Act.put, List.setIfInBounds_toArray, List.set_cons_zero, List.set_cons_succ]
    refine wpAnyH_take (i := 2) (v := ?_) rfl (by kernel_rfl) (by kernel_rfl) (by kernel_rfl) (fun _ _ _ h => h) (Or.inl ⟨by rfl, ?_⟩) (by first | assumption | trivial) ?_
    rotate_left
    · intro w hSw; go_simp; (try with_reducible rfl)
    change wpAnyH _ _ _ _ _ _ _ (Act.put _ (some 9) _) _; simp only [Act.put, List.setIfInBounds_toArray, List.set_cons_zero, List.set_cons_succ]
    refine wpAnyH_take (i := 3) (v := undef) rfl (by kernel_rfl) (by kernel_rfl) (by kernel_rfl) (fun _ _ _ h => h) (Or.inr ⟨by rfl, rfl⟩) (by first | assumption | trivial) ?_
    change wpAnyH _ _ _ _ _ _ _ (Act.put _ (some 10) _) _; simp only [Act.put, List.setIfInBounds_toArray, List.set_cons_zero, List.set_cons_succ]
    refine wpAnyH_take (i := 4) (v := undef) rfl (by kernel_rfl) (by kernel_rfl) (by kernel_rfl) (fun _ _ _ h => h) (Or.inr ⟨by rfl, rfl⟩) (by first | assumption | trivial) ?_
    change wpAnyH _ _ _ _ _ _ _ (Act.put _ (some 11) _) _; simp only [Act.put, List.setIfInBounds_toArray, List.set_cons_zero, List.set_cons_succ]
    refine wpAnyH_take (i := 5) (v := undef) rfl (by kernel_rfl) (by kernel_rfl) (by kernel_rfl) (fun _ _ _ h => h) (Or.inr ⟨by rfl, rfl⟩) (by first | assumption | trivial) ?_
    change wpAnyH _ _ _ _ _ _ _ (Act.put _ (some 12) _) _; simp only [Act.put, List.setIfInBounds_toArray, List.set_cons_zero, List.set_cons_succ]
    refine wpAnyH_take (i := 6) (v := undef) rfl (by kernel_rfl) (by kernel_rfl) (by kernel_rfl) (fun _ _ _ h => h) (Or.inr ⟨by rfl, rfl⟩) (by first | assumption | trivial) ?_
    change wpAnyH _ _ _ _ _ _ _ (Act.put _ (some 13) _) _; simp only [Act.put, List.setIfInBounds_toArray, List.set_cons_zero, List.set_cons_succ]
    refine wpAnyH_take (i := 7) (v := undef) rfl (by kernel_rfl) (by kernel_rfl) (by kernel_rfl) (fun _ _ _ h => h) (Or.inr ⟨by rfl, rfl⟩) (by first | assumption | trivial) ?_
    change wpAnyH _ _ _ _ _ _ _ (Act.put _ (some 14) _) _; simp only [Act.put, List.setIfInBounds_toArray, List.set_cons_zero, List.set_cons_succ]
    refine wpAnyH_take (i := 8) (v := undef) rfl (by kernel_rfl) (by kernel_rfl) (by kernel_rfl) (fun _ _ _ h => h) (Or.inr ⟨by rfl, rfl⟩) (by first | assumption | trivial) ?_
    change wpAnyH _ _ _ _ _ _ _ (Act.put _ (some 15) _) _; simp only [Act.put, List.setIfInBounds_toArray, List.set_cons_zero, List.set_cons_succ]
    refine wpAnyH_take (i := 9) (v := ?_) rfl (by kernel_rfl) (by kernel_rfl) (by kernel_rfl) (fun _ _ _ h => h) (Or.inl ⟨by rfl, ?_⟩) (by first | assumption | trivial) ?_
    rotate_left
    · intro w hSw; go_simp; (try with_reducible rfl)
    change wpAnyH _ _ _ _ _ _ _ (Act.put _ (some 16) _) _; simp only [Act.put, List.setIfInBounds_toArray, List.set_cons_zero, List.set_cons_succ]
    refine wpAnyH_take (i := 10) (v := ?_) rfl (by kernel_rfl) (by kernel_rfl) (by kernel_rfl) (fun _ _ _ h => h) (Or.inl ⟨by rfl, ?_⟩) (by first | assumption | trivial) ?_
    rotate_left
    · intro w hSw; go_simp; (try with_reducible rfl)
    refine wpAnyH_done (by kernel_rfl) ?_ _
    clear hHeld
    go_wp2_with fail
    go_ret
    exact ⟨by rw [HA.out]; rfl, 1, hWD.symm⟩
end Go.Proofs.YtfdlopimncodcaaGreatDoor
namespace Go.Proofs.YtfdlopimncodcaaGreatDoor
open Go.RowKit Go.Proofs.Aid Go.Proofs.Bx
theorem none_hangs (FB LB : Nat) (v : Value) (ns : List Nm) (w : World) (c0 : w.cell? ⟨FB, 0, none⟩ = some (.func (.func 104) #[] #[.pointer (some ⟨LB, 0, none⟩)])) (c1 : w.cell? ⟨LB, 0, none⟩ = some v) (h : Sl w v ns) (hs : ns.Pairwise (· < ·)) (hl : ns.length ≤ 1000) (hx : ∀ n ∈ ns, n.length ≤ 1000) (hh : ∀ n ∈ ns, hangB ns ⟨n.toArray⟩ = false) :
    Calls Tryz.prog 107 #[v, .func (.func 105) #[] #[.pointer (some ⟨FB, 0, none⟩)]] w fun e w' => e = .returned (.bool false) ∧ ∃ q, w' = w.drewN q := by
  have hp : PredAt Tryz.prog 105 #[.pointer (some ⟨FB, 0, none⟩)] encShort (fun x => hangB ns ⟨x.1.toArray⟩) w := fun V x hV => by
    have k0 := (hV.cell (p := ⟨FB, 0, none⟩) (World.block_lt_of_cell? _ _ c0)).trans c0
    have k1 := (hV.cell (p := ⟨LB, 0, none⟩) (World.block_lt_of_cell? _ _ c1)).trans c1
    exact hangs_is ⟨x.1.toArray⟩ FB LB v ns V k0 k1 (h.below hV (Nat.le_refl _)) hs hl (by rw [ba_size]; exact x.2)
  by_cases hv : ns = []
  · subst hv
    obtain ⟨a, c, rfl, _⟩ := h
    refine (Tryz.slices_ContainsFunc_empty (α := Short) a c _ w).mono ?_
    rintro e w' ⟨rfl, rfl⟩
    exact ⟨rfl, 0, rfl⟩
  · obtain ⟨zs, hzs⟩ : ∃ z, (ns.attach.map fun x => (⟨x.1, hx x.1 x.2⟩ : Short)) = z := ⟨_, rfl⟩
    have hzx : zs.map (·.1) = ns := by rw [← hzs, List.map_map]; exact List.attach_map_subtype_val ns
    have hzl : zs.length = ns.length := by rw [← hzx, List.length_map]
    have hany : (zs.any fun x => hangB ns ⟨x.1.toArray⟩) = false := by
      rw [List.any_eq_false]
      intro x hxm
      have : x.1 ∈ ns := by rw [← hzx]; exact List.mem_map_of_mem hxm
      rw [hh x.1 this]
      simp
    have hpos : 0 < ns.length := List.length_pos_iff.2 hv
    obtain ⟨a, c, rfl, _⟩ := id h
    obtain ⟨b, o, rfl, hat⟩ := sl_at h (k := 0) (x := ns[0]) (List.getElem?_eq_getElem hpos)
    have hC := Tryz.slices_ContainsFunc encShort (fun x => hangB ns ⟨x.1.toArray⟩) 105 #[.pointer (some ⟨FB, 0, none⟩)] (enters_of Tryz.func105 (by kernel_rfl) rfl) b o ns.length c zs w hp (by omega) (by omega) (fun j hj => by
      have hjx : j < ns.length := by omega
      rw [hat j _ (List.getElem?_eq_getElem hjx)]
      have e2 : zs[j]!.1 = ns[j] := by
        rw [getElem!_pos zs j hj]
        have := congrArg (fun l => l[j]?) hzx
        simp only [List.getElem?_map, List.getElem?_eq_getElem hj, List.getElem?_eq_getElem hjx, Option.map_some, Option.some.injEq] at this
        exact this
      show _ = some (encStr zs[j]!.1)
      rw [e2])
    rw [List.take_of_length_le (by omega), hany] at hC
    exact hC
set_option maxHeartbeats 4000000 in
set_option maxRecDepth 100000 in
theorem whole_true (v : Value) (ns : List Nm) (w : World) (h : Sl w v ns) (hs : ns.Pairwise (· < ·)) (hl : ns.length ≤ 1000) (hx : ∀ n ∈ ns, n.length ≤ 1000) (hin : inboxN ∈ ns) (hh : ∀ n ∈ ns, hangB ns ⟨n.toArray⟩ = false) :
    Calls Tryz.prog 54 #[v] w fun e w' => e = .returned (.bool true) ∧ Below w.heap.size w w' := by
  obtain ⟨a, c, rfl, _⟩ := id h
  obtain ⟨M, hM⟩ : ∃ m, ns.length = m := ⟨_, rfl⟩
  rw [hM] at h ⊢
  have b1 : Below w.heap.size w (w.alloc (.cells #[.slice a M c] 32)) := (Below.refl _ _).alloc (Nat.le_refl _) _
  have e1 := heap_alloc_new w (.cells #[.slice a M c] 32)
  have z1 : (w.alloc (.cells #[.slice a M c] 32)).heap.size = w.heap.size + 1 := World.size_alloc _ _
  obtain ⟨W1, hW1⟩ : ∃ W, w.alloc (.cells #[.slice a M c] 32) = W := ⟨_, rfl⟩
  rw [hW1] at b1 e1 z1
  have hst := store_new W1 104 104 #[.pointer (some ⟨w.heap.size, 0, none⟩)] Tryz.prog
  have b2 : Below W1.heap.size W1 (W1.alloc (.cells #[.func (.func 104) #[] #[.pointer (some ⟨w.heap.size, 0, none⟩)]] 104)) := (Below.refl _ _).alloc (Nat.le_refl _) _
  have e2 := heap_alloc_new W1 (.cells #[.func (.func 104) #[] #[.pointer (some ⟨w.heap.size, 0, none⟩)]] 104)
  obtain ⟨W2, hW2⟩ : ∃ W, W1.alloc (.cells #[.func (.func 104) #[] #[.pointer (some ⟨w.heap.size, 0, none⟩)]] 104) = W := ⟨_, rfl⟩
  rw [hW2] at hst b2 e2
  rw [z1] at hst e2
  have c0 : W2.cell? ⟨w.heap.size + 1, 0, none⟩ = some (.func (.func 104) #[] #[.pointer (some ⟨w.heap.size, 0, none⟩)]) := rd_cell e2 rfl
  have c1 : W2.cell? ⟨w.heap.size, 0, none⟩ = some (.slice a M c) := rd_cell ((b2.block _ (by omega)).trans e1) rfl
  have hB2 : Below w.heap.size w W2 := b1.trans (b2.mono (by omega))
  have h2 := h.below hB2 (Nat.le_refl _)
  have cH := has1_is ⟨#[73, 78, 66, 79, 88]⟩ w.heap.size (.slice a M c) ns W2 c1 h2 hs hl
  rw [decide_eq_true (show (⟨#[73, 78, 66, 79, 88]⟩ : ByteArray).data.toList ∈ ns from hin)] at cH
  have HC : Hid (∀ q, Calls Tryz.prog 107 #[.slice a M c, .func (.func 105) #[] #[.pointer (some ⟨w.heap.size + 1, 0, none⟩)]] (W2.drewN q) fun e w' => e = .returned (.bool false) ∧ ∃ p, w' = (W2.drewN q).drewN p) := fun q => none_hangs (w.heap.size + 1) w.heap.size (.slice a M c) ns (W2.drewN q) c0 c1 h2 hs hl hx hh
  have HB2 : Hid (Below w.heap.size w W2) := hB2
  have HC1 : Hid (∀ q, (W2.drewN q).cell? ⟨w.heap.size, 0, none⟩ = some (.slice a M c)) := fun _ => c1
  clear h h2 hs hl hx hin hh b1 e1 b2 e2 hB2 hM
  go_enter Tryz.func54, Tryz.ntmps54
  go_wp2_with fail
  refine cH.mono ?_
  rintro e w3 ⟨rfl, q, rfl⟩
  have c3 := HC1.out q
  have cC := HC.out q
  have HB3 : Hid (Below w.heap.size w (W2.drewN q)) := below_drewN HB2.out q
  obtain ⟨W3, hW3⟩ : ∃ W, W2.drewN q = W := ⟨_, rfl⟩
  rw [hW3] at c3 cC HB3 ⊢
  clear cH HC HC1 hW3 c0 c1
  go_wp2_with fail
  refine cC.mono ?_
  rintro e w4 ⟨rfl, p, hp⟩
  have HB4 : Hid (Below w.heap.size w w4) := by rw [hp]; exact below_drewN HB3.out p
  clear cC hp
  go_wp2_with fail
  go_ret
  exact ⟨rfl, HB4.out⟩
end Go.Proofs.YtfdlopimncodcaaGreatDoor
namespace Go.Proofs.YtfdlopimncodcaaGreatDoor
open Go.RowKit Go.Proofs.Aid Go.Proofs.Fl
theorem ret_int {k : IntKind} {a b : Int} (h : a = b) : Ending.returned (.int k a) = .returned (.int k b) := by rw [h]
theorem small_any (c : UInt8) (w : World) : Calls Tryz.prog 201 #[.int .u8 (c.toNat : Int)] w fun e w' => e = .returned (.int .u8 ((sm c).toNat : Int)) ∧ w' = w := by
  have hc : c.toNat < 256 := c.toNat_lt
  by_cases h : 65 ≤ c.toNat ∧ c.toNat ≤ 90
  · obtain ⟨h1, h2⟩ := h
    have h1' : (65 : Int) ≤ (c.toNat : Int) := by omega
    have h2' : (c.toNat : Int) ≤ 90 := by omega
    go_enter Tryz.func201, Tryz.ntmps201
    go_wp2
    go_ret
    refine ⟨ret_int ?_, rfl⟩
    have : (sm c).toNat = c.toNat + 32 := by
      unfold sm; rw [if_pos ⟨h1, h2⟩, UInt8.toNat_add]
      show (c.toNat + 32) % 256 = _
      omega
    rw [this]; omega
  · by_cases h1 : 65 ≤ c.toNat
    · have h1' : (65 : Int) ≤ (c.toNat : Int) := by omega
      have h2' : ¬ (c.toNat : Int) ≤ 90 := by omega
      go_enter Tryz.func201, Tryz.ntmps201
      go_wp2
      go_ret
      exact ⟨ret_int (by unfold sm; rw [if_neg h]), rfl⟩
    · have h1' : ¬ (65 : Int) ≤ (c.toNat : Int) := by omega
      go_enter Tryz.func201, Tryz.ntmps201
      go_wp2
      go_ret
      exact ⟨ret_int (by unfold sm; rw [if_neg h]), rfl⟩
def alike (a b : Tx) (k : Nat) : Prop := (a.take k).map sm = (b.take k).map sm
theorem alike_succ {a b : Tx} {k : Nat} (ha : k < a.length) (hb : k < b.length) (h : alike a b k) (he : sm a[k] = sm b[k]) : alike a b (k + 1) := by
  unfold alike at *
  rw [List.take_succ_eq_append_getElem ha, List.take_succ_eq_append_getElem hb, List.map_append, List.map_append, h]
  simp [he]
theorem sameL_of {a b : Tx} (hl : a.length = b.length) (h : alike a b a.length) : sameL a b = true := by
  unfold alike at h
  rw [List.take_length] at h
  rw [hl, List.take_length] at h
  simp [sameL, h]
theorem sameL_len {a b : Tx} (hl : a.length ≠ b.length) : sameL a b = false := by
  unfold sameL
  rw [decide_eq_false_iff_not]
  intro h
  exact hl (by simpa using congrArg List.length h)
theorem sameL_at {a b : Tx} {k : Nat} (ha : k < a.length) (hb : k < b.length) (he : sm a[k] ≠ sm b[k]) : sameL a b = false := by
  unfold sameL
  rw [decide_eq_false_iff_not]
  intro h
  have := congrArg (·[k]?) h
  simp [ha, hb] at this
  exact he this
set_option maxHeartbeats 2000000 in
set_option maxRecDepth 100000 in
theorem same_any (a b : ByteArray) (w : World) (hs : a.size ≤ 2000000) : Calls Tryz.prog 200 #[.string a, .string b] w fun e w' => e = .returned (.bool (sameL a.data.toList b.data.toList)) ∧ ∃ n, w' = w.drewN n := by
  by_cases hl : a.size = b.size
  · have hla : a.data.toList.length = a.size := by show a.data.toList.length = a.data.size; simp
    have hlb : b.data.toList.length = a.size := by rw [hl]; show b.data.toList.length = b.data.size; simp
    obtain ⟨R, hR⟩ : ∃ R, sameL a.data.toList b.data.toList = R := ⟨_, rfl⟩
    rw [hR]
    have HR : Hid (sameL a.data.toList b.data.toList = R) := hR
    clear hR
    go_enter Tryz.func200, Tryz.ntmps200
    go_wp2
    go_loopw [13] (fun i wr => ∃ k n : Nat, i = .int .i64 (k : Int) ∧ k ≤ a.size ∧ alike a.data.toList b.data.toList k ∧ Hid (wr = w.drewN n)) (fun i _ => a.size - (intOf i).toNat)
    case atStart => exact ⟨0, 0, rfl, Nat.zero_le _, rfl, rfl⟩
    case round =>
      obtain ⟨k, n, rfl, hk, hal, hq⟩ := hrel
      by_cases hlt : k < a.size
      · have HL : Hid (alike a.data.toList b.data.toList k) := hal
        clear hal
        have hltb : k < b.size := by omega
        by_cases hxy : sm a[k] = sm b[k]
        · have HE : Hid (sm a[k] = sm b[k]) := hxy
          have heq : (((sm a[k]).toNat : Int) == ((sm b[k]).toNat : Int)) = true := by rw [hxy]; simp
          clear hxy
          go_wp2
          go_quiet ((go_at_call 201; exact Calls.quiet_of_same (small_any _ _)))
          go_wp2
          go_roundw
          case rel => exact ⟨k + 1, _, by go_num, by omega, alike_succ (by omega) (by omega) HL.out HE.out, by show _ = _; rw [hq.out, World.drewN_drewN]⟩
          case measure => simp [intOf]; omega
        · have hne : (((sm a[k]).toNat : Int) == ((sm b[k]).toNat : Int)) = false := by
            rw [beq_eq_false_iff_ne]; intro h; exact hxy (UInt8.toNat_inj.1 (by omega))
          go_wp2
          go_quiet ((go_at_call 201; exact Calls.quiet_of_same (small_any _ _)))
          go_wp2
          go_ret
          refine ⟨?_, _, by rw [hq.out, World.drewN_drewN]⟩
          rw [← HR.out, sameL_at (k := k) (by omega) (by omega) hxy]
          rfl
      · have hke : k = a.size := by omega
        have HL : Hid (alike a.data.toList b.data.toList k) := hal
        clear hal
        go_wp2
        go_ret
        refine ⟨?_, n, hq.out⟩
        rw [← HR.out, sameL_of (by omega) (by rw [hla, ← hke]; exact HL.out)]
        rfl
  · have hne : ¬ ((a.size : Int) = (b.size : Int)) := by omega
    have HF : Hid (sameL a.data.toList b.data.toList = false) := sameL_len (by
      have h1 : a.data.toList.length = a.size := by show a.data.toList.length = a.data.size; simp
      have h2 : b.data.toList.length = b.size := by show b.data.toList.length = b.data.size; simp
      omega)
    rw [HF.out]
    go_enter Tryz.func200, Tryz.ntmps200
    go_wp2
    go_ret
    exact ⟨rfl, 0, rfl⟩
def sysB (j : Nat) : ByteArray := ⟨(five.getD j []).toArray⟩
theorem sysB_data (j : Nat) : (sysB j).data.toList = five.getD j [] := by simp [sysB]
def SysAt (w : World) : Prop := ∀ j, j < 5 → w.cell? ⟨4, j, none⟩ = some (.string (sysB j))
theorem SysAt.lt {w : World} (h : SysAt w) : 4 < w.heap.size := World.block_lt_of_cell? _ _ (h 0 (by omega))
theorem SysAt.below {w w' : World} {B : Nat} (h : SysAt w) (hb : Below B w w') (hB : 4 < B) : SysAt w' := fun j hj => (hb.cell (p := ⟨4, j, none⟩) hB).trans (h j hj)
theorem same_sys (s : ByteArray) (j : Nat) (w : World) (hs : s.size ≤ 2000000) : Calls Tryz.prog 200 #[.string s, .string (sysB j)] w fun e w' => e = .returned (.bool (sameL s.data.toList (five.getD j []))) ∧ ∃ n, w' = w.drewN n := by
  have := same_any s (sysB j) w hs
  rwa [sysB_data] at this
def none_of (s : Tx) (k : Nat) : Prop := ∀ j, j < k → sameL s (five.getD j []) = false
theorem find_hit {s : Tx} {k : Nat} (hk : k < 5) (h : none_of s k) (he : sameL s (five.getD k []) = true) : five.find? (sameL s) = some (five.getD k []) := by
  rw [List.find?_eq_some_iff_getElem]
  have hl : k < five.length := hk
  refine ⟨he, k, hl, by rw [List.getD_eq_getElem?_getD, List.getElem?_eq_getElem hl]; rfl, fun j hj => ?_⟩
  have := h j hj
  rw [List.getD_eq_getElem?_getD, List.getElem?_eq_getElem (by omega)] at this
  simpa using this
theorem find_miss {s : Tx} (h : none_of s 5) : five.find? (sameL s) = none := by
  rw [List.find?_eq_none]
  intro x hx
  obtain ⟨j, hj, rfl⟩ := List.getElem_of_mem hx
  have := h j hj
  rw [List.getD_eq_getElem?_getD, List.getElem?_eq_getElem hj] at this
  simpa using this
theorem none_succ {s : Tx} {k : Nat} (h : none_of s k) (he : sameL s (five.getD k []) = false) : none_of s (k + 1) := fun j hj => by
  rcases Nat.lt_or_eq_of_le (Nat.le_of_lt_succ hj) with h1 | rfl
  · exact h j h1
  · exact he
theorem Tryz.ix0 (a b c d e : Value) (w : World) : (Instr.index 239 (.agg #[a, b, c, d, e]) (.int .i64 0)).run Tryz.prog w = .ok a w := by kernel_rfl
theorem Tryz.ix1 (a b c d e : Value) (w : World) : (Instr.index 239 (.agg #[a, b, c, d, e]) (.int .i64 1)).run Tryz.prog w = .ok b w := by kernel_rfl
theorem Tryz.ix2 (a b c d e : Value) (w : World) : (Instr.index 239 (.agg #[a, b, c, d, e]) (.int .i64 2)).run Tryz.prog w = .ok c w := by kernel_rfl
theorem Tryz.ix3 (a b c d e : Value) (w : World) : (Instr.index 239 (.agg #[a, b, c, d, e]) (.int .i64 3)).run Tryz.prog w = .ok d w := by kernel_rfl
theorem Tryz.ix4 (a b c d e : Value) (w : World) : (Instr.index 239 (.agg #[a, b, c, d, e]) (.int .i64 4)).run Tryz.prog w = .ok e w := by kernel_rfl
set_option maxHeartbeats 2000000 in
set_option maxRecDepth 100000 in
theorem system_any (s : ByteArray) (w : World) (hs : s.size ≤ 2000000) (hg : SysAt w) : Calls Tryz.prog 172 #[.string s] w fun e w' =>
    ((∃ j, j < 5 ∧ five.find? (sameL s.data.toList) = some (five.getD j []) ∧ e = .returned (.tuple #[.string (sysB j), .nilIface])) ∨ (five.find? (sameL s.data.toList) = none ∧ e = .returned (.tuple #[.string ⟨#[]⟩, .iface 42 (.int .i64 3)]))) ∧ ∃ n, w' = w.drewN n := by
  have c0 := hg 0 (by omega)
  have c1 := hg 1 (by omega)
  have c2 := hg 2 (by omega)
  have c3 := hg 3 (by omega)
  have c4 := hg 4 (by omega)
  clear hg
  have i0 := Tryz.ix0
  have i1 := Tryz.ix1
  have i2 := Tryz.ix2
  have i3 := Tryz.ix3
  have i4 := Tryz.ix4
  go_enter Tryz.func172, Tryz.ntmps172
  go_wp2
  go_loopw [7] (fun i wr => ∃ k n : Nat, i = .int .i64 (k : Int) ∧ k ≤ 5 ∧ none_of s.data.toList k ∧ Hid (wr = w.drewN n)) (fun i _ => 5 - (intOf i).toNat)
  case atStart => exact ⟨0, 0, rfl, by omega, fun j hj => absurd hj (by omega), rfl⟩
  case round =>
    obtain ⟨k, n, rfl, hk, hno, hq⟩ := hrel
    have HN : Hid (none_of s.data.toList k) := hno
    clear hno
    by_cases hlt : k < 5
    · have cS := fun W => same_sys s k W hs
      obtain ⟨B, hB⟩ : ∃ B, sameL s.data.toList (five.getD k []) = B := ⟨_, rfl⟩
      have HB : Hid (sameL s.data.toList (five.getD k []) = B) := hB
      rw [hB] at cS
      clear hB
      have hk5 : k = 0 ∨ k = 1 ∨ k = 2 ∨ k = 3 ∨ k = 4 := by omega
      cases B
      · rcases hk5 with rfl | rfl | rfl | rfl | rfl
        all_goals
          go_wp2_with (go_at_call 200; refine (cS _).mono ?_; rintro e w2 ⟨rfl, m, rfl⟩)
          go_roundw
          case rel => first | exact ⟨1, n + m, rfl, by omega, none_succ HN.out HB.out, by show _ = _; rw [hq.out, World.drewN_drewN]⟩ | exact ⟨2, n + m, rfl, by omega, none_succ HN.out HB.out, by show _ = _; rw [hq.out, World.drewN_drewN]⟩ | exact ⟨3, n + m, rfl, by omega, none_succ HN.out HB.out, by show _ = _; rw [hq.out, World.drewN_drewN]⟩ | exact ⟨4, n + m, rfl, by omega, none_succ HN.out HB.out, by show _ = _; rw [hq.out, World.drewN_drewN]⟩ | exact ⟨5, n + m, rfl, by omega, none_succ HN.out HB.out, by show _ = _; rw [hq.out, World.drewN_drewN]⟩
          case measure => simp [intOf]
      · rcases hk5 with rfl | rfl | rfl | rfl | rfl
        all_goals
          go_wp2_with (go_at_call 200; refine (cS _).mono ?_; rintro e w2 ⟨rfl, m, rfl⟩)
          go_ret2
          exact ⟨Or.inl ⟨_, hlt, find_hit hlt HN.out HB.out, rfl⟩, n + m, by rw [hq.out, World.drewN_drewN]⟩
    · have hk5 : k = 5 := by omega
      subst hk5
      go_wp2
      go_ret2
      exact ⟨Or.inr ⟨find_miss HN.out, rfl⟩, n, hq.out⟩
theorem kw_of (c : UInt8) : kw c = true ↔ (97 ≤ (sm c).toNat ∧ (sm c).toNat ≤ 122) ∨ (48 ≤ c.toNat ∧ c.toNat ≤ 57) ∨ c.toNat = 95 ∨ c.toNat = 36 := by
  unfold kw
  have e1 : (c == 95) = decide (c.toNat = 95) := by rw [Bool.eq_iff_iff]; simp [← UInt8.toNat_inj]
  have e2 : (c == 36) = decide (c.toNat = 36) := by rw [Bool.eq_iff_iff]; simp [← UInt8.toNat_inj]
  rw [e1, e2]
  simp only [Bool.or_eq_true, decide_eq_true_eq]
  omega
theorem sm_small (c : UInt8) (h : c.toNat < 65 ∨ 90 < c.toNat) : (sm c).toNat = c.toNat := by unfold sm; rw [if_neg (by omega)]
theorem kw_snoc {l : Tx} {k : Nat} (hk : k < l.length) (h : (l.take k).all kw = true) (hc : kw l[k] = true) : (l.take (k + 1)).all kw = true := by
  rw [List.take_succ_eq_append_getElem hk, List.all_append, h]; simp [hc]
theorem all_miss {l : Tx} {k : Nat} (hk : k < l.length) (hc : kw l[k] ≠ true) : l.all kw = false := by
  rw [List.all_eq_false]
  exact ⟨l[k], List.getElem_mem _, hc⟩
set_option maxHeartbeats 2000000 in
set_option maxRecDepth 100000 in
theorem keyword_any (s : ByteArray) (w : World) (hs : s.size ≤ 2000000) : Calls Tryz.prog 173 #[.string s] w fun e w' => e = .returned (.bool (s.data.toList.all kw && !s.data.toList.isEmpty)) ∧ w' = w := by
  have hla : s.data.toList.length = s.size := by show s.data.toList.length = s.data.size; simp
  obtain ⟨R, hR⟩ : ∃ R, (s.data.toList.all kw && !s.data.toList.isEmpty) = R := ⟨_, rfl⟩
  have HR : Hid ((s.data.toList.all kw && !s.data.toList.isEmpty) = R) := hR
  rw [hR]
  clear hR
  go_enter Tryz.func173, Tryz.ntmps173
  go_wp2
  go_loop [8] (fun i => ∃ k : Nat, i = .int .i64 (k : Int) ∧ k ≤ s.size ∧ (s.data.toList.take k).all kw = true) (fun i => s.size - (intOf i).toNat)
  case atStart => exact ⟨0, rfl, Nat.zero_le _, rfl⟩
  case round =>
    obtain ⟨k, rfl, hk, hal⟩ := hrel
    have HL : Hid ((s.data.toList.take k).all kw = true) := hal
    clear hal
    by_cases hlt : k < s.size
    · have hkl : k < s.data.toList.length := by omega
      have cS := small_any s[k]
      have hkw := kw_of s[k]
      have hsm := sm_small s[k]
      have h256 : s[k].toNat < 256 := s[k].toNat_lt
      have hx256 : (sm s[k]).toNat < 256 := (sm s[k]).toNat_lt
      have HK : Hid (kw s.data.toList[k] = kw s[k]) := rfl
      obtain ⟨x, hx⟩ : ∃ x, (sm s[k]).toNat = x := ⟨_, rfl⟩
      obtain ⟨c, hc⟩ : ∃ c, s[k].toNat = c := ⟨_, rfl⟩
      rw [hx] at cS hkw hsm hx256
      rw [hc] at cS hkw hsm h256
      have HC : Hid (s[k].toNat = c) := hc
      by_cases hq : kw s[k] = true
      · have HN : Hid ((s.data.toList.take (k + 1)).all kw = true) := kw_snoc hkl HL.out hq
        have hways := hkw.1 hq
        clear hkw hq
        rcases hways with ⟨h1, h2⟩ | ⟨h1, h2⟩ | h1 | h1
        · have g1 : decide ((97 : Int) ≤ (x : Int)) = true := by simp; omega
          have g2 : decide ((x : Int) ≤ 122) = true := by simp; omega
          clear hsm
          go_wp2_with (go_at_call 201; refine (cS _).mono ?_; rintro e w2 ⟨rfl, rfl⟩)
          go_round
          case rel => exact ⟨k + 1, by go_num, by omega, HN.out⟩
          case measure => simp [intOf]; omega
        · have g0 := hsm (by omega)
          have g1 : decide ((97 : Int) ≤ (x : Int)) = false := by simp; omega
          have g2 : decide ((c : Int) < 48) = false := by simp; omega
          have g3 : decide ((57 : Int) < (c : Int)) = false := by simp; omega
          clear hsm g0
          go_wp2_with (go_at_call 201; refine (cS _).mono ?_; rintro e w2 ⟨rfl, rfl⟩)
          go_round
          case rel => exact ⟨k + 1, by go_num, by omega, HN.out⟩
          case measure => simp [intOf]; omega
        · have g0 := hsm (by omega)
          have g1 : decide ((97 : Int) ≤ (x : Int)) = false := by simp; omega
          have g2 : decide ((c : Int) < 48) = false := by simp; omega
          have g3 : decide ((57 : Int) < (c : Int)) = true := by simp; omega
          have g4 : ((c : Int) != 95) = false := by simp; omega
          clear hsm g0 h1
          go_wp2_with (go_at_call 201; refine (cS _).mono ?_; rintro e w2 ⟨rfl, rfl⟩)
          go_round
          case rel => exact ⟨k + 1, by go_num, by omega, HN.out⟩
          case measure => simp [intOf]; omega
        · have g0 := hsm (by omega)
          have g1 : decide ((97 : Int) ≤ (x : Int)) = false := by simp; omega
          have g2 : decide ((c : Int) < 48) = true := by simp; omega
          have g4 : ((c : Int) != 95) = true := by simp; omega
          have g5 : ((c : Int) != 36) = false := by simp; omega
          clear hsm g0 h1
          go_wp2_with (go_at_call 201; refine (cS _).mono ?_; rintro e w2 ⟨rfl, rfl⟩)
          go_round
          case rel => exact ⟨k + 1, by go_num, by omega, HN.out⟩
          case measure => simp [intOf]; omega
      · have HF : Hid (s.data.toList.all kw = false) := all_miss hkl hq
        have hn : ¬ ((97 ≤ x ∧ x ≤ 122) ∨ (48 ≤ c ∧ c ≤ 57) ∨ c = 95 ∨ c = 36) := fun h => hq (hkw.2 h)
        clear hkw hq hsm
        have g4 : ((c : Int) != 95) = true := by simp; omega
        have g5 : ((c : Int) != 36) = true := by simp; omega
        by_cases a1 : 97 ≤ x
        · have b1 : decide ((97 : Int) ≤ (x : Int)) = true := by simp; omega
          have b2 : decide ((x : Int) ≤ 122) = false := by simp; omega
          by_cases a3 : c < 48
          · have b3 : decide ((c : Int) < 48) = true := by simp; omega
            clear hn
            go_wp2_with (go_at_call 201; refine (cS _).mono ?_; rintro e w2 ⟨rfl, rfl⟩)
            go_ret
            exact ⟨by rw [← HR.out, HF.out]; rfl, rfl⟩
          · have b3 : decide ((c : Int) < 48) = false := by simp; omega
            have b4 : decide ((57 : Int) < (c : Int)) = true := by simp; omega
            clear hn
            go_wp2_with (go_at_call 201; refine (cS _).mono ?_; rintro e w2 ⟨rfl, rfl⟩)
            go_ret
            exact ⟨by rw [← HR.out, HF.out]; rfl, rfl⟩
        · have b1 : decide ((97 : Int) ≤ (x : Int)) = false := by simp; omega
          by_cases a3 : c < 48
          · have b3 : decide ((c : Int) < 48) = true := by simp; omega
            clear hn
            go_wp2_with (go_at_call 201; refine (cS _).mono ?_; rintro e w2 ⟨rfl, rfl⟩)
            go_ret
            exact ⟨by rw [← HR.out, HF.out]; rfl, rfl⟩
          · have b3 : decide ((c : Int) < 48) = false := by simp; omega
            have b4 : decide ((57 : Int) < (c : Int)) = true := by simp; omega
            clear hn
            go_wp2_with (go_at_call 201; refine (cS _).mono ?_; rintro e w2 ⟨rfl, rfl⟩)
            go_ret
            exact ⟨by rw [← HR.out, HF.out]; rfl, rfl⟩
    · have hke : k = s.size := by omega
      have HA : Hid (s.data.toList.all kw = true) := by
        have := HL.out
        rw [List.take_of_length_le (by omega)] at this
        exact this
      obtain ⟨E, hE⟩ : ∃ E, s.toList.isEmpty = E := ⟨_, rfl⟩
      have HE : Hid (R = !E) := by show R = !E; rw [← HR.out, HA.out, ← hE, Lib.toList_data, Bool.true_and]
      clear HR
      cases E
      all_goals
        go_wp2
        go_ret
        exact ⟨by rw [HE.out]; rfl, rfl⟩
end Go.Proofs.YtfdlopimncodcaaGreatDoor
