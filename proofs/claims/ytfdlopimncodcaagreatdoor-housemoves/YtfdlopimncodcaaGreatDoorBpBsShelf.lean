/-
  The library's contracts at this program's numbers, and more.
-/
import Derived.Test.YtfdlopimncodcaaGreatDoorMHwWant
import Derived.Shelf.Spec.SearchS
namespace Go.Proofs
open Go.Shelf
def Tryz.laysBs_ren : Go.Shelf.Ren := ⟨fun | 26 => 87 | 33 => 132 | 34 => 133 | 38 => 163 | n => n, fun | 24 => 32 | 9 => 9 | 3 => 3 | 4 => 4 | 40 => 27 | 0 => 0 | n => n, fun | n => n⟩
theorem Tryz.laysBs : Go.Proofs.Lays2.n26 Tryz.prog Tryz.laysBs_ren := {
  mixed := by kernel_rfl
  f26 := Tryz.func87.trans (congrArg some (by kernel_rfl))
  f33 := Tryz.func132.trans (congrArg some (by kernel_rfl))
  f34 := Tryz.func133.trans (congrArg some (by kernel_rfl))
  f38 := Tryz.func163.trans (congrArg some (by kernel_rfl))
  t0 := Tryz.underlying0
  a0 := Tryz.isAgg0
  z0 := Tryz.sizeOf0
  v0 := Tryz.zeroValue0
  t3 := Tryz.underlying3
  a3 := Tryz.isAgg3
  z3 := Tryz.sizeOf3
  v3 := Tryz.zeroValue3
  t4 := Tryz.underlying4
  a4 := Tryz.isAgg4
  z4 := Tryz.sizeOf4
  v4 := Tryz.zeroValue4
  t9 := Tryz.underlying9
  a9 := Tryz.isAgg9
  z9 := Tryz.sizeOf9
  v9 := Tryz.zeroValue9
  t24 := Tryz.underlying32
  a24 := Tryz.isAgg32
  z24 := Tryz.sizeOf32
  v24 := Tryz.zeroValue32
  t40 := Tryz.underlying27
  a40 := Tryz.isAgg27
  z40 := Tryz.sizeOf27
  v40 := Tryz.zeroValue27 }
open Go.RowKit Go.Lib in
theorem Tryz.slices_BinarySearch_string (b off n c : Nat) (Sx : Nat → ByteArray) (x : ByteArray) (w : World) (hbig : n < 4611686018427387904) (hc : ∀ j, j < n → w.cell? ⟨b, off + j, none⟩ = some (.string (Sx j))) :
    Calls Tryz.prog 87 #[.slice (some ⟨b, off, none⟩) n c, .string x] w fun e w' =>
      e = .returned (.tuple #[.int .i64 (Lib.bsGo (fun t => Op.bytesLess (Sx t).toList x.toList) n 0 n : Nat), .bool (decide (Lib.bsGo (fun t => Op.bytesLess (Sx t).toList x.toList) n 0 n < n ∧ Sx (Lib.bsGo (fun t => Op.bytesLess (Sx t).toList x.toList) n 0 n) = x))]) ∧ ∃ q, w' = w.drewN q := Any2.slices_BinarySearch_string Tryz.laysBs b off n c Sx x w hbig hc
end Go.Proofs
namespace Go.Proofs.YtfdlopimncodcaaGreatDoor
open Go.RowKit Go.Proofs.Aid Go.Proofs.Bx

theorem place_of (x : Nm) : ∀ (ns : List Nm), ns.Pairwise (· < ·) → ∃ k, k ≤ ns.length ∧ (∀ t (h : t < ns.length), t < k → ns[t] < x) ∧ ∀ t (h : t < ns.length), k ≤ t → ¬ ns[t] < x
  | [], _ => ⟨0, Nat.le_refl _, fun t h => absurd h (Nat.not_lt_zero _), fun t h => absurd h (Nat.not_lt_zero _)⟩
  | a :: ns, hs => by
    obtain ⟨h1, h2⟩ := List.pairwise_cons.1 hs
    by_cases ha : a < x
    · obtain ⟨k, k1, k2, k3⟩ := place_of x ns h2
      refine ⟨k + 1, by simp; omega, fun t h ht => ?_, fun t h ht => ?_⟩
      · cases t with
        | zero => exact ha
        | succ t => exact k2 t (by simpa using h) (by omega)
      · cases t with
        | zero => omega
        | succ t => exact k3 t (by simpa using h) (by omega)
    · refine ⟨0, Nat.zero_le _, fun t _ ht => absurd ht (Nat.not_lt_zero _), fun t h _ hlt => ?_⟩
      cases t with
      | zero => exact ha hlt
      | succ t => exact ha (List.lt_trans (h1 _ (List.getElem_mem (by simpa using h))) hlt)
/-- slices.BinarySearch at names in order. -/
theorem bs_is (v : Value) (ns : List Nm) (x : ByteArray) (w : World) (h : Sl w v ns) (hs : ns.Pairwise (· < ·)) (hl : ns.length ≤ 1000) :
    Calls Tryz.prog 87 #[v, .string x] w fun e w' => (∃ k : Nat, e = .returned (.tuple #[.int .i64 (k : Int), .bool (decide (x.data.toList ∈ ns))]) ∧ k ≤ ns.length ∧ (∀ t (h : t < ns.length), t < k → ns[t] < x.data.toList) ∧ ∀ t (h : t < ns.length), k ≤ t → ¬ ns[t] < x.data.toList) ∧ ∃ q, w' = w.drewN q := by
  obtain ⟨k, k1, k2, k3⟩ := place_of x.data.toList ns hs
  by_cases hn : ns = []
  · subst hn
    obtain ⟨a, c, rfl, _⟩ := h
    refine (bs_nil a c x w).mono ?_
    rintro e w' ⟨rfl, rfl⟩
    exact ⟨⟨0, by simp, Nat.zero_le _, fun t h => absurd h (Nat.not_lt_zero _), fun t h => absurd h (Nat.not_lt_zero _)⟩, 0, rfl⟩
  · obtain ⟨a, c, rfl, _⟩ := id h
    obtain ⟨b, o, rfl, hat⟩ := sl_at h (k := 0) (x := ns[0]'(List.length_pos_iff.2 hn)) (List.getElem?_eq_getElem _)
    have hSx : ∀ t, ((⟨(ns.getD t x.data.toList).toArray⟩ : ByteArray)).toList = ns.getD t x.data.toList := fun t => by rw [Lib.toList_data]
    have hless : ∀ t, Op.bytesLess ((⟨(ns.getD t x.data.toList).toArray⟩ : ByteArray)).toList x.toList = decide (ns.getD t x.data.toList < x.data.toList) := fun t => by
      rw [hSx, bytesLess_eq, Lib.toList_data]
    have hbs : Lib.bsGo (fun t => Op.bytesLess ((⟨(ns.getD t x.data.toList).toArray⟩ : ByteArray)).toList x.toList) ns.length 0 ns.length = k := by
      refine Lib.bsGo_spec _ k (fun t ht => ?_) (fun t ht => ?_) _ _ _ (by omega) (Nat.zero_le _) k1
      · rw [hless]
        refine decide_eq_true ?_
        rw [List.getD_eq_getElem?_getD, List.getElem?_eq_getElem (by omega)]
        exact k2 t (by omega) ht
      · rw [hless]
        refine decide_eq_false ?_
        by_cases htl : t < ns.length
        · rw [List.getD_eq_getElem?_getD, List.getElem?_eq_getElem htl]
          exact k3 t htl ht
        · rw [List.getD_eq_getElem?_getD, List.getElem?_eq_none (by omega)]
          exact List.lt_irrefl _
    have hB := Tryz.slices_BinarySearch_string b o ns.length c (fun t => (⟨(ns.getD t x.data.toList).toArray⟩ : ByteArray)) x w (by omega) (fun j hj => by
      rw [hat j _ (List.getElem?_eq_getElem hj), List.getD_eq_getElem?_getD, List.getElem?_eq_getElem hj]
      rfl)
    rw [hbs] at hB
    have hfound : decide (k < ns.length ∧ (⟨(ns.getD k x.data.toList).toArray⟩ : ByteArray) = x) = decide (x.data.toList ∈ ns) := by
      refine decide_eq_decide.2 ⟨fun ⟨q1, q2⟩ => ?_, fun hm => ?_⟩
      · have e1 : ns.getD k x.data.toList = x.data.toList := by
          have := congrArg (fun y : ByteArray => y.data.toList) q2
          simpa using this
        rw [List.getD_eq_getElem?_getD, List.getElem?_eq_getElem q1] at e1
        have e1 : ns[k] = x.data.toList := e1
        rw [← e1]
        exact List.getElem_mem q1
      · obtain ⟨t, ht, e1⟩ := List.getElem_of_mem hm
        have htk : t = k := by
          rcases Nat.lt_trichotomy t k with h5 | h5 | h5
          · exact absurd (k2 t ht h5) (by rw [e1]; exact List.lt_irrefl _)
          · exact h5
          · have h6 := List.pairwise_iff_getElem.1 hs k t (by omega) ht h5
            rw [e1] at h6
            exact absurd h6 (k3 k (by omega) (Nat.le_refl _))
        subst htk
        refine ⟨ht, ?_⟩
        rw [List.getD_eq_getElem?_getD, List.getElem?_eq_getElem ht]
        show (⟨ns[t].toArray⟩ : ByteArray) = x
        rw [e1]
    rw [hfound] at hB
    refine hB.mono ?_
    rintro e w' ⟨rfl, q, rfl⟩
    exact ⟨⟨k, rfl, k1, k2, k3⟩, q, rfl⟩
set_option maxHeartbeats 2000000 in
theorem has1_is (x : ByteArray) (p : Nat) (v : Value) (ns : List Nm) (w : World) (hp : w.cell? ⟨p, 0, none⟩ = some v) (h : Sl w v ns) (hs : ns.Pairwise (· < ·)) (hl : ns.length ≤ 1000) :
    Calls Tryz.prog 104 #[.string x, .pointer (some ⟨p, 0, none⟩)] w fun e w' => e = .returned (.bool (decide (x.data.toList ∈ ns))) ∧ ∃ q, w' = w.drewN q := by
  have cB : Calls Tryz.prog 87 #[v, .string x] w fun e w' => (∃ k : Nat, e = .returned (.tuple #[.int .i64 (k : Int), .bool (decide (x.data.toList ∈ ns))])) ∧ ∃ q, w' = w.drewN q := (bs_is v ns x w h hs hl).mono fun _ _ ⟨⟨k, e1, _⟩, e2⟩ => ⟨⟨k, e1⟩, e2⟩
  obtain ⟨A, hA⟩ : ∃ A, decide (x.data.toList ∈ ns) = A := ⟨_, rfl⟩
  rw [hA] at cB ⊢
  obtain ⟨a, c, rfl, _⟩ := id h
  obtain ⟨M, hM⟩ : ∃ m, ns.length = m := ⟨_, rfl⟩
  rw [hM] at hp cB
  clear hA h hs hM
  go_enter Tryz.func104, Tryz.ntmps104
  go_wp2_with fail
  refine cB.mono ?_
  rintro e w1 ⟨⟨k, rfl⟩, q, hq⟩
  have HQ : Hid (∃ q, w1 = w.drewN q) := ⟨q, hq⟩
  clear cB hq
  go_wp2_with fail
  go_ret
  exact ⟨rfl, HQ.out⟩
end Go.Proofs.YtfdlopimncodcaaGreatDoor
namespace Go.Proofs
open Go.Shelf
def Tryz.lays148_ren : Go.Shelf.Ren := ⟨fun | 148 => 106 | 222 => 80 | 223 => 146 | 269 => 177 | n => n, fun | 9 => 9 | 3 => 3 | 4 => 4 | 5 => 5 | 146 => 218 | 51 => 217 | 46 => 27 | n => n, fun | n => n⟩
theorem Tryz.lays148 : Go.Proofs.Lays.n148 Tryz.prog Tryz.lays148_ren := {
  mixed := by kernel_rfl
  f148 := Tryz.func106.trans (congrArg some (by kernel_rfl))
  f222 := Tryz.func80.trans (congrArg some (by kernel_rfl))
  f223 := Tryz.func146.trans (congrArg some (by kernel_rfl))
  f269 := Tryz.func177.trans (congrArg some (by kernel_rfl))
  t3 := Tryz.underlying3
  a3 := Tryz.isAgg3
  z3 := Tryz.sizeOf3
  v3 := Tryz.zeroValue3
  t4 := Tryz.underlying4
  a4 := Tryz.isAgg4
  z4 := Tryz.sizeOf4
  v4 := Tryz.zeroValue4
  t5 := Tryz.underlying5
  a5 := Tryz.isAgg5
  z5 := Tryz.sizeOf5
  v5 := Tryz.zeroValue5
  t9 := Tryz.underlying9
  a9 := Tryz.isAgg9
  z9 := Tryz.sizeOf9
  v9 := Tryz.zeroValue9
  t46 := Tryz.underlying27
  a46 := Tryz.isAgg27
  z46 := Tryz.sizeOf27
  v46 := Tryz.zeroValue27
  t51 := Tryz.underlying217
  a51 := Tryz.isAgg217
  z51 := Tryz.sizeOf217
  v51 := Tryz.zeroValue217
  t146 := Tryz.underlying218
  a146 := Tryz.isAgg218
  z146 := Tryz.sizeOf218
  v146 := Tryz.zeroValue218 }
open Go.RowKit Go.Lib in
theorem Tryz.strings_LastIndex_one (s sub : ByteArray) (h1 : sub.size = 1) (hs : s.size < 4611686018427387904) (w : World) :
    Calls Tryz.prog 106 #[.string s, .string sub] w fun e w' => e = .returned (.int .i64 (Lib.lastIndexByte s ((sub[0]'(by omega)).toNat : Int))) ∧ w' = w := Any.strings_LastIndex_one Tryz.lays148 s sub h1 hs w
end Go.Proofs
namespace Go.Proofs.YtfdlopimncodcaaGreatDoor
open Go.RowKit Go.Proofs.Aid Go.Proofs.Bx

theorem drew_drewN (w : World) (q : Nat) : (w.drew).drewN q = w.drewN (1 + q) := by
  exact (show (w.drewN 1).drewN q = w.drewN (1 + q) from by rw [World.drewN_drewN])
/-- A name of which the one in which it lies is not there. -/
def hangB (ns : List Nm) (x : ByteArray) : Bool := decide (0 ≤ Lib.lastIndexByte x 47) && !decide (x.data.toList.take (Lib.lastIndexByte x 47).toNat ∈ ns)
set_option maxHeartbeats 4000000 in
set_option maxRecDepth 100000 in
theorem hangs_is (x : ByteArray) (FB LB : Nat) (v : Value) (ns : List Nm) (w : World) (c0 : w.cell? ⟨FB, 0, none⟩ = some (.func (.func 104) #[] #[.pointer (some ⟨LB, 0, none⟩)])) (c1 : w.cell? ⟨LB, 0, none⟩ = some v) (h : Sl w v ns) (hs : ns.Pairwise (· < ·)) (hl : ns.length ≤ 1000) (hx : x.size ≤ 1000) :
    Calls Tryz.prog 105 #[.string x, .pointer (some ⟨FB, 0, none⟩)] w fun e w' => e = .returned (.bool (hangB ns x)) ∧ ∃ q, w' = w.drewN q := by
  have cL := Tryz.strings_LastIndex_one x ⟨#[47]⟩ rfl (by omega) w
  rw [show (((⟨#[47]⟩ : ByteArray)[0]'(by decide)).toNat : Int) = 47 from rfl] at cL
  obtain ⟨WD, hWD⟩ : ∃ W, w.drew = W := ⟨_, rfl⟩
  have c0D : WD.cell? ⟨FB, 0, none⟩ = some (.func (.func 104) #[] #[.pointer (some ⟨LB, 0, none⟩)]) := by rw [← hWD]; exact c0
  have c1D : WD.cell? ⟨LB, 0, none⟩ = some v := by rw [← hWD]; exact c1
  have hSD : Sl WD v ns := by rw [← hWD]; exact h
  have hspec := Lib.lastIndexByte_spec x 47
  by_cases hi : 0 ≤ Lib.lastIndexByte x 47
  · obtain ⟨i, hi1, hi2⟩ : ∃ i : Nat, Lib.lastIndexByte x 47 = i ∧ i < x.size := by
      rcases hspec with ⟨e, _⟩ | ⟨i, hlt, e, _⟩
      · omega
      · exact ⟨i, e, hlt⟩
    have cH := has1_is (x.extract 0 i) LB v ns WD c1D hSD hs hl
    rw [take_ext] at cH
    obtain ⟨A, hA⟩ : ∃ A, decide (x.data.toList.take i ∈ ns) = A := ⟨_, rfl⟩
    rw [hA] at cH
    have HA : Hid (hangB ns x = !A) := by
      unfold Hid hangB
      rw [hi1, decide_eq_true (by omega), Bool.true_and, Int.toNat_natCast, hA]
    rw [hi1] at cL
    have d1 : decide ((0 : Int) ≤ (i : Int)) = true := decide_eq_true (by omega)
    have i1 : (0 : Int) ≤ (i : Int) := by omega
    have i2 : (i : Int) ≤ (x.size : Int) := by omega
    clear hspec hi hi1 hA h hSD hs c1 c1D
    go_enter Tryz.func105, Tryz.ntmps105
    go_wp2_with fail
    refine cL.mono ?_
    rintro e w1 ⟨rfl, hw⟩
    obtain rfl : w = w1 := hw.symm
    clear hw cL
    go_upto_region 2 with fail
    refine wp_region_held_drew (S := fun W => W.cell? ⟨FB, 0, none⟩ = some (.func (.func 104) #[] #[.pointer (some ⟨LB, 0, none⟩)])) (by kernel_rfl) ?_ (fun hHeld => ?_)
    · simpa using c0
    rw [hWD] at hHeld ⊢
    refine wpAnyH_take (i := 0) (v := ?_) rfl (by kernel_rfl) (by kernel_rfl) (by kernel_rfl) (fun _ _ _ h => h) (Or.inl ⟨by rfl, ?_⟩) (by first | assumption | trivial) ?_
    rotate_left
    · intro w hSw; go_simp; (try with_reducible rfl)
    change wpAnyH _ _ _ _ _ _ _ (Act.put _ (some 7) _) _; simp only [Act.put, List.setIfInBounds_toArray, List.set_cons_zero, List.set_cons_succ]
    refine wpAnyH_take (i := 1) (v := ?_) rfl (by kernel_rfl) (by kernel_rfl) (by kernel_rfl) (fun _ _ _ h => h) (Or.inl ⟨by rfl, ?_⟩) (by first | assumption | trivial) ?_
    rotate_left
    · intro w hSw; go_simp; (try with_reducible rfl)
    change wpAnyH _ _ _ _ _ _ _ (Act.put _ (some 8) _) _; simp only [Act.put, List.setIfInBounds_toArray, List.set_cons_zero, List.set_cons_succ]
    refine wpAnyH_take (i := 2) (v := ?_) rfl (by kernel_rfl) (by kernel_rfl) (by kernel_rfl) (fun _ _ _ h => h) (Or.inl ⟨by rfl, ?_⟩) (by first | assumption | trivial) ?_
    rotate_left
    · intro w hSw; go_simp; (try with_reducible rfl)
    change wpAnyH _ _ _ _ _ _ _ (Act.put _ (some 9) _) _; simp only [Act.put, List.setIfInBounds_toArray, List.set_cons_zero, List.set_cons_succ]
    refine wpAnyH_take (i := 3) (v := ?_) rfl (by kernel_rfl) (by kernel_rfl) (by kernel_rfl) (fun _ _ _ h => h) (Or.inl ⟨by rfl, ?_⟩) (by first | assumption | trivial) ?_
    rotate_left
    · intro w hSw; go_simp; (try with_reducible rfl)
    change wpAnyH _ _ _ _ _ _ _ (Act.put _ (some 10) _) _; simp only [Act.put, List.setIfInBounds_toArray, List.set_cons_zero, List.set_cons_succ]
    refine wpAnyH_take (i := 4) (v := ?_) rfl (by kernel_rfl) (by kernel_rfl) (by kernel_rfl) (fun _ _ _ h => h) (Or.inl ⟨by rfl, ?_⟩) (by first | assumption | trivial) ?_
    rotate_left
    · intro w hSw; go_simp; (try with_reducible rfl)
    change wpAnyH _ _ _ _ _ _ _ (Act.put _ (some 11) _) _; simp only [Act.put, List.setIfInBounds_toArray, List.set_cons_zero, List.set_cons_succ]
    refine wpAnyH_take (i := 5) (v := ?_) rfl (by kernel_rfl) (by kernel_rfl) (by kernel_rfl) (fun _ _ _ h => h) (Or.inl ⟨by rfl, ?_⟩) (by first | assumption | trivial) ?_
    rotate_left
    · intro w hSw; go_simp; (try with_reducible rfl)
    change wpAnyH _ _ _ _ _ _ _ (Act.put _ (some 12) _) _; simp only [Act.put, List.setIfInBounds_toArray, List.set_cons_zero, List.set_cons_succ]
    refine wpAnyH_take (i := 6) (v := ?_) rfl (by kernel_rfl) (by kernel_rfl) (by kernel_rfl) (fun _ _ _ h => h) (Or.inl ⟨by rfl, ?_⟩) (by first | assumption | trivial) ?_
    rotate_left
    · intro w hSw; go_simp; (try with_reducible rfl)
    change wpAnyH _ _ _ _ _ _ _ (Act.put _ (some 13) _) _; simp only [Act.put, List.setIfInBounds_toArray, List.set_cons_zero, List.set_cons_succ]
    refine wpAnyH_ready (rs := [7]) (by kernel_rfl) (by simp) ?_
    refine AllReadyH.cons rfl (fun K hK => ?_) AllReadyH.nil
    go_simp
    refine cH.mono ?_
    rintro e w7 ⟨rfl, q, hq⟩
    have k7 : w7.cell? ⟨FB, 0, none⟩ = some (.func (.func 104) #[] #[.pointer (some ⟨LB, 0, none⟩)]) := by rw [hq]; exact c0D
    have HQ : Hid (∃ q, w7 = w.drewN q) := ⟨1 + q, by rw [hq, ← hWD]; exact drew_drewN w q⟩
    clear cH hq
    refine hK.out _ _ ?_ (fun hHeld => ?_)
    · exact k7
    clear hK K
    refine wpAnyH_take (i := 8) (v := ?_) rfl (by kernel_rfl) (by kernel_rfl) (by kernel_rfl) (fun _ _ _ h => h) (Or.inl ⟨by rfl, ?_⟩) (by first | assumption | trivial) ?_
    rotate_left
    · intro w hSw; go_simp; (try with_reducible rfl)
    change wpAnyH _ _ _ _ _ _ _ (Act.put _ (some 15) _) _; simp only [Act.put, List.setIfInBounds_toArray, List.set_cons_zero, List.set_cons_succ]
    refine wpAnyH_take (i := 9) (v := ?_) rfl (by kernel_rfl) (by kernel_rfl) (by kernel_rfl) (fun _ _ _ h => h) (Or.inl ⟨by rfl, ?_⟩) (by first | assumption | trivial) ?_
    rotate_left
    · intro w hSw; go_simp; (try with_reducible rfl)
    change wpAnyH _ _ _ _ _ _ _ (Act.put _ (some 16) _) _; simp only [Act.put, List.setIfInBounds_toArray, List.set_cons_zero, List.set_cons_succ]
    refine wpAnyH_take (i := 10) (v := ?_) rfl (by kernel_rfl) (by kernel_rfl) (by kernel_rfl) (fun _ _ _ h => h) (Or.inl ⟨by rfl, ?_⟩) (by first | assumption | trivial) ?_
    rotate_left
    · intro w hSw; go_simp; (try with_reducible rfl)
    refine wpAnyH_done (by kernel_rfl) ?_ _
    clear hHeld k7
    go_wp2_with fail
    go_ret
    exact ⟨by rw [HA.out]; rfl, HQ.out⟩
  · have HA : Hid (hangB ns x = false) := by
      unfold Hid hangB
      rw [decide_eq_false hi, Bool.false_and]
    obtain ⟨I, hI⟩ : ∃ i, Lib.lastIndexByte x 47 = i := ⟨_, rfl⟩
    rw [hI] at cL hi
    have d1 : decide ((0 : Int) ≤ I) = false := decide_eq_false hi
    clear hspec hI h hSD hs c1 c1D
    go_enter Tryz.func105, Tryz.ntmps105
    go_wp2_with fail
    refine cL.mono ?_
    rintro e w1 ⟨rfl, hw⟩
    obtain rfl : w = w1 := hw.symm
    clear hw cL
    go_upto_region 2 with fail
    refine wp_region_held_drew (S := fun W => W.cell? ⟨FB, 0, none⟩ = some (.func (.func 104) #[] #[.pointer (some ⟨LB, 0, none⟩)])) (by kernel_rfl) ?_ (fun hHeld => ?_)
    · simpa using c0
    rw [hWD] at hHeld ⊢
    refine wpAnyH_take (i := 0) (v := ?_) rfl (by kernel_rfl) (by kernel_rfl) (by kernel_rfl) (fun _ _ _ h => h) (Or.inl ⟨by rfl, ?_⟩) (by first | assumption | trivial) ?_
    rotate_left
    · intro w hSw; go_simp; (try with_reducible rfl)
    change wpAnyH _ _ _ _ _ _ _ (Act.put _ (some 7) _) _; simp only [Act.put, List.setIfInBounds_toArray, List.set_cons_zero, List.set_cons_succ]
    refine wpAnyH_take (i := 1) (v := ?_) rfl (by kernel_rfl) (by kernel_rfl) (by kernel_rfl) (fun _ _ _ h => h) (Or.inl ⟨by rfl, ?_⟩) (by first | assumption | trivial) ?_
    rotate_left
    · intro w hSw; go_simp; (try with_reducible rfl)
    change wpAnyH _ _ _ _ _ _ _ (Act.put _ (some 8) _) _; simp only [Act.put, List.setIfInBounds_toArray, List.set_cons_zero, List.set_cons_succ]
    refine wpAnyH_take (i := 2) (v := ?_) rfl (by kernel_rfl) (by kernel_rfl) (by kernel_rfl) (fun _ _ _ h => h) (Or.inl ⟨by rfl, ?_⟩) (by first | assumption | trivial) ?_
    rotate_left
    · intro w hSw; go_simp; (try with_reducible rfl)
    change wpAnyH _ _ _ _ _ _ _ (Act.put _ (some 9) _) _; simp only [Act.put, List.setIfInBounds_toArray, List.set_cons_zero, List.set_cons_succ]
    refine wpAnyH_take (i := 3) (v := undef) rfl (by kernel_rfl) (by kernel_rfl) (by kernel_rfl) (fun _ _ _ h => h) (Or.inr ⟨by rfl, rfl⟩) (by first | assumption | trivial) ?_
    change wpAnyH _ _ _ _ _ _ _ (Act.put _ (some 10) _) _; simp only [Act.put, List.setIfInBounds_toArray, List.set_cons_zero, List.set_cons_succ]
    refine wpAnyH_take (i := 4) (v := undef) rfl (by kernel_rfl) (by kernel_rfl) (by kernel_rfl) (fun _ _ _ h => h) (Or.inr ⟨by rfl, rfl⟩) (by first | assumption | trivial) ?_
    change wpAnyH _ _ _ _ _ _ _ (Act.put _ (some 11) _) _; simp only [Act.put, List.setIfInBounds_toArray, List.set_cons_zero, List.set_cons_succ]
    refine wpAnyH_take (i := 5) (v := undef) rfl (by kernel_rfl) (by kernel_rfl) (by kernel_rfl) (fun _ _ _ h => h) (Or.inr ⟨by rfl, rfl⟩) (by first | assumption | trivial) ?_
    change wpAnyH _ _ _ _ _ _ _ (Act.put _ (some 12) _) _; simp only [Act.put, List.setIfInBounds_toArray, List.set_cons_zero, List.set_cons_succ]
    refine wpAnyH_take (i := 6) (v := undef) rfl (by kernel_rfl) (by kernel_rfl) (by kernel_rfl) (fun _ _ _ h => h) (Or.inr ⟨by rfl, rfl⟩) (by first | assumption | trivial) ?_
    change wpAnyH _ _ _ _ _ _ _ (Act.put _ (some 13) _) _; simp only [Act.put, List.setIfInBounds_toArray, List.set_cons_zero, List.set_cons_succ]
    refine wpAnyH_take (i := 7) (v := undef) rfl (by kernel_rfl) (by kernel_rfl) (by kernel_rfl) (fun _ _ _ h => h) (Or.inr ⟨by rfl, rfl⟩) (by first | assumption | trivial) ?_
    change wpAnyH _ _ _ _ _ _ _ (Act.put _ (some 14) _) _; simp only [Act.put, List.setIfInBounds_toArray, List.set_cons_zero, List.set_cons_succ]
    refine wpAnyH_take (i := 8) (v := undef) rfl (by kernel_rfl) (by kernel_rfl) (by kernel_rfl) (fun _ _ _ h => h) (Or.inr ⟨by rfl, rfl⟩) (by first | assumption | trivial) ?_
    change wpAnyH _ _ _ _ _ _ _ (Act.put _ (some 15) _) _; simp only [Act.put, List.setIfInBounds_toArray, List.set_cons_zero, List.set_cons_succ]
    refine wpAnyH_take (i := 9) (v := ?_) rfl (by kernel_rfl) (by kernel_rfl) (by kernel_rfl) (fun _ _ _ h => h) (Or.inl ⟨by rfl, ?_⟩) (by first | assumption | trivial) ?_
    rotate_left
    · intro w hSw; go_simp; (try with_reducible rfl)
    change wpAnyH _ _ _ _ _ _ _ (Act.put _ (some 16) _) _; simp only [Act.put, List.setIfInBounds_toArray, List.set_cons_zero, List.set_cons_succ]
    refine wpAnyH_take (i := 10) (v := ?_) rfl (by kernel_rfl) (by kernel_rfl) (by kernel_rfl) (fun _ _ _ h => h) (Or.inl ⟨by rfl, ?_⟩) (by first | assumption | trivial) ?_
    rotate_left
    · intro w hSw; go_simp; (try with_reducible rfl)
    refine wpAnyH_done (by kernel_rfl) ?_ _
    clear hHeld
    go_wp2_with fail
    go_ret
    exact ⟨by rw [HA.out]; rfl, 1, hWD.symm⟩
end Go.Proofs.YtfdlopimncodcaaGreatDoor
