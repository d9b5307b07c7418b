/-
  The library's contracts at this program's numbers: bits_Len, laysNm216, and more.
-/
import Derived.Test.YtdmplfflmdanlaaGreatDoorBpHsWithin
import Derived.Laws.MathBits
import Derived.Shelf.Lays2
import Derived.Shelf.Slices.Clone
import Derived.Shelf.Slices.CompactS
import Derived.Shelf.Slices.Delete
import Derived.Shelf.Small.Bits
namespace Go.Proofs
open Go.Shelf
def Tryz.lays125_ren : Go.Shelf.Ren := ⟨fun | 125 => 174 | 128 => 218 | 129 => 219 | n => n, fun | 46 => 193 | 3 => 3 | 51 => 220 | 53 => 243 | 4 => 4 | 5 => 5 | 9 => 9 | n => n, fun | n => n⟩
theorem Tryz.lays125 : Go.Proofs.Lays.n125 Tryz.prog Tryz.lays125_ren := {
  mixed := by kernel_rfl
  f125 := Tryz.func174.trans (congrArg some (by kernel_rfl))
  f128 := Tryz.func218.trans (congrArg some (by kernel_rfl))
  f129 := Tryz.func219.trans (congrArg some (by kernel_rfl))
  t3 := Tryz.underlying3
  a3 := Tryz.isAgg3
  z3 := Tryz.sizeOf3
  v3 := Tryz.zeroValue3
  t4 := Tryz.underlying4
  a4 := Tryz.isAgg4
  z4 := Tryz.sizeOf4
  v4 := Tryz.zeroValue4
  t5 := Tryz.underlying5
  a5 := Tryz.isAgg5
  z5 := Tryz.sizeOf5
  v5 := Tryz.zeroValue5
  t9 := Tryz.underlying9
  a9 := Tryz.isAgg9
  z9 := Tryz.sizeOf9
  v9 := Tryz.zeroValue9
  t46 := Tryz.underlying193
  a46 := Tryz.isAgg193
  z46 := Tryz.sizeOf193
  v46 := Tryz.zeroValue193
  t51 := Tryz.underlying220
  a51 := Tryz.isAgg220
  z51 := Tryz.sizeOf220
  v51 := Tryz.zeroValue220
  t53 := Tryz.underlying243
  a53 := Tryz.isAgg243
  z53 := Tryz.sizeOf243
  v53 := Tryz.zeroValue243 }
theorem Tryz.bits_Len (x : Int) (w : World) (h0 : 0 ≤ x) (h1 : x ≤ 18446744073709551615) :
    Calls Tryz.prog 174 #[.int .u64 x] w fun e w' => e = .returned (.int .i64 (Lib.bitLen x.toNat)) ∧ w' = w := Any.bits_Len Tryz.lays125 x w h0 h1
def Tryz.laysNm216_ren : Go.Shelf.Ren := ⟨fun | 16 => 71 | n => n, fun | 24 => 22 | 9 => 9 | 4 => 4 | n => n, fun | n => n⟩
theorem Tryz.laysNm216 : Go.Proofs.Lays2.n16 Tryz.prog Tryz.laysNm216_ren := {
  mixed := by kernel_rfl
  f16 := Tryz.func71.trans (congrArg some (by kernel_rfl))
  t4 := Tryz.underlying4
  a4 := Tryz.isAgg4
  z4 := Tryz.sizeOf4
  v4 := Tryz.zeroValue4
  t9 := Tryz.underlying9
  a9 := Tryz.isAgg9
  z9 := Tryz.sizeOf9
  v9 := Tryz.zeroValue9
  t24 := Tryz.underlying22
  a24 := Tryz.isAgg22
  z24 := Tryz.sizeOf22
  v24 := Tryz.zeroValue22
  i9 := by kernel_rfl }
open Go.RowKit Go.Lib in
theorem Tryz.slices_Clone_string (b off n c : Nat) (zs : List ByteArray) (w : World) (hz : n ≤ zs.length) (hbig : n * 16 ≤ 140737488355328) (hc : ∀ j, j < zs.length → w.cell? ⟨b, off + j, none⟩ = some (.string (zs.getD j ByteArray.empty))) :
    Calls Tryz.prog 71 #[.slice (some ⟨b, off, none⟩) n c] w fun e w' => ∃ v', e = .returned v' ∧ w'.ownsRow w.heap.size 9 1 v' n ((zs.take n).map (Value.string)) ∧ v' ≠ .slice none 0 0 ∧ Below w.heap.size w w' := Any.slices_Clone_string Tryz.laysNm216 b off n c zs w hz hbig hc
open Go.RowKit Go.Lib in
theorem Tryz.slices_Clone_string_nil (n c : Nat) (w : World) :
    Calls Tryz.prog 71 #[.slice none n c] w fun e w' => e = .returned (.slice none 0 0) ∧ w' = w := Any.slices_Clone_string_nil Tryz.laysNm216 n c w
open Go.RowKit Go.Lib in
theorem Tryz.slices_Clone_string_zero (a : Addr) (c : Nat) (w : World) :
    Calls Tryz.prog 71 #[.slice (some a) 0 c] w fun e w' => ∃ v', e = .returned v' ∧ w'.ownsRow w.heap.size 9 1 v' 0 [] ∧ v' ≠ .slice none 0 0 ∧ Below w.heap.size w w' := Any.slices_Clone_string_zero Tryz.laysNm216 a c w
def Tryz.lays194_ren : Go.Shelf.Ren := ⟨fun | 194 => 228 | n => n, fun | 31 => 22 | 9 => 9 | 3 => 3 | 4 => 4 | 0 => 0 | n => n, fun | n => n⟩
theorem Tryz.lays194 : Go.Proofs.Lays.n194 Tryz.prog Tryz.lays194_ren := {
  mixed := by kernel_rfl
  f194 := Tryz.func228.trans (congrArg some (by kernel_rfl))
  t0 := Tryz.underlying0
  a0 := Tryz.isAgg0
  z0 := Tryz.sizeOf0
  v0 := Tryz.zeroValue0
  t3 := Tryz.underlying3
  a3 := Tryz.isAgg3
  z3 := Tryz.sizeOf3
  v3 := Tryz.zeroValue3
  t4 := Tryz.underlying4
  a4 := Tryz.isAgg4
  z4 := Tryz.sizeOf4
  v4 := Tryz.zeroValue4
  t9 := Tryz.underlying9
  a9 := Tryz.isAgg9
  z9 := Tryz.sizeOf9
  v9 := Tryz.zeroValue9
  t31 := Tryz.underlying22
  a31 := Tryz.isAgg22
  z31 := Tryz.sizeOf22
  v31 := Tryz.zeroValue22 }
open Go.RowKit Go.Lib Go.Sort in
theorem Tryz.slices_Compact_string_empty (a : Option Addr) (cap : Nat) (w : World) :
    Calls Tryz.prog 228 #[.slice a 0 cap] w fun e w' => e = .returned (.slice a 0 cap) ∧ w' = w := Any.slices_Compact_string_empty Tryz.lays194 a cap w
def Tryz.laysNm224_ren : Go.Shelf.Ren := ⟨fun | 24 => 131 | n => n, fun | 24 => 22 | 9 => 9 | 3 => 3 | 4 => 4 | 0 => 0 | n => n, fun | n => n⟩
theorem Tryz.laysNm224 : Go.Proofs.Lays2.n24 Tryz.prog Tryz.laysNm224_ren := {
  mixed := by kernel_rfl
  f24 := Tryz.func131.trans (congrArg some (by kernel_rfl))
  t0 := Tryz.underlying0
  a0 := Tryz.isAgg0
  z0 := Tryz.sizeOf0
  v0 := Tryz.zeroValue0
  t3 := Tryz.underlying3
  a3 := Tryz.isAgg3
  z3 := Tryz.sizeOf3
  v3 := Tryz.zeroValue3
  t4 := Tryz.underlying4
  a4 := Tryz.isAgg4
  z4 := Tryz.sizeOf4
  v4 := Tryz.zeroValue4
  t9 := Tryz.underlying9
  a9 := Tryz.isAgg9
  z9 := Tryz.sizeOf9
  v9 := Tryz.zeroValue9
  t24 := Tryz.underlying22
  a24 := Tryz.isAgg22
  z24 := Tryz.sizeOf22
  v24 := Tryz.zeroValue22
  i9 := by kernel_rfl }
open Go.RowKit Go.Lib Go.Sort in
theorem Tryz.slices_Delete_string (blk off cap i j : Nat) (zs : List (List UInt8)) (w : World) (hH : Holds encStr w blk off zs.toArray) (hcap : zs.length ≤ cap) (hm : cap ≤ 9223372036854775807) (hij : i ≤ j) (hj : j ≤ zs.length) :
    Calls Tryz.prog 131 #[.slice (some ⟨blk, off, none⟩) zs.length cap, .int .i64 i, .int .i64 j] w fun e w' => e = .returned (.slice (some ⟨blk, off, none⟩) (zs.length - (j - i)) cap) ∧ ∃ q, w' = putRow encStr (Sort.ahead w q) blk off (zs.take i ++ zs.drop j ++ List.replicate (j - i) []).toArray := Any.slices_Delete_string Tryz.laysNm224 blk off cap i j zs w hH hcap hm hij hj
end Go.Proofs
namespace Go.Proofs.YtdmplfflmdanlaaGreatDoor
open Go.RowKit Go.Proofs.Aid

set_option maxHeartbeats 4000000 in
set_option maxRecDepth 100000 in
theorem delete_is (nB : Nm → Option Nm) (hb mb : Nat) (l : Bxs) (nx : Int) (wv : Value) (s : ByteArray) (w : World) (hN : NameC nB w) (h : HsAt w hb mb l nx wv) (hs : s.size ≤ 1000) (hl : l.length ≤ 1000) :
    Calls Tryz.prog 74 #[.pointer (some ⟨hb, 0, none⟩), .string s] w fun e w' =>
      (nB s.data.toList = none ∧ e = .returned (errN 1) ∧ Below w.heap.size w w') ∨
      (∃ r, nB s.data.toList = some r ∧ hasB l r = false ∧ e = .returned (errN 7) ∧ Below w.heap.size w w') ∨
      (∃ r, nB s.data.toList = some r ∧ hasB l r = true ∧ (r = inboxN ∨ withinB l r ≠ []) ∧ e = .returned (errN 6) ∧ Below w.heap.size w w') ∨
      (∃ r, nB s.data.toList = some r ∧ hasB l r = true ∧ r ≠ inboxN ∧ withinB l r = [] ∧ e = .returned .nilIface ∧ HK hb mb w w' ∧ HsAt w' hb mb (delB l r) nx wv) := by
  have cT := there_is nB hb mb l nx wv s w hN h hs
  have HH : Hid (HsAt w hb mb l nx wv) := h
  clear hN h
  go_enter Tryz.func74, Tryz.ntmps74
  go_wp2_with fail
  refine cT.mono ?_
  rintro e w1 ⟨hb1, ⟨r, hr, hr2, hr3, rfl⟩ | ⟨r, hr, hr3, rfl⟩ | ⟨hr, rfl⟩⟩
  · have h1 := HH.out.below hb1 (Nat.le_refl _)
    have cW := within_is hb mb l nx wv r w1 h1 hl (by omega)
    by_cases hin : r.data.toList = inboxN
    · have hE : r.toList = [73, 78, 66, 79, 88] := by rw [Lib.toList_data]; exact hin
      have HR : Hid (nB s.data.toList = some r.data.toList ∧ hasB l r.data.toList = true ∧ r.data.toList = inboxN ∧ Below w.heap.size w w1) := ⟨hr, hr3, hin, hb1⟩
      clear cT cW hr hr3 hb1 h1 hin
      go_wp2_with fail
      go_ret
      exact Or.inr (Or.inr (Or.inl ⟨_, HR.out.1, HR.out.2.1, Or.inl HR.out.2.2.1, rfl, HR.out.2.2.2⟩))
    · have hE : ¬ r.toList = [73, 78, 66, 79, 88] := by rw [Lib.toList_data]; exact hin
      have hE2 : (r.toList == [73, 78, 66, 79, 88]) = false := beq_eq_false_iff_ne.2 hE
      have HR : Hid (nB s.data.toList = some r.data.toList ∧ hasB l r.data.toList = true ∧ r.data.toList ≠ inboxN ∧ Below w.heap.size w w1 ∧ HsAt w1 hb mb l nx wv) := ⟨hr, hr3, hin, hb1, h1⟩
      clear cT hr hr3 hb1 h1 hin
      go_wp2_with fail
      refine cW.mono ?_
      rintro e w2 ⟨⟨v, rfl, hrow⟩, hb2⟩
      obtain ⟨LL, hLL⟩ : ∃ n, (withinB l r.data.toList).length = n := ⟨_, rfl⟩
      unfold NRow at hrow
      rw [hLL] at hrow
      obtain ⟨oa, oc, rfl⟩ := row_form hrow
      have hB2 : Below w.heap.size w w2 := HR.out.2.2.2.1.trans (hb2.mono HR.out.2.2.2.1.size)
      have h2 := HR.out.2.2.2.2.below hb2 (Nat.le_refl _)
      by_cases h0 : LL = 0
      · have d0 : decide ((0 : Int) < (LL : Int)) = false := decide_eq_false (by omega)
        obtain ⟨W3, hp, hm3, ht⟩ := mp_del h2.2 r (by omega) 0
        have c0 := h2.cell.1
        have HQ : Hid (withinB l r.data.toList = [] ∧ HK hb mb w W3 ∧ HsAt W3 hb mb (delB l r.data.toList) nx wv) := ⟨List.eq_nil_of_length_eq_zero (by omega), (HK.of hB2).trans (HK.turned ht), ((turned_but ht).block hb h2.lt h2.ne).trans h2.1, hm3⟩
        clear hrow hb2 hB2 h2 hm3 ht hLL cW
        go_wp2_with fail
        go_ret
        exact Or.inr (Or.inr (Or.inr ⟨_, HR.out.1, HR.out.2.1, HR.out.2.2.1, HQ.out.1, rfl, HQ.out.2.1, HQ.out.2.2⟩))
      · have d0 : decide ((0 : Int) < (LL : Int)) = true := decide_eq_true (by omega)
        have HQ : Hid (withinB l r.data.toList ≠ [] ∧ Below w.heap.size w w2) := ⟨fun e => by rw [e] at hLL; exact h0 hLL.symm, hB2⟩
        clear hrow hb2 hB2 h2 hLL cW
        go_wp2_with fail
        go_ret
        exact Or.inr (Or.inr (Or.inl ⟨_, HR.out.1, HR.out.2.1, Or.inr HQ.out.1, rfl, HQ.out.2⟩))
  · have HR : Hid (nB s.data.toList = some r.data.toList ∧ hasB l r.data.toList = false ∧ Below w.heap.size w w1) := ⟨hr, hr3, hb1⟩
    clear cT hr hr3 hb1
    go_wp2_with fail
    go_ret
    exact Or.inr (Or.inl ⟨_, HR.out.1, HR.out.2.1, rfl, HR.out.2.2⟩)
  · have HR : Hid (nB s.data.toList = none ∧ Below w.heap.size w w1) := ⟨hr, hb1⟩
    clear cT hr hb1
    go_wp2_with fail
    go_ret
    exact Or.inl ⟨HR.out.1, rfl, HR.out.2⟩
end Go.Proofs.YtdmplfflmdanlaaGreatDoor
namespace Go.Proofs.YtdmplfflmdanlaaGreatDoor
open Go.RowKit Go.Proofs.Aid

theorem run_store_func (P : Program) (w : World) (a : Addr) (f : Nat) (bs : Array Value) (old : Value) (h : w.cell? a = some old) (hf : w.frozen? a = false) : (store a (.func (.func f) #[] bs)).run P w = .ok () (w.setCell a (.func (.func f) #[] bs)) := by
  rw [run_store P w a _ _ rfl, h, hf]
  rfl
end Go.Proofs.YtdmplfflmdanlaaGreatDoor
namespace Go.Proofs.YtdmplfflmdanlaaGreatDoor
open Go.RowKit Go.Proofs.Aid

/-- How a box is called when name n is called t. -/
def calledB (t n x : Nm) : Nm := t ++ Lib.trimPrefix x n
theorem trim_len (x n : Nm) : (Lib.trimPrefix x n).length ≤ x.length := by
  unfold Lib.trimPrefix
  split
  · rw [List.length_drop]; omega
  · exact Nat.le_refl _
theorem ba_list {a : ByteArray} {l : Nm} (h : a.data.toList = l) : a = ⟨l.toArray⟩ := by
  rw [← h]
set_option maxHeartbeats 2000000 in
set_option maxRecDepth 100000 in
theorem move1_is (x t n : ByteArray) (TB NB : Nat) (w : World) (c1 : w.cell? ⟨TB, 0, none⟩ = some (.string t)) (c2 : w.cell? ⟨NB, 0, none⟩ = some (.string n)) (hx : x.size ≤ 1000000) (ht : t.size ≤ 1000000) :
    Calls Tryz.prog 183 #[.string x, .pointer (some ⟨TB, 0, none⟩), .pointer (some ⟨NB, 0, none⟩)] w fun e w' => e = .returned (.string ⟨(calledB t.data.toList n.data.toList x.data.toList).toArray⟩) ∧ w' = w.drew := by
  obtain ⟨WD, hWD⟩ : ∃ W, w.drew = W := ⟨_, rfl⟩
  have cT := Tryz.strings_TrimPrefix x n WD
  obtain ⟨y, hy⟩ : ∃ y : ByteArray, ⟨(Lib.trimPrefix x.data.toList n.data.toList).toArray⟩ = y := ⟨_, rfl⟩
  have hyl : y.size ≤ 1000000 := by
    rw [← hy]
    have := trim_len x.data.toList n.data.toList
    have hxl : x.data.toList.length = x.size := by rw [Array.length_toList]; rfl
    show (Lib.trimPrefix x.data.toList n.data.toList).toArray.size ≤ _
    rw [List.size_toArray]
    omega
  have HD : Hid ((⟨(calledB t.data.toList n.data.toList x.data.toList).toArray⟩ : ByteArray) = t ++ y) := by
    refine (ba_list ?_).symm
    rw [← hy]
    simp [calledB]
  rw [hy] at cT
  have hlim : (9223372036854775807 < t.size + y.size) = False := eq_false (by omega)
  clear hy
  rw [hWD]
  go_enter Tryz.func183, Tryz.ntmps183
  go_upto_region 1 with fail
  refine wp_region_held_drew (S := fun W => W.cell? ⟨TB, 0, none⟩ = some (.string t) ∧ W.cell? ⟨NB, 0, none⟩ = some (.string n)) (by kernel_rfl) ?_ (fun hHeld => ?_)
  · exact ⟨by simpa using c1, by simpa using c2⟩
  rw [hWD] at hHeld ⊢
  refine wpAnyH_take (i := 0) (v := ?_) rfl (by kernel_rfl) (by kernel_rfl) (by kernel_rfl) (fun _ _ _ h => h) (Or.inl ⟨by rfl, ?_⟩) (by first | assumption | trivial) ?_
  rotate_left
  · intro w hSw; go_simp; (try with_reducible rfl)
  change wpAnyH _ _ _ _ _ _ _ (Act.put _ (some 5) _) _; simp only [Act.put, List.setIfInBounds_toArray, List.set_cons_zero, List.set_cons_succ]
  refine wpAnyH_take (i := 1) (v := ?_) rfl (by kernel_rfl) (by kernel_rfl) (by kernel_rfl) (fun _ _ _ h => h) (Or.inl ⟨by rfl, ?_⟩) (by first | assumption | trivial) ?_
  rotate_left
  · intro w hSw; go_simp; (try with_reducible rfl)
  change wpAnyH _ _ _ _ _ _ _ (Act.put _ (some 6) _) _; simp only [Act.put, List.setIfInBounds_toArray, List.set_cons_zero, List.set_cons_succ]
  refine wpAnyH_take (i := 2) (v := ?_) rfl (by kernel_rfl) (by kernel_rfl) (by kernel_rfl) (fun _ _ _ h => h) (Or.inl ⟨by rfl, ?_⟩) (by first | assumption | trivial) ?_
  rotate_left
  · intro w hSw; go_simp; (try with_reducible rfl)
  change wpAnyH _ _ _ _ _ _ _ (Act.put _ (some 7) _) _; simp only [Act.put, List.setIfInBounds_toArray, List.set_cons_zero, List.set_cons_succ]
  refine wpAnyH_ready (rs := [3]) (by kernel_rfl) (by simp) ?_
  refine AllReadyH.cons rfl (fun K hK => ?_) AllReadyH.nil
  go_simp
  refine cT.mono ?_
  rintro e w7 ⟨rfl, hw⟩
  obtain rfl : WD = w7 := hw.symm
  clear hw cT
  refine hK.out _ _ ?_ (fun hHeld => ?_)
  · exact hHeld
  clear hK K
  refine wpAnyH_take (i := 4) (v := ?_) rfl (by kernel_rfl) (by kernel_rfl) (by kernel_rfl) (fun _ _ _ h => h) (Or.inl ⟨by rfl, ?_⟩) (by first | assumption | trivial) ?_
  rotate_left
  · intro w hSw; go_simp; (try with_reducible rfl)
  change wpAnyH _ _ _ _ _ _ _ (Act.put _ (some 9) _) _; simp only [Act.put, List.setIfInBounds_toArray, List.set_cons_zero, List.set_cons_succ]
  refine wpAnyH_take (i := 5) (v := ?_) rfl (by kernel_rfl) (by kernel_rfl) (by kernel_rfl) (fun _ _ _ h => h) (Or.inl ⟨by rfl, ?_⟩) (by first | assumption | trivial) ?_
  rotate_left
  · intro w hSw; go_simp; (try with_reducible rfl)
  refine wpAnyH_done (by kernel_rfl) ?_ _
  clear hHeld
  go_wp2_with fail
  go_ret
  exact ⟨by rw [HD.out]; rfl, rfl⟩
set_option maxHeartbeats 2000000 in
set_option maxRecDepth 100000 in
theorem move2_is (x t n : ByteArray) (TB NB FB : Nat) (w : World) (c0 : w.cell? ⟨FB, 0, none⟩ = some (.func (.func 183) #[] #[.pointer (some ⟨TB, 0, none⟩), .pointer (some ⟨NB, 0, none⟩)])) (c1 : w.cell? ⟨TB, 0, none⟩ = some (.string t)) (c2 : w.cell? ⟨NB, 0, none⟩ = some (.string n)) (hx : x.size ≤ 1000000) (ht : t.size ≤ 1000000) :
    Calls Tryz.prog 184 #[.string x, .pointer (some ⟨FB, 0, none⟩)] w fun e w' => e = .returned (.bool (decide (60 < (calledB t.data.toList n.data.toList x.data.toList).length))) ∧ w' = w.drew := by
  have cM := move1_is x t n TB NB w c1 c2 hx ht
  obtain ⟨y, hy⟩ : ∃ y : ByteArray, ⟨(calledB t.data.toList n.data.toList x.data.toList).toArray⟩ = y := ⟨_, rfl⟩
  have hyl : (calledB t.data.toList n.data.toList x.data.toList).length = y.size := by
    rw [← hy]
    show _ = (calledB t.data.toList n.data.toList x.data.toList).toArray.size
    rw [List.size_toArray]
  rw [hy] at cM
  rw [hyl]
  have HA : Hid (decide (60 < y.size) = decide ((60 : Int) < (y.size : Int))) := by
    unfold Hid
    exact decide_eq_decide.2 ⟨fun h => by omega, fun h => by omega⟩
  rw [HA.out]
  clear hy hyl c1 c2 HA
  go_enter Tryz.func184, Tryz.ntmps184
  go_wp2_with fail
  refine cM.mono ?_
  rintro e w7 ⟨rfl, rfl⟩
  go_wp2_with fail
  go_ret
  exact ⟨rfl, rfl⟩
end Go.Proofs.YtdmplfflmdanlaaGreatDoor
