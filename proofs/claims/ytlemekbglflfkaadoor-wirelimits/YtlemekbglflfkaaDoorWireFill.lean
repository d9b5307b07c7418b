/-
  What letterboxlaw.fill and letterboxlaw.digits do: texts of so many bytes.
-/
import Derived.Test.YtlemekbglflfkaaDoorSeqBase
import Derived.Lib.ConvBytes
import Derived.WalkKit
import Derived.OwnWalk
import Derived.Laws.MakeOwn
namespace Go.Proofs
theorem Tryd.infoByteW : (Tryd.prog.info? 5).map (fun i => (i.zero, i.size, i.bytes)) = some (some (.int .u8 0), 1, 1) := by kernel_rfl
end Go.Proofs
namespace Go.Proofs.YtlemekbglflfkaaDoor
open Go.RowKit Go.Proofs.Aid

set_option maxHeartbeats 1000000 in
set_option maxRecDepth 100000 in
theorem fill_is (N : Nat) (w : World) (hN : N ≤ 100000) :
    Calls Tryd.prog 7 #[.int .i64 (N : Int)] w fun e w' => (∃ t : ByteArray, e = .returned (.string t) ∧ t.size = N) ∧ Below w.heap.size w w' := by
  have hmk : (Instr.makeSlice 48 (.int .i64 (N : Int)) (.int .i64 (N : Int))).run Tryd.prog w = .ok (.slice (some ⟨w.heap.size, 0, none⟩) N N) (w.alloc (.cells (madeCells #[.int .u8 0] N) 5)) := by
    obtain ⟨i0, hi, hz⟩ := Option.map_eq_some_iff.1 Tryd.infoByteW
    simp only [Prod.mk.injEq] at hz
    obtain ⟨z0, z1, z2⟩ := hz
    have := run_make (P := Tryd.prog) w 48 5 i0 (.int .u8 0) Tryd.underlying48 hi z0 .i64 .i64 N N (by omega) (by omega) (by rw [z2]; omega) (by omega)
    rw [z1, Nat.mul_one, Int.toNat_natCast] at this
    exact this
  obtain ⟨B, hB⟩ : ∃ B, w.heap.size = B := ⟨_, rfl⟩
  have hBw : w.heap.size ≤ B := by omega
  have hb1 : Below w.heap.size w (w.alloc (.cells (madeCells #[.int .u8 0] N) 5)) := (Below.refl _ _).alloc (Nat.le_refl _) _
  have hall : ∀ j, j < N → (∃ u, (w.alloc (.cells (madeCells #[.int .u8 0] N) 5)).cell? ⟨B, j, none⟩ = some u) ∧ (w.alloc (.cells (madeCells #[.int .u8 0] N) 5)).frozen? ⟨B, j, none⟩ = false := fun j hj => by
    have hh := heap_alloc_new w (.cells (madeCells #[.int .u8 0] N) 5)
    rw [hB] at hh
    generalize w.alloc (.cells (madeCells #[.int .u8 0] N) 5) = W1 at hh
    have hsz := size_madeCells #[.int .u8 0] N
    generalize madeCells #[.int .u8 0] N = arr at hh hsz
    constructor
    · exact ⟨arr[j]'(by omega), by simp [World.cell?, hh, hsz, hj]⟩
    · simp [World.frozen?, hh]
  rw [hB] at hmk
  go_enter Tryd.func7, Tryd.ntmps7
  go_wp2_with fail
  go_loopw [4] (fun i wr => ∃ k : Nat, i = .int .i64 (k : Int) ∧ k ≤ N ∧ Hid (∀ j, j < N → (∃ u, wr.cell? ⟨B, j, none⟩ = some u) ∧ wr.frozen? ⟨B, j, none⟩ = false) ∧ Hid (∀ j, j < k → wr.cell? ⟨B, j, none⟩ = some (.int .u8 120)) ∧ Below w.heap.size w wr) (fun i _ => N - (intOf i).toNat)
  case atStart => exact ⟨0, rfl, by omega, hall, fun j hj => absurd hj (by omega), hb1⟩
  case round =>
    obtain ⟨k, rfl, hk, HC, HX, hbW⟩ := hrel
    by_cases hlt : k < N
    · obtain ⟨⟨u, c1⟩, f1⟩ := HC.out k hlt
      clear hall hmk
      go_wp2_with fail
      go_roundw
      case rel =>
        refine ⟨k + 1, by go_num, by omega, ?_, ?_, hbW.setCell hBw _⟩
        · intro j hj
          obtain ⟨⟨v, x1⟩, x2⟩ := HC.out j hj
          refine ⟨?_, by simpa using x2⟩
          by_cases hjk : j = k
          · subst hjk
            exact ⟨_, World.cell?_setCell_same _ _ _ c1⟩
          · exact ⟨v, by rw [World.cell?_setCell_other _ _ _ _ (fun e => hjk (by have := congrArg Addr.off e; simpa using this.symm)), x1]⟩
        · intro j hj
          by_cases hjk : j = k
          · subst hjk
            exact World.cell?_setCell_same _ _ _ c1
          · rw [World.cell?_setCell_other _ _ _ _ (fun e => hjk (by have := congrArg Addr.off e; simpa using this.symm))]
            exact HX.out j (by omega)
      case measure => simp [intOf]; omega
    · obtain rfl : k = N := by omega
      have hcv := run_convert_bytes_back wr 48 9 5 ⟨B, 0, none⟩ k (List.replicate k 120) Tryd.underlying48 Tryd.underlying5 Tryd.underlying9 (fun j hj => by
        rw [List.length_replicate] at hj
        rw [Addr.add_lit, Nat.zero_add, HX.out j hj, List.getElem_replicate]
        rfl)
      rw [List.length_replicate] at hcv
      obtain ⟨tt, htt⟩ : ∃ t : ByteArray, ⟨(List.replicate k (120 : UInt8)).toArray⟩ = t := ⟨_, rfl⟩
      have hsz : tt.size = k := by rw [← htt]; simp [ByteArray.size]
      rw [htt] at hcv
      clear hall hmk htt
      go_wp2_with fail
      go_ret
      exact ⟨⟨tt, rfl, hsz⟩, hbW⟩
theorem conv_one (c : UInt8) (z : Int) (h : (c.toNat : Int) = z) (w : World) : (convert 48 9 (.slice (some ⟨w.heap.size, 0, none⟩) 1 1)).run Tryd.prog (w.alloc (.cells #[.int .u8 z] 5)) = .ok (.string ⟨#[c]⟩) (w.alloc (.cells #[.int .u8 z] 5)) := by
  subst h
  exact run_convert_bytes_back _ 48 9 5 ⟨w.heap.size, 0, none⟩ 1 [c] Tryd.underlying48 Tryd.underlying5 Tryd.underlying9 (fun j hj => by
    obtain rfl : j = 0 := by simpa using hj
    simp [Addr.add])
theorem size_sum (a b : ByteArray) : (a ++ b).size = a.size + b.size := by simp
set_option maxHeartbeats 1000000 in
set_option maxRecDepth 100000 in
theorem digits_is : ∀ (f N : Nat) (w : World), N ≤ f → N ≤ 100000 →
    Calls Tryd.prog 8 #[.int .i64 (N : Int)] w fun e w' => (∃ t : ByteArray, e = .returned (.string t) ∧ t.size ≤ N + 1) ∧ Below w.heap.size w w'
  | f, N, w, hf, hN => by
    by_cases h : N < 10
    · have hc := conv_one (UInt8.ofNat (48 + N)) (48 + (N : Int)) (by rw [UInt8.toNat_ofNat']; omega) w
      have hb : Below w.heap.size w (w.alloc (.cells #[.int .u8 (48 + (N : Int))] 5)) := (Below.refl _ _).alloc (Nat.le_refl _) _
      have d : decide ((N : Int) < 10) = true := decide_eq_true (by omega)
      obtain ⟨tt, htt⟩ : ∃ t : ByteArray, ⟨#[UInt8.ofNat (48 + N)]⟩ = t := ⟨_, rfl⟩
      have hsz : tt.size = 1 := by rw [← htt]; rfl
      rw [htt] at hc
      clear htt
      go_enter Tryd.func8, Tryd.ntmps8
      go_wp2_with fail
      go_ret
      exact ⟨⟨tt, rfl, by omega⟩, hb⟩
    · match f, hf with
      | 0, hf => exact absurd hf (by omega)
      | f + 1, hf =>
        have c1 := digits_is f (N / 10) w (by omega) (by omega)
        have c2 : ∀ W, Calls Tryd.prog 8 #[.int .i64 ((N % 10 : Nat) : Int)] W fun e w' => (∃ t : ByteArray, e = .returned (.string t) ∧ t.size ≤ N % 10 + 1) ∧ Below W.heap.size W w' := fun W => digits_is f (N % 10) W (by omega) (by omega)
        have d : decide ((N : Int) < 10) = false := decide_eq_false (by omega)
        have q1 : Int.tdiv (N : Int) 10 = ((N / 10 : Nat) : Int) := by rw [Int.tdiv_eq_ediv_of_nonneg (by omega)]; omega
        have q2 : Int.tmod (N : Int) 10 = ((N % 10 : Nat) : Int) := by rw [Int.tmod_eq_emod_of_nonneg (by omega)]; omega
        have hq : N / 10 + 1 + (N % 10 + 1) ≤ N + 1 := by omega
        obtain ⟨D1, hD1⟩ : ∃ d, N / 10 = d := ⟨_, rfl⟩
        obtain ⟨D2, hD2⟩ : ∃ d, N % 10 = d := ⟨_, rfl⟩
        rw [hD1] at c1 q1 hq
        rw [hD2] at c2 q2 hq
        have hD3 : D1 ≤ 100000 := by omega
        have hD4 : D2 ≤ 100000 := by omega
        clear hD1 hD2
        go_enter Tryd.func8, Tryd.ntmps8
        go_wp2_with fail
        refine c1.mono ?_
        rintro e w1 ⟨⟨t1, rfl, h1⟩, hb1⟩
        clear c1
        go_wp2_with fail
        refine (c2 _).mono ?_
        rintro e w2 ⟨⟨t2, rfl, h2⟩, hb2⟩
        have hs := size_sum t1 t2
        have hov : (9223372036854775807 < t1.size + t2.size) = False := by simp; omega
        clear c2
        go_wp2_with fail
        go_ret
        exact ⟨⟨_, rfl, by rw [hs]; omega⟩, hb1.trans (hb2.mono hb1.size)⟩
end Go.Proofs.YtlemekbglflfkaaDoor
