/-
  The walk of WireLimits.
-/
import Derived.Test.YtlemekbglflfkaaDoorWireNext
import Derived.Test.YtlemekbglflfkaaDoorWireRef
import Derived.Test.YtlemekbglflfkaaDoorWireFill
import Derived.Test.YtlemekbglflfkaaDoorBare
namespace Go.Proofs.YtlemekbglflfkaaDoor
open Go.RowKit Go.Proofs.Aid Go.Proofs.Sq Go.Proofs.Hd Go.Sort

theorem lim_bare (b : Bool) (w : World) (hg : ErrType w) : Calls Tryd.prog 11 #[limV b, .int .i64 (limN b)] w fun ev w' => ev = .returned (.bool true) ∧ Below w.heap.size w w' := by
  cases b
  · exact bare_nil 0 w
  · exact bare_err 4 4 w hg
theorem wrap_nonneg (a : Int) : 0 ≤ IntKind.u64.wrap a := by
  have e1 : IntKind.u64.bits = 64 := rfl
  unfold IntKind.wrap
  rw [e1]
  simp only [IntKind.signed]
  first | omega | (simp; omega) | (split <;> omega)
theorem urem (n : Int) (k : Nat) (hk : 0 < k) : ∃ A : Nat, (IntKind.u64.wrap n).tmod (k : Int) = (A : Int) ∧ A < k := by
  have h0 : 0 ≤ IntKind.u64.wrap n := wrap_nonneg n
  rw [Int.tmod_eq_emod_of_nonneg h0]
  have h1 := Int.emod_nonneg (IntKind.u64.wrap n) (show (k : Int) ≠ 0 by omega)
  have h2 := Int.emod_lt_of_pos (IntKind.u64.wrap n) (show (0 : Int) < (k : Int) by omega)
  exact ⟨(IntKind.u64.wrap n % (k : Int)).toNat, by omega, by omega⟩
theorem lim_big (n m : Int) (s : ByteArray) (w : World) (hs : 100 < s.size) :
    Calls Tryd.prog 3 #[.int .i64 n, .int .i64 m, .string s] w fun e w' => e = .returned (.bool true) ∧ Below w.heap.size w w' := by
  have d : decide ((100 : Int) < (s.size : Int)) = true := decide_eq_true (by omega)
  go_enter Tryd.func3, Tryd.ntmps3
  go_wp2_with fail
  go_ret
  exact ⟨rfl, Below.refl _ _⟩
set_option maxHeartbeats 4000000 in
set_option maxRecDepth 100000 in
theorem lim_small (n m mx : Int) (s : ByteArray) (w : World) (hs : s.size ≤ 100) (hg : NumAt w) (he : ErrType w) (hm : w.cell? ⟨0, 0, none⟩ = some (.int .i64 mx)) :
    Calls Tryd.prog 3 #[.int .i64 n, .int .i64 m, .string s] w fun e w' => e = .returned (.bool true) ∧ Below w.heap.size w w' := by
  have K0 : Hid (∀ W, Below w.heap.size w W → NumAt W ∧ ErrType W ∧ W.cell? ⟨0, 0, none⟩ = some (.int .i64 mx)) := fun W h => ⟨hg.below h, he.below h, (h.cell (World.block_lt_of_cell? _ _ hm)).trans hm⟩
  have d : decide ((100 : Int) < (s.size : Int)) = false := decide_eq_false (by omega)
  obtain ⟨A, hA, hA2⟩ := urem n 200 (by decide)
  obtain ⟨B, hB, hB2⟩ := urem m 4000 (by decide)
  obtain ⟨C, hC, hC2⟩ := urem n 3000 (by decide)
  have hA : (IntKind.u64.wrap n).tmod 200 = (A : Int) := hA
  have hB : (IntKind.u64.wrap m).tmod 4000 = (B : Int) := hB
  have hC : (IntKind.u64.wrap n).tmod 3000 = (C : Int) := hC
  have cF1 : ∀ W, Calls Tryd.prog 7 #[.int .i64 (2900 + (A : Int))] W fun e w' => (∃ t : ByteArray, e = .returned (.string t) ∧ t.size = 2900 + A) ∧ Below W.heap.size W w' := fun W => by
    have := fill_is (2900 + A) W (by omega)
    rw [show ((2900 + A : Nat) : Int) = 2900 + (A : Int) by omega] at this
    exact this
  have cF2 := fun W => fill_is C W (by omega)
  have cD := fun W => digits_is B B W (Nat.le_refl _) (by omega)
  clear hg he hm
  go_enter Tryd.func3, Tryd.ntmps3
  go_wp2_with fail
  refine (cF1 _).mono ?_
  rintro e w1 ⟨⟨t1, rfl, h1⟩, hb1⟩
  have HB1 : Hid (Below w.heap.size w w1) := hb1
  clear cF1 hb1
  go_wp2_with fail
  refine (cD _).mono ?_
  rintro e w2 ⟨⟨t2, rfl, h2⟩, hb2⟩
  have HB2 : Hid (Below w.heap.size w w2) := HB1.out.trans (hb2.mono HB1.out.size)
  clear cD hb2 HB1
  obtain ⟨X, hX⟩ : ∃ X, s ++ t1 ++ ({ data := #[13, 10] } : ByteArray) = X := ⟨_, rfl⟩
  have hXs : X.size = s.size + t1.size + 2 := by rw [← hX, size_sum, size_sum]; rfl
  rw [hX]
  clear hX
  go_wp2_with fail
  refine (cF2 _).mono ?_
  rintro e w3 ⟨⟨t3, rfl, h3⟩, hb3⟩
  have HB3 : Hid (Below w.heap.size w w3) := HB2.out.trans (hb3.mono HB2.out.size)
  clear cF2 hb3 HB2
  obtain ⟨Z, hZ⟩ : ∃ X, s ++ ({ data := #[32, 123] } : ByteArray) ++ t2 ++ ({ data := #[125, 13, 10] } : ByteArray) = X := ⟨_, rfl⟩
  have hZs : Z.size = s.size + 2 + t2.size + 3 := by rw [← hZ, size_sum, size_sum, size_sum]; rfl
  rw [hZ]
  clear hZ
  have hX1 : 2 ≤ X.size := by omega
  have hX2 : X.size ≤ 4000 := by omega
  have hZ2 : Z.size ≤ 5000 := by omega
  clear hXs hZs h1
  have c := ref_next X mx w3 (by omega) (K0.out _ HB3.out).2.2 (K0.out _ HB3.out).1
  go_wp2_with fail
  obtain ⟨Y, hY⟩ : ∃ X, Z ++ t3 ++ ({ data := #[13, 10] } : ByteArray) = X := ⟨_, rfl⟩
  have hYs : Y.size = Z.size + t3.size + 2 := by rw [← hY, size_sum, size_sum]; rfl
  rw [hY]
  have hY2 : Y.size ≤ 10000 := by omega
  clear hY c hYs h3 h2
  have c := ref_next X mx w3 (by omega) (K0.out _ HB3.out).2.2 (K0.out _ HB3.out).1
  obtain ⟨⟨n1, k1, b1⟩, hn⟩ : ∃ a, nextW X.data.toList 0 0 = a := ⟨_, rfl⟩
  have HN1 : Hid (nextW X.data.toList 0 0 = (n1, k1, b1)) := hn
  rw [hn] at c
  have c : Calls Tryd.prog 9 #[.string X] w3 fun e w' => e = .returned (.tuple #[.int .i64 (n1 : Int), .int .i64 (k1 : Int), .int .i64 (limN b1)]) ∧ Below w3.heap.size w3 w' := c
  clear hn
  refine c.mono ?_
  rintro e va1 ⟨rfl, hb⟩
  have HBa : Hid (Below w.heap.size w va1) := HB3.out.trans (hb.mono HB3.out.size)
  clear c hb HB3
  have c := next_is X mx va1 (by omega) (K0.out _ HBa.out).2.2 (K0.out _ HBa.out).1
  rw [HN1.out] at c
  have c : Calls Tryd.prog 10 #[.string X] va1 fun e w' => e = .returned (.tuple #[.int .i64 (n1 : Int), .int .i64 (k1 : Int), limV b1]) ∧ Below va1.heap.size va1 w' := c
  go_wp2_with fail
  refine c.mono ?_
  rintro e vb1 ⟨rfl, hb⟩
  have HBb : Hid (Below w.heap.size w vb1) := HBa.out.trans (hb.mono HBa.out.size)
  clear c hb HBa HN1
  have c := lim_bare b1 vb1 (K0.out _ HBb.out).2.1
  obtain ⟨lva1, hlva1⟩ : ∃ v, limV b1 = v := ⟨_, rfl⟩
  obtain ⟨ln1, hln1⟩ : ∃ v, limN b1 = v := ⟨_, rfl⟩
  rw [hlva1, hln1] at c ⊢
  clear hlva1 hln1
  go_wp2_with fail
  refine c.mono ?_
  rintro e vc1 ⟨rfl, hb⟩
  have HBc1 : Hid (Below w.heap.size w vc1) := HBb.out.trans (hb.mono HBb.out.size)
  clear c hb HBb
  have en1 : ((n1 : Int) != (n1 : Int)) = false := by simp
  have ek1 : ((k1 : Int) != (k1 : Int)) = false := by simp
  have c := ref_next Y mx vc1 (by omega) (K0.out _ HBc1.out).2.2 (K0.out _ HBc1.out).1
  obtain ⟨⟨n2, k2, b2⟩, hn⟩ : ∃ a, nextW Y.data.toList 0 0 = a := ⟨_, rfl⟩
  have HN2 : Hid (nextW Y.data.toList 0 0 = (n2, k2, b2)) := hn
  rw [hn] at c
  have c : Calls Tryd.prog 9 #[.string Y] vc1 fun e w' => e = .returned (.tuple #[.int .i64 (n2 : Int), .int .i64 (k2 : Int), .int .i64 (limN b2)]) ∧ Below vc1.heap.size vc1 w' := c
  clear hn
  go_wp2_with fail
  refine c.mono ?_
  rintro e va2 ⟨rfl, hb⟩
  have HBa : Hid (Below w.heap.size w va2) := HBc1.out.trans (hb.mono HBc1.out.size)
  clear c hb HBc1
  have c := next_is Y mx va2 (by omega) (K0.out _ HBa.out).2.2 (K0.out _ HBa.out).1
  rw [HN2.out] at c
  have c : Calls Tryd.prog 10 #[.string Y] va2 fun e w' => e = .returned (.tuple #[.int .i64 (n2 : Int), .int .i64 (k2 : Int), limV b2]) ∧ Below va2.heap.size va2 w' := c
  go_wp2_with fail
  refine c.mono ?_
  rintro e vb2 ⟨rfl, hb⟩
  have HBb : Hid (Below w.heap.size w vb2) := HBa.out.trans (hb.mono HBa.out.size)
  clear c hb HBa HN2
  have c := lim_bare b2 vb2 (K0.out _ HBb.out).2.1
  obtain ⟨lvb2, hlvb2⟩ : ∃ v, limV b2 = v := ⟨_, rfl⟩
  obtain ⟨ln2, hln2⟩ : ∃ v, limN b2 = v := ⟨_, rfl⟩
  rw [hlvb2, hln2] at c ⊢
  clear hlvb2 hln2
  go_wp2_with fail
  refine c.mono ?_
  rintro e vc2 ⟨rfl, hb⟩
  have HBc2 : Hid (Below w.heap.size w vc2) := HBb.out.trans (hb.mono HBb.out.size)
  clear c hb HBb
  have en2 : ((n2 : Int) != (n2 : Int)) = false := by simp
  have ek2 : ((k2 : Int) != (k2 : Int)) = false := by simp
  obtain ⟨M, hM⟩ : ∃ M, X.size = M + 2 := ⟨X.size - 2, by omega⟩
  have qM : (X.size : Int) - 2 = (M : Int) := by omega
  obtain ⟨U, hU⟩ : ∃ U, X.extract 0 M = U := ⟨_, rfl⟩
  have hUs : U.size ≤ 4000 := by rw [← hU, ByteArray.size_extract]; omega
  have hMX : M ≤ X.size := by omega
  clear hM
  have c := ref_next U mx vc2 (by omega) (K0.out _ HBc2.out).2.2 (K0.out _ HBc2.out).1
  obtain ⟨⟨n3, k3, b3⟩, hn⟩ : ∃ a, nextW U.data.toList 0 0 = a := ⟨_, rfl⟩
  have HN3 : Hid (nextW U.data.toList 0 0 = (n3, k3, b3)) := hn
  rw [hn] at c
  have c : Calls Tryd.prog 9 #[.string U] vc2 fun e w' => e = .returned (.tuple #[.int .i64 (n3 : Int), .int .i64 (k3 : Int), .int .i64 (limN b3)]) ∧ Below vc2.heap.size vc2 w' := c
  clear hn
  go_wp2_with fail
  refine c.mono ?_
  rintro e va3 ⟨rfl, hb⟩
  have HBa : Hid (Below w.heap.size w va3) := HBc2.out.trans (hb.mono HBc2.out.size)
  clear c hb HBc2
  have c := next_is U mx va3 (by omega) (K0.out _ HBa.out).2.2 (K0.out _ HBa.out).1
  rw [HN3.out] at c
  have c : Calls Tryd.prog 10 #[.string U] va3 fun e w' => e = .returned (.tuple #[.int .i64 (n3 : Int), .int .i64 (k3 : Int), limV b3]) ∧ Below va3.heap.size va3 w' := c
  go_wp2_with fail
  refine c.mono ?_
  rintro e vb3 ⟨rfl, hb⟩
  have HBb : Hid (Below w.heap.size w vb3) := HBa.out.trans (hb.mono HBa.out.size)
  clear c hb HBa HN3
  have c := lim_bare b3 vb3 (K0.out _ HBb.out).2.1
  obtain ⟨lvb3, hlvb3⟩ : ∃ v, limV b3 = v := ⟨_, rfl⟩
  obtain ⟨ln3, hln3⟩ : ∃ v, limN b3 = v := ⟨_, rfl⟩
  rw [hlvb3, hln3] at c ⊢
  clear hlvb3 hln3
  go_wp2_with fail
  refine c.mono ?_
  rintro e vc3 ⟨rfl, hb⟩
  have HBc3 : Hid (Below w.heap.size w vc3) := HBb.out.trans (hb.mono HBb.out.size)
  clear c hb HBb
  have en3 : ((n3 : Int) == (n3 : Int)) = true := by simp
  have ek3 : ((k3 : Int) == (k3 : Int)) = true := by simp
  go_wp2_with fail
  go_ret
  exact ⟨rfl, HBc3.out⟩
end Go.Proofs.YtlemekbglflfkaaDoor
