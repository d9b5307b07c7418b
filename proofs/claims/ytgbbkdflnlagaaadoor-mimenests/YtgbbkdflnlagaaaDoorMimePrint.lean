/-
  What mime.Print does.
-/
import Derived.Test.YtgbbkdflnlagaaaDoorMimeWriteN
import Derived.Lib.ItoaLen
namespace Go.Proofs.Mm
open Go.Proofs.Sq Go.Proofs.Hd
mutual
theorem print_short {B : Nat} (hB : B ≤ 1000000) : ∀ p : Pt, Fits B p → (printP p).length + 1 ≤ countP p * (B + 70)
  | .mk t bn lo hi ln ps, h => by
    obtain ⟨h1, h2, h3, h4, h5⟩ := h
    have ih := print_shorts hB ps h5
    have i1 := Lib.itoa_length_le (ln : Int) (by omega) (by omega)
    have i2 := Lib.itoa_length_le ((hi : Int) - (lo : Int)) (by omega) (by omega)
    rw [countP, Nat.add_mul, Nat.one_mul, printP]
    split
    · simp only [List.length_cons, List.length_append, List.length_nil]
      omega
    · simp only [List.length_cons, List.length_append, List.length_nil]
      omega
theorem print_shorts {B : Nat} (hB : B ≤ 1000000) : ∀ ps : List Pt, FitsAll B ps → (printPs ps).length ≤ countPs ps * (B + 70)
  | [], _ => by simp [printPs]
  | p :: ps, h => by
    have h1 := print_short hB p h.1
    have h2 := print_shorts hB ps h.2
    rw [printPs, countPs, Nat.add_mul, List.length_append, List.length_cons]
    omega
end
theorem printP_ne (p : Pt) : printP p ≠ [] := by
  obtain ⟨t, bn, lo, hi, ln, ps⟩ := p
  rw [printP]
  split <;> simp
mutual
theorem fits_mono {A B : Nat} (h : A ≤ B) : ∀ p : Pt, Fits A p → Fits B p
  | .mk t bn lo hi ln ps, ⟨h1, h2, h3, h4, h5⟩ => ⟨by omega, h2, by omega, by omega, fits_monos h ps h5⟩
theorem fits_monos {A B : Nat} (h : A ≤ B) : ∀ ps : List Pt, FitsAll A ps → FitsAll B ps
  | [], _ => trivial
  | p :: ps, hf => ⟨fits_mono h p hf.1, fits_monos h ps hf.2⟩
end
end Go.Proofs.Mm
namespace Go.Proofs.YtgbbkdflnlagaaaDoor
open Go.RowKit Go.Proofs.Aid Go.Proofs.Sq Go.Proofs.Hd Go.Proofs.Mm
set_option maxHeartbeats 2000000 in
set_option maxRecDepth 100000 in
theorem mprint_is (p : Mm.Pt) (xs : List Value) (Ok : Nat → Prop) (w : World) (hc : countP p ≤ 30) (h : Six w Ok p xs) (hf : Fits 100000 p) (htab : TabB w.heap.size w) :
    Calls Tryd.prog 11 #[.agg xs.toArray] w fun e w' => e = .returned (.string ⟨(printP p).toArray⟩) ∧ Below w.heap.size w w' := by
  have hsh := print_short (by omega) p hf
  have hlen : (printP p).length ≤ 100000000 := by
    have : countP p * (100000 + 70) ≤ 30 * (100000 + 70) := Nat.mul_le_mul_right _ hc
    omega
  have hne := printP_ne p
  obtain ⟨tb, bb, l1, h1, n1, a1, k1, cc1, rfl⟩ := six_cells h
  have ht : ([.string tb, .string bb, .int .i64 (l1 : Int), .int .i64 (h1 : Int), .int .i64 (n1 : Int), .slice a1 k1 cc1] : List Value).toArray = #[.string tb, .string bb, .int .i64 (l1 : Int), .int .i64 (h1 : Int), .int .i64 (n1 : Int), .slice a1 k1 cc1] := rfl
  have hb1 : Below w.heap.size w (w.alloc (.cells #[.string tb, .string bb, .int .i64 (l1 : Int), .int .i64 (h1 : Int), .int .i64 (n1 : Int), .slice a1 k1 cc1] 26)) := (Below.refl _ _).alloc (Nat.le_refl _) _
  have e1 := heap_alloc_new w (.cells #[.string tb, .string bb, .int .i64 (l1 : Int), .int .i64 (h1 : Int), .int .i64 (n1 : Int), .slice a1 k1 cc1] 26)
  have z1 : (w.alloc (.cells #[.string tb, .string bb, .int .i64 (l1 : Int), .int .i64 (h1 : Int), .int .i64 (n1 : Int), .slice a1 k1 cc1] 26)).heap.size = w.heap.size + 1 := by simp
  rw [ht]
  go_enter Tryd.func11, Tryd.ntmps11
  obtain ⟨W1, hW1⟩ : ∃ W, w.alloc (.cells #[.string tb, .string bb, .int .i64 (l1 : Int), .int .i64 (h1 : Int), .int .i64 (n1 : Int), .slice a1 k1 cc1] 26) = W := ⟨_, rfl⟩
  have hB0 := Lib.IsBuilderF.of (Lib.fresh_isBuilder 50 5 W1)
  have hb2 : Below W1.heap.size W1 (W1.alloc (.cells #[.pointer none, .slice none 0 0] 50)) := (Below.refl _ _).alloc (Nat.le_refl _) _
  rw [hW1] at hb1 e1 z1
  have hb02 := hb1.trans (hb2.mono (by omega))
  have e2 := (hb2.block w.heap.size (by omega)).trans e1
  have cW := write_is 30 W1.heap.size W1.heap.size p _ [] (W1.alloc (.cells #[.pointer none, .slice none 0 0] 50)) hc hc ((h.kept (Ok' := fun k => k < W1.heap.size) fun k hk hlt => ⟨by omega, hb02.block k hlt⟩)) hf hB0 hb2.size (by simpa using hlen) (fun W hW => htab W (hb02.trans (hW.mono (by omega))))
  rw [ht, z1] at cW
  have c0 := rd_cell (j := 0) e2 rfl
  have c1 := rd_cell (j := 1) e2 rfl
  have c2 := rd_cell (j := 2) e2 rfl
  have c3 := rd_cell (j := 3) e2 rfl
  have c4 := rd_cell (j := 4) e2 rfl
  have c5 := rd_cell (j := 5) e2 rfl
  go_wp2_with fail
  clear h hf htab hB0 e1 ht hW1
  refine cW.mono ?_
  clear cW
  rintro e w3 ⟨rfl, hbd3, hb3, _⟩
  have cS := Any.Builder_String_k Tryd.lays169 Tryd.Builder_Extra_169 (w.heap.size + 1) (w.heap.size + 1) ([] ++ printP p) w3 hbd3 (by simpa using hne)
  rw [List.nil_append] at cS
  clear hbd3
  go_wp2_with fail
  refine cS.mono ?_
  rintro e w4 ⟨rfl, _, hb4, _⟩
  go_wp2_with fail
  go_ret
  exact ⟨rfl, (hb02.trans (hb3.mono (by omega))).trans (hb4.mono (by omega))⟩
end Go.Proofs.YtgbbkdflnlagaaaDoor
