/-
  All names that are wanted.
-/
import Derived.Test.YtfdlopimncodcaaGreatDoorMHwWant
import Derived.Test.YtfdlopimncodcaaGreatDoorMHmMatchIs
namespace Go.Proofs.YtfdlopimncodcaaGreatDoor
open Go.RowKit Go.Proofs.Aid

theorem star_all (s : List UInt8) : matchB [42] s = true := (match_iff _ _).2 (mt_star_all s)
set_option maxHeartbeats 2000000 in
theorem list1_is (n : ByteArray) (p : Nat) (w : World) (hp : w.cell? ⟨p, 0, none⟩ = some (.string ⟨#[42]⟩)) (hn : n.size ≤ 1000) :
    Calls Tryz.prog 79 #[.string n, .pointer (some ⟨p, 0, none⟩)] w fun e w' => e = .returned (.bool false) ∧ Below w.heap.size w w' := by
  have cM := match_is ⟨#[42]⟩ n w (by omega) (by decide)
  rw [show matchB (⟨#[42]⟩ : ByteArray).data.toList n.data.toList = true from star_all _] at cM
  go_enter Tryz.func79, Tryz.ntmps79
  go_wp2_with fail
  refine cM.mono ?_
  rintro e w1 ⟨rfl, hb1⟩
  clear cM
  go_wp2_with fail
  go_ret
  exact ⟨rfl, hb1⟩
set_option maxHeartbeats 2000000 in
set_option maxRecDepth 100000 in
theorem idx_none (p base : Nat) (v : Value) (ns : List Nm) (w : World) (h : NRow w base v ns) (hp : w.cell? ⟨p, 0, none⟩ = some (.string ⟨#[42]⟩)) (hns : ∀ n ∈ ns, n.length ≤ 1000) (hl : ns.length ≤ 1000) :
    Calls Tryz.prog 122 #[v, .func (.func 79) #[] #[.pointer (some ⟨p, 0, none⟩)]] w fun e w' => e = .returned (.int .i64 (-1)) ∧ Below w.heap.size w w' := by
  obtain ⟨a, c, rfl⟩ := row_form h
  obtain ⟨M, hM⟩ : ∃ m, ns.length = m := ⟨_, rfl⟩
  have HX : Hid (NRow w base (.slice a M c) ns ∧ ns.length = M ∧ (∀ n ∈ ns, n.length ≤ 1000) ∧ w.cell? ⟨p, 0, none⟩ = some (.string ⟨#[42]⟩)) := ⟨by rw [← hM]; exact h, hM, hns, hp⟩
  rw [hM] at hl ⊢
  clear h hM hns hp
  go_enter Tryz.func122, Tryz.ntmps122
  go_wp2_with fail
  go_loopw [8] (fun iv wr => ∃ k : Nat, iv = .int .i64 (k : Int) ∧ k ≤ M ∧ Hid (Below w.heap.size w wr)) (fun iv _ => M - (intOf iv).toNat)
  case atStart => exact ⟨0, rfl, Nat.zero_le _, Below.refl _ _⟩
  case round =>
    obtain ⟨k, rfl, hk, HB⟩ := hrel
    by_cases hlt : k < M
    · have d1 : decide ((k : Int) < (M : Int)) = true := decide_eq_true (by omega)
      have i1 : (0 : Int) ≤ (k : Int) := by omega
      have i2 : (k : Int) < (M : Int) := by omega
      obtain ⟨n, hnk⟩ : ∃ n, ns[k]? = some n := ⟨_, List.getElem?_eq_getElem (by have := HX.out.2.1; omega)⟩
      obtain ⟨g, cap, hvg, hc0⟩ := nrow_at (HX.out.1.below HB.out (Nat.le_refl _)) hnk
      injection hvg with hva hvb hvc
      subst hva
      clear hvb hvc
      have hcg : wr.cell? ⟨g, k, none⟩ = some (.string ⟨n.toArray⟩) := hc0
      have hnl := HX.out.2.2.1 n (List.mem_of_getElem? hnk)
      have cL := list1_is ⟨n.toArray⟩ p wr ((HB.out.cell (p := ⟨p, 0, none⟩) (World.block_lt_of_cell? _ _ HX.out.2.2.2)).trans HX.out.2.2.2) (by show n.toArray.size ≤ _; rw [List.size_toArray]; exact hnl)
      clear hc0 hnk hnl
      go_wp2_with fail
      refine cL.mono ?_
      rintro e w1 ⟨rfl, hb1⟩
      have HB1 : Hid (Below w.heap.size w w1) := HB.out.trans (hb1.mono HB.out.size)
      clear cL hb1
      go_wp2_with fail
      go_roundw
      case rel => exact ⟨k + 1, by go_num, by omega, HB1⟩
      case measure => simp [intOf]; omega
    · have d1 : decide ((k : Int) < (M : Int)) = false := decide_eq_false (by omega)
      go_wp2_with fail
      go_ret
      exact ⟨rfl, HB.out⟩
theorem idx_empty (a : Option Addr) (c : Nat) (f : Value) (w : World) : Calls Tryz.prog 122 #[.slice a 0 c, f] w fun e w' => e = .returned (.int .i64 (-1)) ∧ w' = w := Tryz.slices_IndexFunc_empty (α := Nat) a c f w
/-- Nothing is deleted. -/
theorem del_none (v f : Value) (w : World) (hv : ∃ a n c, v = .slice a n c) (cI : Calls Tryz.prog 122 #[v, f] w fun e w' => e = .returned (.int .i64 (-1)) ∧ Below w.heap.size w w') :
    Calls Tryz.prog 78 #[v, f] w fun e w' => e = .returned v ∧ Below w.heap.size w w' := by
  obtain ⟨a, n, c, rfl⟩ := hv
  go_enter Tryz.func78, Tryz.ntmps78
  go_wp2_with fail
  refine cI.mono ?_
  rintro e w1 ⟨rfl, hb1⟩
  clear cI
  go_wp2_with fail
  go_ret
  exact ⟨rfl, hb1⟩
set_option maxHeartbeats 4000000 in
set_option maxRecDepth 100000 in
/-- List("*", true): just what is wanted. -/
theorem list_is (hb mb base : Nat) (l : Bxs) (nx : Int) (wv : Value) (ns : List Nm) (w : World) (h : HsAt w hb mb l nx wv) (hl : l.length ≤ 1000) (hr : NRow w base wv ns ∨ (ns = [] ∧ ∃ a c, wv = .slice a 0 c)) (hns : ∀ n ∈ ns, n.length ≤ 1000) (hnl : ns.length ≤ 1000) :
    Calls Tryz.prog 29 #[.pointer (some ⟨hb, 0, none⟩), .string ⟨#[42]⟩, .bool true] w fun e w' => (∃ v, e = .returned v ∧ ∃ base, NRow w' base v ns) ∧ Below w.heap.size w w' := by
  have b1 : Below w.heap.size w (w.alloc (.cells #[.string ⟨#[42]⟩] 9)) := (Below.refl _ _).alloc (Nat.le_refl _) _
  have e1 := heap_alloc_new w (.cells #[.string ⟨#[42]⟩] 9)
  obtain ⟨W1, hW1⟩ : ∃ W, w.alloc (.cells #[.string ⟨#[42]⟩] 9) = W := ⟨_, rfl⟩
  rw [hW1] at b1 e1
  have h1 := h.below b1 (Nat.le_refl _)
  have cN := names_is hb mb l nx wv W1 h1 hl
  have hz1 := b1.size
  have hw1 : w.heap.size < W1.heap.size := (Array.getElem?_eq_some_iff.1 e1).1
  have HX : Hid (HsAt W1 hb mb l nx wv ∧ Below w.heap.size w W1 ∧ W1.heap[w.heap.size]? = some (.cells #[.string ⟨#[42]⟩] 9 (0, 0)) ∧ (NRow W1 base wv ns ∨ (ns = [] ∧ ∃ a c, wv = .slice a 0 c)) ∧ ∀ n ∈ ns, n.length ≤ 1000) := ⟨h1, b1, e1, hr.imp (fun h => h.below b1 (Nat.le_refl _)) id, hns⟩
  have HCl : Hid (∀ W, Below W1.heap.size W1 W → Calls Tryz.prog 51 #[wv] W fun e w' => (∃ v, e = .returned v ∧ NRow w' W.heap.size v ns) ∧ Below W.heap.size W w') := fun W hW => by
    rcases hr with hr | ⟨rfl, a, c, rfl⟩
    · have hr' := (hr.below b1 (Nat.le_refl _)).below hW (Nat.le_refl _)
      cases ns with
      | nil =>
        obtain ⟨a, c, rfl⟩ := row_form hr
        cases a with
        | none =>
          refine (Tryz.slices_Clone_string_nil _ c W).mono ?_
          rintro e w' ⟨rfl, rfl⟩
          exact ⟨⟨_, rfl, World.ownsRow_nil _ _ _ _⟩, Below.refl _ _⟩
        | some a =>
          refine (Tryz.slices_Clone_string_zero a c W).mono ?_
          rintro e w' ⟨v, rfl, q1, _, q3⟩
          exact ⟨⟨_, rfl, q1⟩, q3⟩
      | cons x xs =>
        obtain ⟨g, cap, rfl, _⟩ := nrow_at hr' (j := 0) (x := x) rfl
        have hc : ∀ j, j < ((x :: xs).map fun t => (⟨t.toArray⟩ : ByteArray)).length → W.cell? ⟨g, 0 + j, none⟩ = some (.string (((x :: xs).map fun t => (⟨t.toArray⟩ : ByteArray)).getD j ByteArray.empty)) := fun j hj => by
          rw [List.length_map] at hj
          obtain ⟨g', cap', e2, e3⟩ := nrow_at hr' (List.getElem?_eq_getElem hj)
          injection e2 with e2 _ _
          injection e2 with e2
          injection e2 with e2 _ _
          subst e2
          rw [Nat.zero_add, e3, List.getD_eq_getElem?_getD, List.getElem?_map, List.getElem?_eq_getElem hj]
          rfl
        refine (Tryz.slices_Clone_string g 0 (x :: xs).length cap ((x :: xs).map fun t => (⟨t.toArray⟩ : ByteArray)) W (by rw [List.length_map]; exact Nat.le_refl _) (by omega) hc).mono ?_
        rintro e w' ⟨v, rfl, q1, _, q3⟩
        rw [List.take_of_length_le (by rw [List.length_map]; exact Nat.le_refl _), List.map_map] at q1
        exact ⟨⟨_, rfl, q1⟩, q3⟩
    · cases a with
      | none =>
        refine (Tryz.slices_Clone_string_nil 0 c W).mono ?_
        rintro e w' ⟨rfl, rfl⟩
        exact ⟨⟨_, rfl, World.ownsRow_nil _ _ _ _⟩, Below.refl _ _⟩
      | some a =>
        refine (Tryz.slices_Clone_string_zero a c W).mono ?_
        rintro e w' ⟨v, rfl, q1, _, q3⟩
        exact ⟨⟨_, rfl, q1⟩, q3⟩
  clear h h1 b1 e1 hr hns
  go_enter Tryz.func29, Tryz.ntmps29
  go_wp2_with fail
  refine cN.mono ?_
  rintro e w2 ⟨⟨v2, rfl, _⟩, hb2⟩
  have c1 := (HX.out.1.below hb2 (Nat.le_refl _)).cell.2.1
  have cC := HCl.out w2 hb2
  have HB2 : Hid (Below W1.heap.size W1 w2) := hb2
  clear cN hb2 HCl
  go_wp2_with fail
  refine cC.mono ?_
  rintro e w3 ⟨⟨v3, rfl, hrow⟩, hb3⟩
  have hp3 : w3.cell? ⟨w.heap.size, 0, none⟩ = some (.string ⟨#[42]⟩) := rd_cell ((hb3.block _ (Nat.lt_of_lt_of_le hw1 HB2.out.size)).trans ((HB2.out.block _ hw1).trans HX.out.2.2.1)) rfl
  have cI := idx_none w.heap.size w2.heap.size v3 ns w3 hrow hp3 HX.out.2.2.2.2 hnl
  have cD := del_none v3 (.func (.func 79) #[] #[.pointer (some ⟨w.heap.size, 0, none⟩)]) w3 (by obtain ⟨a, c, e⟩ := row_form hrow; exact ⟨_, _, _, e⟩) cI
  have HY : Hid (NRow w3 w2.heap.size v3 ns ∧ Below w.heap.size w w3) := ⟨hrow, HX.out.2.1.trans ((HB2.out.trans (hb3.mono HB2.out.size)).mono hz1)⟩
  obtain ⟨a3, c3, rfl⟩ := row_form hrow
  clear cC cI hrow hb3 hp3 c1
  go_wp2_with fail
  refine cD.mono ?_
  rintro e w4 ⟨rfl, hb4⟩
  have HF : Hid (NRow w4 w2.heap.size (.slice a3 ns.length c3) ns ∧ Below w.heap.size w w4) := ⟨HY.out.1.below hb4 (Nat.le_refl _), HY.out.2.trans (hb4.mono HY.out.2.size)⟩
  clear cD hb4
  go_wp2_with fail
  go_ret
  exact ⟨⟨_, rfl, _, HF.out.1⟩, HF.out.2⟩
end Go.Proofs.YtfdlopimncodcaaGreatDoor
