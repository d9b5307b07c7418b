/-
  What letterboxref.PrintHead does: the same as head.Print.
-/
import Derived.Test.YtohpfhpkimmmbaaGreatDoorHeadPrint
namespace Go.Proofs.YtohpfhpkimmmbaaGreatDoor
open Go.RowKit Go.Proofs.Aid Go.Proofs.Hd Go.Proofs.Sq

set_option maxHeartbeats 1000000 in
set_option maxRecDepth 100000 in
theorem rprint_is (v : Value) (L : List Fb) (w : World) (h : Fg w v L) (hL : L.length ≤ 100) (hsh : Short L) :
    Calls Tryz.prog 44 #[v] w fun e w' => e = .returned (.string ⟨(printed (L.map tx)).toArray⟩) ∧ Below w.heap.size w w' := by
  obtain ⟨T, hT⟩ : ∃ T, lines (L.map tx) = T := ⟨_, rfl⟩
  have HT : Hid (lines (L.map tx) = T) := hT
  rw [printed_lines, hT]
  obtain ⟨R, hR⟩ : ∃ R : ByteArray, ⟨(T ++ [13, 10]).toArray⟩ = R := ⟨_, rfl⟩
  have HR0 : Hid (R.data.toList = T ++ [13, 10]) := by show _ = _; rw [← hR]
  rw [hR]
  have HSH : Hid (Short L) := hsh
  have K0 : Hid (∀ W, Below w.heap.size w W → Fg W v L) := fun W hW => h.below hW (Nat.le_refl _)
  obtain ⟨a, c, rfl, _⟩ := h
  obtain ⟨N, hN⟩ : ∃ N, L.length = N := ⟨_, rfl⟩
  have HN : Hid (L.length = N) := hN
  rw [hN] at hL K0 ⊢
  clear hsh hT hN hR
  go_enter Tryz.func44, Tryz.ntmps44
  go_wp2_with fail
  go_loopw [3, 8] (fun sv i wr => ∃ (k : Nat) (out : ByteArray), sv = .string out ∧ i = .int .i64 (k : Int) ∧ k ≤ N ∧ out.size ≤ k * 2000010 ∧ Hid (out.data.toList ++ lines ((L.drop k).map tx) = T) ∧ Below w.heap.size w wr) (fun _ i _ => N - (intOf i).toNat)
  case atStart => exact ⟨0, ⟨#[]⟩, rfl, rfl, by omega, by decide, by show _ = _; simpa using HT.out, Below.refl _ _⟩
  case round =>
    obtain ⟨k, out, rfl, rfl, hk, hol, HR, hbW⟩ := hrel
    have hkb : k * 2000010 ≤ 100 * 2000010 := Nat.mul_le_mul_right _ (by omega)
    by_cases hlt : k < N
    · have hkL : k < L.length := by rw [HN.out]; exact hlt
      obtain ⟨a', c', hv, hd⟩ := K0.out wr hbW
      injection hv with hv1 hv2 hv3
      subst hv1
      rcases hd with h0 | ⟨b, o, rfl, hat⟩
      · rw [h0] at hkL; simp at hkL
      obtain ⟨c1, c2⟩ := hat k _ (List.getElem?_eq_getElem hkL)
      have hsx := HSH.out _ (List.getElem_mem hkL)
      have hRR := HR.out
      rw [List.drop_eq_getElem_cons hkL, List.map_cons, lines] at hRR
      obtain ⟨⟨x, y⟩, hxy⟩ : ∃ p, L[k] = p := ⟨_, rfl⟩
      rw [hxy] at c1 c2 hsx hRR
      simp only at c1 c2 hsx
      have hh2 := heap_alloc_new wr (.cells #[.string x, .string y] 119)
      have hb2 : Below w.heap.size w (wr.alloc (.cells #[.string x, .string y] 119)) := hbW.alloc hbW.size _
      have d1 : (wr.alloc (.cells #[.string x, .string y] 119)).cell? ⟨wr.heap.size, 0, none⟩ = some (.string x) := rd_cell hh2 rfl
      have d2 : (wr.alloc (.cells #[.string x, .string y] 119)).cell? ⟨wr.heap.size, 1, none⟩ = some (.string y) := rd_cell hh2 rfl
      have s1 : x.size + (⟨#[58, 32]⟩ : ByteArray).size ≤ 100000000 := by show x.size + 2 ≤ _; omega
      have s2 : (x ++ ⟨#[58, 32]⟩ : ByteArray).size + y.size ≤ 100000000 := by rw [cat_size]; show x.size + 2 + y.size ≤ _; omega
      have s3 : (x ++ ⟨#[58, 32]⟩ ++ y : ByteArray).size + (⟨#[13, 10]⟩ : ByteArray).size ≤ 100000000 := by rw [cat_size, cat_size]; show x.size + 2 + y.size + 2 ≤ _; omega
      have hlz : (x ++ ⟨#[58, 32]⟩ ++ y ++ ⟨#[13, 10]⟩ : ByteArray).size ≤ 2000004 := by rw [cat_size, cat_size, cat_size]; show x.size + 2 + y.size + 2 ≤ _; omega
      have hll : (x ++ ⟨#[58, 32]⟩ ++ y ++ ⟨#[13, 10]⟩ : ByteArray).data.toList = lineOf (tx (x, y)) ++ [13, 10] := by
        rw [cat_list, cat_list, cat_list]
        simp [lineOf, tx]
      have s4 : out.size + (x ++ ⟨#[58, 32]⟩ ++ y ++ ⟨#[13, 10]⟩ : ByteArray).size ≤ 1000000000 := by omega
      have hoz : (out ++ (x ++ ⟨#[58, 32]⟩ ++ y ++ ⟨#[13, 10]⟩) : ByteArray).size ≤ (k + 1) * 2000010 := by rw [cat_size]; omega
      have HRR : Hid ((out ++ (x ++ ⟨#[58, 32]⟩ ++ y ++ ⟨#[13, 10]⟩) : ByteArray).data.toList ++ lines ((L.drop (k + 1)).map tx) = T) := by
        show _ = _
        rw [cat_list, hll, ← hRR]
        simp
      clear hat hv2 hv3 hxy HR hh2 hll hRR
      go_wp2_with fail
      go_roundw
      case rel => exact ⟨k + 1, _, rfl, by go_num, by omega, hoz, HRR.out, hb2⟩
      case measure => simp [intOf]; omega
    · have hE := HR.out
      rw [List.drop_eq_nil_of_le (by rw [HN.out]; omega), List.map_nil, lines, List.append_nil] at hE
      have s5 : out.size + (⟨#[13, 10]⟩ : ByteArray).size ≤ 1000000000 := by show out.size + 2 ≤ _; omega
      obtain rfl : out ++ ⟨#[13, 10]⟩ = R := text_ext (by rw [cat_list, HR0.out, hE])
      clear hE
      go_wp2_with fail
      go_ret
      exact ⟨rfl, hbW⟩
end Go.Proofs.YtohpfhpkimmmbaaGreatDoor
