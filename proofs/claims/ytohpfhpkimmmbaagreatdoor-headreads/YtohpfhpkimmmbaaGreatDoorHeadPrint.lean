/-
  What head.Print does.
-/
import Derived.Test.YtohpfhpkimmmbaaGreatDoorHeadGet
import Derived.Lib.SmallJoins
import Derived.Lib.Builder
namespace Go.Proofs
open Go.RowKit
theorem Tryz.Builder_Write (B b : Nat) (bs : List Value) (s : ByteArray) (w : World) (h : Lib.IsBuilder 131 5 B b bs w) (hlen : bs.length + s.size ≤ 140737488355328) (hBw : B ≤ w.heap.size) :
    Calls Tryz.prog 95 #[.pointer (some ⟨b, 0, none⟩), .string s] w fun e w' => e = .returned (.tuple #[.int .i64 s.size, .nilIface]) ∧ (Lib.BuilderAt 131 5 B b (.pointer (some ⟨b, 0, none⟩)) (bs ++ Lib.strCells s) w' ∧ Below B w w') := Any.Builder_WriteString { Tryz.lays156 with } Tryz.Builder_Extra_156 B b bs s w h hlen hBw
end Go.Proofs
namespace Go.Proofs.YtohpfhpkimmmbaaGreatDoor
open Go.RowKit Go.Proofs.Aid Go.Proofs.Hd Go.Proofs.Sq

theorem isBuilder_alloc {T e : TypeId} {B b : Nat} {bs : List Value} {w : World} (h : Lib.IsBuilder T e B b bs w) (o : Obj) : Lib.IsBuilder T e B b bs (w.alloc o) := by
  have key : ∀ p, Lib.BuilderAt T e B b p bs w → Lib.BuilderAt T e B b p bs (w.alloc o) := by
    rintro p ⟨h1, v, h2, h3, h4⟩
    exact ⟨h1, v, (Below.heap_alloc _ _ _ (Array.getElem?_eq_some_iff.1 h2).1).trans h2, h3.alloc o, h4⟩
  rcases h with h | h
  · exact Or.inl (key _ h)
  · exact Or.inr (key _ h)
theorem cat_list (a b : ByteArray) : (a ++ b).data.toList = a.data.toList ++ b.data.toList := by rw [Joins.data_append]
theorem cat_size (a b : ByteArray) : (a ++ b).size = a.size + b.size := by rw [Lib.size_eq, cat_list, List.length_append, ← Lib.size_eq, ← Lib.size_eq]
def lines : List Hd.Fd → Tx
  | [] => []
  | f :: r => lineOf f ++ 13 :: 10 :: lines r
theorem printed_lines : ∀ (l : List Hd.Fd), printed l = lines l ++ [13, 10]
  | [] => rfl
  | f :: r => by rw [printed, lines, printed_lines r]; simp
set_option maxHeartbeats 1000000 in
set_option maxRecDepth 100000 in
theorem print_is (v : Value) (L : List Fb) (w : World) (h : Fg w v L) (hL : L.length ≤ 100) (hsh : Short L) :
    Calls Tryz.prog 43 #[v] w fun e w' => e = .returned (.string ⟨(printed (L.map tx)).toArray⟩) ∧ Below w.heap.size w w' := by
  obtain ⟨T, hT⟩ : ∃ T, lines (L.map tx) = T := ⟨_, rfl⟩
  have HT : Hid (lines (L.map tx) = T) := hT
  rw [printed_lines, hT]
  have HSH : Hid (Short L) := hsh
  have K0 : Hid (∀ W, Below w.heap.size w W → Fg W v L) := fun W hW => h.below hW (Nat.le_refl _)
  obtain ⟨a, c, rfl, _⟩ := h
  obtain ⟨N, hN⟩ : ∃ N, L.length = N := ⟨_, rfl⟩
  have HN : Hid (L.length = N) := hN
  rw [hN] at hL K0 ⊢
  clear hsh hT hN
  have hB0 := Lib.fresh_isBuilder 131 5 w
  go_enter Tryz.func43, Tryz.ntmps43
  go_wp2_with fail
  go_loopw [8] (fun i wr => ∃ (k : Nat) (out : Tx), i = .int .i64 (k : Int) ∧ k ≤ N ∧ out.length ≤ k * 2000010 ∧ Lib.IsBuilder 131 5 w.heap.size w.heap.size (Lib.byteCells out) wr ∧ Hid (out ++ lines ((L.drop k).map tx) = T) ∧ Below w.heap.size w wr) (fun i _ => N - (intOf i).toNat)
  case atStart => exact ⟨0, [], rfl, by omega, by simp, hB0, by show _ = _; simpa using HT.out, (Below.refl _ _).alloc (Nat.le_refl _) _⟩
  case round =>
    obtain ⟨k, out, rfl, hk, hol, hbd, HR, hbW⟩ := hrel
    by_cases hlt : k < N
    · have hkL : k < L.length := by rw [HN.out]; exact hlt
      obtain ⟨a', c', hv, hd⟩ := K0.out wr hbW
      injection hv with hv1 hv2 hv3
      subst hv1
      rcases hd with h0 | ⟨b, o, rfl, hat⟩
      · rw [h0] at hkL; simp at hkL
      obtain ⟨c1, c2⟩ := hat k _ (List.getElem?_eq_getElem hkL)
      have hsx := HSH.out _ (List.getElem_mem hkL)
      have hRR := HR.out
      rw [List.drop_eq_getElem_cons hkL, List.map_cons, lines] at hRR
      obtain ⟨⟨x, y⟩, hxy⟩ : ∃ p, L[k] = p := ⟨_, rfl⟩
      rw [hxy] at c1 c2 hsx hRR
      simp only at c1 c2 hsx
      have hh2 := heap_alloc_new wr (.cells #[.string x, .string y] 119)
      have hb2 : Below w.heap.size w (wr.alloc (.cells #[.string x, .string y] 119)) := hbW.alloc hbW.size _
      have d1 : (wr.alloc (.cells #[.string x, .string y] 119)).cell? ⟨wr.heap.size, 0, none⟩ = some (.string x) := rd_cell hh2 rfl
      have d2 : (wr.alloc (.cells #[.string x, .string y] 119)).cell? ⟨wr.heap.size, 1, none⟩ = some (.string y) := rd_cell hh2 rfl
      have hbd2 := isBuilder_alloc hbd (.cells #[.string x, .string y] 119)
      have s1 : x.size + (⟨#[58, 32]⟩ : ByteArray).size ≤ 100000000 := by show x.size + 2 ≤ _; omega
      have s2 : (x ++ ⟨#[58, 32]⟩ : ByteArray).size + y.size ≤ 100000000 := by rw [cat_size]; show x.size + 2 + y.size ≤ _; omega
      have s3 : (x ++ ⟨#[58, 32]⟩ ++ y : ByteArray).size + (⟨#[13, 10]⟩ : ByteArray).size ≤ 100000000 := by rw [cat_size, cat_size]; show x.size + 2 + y.size + 2 ≤ _; omega
      have hlz : (x ++ ⟨#[58, 32]⟩ ++ y ++ ⟨#[13, 10]⟩ : ByteArray).size ≤ 2000004 := by rw [cat_size, cat_size, cat_size]; show x.size + 2 + y.size + 2 ≤ _; omega
      have hll : (x ++ ⟨#[58, 32]⟩ ++ y ++ ⟨#[13, 10]⟩ : ByteArray).data.toList = lineOf (tx (x, y)) ++ [13, 10] := by
        rw [cat_list, cat_list, cat_list]
        simp [lineOf, tx]
      have cW := Tryz.Builder_Write w.heap.size w.heap.size (Lib.byteCells out) (x ++ ⟨#[58, 32]⟩ ++ y ++ ⟨#[13, 10]⟩) (wr.alloc (.cells #[.string x, .string y] 119)) hbd2 (by rw [show (Lib.byteCells out).length = out.length by simp [Lib.byteCells]]; have : k * 2000010 ≤ 100 * 2000010 := Nat.mul_le_mul_right _ (by omega); omega) hb2.size
      have HRR : Hid ((out ++ (x ++ ⟨#[58, 32]⟩ ++ y ++ ⟨#[13, 10]⟩ : ByteArray).data.toList) ++ lines ((L.drop (k + 1)).map tx) = T) := by
        show _ = _
        rw [hll, ← hRR]
        simp
      clear hat hv2 hv3 hxy HR hh2 hbd hRR hll
      go_wp2_with fail
      generalize (x ++ ⟨#[58, 32]⟩ ++ y ++ ⟨#[13, 10]⟩ : ByteArray) = LN at cW HRR hlz ⊢
      refine cW.mono ?_
      clear cW
      rintro e w3 ⟨rfl, hbd3, hb3⟩
      have hb03 := hb2.trans hb3
      have hbd4 : Lib.IsBuilder 131 5 w.heap.size w.heap.size (Lib.byteCells (out ++ LN.data.toList)) w3 := by
        refine Or.inr ?_
        have e1 : Lib.byteCells (out ++ LN.data.toList) = Lib.byteCells out ++ Lib.strCells LN := by simp [Lib.byteCells, Lib.strCells]
        rw [e1]
        exact hbd3
      clear hbd3
      go_wp2_with fail
      go_roundw
      case rel => exact ⟨k + 1, out ++ LN.data.toList, by go_num, by omega, by rw [List.length_append, ← Lib.size_eq, Nat.add_mul]; omega, hbd4, HRR.out, hb03⟩
      case measure => simp [intOf]; omega
    · have HE : Hid (out = T) := by
        have := HR.out
        rw [List.drop_eq_nil_of_le (by rw [HN.out]; omega)] at this
        show out = T
        simpa [lines] using this
      have cW := Tryz.Builder_Write w.heap.size w.heap.size (Lib.byteCells out) ⟨#[13, 10]⟩ wr hbd (by rw [show (Lib.byteCells out).length = out.length by simp [Lib.byteCells]]; have : k * 2000010 ≤ 100 * 2000010 := Nat.mul_le_mul_right _ (by omega); show out.length + 2 ≤ _; omega) hbW.size
      clear HR hbd
      go_wp2_with fail
      refine cW.mono ?_
      clear cW
      rintro e w3 ⟨rfl, hbd3, hb3⟩
      have hbd4 : Lib.IsBuilder 131 5 w.heap.size w.heap.size (Lib.byteCells (out ++ [13, 10])) w3 := by
        refine Or.inr ?_
        have e1 : Lib.byteCells (out ++ [13, 10]) = Lib.byteCells out ++ Lib.strCells ⟨#[13, 10]⟩ := by simp [Lib.byteCells, Lib.strCells]
        rw [e1]
        exact hbd3
      have cS := Tryz.Builder_String w.heap.size w.heap.size (out ++ [13, 10]) w3 hbd4 (by simp)
      rw [HE.out] at cS
      clear hbd3 hbd4
      go_wp2_with fail
      refine cS.mono ?_
      rintro e w4 ⟨rfl, hb4⟩
      go_wp2_with fail
      go_ret
      exact ⟨rfl, (hbW.trans hb3).trans hb4⟩
end Go.Proofs.YtohpfhpkimmmbaaGreatDoor
