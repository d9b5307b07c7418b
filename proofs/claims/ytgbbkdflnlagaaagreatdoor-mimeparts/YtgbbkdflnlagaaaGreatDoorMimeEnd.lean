/-
  What mime.inside's function that ends a part does; spans in memory.
-/
import Derived.Test.YtgbbkdflnlagaaaGreatDoorHeadReader
import Derived.Test.YtgbbkdflnlagaaaGreatDoorHeadJoin
import Derived.Test.YtgbbkdflnlagaaaGreatDoorHeadSeq
import Derived.Test.YtgbbkdflnlagaaaGreatDoorMimeSpec
namespace Go.Proofs.YtgbbkdflnlagaaaGreatDoor
open Go.RowKit Go.Proofs.Aid Go.Proofs.Hd Go.Proofs.Sq Go.Proofs.Mm

def cellsS (l : List (Nat × Nat)) : List Value := l.flatMap fun s => [.int .i64 (s.1 : Int), .int .i64 (s.2 : Int)]
theorem cellsS_append (a b : List (Nat × Nat)) : cellsS (a ++ b) = cellsS a ++ cellsS b := by simp [cellsS]
theorem cellsS_length (l : List (Nat × Nat)) : (cellsS l).length = l.length * 2 := by
  induction l with
  | nil => rfl
  | cons f l ih => rw [show cellsS (f :: l) = [.int .i64 (f.1 : Int), .int .i64 (f.2 : Int)] ++ cellsS l from rfl, List.length_append, ih]; simp; omega
theorem cellsS_last (P : List (Nat × Nat)) (a b : Nat) : (cellsS (P ++ [(a, b)]))[P.length * 2]? = some (.int .i64 (a : Int)) ∧ (cellsS (P ++ [(a, b)]))[P.length * 2 + 1]? = some (.int .i64 (b : Int)) := by
  rw [cellsS_append, List.getElem?_append_right (by rw [cellsS_length]; omega), List.getElem?_append_right (by rw [cellsS_length]; omega), cellsS_length]
  rw [show P.length * 2 + 1 - P.length * 2 = 1 by omega, Nat.sub_self]
  exact ⟨rfl, rfl⟩
theorem cellsS_setlast (P : List (Nat × Nat)) (a b c : Nat) : (cellsS (P ++ [(a, b)])).set (P.length * 2 + 1) (.int .i64 (c : Int)) = cellsS (P ++ [(a, c)]) := by
  rw [cellsS_append, cellsS_append, List.set_append_right _ _ (by rw [cellsS_length]; omega), cellsS_length]
  rw [show P.length * 2 + 1 - P.length * 2 = 1 by omega]
  rfl
theorem end_nil (ob : Nat) (z : Int) (a : Option Addr) (c : Nat) (w : World) (hb : Boxed w ob 134 (.slice a 0 c)) :
    Calls Tryz.prog 104 #[.int .i64 z, .pointer (some ⟨ob, 0, none⟩)] w fun e w' => e = .returned (.tuple #[]) ∧ w' = w := by
  have c0 := hb.cell
  clear hb
  go_enter Tryz.func104, Tryz.ntmps104
  go_wp2_with fail
  go_end0
  exact ⟨rfl, rfl⟩
set_option maxHeartbeats 2000000 in
set_option maxRecDepth 100000 in
theorem end_some (base ob : Nat) (P : List (Nat × Nat)) (s0 s1 : Nat) (z : Int) (g c : Nat) (w : World) (hb : Boxed w ob 134 (.slice (some ⟨g, 0, none⟩) (P.length + 1) c)) (hrow : w.ownsRow base 84 2 (.slice (some ⟨g, 0, none⟩) (P.length + 1) c) (P.length + 1) (cellsS (P ++ [(s0, s1)]))) (hP : P.length ≤ 2000000) :
    Calls Tryz.prog 104 #[.int .i64 z, .pointer (some ⟨ob, 0, none⟩)] w fun e w' => e = .returned (.tuple #[]) ∧ ∃ q, w' = (w.drewN q).setCell ⟨g, P.length * 2 + 1, none⟩ (.int .i64 ((max s0 z.toNat : Nat) : Int)) := by
  have c0 := hb.cell
  have hcl := cellsS_last P s0 s1
  have d0 := hrow.cellAt (P.length * 2) (by omega)
  have d1 := hrow.cellAt (P.length * 2 + 1) (by omega)
  have f1 := hrow.frozenAt (P.length * 2 + 1)
  rw [hcl.1] at d0
  rw [hcl.2] at d1
  obtain ⟨K, hK⟩ : ∃ K, P.length = K := ⟨_, rfl⟩
  rw [hK] at c0 d0 d1 f1 hP ⊢
  have hwr : IntKind.i64.wrap (K : Int) = (K : Int) := by rw [IntKind.wrap_i64]; omega
  have hK1 : (K : Int) < (K : Int) + 1 := by omega
  have hk0 : (0 : Int) < (K : Int) + 1 := by omega
  obtain ⟨M, hM⟩ : ∃ M : Nat, max s0 z.toNat = M := ⟨_, rfl⟩
  have hmx : max (s0 : Int) z = (M : Int) := by rw [← hM]; omega
  rw [hM]
  clear hb hrow hcl hK
  go_enter Tryz.func104, Tryz.ntmps104
  go_wp2_with fail
  go_region
  all_goals
    go_wp2_with fail
    go_end0
    exact ⟨rfl, _, rfl⟩
end Go.Proofs.YtgbbkdflnlagaaaGreatDoor
