/-
  Where parts lie, line by line as the document's answer goes about it; how parts are written. Of no program.
-/
import Derived.Test.YtgbbkdflnlagaaaDoorMimeBack
namespace Go.Proofs.Mm
open Go.Proofs.Sq Go.Proofs.Hd

theorem rtrim_nil : rtrim [] = [] := rfl
theorem spans_end (n : Nat) (bd : Tx) (beg : Option Nat) : spans n (45 :: 45 :: bd) n beg (pieces []) = spans n (45 :: 45 :: bd) n beg [] := by
  have h : spans n (45 :: 45 :: bd) n beg [[]] = spans n (45 :: 45 :: bd) (min (n + ([] : Tx).length + 2) n) beg [] := by
    conv => lhs; rw [spans]
    rw [rtrim_nil, if_neg (by simp), if_neg (by simp)]
  exact h.trans (by rw [show min (n + ([] : Tx).length + 2) n = n by simp])
/-- The line at a place, and where the next one begins. -/
def lineAt (rest : Tx) : Tx := if Lib.index rest [13, 10] = -1 then rest else rest.take (Lib.index rest [13, 10]).toNat
def nextAt (n place : Nat) (rest : Tx) : Nat := if Lib.index rest [13, 10] = -1 then n else place + (Lib.index rest [13, 10]).toNat + 2
theorem nextAt_le {body : Tx} {place : Nat} (h : place < body.length) : place < nextAt body.length place (body.drop place) ∧ nextAt body.length place (body.drop place) ≤ body.length := by
  unfold nextAt
  have hg := Lib.index_ge (body.drop place) [13, 10]
  split
  · exact ⟨h, Nat.le_refl _⟩
  · have hr := Lib.index_room (body.drop place) [13, 10] (by omega)
    rw [List.length_drop, show ([13, 10] : Tx).length = 2 from rfl] at hr
    omega
theorem spans_at {body bd : Tx} {place : Nat} (beg : Option Nat) (h : place < body.length) : spans body.length (45 :: 45 :: bd) place beg (pieces (body.drop place)) =
    if rtrim (lineAt (body.drop place)) = 45 :: 45 :: bd then close beg (place - 2) ++ spans body.length (45 :: 45 :: bd) (nextAt body.length place (body.drop place)) (some (nextAt body.length place (body.drop place))) (pieces (body.drop (nextAt body.length place (body.drop place))))
    else if rtrim (lineAt (body.drop place)) = (45 :: 45 :: bd) ++ [45, 45] then close beg (place - 2)
    else spans body.length (45 :: 45 :: bd) (nextAt body.length place (body.drop place)) beg (pieces (body.drop (nextAt body.length place (body.drop place)))) := by
  unfold lineAt nextAt
  have hg := Lib.index_ge (body.drop place) [13, 10]
  rw [pieces_index (body.drop place)]
  by_cases hi : Lib.index (body.drop place) [13, 10] = -1
  · rw [if_pos hi, if_pos hi, if_pos hi, spans, List.length_drop, show min (place + (body.length - place) + 2) body.length = body.length by omega, List.drop_eq_nil_of_le (Nat.le_refl body.length), spans_end, spans_end]
  · have hr := Lib.index_room (body.drop place) [13, 10] (by omega)
    rw [List.length_drop, show ([13, 10] : Tx).length = 2 from rfl] at hr
    rw [if_neg hi, if_neg hi, if_neg hi, spans, List.length_take, List.length_drop, List.drop_drop]
    generalize (Lib.index (body.drop place) [13, 10]) = z at hi hr hg
    obtain ⟨q, rfl⟩ : ∃ q : Nat, z = q := ⟨z.toNat, by omega⟩
    rw [Int.toNat_natCast, show min (place + min q (body.length - place) + 2) body.length = place + q + 2 by omega, show place + (q + 2) = place + q + 2 by omega]
mutual
/-- How parts are written. -/
def printP : Pt → Tx
  | .mk t _ lo hi n ps => if ps.isEmpty then 40 :: 34 :: (t ++ 34 :: 32 :: (Lib.itoa (n : Int) ++ 32 :: (Lib.itoa ((hi : Int) - (lo : Int)) ++ [41]))) else 40 :: (printPs ps ++ 34 :: (t ++ [34, 41]))
def printPs : List Pt → Tx
  | [] => []
  | p :: ps => printP p ++ 32 :: printPs ps
end
theorem printPs_append (a b : List Pt) : printPs (a ++ b) = printPs a ++ printPs b := by
  induction a with
  | nil => rfl
  | cons p a ih => rw [List.cons_append, printPs, printPs, ih]; simp
end Go.Proofs.Mm
