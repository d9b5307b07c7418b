/-
  What is put together of texts, piece by piece; what a number leads to in it. Of no program.
-/
import Derived.Test.YtgbbkdflnlagaaaDoorMimeTies
import Derived.ProofKit
namespace Go.Proofs.Mm
open Go.Proofs.Sq Go.Proofs.Hd

def partedT : Tx := [67, 111, 110, 116, 101, 110, 116, 45, 84, 121, 112, 101, 58, 32, 109, 117, 108, 116, 105, 112, 97, 114, 116, 47, 109, 105, 120, 101, 100, 59, 32, 98, 111, 117, 110, 100, 97, 114, 121, 61, 98, 13, 10, 13, 10, 45, 45, 98, 13, 10, 13, 10, 111, 110, 101, 13, 10, 45, 45, 98, 13, 10, 13, 10, 116, 119, 111, 13, 10, 45, 45, 98, 45, 45, 13, 10]
def mixedT : Tx := [109, 117, 108, 116, 105, 112, 97, 114, 116, 47, 109, 105, 120, 101, 100]
def partedP : Pt := .mk mixedT [98] 45 76 7 [.mk plainT [] 52 55 0 [], .mk plainT [] 64 67 0 []]
theorem parted_parse : parseP partedT = some partedP := by kernel_rfl
theorem parted_print : printP partedP = [40, 40, 34, 116, 101, 120, 116, 47, 112, 108, 97, 105, 110, 34, 32, 48, 32, 51, 41, 32, 40, 34, 116, 101, 120, 116, 47, 112, 108, 97, 105, 110, 34, 32, 48, 32, 51, 41, 32, 34, 109, 117, 108, 116, 105, 112, 97, 114, 116, 47, 109, 105, 120, 101, 100, 34, 41] := by kernel_rfl
theorem noDash_of {x : Tx} (h : Lib.contains x [45, 45] = false) : NoDash x := by
  intro a b hx
  unfold Lib.contains at h
  have h1 := of_decide_eq_false h
  have hg := Lib.index_ge x [45, 45]
  rcases Lib.index_spec x [45, 45] with ⟨_, h2⟩ | ⟨i, h2, _⟩
  · have h3 := h2 a.length (by rw [hx]; simp)
    unfold Lib.occAt at h3
    rw [hx, List.drop_left] at h3
    simp [List.isPrefixOf] at h3
  · omega
def preM : Tx := [67, 111, 110, 116, 101, 110, 116, 45, 84, 121, 112, 101, 58, 32, 109, 117, 108, 116, 105, 112, 97, 114, 116, 47, 120, 59, 32, 98, 111, 117, 110, 100, 97, 114, 121, 61, 34]
theorem headM_eq (bd : Tx) : headM bd = preM ++ bd ++ [34, 13, 10, 13, 10] := by
  unfold headM
  simp [printed, lineOf, ctName, valM, mxT, bEq, preM]
theorem bodyM_cons (bd x : Tx) (l : List Tx) : bodyM bd (x :: l) = (45 :: 45 :: bd ++ [13, 10, 13, 10] ++ x ++ [13, 10]) ++ bodyM bd l := by rw [bodyM]; simp
theorem bodyM_nil (bd : Tx) : bodyM bd [] = 45 :: 45 :: bd ++ [45, 45, 13, 10] := by rw [bodyM]; simp
theorem find_leaf {t b : Tx} {lo hi n : Nat} {ps : List Pt} {k : Nat} {q : Pt} (h : ps[k]? = some q) : findP (.mk t b lo hi n ps) [(k : Int) + 1] = some q := by
  have hk : k < ps.length := (List.getElem?_eq_some_iff.1 h).1
  rw [findP]
  rw [if_neg (by rintro ⟨h1, _⟩; rw [show (Pt.mk t b lo hi n ps).parts = ps from rfl] at h1; rw [h1] at hk; simp at hk)]
  rw [if_neg (by rw [show (Pt.mk t b lo hi n ps).parts = ps from rfl]; omega)]
  rw [show (Pt.mk t b lo hi n ps).parts = ps from rfl, show ((k : Int) + 1 - 1).toNat = k by omega, h]
  rfl
theorem find_more {t b : Tx} {lo hi n : Nat} {ps : List Pt} (h : ps ≠ []) : findP (.mk t b lo hi n ps) [(ps.length : Int) + 1] = none := by
  rw [findP]
  rw [if_neg (by rintro ⟨h1, _⟩; exact h h1)]
  rw [if_pos (by rw [show (Pt.mk t b lo hi n ps).parts = ps from rfl]; omega)]
theorem find_none (t b : Tx) (lo hi n : Nat) : findP (.mk t b lo hi n []) [1] = some (.mk t b lo hi n []) := by
  rw [findP, if_pos ⟨rfl, rfl, rfl⟩]
end Go.Proofs.Mm
