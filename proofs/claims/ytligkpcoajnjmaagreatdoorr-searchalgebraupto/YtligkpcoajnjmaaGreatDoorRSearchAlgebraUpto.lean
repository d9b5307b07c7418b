/-
  SearchAlgebra returns true and leaves its arguments as they were, for every two lists of parts of a command, every letter and every three numbers that are together of bulk at most 1048576; the tables of packages math/bits, internal/strconv and unicode/utf8, errors.errorType, strconv.ErrRange, strconv.ErrSyntax and the array of the system's flags lie as their initialisers lay them.
-/
import Derived.Test.YtligkpcoajnjmaaGreatDoorRSearchAlgRow
import Derived.Test.YtligkpcoajnjmaaGreatDoorRCards
import Derived.Test.YtligkpcoajnjmaaGreatDoorRTie
import Derived.ProofKit
namespace Go.Proofs.YtligkpcoajnjmaaGreatDoorR
open Go.ChangeMaps (open_string shut_string)
open Go.Shelf Go.ChangeShapes Go.WideShapes Go.ChangeAt Go.RowKit Go.Lib Go.Proofs.Sq Go.Proofs.Law Go.Proofs.Fl

theorem sa_l1 : (Rows.searchAlgebraUptoRow.inPlace == Tryz.prog.inPlace 3) = true := by kernel_rfl
theorem sa_l2 : (Rows.searchAlgebraUptoRow.unfollowed == Tryz.prog.unfollowed 3) = true := by kernel_rfl
theorem sa_l3 : (Rows.searchAlgebraUptoRow.recurses == Tryz.prog.recurses 3) = true := by kernel_rfl
theorem sa_l4 : (Rows.searchAlgebraUptoRow.named == Tryz.prog.varsNamed 3) = true := by kernel_rfl
theorem sa_closed : joinedFacts Tryz.prog 3 Tryz.f3 (Rows.OpenSpec.upto Rows.searchAlgebraSpec).bare Rows.searchAlgebraUptoRow = true := by
  unfold joinedFacts
  rw [sa_l1, sa_l2, sa_l3, sa_l4]
  kernel_rfl
theorem sa_said : Rows.SearchAlgebraUptoSaid :=
  OpenClaim.holds_of_cond 3 Tryz.f3 rfl rfl rfl rfl rfl rfl rfl ⟨rfl, rfl, rfl, rfl, rfl⟩ rfl rfl rfl rfl rfl (by kernel_rfl) Tryz.func3 sa_closed
    (of_decide_eq_true (by kernel_rfl)) (by unfold Func.isWrapper; rw [if_neg (of_decide_eq_false (by kernel_rfl))]; exact ⟨rfl, rfl⟩)
    (fun os started H enc _ F => by rw [OpenClaim.pre_eq_preRow]; exact sa_lifted os started H enc F)

theorem sa_plain (f : FuncId) (fn : Func) (hf : Tryz.pinned.checked.prog.funcNamed "letterbox/letterboxkeep.SearchAlgebra" = some f) (hfn : Tryz.pinned.checked.prog.funcs[f]? = some fn) :
    true = Tryz.pinned.checked.prog.looks [] ∧ ∀ (j : Nat) t, fn.params[j]? = some t → Tryz.pinned.checked.prog.wantsStandIn t = false := by
  obtain rfl : f = 3 := Option.some.inj ((show Tryz.prog.funcNamed "letterbox/letterboxkeep.SearchAlgebra" = some 3 by kernel_rfl).symm.trans hf) |>.symm
  obtain rfl : fn = Tryz.f3 := (Option.some.inj (Tryz.func3.symm.trans hfn)).symm
  refine ⟨by kernel_rfl, fun j t ht => ?_⟩
  have h : (Tryz.f3.params.toList.all fun t => !Tryz.prog.wantsStandIn t) = true := by kernel_rfl
  have := List.all_eq_true.1 h t (by simpa using Array.mem_of_getElem? ht)
  exact (show Tryz.prog.wantsStandIn t = false by simpa using this)

theorem searchAlgebraUpto_card : Rows.SearchAlgebraUptoCardSaid :=
  Claim7.holds_tied_plain_at .later [] _ _ _ _ sa_said (fun _ h => by cases h) (by kernel_rfl) (fun _ h => by cases h) searchAlgebraUpto_row_tie rfl ⟨rfl, rfl⟩ (by kernel_rfl) rfl sa_plain (by kernel_rfl)
end Go.Proofs.YtligkpcoajnjmaaGreatDoorR
