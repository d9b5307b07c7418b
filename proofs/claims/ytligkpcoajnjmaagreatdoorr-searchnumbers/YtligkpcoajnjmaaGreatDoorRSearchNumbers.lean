/-
  SearchNumbers returns true and leaves its arguments as they were, for every list of ranges, every letter and every four numbers; the tables of packages math/bits, internal/strconv and unicode/utf8, errors.errorType, strconv.ErrRange, strconv.ErrSyntax and the array of the system's flags lie as their initialisers lay them.
-/
import Derived.Test.YtligkpcoajnjmaaGreatDoorRSearchNumRow
import Derived.Test.YtligkpcoajnjmaaGreatDoorRCards
import Derived.Test.YtligkpcoajnjmaaGreatDoorRTie
import Derived.ProofKit
namespace Go.Proofs.YtligkpcoajnjmaaGreatDoorR
open Go.ChangeMaps (open_string shut_string)
open Go.Shelf Go.ChangeShapes Go.WideShapes Go.ChangeAt Go.RowKit Go.Lib Go.Proofs.Sq Go.Proofs.Law Go.Proofs.Fl

theorem sn_l1 : (Rows.searchNumbersRow.inPlace == Tryz.prog.inPlace 4) = true := by kernel_rfl
theorem sn_l2 : (Rows.searchNumbersRow.unfollowed == Tryz.prog.unfollowed 4) = true := by kernel_rfl
theorem sn_l3 : (Rows.searchNumbersRow.recurses == Tryz.prog.recurses 4) = true := by kernel_rfl
theorem sn_l4 : (Rows.searchNumbersRow.named == Tryz.prog.varsNamed 4) = true := by kernel_rfl
theorem sn_closed : joinedFacts Tryz.prog 4 Tryz.f4 (OpenSpec.ofChange Rows.searchNumbersSpec).bare Rows.searchNumbersRow = true := by
  unfold joinedFacts
  rw [sn_l1, sn_l2, sn_l3, sn_l4]
  kernel_rfl
theorem sn_said : Rows.SearchNumbersSaid :=
  OpenClaim.holds_of_cond 4 Tryz.f4 rfl rfl rfl rfl rfl rfl rfl ⟨rfl, rfl, rfl, rfl, rfl⟩ rfl rfl rfl rfl rfl (by kernel_rfl) Tryz.func4 sn_closed
    (of_decide_eq_true (by kernel_rfl)) (by unfold Func.isWrapper; rw [if_neg (of_decide_eq_false (by kernel_rfl))]; exact ⟨rfl, rfl⟩)
    (fun os started H enc _ F => by rw [OpenClaim.pre_eq_preRow]; exact sn_lifted os started H enc F)

theorem sn_plain (f : FuncId) (fn : Func) (hf : Tryz.pinned.checked.prog.funcNamed "letterbox/letterboxkeep.SearchNumbers" = some f) (hfn : Tryz.pinned.checked.prog.funcs[f]? = some fn) :
    true = Tryz.pinned.checked.prog.looks [] ∧ ∀ (j : Nat) t, fn.params[j]? = some t → Tryz.pinned.checked.prog.wantsStandIn t = false := by
  obtain rfl : f = 4 := Option.some.inj ((show Tryz.prog.funcNamed "letterbox/letterboxkeep.SearchNumbers" = some 4 by kernel_rfl).symm.trans hf) |>.symm
  obtain rfl : fn = Tryz.f4 := (Option.some.inj (Tryz.func4.symm.trans hfn)).symm
  refine ⟨by kernel_rfl, fun j t ht => ?_⟩
  have h : (Tryz.f4.params.toList.all fun t => !Tryz.prog.wantsStandIn t) = true := by kernel_rfl
  have := List.all_eq_true.1 h t (by simpa using Array.mem_of_getElem? ht)
  exact (show Tryz.prog.wantsStandIn t = false by simpa using this)

theorem searchNumbers_card : Rows.SearchNumbersCardSaid :=
  Claim7.holds_tied_plain_at .later [] _ _ _ _ sn_said (fun _ h => by cases h) (by kernel_rfl) (fun _ h => by cases h) searchNumbers_row_tie rfl ⟨rfl, rfl⟩ (by kernel_rfl) rfl sn_plain (by kernel_rfl)
end Go.Proofs.YtligkpcoajnjmaaGreatDoorR
