/-
  SearchFinds returns true and leaves its arguments as they were, for every text, every letter and every three numbers; the tables of packages math/bits, internal/strconv and unicode/utf8, errors.errorType, strconv.ErrRange, strconv.ErrSyntax, the array of the system's flags and letterboxref.Fine lie as their initialisers lay them.
-/
import Derived.Test.YtogigccbnohjjaaGreatDoorMSfRow
import Derived.Test.YtogigccbnohjjaaGreatDoorCards
import Derived.Test.YtogigccbnohjjaaGreatDoorTie
namespace Go.Proofs.YtogigccbnohjjaaGreatDoor
open Go.ChangeMaps (open_string shut_string)
open Go.Shelf Go.ChangeShapes Go.WideShapes Go.ChangeAt Go.RowKit Go.Lib Go.Proofs.Sq Go.Proofs.Law Go.Proofs.Fl
theorem sf_l1 : (Rows.searchFindsRow.inPlace == Tryz.prog.inPlace 3) = true := by kernel_rfl
theorem sf_l2 : (Rows.searchFindsRow.unfollowed == Tryz.prog.unfollowed 3) = true := by kernel_rfl
theorem sf_l3 : (Rows.searchFindsRow.recurses == Tryz.prog.recurses 3) = true := by kernel_rfl
theorem sf_l4 : (Rows.searchFindsRow.named == Tryz.prog.varsNamed 3) = true := by kernel_rfl
theorem sf_closed : joinedFacts Tryz.prog 3 Tryz.f3 (OpenSpec.ofChange Rows.searchFindsSpec).bare Rows.searchFindsRow = true := by
 unfold joinedFacts
 rw [sf_l1, sf_l2, sf_l3, sf_l4]
 kernel_rfl
theorem sf_said : Rows.SearchFindsSaid :=
 OpenClaim.holds_of_cond 3 Tryz.f3 rfl rfl rfl rfl rfl rfl rfl ⟨rfl, rfl, rfl, rfl, rfl⟩ rfl rfl rfl rfl rfl (by kernel_rfl) Tryz.func3 sf_closed
  (of_decide_eq_true (by kernel_rfl)) (by unfold Func.isWrapper; rw [if_neg (of_decide_eq_false (by kernel_rfl))]; exact ⟨rfl, rfl⟩)
  (fun os started H enc _ F => by rw [OpenClaim.pre_eq_preRow]; exact sf_lifted os started H enc F)
theorem sf_plain (f : FuncId) (fn : Func) (hf : Tryz.pinned.checked.prog.funcNamed "letterbox/letterboxlaw.SearchFinds" = some f) (hfn : Tryz.pinned.checked.prog.funcs[f]? = some fn) :
  true = Tryz.pinned.checked.prog.looks [] ∧ ∀ (j : Nat) t, fn.params[j]? = some t → Tryz.pinned.checked.prog.wantsStandIn t = false := by
 obtain rfl : f = 3 := Option.some.inj ((show Tryz.prog.funcNamed "letterbox/letterboxlaw.SearchFinds" = some 3 by kernel_rfl).symm.trans hf) |>.symm
 obtain rfl : fn = Tryz.f3 := (Option.some.inj (Tryz.func3.symm.trans hfn)).symm
 refine ⟨by kernel_rfl, fun j t ht => ?_⟩
 have h : (Tryz.f3.params.toList.all fun t => !Tryz.prog.wantsStandIn t) = true := by kernel_rfl
 have := List.all_eq_true.1 h t (by simpa using Array.mem_of_getElem? ht)
 exact (show Tryz.prog.wantsStandIn t = false by simpa using this)
theorem searchFinds_card : Rows.SearchFindsCardSaid :=
 Claim7.holds_tied_plain_at .later [] _ _ _ _ sf_said (fun _ h => by cases h) (by kernel_rfl) (fun _ h => by cases h) searchFinds_row_tie rfl ⟨rfl, rfl⟩ (by kernel_rfl) rfl sf_plain (by kernel_rfl)
end Go.Proofs.YtogigccbnohjjaaGreatDoor
