/-
  ArchiveChain returns true and leaves its argument as it was, for every list of days of deeds; the two tables of package math/bits, that of internal/strconv, the two of package unicode/utf8, strconv.ErrRange, strconv.ErrSyntax and the array of the system's flags lie as their initialisers lay them.
-/
import Derived.Test.YtdmplfflmdanlaaGreatDoorMArchiveRow
import Derived.Test.YtdmplfflmdanlaaGreatDoorCards
import Derived.Test.YtdmplfflmdanlaaGreatDoorTie
namespace Go.Proofs.YtdmplfflmdanlaaGreatDoor
open Go.ChangeMaps (open_string shut_string)
open Go.Shelf Go.ChangeShapes Go.WideShapes Go.ChangeAt Go.RowKit Go.Lib Go.Proofs.Law

theorem ac8_l1 : (Rows.archiveChainRow.inPlace == Tryz.prog.inPlace 4) = true := by kernel_rfl
theorem ac8_l2 : (Rows.archiveChainRow.unfollowed == Tryz.prog.unfollowed 4) = true := by kernel_rfl
theorem ac8_l3 : (Rows.archiveChainRow.recurses == Tryz.prog.recurses 4) = true := by kernel_rfl
theorem ac8_l4 : (Rows.archiveChainRow.named == Tryz.prog.varsNamed 4) = true := by kernel_rfl
theorem ac8_closed : joinedFacts Tryz.prog 4 Tryz.f4 (OpenSpec.ofChange Rows.archiveChainSpec).bare Rows.archiveChainRow = true := by
  unfold joinedFacts
  rw [ac8_l1, ac8_l2, ac8_l3, ac8_l4]
  kernel_rfl
theorem ac8_said : Rows.ArchiveChainSaid :=
  OpenClaim.holds_of_cond 4 Tryz.f4 rfl rfl rfl rfl rfl rfl rfl ⟨rfl, rfl, rfl, rfl, rfl⟩ rfl rfl rfl rfl rfl (by kernel_rfl) Tryz.func4 ac8_closed
    (of_decide_eq_true (by kernel_rfl)) (by unfold Func.isWrapper; rw [if_neg (of_decide_eq_false (by kernel_rfl))]; exact ⟨rfl, rfl⟩)
    (fun os started H enc _ F => by rw [OpenClaim.pre_eq_preRow]; exact ac8_lifted os started H enc F)

theorem ac8_plain (f : FuncId) (fn : Func) (hf : Tryz.pinned.checked.prog.funcNamed "letterbox/letterboxkeep.ArchiveChain" = some f) (hfn : Tryz.pinned.checked.prog.funcs[f]? = some fn) :
    true = Tryz.pinned.checked.prog.looks [] ∧ ∀ (j : Nat) t, fn.params[j]? = some t → Tryz.pinned.checked.prog.wantsStandIn t = false := by
  obtain rfl : f = 4 := Option.some.inj ((show Tryz.prog.funcNamed "letterbox/letterboxkeep.ArchiveChain" = some 4 by kernel_rfl).symm.trans hf) |>.symm
  obtain rfl : fn = Tryz.f4 := (Option.some.inj (Tryz.func4.symm.trans hfn)).symm
  refine ⟨by kernel_rfl, fun j t ht => ?_⟩
  have h : (Tryz.f4.params.toList.all fun t => !Tryz.prog.wantsStandIn t) = true := by kernel_rfl
  have := List.all_eq_true.1 h t (by simpa using Array.mem_of_getElem? ht)
  exact (show Tryz.prog.wantsStandIn t = false by simpa using this)

theorem archiveChain_card : Rows.ArchiveChainCardSaid :=
  Claim7.holds_tied_plain_at .later [] _ _ _ _ ac8_said (fun _ h => by cases h) (by kernel_rfl) (fun _ h => by cases h) archiveChain_row_tie rfl ⟨rfl, rfl⟩ (by kernel_rfl) rfl ac8_plain (by kernel_rfl)
end Go.Proofs.YtdmplfflmdanlaaGreatDoor
