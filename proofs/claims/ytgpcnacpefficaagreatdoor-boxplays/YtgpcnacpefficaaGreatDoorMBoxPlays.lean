/-
  BoxPlays returns true and leaves its arguments as they were, for every two numbers, every list of letters and every list of deeds; the array of the system's flags and errors.errorType lie as their initialisers lay them.
-/
import Derived.Test.YtgpcnacpefficaaGreatDoorMPlWalk
import Derived.Test.YtgpcnacpefficaaGreatDoorBpLawLetter
import Derived.Test.YtgpcnacpefficaaGreatDoorLaw
import Derived.Test.YtgpcnacpefficaaGreatDoorCards
import Derived.Test.YtgpcnacpefficaaGreatDoorTie
import Derived.Lib.LaidIn
import Derived.LaidHandle
import Derived.LaidLaws
import Derived.Deep.DeepHandedRow
import Derived.Deep.DeepWitnessRowRef
import Derived.ProofKit
namespace Go.Proofs.YtgpcnacpefficaaGreatDoor
open Go.Shelf Go.ChangeShapes Go.WideShapes Go.ChangeAt Go.RowKit Go.Lib Go.Proofs.Fl Go.Proofs.Law

theorem bp_own : ownKnob Tryz.prog.godebug = none := by kernel_rfl
theorem bp_laidOut : laidOutB Tryz.prog = true := by kernel_rfl
theorem bp_sys_eq : Rows.laid_letterbox_flags_system (H := Unit) = .agg (five.map fun s => .lit (.string s)) := by kernel_rfl
theorem Tryz.et : Tryz.prog.globalNamed "errors.errorType" = some 1 := by kernel_rfl
theorem Tryz.rt : (Tryz.prog.cutTypes.find? (·.1 == "internal/reflectlite.rtype")).map (·.2) = some 185 := by kernel_rfl
theorem Tryz.oneRow : ((List.range 229).filter fun t => Tryz.prog.rowNamed t [101, 114, 114, 111, 114]) = [68] := by kernel_rfl
theorem Tryz.typesSize : Tryz.prog.types.size = 229 := by kernel_rfl
theorem bp_parts {W : World} (h : laidMetH Tryz.prog Rows.boxPlaysRow.laid W) : laidMet Tryz.prog [("letterbox/flags.system", Rows.laid_letterbox_flags_system)] W ∧ handlesMet Tryz.prog [("errors.errorType", Rows.laid_errors_errorType)] W := h
theorem bp_err {W : World} (h : handlesMet Tryz.prog [("errors.errorType", Rows.laid_errors_errorType)] W) : ErrType W := by
  obtain ⟨name, u, ty, e1, e2, e3, e4, e5⟩ := h _ (List.mem_singleton.2 rfl)
  have en : name = [101, 114, 114, 111, 114] := (Option.some.inj e1).symm
  subst en
  obtain rfl := Option.some.inj (Tryz.rt.symm.trans e2)
  have hm : ty ∈ (List.range 229).filter fun t => Tryz.prog.rowNamed t [101, 114, 114, 111, 114] := List.mem_filter.2 ⟨List.mem_range.2 (by rw [← Tryz.typesSize]; exact e3), e4⟩
  rw [Tryz.oneRow] at hm
  obtain rfl := List.mem_singleton.1 hm
  have hh : typeHandle Tryz.prog 68 = .pointer (some ⟨2, 68, none⟩) := by kernel_rfl
  rw [hh] at e5
  show W.cell? ⟨1, 0, none⟩ = some (.iface 185 (.agg #[.pointer (some ⟨2, 68, none⟩)]))
  simpa using World.var?_cell Tryz.et e5 0
theorem bp_sys {W : World} (h : laidMet Tryz.prog [("letterbox/flags.system", Rows.laid_letterbox_flags_system)] W) : SysAt W := by
  have hr : Lib.VarReads Tryz.prog W "letterbox/flags.system" (.agg (five.map fun s => .lit (.string s))) := by
    rw [← bp_sys_eq]
    exact Lib.laidMet.reads h (.head _)
  have ht := Law.texts_of_reads (g := 0) (t := 115) (e := 9) (n := 5) (by kernel_rfl) (by kernel_rfl) (by kernel_rfl) (by kernel_rfl) (by kernel_rfl) (by kernel_rfl) hr
  intro j hj
  have hl : j < five.length := hj
  have := ht j _ (List.getElem?_eq_getElem hl)
  rw [this]
  unfold sysB
  rw [List.getD_eq_getElem?_getD, List.getElem?_eq_getElem hl]
  rfl
/-- The world in which errors.errorType is laid. -/
def layE (w : World) : World := { w with heap := w.heap.modify 1 fun | .cells _ t frozen => .cells #[.iface 185 (.agg #[.pointer (some ⟨2, 68, none⟩)])] t frozen | o => o }
theorem bp_laid_met (os : Os) (args : Array Value) : laidMetH Tryz.prog Rows.boxPlaysRow.laid ((layE (lay (World.holding Tryz.prog os ⟨#[], #[], []⟩) 0 Rows.laid_letterbox_flags_system)).forCall (fun _ _ => 0) ⟨#[], args, []⟩).memory :=
  laidMetH_of_parts (LaidIn.of_run (l := [("letterbox/flags.system", Rows.laid_letterbox_flags_system)]) [0] 8 (by kernel_rfl) (by kernel_rfl) (by kernel_rfl) (by kernel_rfl)).met (by kernel_rfl)

theorem bp_witness (os : Os) {H : Type} (enc : TypeId × Value → H) :
    (OpenSpec.ofChange Rows.boxPlaysSpec).preRow enc Tryz.prog Tryz.f3 Rows.boxPlaysRow.domain false Rows.boxPlaysRow.laid ((layE (lay (World.holding Tryz.prog os ⟨#[], #[], []⟩) 0 Rows.laid_letterbox_flags_system)).forCall (fun _ _ => 0) ⟨#[], #[.int .i64 0, .int .i64 0, .slice none 0 0, .slice none 0 0], []⟩).memory #[.int .i64 0, .int .i64 0, .slice none 0 0, .slice none 0 0] := by
  have hw : (DataW.whole enc Tryz.prog ((layE (lay (World.holding Tryz.prog os ⟨#[], #[], []⟩) 0 Rows.laid_letterbox_flags_system)).forCall (fun _ _ => 0) ⟨#[], #[.int .i64 0, .int .i64 0, .slice none 0 0, .slice none 0 0], []⟩).memory Tryz.f3.params.toList Rows.boxPlaysSpec.vars false (#[.int .i64 0, .int .i64 0, .slice none 0 0, .slice none 0 0] : Array Value).toList 8).map (fun x => (x.1, x.2.1)) =
      some ([.lit (.int .i64 0), .lit (.int .i64 0), .nil, .nil], []) := by kernel_rfl
  obtain ⟨⟨x1, x2, x3⟩, hx, hx1⟩ := Option.map_eq_some_iff.1 hw
  simp only [Prod.mk.injEq] at hx1
  obtain ⟨rfl, rfl⟩ := hx1
  exact OpenSpec.preRow_of_cond 8 hx (by kernel_rfl) (fun k hk => by cases hk) (by kernel_rfl) (bp_laid_met os _)

theorem bp_read : ∀ t ∈ Tryz.f3.params.toList, Tryz.prog.readableRec t = true ∧ t < Tryz.prog.types.size := by
  have h : (Tryz.f3.params.toList.all fun t => Tryz.prog.readableRec t && decide (t < Tryz.prog.types.size)) = true := by kernel_rfl
  intro t ht
  have := List.all_eq_true.1 h t ht
  simpa using this
set_option maxRecDepth 100000 in
set_option maxHeartbeats 2000000 in
theorem bp_lifted (os : Os) (started : os.Started) (H : Type) (enc : TypeId × Value → H) (F : Stop.Interp) :
    ReturnsInHanded {} Tryz.checked os 3 .any ((OpenSpec.ofChange Rows.boxPlaysSpec).preRow enc Tryz.prog Tryz.f3 Rows.boxPlaysRow.domain false Rows.boxPlaysRow.laid) (((OpenSpec.ofChange Rows.boxPlaysSpec).at F).post enc Tryz.prog Tryz.f3 false true false false) := by
  refine returnsInHanded_of_row (C := Tryz.checked) (s := OpenSpec.ofChange Rows.boxPlaysSpec) bp_own started (by kernel_rfl) Tryz.func3
    (witness_row_atRef (enc := enc) (C := Tryz.checked) false (layE (lay (World.holding Tryz.prog os ⟨#[], #[], []⟩) 0 Rows.laid_letterbox_flags_system)) #[.int .i64 0, .int .i64 0, .slice none 0 0, .slice none 0 0] rfl (by kernel_rfl) (by kernel_rfl) (by kernel_rfl) (bp_witness os enc)) ?_
  intro W base args ds gs before hval0 hW _ _ _ hL _ _
  have hval : ∀ (j : Nat) t v, Tryz.f3.params[j]? = some t → args[j]? = some v → Value.okWide Tryz.prog W .any base t v := hval0
  have hW' := hW
  obtain ⟨p, q, hA0, hV0, rfl, _, _⟩ := hW
  have hA : DataW.TrodAll enc Tryz.prog W 0 (fun _ => true) true Tryz.f3.params.toList args.toList ds p := hA0
  have hK := hA
  have hlt : ∀ x ∈ p, x.block < W.heap.size := fun x hx => hW'.lt x (by simp [hx])
  rw [Tryz.params3] at hA hval
  obtain ⟨l⟩ := args
  obtain ⟨v0, l, d0, ds, p0, p, rfl, rfl, rfl, t0, hA⟩ := trodAll_cons hA
  obtain ⟨v1, l, d1, ds, p1, p, rfl, rfl, rfl, t1, hA⟩ := trodAll_cons hA
  obtain ⟨v2, l, d2, ds, p2, p, rfl, rfl, rfl, t2, hA⟩ := trodAll_cons hA
  obtain ⟨v3, l, d3, ds, p3, p, rfl, rfl, rfl, t3, hA⟩ := trodAll_cons hA
  obtain ⟨rfl, rfl, rfl⟩ := trodAll_nil hA
  obtain ⟨rfl, rfl⟩ := trodVars_none hV0
  obtain ⟨vv, rfl, rfl, rfl, _⟩ := open_int Tryz.underlying3 (hval 0 _ v0 rfl rfl) t0
  obtain ⟨nn, rfl, rfl, rfl, _⟩ := open_int Tryz.underlying3 (hval 1 _ v1 rfl rfl) t1
  obtain ⟨fuel2, t2'⟩ := id t2
  obtain ⟨a2, len2, cap2, rfl⟩ := okWide_slice Tryz.underlying22 (hval 2 _ v2 rfl rfl)
  obtain ⟨L0, hL0⟩ := open_letters (te := 9) Tryz.underlying22 Tryz.underlying51 (by kernel_rfl) rfl rfl rfl rfl (by kernel_rfl) (by kernel_rfl) (by kernel_rfl) (by kernel_rfl) (by kernel_rfl) (by kernel_rfl) (by kernel_rfl) (by kernel_rfl) (by kernel_rfl) (by kernel_rfl) _ _ fuel2 t2'
  obtain ⟨fuel3, t3'⟩ := id t3
  obtain ⟨a3, len3, cap3, rfl⟩ := okWide_slice Tryz.underlying23 (hval 3 _ v3 rfl rfl)
  obtain ⟨LP, hLP⟩ := open_posts6 (te := 9) Tryz.underlying23 Tryz.underlying37 (by kernel_rfl) rfl rfl rfl rfl rfl rfl (by kernel_rfl) (by kernel_rfl) (by kernel_rfl) (by kernel_rfl) (by kernel_rfl) (by kernel_rfl) (by kernel_rfl) (by kernel_rfl) (by kernel_rfl) (by kernel_rfl) (by kernel_rfl) (by kernel_rfl) (by kernel_rfl) (by kernel_rfl) _ _ fuel3 t3'
  clear hA0 hV0 hval0 hval hA t0 t1 t2 t3 t2' t3'
  obtain ⟨hLd, hLh⟩ := bp_parts hL
  have hall : Calls Tryz.prog 3 #[.int .i64 vv, .int .i64 nn, .slice a2 len2 cap2, .slice a3 len3 cap3] W fun e w' => e = .returned (.bool true) ∧ Below W.heap.size W w' := plays_is vv nn _ _ L0 LP W hL0 hLP (bp_sys hLd) (bp_err hLh)
  refine hall.mono ?_
  rintro e W' ⟨rfl, bel⟩
  have e1 : ((OpenSpec.ofChange Rows.boxPlaysSpec).at F).fn H ([.lit (.int .i64 vv), .lit (.int .i64 nn), d2, d3] ++ []) = { results := [.lit (.bool true)], args := [.lit (.int .i64 vv), .lit (.int .i64 nn), d2, d3] } := rfl
  refine ⟨_, rfl, _, _, _, [], [] ++ ([] ++ (p2 ++ (p3 ++ []))), [], hW', ?_, ?_, ?_, bel.frame _, fun h => by cases h⟩
  · rw [e1]; exact trodAll_mk1 (shut_bool Tryz.underlying4 _)
  · rw [e1]; exact Law.trodAll_carry bp_laidOut bel _ _ _ _ bp_read hK hlt
  · rw [e1]; rfl

theorem bp_said : Rows.BoxPlaysSaid :=
  OpenClaim.holds_of_cond 3 Tryz.f3 rfl rfl rfl rfl rfl rfl rfl ⟨rfl, rfl, rfl, rfl, rfl⟩ rfl rfl rfl rfl rfl (by kernel_rfl) Tryz.func3 (by kernel_rfl)
    (of_decide_eq_true (by kernel_rfl)) (by unfold Func.isWrapper; rw [if_neg (of_decide_eq_false (by kernel_rfl))]; exact ⟨rfl, rfl⟩)
    (fun os started H enc _ F => by rw [OpenClaim.pre_eq_preRow]; exact bp_lifted os started H enc F)

theorem bp_plain (f : FuncId) (fn : Func) (hf : Tryz.pinned.checked.prog.funcNamed "letterbox/letterboxlaw.BoxPlays" = some f) (hfn : Tryz.pinned.checked.prog.funcs[f]? = some fn) :
    true = Tryz.pinned.checked.prog.looks [] ∧ ∀ (j : Nat) t, fn.params[j]? = some t → Tryz.pinned.checked.prog.wantsStandIn t = false := by
  obtain rfl : f = 3 := Option.some.inj ((show Tryz.prog.funcNamed "letterbox/letterboxlaw.BoxPlays" = some 3 by kernel_rfl).symm.trans hf) |>.symm
  obtain rfl : fn = Tryz.f3 := (Option.some.inj (Tryz.func3.symm.trans hfn)).symm
  refine ⟨by kernel_rfl, fun j t ht => ?_⟩
  have h : (Tryz.f3.params.toList.all fun t => !Tryz.prog.wantsStandIn t) = true := by kernel_rfl
  have := List.all_eq_true.1 h t (by simpa using Array.mem_of_getElem? ht)
  exact (show Tryz.prog.wantsStandIn t = false by simpa using this)

theorem boxPlays_card : Rows.BoxPlaysCardSaid :=
  Claim7.holds_tied_plain_at .later [] _ _ _ _ bp_said (fun _ h => by cases h) (by kernel_rfl) (fun _ h => by cases h) boxPlays_row_tie rfl ⟨rfl, rfl⟩ (by kernel_rfl) rfl bp_plain (by kernel_rfl)
end Go.Proofs.YtgpcnacpefficaaGreatDoor
