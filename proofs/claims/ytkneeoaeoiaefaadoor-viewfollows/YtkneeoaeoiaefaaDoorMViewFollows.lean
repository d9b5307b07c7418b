/-
  ViewFollows returns true and leaves its arguments as they were, for every list of deeds, every list of such lists and every list of yes and no; the array of the system's flags lies as its initialiser lays it.
-/
import Derived.Test.YtkneeoaeoiaefaaDoorMViewFolWalk
import Derived.Test.YtkneeoaeoiaefaaDoorLawAll4
import Derived.Test.YtkneeoaeoiaefaaDoorCards
import Derived.Test.YtkneeoaeoiaefaaDoorTie
import Derived.Lib.LaidIn
import Derived.Deep.DeepHandedRow
import Derived.Deep.DeepWitnessRowRef
import Derived.ProofKit
namespace Go.Proofs.YtkneeoaeoiaefaaDoor
open Go.Shelf Go.ChangeShapes Go.WideShapes Go.ChangeAt Go.RowKit Go.Lib Go.Proofs.Fl Go.Proofs.Law

theorem vf_own : ownKnob Tryd.prog.godebug = none := by kernel_rfl
theorem vf_laidOut : laidOutB Tryd.prog = true := by kernel_rfl
theorem vf_sys_eq : Rows.laid_letterbox_flags_system (H := Unit) = .agg (five.map fun s => .lit (.string s)) := by kernel_rfl
theorem vf_sys {W : World} (h : laidMet Tryd.prog Rows.viewFollowsRow.laid W) : SysAt W := by
  have hr : Lib.VarReads Tryd.prog W "letterbox/flags.system" (.agg (five.map fun s => .lit (.string s))) := by
    rw [← vf_sys_eq]
    exact Lib.laidMet.reads h (.head _)
  have ht := Law.texts_of_reads (g := 0) (t := 99) (e := 9) (n := 5) (by kernel_rfl) (by kernel_rfl) (by kernel_rfl) (by kernel_rfl) (by kernel_rfl) (by kernel_rfl) hr
  intro j hj
  have hl : j < five.length := hj
  have := ht j _ (List.getElem?_eq_getElem hl)
  rw [this]
  unfold sysB
  rw [List.getD_eq_getElem?_getD, List.getElem?_eq_getElem hl]
  rfl
theorem vf_laid_met (os : Os) (args : Array Value) : laidMet Tryd.prog Rows.viewFollowsRow.laid ((lay (World.holding Tryd.prog os ⟨#[], #[], []⟩) 0 Rows.laid_letterbox_flags_system).forCall (fun _ _ => 0) ⟨#[], args, []⟩).memory :=
  (LaidIn.of_run (l := Rows.viewFollowsRow.laid) [0] 8 (by kernel_rfl) (by kernel_rfl) (by kernel_rfl) (by kernel_rfl)).met

theorem vf_witness (os : Os) {H : Type} (enc : TypeId × Value → H) :
    (OpenSpec.ofChange Rows.viewFollowsSpec).preRow enc Tryd.prog Tryd.f4 Rows.viewFollowsRow.domain false Rows.viewFollowsRow.laid ((lay (World.holding Tryd.prog os ⟨#[], #[], []⟩) 0 Rows.laid_letterbox_flags_system).forCall (fun _ _ => 0) ⟨#[], #[.slice none 0 0, .slice none 0 0, .slice none 0 0], []⟩).memory #[.slice none 0 0, .slice none 0 0, .slice none 0 0] := by
  have hw : (DataW.whole enc Tryd.prog ((lay (World.holding Tryd.prog os ⟨#[], #[], []⟩) 0 Rows.laid_letterbox_flags_system).forCall (fun _ _ => 0) ⟨#[], #[.slice none 0 0, .slice none 0 0, .slice none 0 0], []⟩).memory Tryd.f4.params.toList Rows.viewFollowsSpec.vars false (#[.slice none 0 0, .slice none 0 0, .slice none 0 0] : Array Value).toList 8).map (fun x => (x.1, x.2.1)) =
      some ([.nil, .nil, .nil], []) := by kernel_rfl
  obtain ⟨⟨x1, x2, x3⟩, hx, hx1⟩ := Option.map_eq_some_iff.1 hw
  simp only [Prod.mk.injEq] at hx1
  obtain ⟨rfl, rfl⟩ := hx1
  exact OpenSpec.preRow_of_cond 8 hx (by kernel_rfl) (fun k hk => by cases hk) (by kernel_rfl) (vf_laid_met os _)

variable {H : Type} {enc : TypeId × Value → H}
theorem vf_posts {W : World} (v : Value) (x : DataW H × List MemPlace) (fuel : Nat) (h : DataW.trod enc Tryd.prog W 0 (fun _ => true) true fuel 22 [v] = some x) : ∃ L, Pts W v L :=
  open_posts (te := 9) Tryd.underlying22 Tryd.underlying36 (by kernel_rfl) rfl rfl rfl rfl rfl (by kernel_rfl) (by kernel_rfl) (by kernel_rfl) (by kernel_rfl) (by kernel_rfl) (by kernel_rfl) (by kernel_rfl) (by kernel_rfl) (by kernel_rfl) (by kernel_rfl) (by kernel_rfl) (by kernel_rfl) v x fuel h
theorem vf_read : ∀ t ∈ Tryd.f4.params.toList, Tryd.prog.readableRec t = true ∧ t < Tryd.prog.types.size := by
  have h : (Tryd.f4.params.toList.all fun t => Tryd.prog.readableRec t && decide (t < Tryd.prog.types.size)) = true := by kernel_rfl
  intro t ht
  have := List.all_eq_true.1 h t ht
  simpa using this
set_option maxRecDepth 100000 in
set_option maxHeartbeats 2000000 in
theorem vf_lifted (os : Os) (started : os.Started) (H : Type) (enc : TypeId × Value → H) (F : Stop.Interp) :
    ReturnsInHanded {} Tryd.checked os 4 .any ((OpenSpec.ofChange Rows.viewFollowsSpec).preRow enc Tryd.prog Tryd.f4 Rows.viewFollowsRow.domain false Rows.viewFollowsRow.laid) (((OpenSpec.ofChange Rows.viewFollowsSpec).at F).post enc Tryd.prog Tryd.f4 false true false false) := by
  refine returnsInHanded_of_row (C := Tryd.checked) (s := OpenSpec.ofChange Rows.viewFollowsSpec) vf_own started (by kernel_rfl) Tryd.func4
    (witness_row_atRef (enc := enc) (C := Tryd.checked) false (lay (World.holding Tryd.prog os ⟨#[], #[], []⟩) 0 Rows.laid_letterbox_flags_system) #[.slice none 0 0, .slice none 0 0, .slice none 0 0] rfl (by kernel_rfl) (by kernel_rfl) (by kernel_rfl) (vf_witness os enc)) ?_
  intro W base args ds gs before hval0 hW _ _ _ hL _ _
  have hval : ∀ (j : Nat) t v, Tryd.f4.params[j]? = some t → args[j]? = some v → Value.okWide Tryd.prog W .any base t v := hval0
  have hW' := hW
  obtain ⟨p, q, hA0, hV0, rfl, _, _⟩ := hW
  have hA : DataW.TrodAll enc Tryd.prog W 0 (fun _ => true) true Tryd.f4.params.toList args.toList ds p := hA0
  have hK := hA
  have hlt : ∀ x ∈ p, x.block < W.heap.size := fun x hx => hW'.lt x (by simp [hx])
  rw [Tryd.params4] at hA hval
  obtain ⟨l⟩ := args
  obtain ⟨v0, l, d0, ds, p0, p, rfl, rfl, rfl, t0, hA⟩ := trodAll_cons hA
  obtain ⟨v1, l, d1, ds, p1, p, rfl, rfl, rfl, t1, hA⟩ := trodAll_cons hA
  obtain ⟨v2, l, d2, ds, p2, p, rfl, rfl, rfl, t2, hA⟩ := trodAll_cons hA
  obtain ⟨rfl, rfl, rfl⟩ := trodAll_nil hA
  obtain ⟨rfl, rfl⟩ := trodVars_none hV0
  obtain ⟨fuel0, t0'⟩ := id t0
  obtain ⟨fuel1, t1'⟩ := id t1
  obtain ⟨fuel2, t2'⟩ := id t2
  obtain ⟨a0, len0, cap0, rfl⟩ := okWide_slice Tryd.underlying22 (hval 0 _ v0 rfl rfl)
  obtain ⟨a1, len1, cap1, rfl⟩ := okWide_slice Tryd.underlying44 (hval 1 _ v1 rfl rfl)
  obtain ⟨a2, len2, cap2, rfl⟩ := okWide_slice Tryd.underlying45 (hval 2 _ v2 rfl rfl)
  obtain ⟨L0, hL0⟩ := vf_posts _ _ fuel0 t0'
  obtain ⟨L1, hL1⟩ := open_rows (t := 44) (e := 22) Tryd.underlying44 (by kernel_rfl) (fun v x fuel h => vf_posts v x fuel h) _ _ fuel1 t1'
  obtain ⟨G2, hG2⟩ := open_yes (t := 45) (e := 4) Tryd.underlying45 Tryd.underlying4 (by kernel_rfl) _ _ fuel2 t2'
  clear hA0 hV0 hval0 hval hA t0 t1 t2 t0' t1' t2'
  have hall : Calls Tryd.prog 4 #[.slice a0 len0 cap0, .slice a1 len1 cap1, .slice a2 len2 cap2] W fun e w' => e = .returned (.bool true) ∧ Below W.heap.size W w' := by
    by_cases hb : shortB L0 = true ∧ L1.length ≤ 10 ∧ G2.length ≤ 20
    · exact follows_is _ _ _ L0 L1 G2 W hL0 hL1 hG2 (vf_sys hL) hb.1 hb.2.1 hb.2.2
    · exact follows_big _ _ _ L0 L1 G2 W hL0 hL1 hG2 hb
  refine hall.mono ?_
  rintro e W' ⟨rfl, bel⟩
  have e1 : ((OpenSpec.ofChange Rows.viewFollowsSpec).at F).fn H ([d0, d1, d2] ++ []) = { results := [.lit (.bool true)], args := [d0, d1, d2] } := rfl
  refine ⟨_, rfl, _, _, _, [], p0 ++ (p1 ++ (p2 ++ [])), [], hW', ?_, ?_, ?_, bel.frame _, fun h => by cases h⟩
  · rw [e1]; exact trodAll_mk1 (shut_bool Tryd.underlying4 _)
  · rw [e1]; exact Law.trodAll_carry vf_laidOut bel _ _ _ _ vf_read hK hlt
  · rw [e1]; rfl

theorem vf_said : Rows.ViewFollowsSaid :=
  OpenClaim.holds_of_cond 4 Tryd.f4 rfl rfl rfl rfl rfl rfl rfl ⟨rfl, rfl, rfl, rfl, rfl⟩ rfl rfl rfl rfl rfl (by kernel_rfl) Tryd.func4 (by kernel_rfl)
    (of_decide_eq_true (by kernel_rfl)) (by unfold Func.isWrapper; rw [if_neg (of_decide_eq_false (by kernel_rfl))]; exact ⟨rfl, rfl⟩)
    (fun os started H enc _ F => by rw [OpenClaim.pre_eq_preRow]; exact vf_lifted os started H enc F)

theorem vf_plain (f : FuncId) (fn : Func) (hf : Tryd.pinned.checked.prog.funcNamed "letterbox/letterboxkeep.ViewFollows" = some f) (hfn : Tryd.pinned.checked.prog.funcs[f]? = some fn) :
    false = Tryd.pinned.checked.prog.looks [] ∧ ∀ (j : Nat) t, fn.params[j]? = some t → Tryd.pinned.checked.prog.wantsStandIn t = false := by
  obtain rfl : f = 4 := Option.some.inj ((show Tryd.prog.funcNamed "letterbox/letterboxkeep.ViewFollows" = some 4 by kernel_rfl).symm.trans hf) |>.symm
  obtain rfl : fn = Tryd.f4 := (Option.some.inj (Tryd.func4.symm.trans hfn)).symm
  refine ⟨by kernel_rfl, fun j t ht => ?_⟩
  have h : (Tryd.f4.params.toList.all fun t => !Tryd.prog.wantsStandIn t) = true := by kernel_rfl
  have := List.all_eq_true.1 h t (by simpa using Array.mem_of_getElem? ht)
  exact (show Tryd.prog.wantsStandIn t = false by simpa using this)

theorem viewFollows_card : Rows.ViewFollowsCardSaid :=
  Claim7.holds_tied_plain_at .later [] _ _ _ _ vf_said (fun _ h => by cases h) (by kernel_rfl) (fun _ h => by cases h) viewFollows_row_tie rfl ⟨rfl, rfl⟩ (by kernel_rfl) rfl vf_plain (by kernel_rfl)
end Go.Proofs.YtkneeoaeoiaefaaDoor
