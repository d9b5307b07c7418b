/-
  FlagsAlgebra returns true and leaves its arguments as they were, for every two lists of texts and every number; the array of the system's flags lies as its initialiser lays it.
-/
import Derived.Test.YtneipabooahihaaDoorFlagsAlgWalk
import Derived.Test.YtneipabooahihaaDoorLaw
import Derived.Test.YtneipabooahihaaDoorCards
import Derived.Test.YtneipabooahihaaDoorTie
import Derived.Lib.LaidIn
import Derived.Deep.DeepHandedRow
import Derived.Deep.DeepWitnessRowRef
import Derived.ProofKit
namespace Go.Proofs.YtneipabooahihaaDoor
open Go.Shelf Go.ChangeShapes Go.WideShapes Go.ChangeAt Go.RowKit Go.Lib Go.Proofs.Fl Go.Proofs.Law

theorem fa_own : ownKnob Tryd.prog.godebug = none := by kernel_rfl
theorem fa_laidOut : laidOutB Tryd.prog = true := by kernel_rfl
theorem fa_sys_eq : Rows.laid_letterbox_flags_system (H := Unit) = .agg (five.map fun s => .lit (.string s)) := by kernel_rfl
theorem fa_sys {W : World} (h : laidMet Tryd.prog Rows.flagsAlgebraRow.laid W) : SysAt W := by
  have hr : Lib.VarReads Tryd.prog W "letterbox/flags.system" (.agg (five.map fun s => .lit (.string s))) := by
    rw [← fa_sys_eq]
    exact Lib.laidMet.reads h (.head _)
  have ht := Law.texts_of_reads (g := 2) (t := 120) (e := 9) (n := 5) (by kernel_rfl) (by kernel_rfl) (by kernel_rfl) (by kernel_rfl) (by kernel_rfl) (by kernel_rfl) hr
  intro j hj
  have hl : j < five.length := hj
  have := ht j _ (List.getElem?_eq_getElem hl)
  rw [this]
  unfold sysB
  rw [List.getD_eq_getElem?_getD, List.getElem?_eq_getElem hl]
  rfl
theorem fa_sl {W : World} {v : Value} {l : List ByteArray} (h : Law.Tg W v l) : Sl W v (l.map fun s => s.data.toList) := by
  obtain ⟨a, c, rfl, hcp, hn, hd⟩ := h
  refine ⟨a, c, by simp, ⟨hn, by simpa using hcp⟩, ?_⟩
  rcases hd with rfl | ⟨b, o, rfl, hat⟩
  · exact Or.inl rfl
  · refine Or.inr ⟨b, o, rfl, fun j t hj => ?_⟩
    rw [List.getElem?_map, Option.map_eq_some_iff] at hj
    obtain ⟨s, hs, rfl⟩ := hj
    rw [hat j s hs]
theorem fa_laid_met (os : Os) (args : Array Value) : laidMet Tryd.prog Rows.flagsAlgebraRow.laid ((lay (World.holding Tryd.prog os ⟨#[], #[], []⟩) 2 Rows.laid_letterbox_flags_system).forCall (fun _ _ => 0) ⟨#[], args, []⟩).memory :=
  (LaidIn.of_run (l := Rows.flagsAlgebraRow.laid) [2] 8 (by kernel_rfl) (by kernel_rfl) (by kernel_rfl) (by kernel_rfl)).met

theorem fa_witness (os : Os) {H : Type} (enc : TypeId × Value → H) :
    (OpenSpec.ofChange Rows.flagsAlgebraSpec).preRow enc Tryd.prog Tryd.f6 Rows.flagsAlgebraRow.domain false Rows.flagsAlgebraRow.laid ((lay (World.holding Tryd.prog os ⟨#[], #[], []⟩) 2 Rows.laid_letterbox_flags_system).forCall (fun _ _ => 0) ⟨#[], #[.slice none 0 0, .slice none 0 0, .int .i64 0], []⟩).memory #[.slice none 0 0, .slice none 0 0, .int .i64 0] := by
  have hw : (DataW.whole enc Tryd.prog ((lay (World.holding Tryd.prog os ⟨#[], #[], []⟩) 2 Rows.laid_letterbox_flags_system).forCall (fun _ _ => 0) ⟨#[], #[.slice none 0 0, .slice none 0 0, .int .i64 0], []⟩).memory Tryd.f6.params.toList Rows.flagsAlgebraSpec.vars false (#[.slice none 0 0, .slice none 0 0, .int .i64 0] : Array Value).toList 8).map (fun x => (x.1, x.2.1)) =
      some ([.nil, .nil, .lit (.int .i64 0)], []) := by kernel_rfl
  obtain ⟨⟨x1, x2, x3⟩, hx, hx1⟩ := Option.map_eq_some_iff.1 hw
  simp only [Prod.mk.injEq] at hx1
  obtain ⟨rfl, rfl⟩ := hx1
  exact OpenSpec.preRow_of_cond 8 hx (by kernel_rfl) (fun k hk => by cases hk) (by kernel_rfl) (fa_laid_met os _)

theorem fa_read : ∀ t ∈ Tryd.f6.params.toList, Tryd.prog.readableRec t = true ∧ t < Tryd.prog.types.size := by
  have h : (Tryd.f6.params.toList.all fun t => Tryd.prog.readableRec t && decide (t < Tryd.prog.types.size)) = true := by kernel_rfl
  intro t ht
  have := List.all_eq_true.1 h t ht
  simpa using this
set_option maxRecDepth 100000 in
set_option maxHeartbeats 2000000 in
theorem fa_lifted (os : Os) (started : os.Started) (H : Type) (enc : TypeId × Value → H) (F : Stop.Interp) :
    ReturnsInHanded {} Tryd.checked os 6 .any ((OpenSpec.ofChange Rows.flagsAlgebraSpec).preRow enc Tryd.prog Tryd.f6 Rows.flagsAlgebraRow.domain false Rows.flagsAlgebraRow.laid) (((OpenSpec.ofChange Rows.flagsAlgebraSpec).at F).post enc Tryd.prog Tryd.f6 false true false false) := by
  refine returnsInHanded_of_row (C := Tryd.checked) (s := OpenSpec.ofChange Rows.flagsAlgebraSpec) fa_own started (by kernel_rfl) Tryd.func6
    (witness_row_atRef (enc := enc) (C := Tryd.checked) false (lay (World.holding Tryd.prog os ⟨#[], #[], []⟩) 2 Rows.laid_letterbox_flags_system) #[.slice none 0 0, .slice none 0 0, .int .i64 0] rfl (by kernel_rfl) (by kernel_rfl) (by kernel_rfl) (fa_witness os enc)) ?_
  intro W base args ds gs before hval0 hW _ _ _ hL _ _
  have hval : ∀ (j : Nat) t v, Tryd.f6.params[j]? = some t → args[j]? = some v → Value.okWide Tryd.prog W .any base t v := hval0
  have hW' := hW
  obtain ⟨p, q, hA0, hV0, rfl, _, _⟩ := hW
  have hA : DataW.TrodAll enc Tryd.prog W 0 (fun _ => true) true Tryd.f6.params.toList args.toList ds p := hA0
  have hK := hA
  have hlt : ∀ x ∈ p, x.block < W.heap.size := fun x hx => hW'.lt x (by simp [hx])
  rw [Tryd.params6] at hA hval
  obtain ⟨l⟩ := args
  obtain ⟨v0, l, d0, ds, p0, p, rfl, rfl, rfl, t0, hA⟩ := trodAll_cons hA
  obtain ⟨v1, l, d1, ds, p1, p, rfl, rfl, rfl, t1, hA⟩ := trodAll_cons hA
  obtain ⟨v2, l, d2, ds, p2, p, rfl, rfl, rfl, t2, hA⟩ := trodAll_cons hA
  obtain ⟨rfl, rfl, rfl⟩ := trodAll_nil hA
  obtain ⟨rfl, rfl⟩ := trodVars_none hV0
  obtain ⟨l0, g0, _⟩ := Law.open_tg Tryd.underlying50 Tryd.underlying9 (by kernel_rfl) (hval 0 _ v0 rfl rfl) t0
  obtain ⟨l1, g1, _⟩ := Law.open_tg Tryd.underlying50 Tryd.underlying9 (by kernel_rfl) (hval 1 _ v1 rfl rfl) t1
  obtain ⟨n, rfl, rfl, rfl, _⟩ := open_int Tryd.underlying3 (hval 2 _ v2 rfl rfl) t2
  clear hA0 hV0 hval0 hval hA t0 t1 t2
  have hall : Calls Tryd.prog 6 #[v0, v1, .int .i64 n] W fun e w' => e = .returned (.bool true) ∧ Below W.heap.size W w' := by
    have s0 := fa_sl g0
    have s1 := fa_sl g1
    cases h0 : held (l0.map fun s => s.data.toList) with
    | false => exact alg_big v0 v1 _ _ n W s0 s1 (Or.inl h0)
    | true =>
      cases h1 : held (l1.map fun s => s.data.toList) with
      | false => exact alg_big v0 v1 _ _ n W s0 s1 (Or.inr h1)
      | true => exact alg_small v0 v1 _ _ n W s0 s1 (fa_sys hL) h0 h1
  refine hall.mono ?_
  rintro e W' ⟨rfl, bel⟩
  have e1 : ((OpenSpec.ofChange Rows.flagsAlgebraSpec).at F).fn H ([d0, d1, .lit (.int .i64 n)] ++ []) = { results := [.lit (.bool true)], args := [d0, d1, .lit (.int .i64 n)] } := rfl
  refine ⟨_, rfl, _, _, _, [], p0 ++ (p1 ++ ([] ++ [])), [], hW', ?_, ?_, ?_, bel.frame _, fun h => by cases h⟩
  · rw [e1]; exact trodAll_mk1 (shut_bool Tryd.underlying4 _)
  · rw [e1]; exact Law.trodAll_carry fa_laidOut bel _ _ _ _ fa_read hK hlt
  · rw [e1]; rfl

theorem fa_said : Rows.FlagsAlgebraSaid :=
  OpenClaim.holds_of_cond 6 Tryd.f6 rfl rfl rfl rfl rfl rfl rfl ⟨rfl, rfl, rfl, rfl, rfl⟩ rfl rfl rfl rfl rfl (by kernel_rfl) Tryd.func6 (by kernel_rfl)
    (of_decide_eq_true (by kernel_rfl)) (by unfold Func.isWrapper; rw [if_neg (of_decide_eq_false (by kernel_rfl))]; exact ⟨rfl, rfl⟩)
    (fun os started H enc _ F => by rw [OpenClaim.pre_eq_preRow]; exact fa_lifted os started H enc F)

theorem fa_plain (f : FuncId) (fn : Func) (hf : Tryd.pinned.checked.prog.funcNamed "letterbox/letterboxkeep.FlagsAlgebra" = some f) (hfn : Tryd.pinned.checked.prog.funcs[f]? = some fn) :
    true = Tryd.pinned.checked.prog.looks [] ∧ ∀ (j : Nat) t, fn.params[j]? = some t → Tryd.pinned.checked.prog.wantsStandIn t = false := by
  obtain rfl : f = 6 := Option.some.inj ((show Tryd.prog.funcNamed "letterbox/letterboxkeep.FlagsAlgebra" = some 6 by kernel_rfl).symm.trans hf) |>.symm
  obtain rfl : fn = Tryd.f6 := (Option.some.inj (Tryd.func6.symm.trans hfn)).symm
  refine ⟨by kernel_rfl, fun j t ht => ?_⟩
  have h : (Tryd.f6.params.toList.all fun t => !Tryd.prog.wantsStandIn t) = true := by kernel_rfl
  have := List.all_eq_true.1 h t (by simpa using Array.mem_of_getElem? ht)
  exact (show Tryd.prog.wantsStandIn t = false by simpa using this)

theorem flagsAlgebra_card : Rows.FlagsAlgebraCardSaid :=
  Claim7.holds_tied_plain_at .later [] _ _ _ _ fa_said (fun _ h => by cases h) (by kernel_rfl) (fun _ h => by cases h) flagsAlgebra_row_tie rfl ⟨rfl, rfl⟩ (by kernel_rfl) rfl fa_plain (by kernel_rfl)
end Go.Proofs.YtneipabooahihaaDoor
