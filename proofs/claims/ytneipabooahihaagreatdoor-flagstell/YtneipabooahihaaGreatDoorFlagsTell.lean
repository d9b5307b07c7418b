/-
  FlagsTell returns true and leaves its arguments as they were, for every two lists of texts and every text; the array of the system's flags and errors.errorType lie as their initialisers lay them.
-/
import Derived.Test.YtneipabooahihaaGreatDoorTellWalk
import Derived.Test.YtneipabooahihaaGreatDoorLaw
import Derived.Test.YtneipabooahihaaGreatDoorCards
import Derived.Test.YtneipabooahihaaGreatDoorTie
import Derived.Lib.LaidIn
import Derived.LaidHandle
import Derived.LaidLaws
import Derived.Deep.DeepHandedRow
import Derived.Deep.DeepWitnessRowRef
import Derived.ProofKit
namespace Go.Proofs.YtneipabooahihaaGreatDoor
open Go.ChangeMaps (open_string shut_string)
open Go.Shelf Go.ChangeShapes Go.WideShapes Go.ChangeAt Go.RowKit Go.Lib Go.Proofs.Fl Go.Proofs.Law

theorem ft_own : ownKnob Tryz.prog.godebug = none := by kernel_rfl
theorem ft_laidOut : laidOutB Tryz.prog = true := by kernel_rfl
theorem ft_sys_eq : Rows.laid_letterbox_flags_system (H := Unit) = .agg (five.map fun s => .lit (.string s)) := by kernel_rfl
theorem Tryz.et : Tryz.prog.globalNamed "errors.errorType" = some 2 := by kernel_rfl
theorem Tryz.rt : (Tryz.prog.cutTypes.find? (·.1 == "internal/reflectlite.rtype")).map (·.2) = some 243 := by kernel_rfl
theorem Tryz.oneRow : ((List.range 316).filter fun t => Tryz.prog.rowNamed t [101, 114, 114, 111, 114]) = [28] := by kernel_rfl
theorem Tryz.typesSize : Tryz.prog.types.size = 316 := by kernel_rfl
theorem ft_parts {W : World} (h : laidMetH Tryz.prog Rows.flagsTellRow.laid W) : laidMet Tryz.prog [("letterbox/flags.system", Rows.laid_letterbox_flags_system)] W ∧ handlesMet Tryz.prog [("errors.errorType", Rows.laid_errors_errorType)] W := h
theorem ft_err {W : World} (h : handlesMet Tryz.prog [("errors.errorType", Rows.laid_errors_errorType)] W) : ErrType W := by
  obtain ⟨name, u, ty, e1, e2, e3, e4, e5⟩ := h _ (List.mem_singleton.2 rfl)
  have en : name = [101, 114, 114, 111, 114] := (Option.some.inj e1).symm
  subst en
  obtain rfl := Option.some.inj (Tryz.rt.symm.trans e2)
  have hm : ty ∈ (List.range 316).filter fun t => Tryz.prog.rowNamed t [101, 114, 114, 111, 114] := List.mem_filter.2 ⟨List.mem_range.2 (by rw [← Tryz.typesSize]; exact e3), e4⟩
  rw [Tryz.oneRow] at hm
  obtain rfl := List.mem_singleton.1 hm
  have hh : typeHandle Tryz.prog 28 = .pointer (some ⟨10, 28, none⟩) := by kernel_rfl
  rw [hh] at e5
  show W.cell? ⟨2, 0, none⟩ = some (.iface 243 (.agg #[.pointer (some ⟨10, 28, none⟩)]))
  simpa using World.var?_cell Tryz.et e5 0
theorem ft_sys {W : World} (h : laidMet Tryz.prog [("letterbox/flags.system", Rows.laid_letterbox_flags_system)] W) : SysAt W := by
  have hr : Lib.VarReads Tryz.prog W "letterbox/flags.system" (.agg (five.map fun s => .lit (.string s))) := by
    rw [← ft_sys_eq]
    exact Lib.laidMet.reads h (.head _)
  have ht := Law.texts_of_reads (g := 0) (t := 114) (e := 9) (n := 5) (by kernel_rfl) (by kernel_rfl) (by kernel_rfl) (by kernel_rfl) (by kernel_rfl) (by kernel_rfl) hr
  intro j hj
  have hl : j < five.length := hj
  have := ht j _ (List.getElem?_eq_getElem hl)
  rw [this]
  unfold sysB
  rw [List.getD_eq_getElem?_getD, List.getElem?_eq_getElem hl]
  rfl
theorem ft_sl {W : World} {v : Value} {l : List ByteArray} (h : Law.Tg W v l) : Sl W v (l.map fun s => s.data.toList) := by
  obtain ⟨a, c, rfl, hcp, hn, hd⟩ := h
  refine ⟨a, c, by simp, ⟨hn, by simpa using hcp⟩, ?_⟩
  rcases hd with rfl | ⟨b, o, rfl, hat⟩
  · exact Or.inl rfl
  · refine Or.inr ⟨b, o, rfl, fun j t hj => ?_⟩
    rw [List.getElem?_map, Option.map_eq_some_iff] at hj
    obtain ⟨s, hs, rfl⟩ := hj
    rw [hat j s hs]
/-- The world in which errors.errorType is laid. -/
def layE (w : World) : World := { w with heap := w.heap.modify 2 fun | .cells _ t frozen => .cells #[.iface 243 (.agg #[.pointer (some ⟨10, 28, none⟩)])] t frozen | o => o }
theorem ft_laid_met (os : Os) (args : Array Value) : laidMetH Tryz.prog Rows.flagsTellRow.laid ((layE (lay (World.holding Tryz.prog os ⟨#[], #[], []⟩) 0 Rows.laid_letterbox_flags_system)).forCall (fun _ _ => 0) ⟨#[], args, []⟩).memory :=
  laidMetH_of_parts (LaidIn.of_run (l := [("letterbox/flags.system", Rows.laid_letterbox_flags_system)]) [0] 8 (by kernel_rfl) (by kernel_rfl) (by kernel_rfl) (by kernel_rfl)).met (by kernel_rfl)

theorem ft_witness (os : Os) {H : Type} (enc : TypeId × Value → H) :
    (OpenSpec.ofChange Rows.flagsTellSpec).preRow enc Tryz.prog Tryz.f4 Rows.flagsTellRow.domain false Rows.flagsTellRow.laid ((layE (lay (World.holding Tryz.prog os ⟨#[], #[], []⟩) 0 Rows.laid_letterbox_flags_system)).forCall (fun _ _ => 0) ⟨#[], #[.slice none 0 0, .slice none 0 0, .string ⟨#[]⟩], []⟩).memory #[.slice none 0 0, .slice none 0 0, .string ⟨#[]⟩] := by
  have hw : (DataW.whole enc Tryz.prog ((layE (lay (World.holding Tryz.prog os ⟨#[], #[], []⟩) 0 Rows.laid_letterbox_flags_system)).forCall (fun _ _ => 0) ⟨#[], #[.slice none 0 0, .slice none 0 0, .string ⟨#[]⟩], []⟩).memory Tryz.f4.params.toList Rows.flagsTellSpec.vars false (#[.slice none 0 0, .slice none 0 0, .string ⟨#[]⟩] : Array Value).toList 8).map (fun x => (x.1, x.2.1)) =
      some ([.nil, .nil, .lit (.string [])], []) := by kernel_rfl
  obtain ⟨⟨x1, x2, x3⟩, hx, hx1⟩ := Option.map_eq_some_iff.1 hw
  simp only [Prod.mk.injEq] at hx1
  obtain ⟨rfl, rfl⟩ := hx1
  exact OpenSpec.preRow_of_cond 8 hx (by kernel_rfl) (fun k hk => by cases hk) (by kernel_rfl) (ft_laid_met os _)

theorem ft_read : ∀ t ∈ Tryz.f4.params.toList, Tryz.prog.readableRec t = true ∧ t < Tryz.prog.types.size := by
  have h : (Tryz.f4.params.toList.all fun t => Tryz.prog.readableRec t && decide (t < Tryz.prog.types.size)) = true := by kernel_rfl
  intro t ht
  have := List.all_eq_true.1 h t ht
  simpa using this
set_option maxRecDepth 100000 in
set_option maxHeartbeats 2000000 in
theorem ft_lifted (os : Os) (started : os.Started) (H : Type) (enc : TypeId × Value → H) (F : Stop.Interp) :
    ReturnsInHanded {} Tryz.checked os 4 .any ((OpenSpec.ofChange Rows.flagsTellSpec).preRow enc Tryz.prog Tryz.f4 Rows.flagsTellRow.domain false Rows.flagsTellRow.laid) (((OpenSpec.ofChange Rows.flagsTellSpec).at F).post enc Tryz.prog Tryz.f4 false true false false) := by
  refine returnsInHanded_of_row (C := Tryz.checked) (s := OpenSpec.ofChange Rows.flagsTellSpec) ft_own started (by kernel_rfl) Tryz.func4
    (witness_row_atRef (enc := enc) (C := Tryz.checked) false (layE (lay (World.holding Tryz.prog os ⟨#[], #[], []⟩) 0 Rows.laid_letterbox_flags_system)) #[.slice none 0 0, .slice none 0 0, .string ⟨#[]⟩] rfl (by kernel_rfl) (by kernel_rfl) (by kernel_rfl) (ft_witness os enc)) ?_
  intro W base args ds gs before hval0 hW _ _ _ hL _ _
  have hval : ∀ (j : Nat) t v, Tryz.f4.params[j]? = some t → args[j]? = some v → Value.okWide Tryz.prog W .any base t v := hval0
  have hW' := hW
  obtain ⟨p, q, hA0, hV0, rfl, _, _⟩ := hW
  have hA : DataW.TrodAll enc Tryz.prog W 0 (fun _ => true) true Tryz.f4.params.toList args.toList ds p := hA0
  have hK := hA
  have hlt : ∀ x ∈ p, x.block < W.heap.size := fun x hx => hW'.lt x (by simp [hx])
  rw [Tryz.params4] at hA hval
  obtain ⟨l⟩ := args
  obtain ⟨v0, l, d0, ds, p0, p, rfl, rfl, rfl, t0, hA⟩ := trodAll_cons hA
  obtain ⟨v1, l, d1, ds, p1, p, rfl, rfl, rfl, t1, hA⟩ := trodAll_cons hA
  obtain ⟨v2, l, d2, ds, p2, p, rfl, rfl, rfl, t2, hA⟩ := trodAll_cons hA
  obtain ⟨rfl, rfl, rfl⟩ := trodAll_nil hA
  obtain ⟨rfl, rfl⟩ := trodVars_none hV0
  obtain ⟨l0, g0, _⟩ := Law.open_tg Tryz.underlying41 Tryz.underlying9 (by kernel_rfl) (hval 0 _ v0 rfl rfl) t0
  obtain ⟨l1, g1, _⟩ := Law.open_tg Tryz.underlying41 Tryz.underlying9 (by kernel_rfl) (hval 1 _ v1 rfl rfl) t1
  obtain ⟨s, rfl, rfl, rfl, _⟩ := open_string Tryz.underlying9 (hval 2 _ v2 rfl rfl) t2
  clear hA0 hV0 hval0 hval hA t0 t1 t2
  obtain ⟨hLd, hLh⟩ := ft_parts hL
  have hall : Calls Tryz.prog 4 #[v0, v1, .string s] W fun e w' => e = .returned (.bool true) ∧ Below W.heap.size W w' := by
    have s0 := ft_sl g0
    have s1 := ft_sl g1
    cases h0 : held (l0.map fun s => s.data.toList) with
    | false => exact tell_big v0 v1 _ _ s W s0 s1 (Or.inl h0)
    | true =>
      cases h1 : held (l1.map fun s => s.data.toList) with
      | false => exact tell_big v0 v1 _ _ s W s0 s1 (Or.inr (Or.inl h1))
      | true =>
        by_cases hs : s.size ≤ 100
        · exact tell_small v0 v1 _ _ s W s0 s1 (ft_sys hLd) (ft_err hLh) h0 h1 hs
        · exact tell_big v0 v1 _ _ s W s0 s1 (Or.inr (Or.inr (by omega)))
  refine hall.mono ?_
  rintro e W' ⟨rfl, bel⟩
  have e1 : ((OpenSpec.ofChange Rows.flagsTellSpec).at F).fn H ([d0, d1, .lit (.string s.data.toList)] ++ []) = { results := [.lit (.bool true)], args := [d0, d1, .lit (.string s.data.toList)] } := rfl
  refine ⟨_, rfl, _, _, _, [], p0 ++ (p1 ++ ([] ++ [])), [], hW', ?_, ?_, ?_, bel.frame _, fun h => by cases h⟩
  · rw [e1]; exact trodAll_mk1 (shut_bool Tryz.underlying4 _)
  · rw [e1]; exact Law.trodAll_carry ft_laidOut bel _ _ _ _ ft_read hK hlt
  · rw [e1]; rfl

theorem ft_said : Rows.FlagsTellSaid :=
  OpenClaim.holds_of_cond 4 Tryz.f4 rfl rfl rfl rfl rfl rfl rfl ⟨rfl, rfl, rfl, rfl, rfl⟩ rfl rfl rfl rfl rfl (by kernel_rfl) Tryz.func4 (by kernel_rfl)
    (of_decide_eq_true (by kernel_rfl)) (by unfold Func.isWrapper; rw [if_neg (of_decide_eq_false (by kernel_rfl))]; exact ⟨rfl, rfl⟩)
    (fun os started H enc _ F => by rw [OpenClaim.pre_eq_preRow]; exact ft_lifted os started H enc F)

theorem ft_plain (f : FuncId) (fn : Func) (hf : Tryz.pinned.checked.prog.funcNamed "letterbox/letterboxlaw.FlagsTell" = some f) (hfn : Tryz.pinned.checked.prog.funcs[f]? = some fn) :
    true = Tryz.pinned.checked.prog.looks [] ∧ ∀ (j : Nat) t, fn.params[j]? = some t → Tryz.pinned.checked.prog.wantsStandIn t = false := by
  obtain rfl : f = 4 := Option.some.inj ((show Tryz.prog.funcNamed "letterbox/letterboxlaw.FlagsTell" = some 4 by kernel_rfl).symm.trans hf) |>.symm
  obtain rfl : fn = Tryz.f4 := (Option.some.inj (Tryz.func4.symm.trans hfn)).symm
  refine ⟨by kernel_rfl, fun j t ht => ?_⟩
  have h : (Tryz.f4.params.toList.all fun t => !Tryz.prog.wantsStandIn t) = true := by kernel_rfl
  have := List.all_eq_true.1 h t (by simpa using Array.mem_of_getElem? ht)
  exact (show Tryz.prog.wantsStandIn t = false by simpa using this)

theorem flagsTell_card : Rows.FlagsTellCardSaid :=
  Claim7.holds_tied_plain_at .later [] _ _ _ _ ft_said (fun _ h => by cases h) (by kernel_rfl) (fun _ h => by cases h) flagsTell_row_tie rfl ⟨rfl, rfl⟩ (by kernel_rfl) rfl ft_plain (by kernel_rfl)
end Go.Proofs.YtneipabooahihaaGreatDoor
