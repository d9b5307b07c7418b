/-
  HouseMoves returns true and leaves its arguments as they were, for every list of deeds and every two texts; the two tables of package math/bits, that of internal/strconv, the two of package unicode/utf8, the array of the system's flags and errors.errorType lie as their initialisers lay them.
-/
import Derived.Test.YtfdlopimncodcaaGreatDoorMHmvWalk
import Derived.Test.YtfdlopimncodcaaGreatDoorCards
import Derived.Test.YtfdlopimncodcaaGreatDoorTie
import Derived.Lib.LaidIn
import Derived.Lib.LaidU8T
import Derived.LaidHandle
import Derived.LaidLaws
import Derived.Deep.DeepHandedRow
import Derived.Deep.DeepWitnessRowRef
import Derived.ProofKit
namespace Go.Proofs.YtfdlopimncodcaaGreatDoor
open Go.ChangeMaps (open_string shut_string)
open Go.Shelf Go.ChangeShapes Go.WideShapes Go.ChangeAt Go.RowKit Go.Lib Go.Proofs.Law

theorem hm_own : ownKnob Tryz.prog.godebug = none := by kernel_rfl
theorem hm_laidOut : laidOutB Tryz.prog = true := by kernel_rfl
theorem hm_first_eq : Rows.laid_unicode_utf8_first = Lib.firstData := by kernel_rfl
theorem hm_accept_eq : Rows.laid_unicode_utf8_acceptRanges (H := Unit) = Lib.acceptData := by kernel_rfl
theorem hm_tabs_of {W : World} (h3 : VarReads Tryz.prog W "unicode/utf8.first" Lib.firstData) (h4 : VarReads Tryz.prog W "unicode/utf8.acceptRanges" Lib.acceptData) : Tabs W :=
  utf8Tabs_of_readsT (U8Types.of196 Tryz.lays196) ⟨by kernel_rfl, by kernel_rfl, by kernel_rfl, by kernel_rfl, by kernel_rfl, by kernel_rfl, by kernel_rfl⟩ h3 h4
theorem Tryz.et : Tryz.prog.globalNamed "errors.errorType" = some 1 := by kernel_rfl
theorem Tryz.rt : (Tryz.prog.cutTypes.find? (·.1 == "internal/reflectlite.rtype")).map (·.2) = some 202 := by kernel_rfl
theorem Tryz.oneRow : ((List.range 293).filter fun t => Tryz.prog.rowNamed t [101, 114, 114, 111, 114]) = [38] := by kernel_rfl
theorem Tryz.typesSize : Tryz.prog.types.size = 293 := by kernel_rfl
theorem hm_sys_eq : Rows.laid_letterbox_flags_system (H := Unit) = .agg (Fl.five.map fun s => .lit (.string s)) := by kernel_rfl
theorem hm_sys {W : World} (hr0 : VarReads Tryz.prog W "letterbox/flags.system" Rows.laid_letterbox_flags_system) : SysAt W := by
  have hr : Lib.VarReads Tryz.prog W "letterbox/flags.system" (.agg (Fl.five.map fun s => .lit (.string s))) := by
    rw [← hm_sys_eq]
    exact hr0
  have ht := Law.texts_of_reads (g := 4) (t := 239) (e := 9) (n := 5) (by kernel_rfl) (by kernel_rfl) (by kernel_rfl) (by kernel_rfl) (by kernel_rfl) (by kernel_rfl) hr
  intro j hj
  have hl : j < Fl.five.length := hj
  have := ht j _ (List.getElem?_eq_getElem hl)
  rw [this]
  unfold sysB
  rw [List.getD_eq_getElem?_getD, List.getElem?_eq_getElem hl]
  rfl
theorem hm_pow_eq : Rows.laid_internal_strconv_uint64pow10 (H := Unit) = Lib.tabData .u64 Lib.pow10Tab := by kernel_rfl
theorem hm_pow {W : World} (h : Lib.VarReads Tryz.prog W "internal/strconv.uint64pow10" Rows.laid_internal_strconv_uint64pow10) : TabB W := by
  have h1 : Lib.TabIs Tryz.prog W "internal/strconv.uint64pow10" .u64 Lib.pow10Tab := by
    refine Law.tabIs_of_reads (g := 5) (t := 250) (e := 223) (n := 20) (by kernel_rfl) (by kernel_rfl) (by kernel_rfl) (by kernel_rfl) (by kernel_rfl) (by kernel_rfl) ?_
    rw [← hm_pow_eq]
    exact h
  exact Lib.tabBelow_of_tabIs h1
theorem hm_parts {W : World} (h : laidMetH Tryz.prog Rows.houseMovesRow.laid W) : laidMet Tryz.prog [("math/bits.deBruijn32tab", Rows.laid_math_bits_deBruijn32tab), ("math/bits.deBruijn64tab", Rows.laid_math_bits_deBruijn64tab), ("internal/strconv.uint64pow10", Rows.laid_internal_strconv_uint64pow10), ("unicode/utf8.acceptRanges", Rows.laid_unicode_utf8_acceptRanges), ("letterbox/flags.system", Rows.laid_letterbox_flags_system), ("unicode/utf8.first", Rows.laid_unicode_utf8_first)] W ∧ handlesMet Tryz.prog [("errors.errorType", Rows.laid_errors_errorType)] W := h
theorem hm_err {W : World} (h : handlesMet Tryz.prog [("errors.errorType", Rows.laid_errors_errorType)] W) : ErrType W := by
  obtain ⟨name, u, ty, e1, e2, e3, e4, e5⟩ := h _ (List.mem_singleton.2 rfl)
  have en : name = [101, 114, 114, 111, 114] := (Option.some.inj e1).symm
  subst en
  obtain rfl := Option.some.inj (Tryz.rt.symm.trans e2)
  have hm : ty ∈ (List.range 293).filter fun t => Tryz.prog.rowNamed t [101, 114, 114, 111, 114] := List.mem_filter.2 ⟨List.mem_range.2 (by rw [← Tryz.typesSize]; exact e3), e4⟩
  rw [Tryz.oneRow] at hm
  obtain rfl := List.mem_singleton.1 hm
  have hh : typeHandle Tryz.prog 38 = .pointer (some ⟨8, 38, none⟩) := by kernel_rfl
  rw [hh] at e5
  show W.cell? ⟨1, 0, none⟩ = some (.iface 202 (.agg #[.pointer (some ⟨8, 38, none⟩)]))
  simpa using World.var?_cell Tryz.et e5 0
theorem hm_size {W : World} (hS : W.ShapedOpen Tryz.prog) : 8 ≤ W.heap.size := by
  obtain ⟨⟨zero, t⟩, hz⟩ : ∃ z, (((begin Tryz.prog (fun _ _ => 0) default).world.heap[8 - 1]?).bind Obj.row?) = some z := Option.isSome_iff_exists.1 (by kernel_rfl)
  obtain ⟨cs, hcs, _⟩ := hS.1 (8 - 1) zero t (of_decide_eq_true (by kernel_rfl)) hz
  have := (Array.getElem?_eq_some_iff.1 hcs).1
  omega
theorem hm_laid_met (os : Os) (args : Array Value) : laidMetH Tryz.prog Rows.houseMovesRow.laid ((lay (lay (lay (lay ({ World.holding Tryz.prog os ⟨#[], #[], []⟩ with heap := (((World.holding Tryz.prog os ⟨#[], #[], []⟩).heap.modify 2 fun | .cells _ t frozen => .cells (Lib.firstTab.map fun z => Value.int .u8 z).toArray t frozen | o => o).modify 3 fun | .cells _ t frozen => .cells ((List.range 16).flatMap fun i => [Value.int .u8 (Lib.accLo i), Value.int .u8 (Lib.accHi i)]).toArray t frozen | o => o).modify 1 fun | .cells _ t frozen => .cells #[.iface 202 (.agg #[.pointer (some ⟨8, 38, none⟩)])] t frozen | o => o } : World) 4 Rows.laid_letterbox_flags_system) 5 Rows.laid_internal_strconv_uint64pow10) 7 Rows.laid_math_bits_deBruijn64tab) 6 Rows.laid_math_bits_deBruijn32tab).forCall (fun _ _ => 0) ⟨#[], args, []⟩).memory :=
  laidMetH_of_parts (LaidIn.of_run (l := [("math/bits.deBruijn32tab", Rows.laid_math_bits_deBruijn32tab), ("math/bits.deBruijn64tab", Rows.laid_math_bits_deBruijn64tab), ("internal/strconv.uint64pow10", Rows.laid_internal_strconv_uint64pow10), ("unicode/utf8.acceptRanges", Rows.laid_unicode_utf8_acceptRanges), ("letterbox/flags.system", Rows.laid_letterbox_flags_system), ("unicode/utf8.first", Rows.laid_unicode_utf8_first)]) [6, 7, 5, 3, 4, 2] 8 (by kernel_rfl) (by kernel_rfl) (by kernel_rfl) (by kernel_rfl)).met (by kernel_rfl)
theorem hm_witness (os : Os) {H : Type} (enc : TypeId × Value → H) :
    (OpenSpec.ofChange Rows.houseMovesSpec).preRow enc Tryz.prog Tryz.f5 Rows.houseMovesRow.domain false Rows.houseMovesRow.laid (((lay (lay (lay (lay ({ World.holding Tryz.prog os ⟨#[], #[], []⟩ with heap := (((World.holding Tryz.prog os ⟨#[], #[], []⟩).heap.modify 2 fun | .cells _ t frozen => .cells (Lib.firstTab.map fun z => Value.int .u8 z).toArray t frozen | o => o).modify 3 fun | .cells _ t frozen => .cells ((List.range 16).flatMap fun i => [Value.int .u8 (Lib.accLo i), Value.int .u8 (Lib.accHi i)]).toArray t frozen | o => o).modify 1 fun | .cells _ t frozen => .cells #[.iface 202 (.agg #[.pointer (some ⟨8, 38, none⟩)])] t frozen | o => o } : World) 4 Rows.laid_letterbox_flags_system) 5 Rows.laid_internal_strconv_uint64pow10) 7 Rows.laid_math_bits_deBruijn64tab) 6 Rows.laid_math_bits_deBruijn32tab)).forCall (fun _ _ => 0) ⟨#[], #[.slice none 0 0, .string ⟨#[]⟩, .string ⟨#[]⟩], []⟩).memory #[.slice none 0 0, .string ⟨#[]⟩, .string ⟨#[]⟩] := by
  have hw : (DataW.whole enc Tryz.prog (((lay (lay (lay (lay ({ World.holding Tryz.prog os ⟨#[], #[], []⟩ with heap := (((World.holding Tryz.prog os ⟨#[], #[], []⟩).heap.modify 2 fun | .cells _ t frozen => .cells (Lib.firstTab.map fun z => Value.int .u8 z).toArray t frozen | o => o).modify 3 fun | .cells _ t frozen => .cells ((List.range 16).flatMap fun i => [Value.int .u8 (Lib.accLo i), Value.int .u8 (Lib.accHi i)]).toArray t frozen | o => o).modify 1 fun | .cells _ t frozen => .cells #[.iface 202 (.agg #[.pointer (some ⟨8, 38, none⟩)])] t frozen | o => o } : World) 4 Rows.laid_letterbox_flags_system) 5 Rows.laid_internal_strconv_uint64pow10) 7 Rows.laid_math_bits_deBruijn64tab) 6 Rows.laid_math_bits_deBruijn32tab)).forCall (fun _ _ => 0) ⟨#[], #[.slice none 0 0], []⟩).memory Tryz.f5.params.toList Rows.houseMovesSpec.vars false (#[.slice none 0 0, .string ⟨#[]⟩, .string ⟨#[]⟩] : Array Value).toList 8).map (fun x => (x.1, x.2.1)) =
      some ([.nil, .lit (.string []), .lit (.string [])], []) := by kernel_rfl
  obtain ⟨⟨x1, x2, x3⟩, hx, hx1⟩ := Option.map_eq_some_iff.1 hw
  simp only [Prod.mk.injEq] at hx1
  obtain ⟨rfl, rfl⟩ := hx1
  exact OpenSpec.preRow_of_cond 8 hx (by kernel_rfl) (fun k hk => by cases hk) (by kernel_rfl) (hm_laid_met os _)
theorem hm_read : ∀ t ∈ Tryz.f5.params.toList, Tryz.prog.readableRec t = true ∧ t < Tryz.prog.types.size := by
  have h : (Tryz.f5.params.toList.all fun t => Tryz.prog.readableRec t && decide (t < Tryz.prog.types.size)) = true := by kernel_rfl
  intro t ht
  have := List.all_eq_true.1 h t ht
  simpa using this
set_option maxRecDepth 100000 in
set_option maxHeartbeats 2000000 in
theorem hm_lifted (os : Os) (started : os.Started) (H : Type) (enc : TypeId × Value → H) (F : Stop.Interp) :
    ReturnsInHanded {} Tryz.checked os 5 .any ((OpenSpec.ofChange Rows.houseMovesSpec).preRow enc Tryz.prog Tryz.f5 Rows.houseMovesRow.domain false Rows.houseMovesRow.laid) (((OpenSpec.ofChange Rows.houseMovesSpec).at F).post enc Tryz.prog Tryz.f5 false true false false) := by
  refine returnsInHanded_of_row (C := Tryz.checked) (s := OpenSpec.ofChange Rows.houseMovesSpec) hm_own started (by kernel_rfl) Tryz.func5
    (witness_row_atRef (enc := enc) (C := Tryz.checked) false ((lay (lay (lay (lay ({ World.holding Tryz.prog os ⟨#[], #[], []⟩ with heap := (((World.holding Tryz.prog os ⟨#[], #[], []⟩).heap.modify 2 fun | .cells _ t frozen => .cells (Lib.firstTab.map fun z => Value.int .u8 z).toArray t frozen | o => o).modify 3 fun | .cells _ t frozen => .cells ((List.range 16).flatMap fun i => [Value.int .u8 (Lib.accLo i), Value.int .u8 (Lib.accHi i)]).toArray t frozen | o => o).modify 1 fun | .cells _ t frozen => .cells #[.iface 202 (.agg #[.pointer (some ⟨8, 38, none⟩)])] t frozen | o => o } : World) 4 Rows.laid_letterbox_flags_system) 5 Rows.laid_internal_strconv_uint64pow10) 7 Rows.laid_math_bits_deBruijn64tab) 6 Rows.laid_math_bits_deBruijn32tab)) #[.slice none 0 0, .string ⟨#[]⟩, .string ⟨#[]⟩] rfl (by kernel_rfl) (by kernel_rfl) (by kernel_rfl) (hm_witness os enc)) ?_
  intro W base args ds gs before hval0 hW _ _ _ hL hS _
  have hval : ∀ (j : Nat) t v, Tryz.f5.params[j]? = some t → args[j]? = some v → Value.okWide Tryz.prog W .any base t v := hval0
  have hW' := hW
  obtain ⟨p, q, hA0, hV0, rfl, _, _⟩ := hW
  have hA : DataW.TrodAll enc Tryz.prog W 0 (fun _ => true) true Tryz.f5.params.toList args.toList ds p := hA0
  have hK := hA
  have hlt : ∀ x ∈ p, x.block < W.heap.size := fun x hx => hW'.lt x (by simp [hx])
  rw [Tryz.params5] at hA hval
  obtain ⟨l⟩ := args
  obtain ⟨v0, l, d0, ds, p0, p, rfl, rfl, rfl, t0, hA⟩ := trodAll_cons hA
  obtain ⟨v1, l, d1, ds, p1, p, rfl, rfl, rfl, t1, hA⟩ := trodAll_cons hA
  obtain ⟨v2, l, d2, ds, p2, p, rfl, rfl, rfl, t2, hA⟩ := trodAll_cons hA
  obtain ⟨rfl, rfl, rfl⟩ := trodAll_nil hA
  obtain ⟨rfl, rfl⟩ := trodVars_none hV0
  obtain ⟨fuel, t0'⟩ := id t0
  obtain ⟨a1, len1, cap1, rfl⟩ := okWide_slice Tryz.underlying57 (hval 0 _ v0 rfl rfl)
  obtain ⟨L, hLD⟩ := open_deeds Tryz.underlying57 Tryz.underlying62 (by kernel_rfl) rfl rfl rfl rfl (by kernel_rfl) (by kernel_rfl) (by kernel_rfl) (by kernel_rfl) (by kernel_rfl) (by kernel_rfl) (by kernel_rfl) (by kernel_rfl) _ _ fuel t0'
  obtain ⟨s1, rfl, rfl, rfl, _⟩ := open_string Tryz.underlying9 (hval 1 _ v1 rfl rfl) t1
  obtain ⟨s2, rfl, rfl, rfl, _⟩ := open_string Tryz.underlying9 (hval 2 _ v2 rfl rfl) t2
  clear hA0 hV0 hval0 hval hA t0 t1 t2 t0'
  obtain ⟨mx, hm⟩ := Go.Proofs.cell_of_shapedOpen_int (g := 0) (zero := #[.int .i64 0]) (t := 3) hS (of_decide_eq_true (by kernel_rfl)) (by kernel_rfl) rfl (by kernel_rfl) (by kernel_rfl) Tryz.underlying3
  obtain ⟨hLd, hLh⟩ := hm_parts hL
  have htab : Tabs W := hm_tabs_of (hm_first_eq ▸ Lib.laidMet.reads hLd (.tail _ (.tail _ (.tail _ (.tail _ (.tail _ (.head _))))))) (hm_accept_eq ▸ Lib.laidMet.reads hLd (.tail _ (.tail _ (.tail _ (.head _)))))
  have hsys : SysAt W := hm_sys (Lib.laidMet.reads hLd (.tail _ (.tail _ (.tail _ (.tail _ (.head _))))))
  have hpow : TabB W := hm_pow (Lib.laidMet.reads hLd (.tail _ (.tail _ (.head _))))
  have hall : Calls Tryz.prog 5 #[.slice a1 len1 cap1, .string s1, .string s2] W fun e w' => e = .returned (.bool true) ∧ Below W.heap.size W w' := by
    by_cases hbig : smallB L = false ∨ 100 < s1.size ∨ 100 < s2.size
    · exact mv_big _ L s1 s2 W hLD hbig
    · have hS1 : smallB L = true := by
        cases hB : smallB L with
        | false => exact absurd (Or.inl hB) hbig
        | true => rfl
      exact hmv_walk _ L s1 s2 W hLD ⟨⟨⟨⟨mx, hm⟩, htab⟩, hm_err hLh, hm_size hS⟩, hsys, hpow⟩ hS1 (by
        by_cases h : 100 < s1.size
        · exact absurd (Or.inr (Or.inl h)) hbig
        · omega) (by
        by_cases h : 100 < s2.size
        · exact absurd (Or.inr (Or.inr h)) hbig
        · omega)
  refine hall.mono ?_
  rintro e W' ⟨rfl, bel⟩
  have e1 : ((OpenSpec.ofChange Rows.houseMovesSpec).at F).fn H ([d0, .lit (.string s1.data.toList), .lit (.string s2.data.toList)] ++ []) = { results := [.lit (.bool true)], args := [d0, .lit (.string s1.data.toList), .lit (.string s2.data.toList)] } := rfl
  refine ⟨_, rfl, _, _, _, [], p0 ++ ([] ++ ([] ++ [])), [], hW', ?_, ?_, ?_, bel.frame _, fun h => by cases h⟩
  · rw [e1]; exact trodAll_mk1 (shut_bool Tryz.underlying4 _)
  · rw [e1]; exact Law.trodAll_carry hm_laidOut bel _ _ _ _ hm_read hK hlt
  · rw [e1]; rfl

theorem hm_said : Rows.HouseMovesSaid :=
  OpenClaim.holds_of_cond 5 Tryz.f5 rfl rfl rfl rfl rfl rfl rfl ⟨rfl, rfl, rfl, rfl, rfl⟩ rfl rfl rfl rfl rfl (by kernel_rfl) Tryz.func5 (by kernel_rfl)
    (of_decide_eq_true (by kernel_rfl)) (by unfold Func.isWrapper; rw [if_neg (of_decide_eq_false (by kernel_rfl))]; exact ⟨rfl, rfl⟩)
    (fun os started H enc _ F => by rw [OpenClaim.pre_eq_preRow]; exact hm_lifted os started H enc F)

theorem hm_plain (f : FuncId) (fn : Func) (hf : Tryz.pinned.checked.prog.funcNamed "letterbox/letterboxkeep.HouseMoves" = some f) (hfn : Tryz.pinned.checked.prog.funcs[f]? = some fn) :
    true = Tryz.pinned.checked.prog.looks [] ∧ ∀ (j : Nat) t, fn.params[j]? = some t → Tryz.pinned.checked.prog.wantsStandIn t = false := by
  obtain rfl : f = 5 := Option.some.inj ((show Tryz.prog.funcNamed "letterbox/letterboxkeep.HouseMoves" = some 5 by kernel_rfl).symm.trans hf) |>.symm
  obtain rfl : fn = Tryz.f5 := (Option.some.inj (Tryz.func5.symm.trans hfn)).symm
  refine ⟨by kernel_rfl, fun j t ht => ?_⟩
  have h : (Tryz.f5.params.toList.all fun t => !Tryz.prog.wantsStandIn t) = true := by kernel_rfl
  have := List.all_eq_true.1 h t (by simpa using Array.mem_of_getElem? ht)
  exact (show Tryz.prog.wantsStandIn t = false by simpa using this)

theorem houseMoves_card : Rows.HouseMovesCardSaid :=
  Claim7.holds_tied_plain_at .later [] _ _ _ _ hm_said (fun _ h => by cases h) (by kernel_rfl) (fun _ h => by cases h) houseMoves_row_tie rfl ⟨rfl, rfl⟩ (by kernel_rfl) rfl hm_plain (by kernel_rfl)
end Go.Proofs.YtfdlopimncodcaaGreatDoor
