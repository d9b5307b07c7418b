/-
  HeadReads returns true and leaves its arguments as they were, for every three texts; the two tables of package unicode/utf8, errors.errorType and letterboxref.Fine lie as their initialisers lay them.
-/
import Derived.Test.YtohpfhpkimmmbaaGreatDoorHeadReadsWalk
import Derived.Test.YtohpfhpkimmmbaaGreatDoorLaw
import Derived.Test.YtohpfhpkimmmbaaGreatDoorCards
import Derived.Test.YtohpfhpkimmmbaaGreatDoorTie
import Derived.Lib.LaidIn
import Derived.LaidHandle
import Derived.LaidLaws
import Derived.Deep.DeepHandedRow
import Derived.Deep.DeepWitnessRowRef
import Derived.ProofKit
namespace Go.Proofs.YtohpfhpkimmmbaaGreatDoor
open Go.ChangeMaps (open_string shut_string)
open Go.Shelf Go.ChangeShapes Go.WideShapes Go.ChangeAt Go.RowKit Go.Lib Go.Proofs.Law

theorem hr_own : ownKnob Tryz.prog.godebug = none := by kernel_rfl
theorem hr_laidOut : laidOutB Tryz.prog = true := by kernel_rfl
theorem hr_et : Tryz.prog.globalNamed "errors.errorType" = some 3 := by kernel_rfl
theorem hr_rt : (Tryz.prog.cutTypes.find? (·.1 == "internal/reflectlite.rtype")).map (·.2) = some 303 := by kernel_rfl
theorem hr_oneRow : ((List.range 380).filter fun t => Tryz.prog.rowNamed t [101, 114, 114, 111, 114]) = [28] := by kernel_rfl
theorem hr_typesSize : Tryz.prog.types.size = 380 := by kernel_rfl
theorem hr_parts {W : World} (h : laidMetH Tryz.prog Rows.headReadsRow.laid W) : laidMet Tryz.prog [("unicode/utf8.acceptRanges", Rows.laid_unicode_utf8_acceptRanges), ("letterbox/letterboxref.Fine", Rows.laid_letterbox_letterboxref_Fine), ("unicode/utf8.first", Rows.laid_unicode_utf8_first)] W ∧ handlesMet Tryz.prog [("errors.errorType", Rows.laid_errors_errorType)] W := h
theorem hr_err {W : World} (h : handlesMet Tryz.prog [("errors.errorType", Rows.laid_errors_errorType)] W) : ErrType W := by
  obtain ⟨name, u, ty, e1, e2, e3, e4, e5⟩ := h _ (List.mem_singleton.2 rfl)
  have en : name = [101, 114, 114, 111, 114] := (Option.some.inj e1).symm
  subst en
  obtain rfl := Option.some.inj (hr_rt.symm.trans e2)
  have hm : ty ∈ (List.range 380).filter fun t => Tryz.prog.rowNamed t [101, 114, 114, 111, 114] := List.mem_filter.2 ⟨List.mem_range.2 (by rw [← hr_typesSize]; exact e3), e4⟩
  rw [hr_oneRow] at hm
  obtain rfl := List.mem_singleton.1 hm
  have hh : typeHandle Tryz.prog 28 = .pointer (some ⟨11, 28, none⟩) := by kernel_rfl
  rw [hh] at e5
  show W.cell? ⟨3, 0, none⟩ = some (.iface 303 (.agg #[.pointer (some ⟨11, 28, none⟩)]))
  simpa using World.var?_cell hr_et e5 0
theorem two_of {l : List Value} (h : l.length = 2) : ∃ a b, l = [a, b] := by
  match l, h with
  | [a, b], _ => exact ⟨a, b, rfl⟩
theorem hr_fine {W : World} (h : VarReads Tryz.prog W "letterbox/letterboxref.Fine" Rows.laid_letterbox_letterboxref_Fine) : W.cell? ⟨0, 0, none⟩ = some (.int .i64 0) ∧ W.cell? ⟨0, 1, none⟩ = some (.int .i64 (-1)) := by
  obtain ⟨g', t', cs, fuel, p, h1, h2, h3, h4⟩ := h
  have hg : Tryz.prog.globalNamed "letterbox/letterboxref.Fine" = some 0 := by kernel_rfl
  have ht : (Tryz.prog.globals[(0 : Nat)]?).map (·.type) = some 59 := by kernel_rfl
  obtain rfl : (0 : Nat) = g' := Option.some.inj (hg.symm.trans h1)
  obtain rfl : (59 : Nat) = t' := Option.some.inj (ht.symm.trans h2)
  obtain ⟨y0, y1, n, hx, hl, g0, g1⟩ := trod_struct2 Tryz.underlying59 h4
  have hl2 : cs.toList.length = 2 := hl.trans (by kernel_rfl)
  obtain ⟨cl⟩ := cs
  obtain ⟨v0, v1, rfl⟩ : ∃ v0 v1, cl = [v0, v1] := two_of hl2
  have c0 : Tryz.prog.cellsOf 24 = 1 := by kernel_rfl
  have c1 : Tryz.prog.cellsOf 3 = 1 := by kernel_rfl
  obtain ⟨x, hx0, hd0, _⟩ := DataW.trod_int (t := 24) (k := .i64) Tryz.underlying24 (by simpa [c0] using g0)
  obtain ⟨y, hy0, hd1, _⟩ := DataW.trod_int (t := 3) (k := .i64) Tryz.underlying3 (by simpa [c1] using g1)
  have hxx : Rows.laid_letterbox_letterboxref_Fine (H := Unit) = .agg [.lit (.int .i64 x), .lit (.int .i64 y)] := by
    have := congrArg Prod.fst hx
    rw [hd0, hd1] at this
    exact this
  have hz : x = 0 ∧ y = -1 := by
    have e : (DataW.agg [.lit (.int .i64 0), .lit (.int .i64 (-1))] : DataW Unit) = .agg [.lit (.int .i64 x), .lit (.int .i64 y)] := hxx
    simp at e
    exact ⟨e.1.symm, e.2.symm⟩
  obtain ⟨rfl, rfl⟩ := hz
  simp only [List.cons.injEq, and_true] at hx0 hy0
  subst hx0
  subst hy0
  exact ⟨by rw [World.var?_cell hg h3 0]; rfl, by rw [World.var?_cell hg h3 1]; rfl⟩
/-- The witness's world: the two tables as their initialisers lay them. -/
def hr_two : DataW Unit → Array Value
  | .agg l => (l.flatMap fun | .agg m => m.map cellOf | x => [cellOf x]).toArray
  | _ => #[]
def hr_put (w : World) (g : Nat) (cs : Array Value) : World := { w with heap := w.heap.modify g fun | .cells _ t frozen => .cells cs t frozen | o => o }
noncomputable def hr_world (os : Os) : World :=
  hr_put (lay (lay (hr_put (World.holding Tryz.prog os ⟨#[], #[], []⟩) 5 (hr_two Rows.laid_unicode_utf8_acceptRanges)) 4 Rows.laid_unicode_utf8_first) 0 Rows.laid_letterbox_letterboxref_Fine) 3 #[.iface 303 (.agg #[.pointer (some ⟨11, 28, none⟩)])]
theorem hr_laid_met (os : Os) (args : Array Value) : laidMetH Tryz.prog Rows.headReadsRow.laid ((hr_world os).forCall (fun _ _ => 0) ⟨#[], args, []⟩).memory :=
  laidMetH_of_parts (LaidIn.of_run (l := [("unicode/utf8.acceptRanges", Rows.laid_unicode_utf8_acceptRanges), ("letterbox/letterboxref.Fine", Rows.laid_letterbox_letterboxref_Fine), ("unicode/utf8.first", Rows.laid_unicode_utf8_first)])
    [5, 0, 4] 8 (by kernel_rfl) (by kernel_rfl) (by kernel_rfl) (by kernel_rfl)).met (by kernel_rfl)
theorem hr_witness (os : Os) {H : Type} (enc : TypeId × Value → H) :
    (OpenSpec.ofChange Rows.headReadsSpec).preRow enc Tryz.prog Tryz.f5 Rows.headReadsRow.domain false Rows.headReadsRow.laid ((hr_world os).forCall (fun _ _ => 0) ⟨#[], #[.string ⟨#[]⟩, .string ⟨#[]⟩, .string ⟨#[]⟩], []⟩).memory #[.string ⟨#[]⟩, .string ⟨#[]⟩, .string ⟨#[]⟩] := by
  have hw : (DataW.whole enc Tryz.prog ((hr_world os).forCall (fun _ _ => 0) ⟨#[], #[.string ⟨#[]⟩, .string ⟨#[]⟩, .string ⟨#[]⟩], []⟩).memory Tryz.f5.params.toList Rows.headReadsSpec.vars false (#[.string ⟨#[]⟩, .string ⟨#[]⟩, .string ⟨#[]⟩] : Array Value).toList 8).map (fun x => (x.1, x.2.1)) =
      some ([.lit (.string []), .lit (.string []), .lit (.string [])], []) := by kernel_rfl
  obtain ⟨⟨x1, x2, x3⟩, hx, hx1⟩ := Option.map_eq_some_iff.1 hw
  simp only [Prod.mk.injEq] at hx1
  obtain ⟨rfl, rfl⟩ := hx1
  exact OpenSpec.preRow_of_cond 8 hx (by kernel_rfl) (fun k hk => by cases hk) (by kernel_rfl) (hr_laid_met os _)
theorem hr_read : ∀ t ∈ Tryz.f5.params.toList, Tryz.prog.readableRec t = true ∧ t < Tryz.prog.types.size := by
  have h : (Tryz.f5.params.toList.all fun t => Tryz.prog.readableRec t && decide (t < Tryz.prog.types.size)) = true := by kernel_rfl
  intro t ht
  have := List.all_eq_true.1 h t ht
  simpa using this
set_option maxRecDepth 100000 in
set_option maxHeartbeats 2000000 in
theorem hr_lifted (os : Os) (started : os.Started) (H : Type) (enc : TypeId × Value → H) (F : Stop.Interp) :
    ReturnsInHanded {} Tryz.checked os 5 .any ((OpenSpec.ofChange Rows.headReadsSpec).preRow enc Tryz.prog Tryz.f5 Rows.headReadsRow.domain false Rows.headReadsRow.laid) (((OpenSpec.ofChange Rows.headReadsSpec).at F).post enc Tryz.prog Tryz.f5 false true false false) := by
  refine returnsInHanded_of_row (C := Tryz.checked) (s := OpenSpec.ofChange Rows.headReadsSpec) hr_own started (by kernel_rfl) Tryz.func5
    (witness_row_atRef (enc := enc) (C := Tryz.checked) false (hr_world os) #[.string ⟨#[]⟩, .string ⟨#[]⟩, .string ⟨#[]⟩] rfl (by kernel_rfl) (by kernel_rfl) (by kernel_rfl) (hr_witness os enc)) ?_
  intro W base args ds gs before hval0 hW _ _ _ hL hS _
  have hval : ∀ (j : Nat) t v, Tryz.f5.params[j]? = some t → args[j]? = some v → Value.okWide Tryz.prog W .any base t v := hval0
  have hW' := hW
  obtain ⟨p, q, hA0, hV0, rfl, _, _⟩ := hW
  have hA : DataW.TrodAll enc Tryz.prog W 0 (fun _ => true) true Tryz.f5.params.toList args.toList ds p := hA0
  have hK := hA
  have hlt : ∀ x ∈ p, x.block < W.heap.size := fun x hx => hW'.lt x (by simp [hx])
  rw [Tryz.params5] at hA hval
  obtain ⟨l⟩ := args
  obtain ⟨v0, l, d0, ds, p0, p, rfl, rfl, rfl, t0, hA⟩ := trodAll_cons hA
  obtain ⟨v1, l, d1, ds, p1, p, rfl, rfl, rfl, t1, hA⟩ := trodAll_cons hA
  obtain ⟨v2, l, d2, ds, p2, p, rfl, rfl, rfl, t2, hA⟩ := trodAll_cons hA
  obtain ⟨rfl, rfl, rfl⟩ := trodAll_nil hA
  obtain ⟨rfl, rfl⟩ := trodVars_none hV0
  obtain ⟨s, rfl, rfl, rfl, _⟩ := open_string Tryz.underlying9 (hval 0 _ v0 rfl rfl) t0
  obtain ⟨b, rfl, rfl, rfl, _⟩ := open_string Tryz.underlying9 (hval 1 _ v1 rfl rfl) t1
  obtain ⟨c, rfl, rfl, rfl, _⟩ := open_string Tryz.underlying9 (hval 2 _ v2 rfl rfl) t2
  clear hA0 hV0 hval0 hval hA t0 t1 t2
  obtain ⟨mx, hm⟩ := Go.Proofs.cell_of_shapedOpen_int (g := 2) (zero := #[.int .i64 0]) (t := 3) hS (of_decide_eq_true (by kernel_rfl)) (by kernel_rfl) rfl (by kernel_rfl) (by kernel_rfl) Tryz.underlying3
  obtain ⟨hLd, hLh⟩ := hr_parts hL
  have hfine := hr_fine (Lib.laidMet.reads hLd (.tail _ (.head _)))
  have hall : Calls Tryz.prog 5 #[.string s, .string b, .string c] W fun e w' => e = .returned (.bool true) ∧ Below W.heap.size W w' := by
    by_cases hbig : 1500 < s.size ∨ 100 < b.size ∨ 300 < c.size
    · exact reads_big s b c W hbig
    · exact reads_small s b c mx W (by omega) (by omega) (by omega) hm (hr_err hLh) hfine.1 hfine.2
  refine hall.mono ?_
  rintro e W' ⟨rfl, bel⟩
  have e1 : ((OpenSpec.ofChange Rows.headReadsSpec).at F).fn H ([.lit (.string s.data.toList), .lit (.string b.data.toList), .lit (.string c.data.toList)] ++ []) = { results := [.lit (.bool true)], args := [.lit (.string s.data.toList), .lit (.string b.data.toList), .lit (.string c.data.toList)] } := rfl
  refine ⟨_, rfl, _, _, _, [], [] ++ ([] ++ ([] ++ [])), [], hW', ?_, ?_, ?_, bel.frame _, fun h => by cases h⟩
  · rw [e1]; exact trodAll_mk1 (shut_bool Tryz.underlying4 _)
  · rw [e1]; exact Law.trodAll_carry hr_laidOut bel _ _ _ _ hr_read hK hlt
  · rw [e1]; rfl

theorem hr_said : Rows.HeadReadsSaid :=
  OpenClaim.holds_of_cond 5 Tryz.f5 rfl rfl rfl rfl rfl rfl rfl ⟨rfl, rfl, rfl, rfl, rfl⟩ rfl rfl rfl rfl rfl (by kernel_rfl) Tryz.func5 (by kernel_rfl)
    (of_decide_eq_true (by kernel_rfl)) (by unfold Func.isWrapper; rw [if_neg (of_decide_eq_false (by kernel_rfl))]; exact ⟨rfl, rfl⟩)
    (fun os started H enc _ F => by rw [OpenClaim.pre_eq_preRow]; exact hr_lifted os started H enc F)

theorem hr_plain (f : FuncId) (fn : Func) (hf : Tryz.pinned.checked.prog.funcNamed "letterbox/letterboxlaw.HeadReads" = some f) (hfn : Tryz.pinned.checked.prog.funcs[f]? = some fn) :
    true = Tryz.pinned.checked.prog.looks [] ∧ ∀ (j : Nat) t, fn.params[j]? = some t → Tryz.pinned.checked.prog.wantsStandIn t = false := by
  obtain rfl : f = 5 := Option.some.inj ((show Tryz.prog.funcNamed "letterbox/letterboxlaw.HeadReads" = some 5 by kernel_rfl).symm.trans hf) |>.symm
  obtain rfl : fn = Tryz.f5 := (Option.some.inj (Tryz.func5.symm.trans hfn)).symm
  refine ⟨by kernel_rfl, fun j t ht => ?_⟩
  have h : (Tryz.f5.params.toList.all fun t => !Tryz.prog.wantsStandIn t) = true := by kernel_rfl
  have := List.all_eq_true.1 h t (by simpa using Array.mem_of_getElem? ht)
  exact (show Tryz.prog.wantsStandIn t = false by simpa using this)

theorem headReads_card : Rows.HeadReadsCardSaid :=
  Claim7.holds_tied_plain_at .later [] _ _ _ _ hr_said (fun _ h => by cases h) (by kernel_rfl) (fun _ h => by cases h) headReads_row_tie rfl ⟨rfl, rfl⟩ (by kernel_rfl) rfl hr_plain (by kernel_rfl)
end Go.Proofs.YtohpfhpkimmmbaaGreatDoor
