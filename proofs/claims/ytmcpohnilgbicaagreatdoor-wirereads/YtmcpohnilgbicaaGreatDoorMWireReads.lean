/-
  WireReads returns true and leaves its arguments as they were, for every two texts; the tables of packages math/bits, internal/strconv and unicode/utf8, errors.errorType, strconv.ErrRange, strconv.ErrSyntax and letterboxref.Fine lie as their initialisers lay them.
-/
import Derived.Test.YtmcpohnilgbicaaGreatDoorMRwReads
import Derived.Test.YtmcpohnilgbicaaGreatDoorLaw
import Derived.Test.YtmcpohnilgbicaaGreatDoorCards
import Derived.Test.YtmcpohnilgbicaaGreatDoorTie
import Derived.Lib.LaidIn
import Derived.LaidHandle
import Derived.LaidLaws
import Derived.Deep.DeepHandedRow
import Derived.Deep.DeepWitnessRowRef
import Derived.ProofKit
namespace Go.Proofs.YtmcpohnilgbicaaGreatDoor
open Go.ChangeMaps (open_string shut_string)
open Go.Shelf Go.ChangeShapes Go.WideShapes Go.ChangeAt Go.RowKit Go.Lib Go.Proofs.Sq Go.Proofs.Law

theorem wl_own : ownKnob Tryz.prog.godebug = none := by kernel_rfl
theorem wl_laidOut : laidOutB Tryz.prog = true := by kernel_rfl
theorem wl_pow_eq : Rows.laid_internal_strconv_uint64pow10 (H := Unit) = Lib.tabData .u64 Lib.pow10Tab := by kernel_rfl
theorem wl_et : Tryz.prog.globalNamed "errors.errorType" = some 2 := by kernel_rfl
theorem wl_rt : (Tryz.prog.cutTypes.find? (·.1 == "internal/reflectlite.rtype")).map (·.2) = some 143 := by kernel_rfl
theorem wl_oneRow : ((List.range 201).filter fun t => Tryz.prog.rowNamed t [101, 114, 114, 111, 114]) = [26] := by kernel_rfl
theorem wl_typesSize : Tryz.prog.types.size = 201 := by kernel_rfl
theorem wl_parts {W : World} (h : laidMetH Tryz.prog Rows.wireReadsRow.laid W) : laidMet Tryz.prog [("math/bits.deBruijn32tab", Rows.laid_math_bits_deBruijn32tab), ("math/bits.deBruijn64tab", Rows.laid_math_bits_deBruijn64tab), ("internal/strconv.uint64pow10", Rows.laid_internal_strconv_uint64pow10), ("unicode/utf8.acceptRanges", Rows.laid_unicode_utf8_acceptRanges), ("strconv.ErrRange", Rows.laid_strconv_ErrRange), ("strconv.ErrSyntax", Rows.laid_strconv_ErrSyntax), ("letterbox/letterboxref.Fine", Rows.laid_letterbox_letterboxref_Fine), ("unicode/utf8.first", Rows.laid_unicode_utf8_first)] W ∧ handlesMet Tryz.prog [("errors.errorType", Rows.laid_errors_errorType)] W := h
theorem wl_err {W : World} (h : handlesMet Tryz.prog [("errors.errorType", Rows.laid_errors_errorType)] W) : ErrType W := by
  obtain ⟨name, u, ty, e1, e2, e3, e4, e5⟩ := h _ (List.mem_singleton.2 rfl)
  have en : name = [101, 114, 114, 111, 114] := (Option.some.inj e1).symm
  subst en
  obtain rfl := Option.some.inj (wl_rt.symm.trans e2)
  have hm : ty ∈ (List.range 201).filter fun t => Tryz.prog.rowNamed t [101, 114, 114, 111, 114] := List.mem_filter.2 ⟨List.mem_range.2 (by rw [← wl_typesSize]; exact e3), e4⟩
  rw [wl_oneRow] at hm
  obtain rfl := List.mem_singleton.1 hm
  have hh : typeHandle Tryz.prog 26 = .pointer (some ⟨10, 26, none⟩) := by kernel_rfl
  rw [hh] at e5
  show W.cell? ⟨2, 0, none⟩ = some (.iface 143 (.agg #[.pointer (some ⟨10, 26, none⟩)]))
  simpa using World.var?_cell wl_et e5 0
theorem wl_tab {W : World} (h : VarReads Tryz.prog W "internal/strconv.uint64pow10" Rows.laid_internal_strconv_uint64pow10) : Lib.TabIs Tryz.prog W "internal/strconv.uint64pow10" .u64 Lib.pow10Tab := by
  refine Law.tabIs_of_reads (g := 3) (t := 155) (e := 128) (n := 20) (by kernel_rfl) (by kernel_rfl) (by kernel_rfl) (by kernel_rfl) (by kernel_rfl) (by kernel_rfl) ?_
  rw [← wl_pow_eq]
  exact h
/-- A variable that is laid as an error holds one. -/
theorem wl_iface {W : World} {n nm : String} {d : DataW Unit} {g : Nat} {t : TypeId} {ms : Array (String × TypeId)} (h : VarReads Tryz.prog W n (.iface nm d)) (hg : Tryz.prog.globalNamed n = some g) (ht : (Tryz.prog.globals[g]?).map (·.type) = some t) (hu : Tryz.prog.underlying t = some (.interface ms)) : ∃ u v, W.cell? ⟨g, 0, none⟩ = some (.iface u v) := by
  obtain ⟨g', t', cs, fuel, p, h1, h2, h3, h4⟩ := h
  obtain rfl : g = g' := Option.some.inj (hg.symm.trans h1)
  obtain rfl : t = t' := Option.some.inj (ht.symm.trans h2)
  obtain ⟨_, u, v, hcs, _⟩ := iface_of_trod hu h4
  refine ⟨u, v, ?_⟩
  rw [World.var?_cell hg h3 0, ← Array.getElem?_toList, hcs]
  rfl
theorem wl_num {W : World} (hR : ∃ u v, W.cell? ⟨5, 0, none⟩ = some (.iface u v)) (hS : ∃ u v, W.cell? ⟨4, 0, none⟩ = some (.iface u v)) (hT : Lib.TabIs Tryz.prog W "internal/strconv.uint64pow10" .u64 Lib.pow10Tab) : NumAt W := fun W' hb => by
  obtain ⟨u, v, h⟩ := hR
  obtain ⟨u', v', h'⟩ := hS
  exact ⟨⟨u', v', (hb.cell (World.block_lt_of_cell? _ _ h')).trans h'⟩, ⟨u, v, (hb.cell (World.block_lt_of_cell? _ _ h)).trans h⟩, Lib.tabBelow_of_tabIs hT W' hb⟩
theorem two_of {l : List Value} (h : l.length = 2) : ∃ a b, l = [a, b] := by
  match l, h with
  | [a, b], _ => exact ⟨a, b, rfl⟩
theorem wl_fine {W : World} (h : VarReads Tryz.prog W "letterbox/letterboxref.Fine" Rows.laid_letterbox_letterboxref_Fine) : W.cell? ⟨0, 0, none⟩ = some (.int .i64 0) ∧ W.cell? ⟨0, 1, none⟩ = some (.int .i64 (-1)) := by
  obtain ⟨g', t', cs, fuel, p, h1, h2, h3, h4⟩ := h
  have hg : Tryz.prog.globalNamed "letterbox/letterboxref.Fine" = some 0 := by kernel_rfl
  have ht : (Tryz.prog.globals[(0 : Nat)]?).map (·.type) = some 34 := by kernel_rfl
  obtain rfl : (0 : Nat) = g' := Option.some.inj (hg.symm.trans h1)
  obtain rfl : (34 : Nat) = t' := Option.some.inj (ht.symm.trans h2)
  obtain ⟨y0, y1, n, hx, hl, g0, g1⟩ := trod_struct2 Tryz.underlying34 h4
  have hl2 : cs.toList.length = 2 := hl.trans (by kernel_rfl)
  obtain ⟨cl⟩ := cs
  obtain ⟨v0, v1, rfl⟩ : ∃ v0 v1, cl = [v0, v1] := two_of hl2
  have c0 : Tryz.prog.cellsOf 22 = 1 := by kernel_rfl
  have c1 : Tryz.prog.cellsOf 3 = 1 := by kernel_rfl
  obtain ⟨x, hx0, hd0, _⟩ := DataW.trod_int (t := 22) (k := .i64) Tryz.underlying22 (by simpa [c0] using g0)
  obtain ⟨y, hy0, hd1, _⟩ := DataW.trod_int (t := 3) (k := .i64) Tryz.underlying3 (by simpa [c1] using g1)
  have hxx : Rows.laid_letterbox_letterboxref_Fine (H := Unit) = .agg [.lit (.int .i64 x), .lit (.int .i64 y)] := by
    have := congrArg Prod.fst hx
    rw [hd0, hd1] at this
    exact this
  have hz : x = 0 ∧ y = -1 := by
    have e : (DataW.agg [.lit (.int .i64 0), .lit (.int .i64 (-1))] : DataW Unit) = .agg [.lit (.int .i64 x), .lit (.int .i64 y)] := hxx
    simp at e
    exact ⟨e.1.symm, e.2.symm⟩
  obtain ⟨rfl, rfl⟩ := hz
  simp only [List.cons.injEq, and_true] at hx0 hy0
  subst hx0
  subst hy0
  exact ⟨by rw [World.var?_cell hg h3 0]; rfl, by rw [World.var?_cell hg h3 1]; rfl⟩
def wl_two : DataW Unit → Array Value
  | .agg l => (l.flatMap fun | .agg m => m.map cellOf | x => [cellOf x]).toArray
  | _ => #[]
/-- A variable's cells, laid. -/
def wl_put (w : World) (g : Nat) (cs : Array Value) : World := { w with heap := w.heap.modify g fun | .cells _ t frozen => .cells cs t frozen | o => o }
noncomputable def wl_low : Nat := (World.holding Tryz.prog default ⟨#[], #[], []⟩).heap.size
noncomputable def wl_world (os : Os) : World :=
  wl_put (wl_put (wl_put (lay (lay (wl_put (lay (lay (lay (World.holding Tryz.prog os ⟨#[.cells #[.string ⟨#[118, 97, 108, 117, 101, 32, 111, 117, 116, 32, 111, 102, 32, 114, 97, 110, 103, 101]⟩] 171, .cells #[.string ⟨#[105, 110, 118, 97, 108, 105, 100, 32, 115, 121, 110, 116, 97, 120]⟩] 171], #[], []⟩) 3 Rows.laid_internal_strconv_uint64pow10) 8 Rows.laid_math_bits_deBruijn32tab) 9 Rows.laid_math_bits_deBruijn64tab) 7 (wl_two Rows.laid_unicode_utf8_acceptRanges)) 6 Rows.laid_unicode_utf8_first) 0 Rows.laid_letterbox_letterboxref_Fine)
    2 #[.iface 143 (.agg #[.pointer (some ⟨10, 26, none⟩)])])
    5 #[.iface 169 (.pointer (some ⟨wl_low, 0, none⟩))]) 4 #[.iface 169 (.pointer (some ⟨wl_low + 1, 0, none⟩))]
theorem wl_laid_met (os : Os) (args : Array Value) : laidMetH Tryz.prog Rows.wireReadsRow.laid ((wl_world os).forCall (fun _ _ => 0) ⟨#[], args, []⟩).memory :=
  laidMetH_of_parts (LaidIn.of_run (l := [("math/bits.deBruijn32tab", Rows.laid_math_bits_deBruijn32tab), ("math/bits.deBruijn64tab", Rows.laid_math_bits_deBruijn64tab), ("internal/strconv.uint64pow10", Rows.laid_internal_strconv_uint64pow10), ("unicode/utf8.acceptRanges", Rows.laid_unicode_utf8_acceptRanges), ("strconv.ErrRange", Rows.laid_strconv_ErrRange), ("strconv.ErrSyntax", Rows.laid_strconv_ErrSyntax), ("letterbox/letterboxref.Fine", Rows.laid_letterbox_letterboxref_Fine), ("unicode/utf8.first", Rows.laid_unicode_utf8_first)])
    [8, 9, 3, 7, 5, 4, 0, 6, wl_low, wl_low + 1] 8 (by kernel_rfl) (by kernel_rfl) (by kernel_rfl) (by kernel_rfl)).met (by kernel_rfl)

theorem wl_witness (os : Os) {H : Type} (enc : TypeId × Value → H) :
    (OpenSpec.ofChange Rows.wireReadsSpec).preRow enc Tryz.prog Tryz.f3 Rows.wireReadsRow.domain false Rows.wireReadsRow.laid ((wl_world os).forCall (fun _ _ => 0) ⟨#[], #[.string ⟨#[]⟩, .string ⟨#[]⟩], []⟩).memory #[.string ⟨#[]⟩, .string ⟨#[]⟩] := by
  have hw : (DataW.whole enc Tryz.prog ((wl_world os).forCall (fun _ _ => 0) ⟨#[], #[.string ⟨#[]⟩, .string ⟨#[]⟩], []⟩).memory Tryz.f3.params.toList Rows.wireReadsSpec.vars false (#[.string ⟨#[]⟩, .string ⟨#[]⟩] : Array Value).toList 8).map (fun x => (x.1, x.2.1)) =
      some ([.lit (.string []), .lit (.string [])], []) := by kernel_rfl
  obtain ⟨⟨x1, x2, x3⟩, hx, hx1⟩ := Option.map_eq_some_iff.1 hw
  simp only [Prod.mk.injEq] at hx1
  obtain ⟨rfl, rfl⟩ := hx1
  exact OpenSpec.preRow_of_cond 8 hx (by kernel_rfl) (fun k hk => by cases hk) (by kernel_rfl) (wl_laid_met os _)

theorem wl_read : ∀ t ∈ Tryz.f3.params.toList, Tryz.prog.readableRec t = true ∧ t < Tryz.prog.types.size := by
  have h : (Tryz.f3.params.toList.all fun t => Tryz.prog.readableRec t && decide (t < Tryz.prog.types.size)) = true := by kernel_rfl
  intro t ht
  have := List.all_eq_true.1 h t ht
  simpa using this
set_option maxRecDepth 100000 in
set_option maxHeartbeats 2000000 in
theorem wl_lifted (os : Os) (started : os.Started) (H : Type) (enc : TypeId × Value → H) (F : Stop.Interp) :
    ReturnsInHanded {} Tryz.checked os 3 .any ((OpenSpec.ofChange Rows.wireReadsSpec).preRow enc Tryz.prog Tryz.f3 Rows.wireReadsRow.domain false Rows.wireReadsRow.laid) (((OpenSpec.ofChange Rows.wireReadsSpec).at F).post enc Tryz.prog Tryz.f3 false true false false) := by
  refine returnsInHanded_of_row (C := Tryz.checked) (s := OpenSpec.ofChange Rows.wireReadsSpec) wl_own started (by kernel_rfl) Tryz.func3
    (witness_row_atRef (enc := enc) (C := Tryz.checked) false (wl_world os) #[.string ⟨#[]⟩, .string ⟨#[]⟩] rfl (by kernel_rfl) (by kernel_rfl) (by kernel_rfl) (wl_witness os enc)) ?_
  intro W base args ds gs before hval0 hW _ _ _ hL hS _
  have hval : ∀ (j : Nat) t v, Tryz.f3.params[j]? = some t → args[j]? = some v → Value.okWide Tryz.prog W .any base t v := hval0
  have hW' := hW
  obtain ⟨p, q, hA0, hV0, rfl, _, _⟩ := hW
  have hA : DataW.TrodAll enc Tryz.prog W 0 (fun _ => true) true Tryz.f3.params.toList args.toList ds p := hA0
  have hK := hA
  have hlt : ∀ x ∈ p, x.block < W.heap.size := fun x hx => hW'.lt x (by simp [hx])
  rw [Tryz.params3] at hA hval
  obtain ⟨l⟩ := args
  obtain ⟨v0, l, d0, ds, p0, p, rfl, rfl, rfl, t0, hA⟩ := trodAll_cons hA
  obtain ⟨v1, l, d1, ds, p1, p, rfl, rfl, rfl, t1, hA⟩ := trodAll_cons hA
  obtain ⟨rfl, rfl, rfl⟩ := trodAll_nil hA
  obtain ⟨rfl, rfl⟩ := trodVars_none hV0
  obtain ⟨s, rfl, rfl, rfl, _⟩ := open_string Tryz.underlying9 (hval 0 _ v0 rfl rfl) t0
  obtain ⟨t, rfl, rfl, rfl, _⟩ := open_string Tryz.underlying9 (hval 1 _ v1 rfl rfl) t1
  clear hA0 hV0 hval0 hval hA t0 t1
  obtain ⟨mx, hm⟩ := Go.Proofs.cell_of_shapedOpen_int (g := 1) (zero := #[.int .i64 0]) (t := 3) hS (of_decide_eq_true (by kernel_rfl)) (by kernel_rfl) rfl (by kernel_rfl) (by kernel_rfl) Tryz.underlying3
  obtain ⟨hLd, hLh⟩ := wl_parts hL
  have hnum : NumAt W := wl_num (wl_iface (t := 26) (Lib.laidMet.reads hLd (.tail _ (.tail _ (.tail _ (.tail _ (.head _)))))) (by kernel_rfl) (by kernel_rfl) Tryz.underlying26) (wl_iface (t := 26) (Lib.laidMet.reads hLd (.tail _ (.tail _ (.tail _ (.tail _ (.tail _ (.head _))))))) (by kernel_rfl) (by kernel_rfl) Tryz.underlying26) (wl_tab (Lib.laidMet.reads hLd (.tail _ (.tail _ (.head _)))))
  have hfine : FineAt W := wl_fine (Lib.laidMet.reads hLd (.tail _ (.tail _ (.tail _ (.tail _ (.tail _ (.tail _ (.head _))))))))
  have hall : Calls Tryz.prog 3 #[.string s, .string t] W fun e w' => e = .returned (.bool true) ∧ Below W.heap.size W w' := by
    by_cases hbig : 2000 < s.size ∨ 200 < t.size
    · exact wreads_big s t W hbig
    · exact wreads_small s t mx W (by omega) (by omega) hnum (wl_err hLh) hfine hm
  refine hall.mono ?_
  rintro e W' ⟨rfl, bel⟩
  have e1 : ((OpenSpec.ofChange Rows.wireReadsSpec).at F).fn H ([.lit (.string s.data.toList), .lit (.string t.data.toList)] ++ []) = { results := [.lit (.bool true)], args := [.lit (.string s.data.toList), .lit (.string t.data.toList)] } := rfl
  refine ⟨_, rfl, _, _, _, [], [] ++ ([] ++ []), [], hW', ?_, ?_, ?_, bel.frame _, fun h => by cases h⟩
  · rw [e1]; exact trodAll_mk1 (shut_bool Tryz.underlying4 _)
  · rw [e1]; exact Law.trodAll_carry wl_laidOut bel _ _ _ _ wl_read hK hlt
  · rw [e1]; rfl

theorem wl_said : Rows.WireReadsSaid :=
  OpenClaim.holds_of_cond 3 Tryz.f3 rfl rfl rfl rfl rfl rfl rfl ⟨rfl, rfl, rfl, rfl, rfl⟩ rfl rfl rfl rfl rfl (by kernel_rfl) Tryz.func3 (by kernel_rfl)
    (of_decide_eq_true (by kernel_rfl)) (by unfold Func.isWrapper; rw [if_neg (of_decide_eq_false (by kernel_rfl))]; exact ⟨rfl, rfl⟩)
    (fun os started H enc _ F => by rw [OpenClaim.pre_eq_preRow]; exact wl_lifted os started H enc F)

theorem wl_plain (f : FuncId) (fn : Func) (hf : Tryz.pinned.checked.prog.funcNamed "letterbox/letterboxlaw.WireReads" = some f) (hfn : Tryz.pinned.checked.prog.funcs[f]? = some fn) :
    true = Tryz.pinned.checked.prog.looks [] ∧ ∀ (j : Nat) t, fn.params[j]? = some t → Tryz.pinned.checked.prog.wantsStandIn t = false := by
  obtain rfl : f = 3 := Option.some.inj ((show Tryz.prog.funcNamed "letterbox/letterboxlaw.WireReads" = some 3 by kernel_rfl).symm.trans hf) |>.symm
  obtain rfl : fn = Tryz.f3 := (Option.some.inj (Tryz.func3.symm.trans hfn)).symm
  refine ⟨by kernel_rfl, fun j t ht => ?_⟩
  have h : (Tryz.f3.params.toList.all fun t => !Tryz.prog.wantsStandIn t) = true := by kernel_rfl
  have := List.all_eq_true.1 h t (by simpa using Array.mem_of_getElem? ht)
  exact (show Tryz.prog.wantsStandIn t = false by simpa using this)

theorem wireReads_card : Rows.WireReadsCardSaid :=
  Claim7.holds_tied_plain_at .later [] _ _ _ _ wl_said (fun _ h => by cases h) (by kernel_rfl) (fun _ h => by cases h) wireReads_row_tie rfl ⟨rfl, rfl⟩ (by kernel_rfl) rfl wl_plain (by kernel_rfl)
end Go.Proofs.YtmcpohnilgbicaaGreatDoor
