/-
  SearchAlgebra at its arguments, as they are handed in.
-/
import Derived.Test.YtligkpcoajnjmaaGreatDoorRSearchAlgWalk
import Derived.Test.YtligkpcoajnjmaaGreatDoorRLawArgs
import Derived.Test.YtligkpcoajnjmaaGreatDoorRRows
import Derived.Lib.LaidIn
import Derived.LaidHandle
import Derived.LaidLaws
import Derived.Deep.DeepHandedRow
import Derived.Deep.DeepWitnessRowRef
import Derived.ProofKit
namespace Go.Proofs.YtligkpcoajnjmaaGreatDoorR
open Go.ChangeMaps (open_string shut_string)
open Go.Shelf Go.ChangeShapes Go.WideShapes Go.ChangeAt Go.RowKit Go.Lib Go.Proofs.Sq Go.Proofs.Law Go.Proofs.Fl

theorem sa_own : ownKnob Tryz.prog.godebug = none := by kernel_rfl
theorem sa_laidOut : laidOutB Tryz.prog = true := by kernel_rfl
theorem sa_pow_eq : Rows.laid_internal_strconv_uint64pow10 (H := Unit) = Lib.tabData .u64 Lib.pow10Tab := by kernel_rfl
theorem sa_et : Tryz.prog.globalNamed "errors.errorType" = some 3 := by kernel_rfl
theorem sa_rt : (Tryz.prog.cutTypes.find? (·.1 == "internal/reflectlite.rtype")).map (·.2) = some 299 := by kernel_rfl
theorem sa_oneRow : ((List.range 394).filter fun t => Tryz.prog.rowNamed t [101, 114, 114, 111, 114]) = [35] := by kernel_rfl
theorem sa_typesSize : Tryz.prog.types.size = 394 := by kernel_rfl
theorem sa_parts {W : World} (h : laidMetH Tryz.prog Rows.searchAlgebraUptoRow.laid W) : laidMet Tryz.prog [("math/bits.deBruijn32tab", Rows.laid_math_bits_deBruijn32tab), ("math/bits.deBruijn64tab", Rows.laid_math_bits_deBruijn64tab), ("internal/strconv.uint64pow10", Rows.laid_internal_strconv_uint64pow10), ("unicode/utf8.acceptRanges", Rows.laid_unicode_utf8_acceptRanges), ("strconv.ErrRange", Rows.laid_strconv_ErrRange), ("strconv.ErrSyntax", Rows.laid_strconv_ErrSyntax), ("letterbox/flags.system", Rows.laid_letterbox_flags_system), ("unicode/utf8.first", Rows.laid_unicode_utf8_first)] W ∧ handlesMet Tryz.prog [("errors.errorType", Rows.laid_errors_errorType)] W := h
theorem sa_err {W : World} (h : handlesMet Tryz.prog [("errors.errorType", Rows.laid_errors_errorType)] W) : ErrType W := by
  obtain ⟨name, u, ty, e1, e2, e3, e4, e5⟩ := h _ (List.mem_singleton.2 rfl)
  have en : name = [101, 114, 114, 111, 114] := (Option.some.inj e1).symm
  subst en
  obtain rfl := Option.some.inj (sa_rt.symm.trans e2)
  have hm : ty ∈ (List.range 394).filter fun t => Tryz.prog.rowNamed t [101, 114, 114, 111, 114] := List.mem_filter.2 ⟨List.mem_range.2 (by rw [← sa_typesSize]; exact e3), e4⟩
  rw [sa_oneRow] at hm
  obtain rfl := List.mem_singleton.1 hm
  have hh : typeHandle Tryz.prog 35 = .pointer (some ⟨11, 35, none⟩) := by kernel_rfl
  rw [hh] at e5
  show W.cell? ⟨3, 0, none⟩ = some (.iface 299 (.agg #[.pointer (some ⟨11, 35, none⟩)]))
  simpa using World.var?_cell sa_et e5 0
theorem sa_tab {W : World} (h : VarReads Tryz.prog W "internal/strconv.uint64pow10" Rows.laid_internal_strconv_uint64pow10) : Lib.TabIs Tryz.prog W "internal/strconv.uint64pow10" .u64 Lib.pow10Tab := by
  refine Law.tabIs_of_reads (g := 2) (t := 257) (e := 221) (n := 20) (by kernel_rfl) (by kernel_rfl) (by kernel_rfl) (by kernel_rfl) (by kernel_rfl) (by kernel_rfl) ?_
  rw [← sa_pow_eq]
  exact h
/-- A variable that is laid as an error holds one. -/
theorem sa_iface {W : World} {n nm : String} {d : DataW Unit} {g : Nat} {t : TypeId} {ms : Array (String × TypeId)} (h : VarReads Tryz.prog W n (.iface nm d)) (hg : Tryz.prog.globalNamed n = some g) (ht : (Tryz.prog.globals[g]?).map (·.type) = some t) (hu : Tryz.prog.underlying t = some (.interface ms)) : ∃ u v, W.cell? ⟨g, 0, none⟩ = some (.iface u v) := by
  obtain ⟨g', t', cs, fuel, p, h1, h2, h3, h4⟩ := h
  obtain rfl : g = g' := Option.some.inj (hg.symm.trans h1)
  obtain rfl : t = t' := Option.some.inj (ht.symm.trans h2)
  obtain ⟨_, u, v, hcs, _⟩ := iface_of_trod hu h4
  refine ⟨u, v, ?_⟩
  rw [World.var?_cell hg h3 0, ← Array.getElem?_toList, hcs]
  rfl
theorem sa_num {W : World} (hR : ∃ u v, W.cell? ⟨8, 0, none⟩ = some (.iface u v)) (hS : ∃ u v, W.cell? ⟨7, 0, none⟩ = some (.iface u v)) (hT : Lib.TabIs Tryz.prog W "internal/strconv.uint64pow10" .u64 Lib.pow10Tab) : NumAt W := fun W' hb => by
  obtain ⟨u, v, h⟩ := hR
  obtain ⟨u', v', h'⟩ := hS
  exact ⟨⟨u', v', (hb.cell (World.block_lt_of_cell? _ _ h')).trans h'⟩, ⟨u, v, (hb.cell (World.block_lt_of_cell? _ _ h)).trans h⟩, Lib.tabBelow_of_tabIs hT W' hb⟩
theorem sa_sys_eq : Rows.laid_letterbox_flags_system (H := Unit) = .agg (five.map fun s => .lit (.string s)) := by kernel_rfl
theorem sa_sys {W : World} (hr0 : VarReads Tryz.prog W "letterbox/flags.system" Rows.laid_letterbox_flags_system) : SysAt W := by
  have hr : Lib.VarReads Tryz.prog W "letterbox/flags.system" (.agg (five.map fun s => .lit (.string s))) := by
    rw [← sa_sys_eq]
    exact hr0
  have ht := Law.texts_of_reads (g := 4) (t := 240) (e := 9) (n := 5) (by kernel_rfl) (by kernel_rfl) (by kernel_rfl) (by kernel_rfl) (by kernel_rfl) (by kernel_rfl) hr
  intro j hj
  have hl : j < five.length := hj
  have := ht j _ (List.getElem?_eq_getElem hl)
  rw [this]
  unfold sysB
  rw [List.getD_eq_getElem?_getD, List.getElem?_eq_getElem hl]
  rfl
theorem sa_row {W : World} {fa : Option Addr} {fc : Nat} {l : List ByteArray} (h : Law.Tg W (.slice fa l.length fc) l) : Trow W fa l.length (l.map fun s => s.data.toList) := by
  obtain ⟨a, c, e, _, _, hd⟩ := h
  obtain ⟨rfl, _, rfl⟩ : fa = a ∧ l.length = l.length ∧ fc = c := by simpa using e
  refine ⟨by simp, ?_⟩
  rcases hd with rfl | ⟨b, o, rfl, hat⟩
  · exact Or.inl rfl
  · refine Or.inr ⟨b, o, rfl, fun j t hj => ?_⟩
    rw [List.getElem?_map, Option.map_eq_some_iff] at hj
    obtain ⟨s, hs, rfl⟩ := hj
    rw [hat j s hs]
/-- The witness's world: the tables, the two errors, errors.errorType as their initialisers lay them. -/
def sa_two : DataW Unit → Array Value
  | .agg l => (l.flatMap fun | .agg m => m.map cellOf | x => [cellOf x]).toArray
  | _ => #[]
def sa_put (w : World) (g : Nat) (cs : Array Value) : World := { w with heap := w.heap.modify g fun | .cells _ t frozen => .cells cs t frozen | o => o }
noncomputable def sa_low : Nat := (World.holding Tryz.prog default ⟨#[], #[], []⟩).heap.size
noncomputable def sa_world (os : Os) : World :=
  sa_put (sa_put (sa_put (lay (lay (sa_put (lay (lay (lay (World.holding Tryz.prog os ⟨#[.cells #[.string ⟨#[118, 97, 108, 117, 101, 32, 111, 117, 116, 32, 111, 102, 32, 114, 97, 110, 103, 101]⟩] 348, .cells #[.string ⟨#[105, 110, 118, 97, 108, 105, 100, 32, 115, 121, 110, 116, 97, 120]⟩] 348], #[], []⟩) 2 Rows.laid_internal_strconv_uint64pow10) 5 Rows.laid_math_bits_deBruijn32tab) 6 Rows.laid_math_bits_deBruijn64tab)
    10 (sa_two Rows.laid_unicode_utf8_acceptRanges)) 9 Rows.laid_unicode_utf8_first) 4 Rows.laid_letterbox_flags_system) 3 #[.iface 299 (.agg #[.pointer (some ⟨11, 35, none⟩)])])
    8 #[.iface 346 (.pointer (some ⟨sa_low, 0, none⟩))]) 7 #[.iface 346 (.pointer (some ⟨sa_low + 1, 0, none⟩))]
theorem sa_laid_met (os : Os) (args : Array Value) : laidMetH Tryz.prog Rows.searchAlgebraUptoRow.laid ((sa_world os).forCall (fun _ _ => 0) ⟨#[], args, []⟩).memory :=
  laidMetH_of_parts (LaidIn.of_run (l := [("math/bits.deBruijn32tab", Rows.laid_math_bits_deBruijn32tab), ("math/bits.deBruijn64tab", Rows.laid_math_bits_deBruijn64tab), ("internal/strconv.uint64pow10", Rows.laid_internal_strconv_uint64pow10), ("unicode/utf8.acceptRanges", Rows.laid_unicode_utf8_acceptRanges), ("strconv.ErrRange", Rows.laid_strconv_ErrRange), ("strconv.ErrSyntax", Rows.laid_strconv_ErrSyntax), ("letterbox/flags.system", Rows.laid_letterbox_flags_system), ("unicode/utf8.first", Rows.laid_unicode_utf8_first)])
    [5, 6, 2, 10, 8, 7, 4, 9, sa_low, sa_low + 1] 8 (by kernel_rfl) (by kernel_rfl) (by kernel_rfl) (by kernel_rfl)).met (by kernel_rfl)

theorem sa_witness (os : Os) {H : Type} (enc : TypeId × Value → H) :
    (Rows.OpenSpec.upto Rows.searchAlgebraSpec).preRow enc Tryz.prog Tryz.f3 Rows.searchAlgebraUptoRow.domain false Rows.searchAlgebraUptoRow.laid ((sa_world os).forCall (fun _ _ => 0) ⟨#[], #[.slice none 0 0, .slice none 0 0, .agg #[.int .i64 0, .slice none 0 0, .int .i64 0, .string ⟨#[]⟩], .int .i64 0, .int .i64 0, .int .i64 0], []⟩).memory #[.slice none 0 0, .slice none 0 0, .agg #[.int .i64 0, .slice none 0 0, .int .i64 0, .string ⟨#[]⟩], .int .i64 0, .int .i64 0, .int .i64 0] := by
  have hw : (DataW.whole enc Tryz.prog ((sa_world os).forCall (fun _ _ => 0) ⟨#[], #[.slice none 0 0, .slice none 0 0, .agg #[.int .i64 0, .slice none 0 0, .int .i64 0, .string ⟨#[]⟩], .int .i64 0, .int .i64 0, .int .i64 0], []⟩).memory Tryz.f3.params.toList Rows.searchAlgebraSpec.vars false (#[.slice none 0 0, .slice none 0 0, .agg #[.int .i64 0, .slice none 0 0, .int .i64 0, .string ⟨#[]⟩], .int .i64 0, .int .i64 0, .int .i64 0] : Array Value).toList 8).map (fun x => (x.1, x.2.1)) =
      some ([.nil, .nil, .agg [.lit (.int .i64 0), .nil, .lit (.int .i64 0), .lit (.string [])], .lit (.int .i64 0), .lit (.int .i64 0), .lit (.int .i64 0)], []) := by kernel_rfl
  obtain ⟨⟨x1, x2, x3⟩, hx, hx1⟩ := Option.map_eq_some_iff.1 hw
  simp only [Prod.mk.injEq] at hx1
  obtain ⟨rfl, rfl⟩ := hx1
  exact OpenSpec.preRow_of_cond 8 hx (by kernel_rfl) (fun k hk => by cases hk; kernel_rfl) (by kernel_rfl) (sa_laid_met os _)

theorem sa_read : ∀ t ∈ Tryz.f3.params.toList, Tryz.prog.readableRec t = true ∧ t < Tryz.prog.types.size := by
  have h : (Tryz.f3.params.toList.all fun t => Tryz.prog.readableRec t && decide (t < Tryz.prog.types.size)) = true := by kernel_rfl
  intro t ht
  have := List.all_eq_true.1 h t ht
  simpa using this
set_option maxRecDepth 100000 in
set_option maxHeartbeats 2000000 in
theorem sa_lifted (os : Os) (started : os.Started) (H : Type) (enc : TypeId × Value → H) (F : Stop.Interp) :
    ReturnsInHanded {} Tryz.checked os 3 .any ((Rows.OpenSpec.upto Rows.searchAlgebraSpec).preRow enc Tryz.prog Tryz.f3 Rows.searchAlgebraUptoRow.domain false Rows.searchAlgebraUptoRow.laid) (((Rows.OpenSpec.upto Rows.searchAlgebraSpec).at F).post enc Tryz.prog Tryz.f3 false true false false) := by
  refine returnsInHanded_of_row (C := Tryz.checked) (s := Rows.OpenSpec.upto Rows.searchAlgebraSpec) sa_own started (by kernel_rfl) Tryz.func3
    (witness_row_atRef (enc := enc) (C := Tryz.checked) false (sa_world os) #[.slice none 0 0, .slice none 0 0, .agg #[.int .i64 0, .slice none 0 0, .int .i64 0, .string ⟨#[]⟩], .int .i64 0, .int .i64 0, .int .i64 0] rfl (by kernel_rfl) (by kernel_rfl) (by kernel_rfl) (sa_witness os enc)) ?_
  intro W base args ds gs before hval0 hW _ hcond _ hL hS _
  have hval : ∀ (j : Nat) t v, Tryz.f3.params[j]? = some t → args[j]? = some v → Value.okWide Tryz.prog W .any base t v := hval0
  have hW' := hW
  obtain ⟨p, q, hA0, hV0, rfl, _, _⟩ := hW
  have hA : DataW.TrodAll enc Tryz.prog W 0 (fun _ => true) true Tryz.f3.params.toList args.toList ds p := hA0
  have hK := hA
  have hlt : ∀ x ∈ p, x.block < W.heap.size := fun x hx => hW'.lt x (by simp [hx])
  rw [Tryz.params3] at hA hval
  obtain ⟨l⟩ := args
  obtain ⟨v0, l, d0, ds, p0, p, rfl, rfl, rfl, t0, hA⟩ := trodAll_cons hA
  obtain ⟨v1, l, d1, ds, p1, p, rfl, rfl, rfl, t1, hA⟩ := trodAll_cons hA
  obtain ⟨v2, l, d2, ds, p2, p, rfl, rfl, rfl, t2, hA⟩ := trodAll_cons hA
  obtain ⟨v3, l, d3, ds, p3, p, rfl, rfl, rfl, t3, hA⟩ := trodAll_cons hA
  obtain ⟨v4, l, d4, ds, p4, p, rfl, rfl, rfl, t4, hA⟩ := trodAll_cons hA
  obtain ⟨v5, l, d5, ds, p5, p, rfl, rfl, rfl, t5, hA⟩ := trodAll_cons hA
  obtain ⟨rfl, rfl, rfl⟩ := trodAll_nil hA
  obtain ⟨rfl, rfl⟩ := trodVars_none hV0
  have hbulk : Rows.uptoBulkAll ([d0, d1, d2, d3, d4, d5] ++ []) ≤ 1048576 := of_decide_eq_true (hcond _ rfl)
  simp only [List.append_nil, Rows.uptoBulkAll] at hbulk
  obtain ⟨fu0, t0'⟩ := t0
  obtain ⟨fu1, t1'⟩ := t1
  obtain ⟨_, _, _, hc0⟩ := okWide_slice Tryz.underlying22 (hval 0 _ v0 rfl rfl)
  obtain ⟨_, _, _, hc1⟩ := okWide_slice Tryz.underlying22 (hval 1 _ v1 rfl rfl)
  obtain ⟨l0, g0⟩ := open_args Tryz.underlying22 Tryz.underlying41 (by kernel_rfl) rfl rfl rfl (by kernel_rfl) (by kernel_rfl) (by kernel_rfl) Tryz.underlying3 Tryz.underlying9 rfl 1048576 v0 (d0, p0) fu0 (by show Rows.uptoBulk d0 ≤ 1048576; omega) (by rw [hc0] at t0' ⊢; exact t0')
  obtain ⟨l1, g1⟩ := open_args Tryz.underlying22 Tryz.underlying41 (by kernel_rfl) rfl rfl rfl (by kernel_rfl) (by kernel_rfl) (by kernel_rfl) Tryz.underlying3 Tryz.underlying9 rfl 1048576 v1 (d1, p1) fu1 (by show Rows.uptoBulk d1 ≤ 1048576; omega) (by rw [hc1] at t1' ⊢; exact t1')
  obtain ⟨uid, day, tb, fa, fc, fl, rfl, g2⟩ := Law.open_letter Tryz.underlying25 (by kernel_rfl) (by kernel_rfl) Tryz.underlying3 Tryz.underlying23 Tryz.underlying9 (by kernel_rfl) Tryz.underlying3 Tryz.underlying9 (hval 2 _ v2 rfl rfl) t2
  obtain ⟨which, rfl, rfl, rfl, _⟩ := open_int Tryz.underlying3 (hval 3 _ v3 rfl rfl) t3
  obtain ⟨many, rfl, rfl, rfl, _⟩ := open_int Tryz.underlying3 (hval 4 _ v4 rfl rfl) t4
  obtain ⟨greatest, rfl, rfl, rfl, _⟩ := open_int Tryz.underlying3 (hval 5 _ v5 rfl rfl) t5
  clear hA0 hV0 hval0 hval hA t0' t1' t2 t3 t4 t5 hc0 hc1 hbulk hcond
  obtain ⟨mx, hm⟩ := Go.Proofs.cell_of_shapedOpen_int (g := 1) (zero := #[.int .i64 0]) (t := 3) hS (of_decide_eq_true (by kernel_rfl)) (by kernel_rfl) rfl (by kernel_rfl) (by kernel_rfl) Tryz.underlying3
  obtain ⟨hLd, hLh⟩ := sa_parts hL
  have hnum : NumAt W := sa_num (sa_iface (t := 35) (Lib.laidMet.reads hLd (.tail _ (.tail _ (.tail _ (.tail _ (.head _)))))) (by kernel_rfl) (by kernel_rfl) Tryz.underlying35) (sa_iface (t := 35) (Lib.laidMet.reads hLd (.tail _ (.tail _ (.tail _ (.tail _ (.tail _ (.head _))))))) (by kernel_rfl) (by kernel_rfl) Tryz.underlying35) (sa_tab (Lib.laidMet.reads hLd (.tail _ (.tail _ (.head _)))))
  have htab := sa_tab (Lib.laidMet.reads hLd (.tail _ (.tail _ (.head _))))
  have hsys : SysAt W := sa_sys (Lib.laidMet.reads hLd (.tail _ (.tail _ (.tail _ (.tail _ (.tail _ (.tail _ (.head _))))))))
  have herr := sa_err hLh
  have hall : Calls Tryz.prog 3 #[v0, v1, .agg #[.int .i64 uid, .slice fa fl.length fc, .int .i64 day, .string tb], .int .i64 which, .int .i64 many, .int .i64 greatest] W fun e w' => e = .returned (.bool true) ∧ Below W.heap.size W w' :=
    salg_is ⟨uid, fl.map fun s => s.data.toList, day, tb.data.toList, which, many, greatest⟩ l0 l1 v0 v1 tb fa fl.length fc W rfl (sa_row g2) (g0.grow (by omega)) (g1.grow (by omega))
      (fun W' hb => ⟨fun j hj => (hb.cell (World.block_lt_of_cell? _ _ (hsys j hj))).trans (hsys j hj), (hb.cell (World.block_lt_of_cell? _ _ herr)).trans herr, fun W2 h2 => hnum W2 (hb.trans (h2.mono hb.size)), mx, (hb.cell (World.block_lt_of_cell? _ _ hm)).trans hm⟩)
  refine hall.mono ?_
  rintro e W' ⟨rfl, bel⟩
  have e1 : ((Rows.OpenSpec.upto Rows.searchAlgebraSpec).at F).fn H ([d0, d1, d2, .lit (.int .i64 which), .lit (.int .i64 many), .lit (.int .i64 greatest)] ++ []) = { results := [.lit (.bool true)], args := [d0, d1, d2, .lit (.int .i64 which), .lit (.int .i64 many), .lit (.int .i64 greatest)] } := rfl
  refine ⟨_, rfl, _, _, _, [], p0 ++ (p1 ++ (p2 ++ ([] ++ ([] ++ ([] ++ []))))), [], hW', ?_, ?_, ?_, bel.frame _, fun h => by cases h⟩
  · rw [e1]; exact trodAll_mk1 (shut_bool Tryz.underlying4 _)
  · rw [e1]; exact Law.trodAll_carry sa_laidOut bel _ _ _ _ sa_read hK hlt
  · rw [e1]; rfl

end Go.Proofs.YtligkpcoajnjmaaGreatDoorR
