/-
  SearchFinds at its arguments, as they are handed in.
-/
import Derived.Test.YtogigccbnohjjaaGreatDoorMSfWalk
import Derived.Test.YtogigccbnohjjaaGreatDoorBpLaw
import Derived.Test.YtogigccbnohjjaaGreatDoorRows
import Derived.Lib.LaidIn
import Derived.LaidHandle
import Derived.LaidLaws
import Derived.Deep.DeepHandedRow
import Derived.Deep.DeepWitnessRowRef
import Derived.ProofKit
namespace Go.Proofs.YtogigccbnohjjaaGreatDoor
open Go.ChangeMaps (open_string shut_string)
open Go.Shelf Go.ChangeShapes Go.WideShapes Go.ChangeAt Go.RowKit Go.Lib Go.Proofs.Sq Go.Proofs.Law Go.Proofs.Fl
set_option maxHeartbeats 2000000
set_option maxRecDepth 100000
theorem sf_own : ownKnob Tryz.prog.godebug = none := by kernel_rfl
theorem sf_laidOut : laidOutB Tryz.prog = true := by kernel_rfl
theorem sf_pow_eq : Rows.laid_internal_strconv_uint64pow10 (H := Unit) = Lib.tabData .u64 Lib.pow10Tab := by kernel_rfl
theorem sf_et : Tryz.prog.globalNamed "errors.errorType" = some 2 := by kernel_rfl
theorem sf_rt : (Tryz.prog.cutTypes.find? (·.1 == "internal/reflectlite.rtype")).map (·.2) = some 193 := by kernel_rfl
theorem sf_oneRow : ((List.range 277).filter fun t => Tryz.prog.rowNamed t [101, 114, 114, 111, 114]) = [37] := by kernel_rfl
theorem sf_typesSize : Tryz.prog.types.size = 277 := by kernel_rfl
theorem sf_parts {W : World} (h : laidMetH Tryz.prog Rows.searchFindsRow.laid W) : laidMet Tryz.prog [("math/bits.deBruijn32tab", Rows.laid_math_bits_deBruijn32tab), ("math/bits.deBruijn64tab", Rows.laid_math_bits_deBruijn64tab), ("internal/strconv.uint64pow10", Rows.laid_internal_strconv_uint64pow10), ("unicode/utf8.acceptRanges", Rows.laid_unicode_utf8_acceptRanges), ("strconv.ErrRange", Rows.laid_strconv_ErrRange), ("strconv.ErrSyntax", Rows.laid_strconv_ErrSyntax), ("letterbox/flags.system", Rows.laid_letterbox_flags_system), ("letterbox/letterboxref.Fine", Rows.laid_letterbox_letterboxref_Fine), ("unicode/utf8.first", Rows.laid_unicode_utf8_first)] W ∧ handlesMet Tryz.prog [("errors.errorType", Rows.laid_errors_errorType)] W := h
theorem sf_err {W : World} (h : handlesMet Tryz.prog [("errors.errorType", Rows.laid_errors_errorType)] W) : ErrType W := by
 obtain ⟨name, u, ty, e1, e2, e3, e4, e5⟩ := h _ (List.mem_singleton.2 rfl)
 have en : name = [101, 114, 114, 111, 114] := (Option.some.inj e1).symm
 subst en
 obtain rfl := Option.some.inj (sf_rt.symm.trans e2)
 have hm : ty ∈ (List.range 277).filter fun t => Tryz.prog.rowNamed t [101, 114, 114, 111, 114] := List.mem_filter.2 ⟨List.mem_range.2 (by rw [← sf_typesSize]; exact e3), e4⟩
 rw [sf_oneRow] at hm
 obtain rfl := List.mem_singleton.1 hm
 have hh : typeHandle Tryz.prog 37 = .pointer (some ⟨11, 37, none⟩) := by kernel_rfl
 rw [hh] at e5
 show W.cell? ⟨2, 0, none⟩ = some (.iface 193 (.agg #[.pointer (some ⟨11, 37, none⟩)]))
 simpa using World.var?_cell sf_et e5 0
theorem sf_tab {W : World} (h : VarReads Tryz.prog W "internal/strconv.uint64pow10" Rows.laid_internal_strconv_uint64pow10) : Lib.TabIs Tryz.prog W "internal/strconv.uint64pow10" .u64 Lib.pow10Tab := by
 refine Law.tabIs_of_reads (g := 8) (t := 236) (e := 206) (n := 20) (by kernel_rfl) (by kernel_rfl) (by kernel_rfl) (by kernel_rfl) (by kernel_rfl) (by kernel_rfl) ?_
 rw [← sf_pow_eq]
 exact h
theorem sf_iface {W : World} {n nm : String} {d : DataW Unit} {g : Nat} {t : TypeId} {ms : Array (String × TypeId)} (h : VarReads Tryz.prog W n (.iface nm d)) (hg : Tryz.prog.globalNamed n = some g) (ht : (Tryz.prog.globals[g]?).map (·.type) = some t) (hu : Tryz.prog.underlying t = some (.interface ms)) : ∃ u v, W.cell? ⟨g, 0, none⟩ = some (.iface u v) := by
 obtain ⟨g', t', cs, fuel, p, h1, h2, h3, h4⟩ := h
 obtain rfl : g = g' := Option.some.inj (hg.symm.trans h1)
 obtain rfl : t = t' := Option.some.inj (ht.symm.trans h2)
 obtain ⟨_, u, v, hcs, _⟩ := iface_of_trod hu h4
 refine ⟨u, v, ?_⟩
 rw [World.var?_cell hg h3 0, ← Array.getElem?_toList, hcs]
 rfl
theorem sf_num {W : World} (hR : ∃ u v, W.cell? ⟨5, 0, none⟩ = some (.iface u v)) (hS : ∃ u v, W.cell? ⟨4, 0, none⟩ = some (.iface u v)) (hT : Lib.TabIs Tryz.prog W "internal/strconv.uint64pow10" .u64 Lib.pow10Tab) : NumAt W := fun W' hb => by
 obtain ⟨u, v, h⟩ := hR
 obtain ⟨u', v', h'⟩ := hS
 exact ⟨⟨u', v', (hb.cell (World.block_lt_of_cell? _ _ h')).trans h'⟩, ⟨u, v, (hb.cell (World.block_lt_of_cell? _ _ h)).trans h⟩, Lib.tabBelow_of_tabIs hT W' hb⟩
theorem sf_sys_eq : Rows.laid_letterbox_flags_system (H := Unit) = .agg (five.map fun s => .lit (.string s)) := by kernel_rfl
theorem sf_sys {W : World} (hr0 : VarReads Tryz.prog W "letterbox/flags.system" Rows.laid_letterbox_flags_system) : SysAt W := by
 have hr : Lib.VarReads Tryz.prog W "letterbox/flags.system" (.agg (five.map fun s => .lit (.string s))) := by
  rw [← sf_sys_eq]
  exact hr0
 have ht := Law.texts_of_reads (g := 3) (t := 188) (e := 9) (n := 5) (by kernel_rfl) (by kernel_rfl) (by kernel_rfl) (by kernel_rfl) (by kernel_rfl) (by kernel_rfl) hr
 intro j hj
 have hl : j < five.length := hj
 have := ht j _ (List.getElem?_eq_getElem hl)
 rw [this]
 unfold sysB
 rw [List.getD_eq_getElem?_getD, List.getElem?_eq_getElem hl]
 rfl
theorem sf_sl {W : World} {v : Value} {l : List ByteArray} (h : Law.Tg W v l) : Sl W v (l.map fun s => s.data.toList) := by
 obtain ⟨a, c, rfl, hcp, hn, hd⟩ := h
 refine ⟨a, c, by simp, ⟨hn, by simpa using hcp⟩, ?_⟩
 rcases hd with rfl | ⟨b, o, rfl, hat⟩
 ·exact Or.inl rfl
 ·refine Or.inr ⟨b, o, rfl, fun j t hj => ?_⟩
  rw [List.getElem?_map, Option.map_eq_some_iff] at hj
  obtain ⟨s, hs, rfl⟩ := hj
  rw [hat j s hs]
theorem two_of {l : List Value} (h : l.length = 2) : ∃ a b, l = [a, b] := by
 match l, h with
 | [a, b], _ => exact ⟨a, b, rfl⟩
theorem sf_fine {W : World} (h : VarReads Tryz.prog W "letterbox/letterboxref.Fine" Rows.laid_letterbox_letterboxref_Fine) : W.cell? ⟨0, 0, none⟩ = some (.int .i64 0) ∧ W.cell? ⟨0, 1, none⟩ = some (.int .i64 (-1)) := by
 obtain ⟨g', t', cs, fuel, p, h1, h2, h3, h4⟩ := h
 have hg : Tryz.prog.globalNamed "letterbox/letterboxref.Fine" = some 0 := by kernel_rfl
 have ht : (Tryz.prog.globals[(0 : Nat)]?).map (·.type) = some 50 := by kernel_rfl
 obtain rfl : (0 : Nat) = g' := Option.some.inj (hg.symm.trans h1)
 obtain rfl : (50 : Nat) = t' := Option.some.inj (ht.symm.trans h2)
 obtain ⟨y0, y1, n, hx, hl, g0, g1⟩ := trod_struct2 Tryz.underlying50 h4
 have hl2 : cs.toList.length = 2 := hl.trans (by kernel_rfl)
 obtain ⟨cl⟩ := cs
 obtain ⟨v0, v1, rfl⟩ : ∃ v0 v1, cl = [v0, v1] := two_of hl2
 have c0 : Tryz.prog.cellsOf 33 = 1 := by kernel_rfl
 have c1 : Tryz.prog.cellsOf 3 = 1 := by kernel_rfl
 obtain ⟨x, hx0, hd0, _⟩ := DataW.trod_int (t := 33) (k := .i64) Tryz.underlying33 (by simpa [c0] using g0)
 obtain ⟨y, hy0, hd1, _⟩ := DataW.trod_int (t := 3) (k := .i64) Tryz.underlying3 (by simpa [c1] using g1)
 have hxx : Rows.laid_letterbox_letterboxref_Fine (H := Unit) = .agg [.lit (.int .i64 x), .lit (.int .i64 y)] := by
  have := congrArg Prod.fst hx
  rw [hd0, hd1] at this
  exact this
 have hz : x = 0 ∧ y = -1 := by
  have e : (DataW.agg [.lit (.int .i64 0), .lit (.int .i64 (-1))] : DataW Unit) = .agg [.lit (.int .i64 x), .lit (.int .i64 y)] := hxx
  simp at e
  exact ⟨e.1.symm, e.2.symm⟩
 obtain ⟨rfl, rfl⟩ := hz
 simp only [List.cons.injEq, and_true] at hx0 hy0
 subst hx0
 subst hy0
 exact ⟨by rw [World.var?_cell hg h3 0]; rfl, by rw [World.var?_cell hg h3 1]; rfl⟩
def sf_two : DataW Unit → Array Value
 | .agg l => (l.flatMap fun | .agg m => m.map cellOf | x => [cellOf x]).toArray
 | _ => #[]
def sf_put (w : World) (g : Nat) (cs : Array Value) : World := { w with heap := w.heap.modify g fun | .cells _ t frozen => .cells cs t frozen | o => o }
noncomputable def sf_low : Nat := (World.holding Tryz.prog default ⟨#[], #[], []⟩).heap.size
noncomputable def sf_world (os : Os) : World :=
 sf_put (sf_put (sf_put (sf_put (lay (lay (sf_put (lay (lay (lay (World.holding Tryz.prog os ⟨#[.cells #[.string ⟨#[118, 97, 108, 117, 101, 32, 111, 117, 116, 32, 111, 102, 32, 114, 97, 110, 103, 101]⟩] 234, .cells #[.string ⟨#[105, 110, 118, 97, 108, 105, 100, 32, 115, 121, 110, 116, 97, 120]⟩] 234], #[], []⟩) 8 Rows.laid_internal_strconv_uint64pow10) 9 Rows.laid_math_bits_deBruijn32tab) 10 Rows.laid_math_bits_deBruijn64tab)
  7 (sf_two Rows.laid_unicode_utf8_acceptRanges)) 6 Rows.laid_unicode_utf8_first) 3 Rows.laid_letterbox_flags_system) 0 (sf_two Rows.laid_letterbox_letterboxref_Fine)) 2 #[.iface 193 (.agg #[.pointer (some ⟨11, 37, none⟩)])])
  5 #[.iface 232 (.pointer (some ⟨sf_low, 0, none⟩))]) 4 #[.iface 232 (.pointer (some ⟨sf_low + 1, 0, none⟩))]
theorem sf_laid_met (os : Os) (args : Array Value) : laidMetH Tryz.prog Rows.searchFindsRow.laid ((sf_world os).forCall (fun _ _ => 0) ⟨#[], args, []⟩).memory :=
 laidMetH_of_parts (LaidIn.of_run (l := [("math/bits.deBruijn32tab", Rows.laid_math_bits_deBruijn32tab), ("math/bits.deBruijn64tab", Rows.laid_math_bits_deBruijn64tab), ("internal/strconv.uint64pow10", Rows.laid_internal_strconv_uint64pow10), ("unicode/utf8.acceptRanges", Rows.laid_unicode_utf8_acceptRanges), ("strconv.ErrRange", Rows.laid_strconv_ErrRange), ("strconv.ErrSyntax", Rows.laid_strconv_ErrSyntax), ("letterbox/flags.system", Rows.laid_letterbox_flags_system), ("letterbox/letterboxref.Fine", Rows.laid_letterbox_letterboxref_Fine), ("unicode/utf8.first", Rows.laid_unicode_utf8_first)])
  [9, 10, 8, 7, 5, 4, 3, 0, 6, sf_low, sf_low + 1] 8 (by kernel_rfl) (by kernel_rfl) (by kernel_rfl) (by kernel_rfl)).met (by kernel_rfl)
theorem sf_witness (os : Os) {H : Type} (enc : TypeId × Value → H) :
  (OpenSpec.ofChange Rows.searchFindsSpec).preRow enc Tryz.prog Tryz.f3 Rows.searchFindsRow.domain false Rows.searchFindsRow.laid ((sf_world os).forCall (fun _ _ => 0) ⟨#[], #[.string ⟨#[]⟩, .agg #[.int .i64 0, .slice none 0 0, .int .i64 0, .string ⟨#[]⟩], .int .i64 0, .int .i64 0, .int .i64 0], []⟩).memory #[.string ⟨#[]⟩, .agg #[.int .i64 0, .slice none 0 0, .int .i64 0, .string ⟨#[]⟩], .int .i64 0, .int .i64 0, .int .i64 0] := by
 have hw : (DataW.whole enc Tryz.prog ((sf_world os).forCall (fun _ _ => 0) ⟨#[], #[.string ⟨#[]⟩, .agg #[.int .i64 0, .slice none 0 0, .int .i64 0, .string ⟨#[]⟩], .int .i64 0, .int .i64 0, .int .i64 0], []⟩).memory Tryz.f3.params.toList Rows.searchFindsSpec.vars false (#[.string ⟨#[]⟩, .agg #[.int .i64 0, .slice none 0 0, .int .i64 0, .string ⟨#[]⟩], .int .i64 0, .int .i64 0, .int .i64 0] : Array Value).toList 8).map (fun x => (x.1, x.2.1)) =
   some ([.lit (.string []), .agg [.lit (.int .i64 0), .nil, .lit (.int .i64 0), .lit (.string [])], .lit (.int .i64 0), .lit (.int .i64 0), .lit (.int .i64 0)], []) := by kernel_rfl
 obtain ⟨⟨x1, x2, x3⟩, hx, hx1⟩ := Option.map_eq_some_iff.1 hw
 simp only [Prod.mk.injEq] at hx1
 obtain ⟨rfl, rfl⟩ := hx1
 exact OpenSpec.preRow_of_cond 8 hx (by kernel_rfl) (fun k hk => by cases hk) (by kernel_rfl) (sf_laid_met os _)
theorem sf_read : ∀ t ∈ Tryz.f3.params.toList, Tryz.prog.readableRec t = true ∧ t < Tryz.prog.types.size := by
 have h : (Tryz.f3.params.toList.all fun t => Tryz.prog.readableRec t && decide (t < Tryz.prog.types.size)) = true := by kernel_rfl
 intro t ht
 have := List.all_eq_true.1 h t ht
 simpa using this
theorem sf_lifted (os : Os) (started : os.Started) (H : Type) (enc : TypeId × Value → H) (F : Stop.Interp) :
  ReturnsInHanded {} Tryz.checked os 3 .any ((OpenSpec.ofChange Rows.searchFindsSpec).preRow enc Tryz.prog Tryz.f3 Rows.searchFindsRow.domain false Rows.searchFindsRow.laid) (((OpenSpec.ofChange Rows.searchFindsSpec).at F).post enc Tryz.prog Tryz.f3 false true false false) := by
 refine returnsInHanded_of_row (C := Tryz.checked) (s := OpenSpec.ofChange Rows.searchFindsSpec) sf_own started (by kernel_rfl) Tryz.func3
  (witness_row_atRef (enc := enc) (C := Tryz.checked) false (sf_world os) #[.string ⟨#[]⟩, .agg #[.int .i64 0, .slice none 0 0, .int .i64 0, .string ⟨#[]⟩], .int .i64 0, .int .i64 0, .int .i64 0] rfl (by kernel_rfl) (by kernel_rfl) (by kernel_rfl) (sf_witness os enc)) ?_
 intro W base args ds gs before hval0 hW _ _ _ hL hS _
 have hval : ∀ (j : Nat) t v, Tryz.f3.params[j]? = some t → args[j]? = some v → Value.okWide Tryz.prog W .any base t v := hval0
 have hW' := hW
 obtain ⟨p, q, hA0, hV0, rfl, _, _⟩ := hW
 have hA : DataW.TrodAll enc Tryz.prog W 0 (fun _ => true) true Tryz.f3.params.toList args.toList ds p := hA0
 have hK := hA
 have hlt : ∀ x ∈ p, x.block < W.heap.size := fun x hx => hW'.lt x (by simp [hx])
 rw [Tryz.params3] at hA hval
 obtain ⟨l⟩ := args
 obtain ⟨v0, l, d0, ds, p0, p, rfl, rfl, rfl, t0, hA⟩ := trodAll_cons hA
 obtain ⟨v2, l, d2, ds, p2, p, rfl, rfl, rfl, t2, hA⟩ := trodAll_cons hA
 obtain ⟨v3, l, d3, ds, p3, p, rfl, rfl, rfl, t3, hA⟩ := trodAll_cons hA
 obtain ⟨v4, l, d4, ds, p4, p, rfl, rfl, rfl, t4, hA⟩ := trodAll_cons hA
 obtain ⟨v5, l, d5, ds, p5, p, rfl, rfl, rfl, t5, hA⟩ := trodAll_cons hA
 obtain ⟨rfl, rfl, rfl⟩ := trodAll_nil hA
 obtain ⟨rfl, rfl⟩ := trodVars_none hV0
 obtain ⟨s, rfl, rfl, rfl, _⟩ := open_string Tryz.underlying9 (hval 0 _ v0 rfl rfl) t0
 obtain ⟨uid, day, tb, fa, fc, fl, rfl, g2⟩ := Law.open_letter Tryz.underlying24 (by kernel_rfl) (by kernel_rfl) Tryz.underlying3 Tryz.underlying22 Tryz.underlying9 (by kernel_rfl) Tryz.underlying3 Tryz.underlying9 (hval 1 _ v2 rfl rfl) t2
 obtain ⟨which, rfl, rfl, rfl, _⟩ := open_int Tryz.underlying3 (hval 2 _ v3 rfl rfl) t3
 obtain ⟨many, rfl, rfl, rfl, _⟩ := open_int Tryz.underlying3 (hval 3 _ v4 rfl rfl) t4
 obtain ⟨greatest, rfl, rfl, rfl, _⟩ := open_int Tryz.underlying3 (hval 4 _ v5 rfl rfl) t5
 clear hA0 hV0 hval0 hval hA t0 t2 t3 t4 t5
 obtain ⟨mx, hm⟩ := Go.Proofs.cell_of_shapedOpen_int (g := 1) (zero := #[.int .i64 0]) (t := 3) hS (of_decide_eq_true (by kernel_rfl)) (by kernel_rfl) rfl (by kernel_rfl) (by kernel_rfl) Tryz.underlying3
 obtain ⟨hLd, hLh⟩ := sf_parts hL
 have hnum : NumAt W := sf_num (sf_iface (t := 37) (Lib.laidMet.reads hLd (.tail _ (.tail _ (.tail _ (.tail _ (.head _)))))) (by kernel_rfl) (by kernel_rfl) Tryz.underlying37) (sf_iface (t := 37) (Lib.laidMet.reads hLd (.tail _ (.tail _ (.tail _ (.tail _ (.tail _ (.head _))))))) (by kernel_rfl) (by kernel_rfl) Tryz.underlying37) (sf_tab (Lib.laidMet.reads hLd (.tail _ (.tail _ (.head _)))))
 have hsys : SysAt W := sf_sys (Lib.laidMet.reads hLd (.tail _ (.tail _ (.tail _ (.tail _ (.tail _ (.tail _ (.head _))))))))
 have hfine : FineAt W := sf_fine (Lib.laidMet.reads hLd (.tail _ (.tail _ (.tail _ (.tail _ (.tail _ (.tail _ (.tail _ (.head _)))))))))
 have herr := sf_err hLh
 have hsl := sf_sl g2
 have hall : Calls Tryz.prog 3 #[.string s, .agg #[.int .i64 uid, .slice fa fl.length fc, .int .i64 day, .string tb], .int .i64 which, .int .i64 many, .int .i64 greatest] W fun e w' => e = .returned (.bool true) ∧ Below W.heap.size W w' :=
  sfinds_is s tb ⟨uid, fl.map fun s => s.data.toList, day, tb.data.toList, which, many, greatest⟩ fa fl.length fc mx W rfl hsl hfine hm
   (fun W' hb => ⟨fun j hj => (hb.cell (World.block_lt_of_cell? _ _ (hsys j hj))).trans (hsys j hj), (hb.cell (World.block_lt_of_cell? _ _ herr)).trans herr, fun W2 h2 => hnum W2 (hb.trans (h2.mono hb.size))⟩)
 refine hall.mono ?_
 rintro e W' ⟨rfl, bel⟩
 have e1 : ((OpenSpec.ofChange Rows.searchFindsSpec).at F).fn H ([.lit (.string s.data.toList), d2, .lit (.int .i64 which), .lit (.int .i64 many), .lit (.int .i64 greatest)] ++ []) = { results := [.lit (.bool true)], args := [.lit (.string s.data.toList), d2, .lit (.int .i64 which), .lit (.int .i64 many), .lit (.int .i64 greatest)] } := rfl
 refine ⟨_, rfl, _, _, _, [], [] ++ (p2 ++ ([] ++ ([] ++ ([] ++ [])))), [], hW', ?_, ?_, ?_, bel.frame _, fun h => by cases h⟩
 ·rw [e1]; exact trodAll_mk1 (shut_bool Tryz.underlying4 _)
 ·rw [e1]; exact Law.trodAll_carry sf_laidOut bel _ _ _ _ sf_read hK hlt
 ·rw [e1]; rfl
end Go.Proofs.YtogigccbnohjjaaGreatDoor
