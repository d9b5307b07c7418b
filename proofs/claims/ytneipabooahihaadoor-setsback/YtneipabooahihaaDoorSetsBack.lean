/-
  SetsBack returns true and leaves its arguments as they were, for every two lists of ranges, every list of numbers and every two numbers; the tables of packages math/bits and internal/strconv lie as their initialisers lay them.
-/
import Derived.Test.YtneipabooahihaaDoorSetsBackWalk
import Derived.Test.YtneipabooahihaaDoorLaw
import Derived.Test.YtneipabooahihaaDoorCards
import Derived.Test.YtneipabooahihaaDoorTie
import Derived.Lib.LaidIn
import Derived.Deep.DeepHandedRow
import Derived.Deep.DeepWitnessRowRef
import Derived.ProofKit
namespace Go.Proofs.YtneipabooahihaaDoor
open Go.Shelf Go.ChangeShapes Go.WideShapes Go.ChangeAt Go.RowKit Go.Lib Go.Proofs.Sq Go.Proofs.Law

theorem sb_own : ownKnob Tryd.prog.godebug = none := by kernel_rfl
theorem sb_laidOut : laidOutB Tryd.prog = true := by kernel_rfl
theorem sb_pow_eq : Rows.laid_internal_strconv_uint64pow10 (H := Unit) = Lib.tabData .u64 Lib.pow10Tab := by kernel_rfl
theorem sb_tab {W : World} (h : laidMet Tryd.prog Rows.setsBackRow.laid W) : Lib.TabBelow Tryd.prog W.heap.size W "internal/strconv.uint64pow10" .u64 Lib.pow10Tab := by
  refine Lib.tabBelow_of_tabIs (Law.tabIs_of_reads (g := 5) (t := 175) (e := 113) (n := 20) (by kernel_rfl) (by kernel_rfl) (by kernel_rfl) (by kernel_rfl) (by kernel_rfl) (by kernel_rfl) ?_)
  rw [← sb_pow_eq]
  exact Lib.laidMet.reads h (.tail _ (.tail _ (.head _)))
theorem sb_laid_met (os : Os) (args : Array Value) : laidMet Tryd.prog Rows.setsBackRow.laid ((lay (lay (lay (World.holding Tryd.prog os ⟨#[], #[], []⟩) 5 Rows.laid_internal_strconv_uint64pow10) 6 Rows.laid_math_bits_deBruijn32tab) 7 Rows.laid_math_bits_deBruijn64tab).forCall (fun _ _ => 0) ⟨#[], args, []⟩).memory :=
  (LaidIn.of_run (l := Rows.setsBackRow.laid) [6, 7, 5] 8 (by kernel_rfl) (by kernel_rfl) (by kernel_rfl) (by kernel_rfl)).met

theorem sb_witness (os : Os) {H : Type} (enc : TypeId × Value → H) :
    (OpenSpec.ofChange Rows.setsBackSpec).preRow enc Tryd.prog Tryd.f5 Rows.setsBackRow.domain false Rows.setsBackRow.laid ((lay (lay (lay (World.holding Tryd.prog os ⟨#[], #[], []⟩) 5 Rows.laid_internal_strconv_uint64pow10) 6 Rows.laid_math_bits_deBruijn32tab) 7 Rows.laid_math_bits_deBruijn64tab).forCall (fun _ _ => 0) ⟨#[], #[.slice none 0 0, .slice none 0 0, .slice none 0 0, .int .i64 0, .int .i64 0], []⟩).memory #[.slice none 0 0, .slice none 0 0, .slice none 0 0, .int .i64 0, .int .i64 0] := by
  have hw : (DataW.whole enc Tryd.prog ((lay (lay (lay (World.holding Tryd.prog os ⟨#[], #[], []⟩) 5 Rows.laid_internal_strconv_uint64pow10) 6 Rows.laid_math_bits_deBruijn32tab) 7 Rows.laid_math_bits_deBruijn64tab).forCall (fun _ _ => 0) ⟨#[], #[.slice none 0 0, .slice none 0 0, .slice none 0 0, .int .i64 0, .int .i64 0], []⟩).memory Tryd.f5.params.toList Rows.setsBackSpec.vars false (#[.slice none 0 0, .slice none 0 0, .slice none 0 0, .int .i64 0, .int .i64 0] : Array Value).toList 8).map (fun x => (x.1, x.2.1)) =
      some ([.nil, .nil, .nil, .lit (.int .i64 0), .lit (.int .i64 0)], []) := by kernel_rfl
  obtain ⟨⟨x1, x2, x3⟩, hx, hx1⟩ := Option.map_eq_some_iff.1 hw
  simp only [Prod.mk.injEq] at hx1
  obtain ⟨rfl, rfl⟩ := hx1
  exact OpenSpec.preRow_of_cond 8 hx (by kernel_rfl) (fun k hk => by cases hk) (by kernel_rfl) (sb_laid_met os _)

theorem sb_read : ∀ t ∈ Tryd.f5.params.toList, Tryd.prog.readableRec t = true ∧ t < Tryd.prog.types.size := by
  have h : (Tryd.f5.params.toList.all fun t => Tryd.prog.readableRec t && decide (t < Tryd.prog.types.size)) = true := by kernel_rfl
  intro t ht
  have := List.all_eq_true.1 h t ht
  simpa using this
set_option maxRecDepth 100000 in
set_option maxHeartbeats 2000000 in
theorem sb_lifted (os : Os) (started : os.Started) (H : Type) (enc : TypeId × Value → H) (F : Stop.Interp) :
    ReturnsInHanded {} Tryd.checked os 5 .any ((OpenSpec.ofChange Rows.setsBackSpec).preRow enc Tryd.prog Tryd.f5 Rows.setsBackRow.domain false Rows.setsBackRow.laid) (((OpenSpec.ofChange Rows.setsBackSpec).at F).post enc Tryd.prog Tryd.f5 false true false false) := by
  refine returnsInHanded_of_row (C := Tryd.checked) (s := OpenSpec.ofChange Rows.setsBackSpec) sb_own started (by kernel_rfl) Tryd.func5
    (witness_row_atRef (enc := enc) (C := Tryd.checked) false (lay (lay (lay (World.holding Tryd.prog os ⟨#[], #[], []⟩) 5 Rows.laid_internal_strconv_uint64pow10) 6 Rows.laid_math_bits_deBruijn32tab) 7 Rows.laid_math_bits_deBruijn64tab) #[.slice none 0 0, .slice none 0 0, .slice none 0 0, .int .i64 0, .int .i64 0] rfl (by kernel_rfl) (by kernel_rfl) (by kernel_rfl) (sb_witness os enc)) ?_
  intro W base args ds gs before hval0 hW _ _ _ hL hS _
  have hval : ∀ (j : Nat) t v, Tryd.f5.params[j]? = some t → args[j]? = some v → Value.okWide Tryd.prog W .any base t v := hval0
  have hW' := hW
  obtain ⟨p, q, hA0, hV0, rfl, _, _⟩ := hW
  have hA : DataW.TrodAll enc Tryd.prog W 0 (fun _ => true) true Tryd.f5.params.toList args.toList ds p := hA0
  have hK := hA
  have hlt : ∀ x ∈ p, x.block < W.heap.size := fun x hx => hW'.lt x (by simp [hx])
  rw [Tryd.params5] at hA hval
  obtain ⟨l⟩ := args
  obtain ⟨v0, l, d0, ds, p0, p, rfl, rfl, rfl, t0, hA⟩ := trodAll_cons hA
  obtain ⟨v1, l, d1, ds, p1, p, rfl, rfl, rfl, t1, hA⟩ := trodAll_cons hA
  obtain ⟨v2, l, d2, ds, p2, p, rfl, rfl, rfl, t2, hA⟩ := trodAll_cons hA
  obtain ⟨v3, l, d3, ds, p3, p, rfl, rfl, rfl, t3, hA⟩ := trodAll_cons hA
  obtain ⟨v4, l, d4, ds, p4, p, rfl, rfl, rfl, t4, hA⟩ := trodAll_cons hA
  obtain ⟨rfl, rfl, rfl⟩ := trodAll_nil hA
  obtain ⟨rfl, rfl⟩ := trodVars_none hV0
  obtain ⟨l0, ⟨a0, c0, e0, n0, g0⟩, _⟩ := Law.open_pairs Tryd.underlying33 Tryd.underlying40 (by kernel_rfl) rfl rfl (by kernel_rfl) (by kernel_rfl) Tryd.underlying3 Tryd.underlying3 (hval 0 _ v0 rfl rfl) t0
  obtain ⟨l1, ⟨a1, c1, e1, n1, g1⟩, _⟩ := Law.open_pairs Tryd.underlying33 Tryd.underlying40 (by kernel_rfl) rfl rfl (by kernel_rfl) (by kernel_rfl) Tryd.underlying3 Tryd.underlying3 (hval 1 _ v1 rfl rfl) t1
  obtain ⟨l2, ⟨a2, c2, e2, g2⟩, _⟩ := Law.open_ig Tryd.underlying34 Tryd.underlying3 (by kernel_rfl) (hval 2 _ v2 rfl rfl) t2
  obtain ⟨n, rfl, rfl, rfl, _⟩ := open_int Tryd.underlying3 (hval 3 _ v3 rfl rfl) t3
  obtain ⟨g, rfl, rfl, rfl, _⟩ := open_int Tryd.underlying3 (hval 4 _ v4 rfl rfl) t4
  clear hA0 hV0 hval0 hval hA t0 t1 t2 t3 t4
  obtain ⟨mx, hm⟩ := Go.Proofs.cell_of_shapedOpen_int (g := 3) (zero := #[.int .i64 0]) (t := 3) hS (of_decide_eq_true (by kernel_rfl)) (by kernel_rfl) rfl (by kernel_rfl) (by kernel_rfl) Tryd.underlying3
  have htab := sb_tab hL
  have hall : Calls Tryd.prog 5 #[v0, v1, v2, .int .i64 n, .int .i64 g] W fun e w' => e = .returned (.bool true) ∧ Below W.heap.size W w' := by
    have r0 : Rg W v0 l0 := ⟨a0, c0, e0, g0⟩
    have r1 : Rg W v1 l1 := ⟨a1, c1, e1, g1⟩
    have r2 : Ig W v2 l2 := ⟨a2, c2, e2, g2⟩
    by_cases hbig : 15 < l0.length ∨ 15 < l1.length ∨ 60 < l2.length
    · exact back_big l0 l1 l2 v0 v1 v2 n g W r0 r1 r2 hbig
    · exact back_small l0 l1 l2 v0 v1 v2 n g mx W r0 r1 r2 (by omega) (by omega) (by omega) (fun k c h => by rw [e0] at h; cases h; exact n0 rfl) (fun k c h => by rw [e1] at h; cases h; exact n1 rfl) hm htab
  refine hall.mono ?_
  rintro e W' ⟨rfl, bel⟩
  have e1 : ((OpenSpec.ofChange Rows.setsBackSpec).at F).fn H ([d0, d1, d2, .lit (.int .i64 n), .lit (.int .i64 g)] ++ []) = { results := [.lit (.bool true)], args := [d0, d1, d2, .lit (.int .i64 n), .lit (.int .i64 g)] } := rfl
  refine ⟨_, rfl, _, _, _, [], p0 ++ (p1 ++ (p2 ++ ([] ++ ([] ++ [])))), [], hW', ?_, ?_, ?_, bel.frame _, fun h => by cases h⟩
  · rw [e1]; exact trodAll_mk1 (shut_bool Tryd.underlying4 _)
  · rw [e1]; exact Law.trodAll_carry sb_laidOut bel _ _ _ _ sb_read hK hlt
  · rw [e1]; rfl

theorem sb_said : Rows.SetsBackSaid :=
  OpenClaim.holds_of_cond 5 Tryd.f5 rfl rfl rfl rfl rfl rfl rfl ⟨rfl, rfl, rfl, rfl, rfl⟩ rfl rfl rfl rfl rfl (by kernel_rfl) Tryd.func5 (by kernel_rfl)
    (of_decide_eq_true (by kernel_rfl)) (by unfold Func.isWrapper; rw [if_neg (of_decide_eq_false (by kernel_rfl))]; exact ⟨rfl, rfl⟩)
    (fun os started H enc _ F => by rw [OpenClaim.pre_eq_preRow]; exact sb_lifted os started H enc F)

theorem sb_plain (f : FuncId) (fn : Func) (hf : Tryd.pinned.checked.prog.funcNamed "letterbox/letterboxkeep.SetsBack" = some f) (hfn : Tryd.pinned.checked.prog.funcs[f]? = some fn) :
    true = Tryd.pinned.checked.prog.looks [] ∧ ∀ (j : Nat) t, fn.params[j]? = some t → Tryd.pinned.checked.prog.wantsStandIn t = false := by
  obtain rfl : f = 5 := Option.some.inj ((show Tryd.prog.funcNamed "letterbox/letterboxkeep.SetsBack" = some 5 by kernel_rfl).symm.trans hf) |>.symm
  obtain rfl : fn = Tryd.f5 := (Option.some.inj (Tryd.func5.symm.trans hfn)).symm
  refine ⟨by kernel_rfl, fun j t ht => ?_⟩
  have h : (Tryd.f5.params.toList.all fun t => !Tryd.prog.wantsStandIn t) = true := by kernel_rfl
  have := List.all_eq_true.1 h t (by simpa using Array.mem_of_getElem? ht)
  exact (show Tryd.prog.wantsStandIn t = false by simpa using this)

theorem setsBack_card : Rows.SetsBackCardSaid :=
  Claim7.holds_tied_plain_at .later [] _ _ _ _ sb_said (fun _ h => by cases h) (by kernel_rfl) (fun _ h => by cases h) setsBack_row_tie rfl ⟨rfl, rfl⟩ (by kernel_rfl) rfl sb_plain (by kernel_rfl)
end Go.Proofs.YtneipabooahihaaDoor
