/-
  MimeNests returns true and leaves its arguments as they were, for every text, list of texts and boundary; the tables of numbers and of utf8 lie as their initialisers lay them.
-/
import Derived.Test.YtgbbkdflnlagaaaDoorMimeNestsMain
import Derived.Test.YtgbbkdflnlagaaaDoorLaw
import Derived.Test.YtgbbkdflnlagaaaDoorCards
import Derived.Test.YtgbbkdflnlagaaaDoorTie
import Derived.Lib.LaidIn
import Derived.Deep.DeepHandedRow
import Derived.Deep.DeepWitnessRowRef
import Derived.ProofKit
namespace Go.Proofs.YtgbbkdflnlagaaaDoor
open Go.ChangeMaps (open_string shut_string)
open Go.Shelf Go.ChangeShapes Go.WideShapes Go.ChangeAt Go.RowKit Go.Lib Go.Proofs.Law

set_option maxHeartbeats 2000000 in
set_option maxRecDepth 100000 in
theorem nests_big (s bd : ByteArray) (a : Option Addr) (N c : Nat) (w : World) (h : 1500 < s.size ∨ 10 < N ∨ 30 < bd.size) :
    Calls Tryd.prog 3 #[.string s, .slice a N c, .string bd] w fun e w' => e = .returned (.bool true) ∧ Below w.heap.size w w' := by
  by_cases h1 : 1500 < s.size
  · have i1 : (1500 : Int) < (s.size : Int) := by omega
    go_enter Tryd.func3, Tryd.ntmps3
    go_wp2_with fail
    go_ret
    exact ⟨rfl, Below.refl _ _⟩
  · have i1 : ¬ (1500 : Int) < (s.size : Int) := by omega
    by_cases h2 : 10 < N
    · have i2 : (10 : Int) < (N : Int) := by omega
      go_enter Tryd.func3, Tryd.ntmps3
      go_wp2_with fail
      go_ret
      exact ⟨rfl, Below.refl _ _⟩
    · have i2 : ¬ (10 : Int) < (N : Int) := by omega
      have i3 : (30 : Int) < (bd.size : Int) := by omega
      go_enter Tryd.func3, Tryd.ntmps3
      go_wp2_with fail
      go_ret
      exact ⟨rfl, Below.refl _ _⟩
theorem mn_own : ownKnob Tryd.prog.godebug = none := by kernel_rfl
theorem mn_laidOut : laidOutB Tryd.prog = true := by kernel_rfl
def mn_two : DataW Unit → Array Value
  | .agg l => (l.flatMap fun | .agg m => m.map cellOf | x => [cellOf x]).toArray
  | _ => #[]
def mn_put (w : World) (g : Nat) (cs : Array Value) : World := { w with heap := w.heap.modify g fun | .cells _ t frozen => .cells cs t frozen | o => o }
/-- The witness's world: the tables as their initialisers lay them. -/
noncomputable def mn_world (os : Os) : World :=
  lay (lay (lay (lay (mn_put (World.holding Tryd.prog os ⟨#[], #[], []⟩) 3 (mn_two Rows.laid_unicode_utf8_acceptRanges)) 2 Rows.laid_unicode_utf8_first) 1 Rows.laid_internal_strconv_uint64pow10) 4 Rows.laid_math_bits_deBruijn32tab) 5 Rows.laid_math_bits_deBruijn64tab
theorem mn_laid_met (os : Os) (args : Array Value) : laidMet Tryd.prog Rows.mimeNestsRow.laid ((mn_world os).forCall (fun _ _ => 0) ⟨#[], args, []⟩).memory :=
  (LaidIn.of_run (l := Rows.mimeNestsRow.laid) [4, 5, 1, 3, 2] 8 (by kernel_rfl) (by kernel_rfl) (by kernel_rfl) (by kernel_rfl)).met
theorem mn_witness (os : Os) {H : Type} (enc : TypeId × Value → H) :
    (OpenSpec.ofChange Rows.mimeNestsSpec).preRow enc Tryd.prog Tryd.f3 Rows.mimeNestsRow.domain false Rows.mimeNestsRow.laid ((mn_world os).forCall (fun _ _ => 0) ⟨#[], #[.string ⟨#[]⟩, .slice none 0 0, .string ⟨#[]⟩], []⟩).memory #[.string ⟨#[]⟩, .slice none 0 0, .string ⟨#[]⟩] := by
  have hw : (DataW.whole enc Tryd.prog ((mn_world os).forCall (fun _ _ => 0) ⟨#[], #[.string ⟨#[]⟩, .slice none 0 0, .string ⟨#[]⟩], []⟩).memory Tryd.f3.params.toList Rows.mimeNestsSpec.vars false (#[.string ⟨#[]⟩, .slice none 0 0, .string ⟨#[]⟩] : Array Value).toList 8).map (fun x => (x.1, x.2.1)) =
      some ([.lit (.string []), .nil, .lit (.string [])], []) := by kernel_rfl
  obtain ⟨⟨x1, x2, x3⟩, hx, hx1⟩ := Option.map_eq_some_iff.1 hw
  simp only [Prod.mk.injEq] at hx1
  obtain ⟨rfl, rfl⟩ := hx1
  exact OpenSpec.preRow_of_cond 8 hx (by kernel_rfl) (fun k hk => by cases hk) (by kernel_rfl) (mn_laid_met os _)
theorem mn_read : ∀ t ∈ Tryd.f3.params.toList, Tryd.prog.readableRec t = true ∧ t < Tryd.prog.types.size := by
  have h : (Tryd.f3.params.toList.all fun t => Tryd.prog.readableRec t && decide (t < Tryd.prog.types.size)) = true := by kernel_rfl
  intro t ht
  have := List.all_eq_true.1 h t ht
  simpa using this
theorem mn_pow_eq : Rows.laid_internal_strconv_uint64pow10 (H := Unit) = Lib.tabData .u64 Lib.pow10Tab := by kernel_rfl
theorem mn_tab {W : World} (h : laidMet Tryd.prog Rows.mimeNestsRow.laid W) : TabB W.heap.size W := by
  have h1 : Lib.TabIs Tryd.prog W "internal/strconv.uint64pow10" .u64 Lib.pow10Tab := by
    refine Law.tabIs_of_reads (g := 1) (t := 127) (e := 118) (n := 20) (by kernel_rfl) (by kernel_rfl) (by kernel_rfl) (by kernel_rfl) (by kernel_rfl) (by kernel_rfl) ?_
    rw [← mn_pow_eq]
    exact Lib.laidMet.reads h (.tail _ (.tail _ (.head _)))
  exact Lib.tabBelow_of_tabIs h1
theorem mn_tn {W : World} {v : Value} {l : List ByteArray} (h : Law.Tg W v l) : Tn W v l := by
  obtain ⟨a, c, rfl, _, _, hd⟩ := h
  exact ⟨a, c, rfl, hd⟩
set_option maxRecDepth 100000 in
set_option maxHeartbeats 2000000 in
theorem mn_lifted (os : Os) (started : os.Started) (H : Type) (enc : TypeId × Value → H) (F : Stop.Interp) :
    ReturnsInHanded {} Tryd.checked os 3 .any ((OpenSpec.ofChange Rows.mimeNestsSpec).preRow enc Tryd.prog Tryd.f3 Rows.mimeNestsRow.domain false Rows.mimeNestsRow.laid) (((OpenSpec.ofChange Rows.mimeNestsSpec).at F).post enc Tryd.prog Tryd.f3 false true false false) := by
  refine returnsInHanded_of_row (C := Tryd.checked) (s := OpenSpec.ofChange Rows.mimeNestsSpec) mn_own started (by kernel_rfl) Tryd.func3
    (witness_row_atRef (enc := enc) (C := Tryd.checked) false (mn_world os) #[.string ⟨#[]⟩, .slice none 0 0, .string ⟨#[]⟩] rfl (by kernel_rfl) (by kernel_rfl) (by kernel_rfl) (mn_witness os enc)) ?_
  intro W base args ds gs before hval0 hW _ _ _ hL hS _
  have hval : ∀ (j : Nat) t v, Tryd.f3.params[j]? = some t → args[j]? = some v → Value.okWide Tryd.prog W .any base t v := hval0
  have hW' := hW
  obtain ⟨p, q, hA0, hV0, rfl, _, _⟩ := hW
  have hA : DataW.TrodAll enc Tryd.prog W 0 (fun _ => true) true Tryd.f3.params.toList args.toList ds p := hA0
  have hK := hA
  have hlt : ∀ x ∈ p, x.block < W.heap.size := fun x hx => hW'.lt x (by simp [hx])
  rw [Tryd.params3] at hA hval
  obtain ⟨l⟩ := args
  obtain ⟨v0, l, d0, ds, p0, p, rfl, rfl, rfl, t0, hA⟩ := trodAll_cons hA
  obtain ⟨v1, l, d1, ds, p1, p, rfl, rfl, rfl, t1, hA⟩ := trodAll_cons hA
  obtain ⟨v2, l, d2, ds, p2, p, rfl, rfl, rfl, t2, hA⟩ := trodAll_cons hA
  obtain ⟨rfl, rfl, rfl⟩ := trodAll_nil hA
  obtain ⟨rfl, rfl⟩ := trodVars_none hV0
  obtain ⟨s, rfl, rfl, rfl, _⟩ := open_string Tryd.underlying9 (hval 0 _ v0 rfl rfl) t0
  obtain ⟨l1, g1, _⟩ := Law.open_tg Tryd.underlying22 Tryd.underlying9 (by kernel_rfl) (hval 1 _ v1 rfl rfl) t1
  obtain ⟨b, rfl, rfl, rfl, _⟩ := open_string Tryd.underlying9 (hval 2 _ v2 rfl rfl) t2
  obtain ⟨mx, hm⟩ := Go.Proofs.cell_of_shapedOpen_int (g := 0) (zero := #[.int .i64 0]) (t := 3) hS (of_decide_eq_true (by kernel_rfl)) (by kernel_rfl) rfl (by kernel_rfl) (by kernel_rfl) Tryd.underlying3
  have hall : Calls Tryd.prog 3 #[.string s, v1, .string b] W fun e w' => e = .returned (.bool true) ∧ Below W.heap.size W w' := by
    by_cases hbig : 1500 < s.size ∨ 10 < l1.length ∨ 30 < b.size
    · obtain ⟨a, c, rfl, hc1, hc2, _⟩ := g1
      exact nests_big s b a l1.length c W hbig
    · exact nests_small s b v1 l1 mx W (by omega) (mn_tn g1) (by omega) (by omega) hm (mn_tab hL)
  refine hall.mono ?_
  rintro e W' ⟨rfl, bel⟩
  have e1 : ((OpenSpec.ofChange Rows.mimeNestsSpec).at F).fn H ([.lit (.string s.data.toList), d1, .lit (.string b.data.toList)] ++ []) = { results := [.lit (.bool true)], args := [.lit (.string s.data.toList), d1, .lit (.string b.data.toList)] } := rfl
  refine ⟨_, rfl, _, _, _, [], [] ++ (p1 ++ ([] ++ [])), [], hW', ?_, ?_, ?_, bel.frame _, fun h => by cases h⟩
  · rw [e1]; exact trodAll_mk1 (shut_bool Tryd.underlying4 _)
  · rw [e1]; exact Law.trodAll_carry mn_laidOut bel _ _ _ _ mn_read hK hlt
  · rw [e1]; rfl

theorem mn_said : Rows.MimeNestsSaid :=
  OpenClaim.holds_of_cond 3 Tryd.f3 rfl rfl rfl rfl rfl rfl rfl ⟨rfl, rfl, rfl, rfl, rfl⟩ rfl rfl rfl rfl rfl (by kernel_rfl) Tryd.func3 (by kernel_rfl)
    (of_decide_eq_true (by kernel_rfl)) (by unfold Func.isWrapper; rw [if_neg (of_decide_eq_false (by kernel_rfl))]; exact ⟨rfl, rfl⟩)
    (fun os started H enc _ F => by rw [OpenClaim.pre_eq_preRow]; exact mn_lifted os started H enc F)

theorem mn_plain (f : FuncId) (fn : Func) (hf : Tryd.pinned.checked.prog.funcNamed "letterbox/letterboxkeep.MimeNests" = some f) (hfn : Tryd.pinned.checked.prog.funcs[f]? = some fn) :
    false = Tryd.pinned.checked.prog.looks [] ∧ ∀ (j : Nat) t, fn.params[j]? = some t → Tryd.pinned.checked.prog.wantsStandIn t = false := by
  obtain rfl : f = 3 := Option.some.inj ((show Tryd.prog.funcNamed "letterbox/letterboxkeep.MimeNests" = some 3 by kernel_rfl).symm.trans hf) |>.symm
  obtain rfl : fn = Tryd.f3 := (Option.some.inj (Tryd.func3.symm.trans hfn)).symm
  refine ⟨by kernel_rfl, fun j t ht => ?_⟩
  have h : (Tryd.f3.params.toList.all fun t => !Tryd.prog.wantsStandIn t) = true := by kernel_rfl
  have := List.all_eq_true.1 h t (by simpa using Array.mem_of_getElem? ht)
  exact (show Tryd.prog.wantsStandIn t = false by simpa using this)

theorem mimeNests_card : Rows.MimeNestsCardSaid :=
  Claim7.holds_tied_plain_at .later [] _ _ _ _ mn_said (fun _ h => by cases h) (by kernel_rfl) (fun _ h => by cases h) mimeNests_row_tie rfl ⟨rfl, rfl⟩ (by kernel_rfl) rfl mn_plain (by kernel_rfl)
end Go.Proofs.YtgbbkdflnlagaaaDoor
