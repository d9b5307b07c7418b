/-
  What ArchiveChain's row wants: the variables that are laid, a witness, every argument.
-/
import Derived.Test.YtdmplfflmdanlaaGreatDoorMAcWalk
import Derived.Test.YtdmplfflmdanlaaGreatDoorBpLaw
import Derived.Test.YtdmplfflmdanlaaGreatDoorRows
import Derived.Lib.LaidIn
import Derived.Lib.LaidU8T
import Derived.LaidHandle
import Derived.LaidLaws
import Derived.Deep.DeepHandedRow
import Derived.Deep.DeepWitnessRowRef
import Derived.ProofKit
namespace Go.Proofs.YtdmplfflmdanlaaGreatDoor
open Go.ChangeMaps (open_string shut_string)
open Go.Shelf Go.ChangeShapes Go.WideShapes Go.ChangeAt Go.RowKit Go.Lib Go.Proofs.Law

theorem ac9_own : ownKnob Tryz.prog.godebug = none := by kernel_rfl
theorem ac9_laidOut : laidOutB Tryz.prog = true := by kernel_rfl
theorem ac9_first_eq : Rows.laid_unicode_utf8_first = Lib.firstData := by kernel_rfl
theorem ac9_accept_eq : Rows.laid_unicode_utf8_acceptRanges (H := Unit) = Lib.acceptData := by kernel_rfl
theorem ac9_tabs_of {W : World} (h3 : VarReads Tryz.prog W "unicode/utf8.first" Lib.firstData) (h4 : VarReads Tryz.prog W "unicode/utf8.acceptRanges" Lib.acceptData) : Tabs W :=
  utf8Tabs_of_readsT (U8Types.of196 Tryz.lays196) ⟨by kernel_rfl, by kernel_rfl, by kernel_rfl, by kernel_rfl, by kernel_rfl, by kernel_rfl, by kernel_rfl⟩ h3 h4
theorem ac9_sys_eq : Rows.laid_letterbox_flags_system (H := Unit) = .agg (Fl.five.map fun s => .lit (.string s)) := by kernel_rfl
theorem ac9_sys {W : World} (hr0 : VarReads Tryz.prog W "letterbox/flags.system" Rows.laid_letterbox_flags_system) : SysAt W := by
  have hr : Lib.VarReads Tryz.prog W "letterbox/flags.system" (.agg (Fl.five.map fun s => .lit (.string s))) := by
    rw [← ac9_sys_eq]
    exact hr0
  have ht := Law.texts_of_reads (g := 4) (t := 261) (e := 9) (n := 5) (by kernel_rfl) (by kernel_rfl) (by kernel_rfl) (by kernel_rfl) (by kernel_rfl) (by kernel_rfl) hr
  intro j hj
  have hl : j < Fl.five.length := hj
  have := ht j _ (List.getElem?_eq_getElem hl)
  rw [this]
  unfold sysB
  rw [List.getD_eq_getElem?_getD, List.getElem?_eq_getElem hl]
  rfl
theorem ac9_pow_eq : Rows.laid_internal_strconv_uint64pow10 (H := Unit) = Lib.tabData .u64 Lib.pow10Tab := by kernel_rfl
theorem ac9_pow {W : World} (h : Lib.VarReads Tryz.prog W "internal/strconv.uint64pow10" Rows.laid_internal_strconv_uint64pow10) : TabB W := by
  have h1 : Lib.TabIs Tryz.prog W "internal/strconv.uint64pow10" .u64 Lib.pow10Tab := by
    refine Law.tabIs_of_reads (g := 5) (t := 289) (e := 243) (n := 20) (by kernel_rfl) (by kernel_rfl) (by kernel_rfl) (by kernel_rfl) (by kernel_rfl) (by kernel_rfl) ?_
    rw [← ac9_pow_eq]
    exact h
  exact Lib.tabBelow_of_tabIs h1
/-- A variable that is laid as an error holds one. -/
theorem ac8_iface {W : World} {n nm : String} {d : DataW Unit} {g : Nat} {t : TypeId} {ms : Array (String × TypeId)} (h : VarReads Tryz.prog W n (.iface nm d)) (hg : Tryz.prog.globalNamed n = some g) (ht : (Tryz.prog.globals[g]?).map (·.type) = some t) (hu : Tryz.prog.underlying t = some (.interface ms)) : ∃ u v, W.cell? ⟨g, 0, none⟩ = some (.iface u v) := by
  obtain ⟨g', t', cs, fuel, p, h1, h2, h3, h4⟩ := h
  obtain rfl : g = g' := Option.some.inj (hg.symm.trans h1)
  obtain rfl : t = t' := Option.some.inj (ht.symm.trans h2)
  obtain ⟨_, u, v, hcs, _⟩ := iface_of_trod hu h4
  refine ⟨u, v, ?_⟩
  rw [World.var?_cell hg h3 0, ← Array.getElem?_toList, hcs]
  rfl
/-- A table of pairs, in cells. -/
def ac8_two : DataW Unit → Array Value
  | .agg l => (l.flatMap fun | .agg m => m.map cellOf | x => [cellOf x]).toArray
  | _ => #[]
/-- A variable's cells, laid. -/
def ac8_put (w : World) (g : Nat) (cs : Array Value) : World := { w with heap := w.heap.modify g fun | .cells _ t frozen => .cells cs t frozen | o => o }
noncomputable def ac8_low : Nat := (World.holding Tryz.prog default ⟨#[], #[], []⟩).heap.size
noncomputable def ac8_world (os : Os) : World :=
  ac8_put (ac8_put (lay (lay (ac8_put (lay (lay (lay (World.holding Tryz.prog os ⟨#[.cells #[.string ⟨#[118, 97, 108, 117, 101, 32, 111, 117, 116, 32, 111, 102, 32, 114, 97, 110, 103, 101]⟩] 318, .cells #[.string ⟨#[105, 110, 118, 97, 108, 105, 100, 32, 115, 121, 110, 116, 97, 120]⟩] 318], #[], []⟩) 5 Rows.laid_internal_strconv_uint64pow10) 8 Rows.laid_math_bits_deBruijn32tab) 9 Rows.laid_math_bits_deBruijn64tab)
    2 (ac8_two Rows.laid_unicode_utf8_acceptRanges)) 1 Rows.laid_unicode_utf8_first) 4 Rows.laid_letterbox_flags_system)
    7 #[.iface 316 (.pointer (some ⟨ac8_low, 0, none⟩))]) 6 #[.iface 316 (.pointer (some ⟨ac8_low + 1, 0, none⟩))]
theorem ac8_laid_met (os : Os) (args : Array Value) : laidMet Tryz.prog Rows.archiveChainRow.laid ((ac8_world os).forCall (fun _ _ => 0) ⟨#[], args, []⟩).memory :=
  (LaidIn.of_run (l := Rows.archiveChainRow.laid) [8, 9, 5, 2, 7, 6, 4, 1, ac8_low, ac8_low + 1] 8 (by kernel_rfl) (by kernel_rfl) (by kernel_rfl) (by kernel_rfl)).met

theorem ac8_witness (os : Os) {H : Type} (enc : TypeId × Value → H) :
    (OpenSpec.ofChange Rows.archiveChainSpec).preRow enc Tryz.prog Tryz.f4 Rows.archiveChainRow.domain false Rows.archiveChainRow.laid ((ac8_world os).forCall (fun _ _ => 0) ⟨#[], #[.slice none 0 0], []⟩).memory #[.slice none 0 0] := by
  have hw : (DataW.whole enc Tryz.prog ((ac8_world os).forCall (fun _ _ => 0) ⟨#[], #[.slice none 0 0], []⟩).memory Tryz.f4.params.toList Rows.archiveChainSpec.vars false (#[.slice none 0 0] : Array Value).toList 8).map (fun x => (x.1, x.2.1)) =
      some ([.nil], []) := by kernel_rfl
  obtain ⟨⟨x1, x2, x3⟩, hx, hx1⟩ := Option.map_eq_some_iff.1 hw
  simp only [Prod.mk.injEq] at hx1
  obtain ⟨rfl, rfl⟩ := hx1
  exact OpenSpec.preRow_of_cond 8 hx (by kernel_rfl) (fun k hk => by cases hk) (by kernel_rfl) (ac8_laid_met os _)

theorem ac8_read : ∀ t ∈ Tryz.f4.params.toList, Tryz.prog.readableRec t = true ∧ t < Tryz.prog.types.size := by
  have h : (Tryz.f4.params.toList.all fun t => Tryz.prog.readableRec t && decide (t < Tryz.prog.types.size)) = true := by kernel_rfl
  intro t ht
  have := List.all_eq_true.1 h t ht
  simpa using this
section
variable {H : Type} {enc : TypeId × Value → H}
theorem ac8_day {W : World} (v : Value) (x : DataW H × List MemPlace) (fuel : Nat) (h : DataW.trod enc Tryz.prog W 0 (fun _ => true) true fuel 57 [v] = some x) : ∃ L, Dds W v L :=
  open_deeds Tryz.underlying57 Tryz.underlying60 (by kernel_rfl) rfl rfl rfl rfl (by kernel_rfl) (by kernel_rfl) (by kernel_rfl) (by kernel_rfl) (by kernel_rfl) (by kernel_rfl) (by kernel_rfl) (by kernel_rfl) v x fuel h
end
set_option maxRecDepth 100000 in
set_option maxHeartbeats 2000000 in
theorem ac8_lifted (os : Os) (started : os.Started) (H : Type) (enc : TypeId × Value → H) (F : Stop.Interp) :
    ReturnsInHanded {} Tryz.checked os 4 .any ((OpenSpec.ofChange Rows.archiveChainSpec).preRow enc Tryz.prog Tryz.f4 Rows.archiveChainRow.domain false Rows.archiveChainRow.laid) (((OpenSpec.ofChange Rows.archiveChainSpec).at F).post enc Tryz.prog Tryz.f4 false true false false) := by
  refine returnsInHanded_of_row (C := Tryz.checked) (s := OpenSpec.ofChange Rows.archiveChainSpec) ac9_own started (by kernel_rfl) Tryz.func4
    (witness_row_atRef (enc := enc) (C := Tryz.checked) false (ac8_world os) #[.slice none 0 0] rfl (by kernel_rfl) (by kernel_rfl) (by kernel_rfl) (ac8_witness os enc)) ?_
  intro W base args ds gs before hval0 hW _ _ _ hL hS _
  have hval : ∀ (j : Nat) t v, Tryz.f4.params[j]? = some t → args[j]? = some v → Value.okWide Tryz.prog W .any base t v := hval0
  have hW' := hW
  obtain ⟨p, q, hA0, hV0, rfl, _, _⟩ := hW
  have hA : DataW.TrodAll enc Tryz.prog W 0 (fun _ => true) true Tryz.f4.params.toList args.toList ds p := hA0
  have hK := hA
  have hlt : ∀ x ∈ p, x.block < W.heap.size := fun x hx => hW'.lt x (by simp [hx])
  rw [Tryz.params4] at hA hval
  obtain ⟨l⟩ := args
  obtain ⟨v0, l, d0, ds, p0, p, rfl, rfl, rfl, t0, hA⟩ := trodAll_cons hA
  obtain ⟨rfl, rfl, rfl⟩ := trodAll_nil hA
  obtain ⟨rfl, rfl⟩ := trodVars_none hV0
  obtain ⟨fuel, t0'⟩ := id t0
  obtain ⟨a1, len1, cap1, rfl⟩ := okWide_slice Tryz.underlying52 (hval 0 _ v0 rfl rfl)
  obtain ⟨LL, hLD⟩ := open_days (t := 52) (e := 57) Tryz.underlying52 (by kernel_rfl) (fun v x fuel h => ac8_day v x fuel h) _ _ fuel t0'
  clear hA0 hV0 hval0 hval hA t0 t0'
  obtain ⟨mx, hm⟩ := Go.Proofs.cell_of_shapedOpen_int (g := 0) (zero := #[.int .i64 0]) (t := 3) hS (of_decide_eq_true (by kernel_rfl)) (by kernel_rfl) rfl (by kernel_rfl) (by kernel_rfl) Tryz.underlying3
  have hLd : laidMet Tryz.prog Rows.archiveChainRow.laid W := hL
  have htab : Tabs W := ac9_tabs_of (ac9_first_eq ▸ Lib.laidMet.reads hLd (.tail _ (.tail _ (.tail _ (.tail _ (.tail _ (.tail _ (.tail _ (.head _))))))))) (ac9_accept_eq ▸ Lib.laidMet.reads hLd (.tail _ (.tail _ (.tail _ (.head _)))))
  have hsys : SysAt W := ac9_sys (Lib.laidMet.reads hLd (.tail _ (.tail _ (.tail _ (.tail _ (.tail _ (.tail _ (.head _))))))))
  have hpow : TabB W := ac9_pow (Lib.laidMet.reads hLd (.tail _ (.tail _ (.head _))))
  have hrng := ac8_iface (g := 7) (t := 38) (Lib.laidMet.reads hLd (.tail _ (.tail _ (.tail _ (.tail _ (.head _)))))) (by kernel_rfl) (by kernel_rfl) Tryz.underlying38
  have hsyn := ac8_iface (g := 6) (t := 38) (Lib.laidMet.reads hLd (.tail _ (.tail _ (.tail _ (.tail _ (.tail _ (.head _))))))) (by kernel_rfl) (by kernel_rfl) Tryz.underlying38
  have hall : Calls Tryz.prog 4 #[.slice a1 len1 cap1] W fun e w' => e = .returned (.bool true) ∧ Below W.heap.size W w' :=
    ac_walk _ LL W hLD ⟨⟨⟨mx, hm⟩, htab⟩, hsys, hpow, ⟨mx, hm⟩, hsyn, hrng⟩
  refine hall.mono ?_
  rintro e W' ⟨rfl, bel⟩
  have e1 : ((OpenSpec.ofChange Rows.archiveChainSpec).at F).fn H ([d0] ++ []) = { results := [.lit (.bool true)], args := [d0] } := rfl
  refine ⟨_, rfl, _, _, _, [], p0 ++ [], [], hW', ?_, ?_, ?_, bel.frame _, fun h => by cases h⟩
  · rw [e1]; exact trodAll_mk1 (shut_bool Tryz.underlying4 _)
  · rw [e1]; exact Law.trodAll_carry ac9_laidOut bel _ _ _ _ ac8_read hK hlt
  · rw [e1]; rfl

end Go.Proofs.YtdmplfflmdanlaaGreatDoor
