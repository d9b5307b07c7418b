/-
  What wire.stringText does.
  A builder at the beginning of a struct that embeds it: what is written into it.
  What a writer of package wire writes.
  What a writer of package wire writes of a list.
  What wire.Print does.
-/
import Derived.Test.YtmcpohnilgbicaaGreatDoorWirePrSpec
import Derived.Test.YtmcpohnilgbicaaGreatDoorQuoteAll
import Derived.Test.YtmcpohnilgbicaaGreatDoorBuildShelf
import Derived.Shelf.Strings.BuilderF
import Derived.Lib.BufferKept
import Derived.Test.YtmcpohnilgbicaaGreatDoorArgRow
import Derived.Test.YtmcpohnilgbicaaGreatDoorMWireParse
namespace Go.Proofs.YtmcpohnilgbicaaGreatDoor
open Go.RowKit Go.Proofs.Aid Go.Proofs.Sq Go.Proofs.Hd

set_option maxHeartbeats 2000000 in
theorem stringText_is (s : ByteArray) (m : Int) (w : World) (hs : s.size ≤ 100000) (hm : w.cell? ⟨1, 0, none⟩ = some (.int .i64 m)) (hg : NumAt w) :
    Calls Tryz.prog 60 #[.string s] w fun e w' => (∃ t : ByteArray, e = .returned (.string t) ∧ t.data.toList = strW s.data.toList) ∧ Below w.heap.size w w' := by
  have cB := wbare_is s w (by omega)
  have cI := inQuotes_is s m w hs hm
  have cQ := quote_is s m w hs hm hg
  obtain ⟨T, hT⟩ : ∃ T, strW s.data.toList = T := ⟨_, rfl⟩
  have hT2 := hT
  unfold strW at hT2
  rw [hT]
  cases hb : bareW s.data.toList with
  | true =>
    rw [hb] at cB hT2
    rw [if_pos rfl] at hT2
    rw [hT2] at cI
    clear cQ hT hT2 hb
    go_enter Tryz.func60, Tryz.ntmps60
    go_wp2_with fail
    refine cB.mono ?_
    rintro e w1 ⟨rfl, hw1⟩
    obtain rfl : w = w1 := hw1.symm
    clear cB
    go_wp2_with fail
    refine cI.mono ?_
    rintro e w2 ⟨⟨t, rfl, ht⟩, hb2⟩
    clear cI
    go_wp2_with fail
    go_ret
    exact ⟨⟨t, rfl, ht⟩, hb2⟩
  | false =>
    rw [hb] at cB hT2
    rw [if_neg (by decide)] at hT2
    rw [hT2] at cQ
    clear cI hT hT2 hb
    go_enter Tryz.func60, Tryz.ntmps60
    go_wp2_with fail
    refine cB.mono ?_
    rintro e w1 ⟨rfl, hw1⟩
    obtain rfl : w = w1 := hw1.symm
    clear cB
    go_wp2_with fail
    refine cQ.mono ?_
    rintro e w2 ⟨⟨t, rfl, ht⟩, hb2⟩
    clear cQ
    go_wp2_with fail
    go_ret
    exact ⟨⟨t, rfl, ht⟩, hb2⟩
end Go.Proofs.YtmcpohnilgbicaaGreatDoor
namespace Go.Proofs.YtmcpohnilgbicaaGreatDoor
open Go.Shelf Go.RowKit Go.Proofs.Aid

theorem wr_ne : (73 : TypeId) ≠ 5 := by decide
theorem wr_lies : liesAt Tryz.prog Tryz.prog.depth 73 (2 / Tryz.prog.cellsOf 73) 0 71 1 = true := by kernel_rfl
theorem bu_size : ((Tryz.prog.info? 71).map fun j => j.size != 0) = some true := by kernel_rfl
set_option maxRecDepth 100000 in
theorem wr_fresh (b : Nat) (w : World) (h0 : w.cell? ⟨b, 0, none⟩ = some (.pointer none)) (hsh : w.shape? b = some (73, 2)) (hfz : w.frozen? ⟨b, 0, none⟩ = false) :
    Calls Tryz.prog 59 #[.pointer (some ⟨b, 0, none⟩)] w fun e w' => e = .returned (.tuple #[]) ∧ w' = w.setCell ⟨b, 0, none⟩ (.pointer (some ⟨b, 0, none⟩)) := by
  obtain ⟨j, hj, hjs⟩ := Option.map_eq_some_iff.1 bu_size
  have hto := Lib.run_to_unsafe (P := Tryz.prog) w ⟨b, 0, none⟩ Tryz.underlying68 Tryz.underlying108 hj (by simpa using hjs) hsh (Nat.zero_lt_succ 1)
  have hfrom := Lib.run_from_unsafe (P := Tryz.prog) w ⟨b, 0, none⟩ Tryz.underlying108 Tryz.underlying68 hj hsh wr_lies
  have hno : (callFunc 80 #[.pointer (some ⟨b, 0, none⟩)]).run Tryz.prog w = .ok (.value (.pointer (some ⟨b, 0, none⟩))) w := by
    rw [run_callFunc_extern Tryz.func80 (by kernel_rfl) (by kernel_rfl) (by kernel_rfl) (e := Extern.AbiNoEscape.same) (by kernel_rfl), Lib.run_noEscape]
    rfl
  go_enter Tryz.func59, Tryz.ntmps59
  go_wp2
  go_end0
  exact ⟨rfl, rfl⟩
theorem wr_used (b : Nat) (w : World) (h0 : w.cell? ⟨b, 0, none⟩ = some (.pointer (some ⟨b, 0, none⟩))) :
    Calls Tryz.prog 59 #[.pointer (some ⟨b, 0, none⟩)] w fun e w' => e = .returned (.tuple #[]) ∧ w' = w :=
  Any.Builder_copyCheck_used { Tryz.layB166 with } Tryz.extraB.toX72 b w h0
/-- A builder that a writer of package wire embeds. -/
abbrev IsWr (B b : Nat) (l : List UInt8) (w : World) : Prop := Lib.IsBuilderF 73 5 B b (Lib.byteCells l) w
theorem wr_check (B b : Nat) (l : List UInt8) (w : World) (h : IsWr B b l w) :
    Calls Tryz.prog 59 #[.pointer (some ⟨b, 0, none⟩)] w fun e w' => e = .returned (.tuple #[]) ∧ Lib.BuilderAtF 73 5 B b (.pointer (some ⟨b, 0, none⟩)) (Lib.byteCells l) w' ∧ Below B w w' ∧ Lib.OthersKept 5 (some b) w w' := by
  rcases h with h | h
  · refine (wr_fresh b w h.cell0 h.shape h.frozen0).mono ?_
    rintro e w' ⟨rfl, rfl⟩
    exact ⟨rfl, h.used _, (Below.refl B w).setCell (p := ⟨b, 0, none⟩) h.1 _, (Lib.OthersKept.refl _ _ w).setCell ⟨b, 0, none⟩ rfl _⟩
  · refine (wr_used b w h.cell0).mono ?_
    rintro e w' ⟨rfl, rfl⟩
    exact ⟨rfl, h, Below.refl B _, Lib.OthersKept.refl _ _ _⟩
set_option maxHeartbeats 2000000 in
set_option maxRecDepth 100000 in
theorem wr_text (B b : Nat) (l : List UInt8) (s : ByteArray) (w : World) (h : IsWr B b l w) (hlen : l.length + s.size ≤ 140737488355328) (hBw : B ≤ w.heap.size) :
    Calls Tryz.prog 34 #[.pointer (some ⟨b, 0, none⟩), .string s] w fun e w' => e = .returned (.tuple #[.int .i64 s.size, .nilIface]) ∧ IsWr B b (l ++ s.data.toList) w' ∧ Below B w w' ∧ Lib.OthersKept 5 (some b) w w' := by
  obtain ⟨i0, hi, hz0, hz1, hz2⟩ := info_parts Tryz.extraB.infoByte
  have cC := wr_check B b l w h
  go_enter Tryz.func34, Tryz.ntmps34
  go_wp2_with fail
  refine cC.mono ?_
  rintro e w1 ⟨rfl, ⟨hB, v, hbk, hown, hne⟩, hb1, hk1⟩
  clear cC
  have c0 : w1.cell? ⟨b, 0, none⟩ = some (.pointer (some ⟨b, 0, none⟩)) := by rw [Lib.cell_of_heap hbk]; rfl
  have c1 : w1.cell? ⟨b, 1, none⟩ = some v := by rw [Lib.cell_of_heap hbk]; rfl
  have hlt : b < w1.heap.size := (Array.getElem?_eq_some_iff.1 hbk).1
  go_wp2_with (at_builtin; refine Lib.wpList_append_own_stringF _ rfl _ _ 69 9 rfl B 5 i0 Tryz.underlying69 Tryz.underlying9 hi hz0 hz1 hz2 _ _ _ rfl hown s rfl ?c3 ?c4 ?c5 ?_)
  case c3 => rw [Lib.byteCells_length]; unfold maxLen; omega
  case c4 => rw [Lib.byteCells_length]; omega
  case c5 => have := hb1.size; omega
  intro v' w2 hown' hgrow _
  have hb2 : w2.heap[b]? = some (.cells #[.pointer (some ⟨b, 0, none⟩), v] 73 (0, 0)) := (hgrow.block b hlt (fun e => hne e.symm)).trans hbk
  have e0 : w2.cell? ⟨b, 0, none⟩ = some (.pointer (some ⟨b, 0, none⟩)) := by rw [Lib.cell_of_heap hb2]; rfl
  have e1 : w2.cell? ⟨b, 1, none⟩ = some v := by rw [Lib.cell_of_heap hb2]; rfl
  have f1 : w2.frozen? ⟨b, 1, none⟩ = false := Lib.frozen_of_heap hb2 1
  obtain ⟨ao, n', cap, rfl⟩ : ∃ ao n' cap, v' = .slice ao n' cap := by
    rcases hown'.2 with ⟨hv, _⟩ | ⟨_, _, _, _, hv, _⟩
    · exact ⟨_, _, _, hv⟩
    · exact ⟨_, _, _, hv⟩
  go_wp2_with fail
  go_ret2
  have hcat : Lib.byteCells l ++ Lib.strCells s = Lib.byteCells (l ++ s.data.toList) := by simp [Lib.byteCells, Lib.strCells]
  refine ⟨rfl, Or.inr ?_, (hb1.grown hgrow (by have := hb1.size; omega) (fun k hk => (hown.lt k hk).1)).setCell (p := ⟨b, 1, none⟩) hB _, (hk1.grown hgrow (Lib.ownsRowF_kind hown)).setCell ⟨b, 1, none⟩ rfl _⟩
  rw [← hcat]
  exact Lib.BuilderAtF.put hB hb2 (by simpa [Lib.strCells_length] using hown') wr_ne
set_option maxHeartbeats 2000000 in
set_option maxRecDepth 100000 in
/-- Its text, where there is one. -/
theorem wr_string (B b : Nat) (l : List UInt8) (w : World) (h : IsWr B b l w) (h0 : l ≠ []) :
    Calls Tryz.prog 36 #[.pointer (some ⟨b, 0, none⟩)] w fun e w' => e = .returned (.string ⟨l.toArray⟩) ∧ Below B w w' := by
  obtain ⟨q, hB, v, hbk, hown, _⟩ : ∃ q, Lib.BuilderAtF 73 5 B b q (Lib.byteCells l) w := by
    rcases h with h | h
    · exact ⟨_, h⟩
    · exact ⟨_, h⟩
  rw [Lib.byteCells_length] at hown
  have hl0 : l.length ≠ 0 := by simpa using h0
  rcases hown.2 with ⟨_, hz⟩ | ⟨g, cap, cur, fz, rfl, hbg, hg, _, hnc, hcm, hcs, _⟩
  · exact absurd hz hl0
  have hbk' : w.drew.heap[b]? = some (.cells #[q, .slice (some ⟨g, 0, none⟩) l.length cap] 73 (0, 0)) := hbk
  have hg' : w.drew.heap[g]? = some (.cells cur 5 fz) := hg
  have c1 : w.drew.cell? ⟨b, 1, none⟩ = some (.slice (some ⟨g, 0, none⟩) l.length cap) := by rw [Lib.cell_of_heap hbk']; rfl
  have hSD : (Builtin.unsafeSliceData_ #[69] 96 #[.slice (some ⟨g, 0, none⟩) l.length cap]).run Tryz.prog w.drew = .ok (.pointer (some ⟨g, 0, none⟩)) w.drew := Lib.run_unsafeSliceData_row _ _ _ _ _ _ (by omega)
  have hUS : (Builtin.unsafeString_ #[96, 3] 9 #[.pointer (some ⟨g, 0, none⟩), .int .i64 l.length]).run Tryz.prog w.drew = .ok (.string ⟨l.toArray⟩) (w.drew.freeze ⟨g, 0, none⟩ l.length) :=
    Lib.run_unsafeString_row w.drew 96 3 9 5 Tryz.underlying96 Tryz.extraB.cellsByte g cur.size (by simp [World.shape?, hg']) l h0 (by omega) (by unfold maxLen at hcm; omega) fun j x hx => hown.cells (g := g) rfl j (.int .u8 x.toNat) (by simp [Lib.byteCells, hx])
  have mixed : Tryz.prog.follows .mixedOrders = true := by kernel_rfl
  go_enter Tryz.func36, Tryz.ntmps36
  go_wp2
  go_region_o
  all_goals (go_wp2; go_ret; exact ⟨rfl, Lib.below_freeze (Below.drew (Below.refl B w)) (p := ⟨g, 0, none⟩) hbg _⟩)
end Go.Proofs.YtmcpohnilgbicaaGreatDoor
namespace Go.Proofs.YtmcpohnilgbicaaGreatDoor
open Go.RowKit Go.Proofs.Aid Go.Proofs.Sq Go.Proofs.Hd
open Go.Proofs.Sr (Ar)

theorem tx_size (s : ByteArray) : s.data.toList.length = s.size := by show s.data.toList.length = s.data.size; simp
theorem isWr_alloc {B b : Nat} {l : List UInt8} {w : World} (h : IsWr B b l w) (o : Obj) : IsWr B b l (w.alloc o) := isBuilderW_below h ((Below.refl _ _).alloc (Nat.le_refl _) _)
theorem isWr_below {B b : Nat} {l : List UInt8} {w w' : World} (h : IsWr B b l w) (hb : Below w.heap.size w w') : IsWr B b l w' := isBuilderW_below h hb
set_option maxHeartbeats 4000000 in
set_option maxRecDepth 100000 in
theorem warg_at (B b d : Nat) (out : Hd.Tx) (a : Ar) (tb : ByteArray) (xa : Option Addr) (xn xc : Nat) (w : World) (h : IsWr B b out w) (hBw : B ≤ w.heap.size) (htb : tb.data.toList = a.text) (hz : tb.size ≤ 100000) (hd : d ≤ 1000)
    (hk : a.kind = 1 ∨ a.kind = 2 ∨ a.kind = 3) (hlen : out.length + (prA a).length ≤ 100000000)
    (hg : ∀ W, Below B w W → NumAt W ∧ ∃ m, W.cell? ⟨1, 0, none⟩ = some (.int .i64 m))
    (cL : a.kind = 3 → ∀ W, IsWr B b out W → Below B w W → Calls Tryz.prog 61 #[.pointer (some ⟨b, 0, none⟩), .slice xa xn xc, .int .i64 ((d : Int) + 1)] W fun e w' => e = .returned (.tuple #[]) ∧ IsWr B b (out ++ 40 :: (prL true a.list ++ [41])) w' ∧ Below B W w' ∧ Lib.OthersKept 5 (some b) W w') :
    Calls Tryz.prog 35 #[.pointer (some ⟨b, 0, none⟩), .agg #[.int .i64 a.kind, .string tb, .slice xa xn xc], .int .i64 (d : Int)] w fun e w' => e = .returned (.tuple #[]) ∧ IsWr B b (out ++ prA a) w' ∧ Below B w w' ∧ Lib.OthersKept 5 (some b) w w' := by
  have dd : decide ((65536 : Int) < (d : Int)) = false := decide_eq_false (by omega)
  obtain ⟨W1, hW1⟩ : ∃ W, w.alloc (.cells #[.int .i64 a.kind, .string tb, .slice xa xn xc] 59) = W := ⟨_, rfl⟩
  have e1 : W1.heap[w.heap.size]? = some (.cells #[.int .i64 a.kind, .string tb, .slice xa xn xc] 59 (0, 0)) := by rw [← hW1]; exact heap_alloc_new w _
  have hb1 : Below B w W1 := by rw [← hW1]; exact (Below.refl _ _).alloc hBw _
  have hz1 : w.heap.size < W1.heap.size := (Array.getElem?_eq_some_iff.1 e1).1
  have h1 : IsWr B b out W1 := by rw [← hW1]; exact isWr_alloc h _
  have c0 : W1.cell? ⟨w.heap.size, 0, none⟩ = some (.int .i64 a.kind) := rd_cell e1 rfl
  have c1 : W1.cell? ⟨w.heap.size, 1, none⟩ = some (.string tb) := rd_cell e1 rfl
  have c1d : W1.drew.cell? ⟨w.heap.size, 1, none⟩ = some (.string tb) := c1
  have c2 : W1.cell? ⟨w.heap.size, 2, none⟩ = some (.slice xa xn xc) := rd_cell e1 rfl
  have HB1 : Hid (Below B w W1) := hb1
  have HO1 : Hid (Lib.OthersKept 5 (some b) w W1) := (Lib.OthersKept.refl _ _ w).below (by rw [← hW1]; exact (Below.refl _ _).alloc (Nat.le_refl _) _)
  have hd1 : IntKind.i64.wrap ((d : Int) + 1) = (d : Int) + 1 := by rw [IntKind.wrap_i64]; omega
  rcases hk with hk | hk | hk
  · have hp := prA_1 hk
    rw [hp, ← htb] at hlen ⊢
    rw [tx_size] at hlen
    have cW := wr_text B b out tb W1.drew h1 (by omega) (Nat.le_trans hBw (Nat.le_of_lt hz1))
    rw [hk] at c0
    rw [hk]
    rw [hk] at hW1
    clear hk hp e1 hb1 h h1 cL hg htb hlen
    go_enter Tryz.func35, Tryz.ntmps35
    go_upto_region 5 with fail
    refine wp_region_any (by kernel_rfl) ?_
    change wpAny _ _ _ _ _ _ _ (World.drew _)
    refine wpAny_take (i := 0) (v := ?_) rfl (by kernel_rfl) (by kernel_rfl) (by kernel_rfl) (fun _ _ _ h => h) (Or.inl ⟨by rfl, ?_⟩) ?_
    rotate_left
    · intro w; go_simp; with_reducible rfl
    refine wpAny_take (i := 1) (v := ?_) rfl (by kernel_rfl) (by kernel_rfl) (by kernel_rfl) (fun _ _ _ h => h) (Or.inl ⟨by rfl, ?_⟩) ?_
    rotate_left
    · intro w; go_simp; with_reducible rfl
    refine wpAny_take (i := 2) (v := ?_) rfl (by kernel_rfl) (by kernel_rfl) (by kernel_rfl) (fun _ _ _ h => h) (Or.inl ⟨by rfl, ?_⟩) ?_
    rotate_left
    · intro w; go_simp; with_reducible rfl
    refine wpAny_take (i := 3) (v := ?_) rfl (by kernel_rfl) (by kernel_rfl) (by kernel_rfl) (fun _ _ _ h => h) (Or.inl ⟨by rfl, ?_⟩) ?_
    rotate_left
    · intro w; go_simp; with_reducible rfl
    refine wpAny_ready (rs := [4]) (by kernel_rfl) (by simp) ?_
    refine AllReady.cons rfl (fun K hK => ?_) AllReady.nil
    go_simp
    refine hK _ _ ?_
    refine wpAny_ready (rs := [5]) (by kernel_rfl) (by simp) ?_
    refine AllReady.cons rfl (fun K hK => ?_) AllReady.nil
    go_simp
    refine cW.mono ?_
    rintro e w2 ⟨rfl, h2, hb2, ho2⟩
    refine hK _ _ ?_
    refine wpAny_done (by kernel_rfl) ?_ _
    go_wp2_with fail
    go_end0
    exact ⟨rfl, h2, HB1.out.drew.trans (hb2.mono (Nat.le_refl _)), HO1.out.trans ho2⟩
  · have hp := prA_2 hk
    rw [hp, ← htb] at hlen ⊢
    obtain ⟨hn, mx, hm⟩ := hg W1.drew hb1.drew
    have cS := stringText_is tb mx W1.drew hz hm hn
    have cW : ∀ (t : ByteArray) W, t.data.toList = strW tb.data.toList → Below W1.drew.heap.size W1.drew W → Calls Tryz.prog 34 #[.pointer (some ⟨b, 0, none⟩), .string t] W fun e w' => e = .returned (.tuple #[.int .i64 t.size, .nilIface]) ∧ IsWr B b (out ++ strW tb.data.toList) w' ∧ Below B w w' ∧ Lib.OthersKept 5 (some b) w w' := fun t W ht hW => by
      rw [← ht] at hlen ⊢
      rw [tx_size] at hlen
      have hs1 : W1.drew.heap.size = W1.heap.size := rfl
      exact (wr_text B b out t W (isWr_below (show IsWr B b out W1.drew from h1) hW) (by omega) (by have := hW.size; omega)).mono fun e w' h => ⟨h.1, h.2.1, (HB1.out.drew.trans (hW.mono (by omega))).trans (h.2.2.1.mono (Nat.le_refl _)), (Lib.OthersKept.trans (show Lib.OthersKept 5 (some b) w W1.drew from HO1.out) ((Lib.OthersKept.refl _ _ _).below hW)).trans h.2.2.2⟩
    rw [hk] at c0
    rw [hk]
    rw [hk] at hW1
    clear hk hp e1 hb1 h h1 cL hg htb hlen hn hm
    go_enter Tryz.func35, Tryz.ntmps35
    go_upto_region 7 with fail
    refine wp_region_any (by kernel_rfl) ?_
    change wpAny _ _ _ _ _ _ _ (World.drew _)
    refine wpAny_take (i := 0) (v := ?_) rfl (by kernel_rfl) (by kernel_rfl) (by kernel_rfl) (fun _ _ _ h => h) (Or.inl ⟨by rfl, ?_⟩) ?_
    rotate_left
    · intro w; go_simp; with_reducible rfl
    refine wpAny_take (i := 1) (v := ?_) rfl (by kernel_rfl) (by kernel_rfl) (by kernel_rfl) (fun _ _ _ h => h) (Or.inl ⟨by rfl, ?_⟩) ?_
    rotate_left
    · intro w; go_simp; with_reducible rfl
    refine wpAny_take (i := 2) (v := ?_) rfl (by kernel_rfl) (by kernel_rfl) (by kernel_rfl) (fun _ _ _ h => h) (Or.inl ⟨by rfl, ?_⟩) ?_
    rotate_left
    · intro w; go_simp; with_reducible rfl
    refine wpAny_take (i := 3) (v := ?_) rfl (by kernel_rfl) (by kernel_rfl) (by kernel_rfl) (fun _ _ _ h => h) (Or.inl ⟨by rfl, ?_⟩) ?_
    rotate_left
    · intro w; go_simp; with_reducible rfl
    refine wpAny_ready (rs := [4]) (by kernel_rfl) (by simp) ?_
    refine AllReady.cons rfl (fun K hK => ?_) AllReady.nil
    go_simp
    refine hK _ _ ?_
    refine wpAny_ready (rs := [5]) (by kernel_rfl) (by simp) ?_
    refine AllReady.cons rfl (fun K hK => ?_) AllReady.nil
    go_simp
    refine cS.mono ?_
    rintro e w2 ⟨⟨t, rfl, ht⟩, hb2⟩
    refine hK _ _ ?_
    refine wpAny_ready (rs := [6]) (by kernel_rfl) (by simp) ?_
    refine AllReady.cons rfl (fun K hK => ?_) AllReady.nil
    go_simp
    refine (cW t w2 ht hb2).mono ?_
    rintro e w3 ⟨rfl, h3, hb3, ho3⟩
    refine hK _ _ ?_
    refine wpAny_done (by kernel_rfl) ?_ _
    go_wp2_with fail
    go_end0
    exact ⟨rfl, h3, hb3, ho3⟩
  · have hp := prA_3 hk
    have cQ := cL hk W1 h1 hb1
    rw [hp]
    rw [hk] at c0
    rw [hk]
    rw [hk] at hW1
    clear hk hp e1 hb1 h h1 cL hg htb hlen
    go_enter Tryz.func35, Tryz.ntmps35
    go_wp2_with fail
    refine cQ.mono ?_
    rintro e w2 ⟨rfl, h2, hb2, ho2⟩
    clear cQ
    go_wp2_with fail
    go_end0
    exact ⟨rfl, h2, HB1.out.trans (hb2.mono (Nat.le_refl _)), HO1.out.trans ho2⟩
end Go.Proofs.YtmcpohnilgbicaaGreatDoor
namespace Go.Proofs.YtmcpohnilgbicaaGreatDoor
open Go.RowKit Go.Proofs.Aid Go.Proofs.Sq Go.Proofs.Hd
open Go.Proofs.Sr (Ar)

theorem prL_take_le : ∀ (l : List Ar) (first : Bool) (k : Nat), (prL first (l.take k)).length ≤ (prL first l).length
  | [], first, k => by rw [List.take_nil]; exact Nat.le_refl _
  | a :: l, first, 0 => by rw [List.take_zero, prL]; simp
  | a :: l, first, k + 1 => by
    rw [List.take_succ_cons, prL, prL]
    simp only [List.length_append]
    have := prL_take_le l false k
    omega
theorem prL_next {l : List Ar} {k : Nat} {x : Ar} (h : l[k]? = some x) : prL true (l.take (k + 1)) = prL true (l.take k) ++ ((if k = 0 then [] else [32]) ++ prA x) := by
  rw [List.take_add_one, h]
  show prL true (l.take k ++ [x]) = _
  rw [prL_snoc]
  have hk : k < l.length := (List.getElem?_eq_some_iff.1 h).1
  cases k with
  | zero => simp
  | succ k =>
    cases l with
    | nil => simp at hk
    | cons a l => simp
theorem agw_at {w : World} {Ok : Nat → Prop} {l : List Ar} {va : Option Addr} {N vc : Nat} (h : Agw w Ok l (.slice va N vc)) {k : Nat} {x : Ar} (hk : l[k]? = some x) :
    ∃ (bb o : Nat) (tb : ByteArray) (xa : Option Addr) (xn xc : Nat), va = some ⟨bb, o, none⟩ ∧ tb.data.toList = x.text ∧ Agw w Ok x.list (.slice xa xn xc) ∧ w.cell? ⟨bb, o + k * 3, none⟩ = some (.int .i64 x.kind) ∧ w.cell? ⟨bb, o + k * 3 + 1, none⟩ = some (.string tb) ∧ w.cell? ⟨bb, o + k * 3 + 2, none⟩ = some (.slice xa xn xc) := by
  generalize hv : Value.slice va N vc = v at h
  cases h with
  | mk _ a c txt vs htx hkk ha =>
    injection hv with e1 e2 e3
    subst e1
    rcases ha with rfl | ⟨bb, o, rfl, _, h3⟩
    · simp at hk
    · obtain ⟨c0, c1, c2⟩ := h3 k x hk
      have h4 := hkk k x hk
      obtain ⟨xa, xc, h5⟩ := h4.form
      rw [h5] at h4 c2
      exact ⟨bb, o, txt k, xa, _, xc, rfl, htx k x hk, h4, c0, c1, c2⟩
set_option maxHeartbeats 4000000 in
set_option maxRecDepth 100000 in
theorem wlist_at (B b d : Nat) (out : Hd.Tx) (l : List Ar) (va : Option Addr) (vc : Nat) (w : World) (h : IsWr B b out w) (hBw : B ≤ w.heap.size) (hl : Agw w (fun k => k < B) l (.slice va l.length vc)) (hll : l.length ≤ 100000)
    (hlen : out.length + (prL true l).length + 2 ≤ 100000000)
    (cA : ∀ (x : Ar), x ∈ l → ∀ (tb : ByteArray) (xa : Option Addr) (xn xc : Nat) (o : Hd.Tx) (W : World), IsWr B b o W → Below B w W → tb.data.toList = x.text → Agw W (fun k => k < B) x.list (.slice xa xn xc) → o.length + (prA x).length ≤ 100000000 →
      Calls Tryz.prog 35 #[.pointer (some ⟨b, 0, none⟩), .agg #[.int .i64 x.kind, .string tb, .slice xa xn xc], .int .i64 (d : Int)] W fun e w' => e = .returned (.tuple #[]) ∧ IsWr B b (o ++ prA x) w' ∧ Below B W w' ∧ Lib.OthersKept 5 (some b) W w') :
    Calls Tryz.prog 61 #[.pointer (some ⟨b, 0, none⟩), .slice va l.length vc, .int .i64 (d : Int)] w fun e w' => e = .returned (.tuple #[]) ∧ IsWr B b (out ++ 40 :: (prL true l ++ [41])) w' ∧ Below B w w' ∧ Lib.OthersKept 5 (some b) w w' := by
  obtain ⟨N, hN⟩ : ∃ N, l.length = N := ⟨_, rfl⟩
  have HL : Hid (∀ W, Below B w W → Agw W (fun k => k < B) l (.slice va N vc)) := fun W hW => by
    rw [← hN]
    exact hl.kept fun k hk _ => ⟨hk, hW.block k hk⟩
  have HN : Hid (l.length = N) := hN
  have HT : Hid (∀ k, (prL true (l.take k)).length ≤ (prL true l).length) := fun k => prL_take_le l true k
  have HC : Hid (∀ (x : Ar), x ∈ l → ∀ (tb : ByteArray) (xa : Option Addr) (xn xc : Nat) (o : Hd.Tx) (W : World), IsWr B b o W → Below B w W → tb.data.toList = x.text → Agw W (fun k => k < B) x.list (.slice xa xn xc) → o.length + (prA x).length ≤ 100000000 →
      Calls Tryz.prog 35 #[.pointer (some ⟨b, 0, none⟩), .agg #[.int .i64 x.kind, .string tb, .slice xa xn xc], .int .i64 (d : Int)] W fun e w' => e = .returned (.tuple #[]) ∧ IsWr B b (o ++ prA x) w' ∧ Below B W w' ∧ Lib.OthersKept 5 (some b) W w') := cA
  have c0 := wr_text B b out ⟨#[40]⟩ w h (by show out.length + 1 ≤ _; omega) hBw
  rw [hN] at hll ⊢
  obtain ⟨PL, hPL⟩ : ∃ n, (prL true l).length = n := ⟨_, rfl⟩
  rw [hPL] at hlen HT
  obtain ⟨OL, hOL⟩ : ∃ n, out.length = n := ⟨_, rfl⟩
  rw [hOL] at hlen
  have HOL : Hid (out.length = OL) := hOL
  clear hl cA h hN hPL hOL
  go_enter Tryz.func61, Tryz.ntmps61
  go_wp2_with fail
  refine c0.mono ?_
  rintro e w1 ⟨rfl, h1, hb1, ho1⟩
  clear c0
  go_wp2_with fail
  go_loopw [14] (fun i wr => ∃ k : Nat, i = .int .i64 (k : Int) ∧ k ≤ N ∧ Hid (IsWr B b (out ++ 40 :: prL true (l.take k)) wr ∧ Below B w wr ∧ Lib.OthersKept 5 (some b) w wr)) (fun i _ => N - (intOf i).toNat)
  case atStart => exact ⟨0, rfl, by omega, by rw [List.take_zero, prL]; exact h1, hb1, ho1⟩
  case round =>
    obtain ⟨k, rfl, hk, HI⟩ := hrel
    have hsz : w.heap.size ≤ wr.heap.size := HI.out.2.1.size
    by_cases hlt : k < N
    · have hkl : k < l.length := by rw [HN.out]; exact hlt
      obtain ⟨x, hx⟩ : ∃ x, l[k] = x := ⟨_, rfl⟩
      have hxk : l[k]? = some x := by rw [List.getElem?_eq_getElem hkl, hx]
      obtain ⟨bb, o, tb, xa, xn, xc, rfl, htb, hag, q0, q1, q2⟩ := agw_at (HL.out wr HI.out.2.1) hxk
      have hnext := prL_next hxk
      have hmem : x ∈ l := List.mem_of_getElem? hxk
      have hT1 := HT.out (k + 1)
      have eA := heap_alloc_new wr (.cells #[.int .i64 x.kind, .string tb, .slice xa xn xc] 59)
      have hbA : Below wr.heap.size wr (wr.alloc (.cells #[.int .i64 x.kind, .string tb, .slice xa xn xc] 59)) := (Below.refl _ _).alloc (Nat.le_refl _) _
      obtain ⟨W2, hW2⟩ : ∃ W, wr.alloc (.cells #[.int .i64 x.kind, .string tb, .slice xa xn xc] 59) = W := ⟨_, rfl⟩
      rw [hW2] at eA hbA
      have hb2 : Below B w W2 := HI.out.2.1.trans (hbA.mono (by omega))
      have ho2 : Lib.OthersKept 5 (some b) w W2 := HI.out.2.2.below hbA
      have h2 : IsWr B b (out ++ 40 :: prL true (l.take k)) W2 := isWr_below HI.out.1 hbA
      have hag2 : Agw W2 (fun k => k < B) x.list (.slice xa xn xc) := hag.kept fun q hq hlt => ⟨hq, hbA.block q hlt⟩
      have hzb : b ≠ wr.heap.size := by
        intro e
        have hlt : b < wr.heap.size := by
          rcases HI.out.1 with h | h
          · exact h.lt
          · exact h.lt
        omega
      by_cases hk0 : k = 0
      · rw [if_pos hk0, List.nil_append] at hnext
        rw [hnext, List.length_append] at hT1
        have cQ := HC.out x hmem tb xa xn xc (out ++ 40 :: prL true (l.take k)) W2 h2 hb2 htb hag2 (by rw [List.length_append, List.length_cons, HOL.out]; omega)
        have a0 : W2.cell? ⟨wr.heap.size, 0, none⟩ = some (.int .i64 x.kind) := rd_cell eA rfl
        have a1 : W2.cell? ⟨wr.heap.size, 1, none⟩ = some (.string tb) := rd_cell eA rfl
        have a2 : W2.cell? ⟨wr.heap.size, 2, none⟩ = some (.slice xa xn xc) := rd_cell eA rfl
        have HX : Hid ((out ++ 40 :: prL true (l.take k)) ++ prA x = out ++ 40 :: prL true (l.take (k + 1))) := by show _ = _; rw [hnext]; simp
        have HB2 : Hid (Below B w W2 ∧ Lib.OthersKept 5 (some b) w W2) := ⟨hb2, ho2⟩
        have dk : decide ((0 : Int) < (k : Int)) = false := decide_eq_false (by omega)
        have dn : decide (0 < k) = false := decide_eq_false (by omega)
        clear hnext hx hxk hag hag2 htb hmem hT1 eA hbA hb2 ho2 h2 hzb HI hkl hk0
        go_wp2_with fail
        refine cQ.mono ?_
        rintro e w3 ⟨rfl, h3, hb3, ho3⟩
        clear cQ
        go_wp2_with fail
        go_roundw
        case rel => exact ⟨k + 1, by go_num, by omega, by rw [← HX.out]; exact h3, HB2.out.1.trans (hb3.mono (Nat.le_refl _)), HB2.out.2.trans ho3⟩
        case measure => simp [intOf]; omega
      · rw [if_neg hk0] at hnext
        rw [hnext, List.length_append, List.length_append, List.length_singleton] at hT1
        have cS := wr_text B b (out ++ 40 :: prL true (l.take k)) ⟨#[32]⟩ W2 h2 (by rw [List.length_append, List.length_cons, HOL.out]; show _ + 1 ≤ _; omega) (by have := hbA.size; omega)
        have cQ : ∀ W3, IsWr B b ((out ++ 40 :: prL true (l.take k)) ++ [32]) W3 → Below B W2 W3 → Lib.OthersKept 5 (some b) W2 W3 → (W3.cell? ⟨wr.heap.size, 0, none⟩ = some (.int .i64 x.kind) ∧ W3.cell? ⟨wr.heap.size, 1, none⟩ = some (.string tb) ∧ W3.cell? ⟨wr.heap.size, 2, none⟩ = some (.slice xa xn xc)) ∧
            Calls Tryz.prog 35 #[.pointer (some ⟨b, 0, none⟩), .agg #[.int .i64 x.kind, .string tb, .slice xa xn xc], .int .i64 (d : Int)] W3 fun e w' => e = .returned (.tuple #[]) ∧ Hid (IsWr B b (out ++ 40 :: prL true (l.take (k + 1))) w' ∧ Below B w w' ∧ Lib.OthersKept 5 (some b) w w') := fun W3 h3 hb3 ho3 => by
          have e3 := ho3 wr.heap.size _ eA (fun e => hzb (Option.some.inj e).symm) (fun c fz e => by injection e with _ e _; exact absurd e (by decide))
          refine ⟨⟨rd_cell e3 rfl, rd_cell e3 rfl, rd_cell e3 rfl⟩, ?_⟩
          refine (HC.out x hmem tb xa xn xc _ W3 h3 (hb2.trans (hb3.mono (Nat.le_refl _))) htb (hag2.kept fun q hq _ => ⟨hq, hb3.block q hq⟩) (by rw [List.length_append, List.length_append, List.length_cons, List.length_singleton, HOL.out]; omega)).mono ?_
          rintro e w4 ⟨rfl, h4, hb4, ho4⟩
          refine ⟨rfl, ?_, (hb2.trans (hb3.mono (Nat.le_refl _))).trans (hb4.mono (Nat.le_refl _)), (ho2.trans ho3).trans ho4⟩
          rw [hnext]
          simpa using h4
        have dk : decide ((0 : Int) < (k : Int)) = true := decide_eq_true (by omega)
        have dn : decide (0 < k) = true := decide_eq_true (by omega)
        clear hnext hx hxk hag hag2 htb hmem hT1 eA hbA hb2 ho2 h2 hzb HI hkl hk0
        go_wp2_with fail
        refine cS.mono ?_
        rintro e w3 ⟨rfl, h3, hb3, ho3⟩
        clear cS
        obtain ⟨⟨a0, a1, a2⟩, cR⟩ := cQ w3 h3 hb3 ho3
        clear cQ h3 hb3 ho3
        go_wp2_with fail
        refine cR.mono ?_
        rintro e w4 ⟨rfl, H4⟩
        clear cR
        go_wp2_with fail
        go_roundw
        case rel => exact ⟨k + 1, by go_num, by omega, H4⟩
        case measure => simp [intOf]; omega
    · obtain rfl : k = N := by omega
      have hT1 := HT.out k
      have cE := wr_text B b (out ++ 40 :: prL true (l.take k)) ⟨#[41]⟩ wr HI.out.1 (by rw [List.length_append, List.length_cons, HOL.out]; show _ + 1 ≤ _; omega) (by omega)
      have HX : Hid ((out ++ 40 :: prL true (l.take k)) ++ [41] = out ++ 40 :: (prL true l ++ [41])) := by
        show _ = _
        rw [List.take_of_length_le (by rw [HN.out]; exact Nat.le_refl _)]
        simp
      have HB2 : Hid (Below B w wr ∧ Lib.OthersKept 5 (some b) w wr) := HI.out.2
      clear HI hT1
      go_wp2_with fail
      refine cE.mono ?_
      rintro e w3 ⟨rfl, h3, hb3, ho3⟩
      clear cE
      go_wp2_with fail
      go_end0
      exact ⟨rfl, by rw [← HX.out]; exact h3, HB2.out.1.trans (hb3.mono (Nat.le_refl _)), HB2.out.2.trans ho3⟩
/-- Parts as they are read: not too deep, not too many, not too long. -/
def Pr : Nat → List Ar → Prop
  | 0, _ => False
  | f + 1, l => l.length ≤ 100000 ∧ ∀ x ∈ l, x.text.length ≤ 100000 ∧ (x.kind = 1 ∨ x.kind = 2 ∨ (x.kind = 3 ∧ Pr f x.list))
theorem warg_is (f B b d : Nat) (out : Hd.Tx) (x : Ar) (tb : ByteArray) (xa : Option Addr) (xn xc : Nat) (w : World) (hx : x.text.length ≤ 100000) (hk : x.kind = 1 ∨ x.kind = 2 ∨ (x.kind = 3 ∧ Pr f x.list)) (hd : d + f ≤ 999) (h : IsWr B b out w) (hBw : B ≤ w.heap.size)
    (htb : tb.data.toList = x.text) (hag : Agw w (fun k => k < B) x.list (.slice xa xn xc)) (hlen : out.length + (prA x).length ≤ 100000000)
    (hg : ∀ W, Below B w W → NumAt W ∧ ∃ m, W.cell? ⟨1, 0, none⟩ = some (.int .i64 m))
    (cL : Pr f x.list → ∀ (va : Option Addr) (vc : Nat) W, IsWr B b out W → Below B w W → Agw W (fun k => k < B) x.list (.slice va x.list.length vc) → out.length + (prL true x.list).length + 2 ≤ 100000000 →
      Calls Tryz.prog 61 #[.pointer (some ⟨b, 0, none⟩), .slice va x.list.length vc, .int .i64 ((d + 1 : Nat) : Int)] W fun e w' => e = .returned (.tuple #[]) ∧ IsWr B b (out ++ 40 :: (prL true x.list ++ [41])) w' ∧ Below B W w' ∧ Lib.OthersKept 5 (some b) W w') :
    Calls Tryz.prog 35 #[.pointer (some ⟨b, 0, none⟩), .agg #[.int .i64 x.kind, .string tb, .slice xa xn xc], .int .i64 (d : Int)] w fun e w' => e = .returned (.tuple #[]) ∧ IsWr B b (out ++ prA x) w' ∧ Below B w w' ∧ Lib.OthersKept 5 (some b) w w' := by
  have hxn : xn = x.list.length := by
    obtain ⟨a, c, e⟩ := hag.form
    injection e
  subst hxn
  refine warg_at B b d out x tb xa _ xc w h hBw htb (by rw [← tx_size, htb]; exact hx) (by omega) (hk.imp id fun h => h.imp id And.left) hlen hg fun h3 W hW hb => ?_
  have hP : Pr f x.list := by
    rcases hk with h | h | h
    · rw [h] at h3; exact absurd h3 (by decide)
    · rw [h] at h3; exact absurd h3 (by decide)
    · exact h.2
  rw [prA_3 h3] at hlen
  simp only [List.length_cons, List.length_append, List.length_nil] at hlen
  have := cL hP xa xc W hW hb (hag.kept fun q hq _ => ⟨hq, hb.block q hq⟩) (by omega)
  rwa [show ((d + 1 : Nat) : Int) = (d : Int) + 1 from rfl] at this
theorem wlist_is : ∀ (f B b d : Nat) (out : Hd.Tx) (l : List Ar) (va : Option Addr) (vc : Nat) (w : World), Pr f l → d + f ≤ 999 → IsWr B b out w → B ≤ w.heap.size → Agw w (fun k => k < B) l (.slice va l.length vc) → out.length + (prL true l).length + 2 ≤ 100000000 →
    (∀ W, Below B w W → NumAt W ∧ ∃ m, W.cell? ⟨1, 0, none⟩ = some (.int .i64 m)) →
    Calls Tryz.prog 61 #[.pointer (some ⟨b, 0, none⟩), .slice va l.length vc, .int .i64 (d : Int)] w fun e w' => e = .returned (.tuple #[]) ∧ IsWr B b (out ++ 40 :: (prL true l ++ [41])) w' ∧ Below B w w' ∧ Lib.OthersKept 5 (some b) w w'
  | 0, _, _, _, _, _, _, _, _, hp, _, _, _, _, _, _ => hp.elim
  | f + 1, B, b, d, out, l, va, vc, w, hp, hd, h, hBw, hl, hlen, hg => by
    refine wlist_at B b d out l va vc w h hBw hl hp.1 hlen fun x hx tb xa xn xc o W hW hb htb hag ho => ?_
    have hBW : B ≤ W.heap.size := Nat.le_trans hBw hb.size
    exact warg_is f B b d o x tb xa xn xc W (hp.2 x hx).1 (hp.2 x hx).2 (by omega) hW hBW htb hag ho (fun W' hW' => hg W' (hb.trans (hW'.mono (Nat.le_refl _)))) fun hP va vc W' hW' hb' hag' hl' =>
      wlist_is f B b (d + 1) o x.list va vc W' hP (by omega) hW' (Nat.le_trans hBW hb'.size) hag' hl' fun W2 h2 => hg W2 ((hb.trans (hb'.mono (Nat.le_refl _))).trans (h2.mono (Nat.le_refl _)))
end Go.Proofs.YtmcpohnilgbicaaGreatDoor
namespace Go.Proofs.YtmcpohnilgbicaaGreatDoor
open Go.RowKit Go.Proofs.Aid Go.Proofs.Sq Go.Proofs.Hd
open Go.Proofs.Sr (Ar)

theorem pcaught_none (hb : Nat) (w : World) :
    CallsD Tryz.prog 33 #[.pointer (some ⟨hb, 0, none⟩)] .returning w fun e u' w' =>
      e = .returned (.tuple #[]) ∧ u' = .returning ∧ w' = w := by
  refine callsD_of_wpS Tryz.func33 rfl fun c₀ cs hu => ?_
  apply wpS_seq
  apply wpS_region
  simp [wpOpsS, go_sem, recoverD, hu, Tryz.ntmps33, Exit.thenS]
  refine (told_wnil w).mono ?_
  rintro e w1 ⟨rfl, rfl⟩
  simp [go_sem]
  refine wpS_cond (t := false) (by simp [Act.eval, Array.replicate]) ?_
  simp only [Bool.false_eq_true, if_false]
  refine wpS_of_wp (wp_skip ?_)
  cases c₀
  simp_all [bodyPostS, results, Tryz.results33]
theorem two_cells (w : World) (cs ks : Array Value) (t1 t2 : TypeId) : ∃ W2, (w.alloc (.cells cs t1)).alloc (.cells ks t2) = W2 ∧ W2.heap.size = w.heap.size + 2 ∧ W2.heap[w.heap.size]? = some (.cells cs t1 (0, 0)) ∧ W2.heap[w.heap.size + 1]? = some (.cells ks t2 (0, 0)) ∧ Below w.heap.size w W2 := by
  refine ⟨_, rfl, by simp, ?_, ?_, ((Below.refl _ _).alloc (Nat.le_refl _) _).alloc (by simp) _⟩
  · rw [Lib.alloc_old _ _ _ (by simp)]
    exact heap_alloc_new _ _
  · have := heap_alloc_new (w.alloc (.cells cs t1)) (.cells ks t2)
    have hz : (w.alloc (.cells cs t1)).heap.size = w.heap.size + 1 := by simp
    rw [hz] at this
    exact this
/-- How a command is written. -/
def prC (tag name : Hd.Tx) (l : List Ar) : Hd.Tx := tag ++ 32 :: name ++ prL false l ++ [13, 10]
theorem prF_next {l : List Ar} {k : Nat} {x : Ar} (h : l[k]? = some x) : prL false (l.take (k + 1)) = prL false (l.take k) ++ (32 :: prA x) := by
  rw [List.take_add_one, h]
  show prL false (l.take k ++ [x]) = _
  rw [prL_snoc]
  simp
theorem wr_new (w : World) : IsWr w.heap.size w.heap.size [] (w.alloc (.cells #[.pointer none, .slice none 0 0] 73)) :=
  Or.inl ⟨Nat.le_refl _, .slice none 0 0, heap_alloc_new w _, ⟨rfl, Or.inl ⟨rfl, rfl⟩⟩, by simp [Value.ownBlock]⟩
set_option maxHeartbeats 4000000 in
set_option maxRecDepth 100000 in
theorem wprint_is (tb nb : ByteArray) (l : List Ar) (va : Option Addr) (vc N : Nat) (w : World) (hN : l.length = N) (hl : Agw w (fun k => k < w.heap.size) l (.slice va N vc)) (hp : Pr 900 l) (htb : tb.size ≤ 100000) (hnb : nb.size ≤ 100000) (hlen : (prL false l).length ≤ 10000000)
    (hg : ∀ W, Below w.heap.size w W → NumAt W ∧ ∃ m, W.cell? ⟨1, 0, none⟩ = some (.int .i64 m)) :
    Calls Tryz.prog 11 #[.agg #[.string tb, .string nb, .slice va N vc]] w fun e w' => e = .returned (.string ⟨(prC tb.data.toList nb.data.toList l).toArray⟩) ∧ Below w.heap.size w w' := by
  have hmf : ∀ (fn : Fn) (first cap : Array Value) (w : World), (Instr.makeFunc fn first cap).run Tryz.prog w = .ok (.func fn first cap) w := fun _ _ _ _ => rfl
  have hll : N ≤ 100000 := by rw [← hN]; exact hp.1
  obtain ⟨W2, hW2, hz2, e1, e2, hb2⟩ := two_cells w #[.string tb, .string nb, .slice va N vc] #[.string ⟨#[]⟩] 32 9
  have hwr := wr_new W2
  obtain ⟨W3, hW3⟩ : ∃ W, W2.alloc (.cells #[.pointer none, .slice none 0 0] 73) = W := ⟨_, rfl⟩
  have hb23 : Below W2.heap.size W2 W3 := by rw [← hW3]; exact (Below.refl _ _).alloc (Nat.le_refl _) _
  rw [hW3] at hwr
  obtain ⟨B, hB⟩ : ∃ B, W2.heap.size = B := ⟨_, rfl⟩
  rw [hB] at hwr hb23
  have hBz : B = w.heap.size + 2 := by omega
  have HBz : Hid (B = w.heap.size + 2) := hBz
  have HW3 : Hid (((w.alloc (.cells #[.string tb, .string nb, .slice va N vc] 32)).alloc (.cells #[.string ⟨#[]⟩] 9)).alloc (.cells #[.pointer none, .slice none 0 0] 73) = W3) := by show _ = _; rw [hW2, hW3]
  have hb3 : Below w.heap.size w W3 := hb2.trans (hb23.mono (by omega))
  have HC : Hid (∀ W, Below B W3 W → W.heap[w.heap.size]? = some (.cells #[.string tb, .string nb, .slice va N vc] 32 (0, 0)) ∧ W.heap[w.heap.size + 1]? = some (.cells #[.string ⟨#[]⟩] 9 (0, 0)) ∧ Below w.heap.size w W ∧ Agw W (fun k => k < B) l (.slice va N vc)) := fun W hW => by
    have h1 := (hb23.block w.heap.size (by omega)).trans e1
    have h2 := (hb23.block (w.heap.size + 1) (by omega)).trans e2
    have h0 := hb3.trans (hW.mono (by omega))
    exact ⟨(hW.block _ (by omega)).trans h1, (hW.block _ (by omega)).trans h2, h0, hl.kept fun k hk _ => ⟨by omega, h0.block k hk⟩⟩
  have HG : Hid (∀ W, Below w.heap.size w W → NumAt W ∧ ∃ m, W.cell? ⟨1, 0, none⟩ = some (.int .i64 m)) := hg
  have HZ : Hid (B ≤ W3.heap.size) := by show B ≤ W3.heap.size; have := hb23.size; omega
  obtain ⟨hd, hhd⟩ : ∃ t : ByteArray, tb ++ ⟨#[32]⟩ ++ nb = t := ⟨_, rfl⟩
  have hhz : hd.size = tb.size + 1 + nb.size := by rw [← hhd, cat_sz, cat_sz]; rfl
  have HH : Hid (hd.data.toList = tb.data.toList ++ 32 :: nb.data.toList) := by show _ = _; rw [← hhd, cat_text, cat_text]; simp
  have hs1 : (9223372036854775807 < tb.size + 1) = False := eq_false (by omega)
  have hs2 : (9223372036854775807 < tb.size + 1 + nb.size) = False := eq_false (by omega)
  have k0 : W3.cell? ⟨w.heap.size, 0, none⟩ = some (.string tb) := rd_cell (HC.out W3 (Below.refl _ _)).1 rfl
  have k1 : W3.cell? ⟨w.heap.size, 1, none⟩ = some (.string nb) := rd_cell (HC.out W3 (Below.refl _ _)).1 rfl
  have cW := wr_text B B [] hd W3 hwr (by simp; omega) HZ.out
  have hhu : hd.size ≤ 200001 := by omega
  obtain ⟨RB, hRB⟩ : ∃ r : ByteArray, ⟨(prC tb.data.toList nb.data.toList l).toArray⟩ = r := ⟨_, rfl⟩
  have HRB : Hid (⟨(prC tb.data.toList nb.data.toList l).toArray⟩ = RB) := hRB
  rw [hRB]
  rw [List.nil_append] at cW
  have HP : Hid (Pr 900 l ∧ l.length = N) := ⟨hp, hN⟩
  have HLN : Hid (∀ k, (prL false (l.take k)).length ≤ 10000000) := fun k => Nat.le_trans (prL_take_le l false k) hlen
  clear hl hp hlen hg e1 e2 hb2 hwr hb23 hb3 hN hW2 hW3 hBz hz2 hB hhz hRB
  go_enter_defers Tryz.func11, Tryz.ntmps11
  go_wp2_with fail
  have hBe : w.heap.size + 1 + 1 = B := by have := HBz.out; omega
  rw [HW3.out, hBe]
  clear hBe
  refine cW.mono ?_
  rintro e w4 ⟨rfl, h4, hb4, _⟩
  clear cW k0 k1 HW3
  have c2 : w4.cell? ⟨w.heap.size, 2, none⟩ = some (.slice va N vc) := rd_cell (HC.out w4 hb4).1 rfl
  go_wp2_with fail
  go_loopw [18] (fun i wr => ∃ k : Nat, i = .int .i64 (k : Int) ∧ k ≤ N ∧ Hid (IsWr B B (hd.data.toList ++ prL false (l.take k)) wr ∧ Below B W3 wr)) (fun i _ => N - (intOf i).toNat)
  case atStart => exact ⟨0, rfl, by omega, by rw [List.take_zero, prL, List.append_nil]; exact h4, hb4⟩
  case round =>
    obtain ⟨k, rfl, hk, HI⟩ := hrel
    have hsz : W3.heap.size ≤ wr.heap.size := HI.out.2.size
    have hBr : B ≤ wr.heap.size := Nat.le_trans HZ.out hsz
    have hhl : hd.data.toList.length = hd.size := tx_size hd
    by_cases hlt : k < N
    · have hkl : k < l.length := by rw [HP.out.2]; exact hlt
      obtain ⟨x, hx⟩ : ∃ x, l[k] = x := ⟨_, rfl⟩
      have hxk : l[k]? = some x := by rw [List.getElem?_eq_getElem hkl, hx]
      obtain ⟨bb, o, xb, xa, xn, xc, rfl, hxb, hag, q0, q1, q2⟩ := agw_at (HC.out wr HI.out.2).2.2.2 hxk
      have hnext := prF_next hxk
      have hmem : x ∈ l := List.mem_of_getElem? hxk
      have hT1 := HLN.out (k + 1)
      rw [hnext, List.length_append, List.length_cons] at hT1
      have eA := heap_alloc_new wr (.cells #[.int .i64 x.kind, .string xb, .slice xa xn xc] 59)
      have hbA : Below wr.heap.size wr (wr.alloc (.cells #[.int .i64 x.kind, .string xb, .slice xa xn xc] 59)) := (Below.refl _ _).alloc (Nat.le_refl _) _
      obtain ⟨V2, hV2⟩ : ∃ W, wr.alloc (.cells #[.int .i64 x.kind, .string xb, .slice xa xn xc] 59) = W := ⟨_, rfl⟩
      rw [hV2] at eA hbA
      have hb2 : Below B W3 V2 := HI.out.2.trans (hbA.mono hBr)
      have h2 : IsWr B B (hd.data.toList ++ prL false (l.take k)) V2 := isWr_below HI.out.1 hbA
      have hzb : B ≠ wr.heap.size := by
        intro e
        have hlt : B < wr.heap.size := by
          rcases HI.out.1 with h | h
          · exact h.lt
          · exact h.lt
        omega
      have cS := wr_text B B (hd.data.toList ++ prL false (l.take k)) ⟨#[32]⟩ V2 h2 (by rw [List.length_append, hhl]; show _ + 1 ≤ _; omega) (by have := hbA.size; omega)
      have cQ : ∀ V3, IsWr B B ((hd.data.toList ++ prL false (l.take k)) ++ [32]) V3 → Below B V2 V3 → Lib.OthersKept 5 (some B) V2 V3 → (V3.cell? ⟨wr.heap.size, 0, none⟩ = some (.int .i64 x.kind) ∧ V3.cell? ⟨wr.heap.size, 1, none⟩ = some (.string xb) ∧ V3.cell? ⟨wr.heap.size, 2, none⟩ = some (.slice xa xn xc)) ∧
          Calls Tryz.prog 35 #[.pointer (some ⟨B, 0, none⟩), .agg #[.int .i64 x.kind, .string xb, .slice xa xn xc], .int .i64 0] V3 fun e w' => e = .returned (.tuple #[]) ∧ Hid (IsWr B B (hd.data.toList ++ prL false (l.take (k + 1))) w' ∧ Below B W3 w') := fun V3 h3 hb3 ho3 => by
        have e3 := ho3 wr.heap.size _ eA (fun e => hzb (Option.some.inj e).symm) (fun c fz e => by injection e with _ e _; exact absurd e (by decide))
        refine ⟨⟨rd_cell e3 rfl, rd_cell e3 rfl, rd_cell e3 rfl⟩, ?_⟩
        have hb03 := hb2.trans (hb3.mono (Nat.le_refl _))
        have hBV : B ≤ V3.heap.size := Nat.le_trans HZ.out hb03.size
        have hgW : ∀ W, Below B V3 W → NumAt W ∧ ∃ m, W.cell? ⟨1, 0, none⟩ = some (.int .i64 m) := fun W hW => HG.out W (HC.out W (hb03.trans (hW.mono (Nat.le_refl _)))).2.2.1
        have hagV : Agw V3 (fun k => k < B) x.list (.slice xa xn xc) := (hag.kept fun q hq hlt => ⟨hq, hbA.block q hlt⟩).kept fun q hq _ => ⟨hq, hb3.block q hq⟩
        have hpx := HP.out.1.2 x hmem
        have := warg_is 899 B B 0 _ x xb xa xn xc V3 hpx.1 hpx.2 (by omega) h3 hBV hxb hagV (by rw [List.length_append, List.length_append, hhl, List.length_singleton]; omega) hgW fun hP va vc W' hW' hb' hag' hl' =>
          wlist_is 899 B B 1 _ x.list va vc W' hP (by omega) hW' (Nat.le_trans hBV hb'.size) hag' hl' fun W2 h2 => hgW W2 (hb'.trans (h2.mono (Nat.le_refl _)))
        refine this.mono ?_
        rintro e w4 ⟨rfl, h4, hb4, ho4⟩
        refine ⟨rfl, ?_, hb03.trans (hb4.mono (Nat.le_refl _))⟩
        rw [hnext]
        simpa using h4
      clear hnext hx hxk hag hxb hmem hT1 eA hbA hb2 h2 hzb HI hkl
      go_wp2_with fail
      refine cS.mono ?_
      rintro e w5 ⟨rfl, h5, hb5, ho5⟩
      clear cS
      obtain ⟨⟨a0, a1, a2⟩, cR⟩ := cQ w5 h5 hb5 ho5
      clear cQ h5 hb5 ho5
      go_wp2_with fail
      refine cR.mono ?_
      rintro e w6 ⟨rfl, H6⟩
      clear cR
      go_wp2_with fail
      go_roundw
      case rel => exact ⟨k + 1, by go_num, by omega, H6⟩
      case measure => simp [intOf]; omega
    · obtain rfl : k = N := by omega
      have hT1 := HLN.out k
      have cE := wr_text B B (hd.data.toList ++ prL false (l.take k)) ⟨#[13, 10]⟩ wr HI.out.1 (by rw [List.length_append, hhl]; show _ + 2 ≤ _; omega) hBr
      obtain ⟨R, hR⟩ : ∃ R : Hd.Tx, (hd.data.toList ++ prL false (l.take k)) ++ [13, 10] = R := ⟨_, rfl⟩
      have hR0 : R ≠ [] := by rw [← hR]; simp
      have hRp : R = prC tb.data.toList nb.data.toList l := by
        rw [← hR, HH.out, List.take_of_length_le (by rw [HP.out.2]; exact Nat.le_refl _), prC]
      have hRA : (hd.data.toList ++ prL false (l.take k)) ++ (⟨#[13, 10]⟩ : ByteArray).data.toList = R := hR
      rw [hRA] at cE
      have HRR : Hid ((⟨R.toArray⟩ : ByteArray) = RB) := by show _ = _; rw [hRp]; exact HRB.out
      have HB5 : Hid (Below B W3 wr) := HI.out.2
      clear HI hT1 hR hRA hRp
      go_wp2_with fail
      refine cE.mono ?_
      rintro e w5 ⟨rfl, h5, hb5, _⟩
      clear cE
      have cT := wr_string B B R w5 h5 hR0
      rw [HRR.out] at cT
      have hb35 := HB5.out.trans (hb5.mono (Nat.le_refl _))
      clear h5
      go_wp2_with fail
      refine cT.mono ?_
      rintro e w6 ⟨rfl, hb6⟩
      clear cT
      have hb36 := hb35.trans (hb6.mono (Nat.le_refl _))
      have e6 := (HC.out w6 hb36).2.1
      have b6 := (HC.out w6 hb36).2.2.1
      have y0 : w6.cell? ⟨w.heap.size + 1, 0, none⟩ = some (.string ⟨#[]⟩) := rd_cell e6 rfl
      have y1 : w6.frozen? ⟨w.heap.size + 1, 0, none⟩ = false := rd_free e6 0
      have HF : Hid (∀ tmps, tmps[2]? = some (.pointer (some ⟨w.heap.size + 1, 0, none⟩)) →
          Leaves Tryz.prog Tryz.f11 tmps (fun e w' => e = .returned (.string RB) ∧ Below w.heap.size w w') [{ target := .fn (.func 33) #[.pointer (some ⟨w.heap.size + 1, 0, none⟩)], args := #[] }] .returning (w6.setCell ⟨w.heap.size + 1, 0, none⟩ (.string RB))) := by
        intro tmps ht
        have e7 := rd_set (i := 0) (.string RB) e6
        refine leaves_cons (f := 33) (args := #[.pointer (some ⟨w.heap.size + 1, 0, none⟩)]) (by simp) (by simp [go_sem]) ?_
        refine (pcaught_none (w.heap.size + 1) _).mono ?_
        rintro e u' w8 ⟨rfl, rfl, rfl⟩
        have r0 := rd_cell (j := 0) e7 rfl
        refine ⟨.string RB, by simp [results, Tryz.results11, go_sem, ht, r0], rfl, ?_⟩
        exact b6.setCell (p := ⟨w.heap.size + 1, 0, none⟩) (by show w.heap.size ≤ w.heap.size + 1; omega) _
      clear e6 b6 hb6 hb36 hb35 hb5
      go_wp2_with fail
      exact HF.out _ rfl
end Go.Proofs.YtmcpohnilgbicaaGreatDoor
