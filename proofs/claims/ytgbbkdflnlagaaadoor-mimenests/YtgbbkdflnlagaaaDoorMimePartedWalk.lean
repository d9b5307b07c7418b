/-
  The walk of parted: a message in two parts is read and written as it is told.
-/
import Derived.Test.YtgbbkdflnlagaaaDoorMimePrint
import Derived.Test.YtgbbkdflnlagaaaDoorMimeParse
import Derived.Test.YtgbbkdflnlagaaaDoorMimeNestsSpec
namespace Go.Proofs.YtgbbkdflnlagaaaDoor
open Go.RowKit Go.Proofs.Aid Go.Proofs.Sq Go.Proofs.Hd Go.Proofs.Mm

theorem parted_parse_is (m : Int) (w : World) (hm : w.cell? ⟨0, 0, none⟩ = some (.int .i64 m)) :
    Calls Tryd.prog 5 #[.string ⟨partedT.toArray⟩] w fun e w' => Below w.heap.size w w' ∧ ∃ xs, e = .returned (.tuple #[.agg xs.toArray, .nilIface]) ∧ Six w' (fun k => w.heap.size ≤ k) partedP xs := by
  have hl : (⟨partedT.toArray⟩ : ByteArray).data.toList = partedT := rfl
  refine (parse_is ⟨partedT.toArray⟩ m w (by decide) hm).mono ?_
  rintro e w' ⟨hb, ⟨h, _⟩ | ⟨p, xs, h, rfl, hs⟩⟩
  · rw [hl, parted_parse] at h; cases h
  · rw [hl, parted_parse] at h
    obtain rfl := Option.some.inj h
    exact ⟨hb, xs, rfl, hs⟩
theorem parted_fits : Fits 100000 partedP := by
  refine fits_mono (A := partedT.length + 11) (by decide) _ (parse_fits parted_parse)
set_option maxHeartbeats 2000000 in
set_option maxRecDepth 100000 in
theorem parted_is (m : Int) (w : World) (hm : w.cell? ⟨0, 0, none⟩ = some (.int .i64 m)) (htab : TabB w.heap.size w) :
    Calls Tryd.prog 4 #[] w fun e w' => e = .returned (.bool true) ∧ Below w.heap.size w w' := by
  have cP := parted_parse_is m w hm
  unfold partedT at cP
  go_enter Tryd.func4, Tryd.ntmps4
  go_wp2_with fail
  refine cP.mono ?_
  clear cP
  rintro e w1 ⟨hb1, xs, rfl, hsix⟩
  have hk := six_kids (t := mixedT) (b := [98]) (lo := 45) (hi := 76) (n := 7) (ps := [.mk plainT [] 52 55 0 [], .mk plainT [] 64 67 0 []]) hsix
  obtain ⟨tb, bb, a, c, rfl, _, _, _⟩ := hk
  have ht : ([.string tb, .string bb, .int .i64 ((45 : Nat) : Int), .int .i64 ((76 : Nat) : Int), .int .i64 ((7 : Nat) : Int), .slice a ([.mk plainT [] 52 55 0 [], .mk plainT [] 64 67 0 []] : List Mm.Pt).length c] : List Value).toArray = #[.string tb, .string bb, .int .i64 45, .int .i64 76, .int .i64 7, .slice a 2 c] := rfl
  rw [ht]
  have hbA : Below w1.heap.size w1 (w1.alloc (.cells #[.string tb, .string bb, .int .i64 45, .int .i64 76, .int .i64 7, .slice a 2 c] 26)) := (Below.refl _ _).alloc (Nat.le_refl _) _
  have eA := heap_alloc_new w1 (.cells #[.string tb, .string bb, .int .i64 45, .int .i64 76, .int .i64 7, .slice a 2 c] 26)
  have t0 := rd_cell (j := 0) eA rfl
  have t1 := rd_cell (j := 1) eA rfl
  have t2 := rd_cell (j := 2) eA rfl
  have t3 := rd_cell (j := 3) eA rfl
  have t4 := rd_cell (j := 4) eA rfl
  have t5 := rd_cell (j := 5) eA rfl
  have hb01 := hb1.trans (hbA.mono hb1.size)
  have cW := mprint_is partedP _ _ (w1.alloc (.cells #[.string tb, .string bb, .int .i64 45, .int .i64 76, .int .i64 7, .slice a 2 c] 26)) (by decide) (hsix.under hbA) parted_fits (fun W hW => htab W (hb01.trans (hW.mono hb01.size)))
  rw [ht, parted_print] at cW
  clear hsix eA htab hm ht
  go_wp2_with fail
  refine cW.mono ?_
  clear cW
  rintro e w2 ⟨rfl, hb2⟩
  go_wp2_with fail
  go_ret
  exact ⟨rfl, hb01.trans (hb2.mono hb01.size)⟩
end Go.Proofs.YtgbbkdflnlagaaaDoor
