/-
  What wire.stringText does.
-/
import Derived.Test.YtligkpcoajnjmaaDoorWirePrSpec
import Derived.Test.YtligkpcoajnjmaaDoorWireQuoteIs
namespace Go.Proofs.YtligkpcoajnjmaaDoor
open Go.RowKit Go.Proofs.Aid Go.Proofs.Sq Go.Proofs.Hd

set_option maxHeartbeats 2000000 in
theorem stringText_is (s : ByteArray) (m : Int) (w : World) (hs : s.size ≤ 100000) (hm : w.cell? ⟨0, 0, none⟩ = some (.int .i64 m)) (hg : NumAt w) :
    Calls Tryd.prog 54 #[.string s] w fun e w' => (∃ t : ByteArray, e = .returned (.string t) ∧ t.data.toList = strW s.data.toList) ∧ Below w.heap.size w w' := by
  have cB := wbare_is s w (by omega)
  have cI := inQuotes_is s m w hs hm
  have cQ := quote_is s m w hs hm hg
  obtain ⟨T, hT⟩ : ∃ T, strW s.data.toList = T := ⟨_, rfl⟩
  have hT2 := hT
  unfold strW at hT2
  rw [hT]
  cases hb : bareW s.data.toList with
  | true =>
    rw [hb] at cB hT2
    rw [if_pos rfl] at hT2
    rw [hT2] at cI
    clear cQ hT hT2 hb
    go_enter Tryd.func54, Tryd.ntmps54
    go_wp2_with fail
    refine cB.mono ?_
    rintro e w1 ⟨rfl, hw1⟩
    obtain rfl : w = w1 := hw1.symm
    clear cB
    go_wp2_with fail
    refine cI.mono ?_
    rintro e w2 ⟨⟨t, rfl, ht⟩, hb2⟩
    clear cI
    go_wp2_with fail
    go_ret
    exact ⟨⟨t, rfl, ht⟩, hb2⟩
  | false =>
    rw [hb] at cB hT2
    rw [if_neg (by decide)] at hT2
    rw [hT2] at cQ
    clear cI hT hT2 hb
    go_enter Tryd.func54, Tryd.ntmps54
    go_wp2_with fail
    refine cB.mono ?_
    rintro e w1 ⟨rfl, hw1⟩
    obtain rfl : w = w1 := hw1.symm
    clear cB
    go_wp2_with fail
    refine cQ.mono ?_
    rintro e w2 ⟨⟨t, rfl, ht⟩, hb2⟩
    clear cQ
    go_wp2_with fail
    go_ret
    exact ⟨⟨t, rfl, ht⟩, hb2⟩
end Go.Proofs.YtligkpcoajnjmaaDoor
