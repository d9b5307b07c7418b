/-
  What head.Small does.
  What search.has does.
-/
import Derived.Test.YtligkpcoajnjmaaGreatDoorRNu13
import Derived.Test.YtligkpcoajnjmaaGreatDoorRNu10
import Derived.Test.YtligkpcoajnjmaaGreatDoorRNu04
namespace Go.Proofs.YtligkpcoajnjmaaGreatDoorR
open Go.RowKit Go.Proofs.Aid Go.Proofs.Hd

theorem small_is (s : ByteArray) (w : World) (hs : s.size ≤ 1000000) :
    Calls Tryz.prog 165 #[.string s] w fun e w' => e = .returned (.string ⟨(small s.data.toList).toArray⟩) ∧ Below w.heap.size w w' := by
  have c := moved_any 65 97 (by decide) (by decide) s w hs
  rw [show s.data.toList.map (mv 65 97) = small s.data.toList from List.map_congr_left fun c _ => mv_sm c] at c
  go_enter Tryz.func165, Tryz.ntmps165
  go_wp2_with fail
  refine c.mono ?_
  rintro e w1 ⟨rfl, hb⟩
  go_wp2_with fail
  go_ret
  exact ⟨rfl, hb⟩
end Go.Proofs.YtligkpcoajnjmaaGreatDoorR
namespace Go.Proofs.YtligkpcoajnjmaaGreatDoorR
open Go.RowKit Go.Proofs.Aid Go.Proofs.Sq Go.Proofs.Hd

set_option maxHeartbeats 1000000 in
theorem has_is (t p : ByteArray) (m : Int) (w : World) (ht : t.size ≤ 1000000) (hp : p.size ≤ 1000000) (hm : w.cell? ⟨1, 0, none⟩ = some (.int .i64 m)) :
    Calls Tryz.prog 105 #[.string t, .string p] w fun e w' => e = .returned (.bool (Sr.hasT t.data.toList p.data.toList)) ∧ Below w.heap.size w w' := by
  have K0 : Hid (∀ W, Below w.heap.size w W → W.cell? ⟨1, 0, none⟩ = some (.int .i64 m)) := fun W h => (h.cell (World.block_lt_of_cell? _ _ hm)).trans hm
  have c1 := small_is t w ht
  obtain ⟨st, hst⟩ : ∃ x : ByteArray, ⟨(small t.data.toList).toArray⟩ = x := ⟨_, rfl⟩
  obtain ⟨sp, hsp⟩ : ∃ x : ByteArray, ⟨(small p.data.toList).toArray⟩ = x := ⟨_, rfl⟩
  have hsz : st.size = t.size := by rw [← list_size, ← hst]; show (small t.data.toList).length = _; rw [small_length, list_size]
  have c2 := fun W => small_is p W hp
  rw [hst] at c1
  rw [hsp] at c2
  obtain ⟨R, hR⟩ : ∃ b, Sr.hasT t.data.toList p.data.toList = b := ⟨_, rfl⟩
  have HR : Hid (Lib.contains st.data.toList sp.data.toList = R) := by show _ = _; rw [← hR, Sr.hasT, ← hst, ← hsp]
  rw [hR]
  have hz2 : st.size < 4294967281 := by omega
  clear hst hsp hR hm hsz
  go_enter Tryz.func105, Tryz.ntmps105
  go_wp2_with fail
  refine c1.mono ?_
  rintro e w1 ⟨rfl, hb1⟩
  go_wp2_with fail
  refine (c2 w1).mono ?_
  rintro e w2 ⟨rfl, hb2⟩
  have hb02 := hb1.trans (hb2.mono hb1.size)
  have c3 := Tryz.strings_Contains st sp m w2 hz2 (K0.out w2 hb02)
  rw [HR.out] at c3
  clear c1 c2
  go_wp2_with fail
  refine c3.mono ?_
  rintro e w3 ⟨rfl, rfl⟩
  go_wp2_with fail
  go_ret
  exact ⟨rfl, hb02⟩
end Go.Proofs.YtligkpcoajnjmaaGreatDoorR
