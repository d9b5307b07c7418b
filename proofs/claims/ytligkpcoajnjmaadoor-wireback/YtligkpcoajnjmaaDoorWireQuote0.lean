/-
  What wire.bare, wire.inQuotes and wire.Quote do.
-/
import Derived.Test.YtligkpcoajnjmaaDoorWireQSpec
import Derived.Test.YtligkpcoajnjmaaDoorWireWord
import Derived.Test.YtligkpcoajnjmaaDoorReplShelf
namespace Go.Proofs.YtligkpcoajnjmaaDoor
open Go.RowKit Go.Proofs.Aid Go.Proofs.Hd

theorem cat_text (a b : ByteArray) : (a ++ b).data.toList = a.data.toList ++ b.data.toList := by simp
theorem cat_sz (a b : ByteArray) : (a ++ b).size = a.size + b.size := by simp
theorem index_92 (s : Tx) : decide (Lib.indexByte s 92 < 0) = !s.contains 92 := by
  have h := Lib.contains_iff_indexByte s 92
  rw [h]
  by_cases h1 : 0 ≤ Lib.indexByte s 92
  · rw [decide_eq_true h1, decide_eq_false (by omega)]; rfl
  · rw [decide_eq_false h1, decide_eq_true (by omega)]; rfl
set_option maxHeartbeats 1000000 in
theorem wbare_is (s : ByteArray) (w : World) (hs : s.size ≤ 1000000) :
    Calls Tryd.prog 79 #[.string s] w fun e w' => e = .returned (.bool (bareW s.data.toList)) ∧ w' = w := by
  have cB := fun W => wordBytes_is s W hs
  have cI := fun W => Tryd.strings_IndexByte s 92 W
  rw [show ((92 : Int).toNat.toUInt8) = 92 from rfl] at cI
  have hi := index_92 s.data.toList
  obtain ⟨B, hB⟩ : ∃ b, bareW s.data.toList = b := ⟨_, rfl⟩
  rw [hB]
  unfold bareW at hB
  rw [← hi, wsize] at hB
  obtain ⟨L, hL⟩ : ∃ L, (wordT s.data.toList).length = L := ⟨_, rfl⟩
  obtain ⟨Z, hZ⟩ : ∃ Z, Lib.indexByte s.data.toList 92 = Z := ⟨_, rfl⟩
  rw [hL] at cB hB
  rw [hZ] at cI hB
  clear hi hL hZ
  by_cases h0 : s.data.toList = []
  · have f1 : s.toList = [] := by rw [Lib.toList_data]; exact h0
    have f2 : s.toList.isEmpty = true := by rw [f1]; rfl
    rw [h0] at hB
    have hB : false = B := by simpa using hB
    subst hB
    clear h0 cB cI
    go_enter Tryd.func79, Tryd.ntmps79
    go_wp2_with fail
    go_ret
    exact ⟨rfl, rfl⟩
  · have f1 : ¬ s.toList = [] := by rw [Lib.toList_data]; exact h0
    have f2 : s.toList.isEmpty = false := by rw [Lib.toList_data]; cases hh : s.data.toList with | nil => exact absurd hh h0 | cons _ _ => rfl
    have f3 : s.data.toList.isEmpty = false := by cases hh : s.data.toList with | nil => exact absurd hh h0 | cons _ _ => rfl
    rw [f3] at hB
    clear h0 f3
    by_cases hq : L = s.size
    · have e1 : ((L : Int) == (s.size : Int)) = true := by simp; omega
      rw [decide_eq_true hq] at hB
      have hB : decide (Z < 0) = B := by simpa using hB
      clear hq
      go_enter Tryd.func79, Tryd.ntmps79
      go_wp2_with fail
      refine (cB _).mono ?_
      rintro e w1 ⟨rfl, hw⟩
      obtain rfl : w = w1 := hw.symm
      go_wp2_with fail
      refine (cI _).mono ?_
      rintro e w1 ⟨rfl, hw⟩
      obtain rfl : w = w1 := hw.symm
      go_wp2_with fail
      go_ret
      exact ⟨by rw [← hB]; rfl, rfl⟩
    · have e1 : ((L : Int) == (s.size : Int)) = false := by simp; omega
      rw [decide_eq_false hq] at hB
      have hB : false = B := by simpa using hB
      subst hB
      clear hq cI
      go_enter Tryd.func79, Tryd.ntmps79
      go_wp2_with fail
      refine (cB _).mono ?_
      rintro e w1 ⟨rfl, hw⟩
      obtain rfl : w = w1 := hw.symm
      go_wp2_with fail
      go_ret
      exact ⟨rfl, rfl⟩
theorem countB_le (s : ByteArray) (x : UInt8) : Lib.countB s ⟨#[x]⟩ ≤ s.size + 1 := by
  show Lib.count s.data.toList [x] ≤ _
  have := Lib.count_le s.data.toList [x]
  rw [wsize] at this
  exact this
theorem repB_len (x a b : UInt8) (s : Tx) : (repB x [a, b] s).length ≤ 2 * s.length := by
  induction s with
  | nil => simp [repB]
  | cons c r ih =>
    rw [show repB x [a, b] (c :: r) = (if c = x then [a, b] else [c]) ++ repB x [a, b] r by simp [repB], List.length_append, List.length_cons]
    split <;> simp <;> omega
set_option maxHeartbeats 1000000 in
theorem inQuotes_is (s : ByteArray) (m : Int) (w : World) (hs : s.size ≤ 100000) (hm : w.cell? ⟨0, 0, none⟩ = some (.int .i64 m)) :
    Calls Tryd.prog 80 #[.string s] w fun e w' => (∃ t : ByteArray, e = .returned (.string t) ∧ t.data.toList = 34 :: (esc s.data.toList ++ [34])) ∧ Below w.heap.size w w' := by
  have h1 := countB_le s 92
  have c1 := Tryd.strings_ReplaceAll s ⟨#[92]⟩ ⟨#[92, 92]⟩ m w (by omega) hm (by decide) (by show s.size + Lib.countB s ⟨#[92]⟩ * 2 ≤ _; omega)
  rw [show (⟨#[92]⟩ : ByteArray).data.toList = [92] from rfl, show (⟨#[92, 92]⟩ : ByteArray).data.toList = [92, 92] from rfl, replaceAll_is 92 [92, 92] _ (by decide)] at c1
  obtain ⟨A, hA⟩ : ∃ A : ByteArray, ⟨(repB 92 [92, 92] s.data.toList).toArray⟩ = A := ⟨_, rfl⟩
  have hAl : A.data.toList = repB 92 [92, 92] s.data.toList := by rw [← hA]
  have hAs : A.size ≤ 200000 := by rw [← wsize, hAl]; have := repB_len 92 92 92 s.data.toList; rw [wsize] at this; omega
  rw [hA] at c1
  have h2 := countB_le A 34
  have HM : Hid (∀ W, Below w.heap.size w W → W.cell? ⟨0, 0, none⟩ = some (.int .i64 m)) := fun W h => (h.cell (World.block_lt_of_cell? _ _ hm)).trans hm
  have c2 : ∀ W, Below w.heap.size w W → Calls Tryd.prog 97 #[.string A, .string ⟨#[34]⟩, .string ⟨#[92, 34]⟩] W fun e w' => e = .returned (.string ⟨(esc s.data.toList).toArray⟩) ∧ Below W.heap.size W w' := fun W hW => by
    have := Tryd.strings_ReplaceAll A ⟨#[34]⟩ ⟨#[92, 34]⟩ m W (by omega) (HM.out W hW) (by decide) (by show A.size + Lib.countB A ⟨#[34]⟩ * 2 ≤ _; omega)
    rw [show (⟨#[34]⟩ : ByteArray).data.toList = [34] from rfl, show (⟨#[92, 34]⟩ : ByteArray).data.toList = [92, 34] from rfl, replaceAll_is 34 [92, 34] _ (by decide), hAl, esc_is] at this
    exact this
  obtain ⟨E, hE⟩ : ∃ A : ByteArray, ⟨(esc s.data.toList).toArray⟩ = A := ⟨_, rfl⟩
  have hEl : E.data.toList = esc s.data.toList := by rw [← hE]
  have hEs : E.size ≤ 200000 := by rw [← wsize, hEl]; have := esc_len s.data.toList; rw [wsize] at this; omega
  have HE : Hid (E.data.toList = esc s.data.toList) := hEl
  rw [hE] at c2
  have hov : (9223372036854775807 < 1 + E.size) = False := by simp; omega
  have hov2 : (9223372036854775807 < 1 + E.size + 1) = False := by simp; omega
  clear hA hAl hE hEl h1 h2 hm
  go_enter Tryd.func80, Tryd.ntmps80
  go_wp2_with fail
  refine c1.mono ?_
  rintro e w1 ⟨rfl, hb1⟩
  have HB1 : Hid (Below w.heap.size w w1) := hb1
  clear c1 hb1
  go_wp2_with fail
  refine (c2 w1 HB1.out).mono ?_
  rintro e w2 ⟨rfl, hb2⟩
  have HB2 : Hid (Below w.heap.size w w2) := HB1.out.trans (hb2.mono HB1.out.size)
  clear c2 hb2
  go_wp2_with fail
  go_ret
  exact ⟨⟨_, rfl, by rw [cat_text, cat_text, HE.out]; rfl⟩, HB2.out⟩
end Go.Proofs.YtligkpcoajnjmaaDoor
