/-
  The walk of NamesGo.
-/
import Derived.Test.YtiocmecalidlhaaDoorRefDecode
import Derived.Test.YtiocmecalidlhaaDoorDecode
import Derived.Test.YtiocmecalidlhaaDoorBare
namespace Go.Proofs.YtiocmecalidlhaaDoor
open Go.RowKit Go.Proofs.Aid Go.Proofs.Ut

set_option maxHeartbeats 1000000 in
set_option maxRecDepth 100000 in
theorem go_big (s t : ByteArray) (w : World) (h : 200 < s.size ∨ 400 < t.size) :
    Calls Tryd.prog 3 #[.string s, .string t] w fun e w' => e = .returned (.bool true) ∧ Below w.heap.size w w' := by
  by_cases h1 : 200 < s.size
  · go_enter Tryd.func3, Tryd.ntmps3
    go_wp2
    go_ret
    exact ⟨rfl, Below.refl _ _⟩
  · have h2 : 400 < t.size := by omega
    clear h
    go_enter Tryd.func3, Tryd.ntmps3
    go_wp2
    go_ret
    exact ⟨rfl, Below.refl _ _⟩

/-- A text, and whether it is told with it that nothing is wrong, or which error: the document's way and the program's. -/
theorem both_encode (s : ByteArray) (hs : s.size ≤ 200) : ∃ (x : ByteArray) (v : Value) (n : Int),
    (∀ w, Tabs w → Calls Tryd.prog 5 #[.string s] w fun e w' => e = .returned (.tuple #[.string x, .int .i64 n]) ∧ Below w.heap.size w w') ∧
    (∀ w, Tabs w → Calls Tryd.prog 6 #[.string s] w fun e w' => e = .returned (.tuple #[.string x, v]) ∧ Below w.heap.size w w') ∧
    (∀ w, ErrType w → Calls Tryd.prog 7 #[v, .int .i64 n] w fun e w' => e = .returned (.bool true) ∧ Below w.heap.size w w') := by
  cases hr : rightB s.data.toList
  · refine ⟨⟨#[]⟩, .iface 22 (.int .i64 1), 1, fun w hT => refEncode_no s w (by omega) hT hr, fun w hT => encode_no s w (by omega) hT hr, fun w hg => ?_⟩
    refine (bare_err 1 1 w hg).mono ?_
    rintro e w' ⟨rfl, hb⟩
    exact ⟨rfl, hb⟩
  · refine ⟨⟨(encName s.data.toList).toArray⟩, .nilIface, 0, fun w hT => refEncode_yes s w (by omega) hT hr, fun w hT => encode_yes s w (by omega) hT hr, fun w hg => ?_⟩
    refine (bare_nil 0 w).mono ?_
    rintro e w' ⟨rfl, hb⟩
    exact ⟨rfl, hb⟩
theorem dec_one (l : List UInt8) : decOf strictN l = decN l := dec_same l
theorem both_decode (s : ByteArray) (hs : s.size ≤ 400) : ∃ (x : ByteArray) (v : Value) (n : Int),
    (∀ w, Tabs w → Calls Tryd.prog 10 #[.string s] w fun e w' => e = .returned (.tuple #[.string x, .int .i64 n]) ∧ Below w.heap.size w w') ∧
    (∀ w, Tabs w → Calls Tryd.prog 11 #[.string s] w fun e w' => e = .returned (.tuple #[.string x, v]) ∧ Below w.heap.size w w') ∧
    (∀ w, ErrType w → Calls Tryd.prog 7 #[v, .int .i64 n] w fun e w' => e = .returned (.bool true) ∧ Below w.heap.size w w') := by
  rcases hd : decN s.data.toList with _ | name
  · refine ⟨⟨#[]⟩, .iface 22 (.int .i64 3), 3, fun w hT => ?_, fun w hT => ?_, fun w hg => ?_⟩
    · refine (refDecode_any s w hs hT).mono ?_
      rintro e w' ⟨⟨n, h1, _⟩ | ⟨_, rfl⟩, hb⟩
      · rw [dec_one, hd] at h1; cases h1
      · exact ⟨rfl, hb⟩
    · refine (decode_any s w (by omega) hT).mono ?_
      rintro e w' ⟨⟨n, h1, _⟩ | ⟨_, rfl⟩, hb⟩
      · rw [hd] at h1; cases h1
      · exact ⟨rfl, hb⟩
    · refine (bare_err 3 3 w hg).mono ?_
      rintro e w' ⟨rfl, hb⟩
      exact ⟨rfl, hb⟩
  · refine ⟨⟨name.toArray⟩, .nilIface, 0, fun w hT => ?_, fun w hT => ?_, fun w hg => ?_⟩
    · refine (refDecode_any s w hs hT).mono ?_
      rintro e w' ⟨⟨n, h1, rfl⟩ | ⟨h1, _⟩, hb⟩
      · rw [dec_one, hd] at h1; cases h1; exact ⟨rfl, hb⟩
      · rw [dec_one, hd] at h1; cases h1
    · refine (decode_any s w (by omega) hT).mono ?_
      rintro e w' ⟨⟨n, h1, rfl⟩ | ⟨h1, _⟩, hb⟩
      · rw [hd] at h1; cases h1; exact ⟨rfl, hb⟩
      · rw [hd] at h1; cases h1
    · refine (bare_nil 0 w).mono ?_
      rintro e w' ⟨rfl, hb⟩
      exact ⟨rfl, hb⟩

set_option maxHeartbeats 4000000 in
set_option maxRecDepth 100000 in
theorem go_small (s t : ByteArray) (w : World) (hs : s.size ≤ 200) (ht : t.size ≤ 400) (hT : Tabs w) (hg : ErrType w) :
    Calls Tryd.prog 3 #[.string s, .string t] w fun e w' => e = .returned (.bool true) ∧ Below w.heap.size w w' := by
  obtain ⟨x, v, n, c5, c6, c7⟩ := both_encode s hs
  obtain ⟨y, v2, n2, c10, c11, c72⟩ := both_decode t ht
  obtain ⟨R, hR⟩ : ∃ R, rightB s.data.toList = R := ⟨_, rfl⟩
  have c8 := fun w hT => right_any s w (by omega) hT
  have c9 := fun w hT => named_any s w (by omega) hT
  rw [hR] at c8 c9
  clear hR
  have c5' := c5 w hT
  clear c5
  go_enter Tryd.func3, Tryd.ntmps3
  go_wp2_with fail
  refine c5'.mono ?_
  rintro e w1 ⟨rfl, hb1⟩
  have hT1 := hT.below hb1
  have hg1 := hg.below hb1
  clear c5' hT hg
  go_wp2_with fail
  refine (c6 _ hT1).mono ?_
  rintro e w2 ⟨rfl, hb2⟩
  have hT2 := hT1.below hb2
  have hg2 := hg1.below hb2
  have hbA : Below w.heap.size w w2 := hb1.trans (hb2.mono hb1.size)
  clear c6 hT1 hg1 hb1 hb2
  go_wp2_with fail
  refine (c7 _ hg2).mono ?_
  rintro e w3 ⟨rfl, hb3⟩
  have hT3 := hT2.below hb3
  have hg3 := hg2.below hb3
  have hbB : Below w.heap.size w w3 := hbA.trans (hb3.mono hbA.size)
  clear c7 hT2 hg2 hb3 hbA
  go_wp2_with fail
  refine (c8 _ hT3).mono ?_
  rintro e w4 ⟨rfl, hb4⟩
  have hT4 := hT3.below hb4
  have hg4 := hg3.below hb4
  have hbC : Below w.heap.size w w4 := hbB.trans (hb4.mono hbB.size)
  clear c8 hT3 hg3 hb4 hbB
  go_wp2_with fail
  refine (c9 _ hT4).mono ?_
  rintro e w5 ⟨rfl, hb5⟩
  have hT5 := hT4.below hb5
  have hg5 := hg4.below hb5
  have hbD : Below w.heap.size w w5 := hbC.trans (hb5.mono hbC.size)
  clear c9 hT4 hg4 hb5 hbC
  go_wp2_with fail
  refine (c10 _ hT5).mono ?_
  rintro e w6 ⟨rfl, hb6⟩
  have hT6 := hT5.below hb6
  have hg6 := hg5.below hb6
  have hbE : Below w.heap.size w w6 := hbD.trans (hb6.mono hbD.size)
  clear c10 hT5 hg5 hb6 hbD
  go_wp2_with fail
  refine (c11 _ hT6).mono ?_
  rintro e w7 ⟨rfl, hb7⟩
  have hg7 := hg6.below hb7
  have hbF : Below w.heap.size w w7 := hbE.trans (hb7.mono hbE.size)
  clear c11 hT6 hg6 hb7 hbE
  go_wp2_with fail
  refine (c72 _ hg7).mono ?_
  rintro e w8 ⟨rfl, hb8⟩
  have hbG : Below w.heap.size w w8 := hbF.trans (hb8.mono hbF.size)
  clear c72 hg7 hb8 hbF
  go_wp2
  go_ret
  exact ⟨rfl, hbG⟩
/-- NamesGo returns true, whatever the texts. -/
theorem namesGo_any (s t : ByteArray) (w : World) (hT : Tabs w) (hg : ErrType w) :
    Calls Tryd.prog 3 #[.string s, .string t] w fun e w' => e = .returned (.bool true) ∧ Below w.heap.size w w' := by
  by_cases h : 200 < s.size ∨ 400 < t.size
  · exact go_big s t w h
  · exact go_small s t w (by omega) (by omega) hT hg
end Go.Proofs.YtiocmecalidlhaaDoor
