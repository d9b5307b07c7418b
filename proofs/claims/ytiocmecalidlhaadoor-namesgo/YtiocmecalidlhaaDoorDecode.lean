/-
  What utf7.Decode does: the name of which Encode tells just the letters; else ErrForm.
-/
import Derived.Test.YtiocmecalidlhaaDoorRead
namespace Go.Proofs.YtiocmecalidlhaaDoor
open Go.RowKit Go.Proofs.Aid Go.Proofs.Ut

set_option maxHeartbeats 400000 in
set_option maxRecDepth 100000 in
theorem decode_loose (s : ByteArray) (w : World) (hs : s.size ≤ 1000) (hr : readN s.data.toList = none) :
    Calls Tryd.prog 11 #[.string s] w fun e w' => e = .returned (.tuple #[.string ⟨#[]⟩, .iface 22 (.int .i64 3)]) ∧ Below w.heap.size w w' := by
  have cR : Calls Tryd.prog 23 #[.string s] w fun e w' => e = .returned (.tuple #[.string ⟨#[]⟩, .bool false]) ∧ Below w.heap.size w w' := by
    refine (read_any s w hs).mono ?_
    rintro e w' ⟨⟨n, h, _⟩ | ⟨_, h⟩, hb⟩
    · rw [hr] at h; cases h
    · exact ⟨h, hb⟩
  clear hr
  go_enter Tryd.func11, Tryd.ntmps11
  go_wp2_with (go_at_call 23; refine cR.mono ?_; rintro e w1 ⟨rfl, hb1⟩)
  go_ret2
  exact ⟨rfl, by assumption⟩

theorem read_yes {s : ByteArray} {w : World} (hs : s.size ≤ 1000) {name : List UInt8} (hr : readN s.data.toList = some name) :
    Calls Tryd.prog 23 #[.string s] w fun e w' => e = .returned (.tuple #[.string ⟨name.toArray⟩, .bool true]) ∧ Below w.heap.size w w' := by
  refine (read_any s w hs).mono ?_
  rintro e w' ⟨⟨n, h, h2⟩ | ⟨h, _⟩, hb⟩
  · rw [hr] at h; cases h; exact ⟨h2, hb⟩
  · rw [hr] at h; cases h

set_option maxHeartbeats 400000 in
set_option maxRecDepth 100000 in
theorem decode_wrong (s : ByteArray) (w : World) (hs : s.size ≤ 1000) (hT : Tabs w) (name : List UInt8) (hl : name.length ≤ 100000) (hr : readN s.data.toList = some name) (hn : rightB name = false) :
    Calls Tryd.prog 11 #[.string s] w fun e w' => e = .returned (.tuple #[.string ⟨#[]⟩, .iface 22 (.int .i64 3)]) ∧ Below w.heap.size w w' := by
  have cR := read_yes (w := w) hs hr
  have cE : ∀ w1, Below w.heap.size w w1 → Calls Tryd.prog 6 #[.string ⟨name.toArray⟩] w1 fun e w' => e = .returned (.tuple #[.string ⟨#[]⟩, .iface 22 (.int .i64 1)]) ∧ Below w1.heap.size w1 w' :=
    fun w1 hb => encode_no ⟨name.toArray⟩ w1 (by simp [ByteArray.size]; omega) (hT.below hb) (by simpa using hn)
  clear hr hn
  go_enter Tryd.func11, Tryd.ntmps11
  go_wp2_with (first | (go_at_call 23; refine cR.mono ?_; rintro e w1 ⟨rfl, hb1⟩) | (go_at_call 6; refine (cE _ hb1).mono ?_; rintro e w2 ⟨rfl, hb2⟩))
  go_ret2
  exact ⟨rfl, hb1.trans (hb2.mono hb1.size)⟩

set_option maxHeartbeats 400000 in
set_option maxRecDepth 100000 in
theorem decode_yes (s : ByteArray) (w : World) (hs : s.size ≤ 1000) (hT : Tabs w) (name : List UInt8) (hl : name.length ≤ 100000) (hr : readN s.data.toList = some name) (hn : rightB name = true) (he : encName name = s.data.toList) :
    Calls Tryd.prog 11 #[.string s] w fun e w' => e = .returned (.tuple #[.string ⟨name.toArray⟩, .nilIface]) ∧ Below w.heap.size w w' := by
  have cR := read_yes (w := w) hs hr
  have cE : ∀ w1, Below w.heap.size w w1 → Calls Tryd.prog 6 #[.string ⟨name.toArray⟩] w1 fun e w' => e = .returned (.tuple #[.string s, .nilIface]) ∧ Below w1.heap.size w1 w' := by
    intro w1 hb
    have := encode_yes ⟨name.toArray⟩ w1 (by simp [ByteArray.size]; omega) (hT.below hb) (by simpa using hn)
    simp only [he] at this
    exact this
  clear hr hn he
  go_enter Tryd.func11, Tryd.ntmps11
  go_wp2_with (first | (go_at_call 23; refine cR.mono ?_; rintro e w1 ⟨rfl, hb1⟩) | (go_at_call 6; refine (cE _ hb1).mono ?_; rintro e w2 ⟨rfl, hb2⟩))
  go_ret2
  exact ⟨rfl, hb1.trans (hb2.mono hb1.size)⟩

set_option maxHeartbeats 400000 in
set_option maxRecDepth 100000 in
theorem decode_other (s : ByteArray) (w : World) (hs : s.size ≤ 1000) (hT : Tabs w) (name : List UInt8) (hl : name.length ≤ 100000) (hr : readN s.data.toList = some name) (hn : rightB name = true) (he : encName name ≠ s.data.toList) :
    Calls Tryd.prog 11 #[.string s] w fun e w' => e = .returned (.tuple #[.string ⟨#[]⟩, .iface 22 (.int .i64 3)]) ∧ Below w.heap.size w w' := by
  have cR := read_yes (w := w) hs hr
  obtain ⟨x, hx⟩ : ∃ x : ByteArray, x = ⟨(encName name).toArray⟩ := ⟨_, rfl⟩
  have cE : ∀ w1, Below w.heap.size w w1 → Calls Tryd.prog 6 #[.string ⟨name.toArray⟩] w1 fun e w' => e = .returned (.tuple #[.string x, .nilIface]) ∧ Below w1.heap.size w1 w' := by
    intro w1 hb
    have := encode_yes ⟨name.toArray⟩ w1 (by simp [ByteArray.size]; omega) (hT.below hb) (by simpa using hn)
    rw [hx]
    exact this
  have hne : (x.toList == s.toList) = false := by
    rw [beq_eq_false_iff_ne, Lib.toList_data, Lib.toList_data, hx]
    simpa using he
  clear hr hn he hx
  go_enter Tryd.func11, Tryd.ntmps11
  go_wp2_with (first | (go_at_call 23; refine cR.mono ?_; rintro e w1 ⟨rfl, hb1⟩) | (go_at_call 6; refine (cE _ hb1).mono ?_; rintro e w2 ⟨rfl, hb2⟩))
  go_ret2
  exact ⟨rfl, hb1.trans (hb2.mono hb1.size)⟩

/-- The name that letters are (1.1). -/
def decN (l : List UInt8) : Option (List UInt8) := (readN l).bind fun name => if rightB name = true ∧ encName name = l then some name else none
theorem decode_any (s : ByteArray) (w : World) (hs : s.size ≤ 1000) (hT : Tabs w) :
    Calls Tryd.prog 11 #[.string s] w fun e w' => ((∃ name, decN s.data.toList = some name ∧ e = .returned (.tuple #[.string ⟨name.toArray⟩, .nilIface])) ∨ (decN s.data.toList = none ∧ e = .returned (.tuple #[.string ⟨#[]⟩, .iface 22 (.int .i64 3)]))) ∧ Below w.heap.size w w' := by
  rcases hr : readN s.data.toList with _ | name
  · refine (decode_loose s w hs hr).mono ?_
    rintro e w' ⟨rfl, hb⟩
    exact ⟨Or.inr ⟨by simp [decN, hr], rfl⟩, hb⟩
  · have hl : name.length ≤ 100000 := by
      have := readN_length _ _ hr
      have h2 := Lib.size_eq s
      omega
    by_cases hn : rightB name = true
    · by_cases he : encName name = s.data.toList
      · refine (decode_yes s w hs hT name hl hr hn he).mono ?_
        rintro e w' ⟨rfl, hb⟩
        exact ⟨Or.inl ⟨name, by simp [decN, hr, hn, he], rfl⟩, hb⟩
      · refine (decode_other s w hs hT name hl hr hn he).mono ?_
        rintro e w' ⟨rfl, hb⟩
        exact ⟨Or.inr ⟨by simp [decN, hr, he], rfl⟩, hb⟩
    · refine (decode_wrong s w hs hT name hl hr (by simpa using hn)).mono ?_
      rintro e w' ⟨rfl, hb⟩
      exact ⟨Or.inr ⟨by simp [decN, hr, hn], rfl⟩, hb⟩
end Go.Proofs.YtiocmecalidlhaaDoor
