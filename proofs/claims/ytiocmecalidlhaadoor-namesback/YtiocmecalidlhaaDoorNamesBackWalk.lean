/-
  The walk of NamesBack.
-/
import Derived.Test.YtiocmecalidlhaaDoorDecode
import Derived.Test.YtiocmecalidlhaaDoorBack
namespace Go.Proofs.YtiocmecalidlhaaDoor
open Go.RowKit Go.Proofs.Aid Go.Proofs.Ut

theorem back_eq (s : ByteArray) : (⟨s.data.toList.toArray⟩ : ByteArray) = s := by simp
theorem right_valid {l : List UInt8} (h : rightB l = true) : Lib.validD l = true ∧ l.length ≤ 60 := by
  simp [rightB] at h
  exact ⟨h.1.2, h.1.1.2⟩
theorem encName_length (l : List UInt8) (h : rightB l = true) : (encName l).length ≤ 720 := by
  have h1 := encFrom_length (runes l) [] []
  have h2 := runes_length l
  have h3 := (right_valid h).2
  unfold encName
  simp at h1
  omega
theorem decN_enc (l : List UInt8) (h : rightB l = true) : decN (encName l) = some l := by
  simp [decN, read_name l (right_valid h).1, h]
/-- What Encode wrote, Decode reads. -/
theorem decode_back (s : ByteArray) (w : World) (hT : Tabs w) (h : rightB s.data.toList = true) :
    Calls Tryd.prog 11 #[.string ⟨(encName s.data.toList).toArray⟩] w fun e w' => e = .returned (.tuple #[.string s, .nilIface]) ∧ Below w.heap.size w w' := by
  have hl := encName_length _ h
  refine (decode_any ⟨(encName s.data.toList).toArray⟩ w (by simp [ByteArray.size]; omega) hT).mono ?_
  rintro e w' ⟨⟨n, h1, rfl⟩ | ⟨h1, _⟩, hb⟩
  · have h2 : decN (encName s.data.toList) = some n := by simpa using h1
    rw [decN_enc _ h] at h2
    cases h2
    exact ⟨by rw [back_eq], hb⟩
  · have h2 : decN (encName s.data.toList) = none := by simpa using h1
    rw [decN_enc _ h] at h2
    cases h2

theorem code_enc : encName [97, 38, 195, 169, 98] = [97, 38, 45, 38, 65, 79, 107, 45, 98] := by decide +kernel
theorem code_right : rightB [97, 38, 195, 169, 98] = true := by decide +kernel
set_option maxHeartbeats 400000 in
set_option maxRecDepth 100000 in
theorem coded_any (w : World) (hT : Tabs w) : Calls Tryd.prog 12 #[] w fun e w' => e = .returned (.bool true) ∧ Below w.heap.size w w' := by
  have cE := encode_yes ⟨#[97, 38, 195, 169, 98]⟩ w (by decide) hT code_right
  have cD := fun w1 (hb : Below w.heap.size w w1) => decode_back ⟨#[97, 38, 195, 169, 98]⟩ w1 (hT.below hb) code_right
  rw [show encName (⟨#[97, 38, 195, 169, 98]⟩ : ByteArray).data.toList = [97, 38, 45, 38, 65, 79, 107, 45, 98] from code_enc] at cE cD
  go_enter Tryd.func12, Tryd.ntmps12
  go_wp2_with (first | (go_at_call 6; refine cE.mono ?_; rintro e w1 ⟨rfl, hb1⟩) | (go_at_call 11; refine (cD _ hb1).mono ?_; rintro e w2 ⟨rfl, hb2⟩))
  go_ret
  exact ⟨rfl, hb1.trans (hb2.mono hb1.size)⟩
set_option maxHeartbeats 1000000 in
set_option maxRecDepth 100000 in
theorem back_big (s t : ByteArray) (w : World) (h : 200 < s.size ∨ 400 < t.size) :
    Calls Tryd.prog 4 #[.string s, .string t] w fun e w' => e = .returned (.bool true) ∧ Below w.heap.size w w' := by
  by_cases h1 : 200 < s.size
  · go_enter Tryd.func4, Tryd.ntmps4
    go_wp2
    go_ret
    exact ⟨rfl, Below.refl _ _⟩
  · have h2 : 400 < t.size := by omega
    clear h
    go_enter Tryd.func4, Tryd.ntmps4
    go_wp2
    go_ret
    exact ⟨rfl, Below.refl _ _⟩

/-- How Decode answers, and what Encode then tells of the name. -/
theorem decode_then (t : ByteArray) (w : World) (ht : t.size ≤ 400) (hT : Tabs w) :
    (Calls Tryd.prog 11 #[.string t] w fun e w' => e = .returned (.tuple #[.string ⟨#[]⟩, .iface 22 (.int .i64 3)]) ∧ Below w.heap.size w w') ∨
    ∃ y : ByteArray, (Calls Tryd.prog 11 #[.string t] w fun e w' => e = .returned (.tuple #[.string y, .nilIface]) ∧ Below w.heap.size w w') ∧
      ∀ w1, Tabs w1 → Calls Tryd.prog 6 #[.string y] w1 fun e w' => e = .returned (.tuple #[.string t, .nilIface]) ∧ Below w1.heap.size w1 w' := by
  rcases hd : decN t.data.toList with _ | y
  · left
    refine (decode_any t w (by omega) hT).mono ?_
    rintro e w' ⟨⟨n, h1, _⟩ | ⟨_, rfl⟩, hb⟩
    · rw [hd] at h1; cases h1
    · exact ⟨rfl, hb⟩
  · right
    have hy : rightB y = true ∧ encName y = t.data.toList := by
      unfold decN at hd
      obtain ⟨n, _, h2⟩ := Option.bind_eq_some_iff.1 hd
      split at h2
      · rename_i h3
        cases h2
        exact h3
      · cases h2
    refine ⟨⟨y.toArray⟩, ?_, ?_⟩
    · refine (decode_any t w (by omega) hT).mono ?_
      rintro e w' ⟨⟨n, h1, rfl⟩ | ⟨h1, _⟩, hb⟩
      · rw [hd] at h1; cases h1; exact ⟨rfl, hb⟩
      · rw [hd] at h1; cases h1
    · intro w1 hT1
      have hl := (right_valid hy.1).2
      have := encode_yes ⟨y.toArray⟩ w1 (by simp [ByteArray.size]; omega) hT1 (by simpa using hy.1)
      simp only [hy.2, back_eq] at this
      exact this

set_option maxHeartbeats 1000000 in
set_option maxRecDepth 100000 in
theorem back_no (s t : ByteArray) (w : World) (hs : s.size ≤ 200) (ht : t.size ≤ 400) (hT : Tabs w) (hr : rightB s.data.toList = false) :
    Calls Tryd.prog 4 #[.string s, .string t] w fun e w' => e = .returned (.bool true) ∧ Below w.heap.size w w' := by
  have cC := coded_any w hT
  have cE := fun w1 (hT : Tabs w1) => encode_no s w1 (by omega) hT hr
  have cR : ∀ w1, Tabs w1 → Calls Tryd.prog 8 #[.string s] w1 fun e w' => e = .returned (.bool false) ∧ Below w1.heap.size w1 w' := by
    intro w1 hT1
    have := right_any s w1 (by omega) hT1
    rw [hr] at this
    exact this
  clear hr
  go_enter Tryd.func4, Tryd.ntmps4
  go_wp2_with (first
    | (go_at_call 12; refine cC.mono ?_; rintro e w1 ⟨rfl, hb1⟩; have hT1 := hT.below hb1)
    | (go_at_call 6; refine (cE _ hT1).mono ?_; rintro e w2 ⟨rfl, hb2⟩; have hT2 := hT1.below hb2)
    | (go_at_call 8; refine (cR _ hT2).mono ?_; rintro e w3 ⟨rfl, hb3⟩; have hT3 := hT2.below hb3))
  have hbA : Below w.heap.size w w3 := (hb1.trans (hb2.mono hb1.size)).trans (hb3.mono (Nat.le_trans hb1.size hb2.size))
  clear cC cE cR
  rcases decode_then t w3 ht hT3 with cD | ⟨y, cD, cE⟩
  · refine cD.mono ?_
    rintro e w4 ⟨rfl, hb4⟩
    go_wp2
    go_ret
    exact ⟨rfl, hbA.trans (hb4.mono hbA.size)⟩
  · refine cD.mono ?_
    rintro e w4 ⟨rfl, hb4⟩
    have hT4 := hT3.below hb4
    go_wp2_with (go_at_call 6; refine (cE _ hT4).mono ?_; rintro e w5 ⟨rfl, hb5⟩)
    go_ret
    exact ⟨rfl, (hbA.trans (hb4.mono hbA.size)).trans (hb5.mono (Nat.le_trans hbA.size hb4.size))⟩
set_option maxHeartbeats 1000000 in
set_option maxRecDepth 100000 in
theorem back_yes (s t : ByteArray) (w : World) (hs : s.size ≤ 200) (ht : t.size ≤ 400) (hT : Tabs w) (hr : rightB s.data.toList = true) :
    Calls Tryd.prog 4 #[.string s, .string t] w fun e w' => e = .returned (.bool true) ∧ Below w.heap.size w w' := by
  have cC := coded_any w hT
  have cE := fun w1 (hT : Tabs w1) => encode_yes s w1 (by omega) hT hr
  have cB := fun w1 (hT : Tabs w1) => decode_back s w1 hT hr
  have cR : ∀ w1, Tabs w1 → Calls Tryd.prog 8 #[.string s] w1 fun e w' => e = .returned (.bool true) ∧ Below w1.heap.size w1 w' := by
    intro w1 hT1
    have := right_any s w1 (by omega) hT1
    rw [hr] at this
    exact this
  obtain ⟨x, hx⟩ : ∃ x : ByteArray, ⟨(encName s.data.toList).toArray⟩ = x := ⟨_, rfl⟩
  have hxs : x.size ≤ 1000 := by
    have := encName_length _ hr
    rw [← hx]; simp [ByteArray.size]; omega
  have hpr : ∀ k (h : k < x.size), 32 ≤ x[k].toNat ∧ x[k].toNat ≤ 126 := by
    intro k h
    have he : ∀ c ∈ x.data.toList, printable c := by rw [← hx]; exact name_printable _ hr
    apply he
    have : x[k] = x.data.toList[k]'(by rw [← Lib.size_eq]; exact h) := by rw [Array.getElem_toList]; rfl
    rw [this]
    exact List.getElem_mem _
  rw [hx] at cE cB
  have HP : Hid (∀ k (h : k < x.size), 32 ≤ x[k].toNat ∧ x[k].toNat ≤ 126) := hpr
  clear hr hx hpr
  go_enter Tryd.func4, Tryd.ntmps4
  go_wp2_with (first
    | (go_at_call 12; refine cC.mono ?_; rintro e w1 ⟨rfl, hb1⟩; have hT1 := hT.below hb1)
    | (go_at_call 6; refine (cE _ hT1).mono ?_; rintro e w2 ⟨rfl, hb2⟩; have hT2 := hT1.below hb2))
  have hbA : Below w.heap.size w w2 := hb1.trans (hb2.mono hb1.size)
  clear cC cE
  go_loop [7] (fun i => ∃ k : Nat, k ≤ x.size ∧ i = .int .i64 (k : Int)) (fun i => x.size - (intOf i).toNat)
  case atStart => exact ⟨0, by omega, rfl⟩
  case round =>
    obtain ⟨k, hk, rfl⟩ := hrel
    by_cases hlt : k < x.size
    · obtain ⟨hp1, hp2⟩ := HP.out k hlt
      go_wp2
      go_round
      case rel => exact ⟨k + 1, by omega, by go_num⟩
      case measure => simp [intOf]; omega
    · go_wp2_with fail
      refine (cB _ hT2).mono ?_
      rintro e w3 ⟨rfl, hb3⟩
      have hT3 := hT2.below hb3
      go_wp2_with (go_at_call 8; refine (cR _ hT3).mono ?_; rintro e w4 ⟨rfl, hb4⟩; have hT4 := hT3.below hb4)
      have hbB : Below w.heap.size w w4 := (hbA.trans (hb3.mono hbA.size)).trans (hb4.mono (Nat.le_trans hbA.size hb3.size))
      clear cB cR
      rcases decode_then t w4 ht hT4 with cD | ⟨y, cD, cE⟩
      · refine cD.mono ?_
        rintro e w5 ⟨rfl, hb5⟩
        go_wp2
        go_ret
        exact ⟨rfl, hbB.trans (hb5.mono hbB.size)⟩
      · refine cD.mono ?_
        rintro e w5 ⟨rfl, hb5⟩
        have hT5 := hT4.below hb5
        go_wp2_with (go_at_call 6; refine (cE _ hT5).mono ?_; rintro e w6 ⟨rfl, hb6⟩)
        go_ret
        exact ⟨rfl, (hbB.trans (hb5.mono hbB.size)).trans (hb6.mono (Nat.le_trans hbB.size hb5.size))⟩

/-- NamesBack returns true, whatever the texts. -/
theorem namesBack_any (s t : ByteArray) (w : World) (hT : Tabs w) :
    Calls Tryd.prog 4 #[.string s, .string t] w fun e w' => e = .returned (.bool true) ∧ Below w.heap.size w w' := by
  by_cases h : 200 < s.size ∨ 400 < t.size
  · exact back_big s t w h
  · cases hr : rightB s.data.toList
    · exact back_no s t w (by omega) (by omega) hT hr
    · exact back_yes s t w (by omega) (by omega) hT hr
end Go.Proofs.YtiocmecalidlhaaDoor
