/-
  Somewhere a text has another one, with no / ahead of it, and none behind: the statement's around.
-/
import Derived.Test.YtfdlopimncodcaaGreatDoorHmMath
namespace Go.Proofs.YtfdlopimncodcaaGreatDoor
open Go.RowKit Go.Proofs.Aid

/-- strings.Contains of a /. -/
def SlashAt : Prop := ∀ (x : ByteArray) (W : World), Calls Tryz.prog 38 #[.string x, .string ⟨#[47]⟩] W fun e w' => e = .returned (.bool (decide ((47 : UInt8) ∈ x.data.toList))) ∧ w' = W
def arAt (p s : ByteArray) (i : Nat) : Bool := decide (s.extract i (i + p.size) = p) && !decide ((47 : UInt8) ∈ (s.extract 0 i).data.toList) && !decide ((47 : UInt8) ∈ (s.extract (i + p.size) s.size).data.toList)
def arB (p s : ByteArray) : Bool := (List.range (s.size + 1 - p.size)).any (arAt p s)
set_option maxHeartbeats 4000000 in
set_option maxRecDepth 100000 in
theorem around_is (HS : SlashAt) (p s : ByteArray) (w : World) (hp : p.size ≤ 100000) (hs : s.size ≤ 100000) :
    Calls Tryz.prog 39 #[.string p, .string s] w fun e w' => e = .returned (.bool (arB p s)) ∧ w' = w := by
  obtain ⟨R, hR⟩ : ∃ R, arB p s = R := ⟨_, rfl⟩
  rw [hR]
  have HR : Hid (arB p s = R) := hR
  clear hR
  go_enter Tryz.func39, Tryz.ntmps39
  go_wp2_with fail
  go_loopw [5] (fun i wr => ∃ k : Nat, i = .int .i64 (k : Int) ∧ k ≤ s.size + 1 ∧ Hid (∀ j, j < k → j + p.size ≤ s.size → arAt p s j = false) ∧ wr = w) (fun i _ => s.size + 1 - (intOf i).toNat)
  case atStart => exact ⟨0, rfl, Nat.zero_le _, fun j h => absurd h (by omega), rfl⟩
  case round =>
    obtain ⟨i, rfl, hi, HI, hwr⟩ := hrel
    obtain rfl : w = wr := hwr.symm
    by_cases hlt : i + p.size ≤ s.size
    · have d0 : decide ((i : Int) + (p.size : Int) ≤ (s.size : Int)) = true := decide_eq_true (by omega)
      have i1 : (0 : Int) ≤ (i : Int) := by omega
      have i2 : (i : Int) ≤ (i : Int) + (p.size : Int) := by omega
      have i3 : (i : Int) + (p.size : Int) ≤ (s.size : Int) := by omega
      have i4 : (i : Int) ≤ (s.size : Int) := by omega
      have HNX : Hid (arAt p s i = false → ∀ j, j < i + 1 → j + p.size ≤ s.size → arAt p s j = false) := fun h j hj h2 => by
        by_cases e : j = i
        · rw [e]; exact h
        · exact HI.out j (by omega) h2
      by_cases hE : s.extract i (i + p.size) = p
      · have hE1 : (s.extract i (i + p.size)).toList = p.toList := by rw [hE]
        have cS1 := HS (s.extract 0 i) w
        have cS2 := HS (s.extract (i + p.size) s.size) w
        obtain ⟨A, hA⟩ : ∃ b, decide ((47 : UInt8) ∈ (s.extract 0 i).data.toList) = b := ⟨_, rfl⟩
        obtain ⟨B, hB⟩ : ∃ b, decide ((47 : UInt8) ∈ (s.extract (i + p.size) s.size).data.toList) = b := ⟨_, rfl⟩
        rw [hA] at cS1
        rw [hB] at cS2
        have HAT : Hid (arAt p s i = (!A && !B)) := by
          unfold Hid arAt
          rw [hA, hB, decide_eq_true hE, Bool.true_and]
        clear hA hB hE HI
        go_wp2_with fail
        refine cS1.mono ?_
        clear cS1
        rintro e w1 ⟨rfl, hw⟩
        obtain rfl : w = w1 := hw.symm
        clear hw
        cases A with
        | true =>
          have HN : Hid _ := HNX.out (by rw [HAT.out]; rfl)
          go_wp2_with fail
          go_roundw
          case rel => exact ⟨i + 1, by go_num, by omega, HN.out, trivial⟩
          case measure => simp [intOf]; omega
        | false =>
          go_wp2_with fail
          refine cS2.mono ?_
          clear cS2
          rintro e w1 ⟨rfl, hw⟩
          obtain rfl : w = w1 := hw.symm
          clear hw
          cases B with
          | true =>
            have HN : Hid _ := HNX.out (by rw [HAT.out]; rfl)
            go_wp2_with fail
            go_roundw
            case rel => exact ⟨i + 1, by go_num, by omega, HN.out, trivial⟩
            case measure => simp [intOf]; omega
          | false =>
            have hRT : R = true := by
              rw [← HR.out]
              unfold arB
              rw [List.any_eq_true]
              exact ⟨i, List.mem_range.2 (by omega), by rw [HAT.out]; rfl⟩
            subst hRT
            clear HR
            go_wp2_with fail
            go_ret
            exact ⟨rfl, rfl⟩
      · have hE1 : ¬ (s.extract i (i + p.size)).toList = p.toList := fun e => hE (by
          rw [Lib.toList_data, Lib.toList_data] at e
          obtain ⟨⟨x⟩⟩ := p
          cases hx : s.extract i (i + (⟨⟨x⟩⟩ : ByteArray).size) with
          | mk d =>
            rw [hx] at e
            obtain ⟨y⟩ := d
            have e : y = x := e
            rw [e])
        have HN : Hid _ := HNX.out (by unfold arAt; rw [decide_eq_false hE]; rfl)
        clear HI hE
        go_wp2_with fail
        go_roundw
        case rel => exact ⟨i + 1, by go_num, by omega, HN.out, trivial⟩
        case measure => simp [intOf]; omega
    · have d0 : decide ((i : Int) + (p.size : Int) ≤ (s.size : Int)) = false := decide_eq_false (by omega)
      have hRF : R = false := by
        rw [← HR.out]
        unfold arB
        rw [List.any_eq_false]
        intro j hj
        rw [List.mem_range] at hj
        rw [HI.out j (by omega) (by omega)]
        simp
      subst hRF
      clear HI HR
      go_wp2_with fail
      go_ret
      exact ⟨rfl, rfl⟩
end Go.Proofs.YtfdlopimncodcaaGreatDoor
