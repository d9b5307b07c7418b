/-
  The library contracts that the texts of head want, and more.
-/
import Derived.Test.YtfdlopimncodcaaGreatDoorNmShelf
import Derived.Test.YtfdlopimncodcaaGreatDoorMSeqBase
import Derived.Laws.RangeAny
import Derived.Lib.IndexAny
import Derived.WalkKit
import Derived.WalkMore
import Derived.Deep.QuietTactic
import Derived.BigQuiet
import Derived.Deep.RegionWith

namespace Go.Proofs.YtfdlopimncodcaaGreatDoor
open Go.RowKit Go.Proofs.Aid

theorem decode_skip (s : ByteArray) (pos : Nat) (h : pos < s.size) (ha : 128 ≤ (s.get! pos).toNat) : pos + (Utf8.decode s pos).2 ≤ s.size ∧ ∀ k, k < (Utf8.decode s pos).2 → 128 ≤ (s.get! (pos + k)).toNat := by
  have h0 : (s.get! (pos + 0)).toNat = (s.get! pos).toNat := rfl
  have hn : ¬ (s.get! (pos + 0)).toNat < 128 := by omega
  have one : pos + 1 ≤ s.size ∧ ∀ k, k < 1 → 128 ≤ (s.get! (pos + k)).toNat := ⟨by omega, fun k hk => by
    obtain rfl : k = 0 := by omega
    omega⟩
  simp only [Utf8.decode, hn, if_false]
  split
  · next h1 =>
    simp only [Bool.and_eq_true, decide_eq_true_eq, beq_iff_eq] at h1
    split
    · refine ⟨by omega, fun k hk => ?_⟩
      match k, hk with
      | 0, _ => omega
      | 1, _ => omega
    · exact one
  · split
    · next h1 =>
      simp only [Bool.and_eq_true, decide_eq_true_eq, beq_iff_eq] at h1
      split
      · refine ⟨by omega, fun k hk => ?_⟩
        match k, hk with
        | 0, _ => omega
        | 1, _ => omega
        | 2, _ => omega
      · exact one
    · split
      · next h1 =>
        simp only [Bool.and_eq_true, decide_eq_true_eq, beq_iff_eq] at h1
        split
        · refine ⟨by omega, fun k hk => ?_⟩
          match k, hk with
          | 0, _ => omega
          | 1, _ => omega
          | 2, _ => omega
          | 3, _ => omega
        · exact one
      · exact one
theorem encode_high {r : Int} (h : 128 ≤ r) : ∃ l b, (Utf8.encode r).data.toList = l ++ [b] ∧ 128 ≤ b.toNat ∧ 1 ≤ l.length ∧ l.length ≤ 3 := by
  have hb : ∀ n : Nat, 128 ≤ (UInt8.ofNat (0x80 + n % 64)).toNat := fun n => by rw [UInt8.toNat_ofNat']; omega
  unfold Utf8.encode
  simp only
  have hc : ¬ (if Utf8.valid r = true then r.toNat else Utf8.runeError) < 0x80 := by
    split
    · omega
    · unfold Utf8.runeError; omega
  generalize (if Utf8.valid r = true then r.toNat else Utf8.runeError) = c at hc ⊢
  rw [if_neg hc]
  split
  · exact ⟨[_], _, rfl, hb _, by simp, by simp⟩
  · split
    · exact ⟨[_, _], _, rfl, hb _, by simp, by simp⟩
    · exact ⟨[_, _, _], _, rfl, hb _, by simp, by simp⟩
theorem index_low {l : List UInt8} {b : UInt8} (h : ∀ c ∈ l, c.toNat < 128) (hb : 128 ≤ b.toNat) : Lib.indexByte l b = -1 := by
  have hg := Lib.indexByte_ge l b
  by_cases h0 : 0 ≤ Lib.indexByte l b
  · have := (Lib.indexByte_some (l := l) (c := b) (o := (Lib.indexByte l b).toNat) (by omega)).1
    have := h b (List.mem_of_getElem? this)
    omega
  · omega
def Low (chars : ByteArray) : Prop := ∀ (j : Nat) b, chars.data.toList[j]? = some b → b.toNat < 128
set_option maxHeartbeats 2000000 in
set_option maxRecDepth 100000 in
theorem rune_high (chars : ByteArray) (r : Int) (w : World) (hl : Low chars) (hr : 128 ≤ r) (hr2 : r ≤ 1114111) (hs : chars.size ≤ 1000) :
    Calls Tryz.prog 136 #[.string chars, .int .i32 r] w fun e w' => e = .returned (.int .i64 (-1)) ∧ Below w.heap.size w w' := by
  have q1 : decide (r < 128) = false := decide_eq_false (by omega)
  have q0 : decide ((0 : Int) ≤ r) = true := decide_eq_true (by omega)
  have HL : Hid (Low chars) := hl
  clear hl
  by_cases he : r = 65533
  · subst he
    go_enter Tryz.func136, Tryz.ntmps136
    go_wp2_with fail
    go_loopw [] (fun wr => ∃ i : Nat, i ≤ chars.size ∧ wr = w.iter chars i) (fun wr => chars.size - wr.iterPos w.heap.size)
    case atStart => exact ⟨0, by omega, rfl⟩
    case round =>
      obtain ⟨i, hi, rfl⟩ := hrel
      by_cases hlt : i < chars.size
      · obtain ⟨x, hx⟩ : ∃ x : UInt8, chars[i]'hlt = x := ⟨_, rfl⟩
        have hx128 : x.toNat < 128 := HL.out i x (by rw [← hx]; exact Lib.data_getElem? chars i hlt)
        have hnx := fun ty => run_next_ascii (P := Tryz.prog) w chars i ty hlt (by rw [hx]; exact hx128)
        rw [hx] at hnx
        have hq : ((x.toNat : Int) == 65533) = false := by rw [beq_eq_false_iff_ne]; omega
        clear hx
        go_wp2_with fail
        go_roundw
        case rel => exact ⟨i + 1, by omega, rfl⟩
        case measure => simp; omega
      · obtain rfl : i = chars.size := by omega
        have hnx := run_next_end (P := Tryz.prog) w chars chars.size
        go_wp2_with fail
        go_ret
        exact ⟨rfl, (Below.refl _ _).alloc (Nat.le_refl _) _⟩
  · have he' : (r == 65533) = false := by rw [beq_eq_false_iff_ne]; exact he
    have cV := Tryz.utf8_ValidRune r w
    cases hv : Lib.validRune r with
    | false =>
      rw [hv] at cV
      go_enter Tryz.func136, Tryz.ntmps136
      go_wp2_with fail
      refine cV.mono ?_
      rintro e w1 ⟨rfl, hw⟩
      obtain rfl : w = w1 := hw.symm
      go_wp2_with fail
      go_ret
      exact ⟨rfl, Below.refl _ _⟩
    | true =>
      rw [hv] at cV
      go_enter Tryz.func136, Tryz.ntmps136
      go_wp2_with fail
      refine cV.mono ?_
      rintro e w1 ⟨rfl, hw⟩
      obtain rfl : w = w1 := hw.symm
      go_wp2_with fail
      have hcv : ∀ W, (convert 21 9 (.int .i32 r)).run Tryz.prog W = .ok (.string (Utf8.encode r)) W := fun W => by first | rfl | kernel_rfl | simp [go_sem, convert]
      obtain ⟨pre, b, h1, h2, h3, h4⟩ := encode_high hr
      obtain ⟨rs, hrs⟩ : ∃ t, Utf8.encode r = t := ⟨_, rfl⟩
      rw [hrs] at hcv h1
      obtain ⟨L, hL⟩ : ∃ n, pre.length = n := ⟨_, rfl⟩
      have hrn : rs.size = L + 1 := by rw [Lib.size_eq, h1, List.length_append, hL]; rfl
      have hrb : ∀ h, rs[L]'h = b := fun h => by
        have := Lib.data_getElem? rs L h
        rw [h1, List.getElem?_append_right (by omega), hL, Nat.sub_self] at this
        simpa using this.symm
      have hb0 : b.toNat < 256 := b.toNat_lt
      have hLL : L < rs.size := by omega
      rw [hL] at h3 h4
      have hrI : (rs.size : Int) = (L : Int) + 1 := by omega
      clear hrs h1 cV hL
      go_step3
      go_wp2_with fail
      go_loopw [9] (fun v wr => v = .int .i64 (L : Int) ∧ wr = w) (fun _ _ => 0)
      case atStart => exact ⟨rfl, rfl⟩
      case round =>
        obtain ⟨rfl, hw⟩ := hrel
        obtain rfl : w = wr := hw.symm
        by_cases hlt : L < chars.size
        · obtain ⟨x, hx⟩ : ∃ x : UInt8, chars[L]'hlt = x := ⟨_, rfl⟩
          have hx128 : x.toNat < 128 := HL.out L x (by rw [← hx]; exact Lib.data_getElem? chars L hlt)
          have hne : ((x.toNat : Int) != (b.toNat : Int)) = true := by rw [bne_iff_ne]; omega
          have hbx := hrb hLL
          have cB : ∀ W, Calls Tryz.prog 165 #[.string (chars.extract (L + 1) chars.size), .int .u8 (b.toNat : Int)] W fun e w' => e = .returned (.int .i64 (-1)) ∧ w' = W := fun W => by
            have := Tryz.strings_IndexByte (chars.extract (L + 1) chars.size) (b.toNat : Int) W
            rw [show ((b.toNat : Int)).toNat.toUInt8 = b by simp, Lib.extract_to_end, index_low (fun c hc => by
              obtain ⟨j, hj, hjc⟩ := List.mem_iff_getElem.1 (List.mem_of_mem_drop hc)
              exact HL.out j c (by rw [List.getElem?_eq_getElem hj, hjc])) h2] at this
            exact this
          obtain ⟨M, hM⟩ : ∃ M, L + 1 = M := ⟨_, rfl⟩
          have hwr : IntKind.i64.wrap ((L : Int) + 1) = (M : Int) := by rw [IntKind.wrap_i64]; omega
          have hM1 : M ≤ chars.size := by omega
          have hM2 : (M : Int) ≤ (chars.size : Int) := by omega
          rw [hM] at cB
          go_wp2_with fail
          go_step3
          go_wp2_with fail
          go_region
          all_goals
            go_wp2_with fail
            go_region_with (go_at_call 165; refine (cB _).mono ?_; rintro e w' ⟨rfl, hw⟩; subst hw)
            all_goals
              go_wp2_with fail
              rw [Exit.noGoto_ret]
              simp only [Exit.inBlock]
              go_wp2_with fail
              first | go_ret | (rw [Exit.noGoto_ret]; simp only [Exit.inBlock]; go_ret) | (rw [Exit.noGoto_ret]; go_ret)
              exact ⟨rfl, (Below.refl _ _).drew.drew⟩
        · have hlt' : ¬ (L : Int) < (chars.size : Int) := by omega
          go_wp2_with fail
          go_ret
          exact ⟨rfl, Below.refl _ _⟩
end Go.Proofs.YtfdlopimncodcaaGreatDoor
