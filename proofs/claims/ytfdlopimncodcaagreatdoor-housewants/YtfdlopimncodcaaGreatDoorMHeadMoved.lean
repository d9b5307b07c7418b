/-
  What head.moved does: letters great and small.
-/
import Derived.Test.YtfdlopimncodcaaGreatDoorProg
import Derived.Test.YtfdlopimncodcaaGreatDoorMSeqBase
import Derived.Test.YtfdlopimncodcaaGreatDoorHeadFields
import Derived.Lib.ConvBytes
import Derived.WalkKit
namespace Go.Proofs.YtfdlopimncodcaaGreatDoor
open Go.RowKit Go.Proofs.Aid Go.Proofs.Hd

def mv (f t : Nat) (c : UInt8) : UInt8 := if f ≤ c.toNat ∧ c.toNat < f + 26 then UInt8.ofNat (c.toNat - f + t) else c
theorem mv_sm (c : UInt8) : mv 65 97 c = sm c := by
  have h : ∀ n : Fin 256, mv 65 97 (UInt8.ofNat n.val) = sm (UInt8.ofNat n.val) := by decide +kernel
  have := h ⟨c.toNat, c.toNat_lt⟩
  simpa using this
theorem mv_gr (c : UInt8) : mv 97 65 c = gr c := by
  have h : ∀ n : Fin 256, mv 97 65 (UInt8.ofNat n.val) = gr (UInt8.ofNat n.val) := by decide +kernel
  have := h ⟨c.toNat, c.toNat_lt⟩
  simpa using this
theorem head_bytes (w : World) (s : ByteArray) : Below w.heap.size w (Lib.bytesWorld w 5 s) := ⟨rfl, rfl, rfl, by rw [Lib.bytesWorld_size]; omega, fun j hj => Lib.bytesWorld_at_old w 5 s j hj⟩
theorem bytes_free (w : World) (s : ByteArray) {j : Nat} (hj : j < s.size) : (Lib.bytesWorld w 5 s).frozen? ⟨w.heap.size, j, none⟩ = false := by
  have h := Lib.bytesWorld_at_new w 5 s
  have hc := Lib.bytesWorld_cell w 5 s j hj
  generalize Lib.bytesWorld w 5 s = W at h hc
  generalize Lib.bytesCells w 5 s = cs at h
  have : j < cs.size := by
    simp [World.cell?, h] at hc
    obtain ⟨h1, _⟩ := Array.getElem?_eq_some_iff.1 hc
    exact h1
  simp [World.frozen?, h]
  omega
set_option maxHeartbeats 2000000 in
set_option maxRecDepth 100000 in
theorem moved_any (f t : Nat) (hf : f + 26 ≤ 255) (ht : t + 26 ≤ 255) (s : ByteArray) (w : World) (hs : s.size ≤ 2000000) :
    Calls Tryz.prog 115 #[.string s, .int .u8 (f : Int), .int .u8 (t : Int)] w fun e w' => e = .returned (.string ⟨(s.data.toList.map (mv f t)).toArray⟩) ∧ Below w.heap.size w w' := by
  have hlen : s.data.toList.length = s.size := by show s.data.toList.length = s.data.size; simp
  have hcw := Lib.run_convert_string_bytes (P := Tryz.prog) w 9 29 5 s Tryz.underlying9 Tryz.underlying29 Tryz.underlying5
  have hb0 := head_bytes w s
  have hc0 : ∀ j, j < s.size → (Lib.bytesWorld w 5 s).cell? ⟨w.heap.size, j, none⟩ = some (.int .u8 (((s.data.toList.getD j 0).toNat : Nat) : Int)) ∧ (Lib.bytesWorld w 5 s).frozen? ⟨w.heap.size, j, none⟩ = false := fun j hj => ⟨Lib.bytesWorld_cell w 5 s j hj, bytes_free w s hj⟩
  obtain ⟨cap, hcap⟩ : ∃ c, grownCap w s.size 0 5 = c := ⟨_, rfl⟩
  rw [hcap] at hcw
  clear hcap
  generalize Lib.bytesWorld w 5 s = W0 at hcw hb0 hc0
  obtain ⟨B, hB⟩ : ∃ B, w.heap.size = B := ⟨_, rfl⟩
  rw [hB] at hcw hc0
  have hbB : w.heap.size ≤ B := by omega
  go_enter Tryz.func115, Tryz.ntmps115
  go_wp2_with fail
  go_loopw [13] (fun i wr => ∃ k : Nat, i = .int .i64 (k : Int) ∧ k ≤ s.size ∧ Hid (∀ j, j < s.size → wr.cell? ⟨B, j, none⟩ = some (.int .u8 (((if j < k then mv f t (s.data.toList.getD j 0) else s.data.toList.getD j 0).toNat : Nat) : Int)) ∧ wr.frozen? ⟨B, j, none⟩ = false) ∧ Below w.heap.size w wr) (fun i _ => s.size - (intOf i).toNat)
  case atStart => exact ⟨0, rfl, by omega, by show ∀ j, _; simpa using hc0, hb0⟩
  case round =>
    obtain ⟨k, rfl, hk, HC, hbW⟩ := hrel
    by_cases hlt : k < s.size
    · obtain ⟨c1, f1⟩ := HC.out k hlt
      rw [if_neg (by omega)] at c1
      obtain ⟨c, hc⟩ : ∃ c, s.data.toList.getD k 0 = c := ⟨_, rfl⟩
      rw [hc] at c1
      have h256 := c.toNat_lt
      have HK : Hid (s.data.toList.getD k 0 = c) := hc
      clear hc hc0
      by_cases hq : f ≤ c.toNat ∧ c.toNat < f + 26
      · have q1 : decide ((f : Int) ≤ (c.toNat : Int)) = true := decide_eq_true (by omega)
        have q2 : decide ((c.toNat : Int) < (f : Int) + 26) = true := decide_eq_true (by omega)
        have hmv : ((mv f t c).toNat : Int) = (c.toNat : Int) - f + t := by
          unfold mv
          rw [if_pos hq, UInt8.toNat_ofNat']
          omega
        have HM : Hid (((mv f t c).toNat : Int) = (c.toNat : Int) - f + t) := hmv
        clear hmv
        go_wp2_with fail
        go_roundw
        case rel =>
          refine ⟨k + 1, by go_num, by omega, ?_, hbW.setCell hbB _⟩
          intro j hj
          obtain ⟨x1, x2⟩ := HC.out j hj
          refine ⟨?_, by simpa using x2⟩
          by_cases hjk : j = k
          · subst hjk
            rw [World.cell?_setCell_same _ _ _ c1, if_pos (by omega), HK.out, HM.out]
          · rw [World.cell?_setCell_other _ _ _ _ (fun e => hjk (by have := congrArg Addr.off e; simpa using this.symm)), x1]
            congr 4
            by_cases h : j < k
            · rw [if_pos h, if_pos (by omega)]
            · rw [if_neg h, if_neg (by omega)]
        case measure => simp [intOf]; omega
      · have HM : Hid (mv f t c = c) := by show _ = _; unfold mv; rw [if_neg hq]
        have HN : ∀ j, j < s.size → wr.cell? ⟨B, j, none⟩ = some (.int .u8 (((if j < k + 1 then mv f t (s.data.toList.getD j 0) else s.data.toList.getD j 0).toNat : Nat) : Int)) ∧ wr.frozen? ⟨B, j, none⟩ = false := fun j hj => by
          obtain ⟨x1, x2⟩ := HC.out j hj
          refine ⟨?_, x2⟩
          by_cases hjk : j = k
          · subst hjk
            rw [c1, if_pos (by omega), HK.out, HM.out]
          · rw [x1]
            congr 4
            by_cases h : j < k
            · rw [if_pos h, if_pos (by omega)]
            · rw [if_neg h, if_neg (by omega)]
        have HNN : Hid (∀ j, j < s.size → wr.cell? ⟨B, j, none⟩ = some (.int .u8 (((if j < k + 1 then mv f t (s.data.toList.getD j 0) else s.data.toList.getD j 0).toNat : Nat) : Int)) ∧ wr.frozen? ⟨B, j, none⟩ = false) := HN
        clear HN
        by_cases q : f ≤ c.toNat
        · have q1 : decide ((f : Int) ≤ (c.toNat : Int)) = true := decide_eq_true (by omega)
          have q2 : decide ((c.toNat : Int) < (f : Int) + 26) = false := decide_eq_false (by omega)
          go_wp2_with fail
          go_roundw
          case rel => exact ⟨k + 1, by go_num, by omega, HNN.out, hbW⟩
          case measure => simp [intOf]; omega
        · have q1 : decide ((f : Int) ≤ (c.toNat : Int)) = false := decide_eq_false (by omega)
          go_wp2_with fail
          go_roundw
          case rel => exact ⟨k + 1, by go_num, by omega, HNN.out, hbW⟩
          case measure => simp [intOf]; omega
    · obtain rfl : k = s.size := by omega
      have hcv := run_convert_bytes_back wr 29 9 5 ⟨B, 0, none⟩ cap (s.data.toList.map (mv f t)) Tryz.underlying29 Tryz.underlying5 Tryz.underlying9 (fun j hj => by
        have hjs : j < s.size := by rw [List.length_map, hlen] at hj; exact hj
        rw [Addr.add_lit, Nat.zero_add, (HC.out j hjs).1, if_pos hjs, List.getElem_map, List.getD_eq_getElem?_getD, List.getElem?_eq_getElem (by rw [hlen]; exact hjs)]
        rfl)
      rw [List.length_map, hlen] at hcv
      clear hc0
      go_wp2_with fail
      go_ret
      exact ⟨rfl, hbW⟩
end Go.Proofs.YtfdlopimncodcaaGreatDoor
