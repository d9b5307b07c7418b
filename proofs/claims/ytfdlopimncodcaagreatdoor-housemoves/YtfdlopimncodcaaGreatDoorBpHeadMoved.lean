/-
  What head, and more.
-/
import Derived.Test.YtfdlopimncodcaaGreatDoorBpSeqBase
import Derived.Test.YtfdlopimncodcaaGreatDoorMHeadFields
import Derived.Lib.ConvBytes
namespace Go.Proofs.YtfdlopimncodcaaGreatDoor
open Go.RowKit Go.Proofs.Aid Go.Proofs.Hd

def mv (f t : Nat) (c : UInt8) : UInt8 := if f ≤ c.toNat ∧ c.toNat < f + 26 then UInt8.ofNat (c.toNat - f + t) else c
theorem mv_sm (c : UInt8) : mv 65 97 c = sm c := by
  have h : ∀ n : Fin 256, mv 65 97 (UInt8.ofNat n.val) = sm (UInt8.ofNat n.val) := by decide +kernel
  have := h ⟨c.toNat, c.toNat_lt⟩
  simpa using this
theorem mv_gr (c : UInt8) : mv 97 65 c = gr c := by
  have h : ∀ n : Fin 256, mv 97 65 (UInt8.ofNat n.val) = gr (UInt8.ofNat n.val) := by decide +kernel
  have := h ⟨c.toNat, c.toNat_lt⟩
  simpa using this
theorem head_bytes (w : World) (s : ByteArray) : Below w.heap.size w (Lib.bytesWorld w 5 s) := ⟨rfl, rfl, rfl, by rw [Lib.bytesWorld_size]; omega, fun j hj => Lib.bytesWorld_at_old w 5 s j hj⟩
theorem bytes_free (w : World) (s : ByteArray) {j : Nat} (hj : j < s.size) : (Lib.bytesWorld w 5 s).frozen? ⟨w.heap.size, j, none⟩ = false := by
  have h := Lib.bytesWorld_at_new w 5 s
  have hc := Lib.bytesWorld_cell w 5 s j hj
  generalize Lib.bytesWorld w 5 s = W at h hc
  generalize Lib.bytesCells w 5 s = cs at h
  have : j < cs.size := by
    simp [World.cell?, h] at hc
    obtain ⟨h1, _⟩ := Array.getElem?_eq_some_iff.1 hc
    exact h1
  simp [World.frozen?, h]
  omega
set_option maxHeartbeats 2000000 in
set_option maxRecDepth 100000 in
theorem moved_any (f t : Nat) (hf : f + 26 ≤ 255) (ht : t + 26 ≤ 255) (s : ByteArray) (w : World) (hs : s.size ≤ 2000000) :
    Calls Tryz.prog 115 #[.string s, .int .u8 (f : Int), .int .u8 (t : Int)] w fun e w' => e = .returned (.string ⟨(s.data.toList.map (mv f t)).toArray⟩) ∧ Below w.heap.size w w' := by
  have hlen : s.data.toList.length = s.size := by show s.data.toList.length = s.data.size; simp
  have hcw := Lib.run_convert_string_bytes (P := Tryz.prog) w 9 29 5 s Tryz.underlying9 Tryz.underlying29 Tryz.underlying5
  have hb0 := head_bytes w s
  have hc0 : ∀ j, j < s.size → (Lib.bytesWorld w 5 s).cell? ⟨w.heap.size, j, none⟩ = some (.int .u8 (((s.data.toList.getD j 0).toNat : Nat) : Int)) ∧ (Lib.bytesWorld w 5 s).frozen? ⟨w.heap.size, j, none⟩ = false := fun j hj => ⟨Lib.bytesWorld_cell w 5 s j hj, bytes_free w s hj⟩
  obtain ⟨cap, hcap⟩ : ∃ c, grownCap w s.size 0 5 = c := ⟨_, rfl⟩
  rw [hcap] at hcw
  clear hcap
  generalize Lib.bytesWorld w 5 s = W0 at hcw hb0 hc0
  obtain ⟨B, hB⟩ : ∃ B, w.heap.size = B := ⟨_, rfl⟩
  rw [hB] at hcw hc0
  have hbB : w.heap.size ≤ B := by omega
  go_enter Tryz.func115, Tryz.ntmps115
  go_wp2_with fail
  go_loopw [13] (fun i wr => ∃ k : Nat, i = .int .i64 (k : Int) ∧ k ≤ s.size ∧ Hid (∀ j, j < s.size → wr.cell? ⟨B, j, none⟩ = some (.int .u8 (((if j < k then mv f t (s.data.toList.getD j 0) else s.data.toList.getD j 0).toNat : Nat) : Int)) ∧ wr.frozen? ⟨B, j, none⟩ = false) ∧ Below w.heap.size w wr) (fun i _ => s.size - (intOf i).toNat)
  case atStart => exact ⟨0, rfl, by omega, by show ∀ j, _; simpa using hc0, hb0⟩
  case round =>
    obtain ⟨k, rfl, hk, HC, hbW⟩ := hrel
    by_cases hlt : k < s.size
    · obtain ⟨c1, f1⟩ := HC.out k hlt
      rw [if_neg (by omega)] at c1
      obtain ⟨c, hc⟩ : ∃ c, s.data.toList.getD k 0 = c := ⟨_, rfl⟩
      rw [hc] at c1
      have h256 := c.toNat_lt
      have HK : Hid (s.data.toList.getD k 0 = c) := hc
      clear hc hc0
      by_cases hq : f ≤ c.toNat ∧ c.toNat < f + 26
      · have q1 : decide ((f : Int) ≤ (c.toNat : Int)) = true := decide_eq_true (by omega)
        have q2 : decide ((c.toNat : Int) < (f : Int) + 26) = true := decide_eq_true (by omega)
        have hmv : ((mv f t c).toNat : Int) = (c.toNat : Int) - f + t := by
          unfold mv
          rw [if_pos hq, UInt8.toNat_ofNat']
          omega
        have HM : Hid (((mv f t c).toNat : Int) = (c.toNat : Int) - f + t) := hmv
        clear hmv
        go_wp2_with fail
        go_roundw
        case rel =>
          refine ⟨k + 1, by go_num, by omega, ?_, hbW.setCell hbB _⟩
          intro j hj
          obtain ⟨x1, x2⟩ := HC.out j hj
          refine ⟨?_, by simpa using x2⟩
          by_cases hjk : j = k
          · subst hjk
            rw [World.cell?_setCell_same _ _ _ c1, if_pos (by omega), HK.out, HM.out]
          · rw [World.cell?_setCell_other _ _ _ _ (fun e => hjk (by have := congrArg Addr.off e; simpa using this.symm)), x1]
            congr 4
            by_cases h : j < k
            · rw [if_pos h, if_pos (by omega)]
            · rw [if_neg h, if_neg (by omega)]
        case measure => simp [intOf]; omega
      · have HM : Hid (mv f t c = c) := by show _ = _; unfold mv; rw [if_neg hq]
        have HN : ∀ j, j < s.size → wr.cell? ⟨B, j, none⟩ = some (.int .u8 (((if j < k + 1 then mv f t (s.data.toList.getD j 0) else s.data.toList.getD j 0).toNat : Nat) : Int)) ∧ wr.frozen? ⟨B, j, none⟩ = false := fun j hj => by
          obtain ⟨x1, x2⟩ := HC.out j hj
          refine ⟨?_, x2⟩
          by_cases hjk : j = k
          · subst hjk
            rw [c1, if_pos (by omega), HK.out, HM.out]
          · rw [x1]
            congr 4
            by_cases h : j < k
            · rw [if_pos h, if_pos (by omega)]
            · rw [if_neg h, if_neg (by omega)]
        have HNN : Hid (∀ j, j < s.size → wr.cell? ⟨B, j, none⟩ = some (.int .u8 (((if j < k + 1 then mv f t (s.data.toList.getD j 0) else s.data.toList.getD j 0).toNat : Nat) : Int)) ∧ wr.frozen? ⟨B, j, none⟩ = false) := HN
        clear HN
        by_cases q : f ≤ c.toNat
        · have q1 : decide ((f : Int) ≤ (c.toNat : Int)) = true := decide_eq_true (by omega)
          have q2 : decide ((c.toNat : Int) < (f : Int) + 26) = false := decide_eq_false (by omega)
          go_wp2_with fail
          go_roundw
          case rel => exact ⟨k + 1, by go_num, by omega, HNN.out, hbW⟩
          case measure => simp [intOf]; omega
        · have q1 : decide ((f : Int) ≤ (c.toNat : Int)) = false := decide_eq_false (by omega)
          go_wp2_with fail
          go_roundw
          case rel => exact ⟨k + 1, by go_num, by omega, HNN.out, hbW⟩
          case measure => simp [intOf]; omega
    · obtain rfl : k = s.size := by omega
      have hcv := run_convert_bytes_back wr 29 9 5 ⟨B, 0, none⟩ cap (s.data.toList.map (mv f t)) Tryz.underlying29 Tryz.underlying5 Tryz.underlying9 (fun j hj => by
        have hjs : j < s.size := by rw [List.length_map, hlen] at hj; exact hj
        rw [Addr.add_lit, Nat.zero_add, (HC.out j hjs).1, if_pos hjs, List.getElem_map, List.getD_eq_getElem?_getD, List.getElem?_eq_getElem (by rw [hlen]; exact hjs)]
        rfl)
      rw [List.length_map, hlen] at hcv
      clear hc0
      go_wp2_with fail
      go_ret
      exact ⟨rfl, hbW⟩
end Go.Proofs.YtfdlopimncodcaaGreatDoor
namespace Go.Proofs.YtfdlopimncodcaaGreatDoor
open Go.RowKit Go.Proofs.Aid Go.Proofs.Hd Go.Proofs.Sq
theorem great_is (s : ByteArray) (w : World) (hs : s.size ≤ 2000000) :
    Calls Tryz.prog 62 #[.string s] w fun e w' => e = .returned (.string ⟨(great s.data.toList).toArray⟩) ∧ Below w.heap.size w w' := by
  have c := moved_any 97 65 (by decide) (by decide) s w hs
  rw [show s.data.toList.map (mv 97 65) = great s.data.toList from List.map_congr_left fun c _ => mv_gr c] at c
  go_enter Tryz.func62, Tryz.ntmps62
  go_wp2_with fail
  refine c.mono ?_
  rintro e w1 ⟨rfl, hb⟩
  go_wp2_with fail
  go_ret
  exact ⟨rfl, hb⟩
end Go.Proofs.YtfdlopimncodcaaGreatDoor
namespace Go.Proofs.Sq

theorem splitK_cut (c : UInt8) (k : Nat) (s : List UInt8) : Lib.splitK [c] 0 (k + 1) s = if (cutAt c s).2.2 = false then [s] else (cutAt c s).1 :: Lib.splitK [c] 0 k (cutAt c s).2.1 := by
  rw [← cut_eq, Lib.splitK]
  by_cases h : Lib.index s [c] = -1
  · have e : Lib.cut s [c] = (s, [], false) := by rw [Lib.cut, if_neg (by omega)]
    rw [if_pos (beq_iff_eq.2 h), e, if_pos rfl]
  · have hge := Lib.index_ge s [c]
    have e : Lib.cut s [c] = (s.take (Lib.index s [c]).toNat, s.drop ((Lib.index s [c]).toNat + [c].length), true) := by rw [Lib.cut, if_pos (by omega)]
    rw [if_neg (fun e => h (beq_iff_eq.1 e)), e, if_neg (by simp)]
    rfl
theorem splitK_all (c : UInt8) : ∀ (k : Nat) (s : List UInt8), s.count c ≤ k → Lib.splitK [c] 0 k s = between c s
  | 0, s, h => by
    have : c ∉ s := fun hm => by have := List.count_pos_iff.2 hm; omega
    rw [between_none this]; rfl
  | k + 1, s, h => by
    rw [splitK_cut]
    cases hc : (cutAt c s).2.2 with
    | false => rw [if_pos rfl, (cutAt_miss hc).2.2]
    | true =>
      obtain ⟨h1, h2⟩ := cutAt_hit hc
      have h3 : (cutAt c s).2.1.count c ≤ k := by
        have := congrArg (List.count c) h1
        rw [List.count_append, List.count_cons_self] at this
        omega
      rw [if_neg (by simp), splitK_all c k _ h3, h2]
theorem split_between (c : UInt8) (s : ByteArray) : (Lib.splitB ⟨#[c]⟩ 0 (Lib.countB s ⟨#[c]⟩) s).map (·.data.toList) = between c s.data.toList := by
  rw [Lib.splitB_data]
  refine splitK_all c _ _ ?_
  have : Lib.countB s ⟨#[c]⟩ = Lib.count s.data.toList [c] := rfl
  rw [this, Lib.count_one]
  exact Nat.le_refl _
theorem split_two (c : UInt8) (s : ByteArray) : (Lib.splitB ⟨#[c]⟩ 0 (min 2 (s.size + 1) - 1) s).map (·.data.toList) = if (cutAt c s.data.toList).2.2 = false then [s.data.toList] else [(cutAt c s.data.toList).1, (cutAt c s.data.toList).2.1] := by
  rw [Lib.splitB_data]
  by_cases h : s.size = 0
  · have hd : s.data.toList = [] := by
      have : s.data.size = 0 := h
      rw [Array.size_eq_length_toList] at this
      exact List.eq_nil_of_length_eq_zero this
    rw [h, hd]
    rfl
  · rw [show min 2 (s.size + 1) - 1 = 0 + 1 by omega]
    show Lib.splitK [c] 0 (0 + 1) _ = _
    rw [splitK_cut]
    rfl
end Go.Proofs.Sq
