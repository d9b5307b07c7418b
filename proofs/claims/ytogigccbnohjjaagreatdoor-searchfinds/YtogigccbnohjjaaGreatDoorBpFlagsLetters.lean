/-
  What the functions of package flags do that look at letters: small, sa, and more.
-/
import Derived.Test.YtogigccbnohjjaaGreatDoorBpSearchKey
namespace Go.Proofs.YtogigccbnohjjaaGreatDoor
open Go.RowKit Go.Proofs.Aid Go.Proofs.Fl
set_option maxHeartbeats 2000000
set_option maxRecDepth 100000
theorem ret_int {k : IntKind} {a b : Int} (h : a = b) : Ending.returned (.int k a) = .returned (.int k b) := by rw [h]
theorem small_any (c : UInt8) (w : World) : Calls Tryz.prog 136 #[.int .u8 (c.toNat : Int)] w fun e w' => e = .returned (.int .u8 ((sm c).toNat : Int)) ∧ w' = w := by
 have hc : c.toNat < 256 := c.toNat_lt
 by_cases h : 65 ≤ c.toNat ∧ c.toNat ≤ 90
 ·obtain ⟨h1, h2⟩ := h
  have h1' : (65 : Int) ≤ (c.toNat : Int) := by omega
  have h2' : (c.toNat : Int) ≤ 90 := by omega
  go_enter Tryz.func136, Tryz.ntmps136
  go_wp2
  go_ret
  refine ⟨ret_int ?_, rfl⟩
  have : (sm c).toNat = c.toNat + 32 := by
   unfold sm; rw [if_pos ⟨h1, h2⟩, UInt8.toNat_add]
   show (c.toNat + 32) % 256 = _
   omega
  rw [this]; omega
 ·by_cases h1 : 65 ≤ c.toNat
  ·have h1' : (65 : Int) ≤ (c.toNat : Int) := by omega
   have h2' : ¬ (c.toNat : Int) ≤ 90 := by omega
   go_enter Tryz.func136, Tryz.ntmps136
   go_wp2
   go_ret
   exact ⟨ret_int (by unfold sm; rw [if_neg h]), rfl⟩
  ·have h1' : ¬ (65 : Int) ≤ (c.toNat : Int) := by omega
   go_enter Tryz.func136, Tryz.ntmps136
   go_wp2
   go_ret
   exact ⟨ret_int (by unfold sm; rw [if_neg h]), rfl⟩
def alike (a b : Tx) (k : Nat) : Prop := (a.take k).map sm = (b.take k).map sm
theorem alike_succ {a b : Tx} {k : Nat} (ha : k < a.length) (hb : k < b.length) (h : alike a b k) (he : sm a[k] = sm b[k]) : alike a b (k + 1) := by
 unfold alike at *
 rw [List.take_succ_eq_append_getElem ha, List.take_succ_eq_append_getElem hb, List.map_append, List.map_append, h]
 simp [he]
theorem sameL_of {a b : Tx} (hl : a.length = b.length) (h : alike a b a.length) : sameL a b = true := by
 unfold alike at h
 rw [List.take_length] at h
 rw [hl, List.take_length] at h
 simp [sameL, h]
theorem sameL_len {a b : Tx} (hl : a.length ≠ b.length) : sameL a b = false := by
 unfold sameL
 rw [decide_eq_false_iff_not]
 intro h
 exact hl (by simpa using congrArg List.length h)
theorem sameL_at {a b : Tx} {k : Nat} (ha : k < a.length) (hb : k < b.length) (he : sm a[k] ≠ sm b[k]) : sameL a b = false := by
 unfold sameL
 rw [decide_eq_false_iff_not]
 intro h
 have := congrArg (·[k]?) h
 simp [ha, hb] at this
 exact he this
theorem same_any (a b : ByteArray) (w : World) (hs : a.size ≤ 2000000) : Calls Tryz.prog 135 #[.string a, .string b] w fun e w' => e = .returned (.bool (sameL a.data.toList b.data.toList)) ∧ ∃ n, w' = w.drewN n := by
 by_cases hl : a.size = b.size
 ·have hla : a.data.toList.length = a.size := by show a.data.toList.length = a.data.size; simp
  have hlb : b.data.toList.length = a.size := by rw [hl]; show b.data.toList.length = b.data.size; simp
  obtain ⟨R, hR⟩ : ∃ R, sameL a.data.toList b.data.toList = R := ⟨_, rfl⟩
  rw [hR]
  have HR : Hid (sameL a.data.toList b.data.toList = R) := hR
  clear hR
  go_enter Tryz.func135, Tryz.ntmps135
  go_wp2
  go_loopw [13] (fun i wr => ∃ k n : Nat, i = .int .i64 (k : Int) ∧ k ≤ a.size ∧ alike a.data.toList b.data.toList k ∧ Hid (wr = w.drewN n)) (fun i _ => a.size - (intOf i).toNat)
  case atStart => exact ⟨0, 0, rfl, Nat.zero_le _, rfl, rfl⟩
  case round =>
   obtain ⟨k, n, rfl, hk, hal, hq⟩ := hrel
   by_cases hlt : k < a.size
   ·have HL : Hid (alike a.data.toList b.data.toList k) := hal
    clear hal
    have hltb : k < b.size := by omega
    by_cases hxy : sm a[k] = sm b[k]
    ·have HE : Hid (sm a[k] = sm b[k]) := hxy
     have heq : (((sm a[k]).toNat : Int) == ((sm b[k]).toNat : Int)) = true := by rw [hxy]; simp
     clear hxy
     go_wp2
     go_quiet ((go_at_call 136; exact Calls.quiet_of_same (small_any _ _)))
     go_wp2
     go_roundw
     case rel => exact ⟨k + 1, _, by go_num, by omega, alike_succ (by omega) (by omega) HL.out HE.out, by show _ = _; rw [hq.out, World.drewN_drewN]⟩
     case measure => simp [intOf]; omega
    ·have hne : (((sm a[k]).toNat : Int) == ((sm b[k]).toNat : Int)) = false := by
      rw [beq_eq_false_iff_ne]; intro h; exact hxy (UInt8.toNat_inj.1 (by omega))
     go_wp2
     go_quiet ((go_at_call 136; exact Calls.quiet_of_same (small_any _ _)))
     go_wp2
     go_ret
     refine ⟨?_, _, by rw [hq.out, World.drewN_drewN]⟩
     rw [← HR.out, sameL_at (k := k) (by omega) (by omega) hxy]
     rfl
   ·have hke : k = a.size := by omega
    have HL : Hid (alike a.data.toList b.data.toList k) := hal
    clear hal
    go_wp2
    go_ret
    refine ⟨?_, n, hq.out⟩
    rw [← HR.out, sameL_of (by omega) (by rw [hla, ← hke]; exact HL.out)]
    rfl
 ·have hne : ¬ ((a.size : Int) = (b.size : Int)) := by omega
  have HF : Hid (sameL a.data.toList b.data.toList = false) := sameL_len (by
   have h1 : a.data.toList.length = a.size := by show a.data.toList.length = a.data.size; simp
   have h2 : b.data.toList.length = b.size := by show b.data.toList.length = b.data.size; simp
   omega)
  rw [HF.out]
  go_enter Tryz.func135, Tryz.ntmps135
  go_wp2
  go_ret
  exact ⟨rfl, 0, rfl⟩
def sysB (j : Nat) : ByteArray := ⟨(five.getD j []).toArray⟩
theorem sysB_data (j : Nat) : (sysB j).data.toList = five.getD j [] := by simp [sysB]
def SysAt (w : World) : Prop := ∀ j, j < 5 → w.cell? ⟨3, j, none⟩ = some (.string (sysB j))
theorem SysAt.lt {w : World} (h : SysAt w) : 3 < w.heap.size := World.block_lt_of_cell? _ _ (h 0 (by omega))
theorem SysAt.below {w w' : World} {B : Nat} (h : SysAt w) (hb : Below B w w') (hB : 3 < B) : SysAt w' := fun j hj => (hb.cell (p := ⟨3, j, none⟩) hB).trans (h j hj)
theorem same_sys (s : ByteArray) (j : Nat) (w : World) (hs : s.size ≤ 2000000) : Calls Tryz.prog 135 #[.string s, .string (sysB j)] w fun e w' => e = .returned (.bool (sameL s.data.toList (five.getD j []))) ∧ ∃ n, w' = w.drewN n := by
 have := same_any s (sysB j) w hs
 rwa [sysB_data] at this
def none_of (s : Tx) (k : Nat) : Prop := ∀ j, j < k → sameL s (five.getD j []) = false
theorem find_hit {s : Tx} {k : Nat} (hk : k < 5) (h : none_of s k) (he : sameL s (five.getD k []) = true) : five.find? (sameL s) = some (five.getD k []) := by
 rw [List.find?_eq_some_iff_getElem]
 have hl : k < five.length := hk
 refine ⟨he, k, hl, by rw [List.getD_eq_getElem?_getD, List.getElem?_eq_getElem hl]; rfl, fun j hj => ?_⟩
 have := h j hj
 rw [List.getD_eq_getElem?_getD, List.getElem?_eq_getElem (by omega)] at this
 simpa using this
theorem find_miss {s : Tx} (h : none_of s 5) : five.find? (sameL s) = none := by
 rw [List.find?_eq_none]
 intro x hx
 obtain ⟨j, hj, rfl⟩ := List.getElem_of_mem hx
 have := h j hj
 rw [List.getD_eq_getElem?_getD, List.getElem?_eq_getElem hj] at this
 simpa using this
theorem none_succ {s : Tx} {k : Nat} (h : none_of s k) (he : sameL s (five.getD k []) = false) : none_of s (k + 1) := fun j hj => by
 rcases Nat.lt_or_eq_of_le (Nat.le_of_lt_succ hj) with h1 | rfl
 ·exact h j h1
 ·exact he
theorem Tryz.ix0 (a b c d e : Value) (w : World) : (Instr.index 188 (.agg #[a, b, c, d, e]) (.int .i64 0)).run Tryz.prog w = .ok a w := by kernel_rfl
theorem Tryz.ix1 (a b c d e : Value) (w : World) : (Instr.index 188 (.agg #[a, b, c, d, e]) (.int .i64 1)).run Tryz.prog w = .ok b w := by kernel_rfl
theorem Tryz.ix2 (a b c d e : Value) (w : World) : (Instr.index 188 (.agg #[a, b, c, d, e]) (.int .i64 2)).run Tryz.prog w = .ok c w := by kernel_rfl
theorem Tryz.ix3 (a b c d e : Value) (w : World) : (Instr.index 188 (.agg #[a, b, c, d, e]) (.int .i64 3)).run Tryz.prog w = .ok d w := by kernel_rfl
theorem Tryz.ix4 (a b c d e : Value) (w : World) : (Instr.index 188 (.agg #[a, b, c, d, e]) (.int .i64 4)).run Tryz.prog w = .ok e w := by kernel_rfl
theorem system_any (s : ByteArray) (w : World) (hs : s.size ≤ 2000000) (hg : SysAt w) : Calls Tryz.prog 113 #[.string s] w fun e w' =>
  ((∃ j, j < 5 ∧ five.find? (sameL s.data.toList) = some (five.getD j []) ∧ e = .returned (.tuple #[.string (sysB j), .nilIface])) ∨ (five.find? (sameL s.data.toList) = none ∧ e = .returned (.tuple #[.string ⟨#[]⟩, .iface 33 (.int .i64 3)]))) ∧ ∃ n, w' = w.drewN n := by
 have c0 := hg 0 (by omega)
 have c1 := hg 1 (by omega)
 have c2 := hg 2 (by omega)
 have c3 := hg 3 (by omega)
 have c4 := hg 4 (by omega)
 clear hg
 have i0 := Tryz.ix0
 have i1 := Tryz.ix1
 have i2 := Tryz.ix2
 have i3 := Tryz.ix3
 have i4 := Tryz.ix4
 go_enter Tryz.func113, Tryz.ntmps113
 go_wp2
 go_loopw [7] (fun i wr => ∃ k n : Nat, i = .int .i64 (k : Int) ∧ k ≤ 5 ∧ none_of s.data.toList k ∧ Hid (wr = w.drewN n)) (fun i _ => 5 - (intOf i).toNat)
 case atStart => exact ⟨0, 0, rfl, by omega, fun j hj => absurd hj (by omega), rfl⟩
 case round =>
  obtain ⟨k, n, rfl, hk, hno, hq⟩ := hrel
  have HN : Hid (none_of s.data.toList k) := hno
  clear hno
  by_cases hlt : k < 5
  ·have cS := fun W => same_sys s k W hs
   obtain ⟨B, hB⟩ : ∃ B, sameL s.data.toList (five.getD k []) = B := ⟨_, rfl⟩
   have HB : Hid (sameL s.data.toList (five.getD k []) = B) := hB
   rw [hB] at cS
   clear hB
   have hk5 : k = 0 ∨ k = 1 ∨ k = 2 ∨ k = 3 ∨ k = 4 := by omega
   cases B
   ·rcases hk5 with rfl | rfl | rfl | rfl | rfl
    all_goals
     go_wp2_with (go_at_call 135; refine (cS _).mono ?_; rintro e w2 ⟨rfl, m, rfl⟩)
     go_roundw
     case rel => first | exact ⟨1, n + m, rfl, by omega, none_succ HN.out HB.out, by show _ = _; rw [hq.out, World.drewN_drewN]⟩ | exact ⟨2, n + m, rfl, by omega, none_succ HN.out HB.out, by show _ = _; rw [hq.out, World.drewN_drewN]⟩ | exact ⟨3, n + m, rfl, by omega, none_succ HN.out HB.out, by show _ = _; rw [hq.out, World.drewN_drewN]⟩ | exact ⟨4, n + m, rfl, by omega, none_succ HN.out HB.out, by show _ = _; rw [hq.out, World.drewN_drewN]⟩ | exact ⟨5, n + m, rfl, by omega, none_succ HN.out HB.out, by show _ = _; rw [hq.out, World.drewN_drewN]⟩
     case measure => simp [intOf]
   ·rcases hk5 with rfl | rfl | rfl | rfl | rfl
    all_goals
     go_wp2_with (go_at_call 135; refine (cS _).mono ?_; rintro e w2 ⟨rfl, m, rfl⟩)
     go_ret2
     exact ⟨Or.inl ⟨_, hlt, find_hit hlt HN.out HB.out, rfl⟩, n + m, by rw [hq.out, World.drewN_drewN]⟩
  ·have hk5 : k = 5 := by omega
   subst hk5
   go_wp2
   go_ret2
   exact ⟨Or.inr ⟨find_miss HN.out, rfl⟩, n, hq.out⟩
theorem kw_of (c : UInt8) : kw c = true ↔ (97 ≤ (sm c).toNat ∧ (sm c).toNat ≤ 122) ∨ (48 ≤ c.toNat ∧ c.toNat ≤ 57) ∨ c.toNat = 95 ∨ c.toNat = 36 := by
 unfold kw
 have e1 : (c == 95) = decide (c.toNat = 95) := by rw [Bool.eq_iff_iff]; simp [← UInt8.toNat_inj]
 have e2 : (c == 36) = decide (c.toNat = 36) := by rw [Bool.eq_iff_iff]; simp [← UInt8.toNat_inj]
 rw [e1, e2]
 simp only [Bool.or_eq_true, decide_eq_true_eq]
 omega
theorem sm_small (c : UInt8) (h : c.toNat < 65 ∨ 90 < c.toNat) : (sm c).toNat = c.toNat := by unfold sm; rw [if_neg (by omega)]
theorem kw_snoc {l : Tx} {k : Nat} (hk : k < l.length) (h : (l.take k).all kw = true) (hc : kw l[k] = true) : (l.take (k + 1)).all kw = true := by
 rw [List.take_succ_eq_append_getElem hk, List.all_append, h]; simp [hc]
theorem all_miss {l : Tx} {k : Nat} (hk : k < l.length) (hc : kw l[k] ≠ true) : l.all kw = false := by
 rw [List.all_eq_false]
 exact ⟨l[k], List.getElem_mem _, hc⟩
theorem keyword_any (s : ByteArray) (w : World) (hs : s.size ≤ 2000000) : Calls Tryz.prog 114 #[.string s] w fun e w' => e = .returned (.bool (s.data.toList.all kw && !s.data.toList.isEmpty)) ∧ w' = w := by
 have hla : s.data.toList.length = s.size := by show s.data.toList.length = s.data.size; simp
 obtain ⟨R, hR⟩ : ∃ R, (s.data.toList.all kw && !s.data.toList.isEmpty) = R := ⟨_, rfl⟩
 have HR : Hid ((s.data.toList.all kw && !s.data.toList.isEmpty) = R) := hR
 rw [hR]
 clear hR
 go_enter Tryz.func114, Tryz.ntmps114
 go_wp2
 go_loop [8] (fun i => ∃ k : Nat, i = .int .i64 (k : Int) ∧ k ≤ s.size ∧ (s.data.toList.take k).all kw = true) (fun i => s.size - (intOf i).toNat)
 case atStart => exact ⟨0, rfl, Nat.zero_le _, rfl⟩
 case round =>
  obtain ⟨k, rfl, hk, hal⟩ := hrel
  have HL : Hid ((s.data.toList.take k).all kw = true) := hal
  clear hal
  by_cases hlt : k < s.size
  ·have hkl : k < s.data.toList.length := by omega
   have cS := small_any s[k]
   have hkw := kw_of s[k]
   have hsm := sm_small s[k]
   have h256 : s[k].toNat < 256 := s[k].toNat_lt
   have hx256 : (sm s[k]).toNat < 256 := (sm s[k]).toNat_lt
   have HK : Hid (kw s.data.toList[k] = kw s[k]) := rfl
   obtain ⟨x, hx⟩ : ∃ x, (sm s[k]).toNat = x := ⟨_, rfl⟩
   obtain ⟨c, hc⟩ : ∃ c, s[k].toNat = c := ⟨_, rfl⟩
   rw [hx] at cS hkw hsm hx256
   rw [hc] at cS hkw hsm h256
   have HC : Hid (s[k].toNat = c) := hc
   by_cases hq : kw s[k] = true
   ·have HN : Hid ((s.data.toList.take (k + 1)).all kw = true) := kw_snoc hkl HL.out hq
    have hways := hkw.1 hq
    clear hkw hq
    rcases hways with ⟨h1, h2⟩ | ⟨h1, h2⟩ | h1 | h1
    ·have g1 : decide ((97 : Int) ≤ (x : Int)) = true := by simp; omega
     have g2 : decide ((x : Int) ≤ 122) = true := by simp; omega
     clear hsm
     go_wp2_with (go_at_call 136; refine (cS _).mono ?_; rintro e w2 ⟨rfl, rfl⟩)
     go_round
     case rel => exact ⟨k + 1, by go_num, by omega, HN.out⟩
     case measure => simp [intOf]; omega
    ·have g0 := hsm (by omega)
     have g1 : decide ((97 : Int) ≤ (x : Int)) = false := by simp; omega
     have g2 : decide ((c : Int) < 48) = false := by simp; omega
     have g3 : decide ((57 : Int) < (c : Int)) = false := by simp; omega
     clear hsm g0
     go_wp2_with (go_at_call 136; refine (cS _).mono ?_; rintro e w2 ⟨rfl, rfl⟩)
     go_round
     case rel => exact ⟨k + 1, by go_num, by omega, HN.out⟩
     case measure => simp [intOf]; omega
    ·have g0 := hsm (by omega)
     have g1 : decide ((97 : Int) ≤ (x : Int)) = false := by simp; omega
     have g2 : decide ((c : Int) < 48) = false := by simp; omega
     have g3 : decide ((57 : Int) < (c : Int)) = true := by simp; omega
     have g4 : ((c : Int) != 95) = false := by simp; omega
     clear hsm g0 h1
     go_wp2_with (go_at_call 136; refine (cS _).mono ?_; rintro e w2 ⟨rfl, rfl⟩)
     go_round
     case rel => exact ⟨k + 1, by go_num, by omega, HN.out⟩
     case measure => simp [intOf]; omega
    ·have g0 := hsm (by omega)
     have g1 : decide ((97 : Int) ≤ (x : Int)) = false := by simp; omega
     have g2 : decide ((c : Int) < 48) = true := by simp; omega
     have g4 : ((c : Int) != 95) = true := by simp; omega
     have g5 : ((c : Int) != 36) = false := by simp; omega
     clear hsm g0 h1
     go_wp2_with (go_at_call 136; refine (cS _).mono ?_; rintro e w2 ⟨rfl, rfl⟩)
     go_round
     case rel => exact ⟨k + 1, by go_num, by omega, HN.out⟩
     case measure => simp [intOf]; omega
   ·have HF : Hid (s.data.toList.all kw = false) := all_miss hkl hq
    have hn : ¬ ((97 ≤ x ∧ x ≤ 122) ∨ (48 ≤ c ∧ c ≤ 57) ∨ c = 95 ∨ c = 36) := fun h => hq (hkw.2 h)
    clear hkw hq hsm
    have g4 : ((c : Int) != 95) = true := by simp; omega
    have g5 : ((c : Int) != 36) = true := by simp; omega
    by_cases a1 : 97 ≤ x
    ·have b1 : decide ((97 : Int) ≤ (x : Int)) = true := by simp; omega
     have b2 : decide ((x : Int) ≤ 122) = false := by simp; omega
     by_cases a3 : c < 48
     ·have b3 : decide ((c : Int) < 48) = true := by simp; omega
      clear hn
      go_wp2_with (go_at_call 136; refine (cS _).mono ?_; rintro e w2 ⟨rfl, rfl⟩)
      go_ret
      exact ⟨by rw [← HR.out, HF.out]; rfl, rfl⟩
     ·have b3 : decide ((c : Int) < 48) = false := by simp; omega
      have b4 : decide ((57 : Int) < (c : Int)) = true := by simp; omega
      clear hn
      go_wp2_with (go_at_call 136; refine (cS _).mono ?_; rintro e w2 ⟨rfl, rfl⟩)
      go_ret
      exact ⟨by rw [← HR.out, HF.out]; rfl, rfl⟩
    ·have b1 : decide ((97 : Int) ≤ (x : Int)) = false := by simp; omega
     by_cases a3 : c < 48
     ·have b3 : decide ((c : Int) < 48) = true := by simp; omega
      clear hn
      go_wp2_with (go_at_call 136; refine (cS _).mono ?_; rintro e w2 ⟨rfl, rfl⟩)
      go_ret
      exact ⟨by rw [← HR.out, HF.out]; rfl, rfl⟩
     ·have b3 : decide ((c : Int) < 48) = false := by simp; omega
      have b4 : decide ((57 : Int) < (c : Int)) = true := by simp; omega
      clear hn
      go_wp2_with (go_at_call 136; refine (cS _).mono ?_; rintro e w2 ⟨rfl, rfl⟩)
      go_ret
      exact ⟨by rw [← HR.out, HF.out]; rfl, rfl⟩
  ·have hke : k = s.size := by omega
   have HA : Hid (s.data.toList.all kw = true) := by
    have := HL.out
    rw [List.take_of_length_le (by omega)] at this
    exact this
   obtain ⟨E, hE⟩ : ∃ E, s.toList.isEmpty = E := ⟨_, rfl⟩
   have HE : Hid (R = !E) := by show R = !E; rw [← HR.out, HA.out, ← hE, Lib.toList_data, Bool.true_and]
   clear HR
   cases E
   all_goals
    go_wp2
    go_ret
    exact ⟨by rw [HE.out]; rfl, rfl⟩
end Go.Proofs.YtogigccbnohjjaaGreatDoor
namespace Go.Proofs.YtogigccbnohjjaaGreatDoor
open Go.RowKit Go.Proofs.Aid Go.Proofs.Fl
theorem name_any (s : ByteArray) (w : World) (hs : s.size ≤ 2000000) (hg : SysAt w)
  (cH : ∀ W, Calls Tryz.prog 57 #[.string s, .string ⟨#[92]⟩] W fun e w' => e = .returned (.bool (Lib.hasPrefix s.data.toList [92])) ∧ w' = W) :
  Calls Tryz.prog 93 #[.string s] w fun e w' =>
   (((fname s.data.toList).2 = 0 ∧ ∃ n : ByteArray, n.data.toList = (fname s.data.toList).1 ∧ e = .returned (.tuple #[.string n, .nilIface])) ∨ ((fname s.data.toList).2 ≠ 0 ∧ e = .returned (.tuple #[.string ⟨#[]⟩, .iface 33 (.int .i64 (fname s.data.toList).2)]))) ∧ ∃ n, w' = w.drewN n := by
 have hpre : Lib.hasPrefix s.data.toList [92] = decide (s.data.toList.head? = some 92) := by
  cases s.data.toList with
  | nil => rfl
  | cons c l =>
   show (List.isPrefixOf [92] (c :: l)) = _
   by_cases h : c = 92
   ·subst h; simp [List.isPrefixOf]
   ·have : ¬ (92 : UInt8) = c := fun e => h e.symm
    simp [List.isPrefixOf, h, this]
 have hla : s.data.toList.length = s.size := by show s.data.toList.length = s.data.size; simp
 rw [hpre] at cH
 by_cases h1 : s.data.toList.head? = some 92
 ·have cS := fun W hW => system_any s W hs hW
  rw [decide_eq_true h1] at cH
  clear hpre
  go_enter Tryz.func93, Tryz.ntmps93
  go_wp2_with (first | (go_at_call 57; refine (cH _).mono ?_; rintro e w1 ⟨rfl, rfl⟩) | fail)
  refine (cS _ hg).mono ?_
  rintro e w2 ⟨⟨j, hj, hf, rfl⟩ | ⟨hf, rfl⟩, m, rfl⟩
  ·have HF : Hid (five.find? (sameL s.data.toList) = some (five.getD j [])) := hf
   clear hf
   go_wp2
   go_ret2
   refine ⟨Or.inl ?_, m, rfl⟩
   have : fname s.data.toList = (five.getD j [], 0) := by unfold fname; rw [if_pos h1, HF.out]
   rw [this]
   exact ⟨rfl, sysB j, sysB_data j, rfl⟩
  ·have HF : Hid (five.find? (sameL s.data.toList) = none) := hf
   clear hf
   go_wp2
   go_ret2
   refine ⟨Or.inr ?_, m, rfl⟩
   have : fname s.data.toList = ([], 3) := by unfold fname; rw [if_pos h1, HF.out]
   rw [this]
   exact ⟨by decide, rfl⟩
 ·rw [decide_eq_false h1] at cH
  have cK := fun W => keyword_any s W hs
  obtain ⟨K, hK⟩ : ∃ K, (s.data.toList.all kw && !s.data.toList.isEmpty) = K := ⟨_, rfl⟩
  rw [hK] at cK
  clear hpre hg
  cases K
  ·have HF : Hid (fname s.data.toList = ([], 3)) := by
    show fname s.data.toList = ([], 3)
    unfold fname
    rw [if_neg h1, if_pos]
    rw [Bool.and_eq_false_iff] at hK
    rcases hK with h | h
    ·exact Or.inr h
    ·exact Or.inl (by simpa using h)
   rw [HF.out]
   clear hK
   go_enter Tryz.func93, Tryz.ntmps93
   go_wp2_with (first | (go_at_call 57; refine (cH _).mono ?_; rintro e w1 ⟨rfl, rfl⟩) | (go_at_call 114; refine (cK _).mono ?_; rintro e w1 ⟨rfl, rfl⟩))
   go_ret2
   exact ⟨Or.inr ⟨by decide, rfl⟩, 0, rfl⟩
  ·have hk2 : ¬ (s.data.toList = [] ∨ s.data.toList.all kw = false) := by
    rw [Bool.and_eq_true] at hK
    rintro (h | h)
    ·rw [h] at hK; simp at hK
    ·rw [h] at hK; simp at hK
   clear hK
   by_cases h20 : 20 < s.size
   ·have HF : Hid (fname s.data.toList = ([], 4)) := by
     show fname s.data.toList = ([], 4)
     unfold fname
     rw [if_neg h1, if_neg hk2, if_pos (by omega)]
    rw [HF.out]
    have g : (20 : Int) < (s.size : Int) := by omega
    clear hk2
    go_enter Tryz.func93, Tryz.ntmps93
    go_wp2_with (first | (go_at_call 57; refine (cH _).mono ?_; rintro e w1 ⟨rfl, rfl⟩) | (go_at_call 114; refine (cK _).mono ?_; rintro e w1 ⟨rfl, rfl⟩))
    go_ret2
    exact ⟨Or.inr ⟨by decide, rfl⟩, 0, rfl⟩
   ·have HF : Hid (fname s.data.toList = (s.data.toList, 0)) := by
     show fname s.data.toList = (s.data.toList, 0)
     unfold fname
     rw [if_neg h1, if_neg hk2, if_neg (by omega)]
    rw [HF.out]
    have g : ¬ (20 : Int) < (s.size : Int) := by omega
    clear hk2
    go_enter Tryz.func93, Tryz.ntmps93
    go_wp2_with (first | (go_at_call 57; refine (cH _).mono ?_; rintro e w1 ⟨rfl, rfl⟩) | (go_at_call 114; refine (cK _).mono ?_; rintro e w1 ⟨rfl, rfl⟩))
    go_ret2
    exact ⟨Or.inl ⟨trivial, s, rfl, rfl⟩, 0, rfl⟩
end Go.Proofs.YtogigccbnohjjaaGreatDoor
namespace Go.Proofs.YtogigccbnohjjaaGreatDoor
open Go.RowKit Go.Proofs.Aid Go.Proofs.Sq Go.Proofs.Hd
set_option maxHeartbeats 2000000
set_option maxRecDepth 100000
theorem kx_leaf (w : World) (Ok : Nat → Prop) (code n : Int) (nb tb : ByteArray) : Kx w Ok (.mk code nb.data.toList tb.data.toList n [] []) [.int .i64 code, .string nb, .string tb, .int .i64 n, .slice none 0 0, .slice none 0 0] :=
 Kx.mk code n nb tb [] (.slice none 0 0) [] none 0 (fun _ => []) (StS.nil _ _) (fun j k h => by simp at h) (Or.inl rfl)
theorem flag_is (s : ByteArray) (w : World) (hs : s.size ≤ 2000000) (hsys : SysAt w) (hg : ErrType w) :
  Calls Tryz.prog 66 #[.string s] w fun e w' => (((Fl.fname s.data.toList).2 = 0 ∧ ∃ ys, e = .returned (.agg ys.toArray) ∧ Kx w' (fun _ => False) (Sr.flagK (Fl.fname s.data.toList).1) ys) ∨ ((Fl.fname s.data.toList).2 ≠ 0 ∧ e = thrown (Fl.fname s.data.toList).2)) ∧ Below w.heap.size w w' := by
 have b1 : Below w.heap.size w (w.alloc (.cells #[.int .i64 0, .string ⟨#[]⟩, .string ⟨#[]⟩, .int .i64 0, .slice none 0 0, .slice none 0 0] 32)) := (Below.refl _ _).alloc (Nat.le_refl _) _
 have e1 := heap_alloc_new w (.cells #[.int .i64 0, .string ⟨#[]⟩, .string ⟨#[]⟩, .int .i64 0, .slice none 0 0, .slice none 0 0] 32)
 obtain ⟨W1, hW1⟩ : ∃ W, w.alloc (.cells #[.int .i64 0, .string ⟨#[]⟩, .string ⟨#[]⟩, .int .i64 0, .slice none 0 0, .slice none 0 0] 32) = W := ⟨_, rfl⟩
 have z1 : W1.heap.size = w.heap.size + 1 := by rw [← hW1]; simp
 rw [hW1] at b1 e1
 have cN := name_any s W1 hs (hsys.below b1 hsys.lt) (fun W => Tryz.strings_HasPrefix s ⟨#[92]⟩ W)
 obtain ⟨F, hF⟩ : ∃ F, Fl.fname s.data.toList = F := ⟨_, rfl⟩
 rw [hF] at cN ⊢
 have hg1 := hg.below b1
 have HB1 : Hid (Below w.heap.size w W1) := b1
 have HE1 : Hid (W1.heap[w.heap.size]? = some (.cells #[.int .i64 0, .string ⟨#[]⟩, .string ⟨#[]⟩, .int .i64 0, .slice none 0 0, .slice none 0 0] 32 (0, 0))) := e1
 clear b1 e1 hF
 go_enter Tryz.func66, Tryz.ntmps66
 go_wp2_with fail
 refine cN.mono ?_
 rintro e w2 ⟨h, k, rfl⟩
 have HB2 : Hid (Below w.heap.size w (W1.drewN k)) := below_drewN HB1.out k
 have e2 : (W1.drewN k).heap[w.heap.size]? = some (.cells #[.int .i64 0, .string ⟨#[]⟩, .string ⟨#[]⟩, .int .i64 0, .slice none 0 0, .slice none 0 0] 32 (0, 0)) := HE1.out
 have hg2 : ErrType (W1.drewN k) := hg1.below (below_drewN (Below.refl _ _) k)
 have z2 : (W1.drewN k).heap.size = w.heap.size + 1 := z1
 generalize W1.drewN k = W2 at HB2 e2 hg2 z2 ⊢
 clear cN hg1
 rcases h with ⟨h0, n, hn, rfl⟩ | ⟨h0, rfl⟩
 ·have H0 : Hid (F.2 = 0 ∧ n.data.toList = F.1) := ⟨h0, hn⟩
  clear h0 hn
  obtain ⟨⟨r0, r1, r2, r3, r4, r5⟩, ⟨rf0, rf1, rf2, rf3, rf4, rf5⟩, v0, v1, v2, v3, v4, v5⟩ := six_facts e2 (.int .i64 2) (.string n) (.string ⟨#[]⟩) (.int .i64 0) (.slice none 0 0) (.slice none 0 0)
  have cC := check_nil W2
  clear e2
  go_wp2_with fail
  refine cC.mono ?_
  rintro e w3 ⟨rfl, hw3⟩
  obtain rfl : W2 = w3 := hw3.symm
  go_wp2_with fail
  refine bodyPost_ret (v := .agg #[.int .i64 2, .string n, .string ⟨#[]⟩, .int .i64 0, .slice none 0 0, .slice none 0 0]) (by simp [results, Tryz.results66, go_sem, v0, v1, v2, v3, v4, v5]) rfl ?_
  refine ⟨Or.inl ⟨H0.out.1, _, rfl, ?_⟩, (six_but (rb := w.heap.size) (to_but HB2.out) (by omega) _ _ _ _ _ _).below (Nat.le_refl _) (Nat.le_refl _)⟩
  rw [← H0.out.2]
  exact kx_leaf _ _ 2 0 n ⟨#[]⟩
 ·have H0 : Hid (F.2 ≠ 0) := h0
  clear h0
  have cC := check_err F.2 W2 hg2
  unfold thrown at cC
  clear e2
  go_wp2_with fail
  refine cC.mono ?_
  rintro e w3 ⟨rfl, hb3⟩
  go_wp2_with fail
  exact ⟨rfl, Or.inr ⟨H0.out, rfl⟩, HB2.out.trans (hb3.mono HB2.out.size)⟩
end Go.Proofs.YtogigccbnohjjaaGreatDoor
