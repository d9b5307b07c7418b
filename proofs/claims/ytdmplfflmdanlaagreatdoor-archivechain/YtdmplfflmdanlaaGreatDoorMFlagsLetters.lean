/-
  What the functions of package flags do that look at letters: small, sameLetters, systemName, isKeyword.
-/
import Derived.Test.YtdmplfflmdanlaaGreatDoorBpHwIdem
namespace Go.Proofs.YtdmplfflmdanlaaGreatDoor
open Go.RowKit Go.Proofs.Aid Go.Proofs.Fl

theorem ret_int {k : IntKind} {a b : Int} (h : a = b) : Ending.returned (.int k a) = .returned (.int k b) := by rw [h]
theorem small_any (c : UInt8) (w : World) : Calls Tryz.prog 268 #[.int .u8 (c.toNat : Int)] w fun e w' => e = .returned (.int .u8 ((sm c).toNat : Int)) ∧ w' = w := by
  have hc : c.toNat < 256 := c.toNat_lt
  by_cases h : 65 ≤ c.toNat ∧ c.toNat ≤ 90
  · obtain ⟨h1, h2⟩ := h
    have h1' : (65 : Int) ≤ (c.toNat : Int) := by omega
    have h2' : (c.toNat : Int) ≤ 90 := by omega
    go_enter Tryz.func268, Tryz.ntmps268
    go_wp2
    go_ret
    refine ⟨ret_int ?_, rfl⟩
    have : (sm c).toNat = c.toNat + 32 := by
      unfold sm; rw [if_pos ⟨h1, h2⟩, UInt8.toNat_add]
      show (c.toNat + 32) % 256 = _
      omega
    rw [this]; omega
  · by_cases h1 : 65 ≤ c.toNat
    · have h1' : (65 : Int) ≤ (c.toNat : Int) := by omega
      have h2' : ¬ (c.toNat : Int) ≤ 90 := by omega
      go_enter Tryz.func268, Tryz.ntmps268
      go_wp2
      go_ret
      exact ⟨ret_int (by unfold sm; rw [if_neg h]), rfl⟩
    · have h1' : ¬ (65 : Int) ≤ (c.toNat : Int) := by omega
      go_enter Tryz.func268, Tryz.ntmps268
      go_wp2
      go_ret
      exact ⟨ret_int (by unfold sm; rw [if_neg h]), rfl⟩

/-- How far two texts are the same but for great and small letters. -/
def alike (a b : Tx) (k : Nat) : Prop := (a.take k).map sm = (b.take k).map sm
theorem alike_succ {a b : Tx} {k : Nat} (ha : k < a.length) (hb : k < b.length) (h : alike a b k) (he : sm a[k] = sm b[k]) : alike a b (k + 1) := by
  unfold alike at *
  rw [List.take_succ_eq_append_getElem ha, List.take_succ_eq_append_getElem hb, List.map_append, List.map_append, h]
  simp [he]
theorem sameL_of {a b : Tx} (hl : a.length = b.length) (h : alike a b a.length) : sameL a b = true := by
  unfold alike at h
  rw [List.take_length] at h
  rw [hl, List.take_length] at h
  simp [sameL, h]
theorem sameL_len {a b : Tx} (hl : a.length ≠ b.length) : sameL a b = false := by
  unfold sameL
  rw [decide_eq_false_iff_not]
  intro h
  exact hl (by simpa using congrArg List.length h)
theorem sameL_at {a b : Tx} {k : Nat} (ha : k < a.length) (hb : k < b.length) (he : sm a[k] ≠ sm b[k]) : sameL a b = false := by
  unfold sameL
  rw [decide_eq_false_iff_not]
  intro h
  have := congrArg (·[k]?) h
  simp [ha, hb] at this
  exact he this
set_option maxHeartbeats 2000000 in
set_option maxRecDepth 100000 in
theorem same_any (a b : ByteArray) (w : World) (hs : a.size ≤ 2000000) : Calls Tryz.prog 267 #[.string a, .string b] w fun e w' => e = .returned (.bool (sameL a.data.toList b.data.toList)) ∧ ∃ n, w' = w.drewN n := by
  by_cases hl : a.size = b.size
  · have hla : a.data.toList.length = a.size := by show a.data.toList.length = a.data.size; simp
    have hlb : b.data.toList.length = a.size := by rw [hl]; show b.data.toList.length = b.data.size; simp
    obtain ⟨R, hR⟩ : ∃ R, sameL a.data.toList b.data.toList = R := ⟨_, rfl⟩
    rw [hR]
    have HR : Hid (sameL a.data.toList b.data.toList = R) := hR
    clear hR
    go_enter Tryz.func267, Tryz.ntmps267
    go_wp2
    go_loopw [13] (fun i wr => ∃ k n : Nat, i = .int .i64 (k : Int) ∧ k ≤ a.size ∧ alike a.data.toList b.data.toList k ∧ Hid (wr = w.drewN n)) (fun i _ => a.size - (intOf i).toNat)
    case atStart => exact ⟨0, 0, rfl, Nat.zero_le _, rfl, rfl⟩
    case round =>
      obtain ⟨k, n, rfl, hk, hal, hq⟩ := hrel
      by_cases hlt : k < a.size
      · have HL : Hid (alike a.data.toList b.data.toList k) := hal
        clear hal
        have hltb : k < b.size := by omega
        by_cases hxy : sm a[k] = sm b[k]
        · have HE : Hid (sm a[k] = sm b[k]) := hxy
          have heq : (((sm a[k]).toNat : Int) == ((sm b[k]).toNat : Int)) = true := by rw [hxy]; simp
          clear hxy
          go_wp2
          go_quiet ((go_at_call 268; exact Calls.quiet_of_same (small_any _ _)))
          go_wp2
          go_roundw
          case rel => exact ⟨k + 1, _, by go_num, by omega, alike_succ (by omega) (by omega) HL.out HE.out, by show _ = _; rw [hq.out, World.drewN_drewN]⟩
          case measure => simp [intOf]; omega
        · have hne : (((sm a[k]).toNat : Int) == ((sm b[k]).toNat : Int)) = false := by
            rw [beq_eq_false_iff_ne]; intro h; exact hxy (UInt8.toNat_inj.1 (by omega))
          go_wp2
          go_quiet ((go_at_call 268; exact Calls.quiet_of_same (small_any _ _)))
          go_wp2
          go_ret
          refine ⟨?_, _, by rw [hq.out, World.drewN_drewN]⟩
          rw [← HR.out, sameL_at (k := k) (by omega) (by omega) hxy]
          rfl
      · have hke : k = a.size := by omega
        have HL : Hid (alike a.data.toList b.data.toList k) := hal
        clear hal
        go_wp2
        go_ret
        refine ⟨?_, n, hq.out⟩
        rw [← HR.out, sameL_of (by omega) (by rw [hla, ← hke]; exact HL.out)]
        rfl
  · have hne : ¬ ((a.size : Int) = (b.size : Int)) := by omega
    have HF : Hid (sameL a.data.toList b.data.toList = false) := sameL_len (by
      have h1 : a.data.toList.length = a.size := by show a.data.toList.length = a.data.size; simp
      have h2 : b.data.toList.length = b.size := by show b.data.toList.length = b.data.size; simp
      omega)
    rw [HF.out]
    go_enter Tryz.func267, Tryz.ntmps267
    go_wp2
    go_ret
    exact ⟨rfl, 0, rfl⟩

/-- The j-th of the system's flags, as the program has it. -/
def sysB (j : Nat) : ByteArray := ⟨(five.getD j []).toArray⟩
theorem sysB_data (j : Nat) : (sysB j).data.toList = five.getD j [] := by simp [sysB]
/-- The variable flags.system holds them. -/
def SysAt (w : World) : Prop := ∀ j, j < 5 → w.cell? ⟨4, j, none⟩ = some (.string (sysB j))
theorem SysAt.lt {w : World} (h : SysAt w) : 4 < w.heap.size := World.block_lt_of_cell? _ _ (h 0 (by omega))
theorem SysAt.below {w w' : World} {B : Nat} (h : SysAt w) (hb : Below B w w') (hB : 4 < B) : SysAt w' := fun j hj => (hb.cell (p := ⟨4, j, none⟩) hB).trans (h j hj)
theorem same_sys (s : ByteArray) (j : Nat) (w : World) (hs : s.size ≤ 2000000) : Calls Tryz.prog 267 #[.string s, .string (sysB j)] w fun e w' => e = .returned (.bool (sameL s.data.toList (five.getD j []))) ∧ ∃ n, w' = w.drewN n := by
  have := same_any s (sysB j) w hs
  rwa [sysB_data] at this
/-- None of the first k has the letters. -/
def none_of (s : Tx) (k : Nat) : Prop := ∀ j, j < k → sameL s (five.getD j []) = false
theorem find_hit {s : Tx} {k : Nat} (hk : k < 5) (h : none_of s k) (he : sameL s (five.getD k []) = true) : five.find? (sameL s) = some (five.getD k []) := by
  rw [List.find?_eq_some_iff_getElem]
  have hl : k < five.length := hk
  refine ⟨he, k, hl, by rw [List.getD_eq_getElem?_getD, List.getElem?_eq_getElem hl]; rfl, fun j hj => ?_⟩
  have := h j hj
  rw [List.getD_eq_getElem?_getD, List.getElem?_eq_getElem (by omega)] at this
  simpa using this
theorem find_miss {s : Tx} (h : none_of s 5) : five.find? (sameL s) = none := by
  rw [List.find?_eq_none]
  intro x hx
  obtain ⟨j, hj, rfl⟩ := List.getElem_of_mem hx
  have := h j hj
  rw [List.getD_eq_getElem?_getD, List.getElem?_eq_getElem hj] at this
  simpa using this
theorem none_succ {s : Tx} {k : Nat} (h : none_of s k) (he : sameL s (five.getD k []) = false) : none_of s (k + 1) := fun j hj => by
  rcases Nat.lt_or_eq_of_le (Nat.le_of_lt_succ hj) with h1 | rfl
  · exact h j h1
  · exact he
theorem Tryz.ix0 (a b c d e : Value) (w : World) : (Instr.index 261 (.agg #[a, b, c, d, e]) (.int .i64 0)).run Tryz.prog w = .ok a w := by kernel_rfl
theorem Tryz.ix1 (a b c d e : Value) (w : World) : (Instr.index 261 (.agg #[a, b, c, d, e]) (.int .i64 1)).run Tryz.prog w = .ok b w := by kernel_rfl
theorem Tryz.ix2 (a b c d e : Value) (w : World) : (Instr.index 261 (.agg #[a, b, c, d, e]) (.int .i64 2)).run Tryz.prog w = .ok c w := by kernel_rfl
theorem Tryz.ix3 (a b c d e : Value) (w : World) : (Instr.index 261 (.agg #[a, b, c, d, e]) (.int .i64 3)).run Tryz.prog w = .ok d w := by kernel_rfl
theorem Tryz.ix4 (a b c d e : Value) (w : World) : (Instr.index 261 (.agg #[a, b, c, d, e]) (.int .i64 4)).run Tryz.prog w = .ok e w := by kernel_rfl
set_option maxHeartbeats 2000000 in
set_option maxRecDepth 100000 in
theorem system_any (s : ByteArray) (w : World) (hs : s.size ≤ 2000000) (hg : SysAt w) : Calls Tryz.prog 224 #[.string s] w fun e w' =>
    ((∃ j, j < 5 ∧ five.find? (sameL s.data.toList) = some (five.getD j []) ∧ e = .returned (.tuple #[.string (sysB j), .nilIface])) ∨ (five.find? (sameL s.data.toList) = none ∧ e = .returned (.tuple #[.string ⟨#[]⟩, .iface 34 (.int .i64 3)]))) ∧ ∃ n, w' = w.drewN n := by
  have c0 := hg 0 (by omega)
  have c1 := hg 1 (by omega)
  have c2 := hg 2 (by omega)
  have c3 := hg 3 (by omega)
  have c4 := hg 4 (by omega)
  clear hg
  have i0 := Tryz.ix0
  have i1 := Tryz.ix1
  have i2 := Tryz.ix2
  have i3 := Tryz.ix3
  have i4 := Tryz.ix4
  go_enter Tryz.func224, Tryz.ntmps224
  go_wp2
  go_loopw [7] (fun i wr => ∃ k n : Nat, i = .int .i64 (k : Int) ∧ k ≤ 5 ∧ none_of s.data.toList k ∧ Hid (wr = w.drewN n)) (fun i _ => 5 - (intOf i).toNat)
  case atStart => exact ⟨0, 0, rfl, by omega, fun j hj => absurd hj (by omega), rfl⟩
  case round =>
    obtain ⟨k, n, rfl, hk, hno, hq⟩ := hrel
    have HN : Hid (none_of s.data.toList k) := hno
    clear hno
    by_cases hlt : k < 5
    · have cS := fun W => same_sys s k W hs
      obtain ⟨B, hB⟩ : ∃ B, sameL s.data.toList (five.getD k []) = B := ⟨_, rfl⟩
      have HB : Hid (sameL s.data.toList (five.getD k []) = B) := hB
      rw [hB] at cS
      clear hB
      have hk5 : k = 0 ∨ k = 1 ∨ k = 2 ∨ k = 3 ∨ k = 4 := by omega
      cases B
      · rcases hk5 with rfl | rfl | rfl | rfl | rfl
        all_goals
          go_wp2_with (go_at_call 267; refine (cS _).mono ?_; rintro e w2 ⟨rfl, m, rfl⟩)
          go_roundw
          case rel => first | exact ⟨1, n + m, rfl, by omega, none_succ HN.out HB.out, by show _ = _; rw [hq.out, World.drewN_drewN]⟩ | exact ⟨2, n + m, rfl, by omega, none_succ HN.out HB.out, by show _ = _; rw [hq.out, World.drewN_drewN]⟩ | exact ⟨3, n + m, rfl, by omega, none_succ HN.out HB.out, by show _ = _; rw [hq.out, World.drewN_drewN]⟩ | exact ⟨4, n + m, rfl, by omega, none_succ HN.out HB.out, by show _ = _; rw [hq.out, World.drewN_drewN]⟩ | exact ⟨5, n + m, rfl, by omega, none_succ HN.out HB.out, by show _ = _; rw [hq.out, World.drewN_drewN]⟩
          case measure => simp [intOf]
      · rcases hk5 with rfl | rfl | rfl | rfl | rfl
        all_goals
          go_wp2_with (go_at_call 267; refine (cS _).mono ?_; rintro e w2 ⟨rfl, m, rfl⟩)
          go_ret2
          exact ⟨Or.inl ⟨_, hlt, find_hit hlt HN.out HB.out, rfl⟩, n + m, by rw [hq.out, World.drewN_drewN]⟩
    · have hk5 : k = 5 := by omega
      subst hk5
      go_wp2
      go_ret2
      exact ⟨Or.inr ⟨find_miss HN.out, rfl⟩, n, hq.out⟩

theorem kw_of (c : UInt8) : kw c = true ↔ (97 ≤ (sm c).toNat ∧ (sm c).toNat ≤ 122) ∨ (48 ≤ c.toNat ∧ c.toNat ≤ 57) ∨ c.toNat = 95 ∨ c.toNat = 36 := by
  unfold kw
  have e1 : (c == 95) = decide (c.toNat = 95) := by rw [Bool.eq_iff_iff]; simp [← UInt8.toNat_inj]
  have e2 : (c == 36) = decide (c.toNat = 36) := by rw [Bool.eq_iff_iff]; simp [← UInt8.toNat_inj]
  rw [e1, e2]
  simp only [Bool.or_eq_true, decide_eq_true_eq]
  omega
theorem sm_small (c : UInt8) (h : c.toNat < 65 ∨ 90 < c.toNat) : (sm c).toNat = c.toNat := by unfold sm; rw [if_neg (by omega)]
theorem kw_snoc {l : Tx} {k : Nat} (hk : k < l.length) (h : (l.take k).all kw = true) (hc : kw l[k] = true) : (l.take (k + 1)).all kw = true := by
  rw [List.take_succ_eq_append_getElem hk, List.all_append, h]; simp [hc]
theorem all_miss {l : Tx} {k : Nat} (hk : k < l.length) (hc : kw l[k] ≠ true) : l.all kw = false := by
  rw [List.all_eq_false]
  exact ⟨l[k], List.getElem_mem _, hc⟩
set_option maxHeartbeats 2000000 in
set_option maxRecDepth 100000 in
theorem keyword_any (s : ByteArray) (w : World) (hs : s.size ≤ 2000000) : Calls Tryz.prog 225 #[.string s] w fun e w' => e = .returned (.bool (s.data.toList.all kw && !s.data.toList.isEmpty)) ∧ w' = w := by
  have hla : s.data.toList.length = s.size := by show s.data.toList.length = s.data.size; simp
  obtain ⟨R, hR⟩ : ∃ R, (s.data.toList.all kw && !s.data.toList.isEmpty) = R := ⟨_, rfl⟩
  have HR : Hid ((s.data.toList.all kw && !s.data.toList.isEmpty) = R) := hR
  rw [hR]
  clear hR
  go_enter Tryz.func225, Tryz.ntmps225
  go_wp2
  go_loop [8] (fun i => ∃ k : Nat, i = .int .i64 (k : Int) ∧ k ≤ s.size ∧ (s.data.toList.take k).all kw = true) (fun i => s.size - (intOf i).toNat)
  case atStart => exact ⟨0, rfl, Nat.zero_le _, rfl⟩
  case round =>
    obtain ⟨k, rfl, hk, hal⟩ := hrel
    have HL : Hid ((s.data.toList.take k).all kw = true) := hal
    clear hal
    by_cases hlt : k < s.size
    · have hkl : k < s.data.toList.length := by omega
      have cS := small_any s[k]
      have hkw := kw_of s[k]
      have hsm := sm_small s[k]
      have h256 : s[k].toNat < 256 := s[k].toNat_lt
      have hx256 : (sm s[k]).toNat < 256 := (sm s[k]).toNat_lt
      have HK : Hid (kw s.data.toList[k] = kw s[k]) := rfl
      obtain ⟨x, hx⟩ : ∃ x, (sm s[k]).toNat = x := ⟨_, rfl⟩
      obtain ⟨c, hc⟩ : ∃ c, s[k].toNat = c := ⟨_, rfl⟩
      rw [hx] at cS hkw hsm hx256
      rw [hc] at cS hkw hsm h256
      have HC : Hid (s[k].toNat = c) := hc
      by_cases hq : kw s[k] = true
      · have HN : Hid ((s.data.toList.take (k + 1)).all kw = true) := kw_snoc hkl HL.out hq
        have hways := hkw.1 hq
        clear hkw hq
        rcases hways with ⟨h1, h2⟩ | ⟨h1, h2⟩ | h1 | h1
        · have g1 : decide ((97 : Int) ≤ (x : Int)) = true := by simp; omega
          have g2 : decide ((x : Int) ≤ 122) = true := by simp; omega
          clear hsm
          go_wp2_with (go_at_call 268; refine (cS _).mono ?_; rintro e w2 ⟨rfl, rfl⟩)
          go_round
          case rel => exact ⟨k + 1, by go_num, by omega, HN.out⟩
          case measure => simp [intOf]; omega
        · have g0 := hsm (by omega)
          have g1 : decide ((97 : Int) ≤ (x : Int)) = false := by simp; omega
          have g2 : decide ((c : Int) < 48) = false := by simp; omega
          have g3 : decide ((57 : Int) < (c : Int)) = false := by simp; omega
          clear hsm g0
          go_wp2_with (go_at_call 268; refine (cS _).mono ?_; rintro e w2 ⟨rfl, rfl⟩)
          go_round
          case rel => exact ⟨k + 1, by go_num, by omega, HN.out⟩
          case measure => simp [intOf]; omega
        · have g0 := hsm (by omega)
          have g1 : decide ((97 : Int) ≤ (x : Int)) = false := by simp; omega
          have g2 : decide ((c : Int) < 48) = false := by simp; omega
          have g3 : decide ((57 : Int) < (c : Int)) = true := by simp; omega
          have g4 : ((c : Int) != 95) = false := by simp; omega
          clear hsm g0 h1
          go_wp2_with (go_at_call 268; refine (cS _).mono ?_; rintro e w2 ⟨rfl, rfl⟩)
          go_round
          case rel => exact ⟨k + 1, by go_num, by omega, HN.out⟩
          case measure => simp [intOf]; omega
        · have g0 := hsm (by omega)
          have g1 : decide ((97 : Int) ≤ (x : Int)) = false := by simp; omega
          have g2 : decide ((c : Int) < 48) = true := by simp; omega
          have g4 : ((c : Int) != 95) = true := by simp; omega
          have g5 : ((c : Int) != 36) = false := by simp; omega
          clear hsm g0 h1
          go_wp2_with (go_at_call 268; refine (cS _).mono ?_; rintro e w2 ⟨rfl, rfl⟩)
          go_round
          case rel => exact ⟨k + 1, by go_num, by omega, HN.out⟩
          case measure => simp [intOf]; omega
      · have HF : Hid (s.data.toList.all kw = false) := all_miss hkl hq
        have hn : ¬ ((97 ≤ x ∧ x ≤ 122) ∨ (48 ≤ c ∧ c ≤ 57) ∨ c = 95 ∨ c = 36) := fun h => hq (hkw.2 h)
        clear hkw hq hsm
        have g4 : ((c : Int) != 95) = true := by simp; omega
        have g5 : ((c : Int) != 36) = true := by simp; omega
        by_cases a1 : 97 ≤ x
        · have b1 : decide ((97 : Int) ≤ (x : Int)) = true := by simp; omega
          have b2 : decide ((x : Int) ≤ 122) = false := by simp; omega
          by_cases a3 : c < 48
          · have b3 : decide ((c : Int) < 48) = true := by simp; omega
            clear hn
            go_wp2_with (go_at_call 268; refine (cS _).mono ?_; rintro e w2 ⟨rfl, rfl⟩)
            go_ret
            exact ⟨by rw [← HR.out, HF.out]; rfl, rfl⟩
          · have b3 : decide ((c : Int) < 48) = false := by simp; omega
            have b4 : decide ((57 : Int) < (c : Int)) = true := by simp; omega
            clear hn
            go_wp2_with (go_at_call 268; refine (cS _).mono ?_; rintro e w2 ⟨rfl, rfl⟩)
            go_ret
            exact ⟨by rw [← HR.out, HF.out]; rfl, rfl⟩
        · have b1 : decide ((97 : Int) ≤ (x : Int)) = false := by simp; omega
          by_cases a3 : c < 48
          · have b3 : decide ((c : Int) < 48) = true := by simp; omega
            clear hn
            go_wp2_with (go_at_call 268; refine (cS _).mono ?_; rintro e w2 ⟨rfl, rfl⟩)
            go_ret
            exact ⟨by rw [← HR.out, HF.out]; rfl, rfl⟩
          · have b3 : decide ((c : Int) < 48) = false := by simp; omega
            have b4 : decide ((57 : Int) < (c : Int)) = true := by simp; omega
            clear hn
            go_wp2_with (go_at_call 268; refine (cS _).mono ?_; rintro e w2 ⟨rfl, rfl⟩)
            go_ret
            exact ⟨by rw [← HR.out, HF.out]; rfl, rfl⟩
    · have hke : k = s.size := by omega
      have HA : Hid (s.data.toList.all kw = true) := by
        have := HL.out
        rw [List.take_of_length_le (by omega)] at this
        exact this
      obtain ⟨E, hE⟩ : ∃ E, s.toList.isEmpty = E := ⟨_, rfl⟩
      have HE : Hid (R = !E) := by show R = !E; rw [← HR.out, HA.out, ← hE, Lib.toList_data, Bool.true_and]
      clear HR
      cases E
      all_goals
        go_wp2
        go_ret
        exact ⟨by rw [HE.out]; rfl, rfl⟩
end Go.Proofs.YtdmplfflmdanlaaGreatDoor
