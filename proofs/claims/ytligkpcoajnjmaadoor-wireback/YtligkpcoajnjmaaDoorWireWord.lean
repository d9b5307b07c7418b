/-
  What wire.wordBytes and the methods word and counted of wire.reader do.
-/
import Derived.Test.YtligkpcoajnjmaaDoorWireRd
namespace Go.Proofs.YtligkpcoajnjmaaDoor
open Go.RowKit Go.Proofs.Aid Go.Proofs.Hd

theorem while_len : ∀ {l : Tx} {k : Nat}, (∀ j b, j < k → l[j]? = some b → wordy b = true) → (k = l.length ∨ ∃ b, l[k]? = some b ∧ wordy b = false) → (l.takeWhile wordy).length = k
  | [], k, _, h => by
    rcases h with rfl | ⟨b, hb, _⟩
    · rfl
    · simp at hb
  | x :: l, 0, _, h => by
    rcases h with h | ⟨b, hb, hw⟩
    · simp at h
    · obtain rfl : x = b := by simpa using hb
      rw [List.takeWhile_cons_of_neg (by simp [hw])]; rfl
  | x :: l, k + 1, h1, h => by
    rw [List.takeWhile_cons_of_pos (h1 0 x (by omega) rfl), List.length_cons]
    rw [while_len (l := l) (k := k) (fun j b hj hb => h1 (j + 1) b (by omega) (by simpa using hb)) (h.imp (fun e => by simpa using e) (fun ⟨b, hb, hw⟩ => ⟨b, by simpa using hb, hw⟩))]
theorem eq_num {c : UInt8} {n : Nat} (hn : n < 256) : (c == UInt8.ofNat n) = decide (c.toNat = n) := by
  by_cases h : c.toNat = n
  · rw [decide_eq_true h, beq_iff_eq]; subst h; simp
  · rw [decide_eq_false h, beq_eq_false_iff_ne]
    rintro rfl
    apply h
    rw [UInt8.toNat_ofNat']
    omega
theorem wordy_iff (c : UInt8) : wordy c = (decide (33 ≤ c.toNat) && decide (c.toNat ≤ 126) && !decide (c.toNat = 40) && !decide (c.toNat = 41) && !decide (c.toNat = 123) && !decide (c.toNat = 34)) := by
  unfold wordy
  rw [show (40 : UInt8) = UInt8.ofNat 40 from rfl, show (41 : UInt8) = UInt8.ofNat 41 from rfl, show (123 : UInt8) = UInt8.ofNat 123 from rfl, show (34 : UInt8) = UInt8.ofNat 34 from rfl, eq_num (by decide), eq_num (by decide), eq_num (by decide), eq_num (by decide)]
set_option maxHeartbeats 2000000 in
set_option maxRecDepth 100000 in
theorem wordBytes_is (s : ByteArray) (w : World) (hs : s.size ≤ 1000000) :
    Calls Tryd.prog 71 #[.string s] w fun e w' => e = .returned (.int .i64 ((wordT s.data.toList).length : Int)) ∧ w' = w := by
  have hl := wsize s
  obtain ⟨ANS, hANS⟩ : ∃ b, (wordT s.data.toList).length = b := ⟨_, rfl⟩
  rw [hANS]
  have HA : Hid ((wordT s.data.toList).length = ANS) := hANS
  have HL : Hid (s.data.toList.length = s.size) := hl
  clear hANS hl
  go_enter Tryd.func71, Tryd.ntmps71
  go_wp2_with fail
  go_loopw [7] (fun i wr => ∃ k : Nat, i = .int .i64 (k : Int) ∧ k ≤ s.size ∧ Hid (∀ j b, j < k → s.data.toList[j]? = some b → wordy b = true) ∧ wr = w) (fun i _ => s.size - (intOf i).toNat)
  case atStart => exact ⟨0, rfl, by omega, fun j c hj => absurd hj (by omega), rfl⟩
  case round =>
    obtain ⟨k, rfl, hk, HC, hw⟩ := hrel
    obtain rfl : w = wr := hw.symm
    by_cases hlt : k < s.size
    · have hck : s.data.toList[k]? = some (s[k]'hlt) := by rw [List.getElem?_eq_getElem (by rw [HL.out]; exact hlt)]; rfl
      generalize hc : s[k] = c at hck
      have HK : Hid (s.data.toList[k]? = some c) := hck
      have h256 := c.toNat_lt
      clear hck
      cases hq : wordy c with
      | true =>
        have hw := wordy_iff c
        rw [hq] at hw
        have hw' : 33 ≤ c.toNat ∧ c.toNat ≤ 126 ∧ c.toNat ≠ 40 ∧ c.toNat ≠ 41 ∧ c.toNat ≠ 123 ∧ c.toNat ≠ 34 := by
          have := hw.symm
          simp only [Bool.and_eq_true, decide_eq_true_eq, Bool.not_eq_true', decide_eq_false_iff_not] at this
          omega
        have q1 : decide ((c.toNat : Int) < 33) = false := decide_eq_false (by omega)
        have q2 : decide ((126 : Int) < (c.toNat : Int)) = false := decide_eq_false (by omega)
        have q3 : ((c.toNat : Int) == 40) = false := by simp; omega
        have q4 : ((c.toNat : Int) == 41) = false := by simp; omega
        have q5 : ((c.toNat : Int) == 123) = false := by simp; omega
        have q6 : ((c.toNat : Int) == 34) = false := by simp; omega
        have HQ : Hid (wordy c = true) := hq
        clear hq hw hw'
        go_wp2_with fail
        go_roundw
        case rel =>
          refine ⟨k + 1, by go_num, by omega, fun j d hj hd => ?_, trivial⟩
          by_cases hjk : j = k
          · subst hjk
            rw [HK.out] at hd
            cases hd
            exact HQ.out
          · exact HC.out j d (by omega) hd
        case measure => simp [intOf]; omega
      | false =>
        have hA : k = ANS := by
          rw [← HA.out]
          exact (while_len HC.out (Or.inr ⟨c, HK.out, hq⟩)).symm
        have hw := wordy_iff c
        rw [hq] at hw
        have hw' : ¬ (33 ≤ c.toNat ∧ c.toNat ≤ 126 ∧ c.toNat ≠ 40 ∧ c.toNat ≠ 41 ∧ c.toNat ≠ 123 ∧ c.toNat ≠ 34) := by
          intro hh
          have := hw.symm
          simp [hh] at this
        subst hA
        clear hq hw HA HC
        by_cases g1 : c.toNat < 33
        · have q1 : decide ((c.toNat : Int) < 33) = true := decide_eq_true (by omega)
          go_wp2_with fail
          go_ret
          exact ⟨rfl, rfl⟩
        have q1 : decide ((c.toNat : Int) < 33) = false := decide_eq_false (by omega)
        by_cases g2 : 126 < c.toNat
        · have q2 : decide ((126 : Int) < (c.toNat : Int)) = true := decide_eq_true (by omega)
          go_wp2_with fail
          go_ret
          exact ⟨rfl, rfl⟩
        have q2 : decide ((126 : Int) < (c.toNat : Int)) = false := decide_eq_false (by omega)
        by_cases g3 : c.toNat = 40
        · have q3 : ((c.toNat : Int) == 40) = true := by simp; omega
          go_wp2_with fail
          go_ret
          exact ⟨rfl, rfl⟩
        have q3 : ((c.toNat : Int) == 40) = false := by simp; omega
        by_cases g4 : c.toNat = 41
        · have q4 : ((c.toNat : Int) == 41) = true := by simp; omega
          go_wp2_with fail
          go_ret
          exact ⟨rfl, rfl⟩
        have q4 : ((c.toNat : Int) == 41) = false := by simp; omega
        by_cases g5 : c.toNat = 123
        · have q5 : ((c.toNat : Int) == 123) = true := by simp; omega
          go_wp2_with fail
          go_ret
          exact ⟨rfl, rfl⟩
        have q5 : ((c.toNat : Int) == 123) = false := by simp; omega
        have q6 : ((c.toNat : Int) == 34) = true := by simp; omega
        go_wp2_with fail
        go_ret
        exact ⟨rfl, rfl⟩
    · obtain rfl : k = s.size := by omega
      have hA : s.size = ANS := by
        rw [← HA.out]
        exact (while_len HC.out (Or.inl HL.out.symm)).symm
      subst hA
      clear HA HC
      go_wp2_with fail
      go_ret
      exact ⟨rfl, rfl⟩
set_option maxHeartbeats 2000000 in
set_option maxRecDepth 100000 in
theorem wword_is (rb p c : Nat) (s : ByteArray) (w : World) (hr : RdW w rb s p c) (hs : s.size ≤ 1000000) (hp : p ≤ s.size) :
    Calls Tryd.prog 48 #[.pointer (some ⟨rb, 0, none⟩)] w fun e w' => OutT w rb s (wordW s.data.toList p c) e w' := by
  have cR := rest_is rb p c s w hr hp
  have hre := rest_list s p
  have hrs : (s.extract p s.size).size = s.size - p := by rw [← wsize, hre, List.length_drop, wsize]
  obtain ⟨Q, hQ⟩ : ∃ Q, s.extract p s.size = Q := ⟨_, rfl⟩
  rw [hQ] at cR hre hrs
  have cR2 : ∀ W, RdW W rb s p c → Calls Tryd.prog 51 #[.pointer (some ⟨rb, 0, none⟩)] W fun e w' => e = .returned (.string Q) ∧ Below W.heap.size W w' := fun W h => by
    have := rest_is rb p c s W h hp
    rw [hQ] at this
    exact this
  have cB := fun W => wordBytes_is Q W (by omega)
  rw [hre] at cB
  have hle := wordT_le (s.data.toList.drop p)
  rw [List.length_drop, wsize] at hle
  have htk := wordT_take (s.data.toList.drop p)
  obtain ⟨L, hL⟩ : ∃ L, (wordT (s.data.toList.drop p)).length = L := ⟨_, rfl⟩
  rw [hL] at cB hle htk
  obtain ⟨T, hT⟩ : ∃ T, wordW s.data.toList p c = T := ⟨_, rfl⟩
  rw [hT]
  unfold wordW at hT
  rw [hL] at hT
  obtain ⟨wt, hwt⟩ : ∃ t, wordT (s.data.toList.drop p) = t := ⟨_, rfl⟩
  rw [hwt] at hT hL htk
  have hwe : (Q.extract 0 L).data.toList = wt := by rw [Lib.extract_from_zero, hre, ← htk]
  obtain ⟨X, hX⟩ : ∃ X, Q.extract 0 L = X := ⟨_, rfl⟩
  rw [hX] at hwe
  have hXs : X.size = L := by rw [← wsize, hwe, hL]
  have HR : Hid (RdW w rb s p c) := hr
  have HT : Hid ((if wt = [] then Wd.bad 3 p else Wd.ok wt (p + L) c) = T) := hT
  have HW : Hid (X.data.toList = wt) := hwe
  clear hr hre hT hL htk hwt hwe hQ
  have hXs2 : (X.size : Int) = (L : Int) := by omega
  have hLQ : L ≤ Q.size := by omega
  have hLb : L ≤ 1000000 := by omega
  clear hXs hrs
  go_enter Tryd.func48, Tryd.ntmps48
  go_wp2_with fail
  refine cR.mono ?_
  rintro e w1 ⟨rfl, hb1⟩
  have HR1 : Hid (RdW w1 rb s p c ∧ Below w.heap.size w w1) := ⟨HR.out.kept (hb1.block rb HR.out.lt), hb1⟩
  clear cR hb1
  go_wp2_with fail
  refine (cR2 _ HR1.out.1).mono ?_
  rintro e w2 ⟨rfl, hb2⟩
  have HR2 : Hid (RdW w2 rb s p c ∧ Below w.heap.size w w2) := ⟨HR1.out.1.kept (hb2.block rb HR1.out.1.lt), HR1.out.2.trans (hb2.mono HR1.out.2.size)⟩
  clear cR2 hb2
  go_wp2_with fail
  refine (cB _).mono ?_
  rintro e w3 ⟨rfl, hw⟩
  obtain rfl : w2 = w3 := hw.symm
  clear cB
  by_cases h0 : wt = []
  · have hT := HT.out
    rw [if_pos h0] at hT
    subst hT
    have f1 : X.toList = [] := by rw [Lib.toList_data, HW.out]; exact h0
    have f2 : X.toList.isEmpty = true := by rw [f1]; rfl
    have cF := fail_is rb p c 3 s w2 HR2.out.1
    unfold thrownA at cF
    clear HT h0
    go_wp2_with fail
    refine cF.mono ?_
    rintro e w4 ⟨rfl, ha, hb4⟩
    have HD : Hid (AtIs w4 w2.heap.size 3 p ∧ Below w.heap.size w w4) := ⟨ha, HR2.out.2.trans (hb4.mono HR2.out.2.size)⟩
    clear cF ha hb4
    go_wp2_with fail
    exact ⟨rfl, _, rfl, HR2.out.2.size, HD.out.1, to_but HD.out.2⟩
  · have hT := HT.out
    rw [if_neg h0] at hT
    subst hT
    have f1 : ¬ X.toList = [] := by rw [Lib.toList_data, HW.out]; exact h0
    have f2 : X.toList.isEmpty = false := by rw [Lib.toList_data, HW.out]; cases wt with | nil => exact absurd rfl h0 | cons _ _ => rfl
    have p1 : w2.cell? ⟨rb, 1, none⟩ = some (.int .i64 (p : Int)) := rd_cell HR2.out.1 rfl
    have g1 : w2.frozen? ⟨rb, 1, none⟩ = false := rd_free HR2.out.1 1
    have hset : RdW (w2.setCell ⟨rb, 1, none⟩ (.int .i64 ((p : Int) + (L : Int)))) rb s (p + L) c := by
      have := rd_set (i := 1) (.int .i64 ((p : Int) + (L : Int))) HR2.out.1
      unfold RdW
      rw [this]
      simp
    have HD : Hid (RdW (w2.setCell ⟨rb, 1, none⟩ (.int .i64 ((p : Int) + (L : Int)))) rb s (p + L) c ∧ But w.heap.size rb w (w2.setCell ⟨rb, 1, none⟩ (.int .i64 ((p : Int) + (L : Int))))) := ⟨hset, (to_but HR2.out.2).setB 1 _⟩
    clear HT h0 hset
    go_wp2_with fail
    go_ret
    exact ⟨X, rfl, HW.out, HD.out⟩
end Go.Proofs.YtligkpcoajnjmaaDoor
