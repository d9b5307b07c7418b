/-
  What the small methods of wire.reader do: fail, rest, took, blank.
  What wire.wordBytes and the methods word and counted of wire.reader do.
  What the method counted of wire.reader does.
  What the method quoted of wire.reader does.
-/
import Derived.Test.YtmcpohnilgbicaaGreatDoorWireCmd
import Derived.Test.YtmcpohnilgbicaaGreatDoorWireTail
import Derived.Test.YtmcpohnilgbicaaGreatDoorButAid
import Derived.WalkLawsBesides
import Derived.Test.YtmcpohnilgbicaaGreatDoorBuildShelf
import Derived.Shelf.Strings.BuilderF
namespace Go.Proofs.YtmcpohnilgbicaaGreatDoor
open Go.RowKit Go.Proofs.Aid Go.Proofs.Hd

/-- A reader in memory: the text, where it is, how many parts it counted. -/
def RdW (w : World) (rb : Nat) (s : ByteArray) (p c : Nat) : Prop := w.heap[rb]? = some (.cells #[.string s, .int .i64 (p : Int), .int .i64 (c : Int)] 64 (0, 0))
theorem RdW.kept {w w' : World} {rb p c : Nat} {s : ByteArray} (h : RdW w rb s p c) (hb : w'.heap[rb]? = w.heap[rb]?) : RdW w' rb s p c := hb.trans h
theorem RdW.lt {w : World} {rb p c : Nat} {s : ByteArray} (h : RdW w rb s p c) : rb < w.heap.size := (Array.getElem?_eq_some_iff.1 h).1
/-- What is thrown: an At in block N. -/
def thrownA (N : Nat) : Ending := .panicked [{ v := .iface 86 (.pointer (some ⟨N, 0, none⟩)), recovered := false }]
def AtIs (w : World) (N : Nat) (n : Int) (p : Nat) : Prop := w.heap[N]? = some (.cells #[.int .i64 n, .int .i64 (p : Int)] 89 (0, 0))
set_option maxHeartbeats 1000000 in
theorem fail_is (rb p c : Nat) (n : Int) (s : ByteArray) (w : World) (hr : RdW w rb s p c) :
    Calls Tryz.prog 30 #[.pointer (some ⟨rb, 0, none⟩), .int .i64 n] w fun e w' => e = thrownA w.heap.size ∧ AtIs w' w.heap.size n p ∧ Below w.heap.size w w' := by
  have p1 : w.cell? ⟨rb, 1, none⟩ = some (.int .i64 (p : Int)) := rd_cell hr rfl
  have h1 := heap_alloc_new w (.cells #[.int .i64 n, .int .i64 (p : Int)] 89)
  have b1 : Below w.heap.size w (w.alloc (.cells #[.int .i64 n, .int .i64 (p : Int)] 89)) := (Below.refl _ _).alloc (Nat.le_refl _) _
  have HD : Hid (AtIs (w.alloc (.cells #[.int .i64 n, .int .i64 (p : Int)] 89)) w.heap.size n p ∧ Below w.heap.size w (w.alloc (.cells #[.int .i64 n, .int .i64 (p : Int)] 89))) := ⟨h1, b1⟩
  clear h1 b1 hr
  unfold thrownA
  go_enter Tryz.func30, Tryz.ntmps30
  go_wp2_with fail
  exact ⟨rfl, rfl, HD.out⟩
set_option maxHeartbeats 1000000 in
theorem rest_is (rb p c : Nat) (s : ByteArray) (w : World) (hr : RdW w rb s p c) (hp : p ≤ s.size) :
    Calls Tryz.prog 56 #[.pointer (some ⟨rb, 0, none⟩)] w fun e w' => e = .returned (.string (s.extract p s.size)) ∧ Below w.heap.size w w' := by
  have p0 : w.cell? ⟨rb, 0, none⟩ = some (.string s) := rd_cell hr rfl
  have p1 : w.cell? ⟨rb, 1, none⟩ = some (.int .i64 (p : Int)) := rd_cell hr rfl
  clear hr
  go_enter Tryz.func56, Tryz.ntmps56
  go_wp2_with fail
  go_region
  all_goals
    go_wp2_with fail
    go_ret
    exact ⟨rfl, (Below.refl _ _).drew⟩
theorem rest_list (s : ByteArray) (p : Nat) : (s.extract p s.size).data.toList = s.data.toList.drop p := Lib.extract_to_end s p
theorem took_has (x : UInt8) (s : ByteArray) (p : Nat) : Lib.hasPrefix (s.extract p s.size).data.toList (⟨#[x]⟩ : ByteArray).data.toList = tookW [x] s.data.toList p := by rw [rest_list]; rfl
set_option maxHeartbeats 1000000 in
theorem took_no (x : UInt8) (rb p c : Nat) (s : ByteArray) (w : World) (hr : RdW w rb s p c) (hp : p ≤ s.size) (h : tookW [x] s.data.toList p = false) :
    Calls Tryz.prog 74 #[.pointer (some ⟨rb, 0, none⟩), .string ⟨#[x]⟩] w fun e w' => e = .returned (.bool false) ∧ Below w.heap.size w w' := by
  have cR := rest_is rb p c s w hr hp
  have hh := took_has x s p
  rw [h] at hh
  have cP : ∀ W, Calls Tryz.prog 52 #[.string (s.extract p s.size), .string ⟨#[x]⟩] W fun e w' => e = .returned (.bool false) ∧ w' = W := fun W => by
    have := Tryz.strings_HasPrefix (s.extract p s.size) ⟨#[x]⟩ W
    rw [hh] at this
    exact this
  clear hr hh
  go_enter Tryz.func74, Tryz.ntmps74
  go_wp2_with fail
  refine cR.mono ?_
  rintro e w1 ⟨rfl, hb⟩
  have HB : Hid (Below w.heap.size w w1) := hb
  clear cR hb
  go_wp2_with fail
  refine (cP _).mono ?_
  rintro e w2 ⟨rfl, hw⟩
  obtain rfl : w1 = w2 := hw.symm
  clear cP
  go_wp2_with fail
  go_ret
  exact ⟨rfl, HB.out⟩
set_option maxHeartbeats 1000000 in
theorem took_yes (x : UInt8) (rb p c : Nat) (s : ByteArray) (w : World) (hr : RdW w rb s p c) (hs : s.size ≤ 1000000) (hp : p ≤ s.size) (h : tookW [x] s.data.toList p = true) :
    Calls Tryz.prog 74 #[.pointer (some ⟨rb, 0, none⟩), .string ⟨#[x]⟩] w fun e w' => e = .returned (.bool true) ∧ RdW w' rb s (p + 1) c ∧ But w.heap.size rb w w' := by
  have cR := rest_is rb p c s w hr hp
  have hh := took_has x s p
  rw [h] at hh
  have cP : ∀ W, Calls Tryz.prog 52 #[.string (s.extract p s.size), .string ⟨#[x]⟩] W fun e w' => e = .returned (.bool true) ∧ w' = W := fun W => by
    have := Tryz.strings_HasPrefix (s.extract p s.size) ⟨#[x]⟩ W
    rw [hh] at this
    exact this
  have HR : Hid (RdW w rb s p c) := hr
  have q : (⟨#[x]⟩ : ByteArray).size = 1 := rfl
  clear hr hh
  go_enter Tryz.func74, Tryz.ntmps74
  go_wp2_with fail
  refine cR.mono ?_
  rintro e w1 ⟨rfl, hb⟩
  have hr1 : RdW w1 rb s p c := HR.out.kept (hb.block rb HR.out.lt)
  have p1 : w1.cell? ⟨rb, 1, none⟩ = some (.int .i64 (p : Int)) := rd_cell hr1 rfl
  have f1 : w1.frozen? ⟨rb, 1, none⟩ = false := rd_free hr1 1
  have hset : RdW (w1.setCell ⟨rb, 1, none⟩ (.int .i64 ((p : Int) + 1))) rb s (p + 1) c := rd_set (i := 1) (.int .i64 ((p : Int) + 1)) hr1
  have HD : Hid (RdW (w1.setCell ⟨rb, 1, none⟩ (.int .i64 ((p : Int) + 1))) rb s (p + 1) c ∧ But w.heap.size rb w (w1.setCell ⟨rb, 1, none⟩ (.int .i64 ((p : Int) + 1)))) := ⟨hset, (to_but hb).setB 1 _⟩
  clear cR hb hr1 hset
  go_wp2_with fail
  refine (cP _).mono ?_
  rintro e w2 ⟨rfl, hw⟩
  obtain rfl : w1 = w2 := hw.symm
  clear cP
  go_wp2_with fail
  go_ret
  exact ⟨rfl, HD.out⟩
/-- What a reader's function that gives a text leaves. -/
def OutT (w : World) (rb : Nat) (s : ByteArray) : Wd Tx → Ending → World → Prop
  | .bad n p, e, w' => ∃ N, e = thrownA N ∧ w.heap.size ≤ N ∧ AtIs w' N n p ∧ But w.heap.size rb w w'
  | .ok t p c, e, w' => ∃ tb : ByteArray, e = .returned (.string tb) ∧ tb.data.toList = t ∧ RdW w' rb s p c ∧ But w.heap.size rb w w'
def OutU (w : World) (rb : Nat) (s : ByteArray) : Wd Unit → Ending → World → Prop
  | .bad n p, e, w' => ∃ N, e = thrownA N ∧ w.heap.size ≤ N ∧ AtIs w' N n p ∧ But w.heap.size rb w w'
  | .ok _ p c, e, w' => e = .returned (.tuple #[]) ∧ RdW w' rb s p c ∧ But w.heap.size rb w w'
set_option maxHeartbeats 1000000 in
theorem blank_is (rb p c : Nat) (s : ByteArray) (w : World) (hr : RdW w rb s p c) (hs : s.size ≤ 1000000) (hp : p ≤ s.size) :
    Calls Tryz.prog 54 #[.pointer (some ⟨rb, 0, none⟩)] w fun e w' => OutU w rb s (blankW s.data.toList p c) e w' := by
  unfold blankW
  cases h : tookW [32] s.data.toList p with
  | true =>
    rw [if_pos rfl]
    have cT := took_yes 32 rb p c s w hr hs hp h
    clear hr
    go_enter Tryz.func54, Tryz.ntmps54
    go_wp2_with fail
    refine cT.mono ?_
    rintro e w1 ⟨rfl, hr1, hb1⟩
    have HD : Hid (RdW w1 rb s (p + 1) c ∧ But w.heap.size rb w w1) := ⟨hr1, hb1⟩
    clear cT hr1 hb1
    go_wp2_with fail
    go_end0
    exact ⟨rfl, HD.out⟩
  | false =>
    rw [if_neg (by simp)]
    have cT := took_no 32 rb p c s w hr hp h
    have HR : Hid (RdW w rb s p c) := hr
    clear hr
    go_enter Tryz.func54, Tryz.ntmps54
    go_wp2_with fail
    refine cT.mono ?_
    rintro e w1 ⟨rfl, hb1⟩
    have cF := fail_is rb p c 3 s w1 (HR.out.kept (hb1.block rb HR.out.lt))
    have HB : Hid (Below w.heap.size w w1) := hb1
    unfold thrownA at cF
    clear cT hb1
    go_wp2_with fail
    refine cF.mono ?_
    rintro e w2 ⟨rfl, ha, hb2⟩
    have HD : Hid (AtIs w2 w1.heap.size 3 p ∧ Below w.heap.size w w2) := ⟨ha, HB.out.trans (hb2.mono HB.out.size)⟩
    clear cF ha hb2
    go_wp2_with fail
    exact ⟨rfl, _, rfl, HB.out.size, HD.out.1, to_but HD.out.2⟩
end Go.Proofs.YtmcpohnilgbicaaGreatDoor
namespace Go.Proofs.YtmcpohnilgbicaaGreatDoor
open Go.RowKit Go.Proofs.Aid Go.Proofs.Hd

theorem while_len : ∀ {l : Tx} {k : Nat}, (∀ j b, j < k → l[j]? = some b → wordy b = true) → (k = l.length ∨ ∃ b, l[k]? = some b ∧ wordy b = false) → (l.takeWhile wordy).length = k
  | [], k, _, h => by
    rcases h with rfl | ⟨b, hb, _⟩
    · rfl
    · simp at hb
  | x :: l, 0, _, h => by
    rcases h with h | ⟨b, hb, hw⟩
    · simp at h
    · obtain rfl : x = b := by simpa using hb
      rw [List.takeWhile_cons_of_neg (by simp [hw])]; rfl
  | x :: l, k + 1, h1, h => by
    rw [List.takeWhile_cons_of_pos (h1 0 x (by omega) rfl), List.length_cons]
    rw [while_len (l := l) (k := k) (fun j b hj hb => h1 (j + 1) b (by omega) (by simpa using hb)) (h.imp (fun e => by simpa using e) (fun ⟨b, hb, hw⟩ => ⟨b, by simpa using hb, hw⟩))]
theorem eq_num {c : UInt8} {n : Nat} (hn : n < 256) : (c == UInt8.ofNat n) = decide (c.toNat = n) := by
  by_cases h : c.toNat = n
  · rw [decide_eq_true h, beq_iff_eq]; subst h; simp
  · rw [decide_eq_false h, beq_eq_false_iff_ne]
    rintro rfl
    apply h
    rw [UInt8.toNat_ofNat']
    omega
theorem wordy_iff (c : UInt8) : wordy c = (decide (33 ≤ c.toNat) && decide (c.toNat ≤ 126) && !decide (c.toNat = 40) && !decide (c.toNat = 41) && !decide (c.toNat = 123) && !decide (c.toNat = 34)) := by
  unfold wordy
  rw [show (40 : UInt8) = UInt8.ofNat 40 from rfl, show (41 : UInt8) = UInt8.ofNat 41 from rfl, show (123 : UInt8) = UInt8.ofNat 123 from rfl, show (34 : UInt8) = UInt8.ofNat 34 from rfl, eq_num (by decide), eq_num (by decide), eq_num (by decide), eq_num (by decide)]
set_option maxHeartbeats 2000000 in
set_option maxRecDepth 100000 in
theorem wordBytes_is (s : ByteArray) (w : World) (hs : s.size ≤ 1000000) :
    Calls Tryz.prog 62 #[.string s] w fun e w' => e = .returned (.int .i64 ((wordT s.data.toList).length : Int)) ∧ w' = w := by
  have hl := wsize s
  obtain ⟨ANS, hANS⟩ : ∃ b, (wordT s.data.toList).length = b := ⟨_, rfl⟩
  rw [hANS]
  have HA : Hid ((wordT s.data.toList).length = ANS) := hANS
  have HL : Hid (s.data.toList.length = s.size) := hl
  clear hANS hl
  go_enter Tryz.func62, Tryz.ntmps62
  go_wp2_with fail
  go_loopw [7] (fun i wr => ∃ k : Nat, i = .int .i64 (k : Int) ∧ k ≤ s.size ∧ Hid (∀ j b, j < k → s.data.toList[j]? = some b → wordy b = true) ∧ wr = w) (fun i _ => s.size - (intOf i).toNat)
  case atStart => exact ⟨0, rfl, by omega, fun j c hj => absurd hj (by omega), rfl⟩
  case round =>
    obtain ⟨k, rfl, hk, HC, hw⟩ := hrel
    obtain rfl : w = wr := hw.symm
    by_cases hlt : k < s.size
    · have hck : s.data.toList[k]? = some (s[k]'hlt) := by rw [List.getElem?_eq_getElem (by rw [HL.out]; exact hlt)]; rfl
      generalize hc : s[k] = c at hck
      have HK : Hid (s.data.toList[k]? = some c) := hck
      have h256 := c.toNat_lt
      clear hck
      cases hq : wordy c with
      | true =>
        have hw := wordy_iff c
        rw [hq] at hw
        have hw' : 33 ≤ c.toNat ∧ c.toNat ≤ 126 ∧ c.toNat ≠ 40 ∧ c.toNat ≠ 41 ∧ c.toNat ≠ 123 ∧ c.toNat ≠ 34 := by
          have := hw.symm
          simp only [Bool.and_eq_true, decide_eq_true_eq, Bool.not_eq_true', decide_eq_false_iff_not] at this
          omega
        have q1 : decide ((c.toNat : Int) < 33) = false := decide_eq_false (by omega)
        have q2 : decide ((126 : Int) < (c.toNat : Int)) = false := decide_eq_false (by omega)
        have q3 : ((c.toNat : Int) == 40) = false := by simp; omega
        have q4 : ((c.toNat : Int) == 41) = false := by simp; omega
        have q5 : ((c.toNat : Int) == 123) = false := by simp; omega
        have q6 : ((c.toNat : Int) == 34) = false := by simp; omega
        have HQ : Hid (wordy c = true) := hq
        clear hq hw hw'
        go_wp2_with fail
        go_roundw
        case rel =>
          refine ⟨k + 1, by go_num, by omega, fun j d hj hd => ?_, trivial⟩
          by_cases hjk : j = k
          · subst hjk
            rw [HK.out] at hd
            cases hd
            exact HQ.out
          · exact HC.out j d (by omega) hd
        case measure => simp [intOf]; omega
      | false =>
        have hA : k = ANS := by
          rw [← HA.out]
          exact (while_len HC.out (Or.inr ⟨c, HK.out, hq⟩)).symm
        have hw := wordy_iff c
        rw [hq] at hw
        have hw' : ¬ (33 ≤ c.toNat ∧ c.toNat ≤ 126 ∧ c.toNat ≠ 40 ∧ c.toNat ≠ 41 ∧ c.toNat ≠ 123 ∧ c.toNat ≠ 34) := by
          intro hh
          have := hw.symm
          simp [hh] at this
        subst hA
        clear hq hw HA HC
        by_cases g1 : c.toNat < 33
        · have q1 : decide ((c.toNat : Int) < 33) = true := decide_eq_true (by omega)
          go_wp2_with fail
          go_ret
          exact ⟨rfl, rfl⟩
        have q1 : decide ((c.toNat : Int) < 33) = false := decide_eq_false (by omega)
        by_cases g2 : 126 < c.toNat
        · have q2 : decide ((126 : Int) < (c.toNat : Int)) = true := decide_eq_true (by omega)
          go_wp2_with fail
          go_ret
          exact ⟨rfl, rfl⟩
        have q2 : decide ((126 : Int) < (c.toNat : Int)) = false := decide_eq_false (by omega)
        by_cases g3 : c.toNat = 40
        · have q3 : ((c.toNat : Int) == 40) = true := by simp; omega
          go_wp2_with fail
          go_ret
          exact ⟨rfl, rfl⟩
        have q3 : ((c.toNat : Int) == 40) = false := by simp; omega
        by_cases g4 : c.toNat = 41
        · have q4 : ((c.toNat : Int) == 41) = true := by simp; omega
          go_wp2_with fail
          go_ret
          exact ⟨rfl, rfl⟩
        have q4 : ((c.toNat : Int) == 41) = false := by simp; omega
        by_cases g5 : c.toNat = 123
        · have q5 : ((c.toNat : Int) == 123) = true := by simp; omega
          go_wp2_with fail
          go_ret
          exact ⟨rfl, rfl⟩
        have q5 : ((c.toNat : Int) == 123) = false := by simp; omega
        have q6 : ((c.toNat : Int) == 34) = true := by simp; omega
        go_wp2_with fail
        go_ret
        exact ⟨rfl, rfl⟩
    · obtain rfl : k = s.size := by omega
      have hA : s.size = ANS := by
        rw [← HA.out]
        exact (while_len HC.out (Or.inl HL.out.symm)).symm
      subst hA
      clear HA HC
      go_wp2_with fail
      go_ret
      exact ⟨rfl, rfl⟩
set_option maxHeartbeats 2000000 in
set_option maxRecDepth 100000 in
theorem wword_is (rb p c : Nat) (s : ByteArray) (w : World) (hr : RdW w rb s p c) (hs : s.size ≤ 1000000) (hp : p ≤ s.size) :
    Calls Tryz.prog 53 #[.pointer (some ⟨rb, 0, none⟩)] w fun e w' => OutT w rb s (wordW s.data.toList p c) e w' := by
  have cR := rest_is rb p c s w hr hp
  have hre := rest_list s p
  have hrs : (s.extract p s.size).size = s.size - p := by rw [← wsize, hre, List.length_drop, wsize]
  obtain ⟨Q, hQ⟩ : ∃ Q, s.extract p s.size = Q := ⟨_, rfl⟩
  rw [hQ] at cR hre hrs
  have cR2 : ∀ W, RdW W rb s p c → Calls Tryz.prog 56 #[.pointer (some ⟨rb, 0, none⟩)] W fun e w' => e = .returned (.string Q) ∧ Below W.heap.size W w' := fun W h => by
    have := rest_is rb p c s W h hp
    rw [hQ] at this
    exact this
  have cB := fun W => wordBytes_is Q W (by omega)
  rw [hre] at cB
  have hle := wordT_le (s.data.toList.drop p)
  rw [List.length_drop, wsize] at hle
  have htk := wordT_take (s.data.toList.drop p)
  obtain ⟨L, hL⟩ : ∃ L, (wordT (s.data.toList.drop p)).length = L := ⟨_, rfl⟩
  rw [hL] at cB hle htk
  obtain ⟨T, hT⟩ : ∃ T, wordW s.data.toList p c = T := ⟨_, rfl⟩
  rw [hT]
  unfold wordW at hT
  rw [hL] at hT
  obtain ⟨wt, hwt⟩ : ∃ t, wordT (s.data.toList.drop p) = t := ⟨_, rfl⟩
  rw [hwt] at hT hL htk
  have hwe : (Q.extract 0 L).data.toList = wt := by rw [Lib.extract_from_zero, hre, ← htk]
  obtain ⟨X, hX⟩ : ∃ X, Q.extract 0 L = X := ⟨_, rfl⟩
  rw [hX] at hwe
  have hXs : X.size = L := by rw [← wsize, hwe, hL]
  have HR : Hid (RdW w rb s p c) := hr
  have HT : Hid ((if wt = [] then Wd.bad 3 p else Wd.ok wt (p + L) c) = T) := hT
  have HW : Hid (X.data.toList = wt) := hwe
  clear hr hre hT hL htk hwt hwe hQ
  have hXs2 : (X.size : Int) = (L : Int) := by omega
  have hLQ : L ≤ Q.size := by omega
  have hLb : L ≤ 1000000 := by omega
  clear hXs hrs
  go_enter Tryz.func53, Tryz.ntmps53
  go_wp2_with fail
  refine cR.mono ?_
  rintro e w1 ⟨rfl, hb1⟩
  have HR1 : Hid (RdW w1 rb s p c ∧ Below w.heap.size w w1) := ⟨HR.out.kept (hb1.block rb HR.out.lt), hb1⟩
  clear cR hb1
  go_wp2_with fail
  refine (cR2 _ HR1.out.1).mono ?_
  rintro e w2 ⟨rfl, hb2⟩
  have HR2 : Hid (RdW w2 rb s p c ∧ Below w.heap.size w w2) := ⟨HR1.out.1.kept (hb2.block rb HR1.out.1.lt), HR1.out.2.trans (hb2.mono HR1.out.2.size)⟩
  clear cR2 hb2
  go_wp2_with fail
  refine (cB _).mono ?_
  rintro e w3 ⟨rfl, hw⟩
  obtain rfl : w2 = w3 := hw.symm
  clear cB
  by_cases h0 : wt = []
  · have hT := HT.out
    rw [if_pos h0] at hT
    subst hT
    have f1 : X.toList = [] := by rw [Lib.toList_data, HW.out]; exact h0
    have f2 : X.toList.isEmpty = true := by rw [f1]; rfl
    have cF := fail_is rb p c 3 s w2 HR2.out.1
    unfold thrownA at cF
    clear HT h0
    go_wp2_with fail
    refine cF.mono ?_
    rintro e w4 ⟨rfl, ha, hb4⟩
    have HD : Hid (AtIs w4 w2.heap.size 3 p ∧ Below w.heap.size w w4) := ⟨ha, HR2.out.2.trans (hb4.mono HR2.out.2.size)⟩
    clear cF ha hb4
    go_wp2_with fail
    exact ⟨rfl, _, rfl, HR2.out.2.size, HD.out.1, to_but HD.out.2⟩
  · have hT := HT.out
    rw [if_neg h0] at hT
    subst hT
    have f1 : ¬ X.toList = [] := by rw [Lib.toList_data, HW.out]; exact h0
    have f2 : X.toList.isEmpty = false := by rw [Lib.toList_data, HW.out]; cases wt with | nil => exact absurd rfl h0 | cons _ _ => rfl
    have p1 : w2.cell? ⟨rb, 1, none⟩ = some (.int .i64 (p : Int)) := rd_cell HR2.out.1 rfl
    have g1 : w2.frozen? ⟨rb, 1, none⟩ = false := rd_free HR2.out.1 1
    have hset : RdW (w2.setCell ⟨rb, 1, none⟩ (.int .i64 ((p : Int) + (L : Int)))) rb s (p + L) c := by
      have := rd_set (i := 1) (.int .i64 ((p : Int) + (L : Int))) HR2.out.1
      unfold RdW
      rw [this]
      simp
    have HD : Hid (RdW (w2.setCell ⟨rb, 1, none⟩ (.int .i64 ((p : Int) + (L : Int)))) rb s (p + L) c ∧ But w.heap.size rb w (w2.setCell ⟨rb, 1, none⟩ (.int .i64 ((p : Int) + (L : Int))))) := ⟨hset, (to_but HR2.out.2).setB 1 _⟩
    clear HT h0 hset
    go_wp2_with fail
    go_ret
    exact ⟨X, rfl, HW.out, HD.out⟩
end Go.Proofs.YtmcpohnilgbicaaGreatDoor
namespace Go.Proofs.YtmcpohnilgbicaaGreatDoor
open Go.RowKit Go.Proofs.Aid Go.Proofs.Hd

theorem cut_len (l sep : Tx) : (Lib.cut l sep).1.length ≤ l.length ∧ (Lib.cut l sep).2.1.length ≤ l.length := by
  unfold Lib.cut
  split
  · simp only [List.length_take, List.length_drop]; omega
  · simp
set_option maxHeartbeats 2000000 in
set_option maxRecDepth 100000 in
theorem counted_is (rb p c : Nat) (s : ByteArray) (m : Int) (w : World) (hr : RdW w rb s p c) (hs : s.size ≤ 1000000) (h : tookW [123] s.data.toList p = true)
    (hm : ∀ W, Below w.heap.size w W → W.cell? ⟨1, 0, none⟩ = some (.int .i64 m)) (hg : NumAt w) :
    Calls Tryz.prog 76 #[.pointer (some ⟨rb, 0, none⟩)] w fun e w' => OutT w rb s (countedW s.data.toList p c) e w' := by
  have hp : p < s.size := by
    have := (List.getElem?_eq_some_iff.1 (took_one.1 h)).1
    rw [wsize] at this; exact this
  have cR := rest_is rb p c s w hr (by omega)
  have hre := rest_list s p
  have hrs : (s.extract p s.size).size = s.size - p := by rw [← wsize, hre, List.length_drop, wsize]
  obtain ⟨Q, hQ⟩ : ∃ Q, s.extract p s.size = Q := ⟨_, rfl⟩
  rw [hQ] at cR hre hrs
  have hqe : (Q.extract 1 Q.size).data.toList = (s.data.toList.drop p).drop 1 := by rw [Lib.extract_to_end, hre]
  obtain ⟨Y, hY⟩ : ∃ Q', Q.extract 1 Q.size = Q' := ⟨_, rfl⟩
  rw [hY] at hqe
  have hYs : Y.size ≤ s.size := by rw [← wsize, hqe, List.length_drop, List.length_drop, wsize]; omega
  have cC : ∀ W, Below w.heap.size w W → Calls Tryz.prog 17 #[.string Y, .string ⟨#[125, 13, 10]⟩] W fun e w' => e = .returned (.tuple #[.string ⟨(Lib.cut ((s.data.toList.drop p).drop 1) [125, 13, 10]).1.toArray⟩, .string ⟨(Lib.cut ((s.data.toList.drop p).drop 1) [125, 13, 10]).2.1.toArray⟩, .bool (Lib.cut ((s.data.toList.drop p).drop 1) [125, 13, 10]).2.2]) ∧ ∃ n, w' = W.drewN n := fun W hW => by
    have := Tryz.strings_Cut Y ⟨#[125, 13, 10]⟩ m W (by omega) (hm W hW)
    rw [hqe] at this
    exact this
  obtain ⟨T, hT⟩ : ∃ T, countedW s.data.toList p c = T := ⟨_, rfl⟩
  rw [hT]
  unfold countedW at hT
  obtain ⟨cl1, cl2⟩ := cut_len ((s.data.toList.drop p).drop 1) [125, 13, 10]
  obtain ⟨⟨c1, c2, c3⟩, hcut⟩ : ∃ q, Lib.cut ((s.data.toList.drop p).drop 1) [125, 13, 10] = q := ⟨_, rfl⟩
  rw [hcut] at cC hT cl1 cl2
  simp only [List.length_drop, wsize] at cl1 cl2
  obtain ⟨A, hA⟩ : ∃ A : ByteArray, ⟨c1.toArray⟩ = A := ⟨_, rfl⟩
  obtain ⟨B, hB⟩ : ∃ A : ByteArray, ⟨c2.toArray⟩ = A := ⟨_, rfl⟩
  have hAl : A.data.toList = c1 := by rw [← hA]
  have hBl : B.data.toList = c2 := by rw [← hB]
  have hAs : A.size ≤ 1000000 := by rw [← wsize, hAl]; omega
  have hBs : B.size ≤ s.size := by rw [← wsize, hBl]; omega
  have hBc : c2.length = B.size := by rw [← wsize, hBl]
  have cC : ∀ W, Below w.heap.size w W → Calls Tryz.prog 17 #[.string Y, .string ⟨#[125, 13, 10]⟩] W fun e w' => e = .returned (.tuple #[.string A, .string B, .bool c3]) ∧ ∃ n, w' = W.drewN n := fun W hW => by
    have := cC W hW
    rw [hA, hB] at this
    exact this
  have cN := fun W h => wnumber_is A W (by omega) h
  rw [hAl] at cN
  obtain ⟨NN, hNN⟩ : ∃ o, numW c1 = o := ⟨_, rfl⟩
  rw [hNN] at cN
  have HNW : Hid (∀ W, Below w.heap.size w W → NumAt W) := fun W h => hg.below h
  have HR : Hid (RdW w rb s p c) := hr
  have HT : Hid ((if c3 = false then Wd.bad 3 p else match NN with
    | none => .bad 3 p
    | some n => if B.size < n then .bad 3 p else .ok (c2.take n) (s.size - B.size + n) c) = T) := by
    have := hT
    simp only [hNN, hBc, wsize] at this
    exact this
  have HNL : Hid (∀ n, NN = some n → n ≤ 4611686018427387904) := fun n e => numW_le (by rw [hNN, e])
  have HBL : Hid (B.data.toList = c2) := hBl
  have hQ1 : 1 ≤ Q.size := by omega
  clear hr hre hT hqe hA hB hAl hBl hNN hcut hg hm hrs cl1 cl2 hBc h hAs
  go_enter Tryz.func76, Tryz.ntmps76
  go_wp2_with fail
  refine cR.mono ?_
  rintro e w1 ⟨rfl, hb1⟩
  have HR1 : Hid (RdW w1 rb s p c ∧ Below w.heap.size w w1) := ⟨HR.out.kept (hb1.block rb HR.out.lt), hb1⟩
  clear cR hb1
  go_wp2_with fail
  refine (cC _ HR1.out.2).mono ?_
  rintro e w2 ⟨rfl, n2, rfl⟩
  have HR2 : Hid (RdW (w1.drewN n2) rb s p c ∧ Below w.heap.size w (w1.drewN n2)) := ⟨HR1.out.1.kept ((below_drewN (Below.refl w1.heap.size w1) n2).block rb HR1.out.1.lt), below_drewN HR1.out.2 n2⟩
  clear cC HR1
  generalize w1.drewN n2 = w2 at HR2 ⊢
  go_wp2_with fail
  refine (cN _ (HNW.out _ HR2.out.2)).mono ?_
  rintro e w3 ⟨rfl, hb3⟩
  have HR3 : Hid (RdW w3 rb s p c ∧ Below w.heap.size w w3) := ⟨HR2.out.1.kept (hb3.block rb HR2.out.1.lt), HR2.out.2.trans (hb3.mono HR2.out.2.size)⟩
  clear cN hb3 HR2
  have cF := fail_is rb p c 3 s w3 HR3.out.1
  unfold thrownA at cF
  have HFB : Hid (∀ w4, AtIs w4 w3.heap.size 3 p → Below w3.heap.size w3 w4 → OutT w rb s (.bad 3 p) (thrownA w3.heap.size) w4) := fun w4 h1 h2 => ⟨_, rfl, HR3.out.2.size, h1, to_but (HR3.out.2.trans (h2.mono HR3.out.2.size))⟩
  unfold thrownA at HFB
  cases c3 with
  | false =>
    have hT := HT.out
    rw [if_pos rfl] at hT
    subst hT
    clear HT
    go_wp2_with fail
    refine cF.mono ?_
    rintro e w4 ⟨rfl, ha, hb4⟩
    have HD := HFB.out w4 ha hb4
    have HD : Hid _ := HD
    clear cF ha hb4
    go_wp2_with fail
    exact ⟨rfl, HD.out⟩
  | true =>
    cases NN with
    | none =>
      have hT := HT.out
      rw [if_neg (by simp)] at hT
      simp only at hT
      subst hT
      clear HT
      go_wp2_with fail
      refine cF.mono ?_
      rintro e w4 ⟨rfl, ha, hb4⟩
      have HD := HFB.out w4 ha hb4
      have HD : Hid _ := HD
      clear cF ha hb4
      go_wp2_with fail
      exact ⟨rfl, HD.out⟩
    | some n =>
      have hn := HNL.out n rfl
      by_cases h4 : B.size < n
      · have hT := HT.out
        rw [if_neg (by simp)] at hT
        simp only at hT
        rw [if_pos h4] at hT
        subst hT
        clear HT
        have d1 : decide ((B.size : Int) < (n : Int)) = true := decide_eq_true (by omega)
        go_wp2_with fail
        refine cF.mono ?_
        rintro e w4 ⟨rfl, ha, hb4⟩
        have HD := HFB.out w4 ha hb4
        have HD : Hid _ := HD
        clear cF ha hb4
        go_wp2_with fail
        exact ⟨rfl, HD.out⟩
      · have hT := HT.out
        rw [if_neg (by simp)] at hT
        simp only at hT
        rw [if_neg h4] at hT
        obtain ⟨P2, hP2⟩ : ∃ q, s.size - B.size + n = q := ⟨_, rfl⟩
        have q2 : (s.size : Int) - (B.size : Int) + (n : Int) = (P2 : Int) := by omega
        rw [hP2] at hT
        subst hT
        have d1 : decide ((B.size : Int) < (n : Int)) = false := decide_eq_false (by omega)
        have p0 : w3.cell? ⟨rb, 0, none⟩ = some (.string s) := rd_cell HR3.out.1 rfl
        have p1 : w3.cell? ⟨rb, 1, none⟩ = some (.int .i64 (p : Int)) := rd_cell HR3.out.1 rfl
        have g1 : w3.frozen? ⟨rb, 1, none⟩ = false := rd_free HR3.out.1 1
        have hset : RdW (w3.setCell ⟨rb, 1, none⟩ (.int .i64 (P2 : Int))) rb s P2 c := rd_set (i := 1) (.int .i64 (P2 : Int)) HR3.out.1
        have HD : Hid (RdW (w3.setCell ⟨rb, 1, none⟩ (.int .i64 (P2 : Int))) rb s P2 c ∧ But w.heap.size rb w (w3.setCell ⟨rb, 1, none⟩ (.int .i64 (P2 : Int)))) := ⟨hset, (to_but HR3.out.2).setB 1 _⟩
        have HX : Hid ((B.extract 0 n).data.toList = c2.take n) := by show _ = _; rw [Lib.extract_from_zero, HBL.out]
        clear HT hset cF HFB hP2
        go_wp2_with fail
        go_ret
        exact ⟨_, rfl, HX.out, HD.out⟩
end Go.Proofs.YtmcpohnilgbicaaGreatDoor
namespace Go.Proofs.YtmcpohnilgbicaaGreatDoor
open Go.RowKit Go.Proofs.Aid Go.Proofs.Hd

/-- Where a reader is. -/
def atOf (w : World) (rb : Nat) : Nat := match w.cell? ⟨rb, 1, none⟩ with
  | some v => (intOf v).toNat
  | none => 0
theorem RdW.at {w : World} {rb p c : Nat} {s : ByteArray} (h : RdW w rb s p c) : atOf w rb = p := by
  have p1 : w.cell? ⟨rb, 1, none⟩ = some (.int .i64 (p : Int)) := rd_cell h rfl
  unfold atOf
  rw [p1]
  rfl
theorem builder_but {T e : TypeId} {B b rb : Nat} {bs : List Value} {w w' : World} (h : Lib.IsBuilderF T e B b bs w) (hb : But w.heap.size rb w w') (hrb : rb < B) : Lib.IsBuilderF T e B b bs w' := by
  have key : ∀ p, Lib.BuilderAtF T e B b p bs w → Lib.BuilderAtF T e B b p bs w' := by
    rintro p ⟨h1, v, h2, h3, h4⟩
    refine ⟨h1, v, (hb.block b (Array.getElem?_eq_some_iff.1 h2).1 (by omega)).trans h2, ?_, h4⟩
    refine ⟨h3.1, ?_⟩
    rcases h3.2 with h5 | ⟨g, cap, cur, fz, hv, hg, hh, r⟩
    · exact Or.inl h5
    · exact Or.inr ⟨g, cap, cur, fz, hv, hg, (hb.block g (Array.getElem?_eq_some_iff.1 hh).1 (by omega)).trans hh, r⟩
  rcases h with h | h
  · exact Or.inl (key _ h)
  · exact Or.inr (key _ h)
theorem offQ_true {x : UInt8} : offQ true x = true ↔ x.toNat ≠ 34 ∧ x.toNat ≠ 92 := by
  have h : ∀ n : Fin 256, offQ true (UInt8.ofNat n.val) = true ↔ (UInt8.ofNat n.val).toNat ≠ 34 ∧ (UInt8.ofNat n.val).toNat ≠ 92 := by decide +kernel
  have := h ⟨x.toNat, x.toNat_lt⟩
  simpa using this
theorem offQ_false {x : UInt8} : offQ false x = true ↔ x.toNat = 13 ∨ x.toNat = 10 ∨ x.toNat = 0 := by
  have h : ∀ n : Fin 256, offQ false (UInt8.ofNat n.val) = true ↔ (UInt8.ofNat n.val).toNat = 13 ∨ (UInt8.ofNat n.val).toNat = 10 ∨ (UInt8.ofNat n.val).toNat = 0 := by decide +kernel
  have := h ⟨x.toNat, x.toNat_lt⟩
  simpa using this
/-- How far quoted has come. -/
def QAt (w : World) (rb : Nat) (s : ByteArray) (c : Nat) (T : Wd Tx) (wr : World) : Prop :=
  ∃ (P f : Nat) (acc : Tx), RdW wr rb s P c ∧ P + 2 ≤ s.size ∧ s.size ≤ P + f ∧ quotedW s.data.toList P c acc f = T ∧ acc.length ≤ P ∧
    Lib.IsBuilderF 71 5 w.heap.size w.heap.size (Lib.byteCells acc) wr ∧ But w.heap.size rb w wr ∧ w.heap.size + 1 ≤ wr.heap.size
set_option maxHeartbeats 4000000 in
set_option maxRecDepth 100000 in
theorem quoted_is (rb p c : Nat) (s : ByteArray) (w : World) (hr : RdW w rb s p c) (hs : s.size ≤ 1000000) (hE : Ends s.data.toList) (hp : p + 2 ≤ s.size) :
    Calls Tryz.prog 77 #[.pointer (some ⟨rb, 0, none⟩)] w fun e w' => OutT w rb s (quotedW s.data.toList p c [] s.size) e w' := by
  obtain ⟨T, hT⟩ : ∃ T, quotedW s.data.toList p c [] s.size = T := ⟨_, rfl⟩
  rw [hT]
  have hrb := hr.lt
  have b1 : Below w.heap.size w (w.alloc (.cells #[.pointer none, .slice none 0 0] 71)) := (Below.refl _ _).alloc (Nat.le_refl _) _
  have HQ : Hid (QAt w rb s c T (w.alloc (.cells #[.pointer none, .slice none 0 0] 71))) :=
    ⟨p, s.size, [], hr.kept (b1.block rb hrb), hp, by omega, hT, by simp, Lib.IsBuilderF.of (Lib.fresh_isBuilder 71 5 w), to_but b1, by simp⟩
  have HE : Hid (Ends s.data.toList) := hE
  clear hr hT b1 hE
  go_enter Tryz.func77, Tryz.ntmps77
  go_wp2_with fail
  go_loopw [] (fun wr => Hid (QAt w rb s c T wr)) (fun wr => s.size - atOf wr rb)
  case atStart => exact HQ
  case round =>
    clear HQ
    obtain ⟨P, f, acc, hr, hP, hf, hT, hacc, hB, hbut, hsz⟩ := hrel.out
    clear hrel
    match f, hf, hT with
    | 0, hf, hT => exact absurd hf (by omega)
    | f + 1, hf, hT =>
    rw [quotedW] at hT
    cases hq : tookW [34] s.data.toList P with
    | true =>
      rw [hq, if_pos rfl] at hT
      subst hT
      have cT := took_yes 34 rb P c s wr hr hs (by omega) hq
      have HB : Hid (Lib.IsBuilderF 71 5 w.heap.size w.heap.size (Lib.byteCells acc) wr ∧ But w.heap.size rb w wr) := ⟨hB, hbut⟩
      clear hr hB hbut hq
      go_wp2_with fail
      refine cT.mono ?_
      rintro e w1 ⟨rfl, hr1, hb1⟩
      have hs1 := hb1.size
      have cS := Any.Builder_String_any_f Tryz.lays169 Tryz.Builder_Extra_169 w.heap.size w.heap.size acc w1 (builder_but HB.out.1 hb1 hrb) (by omega)
      have HD : Hid (RdW w1 rb s (P + 1) c ∧ But w.heap.size rb w w1) := ⟨hr1, HB.out.2.trans (hb1.less (by omega))⟩
      obtain ⟨X, hX⟩ : ∃ X : ByteArray, ⟨acc.toArray⟩ = X := ⟨_, rfl⟩
      have HX : Hid (X.data.toList = acc) := by rw [← hX]; exact rfl
      rw [hX] at cS
      clear cT hr1 hb1 HB hX
      go_wp2_with fail
      refine cS.mono ?_
      rintro e w2 ⟨rfl, _, hb2⟩
      have HD2 : Hid (RdW w2 rb s (P + 1) c ∧ But w.heap.size rb w w2) := ⟨HD.out.1.kept (hb2.block rb hrb), HD.out.2.trans (to_but hb2)⟩
      clear cS hb2
      go_wp2_with fail
      go_ret
      exact ⟨X, rfl, HX.out, HD2.out⟩
    | false =>
      rw [hq, if_neg (by simp)] at hT
      have cT := took_no 34 rb P c s wr hr (by omega) hq
      have HB : Hid (RdW wr rb s P c ∧ Lib.IsBuilderF 71 5 w.heap.size w.heap.size (Lib.byteCells acc) wr ∧ But w.heap.size rb w wr) := ⟨hr, hB, hbut⟩
      have hat := hr.at
      have HAT : Hid (atOf wr rb = P) := hat
      clear hr hB hbut hq hat
      go_wp2_with fail
      refine cT.mono ?_
      rintro e w1 ⟨rfl, hb1⟩
      have hs1 := hb1.size
      have HB1 : Hid (RdW w1 rb s P c ∧ Lib.IsBuilderF 71 5 w.heap.size w.heap.size (Lib.byteCells acc) w1 ∧ But w.heap.size rb w w1) := ⟨HB.out.1.kept (hb1.block rb (by omega)), isBuilderW_below HB.out.2.1 hb1, HB.out.2.2.trans (to_but (hb1.mono (by omega)))⟩
      clear cT HB hb1
      cases hq2 : tookW [92] s.data.toList P with
      | true =>
        rw [hq2, if_pos rfl] at hT
        have hP1 := HE.out.took hq2 (by decide) (by decide)
        rw [wsize] at hP1
        have cU := took_yes 92 rb P c s w1 HB1.out.1 hs (by omega) hq2
        obtain ⟨P1, hPP⟩ : ∃ q, P + 1 = q := ⟨_, rfl⟩
        rw [show P + 2 = P1 + 1 by omega, hPP] at hT
        rw [hPP] at cU hP1
        have hlt : P1 < s.size := by omega
        have hck : s.data.toList.getD P1 0 = s[P1]'hlt := by
          rw [List.getD_eq_getElem?_getD, List.getElem?_eq_getElem (by rw [wsize]; exact hlt)]; rfl
        rw [hck] at hT
        generalize hc : s[P1] = x at hT
        have h256 := x.toNat_lt
        have HT : Hid ((if offQ true x = true then Wd.bad 3 P1 else quotedW s.data.toList (P1 + 1) c (acc ++ [x]) f) = T) := hT
        clear hT hq2 hck
        go_wp2_with fail
        refine cU.mono ?_
        rintro e w2 ⟨rfl, hr2, hb2⟩
        have hs2 := hb2.size
        have HB2 : Hid (RdW w2 rb s P1 c ∧ Lib.IsBuilderF 71 5 w.heap.size w.heap.size (Lib.byteCells acc) w2 ∧ But w.heap.size rb w w2) := ⟨hr2, builder_but HB1.out.2.1 hb2 hrb, HB1.out.2.2.trans (hb2.less (by omega))⟩
        have p0 : w2.cell? ⟨rb, 0, none⟩ = some (.string s) := rd_cell HB2.out.1 rfl
        have p1 : w2.cell? ⟨rb, 1, none⟩ = some (.int .i64 (P1 : Int)) := rd_cell HB2.out.1 rfl
        clear cU HB1 hb2 hr2
        go_wp2_with fail
        have HB3 : Hid (RdW w2.drew rb s P1 c ∧ Lib.IsBuilderF 71 5 w.heap.size w.heap.size (Lib.byteCells acc) w2.drew ∧ But w.heap.size rb w w2.drew) := ⟨HB2.out.1, isBuilderW_below HB2.out.2.1 (Below.refl _ _).drew, HB2.out.2.2.trans (to_but (Below.refl _ _).drew)⟩
        have hs3 : w.heap.size + 1 ≤ w2.drew.heap.size := by show _ ≤ w2.heap.size; omega
        clear HB2
        cases hoff : offQ true x with
        | true =>
          have hT := HT.out
          rw [hoff, if_pos rfl] at hT
          subst hT
          clear HT
          have h3 := offQ_true.1 hoff
          have e1 : ((x.toNat : Int) != 34) = true := by simp; omega
          have e2 : ((x.toNat : Int) != 92) = true := by simp; omega
          clear h3
          have cF := fail_is rb P1 c 3 s w2.drew HB3.out.1
          unfold thrownA at cF
          go_region
          all_goals
            go_wp2_with fail
            refine cF.mono ?_
            rintro e w4 ⟨rfl, ha, hb4⟩
            have HD : Hid (AtIs w4 w2.drew.heap.size 3 P1 ∧ But w.heap.size rb w w4) := ⟨ha, HB3.out.2.2.trans (to_but (hb4.mono (by omega)))⟩
            clear cF ha hb4
            go_wp2_with fail
            exact ⟨rfl, _, rfl, by omega, HD.out.1, HD.out.2⟩
        | false =>
          have hT := HT.out
          rw [hoff, if_neg (by simp)] at hT
          have HT2 : Hid (quotedW s.data.toList (P1 + 1) c (acc ++ [x]) f = T) := hT
          clear HT hT
          have h3 : x.toNat = 34 ∨ x.toNat = 92 := by
            by_cases h : x.toNat ≠ 34 ∧ x.toNat ≠ 92
            · rw [offQ_true.2 h] at hoff; cases hoff
            · omega
          have HP2 : P1 + 1 + 2 ≤ s.size := by
            have := HE.out.ahead (p := P1) (x := x) (by rw [← hc, List.getElem?_eq_getElem (by rw [wsize]; exact hlt)]; rfl) (fun e => by rw [e] at h3; revert h3; decide) (fun e => by rw [e] at h3; revert h3; decide)
            rw [wsize] at this
            omega
          have e4 : ((x.toNat : Int) == 13) = false := by simp; omega
          have e5 : ((x.toNat : Int) == 10) = false := by simp; omega
          have e6 : ((x.toNat : Int) == 0) = false := by simp; omega
          clear hoff
          rcases h3 with h3 | h3
          · have e1 : ((x.toNat : Int) != 34) = false := by simp; omega
            clear h3
            have cW := wbyte_is w.heap.size w.heap.size acc x w2.drew HB3.out.2.1 (by omega) (by omega)
            go_region
            all_goals
              go_wp2_with fail
              refine cW.mono ?_
              rintro e w4 ⟨rfl, hB4, hb4, _⟩
              have hr4 : RdW w4 rb s P1 c := HB3.out.1.kept (hb4.block rb hrb)
              have p4 : w4.cell? ⟨rb, 1, none⟩ = some (.int .i64 ((P1 : Int))) := rd_cell hr4 rfl
              have f4 : w4.frozen? ⟨rb, 1, none⟩ = false := rd_free hr4 1
              have hset : RdW (w4.setCell ⟨rb, 1, none⟩ (.int .i64 ((P1 : Int) + 1))) rb s (P1 + 1) c := by
                have := rd_set (i := 1) (.int .i64 ((P1 : Int) + 1)) hr4
                unfold RdW
                rw [this]
                simp
              have hb4s := hb4.size
              have HN : Hid (QAt w rb s c T (w4.setCell ⟨rb, 1, none⟩ (.int .i64 ((P1 : Int) + 1)))) := ⟨P1 + 1, f, acc ++ [x], hset, HP2, by omega, HT2.out, by simp; omega, builder_but hB4 ((to_but (Below.refl _ _)).setB 1 _) hrb, (HB3.out.2.2.trans (to_but hb4)).setB 1 _, by simp; omega⟩
              have HM : Hid (atOf (w4.setCell ⟨rb, 1, none⟩ (.int .i64 ((P1 : Int) + 1))) rb = P1 + 1) := hset.at
              clear cW hB4 hb4 hr4 hset HT2 HB3
              go_wp2_with fail
              go_roundw
              case rel => exact HN
              case measure => rw [HM.out, HAT.out]; omega
          · have e1 : ((x.toNat : Int) != 34) = true := by simp; omega
            have e2 : ((x.toNat : Int) != 92) = false := by simp; omega
            clear h3
            have cW := wbyte_is w.heap.size w.heap.size acc x w2.drew HB3.out.2.1 (by omega) (by omega)
            go_region
            all_goals
              go_wp2_with fail
              refine cW.mono ?_
              rintro e w4 ⟨rfl, hB4, hb4, _⟩
              have hr4 : RdW w4 rb s P1 c := HB3.out.1.kept (hb4.block rb hrb)
              have p4 : w4.cell? ⟨rb, 1, none⟩ = some (.int .i64 ((P1 : Int))) := rd_cell hr4 rfl
              have f4 : w4.frozen? ⟨rb, 1, none⟩ = false := rd_free hr4 1
              have hset : RdW (w4.setCell ⟨rb, 1, none⟩ (.int .i64 ((P1 : Int) + 1))) rb s (P1 + 1) c := by
                have := rd_set (i := 1) (.int .i64 ((P1 : Int) + 1)) hr4
                unfold RdW
                rw [this]
                simp
              have hb4s := hb4.size
              have HN : Hid (QAt w rb s c T (w4.setCell ⟨rb, 1, none⟩ (.int .i64 ((P1 : Int) + 1)))) := ⟨P1 + 1, f, acc ++ [x], hset, HP2, by omega, HT2.out, by simp; omega, builder_but hB4 ((to_but (Below.refl _ _)).setB 1 _) hrb, (HB3.out.2.2.trans (to_but hb4)).setB 1 _, by simp; omega⟩
              have HM : Hid (atOf (w4.setCell ⟨rb, 1, none⟩ (.int .i64 ((P1 : Int) + 1))) rb = P1 + 1) := hset.at
              clear cW hB4 hb4 hr4 hset HT2 HB3
              go_wp2_with fail
              go_roundw
              case rel => exact HN
              case measure => rw [HM.out, HAT.out]; omega
      | false =>
        rw [hq2, if_neg (by simp)] at hT
        have cU := took_no 92 rb P c s w1 HB1.out.1 (by omega) hq2
        have hlt : P < s.size := by omega
        have hck : s.data.toList.getD P 0 = s[P]'hlt := by
          rw [List.getD_eq_getElem?_getD, List.getElem?_eq_getElem (by rw [wsize]; exact hlt)]; rfl
        rw [hck] at hT
        generalize hc : s[P] = x at hT
        have h256 := x.toNat_lt
        have HT : Hid ((if offQ false x = true then Wd.bad 3 P else quotedW s.data.toList (P + 1) c (acc ++ [x]) f) = T) := hT
        clear hT hq2 hck
        go_wp2_with fail
        refine cU.mono ?_
        rintro e w2 ⟨rfl, hb2⟩
        have hs2 := hb2.size
        have HB2 : Hid (RdW w2 rb s P c ∧ Lib.IsBuilderF 71 5 w.heap.size w.heap.size (Lib.byteCells acc) w2 ∧ But w.heap.size rb w w2) := ⟨HB1.out.1.kept (hb2.block rb (by omega)), isBuilderW_below HB1.out.2.1 hb2, HB1.out.2.2.trans (to_but (hb2.mono (by omega)))⟩
        have p0 : w2.cell? ⟨rb, 0, none⟩ = some (.string s) := rd_cell HB2.out.1 rfl
        have p1 : w2.cell? ⟨rb, 1, none⟩ = some (.int .i64 (P : Int)) := rd_cell HB2.out.1 rfl
        clear cU HB1 hb2
        go_wp2_with fail
        have HB3 : Hid (RdW w2.drew rb s P c ∧ Lib.IsBuilderF 71 5 w.heap.size w.heap.size (Lib.byteCells acc) w2.drew ∧ But w.heap.size rb w w2.drew) := ⟨HB2.out.1, isBuilderW_below HB2.out.2.1 (Below.refl _ _).drew, HB2.out.2.2.trans (to_but (Below.refl _ _).drew)⟩
        have hs3 : w.heap.size + 1 ≤ w2.drew.heap.size := by show _ ≤ w2.heap.size; omega
        clear HB2
        cases hoff : offQ false x with
        | true =>
          have hT := HT.out
          rw [hoff, if_pos rfl] at hT
          subst hT
          clear HT
          rcases offQ_false.1 hoff with h3 | h3 | h3
          · have e1 : ((x.toNat : Int) == 13) = true := by simp; omega
            clear h3
            have cF := fail_is rb P c 3 s w2.drew HB3.out.1
            unfold thrownA at cF
            go_region
            all_goals
              go_wp2_with fail
              refine cF.mono ?_
              rintro e w4 ⟨rfl, ha, hb4⟩
              have HD : Hid (AtIs w4 w2.drew.heap.size 3 P ∧ But w.heap.size rb w w4) := ⟨ha, HB3.out.2.2.trans (to_but (hb4.mono (by omega)))⟩
              clear cF ha hb4
              go_wp2_with fail
              exact ⟨rfl, _, rfl, by omega, HD.out.1, HD.out.2⟩
          · have e1 : ((x.toNat : Int) == 13) = false := by simp; omega
            have e2 : ((x.toNat : Int) == 10) = true := by simp; omega
            clear h3
            have cF := fail_is rb P c 3 s w2.drew HB3.out.1
            unfold thrownA at cF
            go_region
            all_goals
              go_wp2_with fail
              refine cF.mono ?_
              rintro e w4 ⟨rfl, ha, hb4⟩
              have HD : Hid (AtIs w4 w2.drew.heap.size 3 P ∧ But w.heap.size rb w w4) := ⟨ha, HB3.out.2.2.trans (to_but (hb4.mono (by omega)))⟩
              clear cF ha hb4
              go_wp2_with fail
              exact ⟨rfl, _, rfl, by omega, HD.out.1, HD.out.2⟩
          · have e1 : ((x.toNat : Int) == 13) = false := by simp; omega
            have e2 : ((x.toNat : Int) == 10) = false := by simp; omega
            have e3 : ((x.toNat : Int) == 0) = true := by simp; omega
            clear h3
            have cF := fail_is rb P c 3 s w2.drew HB3.out.1
            unfold thrownA at cF
            go_region
            all_goals
              go_wp2_with fail
              refine cF.mono ?_
              rintro e w4 ⟨rfl, ha, hb4⟩
              have HD : Hid (AtIs w4 w2.drew.heap.size 3 P ∧ But w.heap.size rb w w4) := ⟨ha, HB3.out.2.2.trans (to_but (hb4.mono (by omega)))⟩
              clear cF ha hb4
              go_wp2_with fail
              exact ⟨rfl, _, rfl, by omega, HD.out.1, HD.out.2⟩
        | false =>
          have hT := HT.out
          rw [hoff, if_neg (by simp)] at hT
          have HT2 : Hid (quotedW s.data.toList (P + 1) c (acc ++ [x]) f = T) := hT
          clear HT hT
          have h3 : ¬ (x.toNat = 13 ∨ x.toNat = 10 ∨ x.toNat = 0) := fun h => by rw [offQ_false.2 h] at hoff; cases hoff
          have e1 : ((x.toNat : Int) == 13) = false := by simp; omega
          have e2 : ((x.toNat : Int) == 10) = false := by simp; omega
          have e3 : ((x.toNat : Int) == 0) = false := by simp; omega
          have HP2 : P + 1 + 2 ≤ s.size := by
            have := HE.out.ahead (p := P) (x := x) (by rw [← hc, List.getElem?_eq_getElem (by rw [wsize]; exact hlt)]; rfl) (fun e => h3 (Or.inl (by rw [e]; rfl))) (fun e => h3 (Or.inr (Or.inl (by rw [e]; rfl))))
            rw [wsize] at this
            omega
          clear hoff h3
          have cW := wbyte_is w.heap.size w.heap.size acc x w2.drew HB3.out.2.1 (by omega) (by omega)
          go_region
          all_goals
            go_wp2_with fail
            refine cW.mono ?_
            rintro e w4 ⟨rfl, hB4, hb4, _⟩
            have hr4 : RdW w4 rb s P c := HB3.out.1.kept (hb4.block rb hrb)
            have p4 : w4.cell? ⟨rb, 1, none⟩ = some (.int .i64 ((P : Int))) := rd_cell hr4 rfl
            have f4 : w4.frozen? ⟨rb, 1, none⟩ = false := rd_free hr4 1
            have hset : RdW (w4.setCell ⟨rb, 1, none⟩ (.int .i64 ((P : Int) + 1))) rb s (P + 1) c := by
              have := rd_set (i := 1) (.int .i64 ((P : Int) + 1)) hr4
              unfold RdW
              rw [this]
              simp
            have hb4s := hb4.size
            have HN : Hid (QAt w rb s c T (w4.setCell ⟨rb, 1, none⟩ (.int .i64 ((P : Int) + 1)))) := ⟨P + 1, f, acc ++ [x], hset, HP2, by omega, HT2.out, by simp; omega, builder_but hB4 ((to_but (Below.refl _ _)).setB 1 _) hrb, (HB3.out.2.2.trans (to_but hb4)).setB 1 _, by simp; omega⟩
            have HM : Hid (atOf (w4.setCell ⟨rb, 1, none⟩ (.int .i64 ((P : Int) + 1))) rb = P + 1) := hset.at
            clear cW hB4 hb4 hr4 hset HT2 HB3
            go_wp2_with fail
            go_roundw
            case rel => exact HN
            case measure => rw [HM.out, HAT.out]; omega
end Go.Proofs.YtmcpohnilgbicaaGreatDoor
