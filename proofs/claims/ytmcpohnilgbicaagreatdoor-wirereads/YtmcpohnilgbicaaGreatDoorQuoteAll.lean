/-
  What wire.bare, wire.inQuotes and wire.Quote do.
  What wire.Quote does.
  What letterboxref.Quote does.
-/
import Derived.Test.YtmcpohnilgbicaaGreatDoorWireQSpec
import Derived.Test.YtmcpohnilgbicaaGreatDoorWireRdAll
import Derived.Test.YtmcpohnilgbicaaGreatDoorReplShelf
import Derived.Test.YtmcpohnilgbicaaGreatDoorRwRdAll
namespace Go.Proofs.YtmcpohnilgbicaaGreatDoor
open Go.RowKit Go.Proofs.Aid Go.Proofs.Hd

theorem cat_text (a b : ByteArray) : (a ++ b).data.toList = a.data.toList ++ b.data.toList := by simp
theorem cat_sz (a b : ByteArray) : (a ++ b).size = a.size + b.size := by simp
theorem index_92 (s : Tx) : decide (Lib.indexByte s 92 < 0) = !s.contains 92 := by
  have h := Lib.contains_iff_indexByte s 92
  rw [h]
  by_cases h1 : 0 ≤ Lib.indexByte s 92
  · rw [decide_eq_true h1, decide_eq_false (by omega)]; rfl
  · rw [decide_eq_false h1, decide_eq_true (by omega)]; rfl
set_option maxHeartbeats 1000000 in
theorem wbare_is (s : ByteArray) (w : World) (hs : s.size ≤ 1000000) :
    Calls Tryz.prog 38 #[.string s] w fun e w' => e = .returned (.bool (bareW s.data.toList)) ∧ w' = w := by
  have cB := fun W => wordBytes_is s W hs
  have cI := fun W => Tryz.strings_IndexByte s 92 W
  rw [show ((92 : Int).toNat.toUInt8) = 92 from rfl] at cI
  have hi := index_92 s.data.toList
  obtain ⟨B, hB⟩ : ∃ b, bareW s.data.toList = b := ⟨_, rfl⟩
  rw [hB]
  unfold bareW at hB
  rw [← hi, wsize] at hB
  obtain ⟨L, hL⟩ : ∃ L, (wordT s.data.toList).length = L := ⟨_, rfl⟩
  obtain ⟨Z, hZ⟩ : ∃ Z, Lib.indexByte s.data.toList 92 = Z := ⟨_, rfl⟩
  rw [hL] at cB hB
  rw [hZ] at cI hB
  clear hi hL hZ
  by_cases h0 : s.data.toList = []
  · have f1 : s.toList = [] := by rw [Lib.toList_data]; exact h0
    have f2 : s.toList.isEmpty = true := by rw [f1]; rfl
    rw [h0] at hB
    have hB : false = B := by simpa using hB
    subst hB
    clear h0 cB cI
    go_enter Tryz.func38, Tryz.ntmps38
    go_wp2_with fail
    go_ret
    exact ⟨rfl, rfl⟩
  · have f1 : ¬ s.toList = [] := by rw [Lib.toList_data]; exact h0
    have f2 : s.toList.isEmpty = false := by rw [Lib.toList_data]; cases hh : s.data.toList with | nil => exact absurd hh h0 | cons _ _ => rfl
    have f3 : s.data.toList.isEmpty = false := by cases hh : s.data.toList with | nil => exact absurd hh h0 | cons _ _ => rfl
    rw [f3] at hB
    clear h0 f3
    by_cases hq : L = s.size
    · have e1 : ((L : Int) == (s.size : Int)) = true := by simp; omega
      rw [decide_eq_true hq] at hB
      have hB : decide (Z < 0) = B := by simpa using hB
      clear hq
      go_enter Tryz.func38, Tryz.ntmps38
      go_wp2_with fail
      refine (cB _).mono ?_
      rintro e w1 ⟨rfl, hw⟩
      obtain rfl : w = w1 := hw.symm
      go_wp2_with fail
      refine (cI _).mono ?_
      rintro e w1 ⟨rfl, hw⟩
      obtain rfl : w = w1 := hw.symm
      go_wp2_with fail
      go_ret
      exact ⟨by rw [← hB]; rfl, rfl⟩
    · have e1 : ((L : Int) == (s.size : Int)) = false := by simp; omega
      rw [decide_eq_false hq] at hB
      have hB : false = B := by simpa using hB
      subst hB
      clear hq cI
      go_enter Tryz.func38, Tryz.ntmps38
      go_wp2_with fail
      refine (cB _).mono ?_
      rintro e w1 ⟨rfl, hw⟩
      obtain rfl : w = w1 := hw.symm
      go_wp2_with fail
      go_ret
      exact ⟨rfl, rfl⟩
theorem countB_le (s : ByteArray) (x : UInt8) : Lib.countB s ⟨#[x]⟩ ≤ s.size + 1 := by
  show Lib.count s.data.toList [x] ≤ _
  have := Lib.count_le s.data.toList [x]
  rw [wsize] at this
  exact this
theorem repB_len (x a b : UInt8) (s : Tx) : (repB x [a, b] s).length ≤ 2 * s.length := by
  induction s with
  | nil => simp [repB]
  | cons c r ih =>
    rw [show repB x [a, b] (c :: r) = (if c = x then [a, b] else [c]) ++ repB x [a, b] r by simp [repB], List.length_append, List.length_cons]
    split <;> simp <;> omega
set_option maxHeartbeats 1000000 in
theorem inQuotes_is (s : ByteArray) (m : Int) (w : World) (hs : s.size ≤ 100000) (hm : w.cell? ⟨1, 0, none⟩ = some (.int .i64 m)) :
    Calls Tryz.prog 40 #[.string s] w fun e w' => (∃ t : ByteArray, e = .returned (.string t) ∧ t.data.toList = 34 :: (esc s.data.toList ++ [34])) ∧ Below w.heap.size w w' := by
  have h1 := countB_le s 92
  have c1 := Tryz.strings_ReplaceAll s ⟨#[92]⟩ ⟨#[92, 92]⟩ m w (by omega) hm (by decide) (by show s.size + Lib.countB s ⟨#[92]⟩ * 2 ≤ _; omega)
  rw [show (⟨#[92]⟩ : ByteArray).data.toList = [92] from rfl, show (⟨#[92, 92]⟩ : ByteArray).data.toList = [92, 92] from rfl, replaceAll_is 92 [92, 92] _ (by decide)] at c1
  obtain ⟨A, hA⟩ : ∃ A : ByteArray, ⟨(repB 92 [92, 92] s.data.toList).toArray⟩ = A := ⟨_, rfl⟩
  have hAl : A.data.toList = repB 92 [92, 92] s.data.toList := by rw [← hA]
  have hAs : A.size ≤ 200000 := by rw [← wsize, hAl]; have := repB_len 92 92 92 s.data.toList; rw [wsize] at this; omega
  rw [hA] at c1
  have h2 := countB_le A 34
  have HM : Hid (∀ W, Below w.heap.size w W → W.cell? ⟨1, 0, none⟩ = some (.int .i64 m)) := fun W h => (h.cell (World.block_lt_of_cell? _ _ hm)).trans hm
  have c2 : ∀ W, Below w.heap.size w W → Calls Tryz.prog 64 #[.string A, .string ⟨#[34]⟩, .string ⟨#[92, 34]⟩] W fun e w' => e = .returned (.string ⟨(esc s.data.toList).toArray⟩) ∧ Below W.heap.size W w' := fun W hW => by
    have := Tryz.strings_ReplaceAll A ⟨#[34]⟩ ⟨#[92, 34]⟩ m W (by omega) (HM.out W hW) (by decide) (by show A.size + Lib.countB A ⟨#[34]⟩ * 2 ≤ _; omega)
    rw [show (⟨#[34]⟩ : ByteArray).data.toList = [34] from rfl, show (⟨#[92, 34]⟩ : ByteArray).data.toList = [92, 34] from rfl, replaceAll_is 34 [92, 34] _ (by decide), hAl, esc_is] at this
    exact this
  obtain ⟨E, hE⟩ : ∃ A : ByteArray, ⟨(esc s.data.toList).toArray⟩ = A := ⟨_, rfl⟩
  have hEl : E.data.toList = esc s.data.toList := by rw [← hE]
  have hEs : E.size ≤ 200000 := by rw [← wsize, hEl]; have := esc_len s.data.toList; rw [wsize] at this; omega
  have HE : Hid (E.data.toList = esc s.data.toList) := hEl
  rw [hE] at c2
  have hov : (9223372036854775807 < 1 + E.size) = False := by simp; omega
  have hov2 : (9223372036854775807 < 1 + E.size + 1) = False := by simp; omega
  clear hA hAl hE hEl h1 h2 hm
  go_enter Tryz.func40, Tryz.ntmps40
  go_wp2_with fail
  refine c1.mono ?_
  rintro e w1 ⟨rfl, hb1⟩
  have HB1 : Hid (Below w.heap.size w w1) := hb1
  clear c1 hb1
  go_wp2_with fail
  refine (c2 w1 HB1.out).mono ?_
  rintro e w2 ⟨rfl, hb2⟩
  have HB2 : Hid (Below w.heap.size w w2) := HB1.out.trans (hb2.mono HB1.out.size)
  clear c2 hb2
  go_wp2_with fail
  go_ret
  exact ⟨⟨_, rfl, by rw [cat_text, cat_text, HE.out]; rfl⟩, HB2.out⟩
end Go.Proofs.YtmcpohnilgbicaaGreatDoor
namespace Go.Proofs.YtmcpohnilgbicaaGreatDoor
open Go.RowKit Go.Proofs.Aid Go.Proofs.Hd Go.Sort

theorem decDigits_len (n : Nat) (h : n ≤ 10000000) : (Lib.decDigits n).length ≤ 20 := by
  have key : ∀ f n, n < 10 ^ f → (Lib.decDigits n).length ≤ f + 1 := by
    intro f
    induction f with
    | zero => intro n hn; rw [Lib.decDigits, dif_pos (by omega)]; simp
    | succ f ih =>
      intro n hn
      rw [Lib.decDigits]
      split
      · simp
      · rw [List.length_append, List.length_singleton]
        have := ih (n / 10) (by rw [Nat.pow_succ] at hn; omega)
        omega
  have := key 8 n (by omega)
  omega
theorem quote_len (s : Tx) (hs : s.length ≤ 100000) : (quoteW s).length ≤ 2 * s.length + 30 := by
  unfold quoteW
  split
  · omega
  · split
    · have := esc_len s
      simp only [List.length_cons, List.length_append, List.length_nil]
      omega
    · have h1 : (Lib.itoa (s.length : Int)).length ≤ 20 := by
        rw [show Lib.itoa (s.length : Int) = Lib.decDigits s.length by rw [Lib.itoa, if_neg (by omega), Int.toNat_natCast]]
        exact decDigits_len _ (by omega)
      simp only [List.length_cons, List.length_append, List.length_nil]
      omega
set_option maxHeartbeats 2000000 in
set_option maxRecDepth 100000 in
theorem quote_is (s : ByteArray) (m : Int) (w : World) (hs : s.size ≤ 100000) (hm : w.cell? ⟨1, 0, none⟩ = some (.int .i64 m)) (hg : NumAt w) :
    Calls Tryz.prog 13 #[.string s] w fun e w' => (∃ t : ByteArray, e = .returned (.string t) ∧ t.data.toList = quoteW s.data.toList) ∧ Below w.heap.size w w' := by
  have cB := wbare_is s w (by omega)
  obtain ⟨T, hT⟩ : ∃ T, quoteW s.data.toList = T := ⟨_, rfl⟩
  rw [hT]
  unfold quoteW at hT
  have HG : Hid (NumAt w) := hg
  have cQ := inQuotes_is s m w hs hm
  clear hg hm
  cases hb : bareW s.data.toList with
  | true =>
    rw [hb, if_pos rfl] at hT
    rw [hb] at cB
    have HT : Hid (s.data.toList = T) := hT
    clear hT hb cQ
    go_enter Tryz.func13, Tryz.ntmps13
    go_wp2_with fail
    refine cB.mono ?_
    rintro e w1 ⟨rfl, hw⟩
    obtain rfl : w = w1 := hw.symm
    go_wp2_with fail
    go_ret
    exact ⟨⟨s, rfl, HT.out⟩, Below.refl _ _⟩
  | false =>
    rw [hb, if_neg (by simp)] at hT
    rw [hb] at cB
    have HT : Hid ((if s.data.toList.all plainB = true then 34 :: (esc s.data.toList ++ [34]) else 123 :: (Lib.itoa (s.data.toList.length : Int) ++ [125, 13, 10] ++ s.data.toList)) = T) := hT
    have HL : Hid (s.data.toList.length = s.size) := wsize s
    clear hT hb
    go_enter Tryz.func13, Tryz.ntmps13
    go_wp2_with fail
    refine cB.mono ?_
    rintro e w1 ⟨rfl, hw⟩
    obtain rfl : w = w1 := hw.symm
    clear cB
    go_wp2_with fail
    go_loopw [9] (fun i wr => ∃ k : Nat, i = .int .i64 (k : Int) ∧ k ≤ s.size ∧ Hid (∀ j b, j < k → s.data.toList[j]? = some b → plainB b = true) ∧ wr = w) (fun i _ => s.size - (intOf i).toNat)
    case atStart => exact ⟨0, rfl, by omega, fun j c hj => absurd hj (by omega), rfl⟩
    case round =>
      obtain ⟨k, rfl, hk, HC, hw⟩ := hrel
      obtain rfl : w = wr := hw.symm
      by_cases hlt : k < s.size
      · have hck : s.data.toList[k]? = some (s[k]'hlt) := by rw [List.getElem?_eq_getElem (by rw [HL.out]; exact hlt)]; rfl
        generalize hc : s[k] = c at hck
        have HK : Hid (s.data.toList[k]? = some c) := hck
        have h256 := c.toNat_lt
        clear hck
        by_cases hq : plainB c = true
        · have hw' : 32 ≤ c.toNat ∧ c.toNat ≤ 126 := by
            unfold plainB at hq
            simpa using hq
          have q1 : decide ((c.toNat : Int) < 32) = false := decide_eq_false (by omega)
          have q2 : decide ((126 : Int) < (c.toNat : Int)) = false := decide_eq_false (by omega)
          have HQ : Hid (plainB c = true) := hq
          clear hq hw' cQ
          go_wp2_with fail
          go_roundw
          case rel =>
            refine ⟨k + 1, by go_num, by omega, fun j d hj hd => ?_, trivial⟩
            by_cases hjk : j = k
            · subst hjk
              rw [HK.out] at hd
              cases hd
              exact HQ.out
            · exact HC.out j d (by omega) hd
          case measure => simp [intOf]; omega
        · have hT := HT.out
          rw [if_neg (fun h => hq (List.all_eq_true.1 h c (List.mem_of_getElem? HK.out))), HL.out] at hT
          have HT2 : Hid (123 :: (Lib.itoa (s.size : Int) ++ [125, 13, 10] ++ s.data.toList) = T) := hT
          have hw' : c.toNat < 32 ∨ 126 < c.toNat := by
            unfold plainB at hq
            simp at hq
            omega
          have cI := Tryz.strconv_Itoa (s.size : Int) (by omega) (by omega) w (HG.out w (Below.refl _ _)).2.2
          have hdl : (Lib.itoa (s.size : Int)).length ≤ 20 := by
            rw [show Lib.itoa (s.size : Int) = Lib.decDigits s.size by rw [Lib.itoa, if_neg (by omega), Int.toNat_natCast]]
            exact decDigits_len _ (by omega)
          obtain ⟨D, hD⟩ : ∃ D : ByteArray, ⟨(Lib.itoa (s.size : Int)).toArray⟩ = D := ⟨_, rfl⟩
          have hDl : D.data.toList = Lib.itoa (s.size : Int) := by rw [← hD]
          have hDs : D.size ≤ 20 := by rw [← wsize, hDl]; exact hdl
          have HD : Hid (D.data.toList = Lib.itoa (s.size : Int)) := hDl
          rw [hD] at cI
          have hov : (9223372036854775807 < 1 + D.size) = False := by simp; omega
          have hov2 : (9223372036854775807 < 1 + D.size + 1) = False := by simp; omega
          have hov3 : (9223372036854775807 < 1 + D.size + 1 + 2) = False := by simp; omega
          have hov4 : (9223372036854775807 < 1 + D.size + 1 + 2 + s.size) = False := by simp; omega
          have hF : ((⟨#[123]⟩ : ByteArray) ++ D ++ ⟨#[125]⟩ ++ ⟨#[13, 10]⟩ ++ s).data.toList = T := by
            rw [cat_text, cat_text, cat_text, cat_text, HD.out, ← HT2.out]
            simp
          have HF : Hid (((⟨#[123]⟩ : ByteArray) ++ D ++ ⟨#[125]⟩ ++ ⟨#[13, 10]⟩ ++ s).data.toList = T) := hF
          clear hT hq hD hDl cQ HT HT2 hF
          by_cases h32 : c.toNat < 32
          · have q1 : decide ((c.toNat : Int) < 32) = true := decide_eq_true (by omega)
            go_wp2_with fail
            refine cI.mono ?_
            rintro e w3 ⟨rfl, q, os, rfl⟩
            have HB3 : Hid (Below w.heap.size w (grow (w.drewN q) os)) := num_grow (below_drewN (Below.refl _ _) q) (Nat.le_refl _) os
            generalize grow (w.drewN q) os = W3 at HB3 ⊢
            clear cI
            go_wp2_with fail
            go_ret
            exact ⟨⟨_, rfl, HF.out⟩, HB3.out⟩
          · have q1 : decide ((c.toNat : Int) < 32) = false := decide_eq_false (by omega)
            have q2 : decide ((126 : Int) < (c.toNat : Int)) = true := decide_eq_true (by omega)
            go_wp2_with fail
            refine cI.mono ?_
            rintro e w3 ⟨rfl, q, os, rfl⟩
            have HB3 : Hid (Below w.heap.size w (grow (w.drewN q) os)) := num_grow (below_drewN (Below.refl _ _) q) (Nat.le_refl _) os
            generalize grow (w.drewN q) os = W3 at HB3 ⊢
            clear cI
            go_wp2_with fail
            go_ret
            exact ⟨⟨_, rfl, HF.out⟩, HB3.out⟩
      · obtain rfl : k = s.size := by omega
        have hall : s.data.toList.all plainB = true := by
          rw [List.all_eq_true]
          intro c hc
          obtain ⟨j, hj, hjc⟩ := List.mem_iff_getElem.1 hc
          exact HC.out j c (by rw [← HL.out]; exact hj) (by rw [List.getElem?_eq_getElem hj, hjc])
        have hT := HT.out
        rw [hall, if_pos rfl] at hT
        have HT2 : Hid (34 :: (esc s.data.toList ++ [34]) = T) := hT
        clear hT hall HT HC
        go_wp2_with fail
        refine cQ.mono ?_
        rintro e w3 ⟨⟨t, rfl, ht⟩, hb3⟩
        have HD : Hid (t.data.toList = T ∧ Below w.heap.size w w3) := ⟨by rw [ht]; exact HT2.out, hb3⟩
        clear cQ ht hb3
        go_wp2_with fail
        go_ret
        exact ⟨⟨t, rfl, HD.out.1⟩, HD.out.2⟩
end Go.Proofs.YtmcpohnilgbicaaGreatDoor
namespace Go.Proofs.YtmcpohnilgbicaaGreatDoor
open Go.RowKit Go.Proofs.Aid Go.Proofs.Hd Go.Sort Go.Proofs.Sq

def okB (c : UInt8) : Bool := wordy c && !(c == 92)
theorem while_all : ∀ {l : Tx}, (∀ c ∈ l, wordy c = true) → l.takeWhile wordy = l
  | [], _ => rfl
  | c :: r, h => by rw [List.takeWhile_cons_of_pos (h c List.mem_cons_self), while_all fun d hd => h d (List.mem_cons_of_mem _ hd)]
theorem ok_all : ∀ s : Tx, s.all okB = (s.all wordy && !s.contains 92)
  | [] => rfl
  | c :: r => by
    rw [List.all_cons, List.all_cons, List.contains_cons, ok_all r, show ((92 : UInt8) == c) = (c == 92) from BEq.comm]
    unfold okB
    cases wordy c <;> cases (c == 92) <;> cases r.all wordy <;> cases r.contains 92 <;> rfl
theorem bare_all (s : Tx) : bareW s = (!s.isEmpty && s.all okB) := by
  have hw : decide ((wordT s).length = s.length) = s.all wordy := by
    by_cases h : (wordT s).length = s.length
    · rw [decide_eq_true h, eq_comm, List.all_eq_true]
      exact word_all h
    · rw [decide_eq_false h, eq_comm, ← Bool.not_eq_true, List.all_eq_true]
      intro h1
      exact h (by unfold wordT; rw [while_all h1])
  unfold bareW
  rw [hw, ok_all]
  cases s.isEmpty <;> cases s.all wordy <;> cases s.contains 92 <;> rfl
theorem okB_plain {c : UInt8} (h : okB c = true) : plainB c = true := by
  unfold okB at h
  have h1 := (Bool.and_eq_true _ _ ▸ h).1
  rw [wordy_iff] at h1
  simp only [Bool.and_eq_true, decide_eq_true_eq] at h1
  unfold plainB
  simp
  omega
theorem quote_by (s : Tx) : quoteW s = if s.all plainB = false then 123 :: (Lib.itoa (s.length : Int) ++ [125, 13, 10] ++ s) else if (!s.isEmpty && s.all okB) = true then s else 34 :: (esc s ++ [34]) := by
  unfold quoteW
  rw [bare_all]
  cases hp : s.all plainB with
  | true => simp
  | false =>
    have : s.all okB = false := by
      rw [← Bool.not_eq_true, List.all_eq_true]
      intro h
      rw [← Bool.not_eq_true, List.all_eq_true] at hp
      exact hp fun c hc => okB_plain (h c hc)
    rw [this]
    simp
theorem all_snoc {p : UInt8 → Bool} {l : Tx} {k : Nat} {c : UInt8} (h : l[k]? = some c) : (l.take (k + 1)).all p = ((l.take k).all p && p c) := by
  obtain ⟨hk, rfl⟩ := List.getElem?_eq_some_iff.1 h
  rw [List.take_succ_eq_append_getElem hk, List.all_append]
  simp
theorem esc_snoc {l : Tx} {k : Nat} {c : UInt8} (h : l[k]? = some c) : esc (l.take (k + 1)) = esc (l.take k) ++ (if c = 92 ∨ c = 34 then [92, c] else [c]) := by
  obtain ⟨hk, rfl⟩ := List.getElem?_eq_some_iff.1 h
  rw [List.take_succ_eq_append_getElem hk]
  unfold esc
  rw [List.flatMap_append]
  simp
set_option maxHeartbeats 4000000 in
set_option maxRecDepth 100000 in
theorem rquote_is (s : ByteArray) (w : World) (hs : s.size ≤ 100000) (hg : NumAt w) :
    Calls Tryz.prog 14 #[.string s] w fun e w' => (∃ t : ByteArray, e = .returned (.string t) ∧ t.data.toList = quoteW s.data.toList) ∧ Below w.heap.size w w' := by
  obtain ⟨T, hT⟩ : ∃ T, quoteW s.data.toList = T := ⟨_, rfl⟩
  rw [hT]
  rw [quote_by] at hT
  have HL : Hid (s.data.toList.length = s.size) := wsize s
  obtain ⟨NE, hNE⟩ : ∃ b, (!s.data.toList.isEmpty) = b := ⟨_, rfl⟩
  have HT : Hid ((if s.data.toList.all plainB = false then 123 :: (Lib.itoa (s.data.toList.length : Int) ++ [125, 13, 10] ++ s.data.toList) else if (NE && s.data.toList.all okB) = true then s.data.toList else 34 :: (esc s.data.toList ++ [34])) = T) := by rw [← hNE]; exact hT
  have HG : Hid (NumAt w) := hg
  have hne : (!s.toList.isEmpty) = NE := by rw [← hNE, Lib.toList_data]
  clear hT hg hNE
  go_enter Tryz.func14, Tryz.ntmps14
  go_wp2_with fail
  go_loopw [3, 4, 5, 11] (fun wv pv ov i wr => ∃ (k : Nat) (t : ByteArray) (a b : Bool), i = .int .i64 (k : Int) ∧ k ≤ s.size ∧ wv = .bool a ∧ pv = .bool b ∧ ov = .string t ∧ t.size ≤ 2 * k ∧ Hid (a = (NE && (s.data.toList.take k).all okB) ∧ b = (s.data.toList.take k).all plainB ∧ t.data.toList = esc (s.data.toList.take k)) ∧ Below w.heap.size w wr) (fun _ _ _ i _ => s.size - (intOf i).toNat)
  case atStart => exact ⟨0, ⟨#[]⟩, NE, true, rfl, Nat.zero_le _, rfl, rfl, rfl, Nat.zero_le _, ⟨by simp, rfl, rfl⟩, Below.refl _ _⟩
  case round =>
    obtain ⟨k, t, a, b, rfl, hk, rfl, rfl, rfl, htk, HV, hb⟩ := hrel
    have HB : Hid (Below w.heap.size w wr) := hb
    clear hb
    by_cases hlt : k < s.size
    · have hck : s.data.toList[k]? = some (s[k]'hlt) := by rw [List.getElem?_eq_getElem (by rw [HL.out]; exact hlt)]; rfl
      generalize hc : s[k] = c at hck
      have HK : Hid (s.data.toList[k]? = some c) := hck
      have h256 := c.toNat_lt
      have hwr : wrap64 (c.toNat : Int) = (c.toNat : Int) := by unfold wrap64; omega
      have cI := ref_in (c.toNat : Int) 32 126 wr
      have hpl : decide ((32 : Int) ≤ (c.toNat : Int) ∧ (c.toNat : Int) ≤ 126) = plainB c := by
        unfold plainB
        by_cases h1 : 32 ≤ c.toNat <;> by_cases h2 : c.toNat ≤ 126 <;> simp [h1, h2] <;> omega
      rw [hpl] at cI
      obtain ⟨PB, hPB⟩ : ∃ x, plainB c = x := ⟨_, rfl⟩
      have cW := rwordy_is c wr
      obtain ⟨WB, hWB⟩ : ∃ x, wordy c = x := ⟨_, rfl⟩
      rw [hPB] at cI
      rw [hWB] at cW
      have hnq : ((c.toNat : Int) != 92) = !(c == 92) := by
        by_cases h : c = 92
        · subst h; rfl
        · have : ((c.toNat : Int) != 92) = true := by rw [bne_iff_ne]; intro e; exact h (UInt8.toNat_inj.1 (by show c.toNat = 92; omega))
          rw [this]; simp [h]
      have HNQ : Hid (((c.toNat : Int) != 92) = !(c == 92)) := hnq
      clear hnq
      have HV1 : Hid (∀ a' b', a' = (a && WB && !(c == 92)) → b' = (b && PB) → a' = (NE && (s.data.toList.take (k + 1)).all okB) ∧ b' = (s.data.toList.take (k + 1)).all plainB) := fun a' b' h1 h2 => by
        rw [all_snoc HK.out, all_snoc HK.out, h1, h2, HV.out.1, HV.out.2.1, hPB]
        unfold okB
        rw [hWB]
        simp [Bool.and_assoc]
      have HVT : Hid (t.data.toList = esc (s.data.toList.take k)) := HV.out.2.2
      clear hck hpl hPB hWB HV
      go_upto_region 6 with fail
      go_cut [4] (fun v wx => v = .bool (b && PB) ∧ wx = wr)
      case first =>
        cases b with
        | true =>
          go_wp2_with fail
          refine cI.mono ?_
          rintro e w2 ⟨rfl, hw⟩
          obtain rfl : wr = w2 := hw.symm
          go_wp2_with fail
          go_meet
          case rel => exact ⟨by simp, rfl⟩
        | false =>
          go_wp2_with fail
          go_meet
          case rel => exact ⟨rfl, rfl⟩
      case rest =>
        obtain ⟨rfl, hwc⟩ := hcut
        obtain rfl : wr = wc := hwc.symm
        clear cI hwc
        obtain ⟨b1, hb1⟩ : ∃ x, (b && PB) = x := ⟨_, rfl⟩
        have HB1 : Hid (b1 = (b && PB)) := hb1.symm
        rw [hb1]
        clear hb1
        go_upto_region 7 with fail
        go_cut [3] (fun v wx => v = .bool (a && WB && !(c == 92)) ∧ wx = wr)
        case first =>
          cases a with
          | true =>
            cases WB with
            | true =>
              go_wp2_with fail
              refine cW.mono ?_
              rintro e w2 ⟨rfl, hw⟩
              obtain rfl : wr = w2 := hw.symm
              go_wp2_with fail
              go_meet
              case rel => exact ⟨by simp only [Bool.true_and]; rw [HNQ.out], rfl⟩
            | false =>
              go_wp2_with fail
              refine cW.mono ?_
              rintro e w2 ⟨rfl, hw⟩
              obtain rfl : wr = w2 := hw.symm
              go_wp2_with fail
              go_meet
              case rel => exact ⟨rfl, rfl⟩
          | false =>
            go_wp2_with fail
            go_meet
            case rel => exact ⟨by simp, rfl⟩
        case rest =>
          obtain ⟨rfl, hwc⟩ := hcut
          obtain ⟨a1, ha1⟩ : ∃ x, (a && WB && !(c == 92)) = x := ⟨_, rfl⟩
          have HA1 : Hid (a1 = (a && WB && !(c == 92))) := ha1.symm
          rw [ha1]
          clear ha1 cW hwr
          obtain rfl : wr = wc := hwc.symm
          clear hwc
          have hxl : (s.extract k (k + 1)).data.toList = [c] := by
            rw [Lib.extract_data, Nat.add_sub_cancel_left, List.take_one, List.head?_drop, HK.out]
            rfl
          obtain ⟨X, hX⟩ : ∃ X, s.extract k (k + 1) = X := ⟨_, rfl⟩
          rw [hX] at hxl
          have hXs : X.size = 1 := by rw [← wsize, hxl]; rfl
          have HX : Hid (X.data.toList = [c]) := hxl
          clear hxl
          by_cases hq : c = 92 ∨ c = 34
          · have HE : Hid (esc (s.data.toList.take (k + 1)) = esc (s.data.toList.take k) ++ [92, c]) := by show _ = _; rw [esc_snoc HK.out, if_pos hq]
            have hcv := conv_z 92 92 rfl wr
            have hb2 : Below wr.heap.size wr (wr.alloc (.cells #[.int .u8 92] 5)) := (Below.refl _ _).alloc (Nat.le_refl _) _
            have HB2 : Hid (Below w.heap.size w (wr.alloc (.cells #[.int .u8 92] 5))) := HB.out.trans (hb2.mono HB.out.size)
            have s1 : (t ++ (⟨#[92]⟩ : ByteArray)).size = t.size + 1 := back_size 92 t
            have v1 : (9223372036854775807 < t.size + 1) = False := by simp; omega
            have v2 : (9223372036854775807 < t.size + 1 + X.size) = False := by simp; omega
            have hF : (t ++ (⟨#[92]⟩ : ByteArray) ++ X).data.toList = esc (s.data.toList.take (k + 1)) := by rw [cat_text, back_list, HVT.out, HX.out, HE.out]; simp
            have hFs : (t ++ (⟨#[92]⟩ : ByteArray) ++ X).size ≤ 2 * (k + 1) := by rw [← wsize, cat_text, List.length_append, wsize, wsize, s1, hXs]; omega
            have HD : Hid ((t ++ (⟨#[92]⟩ : ByteArray) ++ X).data.toList = esc (s.data.toList.take (k + 1)) ∧ (t ++ (⟨#[92]⟩ : ByteArray) ++ X).size ≤ 2 * (k + 1)) := ⟨hF, hFs⟩
            clear hF hFs hb2
            have hq2 : (c.toNat : Int) = 34 ∨ ((c.toNat : Int) == 34) = false ∧ (c.toNat : Int) = 92 := by rcases hq with rfl | rfl <;> simp
            clear hq
            rcases hq2 with hq2 | ⟨hq2, hq3⟩
            · go_wp2_with fail
              go_roundw
              case rel => exact ⟨k + 1, _, a1, b1, by go_num, by omega, rfl, rfl, rfl, HD.out.2, ⟨(HV1.out a1 b1 HA1.out HB1.out).1, (HV1.out a1 b1 HA1.out HB1.out).2, HD.out.1⟩, HB2.out⟩
              case measure => simp [intOf]; omega
            · go_wp2_with fail
              go_roundw
              case rel => exact ⟨k + 1, _, a1, b1, by go_num, by omega, rfl, rfl, rfl, HD.out.2, ⟨(HV1.out a1 b1 HA1.out HB1.out).1, (HV1.out a1 b1 HA1.out HB1.out).2, HD.out.1⟩, HB2.out⟩
              case measure => simp [intOf]; omega
          · have HE : Hid (esc (s.data.toList.take (k + 1)) = esc (s.data.toList.take k) ++ [c]) := by show _ = _; rw [esc_snoc HK.out, if_neg hq]
            have m34 : ((c.toNat : Int) == 34) = false := by rw [beq_eq_false_iff_ne]; intro e; exact hq (Or.inr (UInt8.toNat_inj.1 (by show c.toNat = 34; omega)))
            have m92 : ((c.toNat : Int) == 92) = false := by rw [beq_eq_false_iff_ne]; intro e; exact hq (Or.inl (UInt8.toNat_inj.1 (by show c.toNat = 92; omega)))
            have v2 : (9223372036854775807 < t.size + X.size) = False := by simp; omega
            have hF : (t ++ X).data.toList = esc (s.data.toList.take (k + 1)) := by rw [cat_text, HVT.out, HX.out, HE.out]
            have hFs : (t ++ X).size ≤ 2 * (k + 1) := by rw [← wsize, cat_text, List.length_append, wsize, wsize, hXs]; omega
            have HD : Hid ((t ++ X).data.toList = esc (s.data.toList.take (k + 1)) ∧ (t ++ X).size ≤ 2 * (k + 1)) := ⟨hF, hFs⟩
            clear hF hFs hq
            go_wp2_with fail
            go_roundw
            case rel => exact ⟨k + 1, _, a1, b1, by go_num, by omega, rfl, rfl, rfl, HD.out.2, ⟨(HV1.out a1 b1 HA1.out HB1.out).1, (HV1.out a1 b1 HA1.out HB1.out).2, HD.out.1⟩, HB.out⟩
            case measure => simp [intOf]; omega
    · obtain rfl : k = s.size := by omega
      obtain ⟨h1, h2, h3⟩ := HV.out
      rw [List.take_of_length_le (by rw [HL.out]; exact Nat.le_refl _)] at h1 h2 h3
      have hT := HT.out
      rw [← h1, ← h2, ← h3, HL.out] at hT
      clear HV HT h1 h2 hne
      have HT : Hid ((if b = false then 123 :: (Lib.itoa (s.size : Int) ++ [125, 13, 10] ++ s.data.toList) else if a = true then s.data.toList else 34 :: (t.data.toList ++ [34])) = T) := hT
      clear hT h3
      cases b with
      | false =>
        have hT := HT.out
        rw [if_pos rfl] at hT
        have cI := Tryz.strconv_Itoa (s.size : Int) (by omega) (by omega) wr (HG.out wr HB.out).2.2
        have hdl : (Lib.itoa (s.size : Int)).length ≤ 20 := by
          rw [show Lib.itoa (s.size : Int) = Lib.decDigits s.size by rw [Lib.itoa, if_neg (by omega), Int.toNat_natCast]]
          exact decDigits_len _ (by omega)
        obtain ⟨D, hD⟩ : ∃ D : ByteArray, ⟨(Lib.itoa (s.size : Int)).toArray⟩ = D := ⟨_, rfl⟩
        have hDl : D.data.toList = Lib.itoa (s.size : Int) := by rw [← hD]
        have hDs : D.size ≤ 20 := by rw [← wsize, hDl]; exact hdl
        rw [hD] at cI
        have hov : (9223372036854775807 < 1 + D.size) = False := by simp; omega
        have hov2 : (9223372036854775807 < 1 + D.size + 1) = False := by simp; omega
        have hov3 : (9223372036854775807 < 1 + D.size + 1 + 2) = False := by simp; omega
        have hov4 : (9223372036854775807 < 1 + D.size + 1 + 2 + s.size) = False := by simp; omega
        have HF : Hid (((⟨#[123]⟩ : ByteArray) ++ D ++ ⟨#[125]⟩ ++ ⟨#[13, 10]⟩ ++ s).data.toList = T) := by
          show _ = T
          rw [cat_text, cat_text, cat_text, cat_text, hDl, ← hT]
          simp
        clear hT hD hDl HT hdl htk
        go_wp2_with fail
        refine cI.mono ?_
        rintro e w3 ⟨rfl, q, os, rfl⟩
        have HB3 : Hid (Below w.heap.size w (grow (wr.drewN q) os)) := num_grow (below_drewN HB.out q) HB.out.size os
        generalize grow (wr.drewN q) os = W3 at HB3 ⊢
        clear cI
        go_wp2_with fail
        go_ret
        exact ⟨⟨_, rfl, HF.out⟩, HB3.out⟩
      | true =>
        have hT := HT.out
        rw [if_neg (by simp)] at hT
        cases a with
        | true =>
          rw [if_pos rfl] at hT
          have HF : Hid (s.data.toList = T) := hT
          clear hT HT
          go_wp2_with fail
          go_ret
          exact ⟨⟨_, rfl, HF.out⟩, HB.out⟩
        | false =>
          rw [if_neg (by simp)] at hT
          have v1 : (9223372036854775807 < 1 + t.size) = False := by simp; omega
          have v2 : (9223372036854775807 < 1 + t.size + 1) = False := by simp; omega
          have HF : Hid (((⟨#[34]⟩ : ByteArray) ++ t ++ ⟨#[34]⟩).data.toList = T) := by
            show _ = T
            rw [cat_text, cat_text, ← hT]
            simp
          clear hT HT htk
          go_wp2_with fail
          go_ret
          exact ⟨⟨_, rfl, HF.out⟩, HB.out⟩
end Go.Proofs.YtmcpohnilgbicaaGreatDoor
