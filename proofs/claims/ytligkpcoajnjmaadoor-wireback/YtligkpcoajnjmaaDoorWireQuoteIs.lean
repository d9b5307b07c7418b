/-
  What wire.Quote does.
-/
import Derived.Test.YtligkpcoajnjmaaDoorWireQuote0
namespace Go.Proofs.YtligkpcoajnjmaaDoor
open Go.RowKit Go.Proofs.Aid Go.Proofs.Hd Go.Sort

theorem decDigits_len (n : Nat) (h : n ≤ 10000000) : (Lib.decDigits n).length ≤ 20 := by
  have key : ∀ f n, n < 10 ^ f → (Lib.decDigits n).length ≤ f + 1 := by
    intro f
    induction f with
    | zero => intro n hn; rw [Lib.decDigits, dif_pos (by omega)]; simp
    | succ f ih =>
      intro n hn
      rw [Lib.decDigits]
      split
      · simp
      · rw [List.length_append, List.length_singleton]
        have := ih (n / 10) (by rw [Nat.pow_succ] at hn; omega)
        omega
  have := key 8 n (by omega)
  omega
theorem quote_len (s : Tx) (hs : s.length ≤ 100000) : (quoteW s).length ≤ 2 * s.length + 30 := by
  unfold quoteW
  split
  · omega
  · split
    · have := esc_len s
      simp only [List.length_cons, List.length_append, List.length_nil]
      omega
    · have h1 : (Lib.itoa (s.length : Int)).length ≤ 20 := by
        rw [show Lib.itoa (s.length : Int) = Lib.decDigits s.length by rw [Lib.itoa, if_neg (by omega), Int.toNat_natCast]]
        exact decDigits_len _ (by omega)
      simp only [List.length_cons, List.length_append, List.length_nil]
      omega
set_option maxHeartbeats 2000000 in
set_option maxRecDepth 100000 in
theorem quote_is (s : ByteArray) (m : Int) (w : World) (hs : s.size ≤ 100000) (hm : w.cell? ⟨0, 0, none⟩ = some (.int .i64 m)) (hg : NumAt w) :
    Calls Tryd.prog 81 #[.string s] w fun e w' => (∃ t : ByteArray, e = .returned (.string t) ∧ t.data.toList = quoteW s.data.toList) ∧ Below w.heap.size w w' := by
  have cB := wbare_is s w (by omega)
  obtain ⟨T, hT⟩ : ∃ T, quoteW s.data.toList = T := ⟨_, rfl⟩
  rw [hT]
  unfold quoteW at hT
  have HG : Hid (NumAt w) := hg
  have cQ := inQuotes_is s m w hs hm
  clear hg hm
  cases hb : bareW s.data.toList with
  | true =>
    rw [hb, if_pos rfl] at hT
    rw [hb] at cB
    have HT : Hid (s.data.toList = T) := hT
    clear hT hb cQ
    go_enter Tryd.func81, Tryd.ntmps81
    go_wp2_with fail
    refine cB.mono ?_
    rintro e w1 ⟨rfl, hw⟩
    obtain rfl : w = w1 := hw.symm
    go_wp2_with fail
    go_ret
    exact ⟨⟨s, rfl, HT.out⟩, Below.refl _ _⟩
  | false =>
    rw [hb, if_neg (by simp)] at hT
    rw [hb] at cB
    have HT : Hid ((if s.data.toList.all plainB = true then 34 :: (esc s.data.toList ++ [34]) else 123 :: (Lib.itoa (s.data.toList.length : Int) ++ [125, 13, 10] ++ s.data.toList)) = T) := hT
    have HL : Hid (s.data.toList.length = s.size) := wsize s
    clear hT hb
    go_enter Tryd.func81, Tryd.ntmps81
    go_wp2_with fail
    refine cB.mono ?_
    rintro e w1 ⟨rfl, hw⟩
    obtain rfl : w = w1 := hw.symm
    clear cB
    go_wp2_with fail
    go_loopw [9] (fun i wr => ∃ k : Nat, i = .int .i64 (k : Int) ∧ k ≤ s.size ∧ Hid (∀ j b, j < k → s.data.toList[j]? = some b → plainB b = true) ∧ wr = w) (fun i _ => s.size - (intOf i).toNat)
    case atStart => exact ⟨0, rfl, by omega, fun j c hj => absurd hj (by omega), rfl⟩
    case round =>
      obtain ⟨k, rfl, hk, HC, hw⟩ := hrel
      obtain rfl : w = wr := hw.symm
      by_cases hlt : k < s.size
      · have hck : s.data.toList[k]? = some (s[k]'hlt) := by rw [List.getElem?_eq_getElem (by rw [HL.out]; exact hlt)]; rfl
        generalize hc : s[k] = c at hck
        have HK : Hid (s.data.toList[k]? = some c) := hck
        have h256 := c.toNat_lt
        clear hck
        by_cases hq : plainB c = true
        · have hw' : 32 ≤ c.toNat ∧ c.toNat ≤ 126 := by
            unfold plainB at hq
            simpa using hq
          have q1 : decide ((c.toNat : Int) < 32) = false := decide_eq_false (by omega)
          have q2 : decide ((126 : Int) < (c.toNat : Int)) = false := decide_eq_false (by omega)
          have HQ : Hid (plainB c = true) := hq
          clear hq hw' cQ
          go_wp2_with fail
          go_roundw
          case rel =>
            refine ⟨k + 1, by go_num, by omega, fun j d hj hd => ?_, trivial⟩
            by_cases hjk : j = k
            · subst hjk
              rw [HK.out] at hd
              cases hd
              exact HQ.out
            · exact HC.out j d (by omega) hd
          case measure => simp [intOf]; omega
        · have hT := HT.out
          rw [if_neg (fun h => hq (List.all_eq_true.1 h c (List.mem_of_getElem? HK.out))), HL.out] at hT
          have HT2 : Hid (123 :: (Lib.itoa (s.size : Int) ++ [125, 13, 10] ++ s.data.toList) = T) := hT
          have hw' : c.toNat < 32 ∨ 126 < c.toNat := by
            unfold plainB at hq
            simp at hq
            omega
          have cI := Tryd.strconv_Itoa (s.size : Int) (by omega) (by omega) w (HG.out w (Below.refl _ _)).2.2
          have hdl : (Lib.itoa (s.size : Int)).length ≤ 20 := by
            rw [show Lib.itoa (s.size : Int) = Lib.decDigits s.size by rw [Lib.itoa, if_neg (by omega), Int.toNat_natCast]]
            exact decDigits_len _ (by omega)
          obtain ⟨D, hD⟩ : ∃ D : ByteArray, ⟨(Lib.itoa (s.size : Int)).toArray⟩ = D := ⟨_, rfl⟩
          have hDl : D.data.toList = Lib.itoa (s.size : Int) := by rw [← hD]
          have hDs : D.size ≤ 20 := by rw [← wsize, hDl]; exact hdl
          have HD : Hid (D.data.toList = Lib.itoa (s.size : Int)) := hDl
          rw [hD] at cI
          have hov : (9223372036854775807 < 1 + D.size) = False := by simp; omega
          have hov2 : (9223372036854775807 < 1 + D.size + 1) = False := by simp; omega
          have hov3 : (9223372036854775807 < 1 + D.size + 1 + 2) = False := by simp; omega
          have hov4 : (9223372036854775807 < 1 + D.size + 1 + 2 + s.size) = False := by simp; omega
          have hF : ((⟨#[123]⟩ : ByteArray) ++ D ++ ⟨#[125]⟩ ++ ⟨#[13, 10]⟩ ++ s).data.toList = T := by
            rw [cat_text, cat_text, cat_text, cat_text, HD.out, ← HT2.out]
            simp
          have HF : Hid (((⟨#[123]⟩ : ByteArray) ++ D ++ ⟨#[125]⟩ ++ ⟨#[13, 10]⟩ ++ s).data.toList = T) := hF
          clear hT hq hD hDl cQ HT HT2 hF
          by_cases h32 : c.toNat < 32
          · have q1 : decide ((c.toNat : Int) < 32) = true := decide_eq_true (by omega)
            go_wp2_with fail
            refine cI.mono ?_
            rintro e w3 ⟨rfl, q, os, rfl⟩
            have HB3 : Hid (Below w.heap.size w (grow (w.drewN q) os)) := num_grow (below_drewN (Below.refl _ _) q) (Nat.le_refl _) os
            generalize grow (w.drewN q) os = W3 at HB3 ⊢
            clear cI
            go_wp2_with fail
            go_ret
            exact ⟨⟨_, rfl, HF.out⟩, HB3.out⟩
          · have q1 : decide ((c.toNat : Int) < 32) = false := decide_eq_false (by omega)
            have q2 : decide ((126 : Int) < (c.toNat : Int)) = true := decide_eq_true (by omega)
            go_wp2_with fail
            refine cI.mono ?_
            rintro e w3 ⟨rfl, q, os, rfl⟩
            have HB3 : Hid (Below w.heap.size w (grow (w.drewN q) os)) := num_grow (below_drewN (Below.refl _ _) q) (Nat.le_refl _) os
            generalize grow (w.drewN q) os = W3 at HB3 ⊢
            clear cI
            go_wp2_with fail
            go_ret
            exact ⟨⟨_, rfl, HF.out⟩, HB3.out⟩
      · obtain rfl : k = s.size := by omega
        have hall : s.data.toList.all plainB = true := by
          rw [List.all_eq_true]
          intro c hc
          obtain ⟨j, hj, hjc⟩ := List.mem_iff_getElem.1 hc
          exact HC.out j c (by rw [← HL.out]; exact hj) (by rw [List.getElem?_eq_getElem hj, hjc])
        have hT := HT.out
        rw [hall, if_pos rfl] at hT
        have HT2 : Hid (34 :: (esc s.data.toList ++ [34]) = T) := hT
        clear hT hall HT HC
        go_wp2_with fail
        refine cQ.mono ?_
        rintro e w3 ⟨⟨t, rfl, ht⟩, hb3⟩
        have HD : Hid (t.data.toList = T ∧ Below w.heap.size w w3) := ⟨by rw [ht]; exact HT2.out, hb3⟩
        clear cQ ht hb3
        go_wp2_with fail
        go_ret
        exact ⟨⟨t, rfl, HD.out.1⟩, HD.out.2⟩
end Go.Proofs.YtligkpcoajnjmaaDoor
