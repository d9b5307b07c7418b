/-
  The document's answer on how a set is written.
-/
import Derived.Test.YtefgpafoajoofaaGreatDoorRefShut
import Derived.Test.YtefgpafoajoofaaGreatDoorRepMake
import Derived.Test.YtefgpafoajoofaaGreatDoorRefRanges
import Derived.Test.YtefgpafoajoofaaGreatDoorSeqPrint
import Derived.Lib.SmallJoins
namespace Go.Proofs.YtefgpafoajoofaaGreatDoor
open Go.RowKit Go.Proofs.Aid Go.Proofs.Sq Go.Sort

theorem ref_print_no (v : Value) (l : List (Int × Int)) (w : World) (h : Rg w v l) (hl : l.length ≤ 1000) (hr : rightR l = false) :
    Calls Tryz.prog 10 #[v] w fun e w' => e = .returned (.tuple #[.string ⟨#[]⟩, .int .i64 1]) ∧ Below w.heap.size w w' := by
  have cR := ref_ranges v l w h hl
  rw [hr] at cR
  obtain ⟨a, c, rfl, _⟩ := h
  go_enter Tryz.func10, Tryz.ntmps10
  go_wp2_with fail
  refine cR.mono ?_
  rintro e w1 ⟨rfl, hb⟩
  go_wp2
  go_ret2
  exact ⟨rfl, hb⟩
theorem itoa_len {n : Int} (h0 : 0 ≤ n) (h1 : n ≤ 2147483647) : (Lib.itoa n).length ≤ 10 := by
  rw [Lib.itoa, if_neg (by omega)]; exact nDigits_le (by omega)
theorem shutR_len {r : Int × Int} (h : (0 ≤ r.1 ∧ r.1 ≤ 2147483647) ∧ (0 ≤ r.2 ∧ r.2 ≤ 2147483647)) : (shutR r).length ≤ 30 := by
  have h1 := star_length h.1.1 h.1.2
  have h2 := star_length h.2.1 h.2.2
  unfold shutR shutN
  split
  · simp; omega
  · simp; omega
theorem shut_step {l : List (Int × Int)} {k : Nat} {xs : List UInt8} (hk : k < l.length) (h : (k = 0 ∧ xs = []) ∨ (0 < k ∧ shutFrom xs (l.drop k) = shut l)) : shutFrom ((if 0 < k then xs ++ [44] else xs) ++ shutR l[k]) (l.drop (k + 1)) = shut l := by
  rcases h with ⟨rfl, rfl⟩ | ⟨h0, h1⟩
  · cases l with
    | nil => simp at hk
    | cons r rs => simp [shut]
  · rw [if_pos h0, ← h1, List.drop_eq_getElem_cons hk, shutFrom]
    simp
theorem cat_list (a b : ByteArray) : (a ++ b).data.toList = a.data.toList ++ b.data.toList := by rw [Joins.data_append]
theorem cat_size (a b : ByteArray) : (a ++ b).size = a.size + b.size := by rw [Lib.size_eq, cat_list, List.length_append, ← Lib.size_eq, ← Lib.size_eq]
set_option maxHeartbeats 4000000 in
set_option maxRecDepth 100000 in
theorem ref_print_yes (v : Value) (l : List (Int × Int)) (m : Int) (w : World) (h : Rg w v l) (hl : l.length ≤ 1000) (hr : rightR l = true) (hg : NumAt w) (hm : w.cell? ⟨2, 0, none⟩ = some (.int .i64 m)) :
    Calls Tryz.prog 10 #[v] w fun e w' => e = .returned (.tuple #[.string ⟨(wrote l).toArray⟩, .int .i64 0]) ∧ Below w.heap.size w w' := by
  have cR := ref_ranges v l w h hl
  rw [hr] at cR
  obtain ⟨⟨hl1, hl2⟩, hall⟩ := (rightR_iff l).1 hr
  have hwr := strip_shut l (fun r hr => ⟨(hall r hr).1.1, (hall r hr).2.1⟩)
  have HW : Hid (strip (shut l) = wrote l) := hwr
  have K0 : Hid (∀ W, Below w.heap.size w W → Lib.TabIs Tryz.prog W "internal/strconv.uint64pow10" .u64 Lib.pow10Tab ∧ W.cell? ⟨2, 0, none⟩ = some (.int .i64 m)) := fun W hb => ⟨(hg W hb).2.2, (hb.cell (World.block_lt_of_cell? _ _ hm)).trans hm⟩
  have hreg := h
  obtain ⟨a, c, rfl, ha⟩ := h
  rcases ha with rfl | ⟨b, o, rfl, hat⟩
  · simp at hl1
  obtain ⟨len, hn⟩ : ∃ n, l.length = n := ⟨_, rfl⟩
  rw [hn] at hl1 hl2 cR ⊢
  clear hg hm hwr hr
  go_enter Tryz.func10, Tryz.ntmps10
  go_wp2_with fail
  refine cR.mono ?_
  rintro e w1 ⟨rfl, hb⟩
  go_wp2_with fail
  go_loopw [4, 12] (fun sv i wr => ∃ (k : Nat) (t : ByteArray), i = .int .i64 (k : Int) ∧ k ≤ len ∧ sv = .string t ∧ t.size ≤ 31 * k ∧ Hid ((k = 0 ∧ t.data.toList = []) ∨ (0 < k ∧ shutFrom t.data.toList (l.drop k) = shut l)) ∧ Below w.heap.size w wr) (fun _ i _ => len - (intOf i).toNat)
  case atStart => exact ⟨0, ⟨#[]⟩, rfl, by omega, rfl, by decide, Or.inl ⟨rfl, rfl⟩, hb⟩
  case round =>
    obtain ⟨k, t, rfl, hk, rfl, htl, HC, hbw⟩ := hrel
    by_cases hlt : k < len
    · have hlk : l[k]? = some l[k] := List.getElem?_eq_getElem _
      obtain ⟨c1, c2⟩ := (hat.below hbw (Nat.le_refl _)) k _ hlk
      have hstep := shut_step (by omega) HC.out
      have hok := hall (l[k]'(by omega)) (List.getElem_mem _)
      obtain ⟨⟨x, y⟩, hxy⟩ : ∃ p, l[k]'(by omega) = p := ⟨_, rfl⟩
      rw [hxy] at c1 c2 hstep hok
      simp only at c1 c2 hok
      obtain ⟨T, hTl, hTs, hTk⟩ : ∃ T : ByteArray, T.data.toList = (if 0 < k then t.data.toList ++ [44] else t.data.toList) ∧ T.size ≤ 31 * k + 1 ∧ ((0 < k ∧ T = t ++ ⟨#[44]⟩) ∨ (k = 0 ∧ T = t)) := by
        by_cases hk0 : 0 < k
        · exact ⟨t ++ ⟨#[44]⟩, by rw [if_pos hk0, cat_list], by rw [cat_size]; show t.size + 1 ≤ _; omega, Or.inl ⟨hk0, rfl⟩⟩
        · exact ⟨t, by rw [if_neg hk0], by omega, Or.inr ⟨by omega, rfl⟩⟩
      rw [← hTl] at hstep
      have HS : Hid (shutFrom (T.data.toList ++ shutR (x, y)) (l.drop (k + 1)) = shut l) := hstep
      have hH : w.heap.size ≤ wr.heap.size := hbw.size
      have hb2 : Below w.heap.size w (wr.alloc (.cells #[.int .i64 x, .int .i64 y] 78)) := hbw.alloc hH _
      have hrb := RB.new wr x y
      have hx0 := hrb.fst
      clear hstep hxy hlk hat hall hreg cR hTl HC
      go_upto_if 18 with fail
      go_cut [4] (fun v4 wx => v4 = .string T ∧ wx = wr.alloc (.cells #[.int .i64 x, .int .i64 y] 78))
      case first =>
        rcases hTk with ⟨hk0, rfl⟩ | ⟨rfl, rfl⟩
        · have hk' : (0 : Int) < (k : Int) := by omega
          have hsz : t.size + (⟨#[44]⟩ : ByteArray).size ≤ 1000001 := by show t.size + 1 ≤ _; omega
          go_wp2_with fail
          go_meet
          exact ⟨rfl, rfl⟩
        · go_wp2_with fail
          go_meet
          exact ⟨rfl, rfl⟩
      case rest =>
        obtain ⟨rfl, rfl⟩ := hcut
        clear hTk htl c1 c2 hbw
        have hy0 := hrb.snd
        have hxl : wr.heap.size < (wr.alloc (.cells #[.int .i64 x, .int .i64 y] 78)).heap.size := by simp
        clear hrb hH
        generalize wr.alloc (.cells #[.int .i64 x, .int .i64 y] 78) = W2 at hb2 hx0 hy0 hxl ⊢
        generalize wr.heap.size = R at hx0 hy0 hxl ⊢
        have cI := Tryz.strconv_Itoa x (by omega) (by omega) W2 (K0.out W2 hb2).1
        obtain ⟨u, hu⟩ : ∃ u : ByteArray, ⟨(Lib.itoa x).toArray⟩ = u := ⟨_, rfl⟩
        rw [hu] at cI
        have hul : u.data.toList = Lib.itoa x := by rw [← hu]
        have hus : u.size ≤ 10 := by rw [Lib.size_eq, hul]; exact itoa_len hok.1.1 hok.1.2
        have HU : Hid (u.data.toList = Lib.itoa x) := hul
        clear hu hul
        go_wp2_with fail
        refine cI.mono ?_
        clear cI
        rintro e w3 ⟨rfl, q, os, rfl⟩
        have hb3 : Below W2.heap.size W2 (grow (W2.drewN q) os) := num_grow (below_drewN (Below.refl _ _) q) (Nat.le_refl _) os
        generalize grow (W2.drewN q) os = W3 at hb3 ⊢
        have hb03 := hb2.trans (hb3.mono hb2.size)
        have hx3 := (hb3.cell (p := ⟨R, 0, none⟩) hxl).trans hx0
        have hy3 := (hb3.cell (p := ⟨R, 1, none⟩) hxl).trans hy0
        have hxl3 : R < W3.heap.size := Nat.lt_of_lt_of_le hxl hb3.size
        have hs1 : (⟨#[60]⟩ : ByteArray).size + u.size ≤ 1000001 := by show 1 + u.size ≤ _; omega
        have hs2 : (⟨#[60]⟩ ++ u : ByteArray).size + (⟨#[62]⟩ : ByteArray).size ≤ 1000001 := by rw [cat_size]; show 1 + u.size + 1 ≤ _; omega
        have cS := shut_call x m (⟨#[60]⟩ ++ u ++ ⟨#[62]⟩) W3 hok.1.1 (by rw [cat_list, cat_list, HU.out]; rfl) (by rw [cat_size, cat_size]; show 1 + u.size + 1 ≤ _; omega) (K0.out W3 hb03).2
        obtain ⟨P, hP⟩ : ∃ P : ByteArray, ⟨(shutN x).toArray⟩ = P := ⟨_, rfl⟩
        have HP : Hid (P.data.toList = shutN x) := by show _ = _; rw [← hP]
        have hPs : P.size ≤ 12 := by
          rw [Lib.size_eq, HP.out]
          have := star_length hok.1.1 hok.1.2
          unfold shutN
          simp
          omega
        rw [hP] at cS
        clear hP hb3 hx0 hy0 hxl hb2 HU
        go_wp2_with fail
        refine cS.mono ?_
        clear cS
        rintro e W4 ⟨rfl, hb4⟩
        have hb04 := hb03.trans (hb4.mono hb03.size)
        have hx4 := (hb4.cell (p := ⟨R, 0, none⟩) hxl3).trans hx3
        have hy4 := (hb4.cell (p := ⟨R, 1, none⟩) hxl3).trans hy3
        have hxl4 : R < W4.heap.size := Nat.lt_of_lt_of_le hxl3 hb4.size
        have hs3 : T.size + P.size ≤ 1000001 := by omega
        clear hb4 hx3 hy3 hxl3 hb03 hs1 hs2
        by_cases hyx : y = x
        · subst hyx
          have hq : (y != y) = false := by simp
          have HN : Hid (shutFrom (T ++ P).data.toList (l.drop (k + 1)) = shut l) := by
            show _ = _
            rw [← HS.out, cat_list, HP.out]
            simp [shutR]
          go_wp2_with fail
          go_roundw
          case rel => exact ⟨k + 1, T ++ P, by go_num, by omega, rfl, by rw [cat_size]; omega, Or.inr ⟨by omega, HN.out⟩, hb04⟩
          case measure => simp [intOf]; omega
        · have hq : (x != y) = true := by simpa using fun e => hyx e.symm
          have cI := Tryz.strconv_Itoa y (by omega) (by omega) W4 (K0.out W4 hb04).1
          obtain ⟨u2, hu⟩ : ∃ u : ByteArray, ⟨(Lib.itoa y).toArray⟩ = u := ⟨_, rfl⟩
          rw [hu] at cI
          have hul : u2.data.toList = Lib.itoa y := by rw [← hu]
          have hus2 : u2.size ≤ 10 := by rw [Lib.size_eq, hul]; exact itoa_len hok.2.1 hok.2.2
          have HU : Hid (u2.data.toList = Lib.itoa y) := hul
          clear hu hul
          go_wp2_with fail
          refine cI.mono ?_
          clear cI
          rintro e w3 ⟨rfl, q, os, rfl⟩
          have hb5 : Below W4.heap.size W4 (grow (W4.drewN q) os) := num_grow (below_drewN (Below.refl _ _) q) (Nat.le_refl _) os
          generalize grow (W4.drewN q) os = W5 at hb5 ⊢
          have hb05 := hb04.trans (hb5.mono hb04.size)
          have hs1 : (⟨#[60]⟩ : ByteArray).size + u2.size ≤ 1000001 := by show 1 + u2.size ≤ _; omega
          have hs2 : (⟨#[60]⟩ ++ u2 : ByteArray).size + (⟨#[62]⟩ : ByteArray).size ≤ 1000001 := by rw [cat_size]; show 1 + u2.size + 1 ≤ _; omega
          have cS := shut_call y m (⟨#[60]⟩ ++ u2 ++ ⟨#[62]⟩) W5 hok.2.1 (by rw [cat_list, cat_list, HU.out]; rfl) (by rw [cat_size, cat_size]; show 1 + u2.size + 1 ≤ _; omega) (K0.out W5 hb05).2
          obtain ⟨P2, hP⟩ : ∃ P : ByteArray, ⟨(shutN y).toArray⟩ = P := ⟨_, rfl⟩
          have HP2 : Hid (P2.data.toList = shutN y) := by show _ = _; rw [← hP]
          have hPs2 : P2.size ≤ 12 := by
            rw [Lib.size_eq, HP2.out]
            have := star_length hok.2.1 hok.2.2
            unfold shutN
            simp
            omega
          rw [hP] at cS
          clear hP hb5 HU
          go_wp2_with fail
          refine cS.mono ?_
          clear cS
          rintro e W6 ⟨rfl, hb6⟩
          have hb06 := hb05.trans (hb6.mono hb05.size)
          have hs4 : (⟨#[58]⟩ : ByteArray).size + P2.size ≤ 1000001 := by show 1 + P2.size ≤ _; omega
          have hs5 : (T ++ P).size + (⟨#[58]⟩ ++ P2 : ByteArray).size ≤ 1000001 := by rw [cat_size, cat_size]; show T.size + P.size + (1 + P2.size) ≤ _; omega
          have HN : Hid (shutFrom ((T ++ P) ++ (⟨#[58]⟩ ++ P2)).data.toList (l.drop (k + 1)) = shut l) := by
            show _ = _
            rw [← HS.out, cat_list, cat_list, cat_list, HP.out, HP2.out]
            simp [shutR, hyx]
          go_wp2_with fail
          go_roundw
          case rel => exact ⟨k + 1, (T ++ P) ++ (⟨#[58]⟩ ++ P2), by go_num, by omega, rfl, by rw [cat_size, cat_size, cat_size]; show T.size + P.size + (1 + P2.size) ≤ _; omega, Or.inr ⟨by omega, HN.out⟩, hb06⟩
          case measure => simp [intOf]; omega
    · have hke : k = len := by omega
      have HT : Hid (t.data.toList = shut l) := by
        rcases HC.out with ⟨h1, _⟩ | ⟨_, h2⟩
        · omega
        · rw [List.drop_eq_nil_of_le (by omega)] at h2
          exact h2
      subst hke
      clear HC hat hall hreg cR
      have hF : FourAt wr.heap.size (wr.alloc (.cells #[.string ⟨#[60]⟩, .string ⟨#[]⟩, .string ⟨#[62]⟩, .string ⟨#[]⟩] 9)) := by
        have hh := heap_alloc_new wr (.cells #[.string ⟨#[60]⟩, .string ⟨#[]⟩, .string ⟨#[62]⟩, .string ⟨#[]⟩] 9)
        generalize wr.alloc (.cells #[.string ⟨#[60]⟩, .string ⟨#[]⟩, .string ⟨#[62]⟩, .string ⟨#[]⟩] 9) = W at hh ⊢
        exact ⟨rep_cell hh rfl, rep_cell hh rfl, rep_cell hh rfl, rep_cell hh rfl⟩
      have hb2 : Below w.heap.size w (wr.alloc (.cells #[.string ⟨#[60]⟩, .string ⟨#[]⟩, .string ⟨#[62]⟩, .string ⟨#[]⟩] 9)) := hbw.alloc hbw.size _
      have cN := rep_new wr.heap.size _ hF
      go_wp2_with fail
      refine cN.mono ?_
      clear cN hF
      rintro e W3 ⟨bb, rfl, hbb, hnew, hb3⟩
      have hb03 := hb2.trans (hb3.mono hb2.size)
      have cP := new_replace hnew t (by omega)
      rw [HT.out, HW.out] at cP
      clear hnew
      go_wp2_with fail
      refine cP.mono ?_
      rintro e W4 ⟨rfl, hb4⟩
      go_wp2_with fail
      go_ret2
      exact ⟨rfl, hb03.trans (hb4.mono (Nat.le_trans hb2.size hbb))⟩
end Go.Proofs.YtefgpafoajoofaaGreatDoor
