/-
  What the method word of letterboxref, and more.
-/
import Derived.Test.YtogigccbnohjjaaGreatDoorMRwRd
import Derived.Lib.SmallJoins
namespace Go.Proofs.YtogigccbnohjjaaGreatDoor
open Go.RowKit Go.Proofs.Aid Go.Proofs.Hd
set_option maxHeartbeats 4000000
set_option maxRecDepth 100000
def posOf (w : World) (cb : Nat) : Nat := match w.cell? ⟨cb, 1, none⟩ with
 | some v => (intOf v).toNat
 | none => 0
theorem CdW.pos {w : World} {cb p c : Nat} {s : ByteArray} {e q : Int} (h : CdW w cb s p c e q) : posOf w cb = p := by
 have p1 : w.cell? ⟨cb, 1, none⟩ = some (.int .i64 (p : Int)) := rd_cell h rfl
 unfold posOf
 rw [p1]
 rfl
def SeeAt (s : Tx) (p : Nat) (x : Int) (o : Bool) : Prop := (o = true ∧ ∃ b : UInt8, seeW s p = some b ∧ x = (b.toNat : Int)) ∨ (o = false ∧ seeW s p = none ∧ x = 0)
theorem rsee_any (cb p c : Nat) (s : ByteArray) (w : World) (hr : CdW w cb s p c 0 (-1)) (hf : FineAt w) (hs : s.size ≤ 1000000) (h2 : 2 ≤ s.size) :
  Calls Tryz.prog 53 #[.pointer (some ⟨cb, 0, none⟩)] w fun e w' => (∃ (x : Int) (o : Bool), e = .returned (.tuple #[.int .u8 x, .bool o]) ∧ SeeAt s.data.toList p x o) ∧ Below w.heap.size w w' := by
 cases hq : seeW s.data.toList p with
 | none => exact (rsee_end cb p c s w hr hf hs h2 hq).mono fun e w' h => ⟨⟨0, false, h.1, Or.inr ⟨rfl, hq, rfl⟩⟩, h.2⟩
 | some b => exact (rsee_yes cb p c b s w hr hf hs hq).mono fun e w' h => ⟨⟨_, true, h.1, Or.inl ⟨rfl, b, hq, rfl⟩⟩, h.2⟩
def OutRT (w : World) (cb : Nat) (s : ByteArray) : Wd Tx → Ending → World → Prop
 | .bad n p, e, w' => ∃ (tb : ByteArray) (p' c' : Nat), e = .returned (.string tb) ∧ n ≠ 0 ∧ tb.size ≤ s.size ∧ CdW w' cb s p' c' n (p : Int) ∧ But w.heap.size cb w w'
 | .ok t p c, e, w' => ∃ tb : ByteArray, e = .returned (.string tb) ∧ tb.data.toList = t ∧ CdW w' cb s p c 0 (-1) ∧ But w.heap.size cb w w'
theorem rword_is (cb p c : Nat) (s : ByteArray) (w : World) (hr : CdW w cb s p c 0 (-1)) (hf : FineAt w) (hcf : cb ≠ 0) (hs : s.size ≤ 1000000) (hE : Ends s.data.toList) (hp : p + 2 ≤ s.size) :
  Calls Tryz.prog 31 #[.pointer (some ⟨cb, 0, none⟩)] w fun e w' => OutRT w cb s (wordW s.data.toList p c) e w' := by
 obtain ⟨T, hT⟩ : ∃ T, wordW s.data.toList p c = T := ⟨_, rfl⟩
 rw [hT]
 have HT : Hid (wordW s.data.toList p c = T) := hT
 have HE : Hid (Ends s.data.toList) := hE
 have HF : Hid (FineAt w) := hf
 have p1 : w.cell? ⟨cb, 1, none⟩ = some (.int .i64 (p : Int)) := rd_cell hr rfl
 have cS := rsee_any cb p c s w hr hf hs (by omega)
 have HR : Hid (CdW w cb s p c 0 (-1)) := hr
 clear hT hE hf hr
 go_enter Tryz.func31, Tryz.ntmps31
 go_wp2_with fail
 refine cS.mono ?_
 rintro e w1 ⟨⟨x, o, rfl, hso⟩, hb1⟩
 have HS : Hid (SeeAt s.data.toList p x o ∧ CdW w1 cb s p c 0 (-1) ∧ But w.heap.size cb w w1) := ⟨hso, HR.out.kept (hb1.block cb HR.out.lt), to_but hb1⟩
 clear cS hso hb1 HR p1
 go_wp2_with fail
 go_loopw [4, 5] (fun bv ov wr => ∃ (x : Int) (o : Bool) (q : Nat), bv = .int .u8 x ∧ ov = .bool o ∧ p ≤ q ∧ q + 2 ≤ s.size ∧ Hid (∀ j b, p ≤ j → j < q → s.data.toList[j]? = some b → wordy b = true) ∧ Hid (SeeAt s.data.toList q x o) ∧ CdW wr cb s q c 0 (-1) ∧ But w.heap.size cb w wr) (fun _ _ wr => s.size - posOf wr cb)
 case atStart => exact ⟨x, o, p, rfl, rfl, Nat.le_refl _, hp, fun j b h1 h2 => absurd h2 (by omega), HS.out.1, HS.out.2.1, HS.out.2.2⟩
 case round =>
  clear HS
  obtain ⟨x, o, q, rfl, rfl, hpq, hq2, HA, HSE, hr, hb⟩ := hrel
  have HM : Hid (posOf wr cb = q) := hr.pos
  rcases HSE.out with ⟨rfl, b, hse, rfl⟩ | ⟨rfl, hse, rfl⟩
  ·have cW := rwordy_is b wr
   have HQ : Hid (seeW s.data.toList q = some b) := hse
   clear HSE hse
   cases hwb : wordy b with
   | true =>
    rw [hwb] at cW
    have hlt := (see_some HQ.out).1
    rw [wsize] at hlt
    have p1 : wr.cell? ⟨cb, 1, none⟩ = some (.int .i64 (q : Int)) := rd_cell hr rfl
    have f1 : wr.frozen? ⟨cb, 1, none⟩ = false := rd_free hr 1
    have hset : CdW (wr.setCell ⟨cb, 1, none⟩ (.int .i64 ((q : Int) + 1))) cb s (q + 1) c 0 (-1) := rd_set (i := 1) (.int .i64 ((q : Int) + 1)) hr
    have hb3 : But w.heap.size cb w (wr.setCell ⟨cb, 1, none⟩ (.int .i64 ((q : Int) + 1))) := hb.setB 1 _
    obtain ⟨W3, hW3⟩ : ∃ W, wr.setCell ⟨cb, 1, none⟩ (.int .i64 ((q : Int) + 1)) = W := ⟨_, rfl⟩
    rw [hW3] at hset hb3
    have cS := rsee_any cb (q + 1) c s W3 hset (HF.out.but hb3 hcf) hs (by omega)
    have HX : Hid (∀ j d, p ≤ j → j < q + 1 → s.data.toList[j]? = some d → wordy d = true) := fun j d h1 h2 h3 => by
     by_cases hjq : j = q
     ·subst hjq
      rw [(see_some HQ.out).2] at h3
      injection h3 with h3
      rw [← h3]; exact hwb
     ·exact HA.out j d h1 (by omega) h3
    have HR3 : Hid (CdW W3 cb s (q + 1) c 0 (-1) ∧ But w.heap.size cb w W3) := ⟨hset, hb3⟩
    clear hset hb3 hr hb hwb HQ HA HT
    go_wp2_with fail
    refine cW.mono ?_
    rintro e w2 ⟨rfl, hw⟩
    obtain rfl : wr = w2 := hw.symm
    clear cW hw
    go_wp2_with fail
    refine cS.mono ?_
    rintro e w4 ⟨⟨x4, o4, rfl, hso4⟩, hb4⟩
    have hbs := HR3.out.2.size
    have HD : Hid (SeeAt s.data.toList (q + 1) x4 o4 ∧ CdW w4 cb s (q + 1) c 0 (-1) ∧ But w.heap.size cb w w4) := ⟨hso4, HR3.out.1.kept (hb4.block cb HR3.out.1.lt), HR3.out.2.trans (to_but (hb4.mono hbs))⟩
    clear cS hso4 hb4 hbs HR3
    go_wp2_with fail
    go_roundw
    case rel => exact ⟨x4, o4, q + 1, rfl, rfl, by omega, by omega, HX, HD.out.1, HD.out.2.1, HD.out.2.2⟩
    case measure => rw [HM.out, HD.out.2.1.pos]; omega
   | false =>
    rw [hwb] at cW
    have HX : Hid (∀ d, seeW s.data.toList q = some d → wordy d = false) := fun d h => by
     rw [HQ.out] at h
     injection h with h
     rw [← h]; exact hwb
    clear hwb HQ
    go_wp2_with fail
    refine cW.mono ?_
    rintro e w2 ⟨rfl, hw⟩
    obtain rfl : wr = w2 := hw.symm
    clear cW hw
    have HW : Hid (wordW s.data.toList p c = if q = p then .bad 3 p else .ok ((s.data.toList.drop p).take (q - p)) q c) := word_by HE.out hpq (by rw [wsize]; exact hq2) HA.out HX.out
    clear HX
    have p1 : wr.cell? ⟨cb, 1, none⟩ = some (.int .i64 (q : Int)) := rd_cell hr rfl
    have p0 : wr.cell? ⟨cb, 0, none⟩ = some (.string s) := rd_cell hr rfl
    by_cases hqp : q = p
    ·subst hqp
     have cF := rfail_yes cb q c 3 s wr hr (HF.out.but hb hcf)
     have HB : Hid (But w.heap.size cb w wr) := hb
     have HT1 : Hid (T = .bad 3 q) := by show T = _; rw [← HT.out, HW.out, if_pos rfl]
     clear hr hb HA HW HT HM
     go_wp2_with fail
     refine cF.mono ?_
     rintro e w3 ⟨rfl, hr3, hb3⟩
     have p1 : w3.cell? ⟨cb, 1, none⟩ = some (.int .i64 (q : Int)) := rd_cell hr3 rfl
     have p0 : w3.cell? ⟨cb, 0, none⟩ = some (.string s) := rd_cell hr3 rfl
     have HD : Hid (CdW w3.drew cb s q c 3 (q : Int) ∧ But w.heap.size cb w w3.drew) := ⟨hr3, (HB.out.trans (hb3.less HB.out.size)).trans (to_but (Below.refl _ _).drew)⟩
     clear cF hr3 hb3 HB
     have hqs : q ≤ s.size := by omega
     go_wp2_with fail
     go_region
     all_goals
      go_wp2_with fail
      go_ret
      rw [HT1.out]
      exact ⟨_, q, c, rfl, by decide, Nat.zero_le _, HD.out⟩
    ·have HT1 : Hid (T = .ok ((s.data.toList.drop p).take (q - p)) q c) := by show T = _; rw [← HT.out, HW.out, if_neg hqp]
     have HD : Hid (CdW wr.drew cb s q c 0 (-1) ∧ But w.heap.size cb w wr.drew) := ⟨hr, hb.trans (to_but (Below.refl _ _).drew)⟩
     have hqb : ((q : Int) == (p : Int)) = false := by simp; omega
     have hqs : q ≤ s.size := by omega
     clear hr hb HA HW HT HM
     go_wp2_with fail
     go_region
     all_goals
      go_wp2_with fail
      go_ret
      rw [HT1.out]
      exact ⟨_, rfl, by rw [Lib.extract_data], HD.out⟩
  ·have HX : Hid (∀ d, seeW s.data.toList q = some d → wordy d = false) := fun d h => by rw [hse] at h; cases h
   clear HSE hse
   have HW : Hid (wordW s.data.toList p c = if q = p then .bad 3 p else .ok ((s.data.toList.drop p).take (q - p)) q c) := word_by HE.out hpq (by rw [wsize]; exact hq2) HA.out HX.out
   clear HX
   have p1 : wr.cell? ⟨cb, 1, none⟩ = some (.int .i64 (q : Int)) := rd_cell hr rfl
   have p0 : wr.cell? ⟨cb, 0, none⟩ = some (.string s) := rd_cell hr rfl
   by_cases hqp : q = p
   ·subst hqp
    have cF := rfail_yes cb q c 3 s wr hr (HF.out.but hb hcf)
    have HB : Hid (But w.heap.size cb w wr) := hb
    have HT1 : Hid (T = .bad 3 q) := by show T = _; rw [← HT.out, HW.out, if_pos rfl]
    clear hr hb HA HW HT HM
    go_wp2_with fail
    refine cF.mono ?_
    rintro e w3 ⟨rfl, hr3, hb3⟩
    have p1 : w3.cell? ⟨cb, 1, none⟩ = some (.int .i64 (q : Int)) := rd_cell hr3 rfl
    have p0 : w3.cell? ⟨cb, 0, none⟩ = some (.string s) := rd_cell hr3 rfl
    have HD : Hid (CdW w3.drew cb s q c 3 (q : Int) ∧ But w.heap.size cb w w3.drew) := ⟨hr3, (HB.out.trans (hb3.less HB.out.size)).trans (to_but (Below.refl _ _).drew)⟩
    clear cF hr3 hb3 HB
    have hqs : q ≤ s.size := by omega
    go_wp2_with fail
    go_region
    all_goals
     go_wp2_with fail
     go_ret
     rw [HT1.out]
     exact ⟨_, q, c, rfl, by decide, Nat.zero_le _, HD.out⟩
   ·have HT1 : Hid (T = .ok ((s.data.toList.drop p).take (q - p)) q c) := by show T = _; rw [← HT.out, HW.out, if_neg hqp]
    have HD : Hid (CdW wr.drew cb s q c 0 (-1) ∧ But w.heap.size cb w wr.drew) := ⟨hr, hb.trans (to_but (Below.refl _ _).drew)⟩
    have hqb : ((q : Int) == (p : Int)) = false := by simp; omega
    have hqs : q ≤ s.size := by omega
    clear hr hb HA HW HT HM
    go_wp2_with fail
    go_region
    all_goals
     go_wp2_with fail
     go_ret
     rw [HT1.out]
     exact ⟨_, rfl, by rw [Lib.extract_data], HD.out⟩
end Go.Proofs.YtogigccbnohjjaaGreatDoor
namespace Go.Proofs.YtogigccbnohjjaaGreatDoor
open Go.RowKit Go.Proofs.Aid
theorem conv_z (c : UInt8) (z : Int) (h : (c.toNat : Int) = z) (w : World) : (convert 99 9 (.slice (some ⟨w.heap.size, 0, none⟩) 1 1)).run Tryz.prog (w.alloc (.cells #[.int .u8 z] 5)) = .ok (.string ⟨#[c]⟩) (w.alloc (.cells #[.int .u8 z] 5)) := by
 subst h
 exact run_convert_bytes_back _ 99 9 5 ⟨w.heap.size, 0, none⟩ 1 [c] Tryz.underlying99 Tryz.underlying5 Tryz.underlying9 (fun j hj => by
  obtain rfl : j = 0 := by simpa using hj
  simp [Addr.add])
theorem back_list (c : UInt8) (t : ByteArray) : (t ++ (⟨#[c]⟩ : ByteArray)).data.toList = t.data.toList ++ [c] := by
 rw [Joins.data_append]
theorem back_size (c : UInt8) (t : ByteArray) : (t ++ (⟨#[c]⟩ : ByteArray)).size = t.size + 1 := by
 rw [Lib.size_eq, back_list, List.length_append, ← Lib.size_eq]; rfl
end Go.Proofs.YtogigccbnohjjaaGreatDoor
namespace Go.Proofs.YtogigccbnohjjaaGreatDoor
open Go.RowKit Go.Proofs.Aid Go.Proofs.Hd
set_option maxHeartbeats 2000000
set_option maxRecDepth 100000
theorem gr_snoc {l : Tx} {k : Nat} (hk : k < l.length) : (l.take (k + 1)).map gr = (l.take k).map gr ++ [gr l[k]] := by
 rw [List.take_succ_eq_append_getElem hk, List.map_append]; rfl
theorem ref_great (s : ByteArray) (w : World) (hs : s.size ≤ 1000000) : Calls Tryz.prog 34 #[.string s] w fun e w' => (∃ t : ByteArray, e = .returned (.string t) ∧ t.data.toList = s.data.toList.map gr) ∧ Below w.heap.size w w' := by
 have hla : s.data.toList.length = s.size := by show s.data.toList.length = s.data.size; simp
 go_enter Tryz.func34, Tryz.ntmps34
 go_wp2
 go_loopw [3, 8] (fun ov i wr => ∃ (k : Nat) (t : ByteArray), i = .int .i64 (k : Int) ∧ k ≤ s.size ∧ ov = .string t ∧ t.size = k ∧ Hid (t.data.toList = (s.data.toList.take k).map gr) ∧ Below w.heap.size w wr) (fun _ i _ => s.size - (intOf i).toNat)
 case atStart => exact ⟨0, ⟨#[]⟩, rfl, Nat.zero_le _, rfl, rfl, rfl, Below.refl _ _⟩
 case round =>
  obtain ⟨k, t, rfl, hk, rfl, htk, HT, hbW⟩ := hrel
  by_cases hlt : k < s.size
  ·have hkl : k < s.data.toList.length := by omega
   have hc := s[k].toNat_lt
   by_cases hq : 97 ≤ s[k].toNat ∧ s[k].toNat ≤ 122
   ·have h1 : decide ((97 : Int) ≤ (s[k].toNat : Int)) = true := by simp; omega
    have h2 : decide ((s[k].toNat : Int) ≤ 122) = true := by simp; omega
    have hsm : (gr s[k]).toNat = s[k].toNat - 32 := by
     unfold gr; rw [if_pos hq, UInt8.toNat_sub_of_le _ _ (by rw [UInt8.le_iff_toNat_le]; show 32 ≤ _; omega)]
     rfl
    have hcv := conv_z (gr s[k]) ((s[k].toNat : Int) - 32) (by omega) wr
    obtain ⟨C, hC⟩ : ∃ C, gr s[k] = C := ⟨_, rfl⟩
    have HC : Hid (gr s.data.toList[k] = C) := hC
    rw [hC] at hcv
    have hsz : t.size + (⟨#[C]⟩ : ByteArray).size ≤ 1000001 := by show t.size + 1 ≤ _; omega
    clear hsm hC
    go_wp2
    go_roundw
    case rel => exact ⟨k + 1, t ++ ⟨#[C]⟩, by go_num, by omega, rfl, by rw [back_size, htk], by show _ = _; rw [back_list, gr_snoc hkl, HT.out, HC.out], hbW.alloc hbW.size _⟩
    case measure => simp [intOf]; omega
   ·have hsm : gr s[k] = s[k] := by unfold gr; rw [if_neg hq]
    have hcv := conv_z s[k] (s[k].toNat : Int) rfl wr
    have HC : Hid (gr s.data.toList[k] = s[k]) := hsm
    have hsz : t.size + (⟨#[s[k]]⟩ : ByteArray).size ≤ 1000001 := by show t.size + 1 ≤ _; omega
    clear hsm
    by_cases h1 : 97 ≤ s[k].toNat
    ·have h1' : decide ((97 : Int) ≤ (s[k].toNat : Int)) = true := by simp; omega
     have h2' : decide ((s[k].toNat : Int) ≤ 122) = false := by simp; omega
     go_wp2
     go_roundw
     case rel => exact ⟨k + 1, t ++ ⟨#[s[k]]⟩, by go_num, by omega, rfl, by rw [back_size, htk], by show _ = _; rw [back_list, gr_snoc hkl, HT.out, HC.out], hbW.alloc hbW.size _⟩
     case measure => simp [intOf]; omega
    ·have h1' : decide ((97 : Int) ≤ (s[k].toNat : Int)) = false := by simp; omega
     go_wp2
     go_roundw
     case rel => exact ⟨k + 1, t ++ ⟨#[s[k]]⟩, by go_num, by omega, rfl, by rw [back_size, htk], by show _ = _; rw [back_list, gr_snoc hkl, HT.out, HC.out], hbW.alloc hbW.size _⟩
     case measure => simp [intOf]; omega
  ·have HE : Hid (t.data.toList = s.data.toList.map gr) := by
    have := HT.out
    rw [List.take_of_length_le (by omega)] at this
    exact this
   clear htk
   go_wp2
   go_ret
   exact ⟨⟨t, rfl, HE.out⟩, hbW⟩
end Go.Proofs.YtogigccbnohjjaaGreatDoor
namespace Go.Proofs.YtogigccbnohjjaaGreatDoor
open Go.RowKit Go.Proofs.Aid Go.Proofs.Hd
set_option maxHeartbeats 4000000
set_option maxRecDepth 100000
theorem see_get {s : Tx} {q : Nat} {b : UInt8} (h : seeW s q = some b) : s.getD q 0 = b := by rw [List.getD_eq_getElem?_getD, (see_some h).2]; rfl
theorem see_cr {s : Tx} (hE : Ends s) {q : Nat} (hq : q + 2 ≤ s.length) (h : seeW s q = none) : s.getD q 0 = 13 ∧ s[q]? = some 13 := by
 have := see_none h
 have hcr := hE.cr
 rw [show s.length - 2 = q by omega] at hcr
 exact ⟨by rw [List.getD_eq_getElem?_getD, hcr]; rfl, hcr⟩
theorem not_took {s : Tx} {q : Nat} {x b : UInt8} (h : s[q]? = some b) (hn : b ≠ x) : ¬ tookW [x] s q = true := fun h1 => by
 have := took_one.1 h1
 rw [h] at this
 exact hn (Option.some.inj this)
theorem quo_end {s acc : Tx} (hE : Ends s) {q c f : Nat} (hq : q + 2 ≤ s.length) (h : seeW s q = none) : quotedW s q c acc (f + 1) = .bad 3 q := by
 obtain ⟨h1, h2⟩ := see_cr hE hq h
 rw [quotedW, if_neg (not_took h2 (by decide)), if_neg (not_took h2 (by decide)), h1, if_pos (by decide)]
theorem quo_shut {s acc : Tx} {q c f : Nat} (h : seeW s q = some 34) : quotedW s q c acc (f + 1) = .ok acc (q + 1) c := by
 rw [quotedW, if_pos (took_one.2 (see_some h).2)]
theorem quo_off {s acc : Tx} {q c f : Nat} {b : UInt8} (h : seeW s q = some b) (hb : b = 13 ∨ b = 10 ∨ b = 0) : quotedW s q c acc (f + 1) = .bad 3 q := by
 have h2 := (see_some h).2
 rw [quotedW, if_neg (not_took h2 (by rcases hb with rfl | rfl | rfl <;> decide)), if_neg (not_took h2 (by rcases hb with rfl | rfl | rfl <;> decide)), see_get h, if_pos (by rcases hb with rfl | rfl | rfl <;> decide)]
theorem quo_plain {s acc : Tx} {q c f : Nat} {b : UInt8} (h : seeW s q = some b) (h1 : b ≠ 34) (h2 : b ≠ 92) (h3 : b ≠ 13) (h4 : b ≠ 10) (h5 : b ≠ 0) : quotedW s q c acc (f + 1) = quotedW s (q + 1) c (acc ++ [b]) f := by
 have hs := (see_some h).2
 rw [quotedW, if_neg (not_took hs h1), if_neg (not_took hs h2), see_get h, if_neg (by unfold offQ; simp [h3, h4, h5])]
theorem quo_back_end {s acc : Tx} (hE : Ends s) {q c f : Nat} (hq : q + 1 + 2 ≤ s.length) (h : seeW s q = some 92) (h9 : seeW s (q + 1) = none) : quotedW s q c acc (f + 1) = .bad 3 (q + 1) := by
 have hs := (see_some h).2
 rw [quotedW, if_neg (not_took hs (by decide)), if_pos (took_one.2 hs), (see_cr hE hq h9).1, if_pos (by decide)]
theorem quo_back_off {s acc : Tx} {q c f : Nat} {b : UInt8} (h : seeW s q = some 92) (h9 : seeW s (q + 1) = some b) (h1 : b ≠ 34) (h2 : b ≠ 92) : quotedW s q c acc (f + 1) = .bad 3 (q + 1) := by
 have hs := (see_some h).2
 rw [quotedW, if_neg (not_took hs (by decide)), if_pos (took_one.2 hs), see_get h9, if_pos (by unfold offQ; simp [h1, h2])]
theorem quo_back {s acc : Tx} {q c f : Nat} {b : UInt8} (h : seeW s q = some 92) (h9 : seeW s (q + 1) = some b) (hb : b = 34 ∨ b = 92) : quotedW s q c acc (f + 1) = quotedW s (q + 2) c (acc ++ [b]) f := by
 have hs := (see_some h).2
 rw [quotedW, if_neg (not_took hs (by decide)), if_pos (took_one.2 hs), see_get h9, if_neg (by rcases hb with rfl | rfl <;> decide)]
theorem rquoted_is (cb p c : Nat) (s : ByteArray) (w : World) (hr : CdW w cb s p c 0 (-1)) (hf : FineAt w) (hcf : cb ≠ 0) (hs : s.size ≤ 1000000) (hE : Ends s.data.toList) (hp : p + 2 < s.size) :
  Calls Tryz.prog 55 #[.pointer (some ⟨cb, 0, none⟩)] w fun e w' => OutRT w cb s (quotedW s.data.toList (p + 1) c [] s.data.toList.length) e w' := by
 obtain ⟨T, hT⟩ : ∃ T, quotedW s.data.toList (p + 1) c [] s.data.toList.length = T := ⟨_, rfl⟩
 rw [hT]
 rw [wsize] at hT
 have HE : Hid (Ends s.data.toList) := hE
 have HF : Hid (FineAt w) := hf
 have p1 : w.cell? ⟨cb, 1, none⟩ = some (.int .i64 (p : Int)) := rd_cell hr rfl
 have f1 : w.frozen? ⟨cb, 1, none⟩ = false := rd_free hr 1
 have hset : CdW (w.setCell ⟨cb, 1, none⟩ (.int .i64 ((p : Int) + 1))) cb s (p + 1) c 0 (-1) := rd_set (i := 1) (.int .i64 ((p : Int) + 1)) hr
 have hbset : But w.heap.size cb w (w.setCell ⟨cb, 1, none⟩ (.int .i64 ((p : Int) + 1))) := (to_but (Below.refl _ _)).setB 1 _
 have HS : Hid (quotedW s.data.toList (p + 1) c [] s.size = T ∧ CdW (w.setCell ⟨cb, 1, none⟩ (.int .i64 ((p : Int) + 1))) cb s (p + 1) c 0 (-1) ∧ But w.heap.size cb w (w.setCell ⟨cb, 1, none⟩ (.int .i64 ((p : Int) + 1)))) := ⟨hT, hset, hbset⟩
 clear hT hE hf hr hset hbset
 go_enter Tryz.func55, Tryz.ntmps55
 go_wp2_with fail
 go_loopw [3] (fun sv wr => ∃ (t : ByteArray) (q f : Nat), sv = .string t ∧ q + 2 ≤ s.size ∧ Hid (quotedW s.data.toList q c t.data.toList f = T) ∧ s.size ≤ q + f ∧ t.size ≤ q ∧ CdW wr cb s q c 0 (-1) ∧ But w.heap.size cb w wr) (fun _ wr => s.size - posOf wr cb)
 case atStart => exact ⟨⟨#[]⟩, p + 1, s.size, rfl, by omega, HS.out.1, by omega, Nat.zero_le _, HS.out.2.1, HS.out.2.2⟩
 case round =>
  clear HS p1 f1
  obtain ⟨t, q, f, rfl, hq2, HT0, hqf, htq, hr0, hb0⟩ := hrel
  have HM : Hid (posOf wr cb = q) := hr0.pos
  obtain ⟨g, rfl⟩ : ∃ g, f = g + 1 := ⟨f - 1, by omega⟩
  have HT : Hid (quotedW s.data.toList q c t.data.toList (g + 1) = T) := HT0.out
  clear HT0
  cases hse : seeW s.data.toList q with
  | none =>
   have cS := rsee_end cb q c s wr hr0 (HF.out.but hb0 hcf) hs (by omega) hse
   have HQ : Hid (seeW s.data.toList q = none) := hse
   have HR0 : Hid (CdW wr cb s q c 0 (-1) ∧ But w.heap.size cb w wr) := ⟨hr0, hb0⟩
   clear hse hr0 hb0
   go_wp2_with fail
   refine cS.mono ?_
   rintro e w1 ⟨rfl, hb1⟩
   have hr : CdW w1 cb s q c 0 (-1) := HR0.out.1.kept (hb1.block cb HR0.out.1.lt)
   have hb : But w.heap.size cb w w1 := HR0.out.2.trans (to_but (hb1.mono HR0.out.2.size))
   have cF := rfail_yes cb q c 3 s w1 hr (HF.out.but hb hcf)
   have HB : Hid (But w.heap.size cb w w1) := hb
   have HT1 : Hid (T = .bad 3 (q)) := by show T = _; rw [← HT.out]; exact quo_end HE.out (by rw [wsize]; exact hq2) HQ.out
   clear cS hb1 hr hb HQ HR0 HT HM
   go_wp2_with fail
   refine cF.mono ?_
   rintro e w9 ⟨rfl, hr9, hb9⟩
   have HD : Hid (CdW w9 cb s (q) c 3 ((q : Nat) : Int) ∧ But w.heap.size cb w w9) := ⟨hr9, HB.out.trans (hb9.less HB.out.size)⟩
   clear cF hr9 hb9 HB
   go_wp2_with fail
   go_ret
   rw [HT1.out]
   exact ⟨_, _, c, rfl, by decide, Nat.zero_le _, HD.out⟩
  | some b =>
   have cS := rsee_yes cb q c b s wr hr0 (HF.out.but hb0 hcf) hs hse
   have HQ : Hid (seeW s.data.toList q = some b) := hse
   have hlt := (see_some hse).1
   rw [wsize] at hlt
   have HR0 : Hid (CdW wr cb s q c 0 (-1) ∧ But w.heap.size cb w wr) := ⟨hr0, hb0⟩
   have h256 := b.toNat_lt
   clear hse hr0 hb0
   by_cases hoff : b = 13 ∨ b = 10 ∨ b = 0
   ·have HOFF : Hid (b = 13 ∨ b = 10 ∨ b = 0) := hoff
    have HTB : Hid (T = .bad 3 q) := by show T = _; rw [← HT.out]; exact quo_off HQ.out HOFF.out
    clear HQ
    rcases hoff with rfl | rfl | rfl
    all_goals
     (first | rw [show ((13 : UInt8).toNat : Int) = 13 from rfl] at cS | rw [show ((10 : UInt8).toNat : Int) = 10 from rfl] at cS | rw [show ((0 : UInt8).toNat : Int) = 0 from rfl] at cS)
     clear h256
     go_wp2_with fail
     refine cS.mono ?_
     rintro e w1 ⟨rfl, hb1⟩
     have hr : CdW w1 cb s q c 0 (-1) := HR0.out.1.kept (hb1.block cb HR0.out.1.lt)
     have hb : But w.heap.size cb w w1 := HR0.out.2.trans (to_but (hb1.mono HR0.out.2.size))
     have cF := rfail_yes cb q c 3 s w1 hr (HF.out.but hb hcf)
     have HB : Hid (But w.heap.size cb w w1) := hb
     have HT1 : Hid (T = .bad 3 (q)) := by show T = _; rw [← HT.out]; exact HT.out.trans HTB.out
     clear cS hb1 hr hb HR0 HT HM HOFF
     go_wp2_with fail
     refine cF.mono ?_
     rintro e w9 ⟨rfl, hr9, hb9⟩
     have HD : Hid (CdW w9 cb s (q) c 3 ((q : Nat) : Int) ∧ But w.heap.size cb w w9) := ⟨hr9, HB.out.trans (hb9.less HB.out.size)⟩
     clear cF hr9 hb9 HB
     go_wp2_with fail
     go_ret
     rw [HT1.out]
     exact ⟨_, _, c, rfl, by decide, Nat.zero_le _, HD.out⟩
   ·have n13 : b ≠ 13 := fun e => hoff (Or.inl e)
    have n10 : b ≠ 10 := fun e => hoff (Or.inr (Or.inl e))
    have n0 : b ≠ 0 := fun e => hoff (Or.inr (Or.inr e))
    have m13 : ((b.toNat : Int) == 13) = false := by rw [beq_eq_false_iff_ne]; intro e; exact n13 (UInt8.toNat_inj.1 (by show b.toNat = 13; omega))
    have m10 : ((b.toNat : Int) == 10) = false := by rw [beq_eq_false_iff_ne]; intro e; exact n10 (UInt8.toNat_inj.1 (by show b.toNat = 10; omega))
    have m0 : ((b.toNat : Int) == 0) = false := by rw [beq_eq_false_iff_ne]; intro e; exact n0 (UInt8.toNat_inj.1 (by show b.toNat = 0; omega))
    clear hoff
    go_wp2_with fail
    refine cS.mono ?_
    rintro e w1 ⟨rfl, hb1⟩
    have hr : CdW w1 cb s q c 0 (-1) := HR0.out.1.kept (hb1.block cb HR0.out.1.lt)
    have hb : But w.heap.size cb w w1 := HR0.out.2.trans (to_but (hb1.mono HR0.out.2.size))
    have p1 : w1.cell? ⟨cb, 1, none⟩ = some (.int .i64 (q : Int)) := rd_cell hr rfl
    have f1 : w1.frozen? ⟨cb, 1, none⟩ = false := rd_free hr 1
    have hset : CdW (w1.setCell ⟨cb, 1, none⟩ (.int .i64 ((q : Int) + 1))) cb s (q + 1) c 0 (-1) := rd_set (i := 1) (.int .i64 ((q : Int) + 1)) hr
    have hb3 : But w.heap.size cb w (w1.setCell ⟨cb, 1, none⟩ (.int .i64 ((q : Int) + 1))) := hb.setB 1 _
    obtain ⟨W3, hW3⟩ : ∃ W, w1.setCell ⟨cb, 1, none⟩ (.int .i64 ((q : Int) + 1)) = W := ⟨_, rfl⟩
    rw [hW3] at hset hb3
    have HR3 : Hid (CdW W3 cb s (q + 1) c 0 (-1) ∧ But w.heap.size cb w W3) := ⟨hset, hb3⟩
    clear cS hb1 hr hb HR0 hset hb3
    by_cases h34 : b = 34
    ·subst h34
     rw [show ((34 : UInt8).toNat : Int) = 34 from rfl]
     have HT1 : Hid (T = .ok t.data.toList (q + 1) c) := by show T = _; rw [← HT.out]; exact quo_shut HQ.out
     clear m13 m10 m0 n13 n10 n0 h256 HT HQ HM
     go_wp2_with fail
     go_ret
     rw [HT1.out]
     exact ⟨t, rfl, rfl, HR3.out⟩
    have m34 : ((b.toNat : Int) == 34) = false := by rw [beq_eq_false_iff_ne]; intro e; exact h34 (UInt8.toNat_inj.1 (by show b.toNat = 34; omega))
    by_cases h92 : b = 92
    ·subst h92
     have c92 : ((92 : UInt8).toNat : Int) = 92 := rfl
     rw [c92] at m13 m10 m0 m34 ⊢
     clear m13 m10 m0 n13 n10 n0 h256 m34 h34 c92
     cases hs9 : seeW s.data.toList (q + 1) with
     | none =>
      have cS := rsee_end cb (q + 1) c s W3 HR3.out.1 (HF.out.but HR3.out.2 hcf) hs (by omega) hs9
      have HTB : Hid (T = .bad 3 (q + 1)) := by show T = _; rw [← HT.out]; exact quo_back_end HE.out (by rw [wsize]; omega) HQ.out hs9
      clear hs9
      go_wp2_with fail
      refine cS.mono ?_
      rintro e w4 ⟨rfl, hb4⟩
      have hr : CdW w4 cb s (q + 1) c 0 (-1) := HR3.out.1.kept (hb4.block cb HR3.out.1.lt)
      have hb : But w.heap.size cb w w4 := HR3.out.2.trans (to_but (hb4.mono HR3.out.2.size))
      have cF := rfail_yes cb (q + 1) c 3 s w4 hr (HF.out.but hb hcf)
      have HB : Hid (But w.heap.size cb w w4) := hb
      have HT1 : Hid (T = .bad 3 ((q + 1))) := by show T = _; rw [← HT.out]; exact HT.out.trans HTB.out
      clear cS hb4 hr hb HR3 HT HM HQ
      go_wp2_with fail
      refine cF.mono ?_
      rintro e w9 ⟨rfl, hr9, hb9⟩
      have HD : Hid (CdW w9 cb s ((q + 1)) c 3 (((q + 1) : Nat) : Int) ∧ But w.heap.size cb w w9) := ⟨hr9, HB.out.trans (hb9.less HB.out.size)⟩
      clear cF hr9 hb9 HB
      go_wp2_with fail
      go_ret
      rw [HT1.out]
      exact ⟨_, _, c, rfl, by decide, Nat.zero_le _, HD.out⟩
     | some d =>
      have cS := rsee_yes cb (q + 1) c d s W3 HR3.out.1 (HF.out.but HR3.out.2 hcf) hs hs9
      have hlt9 := (see_some hs9).1
      rw [wsize] at hlt9
      have HQ9 : Hid (seeW s.data.toList (q + 1) = some d) := hs9
      have h256 := d.toNat_lt
      clear hs9
      by_cases hd : d = 34 ∨ d = 92
      ·have HTQ : Hid (quotedW s.data.toList (q + 2) c (t.data.toList ++ [d]) g = T) := by show _ = T; rw [← HT.out]; exact (quo_back HQ.out HQ9.out hd).symm
       have m2 : ((d.toNat : Int) != 34 && (d.toNat : Int) != 92) = false := by rcases hd with rfl | rfl <;> rfl
       have hdd : (d.toNat : Int) = 34 ∨ (d.toNat : Int) = 92 := by rcases hd with rfl | rfl <;> simp
       clear hd HT HQ HQ9
       go_wp2_with fail
       refine cS.mono ?_
       rintro e w4 ⟨rfl, hb4⟩
       have hr : CdW w4 cb s (q + 1) c 0 (-1) := HR3.out.1.kept (hb4.block cb HR3.out.1.lt)
       have hb : But w.heap.size cb w w4 := HR3.out.2.trans (to_but (hb4.mono HR3.out.2.size))
       have p1 : w4.cell? ⟨cb, 1, none⟩ = some (.int .i64 ((q : Int) + 1)) := by have h : w4.cell? ⟨cb, 1, none⟩ = some (.int .i64 ((q + 1 : Nat) : Int)) := rd_cell hr rfl; rw [h]; rfl
       have f1 : w4.frozen? ⟨cb, 1, none⟩ = false := rd_free hr 1
       have hset : CdW (w4.setCell ⟨cb, 1, none⟩ (.int .i64 ((q : Int) + 1 + 1))) cb s (q + 2) c 0 (-1) := rd_set (i := 1) (.int .i64 ((q : Int) + 1 + 1)) hr
       have hb5 : But w.heap.size cb w (w4.setCell ⟨cb, 1, none⟩ (.int .i64 ((q : Int) + 1 + 1))) := hb.setB 1 _
       obtain ⟨W5, hW5⟩ : ∃ W, w4.setCell ⟨cb, 1, none⟩ (.int .i64 ((q : Int) + 1 + 1)) = W := ⟨_, rfl⟩
       rw [hW5] at hset hb5
       have hcv := conv_z d (d.toNat : Int) rfl W5
       have b6 : Below W5.heap.size W5 (W5.alloc (.cells #[.int .u8 (d.toNat : Int)] 5)) := (Below.refl _ _).alloc (Nat.le_refl _) _
       have hsz : t.size + (⟨#[d]⟩ : ByteArray).size ≤ 1000001 := by show t.size + 1 ≤ _; omega
       have HD : Hid (CdW (W5.alloc (.cells #[.int .u8 (d.toNat : Int)] 5)) cb s (q + 2) c 0 (-1) ∧ But w.heap.size cb w (W5.alloc (.cells #[.int .u8 (d.toNat : Int)] 5))) := ⟨hset.kept (b6.block cb hset.lt), hb5.trans (to_but (b6.mono hb5.size))⟩
       clear cS hb4 hr hb HR3 hset hb5 b6
       rcases hdd with hdd | hdd
       all_goals
        rw [hdd] at hcv HD m2 ⊢
        clear hdd h256 m2
        go_wp2_with fail
        go_roundw
        case rel => exact ⟨t ++ ⟨#[d]⟩, q + 2, g, rfl, by omega, by rw [back_list]; exact HTQ, by omega, by rw [back_size]; omega, HD.out.1, HD.out.2⟩
        case measure => rw [HM.out, HD.out.1.pos]; omega
      ·have d34 : d ≠ 34 := fun e => hd (Or.inl e)
       have d92 : d ≠ 92 := fun e => hd (Or.inr e)
       have m34 : ((d.toNat : Int) != 34) = true := by rw [bne_iff_ne]; intro e; exact d34 (UInt8.toNat_inj.1 (by show d.toNat = 34; omega))
       have m92 : ((d.toNat : Int) != 92) = true := by rw [bne_iff_ne]; intro e; exact d92 (UInt8.toNat_inj.1 (by show d.toNat = 92; omega))
       have HTB : Hid (T = .bad 3 (q + 1)) := by show T = _; rw [← HT.out]; exact quo_back_off HQ.out HQ9.out d34 d92
       clear hd HQ HQ9 d34 d92 h256
       go_wp2_with fail
       refine cS.mono ?_
       rintro e w4 ⟨rfl, hb4⟩
       have hr : CdW w4 cb s (q + 1) c 0 (-1) := HR3.out.1.kept (hb4.block cb HR3.out.1.lt)
       have hb : But w.heap.size cb w w4 := HR3.out.2.trans (to_but (hb4.mono HR3.out.2.size))
       have cF := rfail_yes cb (q + 1) c 3 s w4 hr (HF.out.but hb hcf)
       have HB : Hid (But w.heap.size cb w w4) := hb
       have HT1 : Hid (T = .bad 3 ((q + 1))) := by show T = _; rw [← HT.out]; exact HT.out.trans HTB.out
       clear cS hb4 hr hb HR3 HT HM
       go_wp2_with fail
       refine cF.mono ?_
       rintro e w9 ⟨rfl, hr9, hb9⟩
       have HD : Hid (CdW w9 cb s ((q + 1)) c 3 (((q + 1) : Nat) : Int) ∧ But w.heap.size cb w w9) := ⟨hr9, HB.out.trans (hb9.less HB.out.size)⟩
       clear cF hr9 hb9 HB
       go_wp2_with fail
       go_ret
       rw [HT1.out]
       exact ⟨_, _, c, rfl, by decide, Nat.zero_le _, HD.out⟩
    ·have m92 : ((b.toNat : Int) == 92) = false := by rw [beq_eq_false_iff_ne]; intro e; exact h92 (UInt8.toNat_inj.1 (by show b.toNat = 92; omega))
     have HTQ : Hid (quotedW s.data.toList (q + 1) c (t.data.toList ++ [b]) g = T) := by show _ = T; rw [← HT.out]; exact (quo_plain HQ.out h34 h92 n13 n10 n0).symm
     have hcv := conv_z b (b.toNat : Int) rfl W3
     have b6 : Below W3.heap.size W3 (W3.alloc (.cells #[.int .u8 (b.toNat : Int)] 5)) := (Below.refl _ _).alloc (Nat.le_refl _) _
     have hsz : t.size + (⟨#[b]⟩ : ByteArray).size ≤ 1000001 := by show t.size + 1 ≤ _; omega
     have HD : Hid (CdW (W3.alloc (.cells #[.int .u8 (b.toNat : Int)] 5)) cb s (q + 1) c 0 (-1) ∧ But w.heap.size cb w (W3.alloc (.cells #[.int .u8 (b.toNat : Int)] 5))) := ⟨HR3.out.1.kept (b6.block cb HR3.out.1.lt), HR3.out.2.trans (to_but (b6.mono HR3.out.2.size))⟩
     clear HR3 b6 HT HQ h34 h92 n13 n10 n0
     go_wp2_with fail
     go_roundw
     case rel => exact ⟨t ++ ⟨#[b]⟩, q + 1, g, rfl, by omega, by rw [back_list]; exact HTQ, by omega, by rw [back_size]; omega, HD.out.1, HD.out.2⟩
     case measure => rw [HM.out, HD.out.1.pos]; omega
end Go.Proofs.YtogigccbnohjjaaGreatDoor
