/-
  A reader of package archive in memory: reading a number, a text.
-/
import Derived.Test.YtdmplfflmdanlaaGreatDoorBpAcDeed
import Derived.Lib.MinMax
namespace Go.Proofs.YtdmplfflmdanlaaGreatDoor
open Go.RowKit Go.Proofs.Aid Go.Proofs.Bx

/-- A reader at block rb: what is left to be read. -/
def Rdr (rb : Nat) (s : Nm) (w : World) : Prop := ∃ R : ByteArray, R.data.toList = s ∧ w.heap[rb]? = some (.cells #[.string R] 108 (0, 0))
theorem Rdr.below {rb : Nat} {s : Nm} {w w' : World} (h : Rdr rb s w) (hb : Below w.heap.size w w') : Rdr rb s w' := by
  obtain ⟨R, h1, h2⟩ := h
  exact ⟨R, h1, (hb.block rb (Array.getElem?_eq_some_iff.1 h2).1).trans h2⟩
theorem Rdr.lt {rb : Nat} {s : Nm} {w : World} (h : Rdr rb s w) : rb < w.heap.size := by
  obtain ⟨R, _, h2⟩ := h
  exact (Array.getElem?_eq_some_iff.1 h2).1
/-- What reading reads of the world. -/
def RdE (w : World) : Prop := (∃ m : Int, w.cell? ⟨0, 0, none⟩ = some (.int .i64 m)) ∧ (∃ te pe, w.cell? ⟨6, 0, none⟩ = some (.iface te pe)) ∧ ∃ te pe, w.cell? ⟨7, 0, none⟩ = some (.iface te pe)
theorem RdE.below {w w' : World} (h : RdE w) (hb : Below w.heap.size w w') : RdE w' := by
  obtain ⟨⟨m, h1⟩, ⟨a, b, h2⟩, c, d, h3⟩ := h
  exact ⟨⟨m, (hb.cell (p := ⟨_, _, none⟩) (World.block_lt_of_cell? _ _ h1)).trans h1⟩, ⟨a, b, (hb.cell (p := ⟨_, _, none⟩) (World.block_lt_of_cell? _ _ h2)).trans h2⟩, c, d, (hb.cell (p := ⟨_, _, none⟩) (World.block_lt_of_cell? _ _ h3)).trans h3⟩
theorem RdE.but {rb : Nat} {s : Nm} {w w' : World} (h : RdE w) (hr : Rdr rb s w) (hb : But w.heap.size rb w w') : RdE w' := by
  obtain ⟨⟨m, h1⟩, ⟨a, b, h2⟩, c, d, h3⟩ := h
  obtain ⟨R, _, hh⟩ := hr
  have key : ∀ {g : Nat} {v : Value}, w.cell? ⟨g, 0, none⟩ = some v → (∀ s, v ≠ .string s) → w'.cell? ⟨g, 0, none⟩ = some v := fun {g v} hc hv => by
    refine (hb.cell (p := ⟨g, 0, none⟩) (World.block_lt_of_cell? _ _ hc) fun e => ?_).trans hc
    have e : g = rb := e
    subst e
    have : w.cell? ⟨g, 0, none⟩ = some (.string R) := rd_cell hh rfl
    rw [this] at hc
    exact hv R (Option.some.inj hc).symm
  exact ⟨⟨m, key h1 (fun s e => by cases e)⟩, ⟨a, b, key h2 (fun s e => by cases e)⟩, c, d, key h3 (fun s e => by cases e)⟩
theorem until_ge (c : UInt8) (s : Nm) : 0 ≤ (untilS c s).1 ∧ (untilS c s).1 ≤ 9223372036854775807 := by
  unfold untilS
  split
  · next n h =>
    split
    · exact ⟨by simp, by simp⟩
    · refine ⟨by show 0 ≤ n; omega, ?_⟩
      show n ≤ _
      unfold Lib.atoiAll at h
      split at h
      · cases h
      · simp only at h
        split at h
        · cases h
        · cases h
        · split at h
          · cases h
          · split at h
            · cases h
            · next u _ h1 h2 =>
              cases h
              split <;> (rename_i h3; simp only [h3, not_true, not_false_eq_true, true_and, false_and] at h1 h2; omega)
  · exact ⟨by simp, by simp⟩
theorem cutAt_rest (c : UInt8) (s : Nm) : (Sq.cutAt c s).2.1.length ≤ s.length ∧ (Sq.cutAt c s).1.length ≤ s.length := by
  induction s with
  | nil => simp [Sq.cutAt]
  | cons b r ih =>
    rw [Sq.cutAt]
    split
    · simp
    · simp only [List.length_cons]; omega
theorem until_len (c : UInt8) (s : Nm) : (untilS c s).2.length ≤ s.length := by
  unfold untilS
  split
  · split
    · simp
    · exact (cutAt_rest c s).1
  · simp
theorem atext_len (s : Nm) : (textS s).2.length ≤ s.length ∧ (textS s).1.length ≤ s.length := by
  have := until_len 58 s
  unfold textS
  simp only [List.length_drop, List.length_take]
  omega
theorem acut_call (c : UInt8) (s : ByteArray) (w : World) (hs : s.size ≤ 2000000000) (hE : RdE w) :
    Calls Tryz.prog 172 #[.string s, .string ⟨#[c]⟩] w fun e w' => e = .returned (.tuple #[.string ⟨(Sq.cutAt c s.data.toList).1.toArray⟩, .string ⟨(Sq.cutAt c s.data.toList).2.1.toArray⟩, .bool (Sq.cutAt c s.data.toList).2.2]) ∧ Below w.heap.size w w' := by
  obtain ⟨m, hm⟩ := hE.1
  refine (Tryz.strings_Cut s ⟨#[c]⟩ m w (by omega) hm).mono ?_
  rintro e w' ⟨rfl, n, rfl⟩
  rw [show Lib.cut s.data.toList (⟨#[c]⟩ : ByteArray).data.toList = Sq.cutAt c s.data.toList from Sq.cut_eq c _]
  exact ⟨rfl, below_drewN (Below.refl _ _) _⟩
theorem arBytes (w : World) (s : ByteArray) : Below w.heap.size w (Lib.bytesWorld w 5 s) := ⟨rfl, rfl, rfl, by rw [Lib.bytesWorld_size]; omega, fun j hj => Lib.bytesWorld_at_old w 5 s j hj⟩
set_option maxHeartbeats 4000000 in
set_option maxRecDepth 100000 in
theorem until_is (c : UInt8) (rb : Nat) (s : Nm) (w : World) (h : Rdr rb s w) (hE : RdE w) (hs : s.length ≤ 1000000000) :
    Calls Tryz.prog 117 #[.pointer (some ⟨rb, 0, none⟩), .string ⟨#[c]⟩] w fun e w' => e = .returned (.int .i64 (untilS c s).1) ∧ Rdr rb (untilS c s).2 w' ∧ But w.heap.size rb w w' := by
  obtain ⟨R, hR, hh⟩ := h
  have hRz : R.size = s.length := by rw [← hR]; exact Lib.size_eq R
  have cC := acut_call c R w (by omega) hE
  rw [hR] at cC
  have hlen := cutAt_rest c s
  have hU : untilS c s = match Lib.atoiAll (Sq.cutAt c s).1 with | .ok n => if n < 0 then (0, []) else (n, (Sq.cutAt c s).2.1) | _ => (0, []) := rfl
  rw [hU]
  obtain ⟨D, hD⟩ : ∃ d, (Sq.cutAt c s).1 = d := ⟨_, rfl⟩
  obtain ⟨X, hX⟩ : ∃ d, (Sq.cutAt c s).2.1 = d := ⟨_, rfl⟩
  obtain ⟨T, hT⟩ : ∃ d, (Sq.cutAt c s).2.2 = d := ⟨_, rfl⟩
  rw [hD, hX, hT] at cC
  rw [hD] at hlen ⊢
  rw [hX] at hlen ⊢
  obtain ⟨db, hdb⟩ : ∃ t : ByteArray, ⟨D.toArray⟩ = t := ⟨_, rfl⟩
  obtain ⟨xb, hxb⟩ : ∃ t : ByteArray, ⟨X.toArray⟩ = t := ⟨_, rfl⟩
  have hdl : db.data.toList = D := by rw [← hdb]
  have hxl : xb.data.toList = X := by rw [← hxb]
  have hdz : db.size ≤ 1000000000 := by have := Lib.size_eq db; rw [hdl] at this; omega
  rw [hdb, hxb] at cC
  rw [← hdl]
  have c0 : w.cell? ⟨rb, 0, none⟩ = some (.string R) := rd_cell hh rfl
  have HX : Hid (w.heap[rb]? = some (.cells #[.string R] 108 (0, 0)) ∧ xb.data.toList = X ∧ RdE w) := ⟨hh, hxl, hE⟩
  have hfin : ∀ (W : World) (n : ByteArray) (l : Nm), n.data.toList = l → Below w.heap.size w W → Rdr rb l (W.setCell ⟨rb, 0, none⟩ (.string n)) ∧ But w.heap.size rb w (W.setCell ⟨rb, 0, none⟩ (.string n)) := fun W n l hn hW => by
    have e1 := (hW.block rb (Array.getElem?_eq_some_iff.1 hh).1).trans hh
    exact ⟨⟨n, hn, rd_set (i := 0) (.string n) e1⟩, (to_but hW).setB _ _⟩
  have HF : Hid (∀ (W : World) (n : ByteArray) (l : Nm), n.data.toList = l → Below w.heap.size w W → Rdr rb l (W.setCell ⟨rb, 0, none⟩ (.string n)) ∧ But w.heap.size rb w (W.setCell ⟨rb, 0, none⟩ (.string n))) := hfin
  clear hfin hE hR hRz hdl hxl hdb hxb hD hX hT hlen hU hh hs
  cases hA : Lib.atoiAll db.data.toList with
  | ok n =>
    have cA := fun W => Tryz.strconv_Atoi_ok db (by omega) n hA W
    clear hA
    simp only
    by_cases h1 : n < 0
    · have d1 : decide (n < 0) = true := decide_eq_true h1
      rw [if_pos h1]
      go_enter Tryz.func117, Tryz.ntmps117
      go_wp2_with fail
      refine cC.mono ?_
      rintro e w1 ⟨rfl, hb1⟩
      have c1 : w1.cell? ⟨rb, 0, none⟩ = some (.string R) := (hb1.cell (p := ⟨rb, 0, none⟩) (World.block_lt_of_cell? _ _ c0)).trans c0
      have HB : Hid (Below w.heap.size w w1) := hb1
      clear cC hb1 c0
      go_wp2_with fail
      refine (cA w1).mono ?_
      rintro e w2 ⟨rfl, hw2⟩
      have hb2 : Below w1.heap.size w1 w2 := by
        rcases hw2 with rfl | ⟨t, rfl⟩
        · exact Below.refl _ _
        · exact arBytes w1 t
      have c2 : w2.cell? ⟨rb, 0, none⟩ = some (.string R) := (hb2.cell (p := ⟨rb, 0, none⟩) (World.block_lt_of_cell? _ _ c1)).trans c1
      have f2 : w2.frozen? ⟨rb, 0, none⟩ = false := rd_free ((hb2.block rb (World.block_lt_of_cell? _ _ c1)).trans ((HB.out.block rb (Array.getElem?_eq_some_iff.1 HX.out.1).1).trans HX.out.1)) 0
      have HB2 : Hid (Below w.heap.size w w2) := HB.out.trans (hb2.mono HB.out.size)
      clear cA hb2 hw2 c1
      go_wp2_with fail
      go_ret
      exact ⟨rfl, HF.out w2 _ [] rfl HB2.out⟩
    · have d1 : decide (n < 0) = false := decide_eq_false h1
      rw [if_neg h1]
      go_enter Tryz.func117, Tryz.ntmps117
      go_wp2_with fail
      refine cC.mono ?_
      rintro e w1 ⟨rfl, hb1⟩
      have c1 : w1.cell? ⟨rb, 0, none⟩ = some (.string R) := (hb1.cell (p := ⟨rb, 0, none⟩) (World.block_lt_of_cell? _ _ c0)).trans c0
      have HB : Hid (Below w.heap.size w w1) := hb1
      clear cC hb1 c0
      go_wp2_with fail
      refine (cA w1).mono ?_
      rintro e w2 ⟨rfl, hw2⟩
      have hb2 : Below w1.heap.size w1 w2 := by
        rcases hw2 with rfl | ⟨t, rfl⟩
        · exact Below.refl _ _
        · exact arBytes w1 t
      have c2 : w2.cell? ⟨rb, 0, none⟩ = some (.string R) := (hb2.cell (p := ⟨rb, 0, none⟩) (World.block_lt_of_cell? _ _ c1)).trans c1
      have f2 : w2.frozen? ⟨rb, 0, none⟩ = false := rd_free ((hb2.block rb (World.block_lt_of_cell? _ _ c1)).trans ((HB.out.block rb (Array.getElem?_eq_some_iff.1 HX.out.1).1).trans HX.out.1)) 0
      have HB2 : Hid (Below w.heap.size w w2) := HB.out.trans (hb2.mono HB.out.size)
      clear cA hb2 hw2 c1
      go_wp2_with fail
      go_ret
      exact ⟨rfl, HF.out w2 xb X HX.out.2.1 HB2.out⟩
  | «syntax» =>
    have cA : ∀ W, RdE W → Calls Tryz.prog 157 #[.string db] W fun e w' => (∃ N, e = .returned (.tuple #[.int .i64 (0), .iface 272 (.pointer (some ⟨N, 0, none⟩))])) ∧ Below W.heap.size W w' := fun W hE => by
      obtain ⟨te, pe, hc⟩ := hE.2.1
      exact (Tryz.strconv_Atoi_syntax db (by omega) hA _ W hc (Or.inr ⟨te, pe, rfl⟩)).mono fun e w' ⟨N, h1, _, _, h2⟩ => ⟨⟨N, h1⟩, h2⟩
    clear hA
    simp only
    go_enter Tryz.func117, Tryz.ntmps117
    go_wp2_with fail
    refine cC.mono ?_
    rintro e w1 ⟨rfl, hb1⟩
    have c1 : w1.cell? ⟨rb, 0, none⟩ = some (.string R) := (hb1.cell (p := ⟨rb, 0, none⟩) (World.block_lt_of_cell? _ _ c0)).trans c0
    have HB : Hid (Below w.heap.size w w1) := hb1
    clear cC hb1 c0
    go_wp2_with fail
    refine (cA w1 (HX.out.2.2.below HB.out)).mono ?_
    rintro e w2 ⟨⟨N, rfl⟩, hb2⟩
    have c2 : w2.cell? ⟨rb, 0, none⟩ = some (.string R) := (hb2.cell (p := ⟨rb, 0, none⟩) (World.block_lt_of_cell? _ _ c1)).trans c1
    have f2 : w2.frozen? ⟨rb, 0, none⟩ = false := rd_free ((hb2.block rb (World.block_lt_of_cell? _ _ c1)).trans ((HB.out.block rb (Array.getElem?_eq_some_iff.1 HX.out.1).1).trans HX.out.1)) 0
    have HB2 : Hid (Below w.heap.size w w2) := HB.out.trans (hb2.mono HB.out.size)
    clear cA hb2 c1
    go_wp2_with fail
    go_ret
    exact ⟨rfl, HF.out w2 _ [] rfl HB2.out⟩
  | range =>
    obtain ⟨z, hz⟩ : ∃ z, Lib.atoiSat db.data.toList = z := ⟨_, rfl⟩
    have cA : ∀ W, RdE W → Calls Tryz.prog 157 #[.string db] W fun e w' => (∃ N, e = .returned (.tuple #[.int .i64 z, .iface 272 (.pointer (some ⟨N, 0, none⟩))])) ∧ Below W.heap.size W w' := fun W hE => by
      obtain ⟨te, pe, hc⟩ := hE.2.2
      rw [← hz]
      exact (Tryz.strconv_Atoi_range db (by omega) hA _ W hc (Or.inr ⟨te, pe, rfl⟩)).mono fun e w' ⟨N, h1, _, _, h2⟩ => ⟨⟨N, h1⟩, h2⟩
    clear hA hz
    simp only
    go_enter Tryz.func117, Tryz.ntmps117
    go_wp2_with fail
    refine cC.mono ?_
    rintro e w1 ⟨rfl, hb1⟩
    have c1 : w1.cell? ⟨rb, 0, none⟩ = some (.string R) := (hb1.cell (p := ⟨rb, 0, none⟩) (World.block_lt_of_cell? _ _ c0)).trans c0
    have HB : Hid (Below w.heap.size w w1) := hb1
    clear cC hb1 c0
    go_wp2_with fail
    refine (cA w1 (HX.out.2.2.below HB.out)).mono ?_
    rintro e w2 ⟨⟨N, rfl⟩, hb2⟩
    have c2 : w2.cell? ⟨rb, 0, none⟩ = some (.string R) := (hb2.cell (p := ⟨rb, 0, none⟩) (World.block_lt_of_cell? _ _ c1)).trans c1
    have f2 : w2.frozen? ⟨rb, 0, none⟩ = false := rd_free ((hb2.block rb (World.block_lt_of_cell? _ _ c1)).trans ((HB.out.block rb (Array.getElem?_eq_some_iff.1 HX.out.1).1).trans HX.out.1)) 0
    have HB2 : Hid (Below w.heap.size w w2) := HB.out.trans (hb2.mono HB.out.size)
    clear cA hb2 c1
    go_wp2_with fail
    go_ret
    exact ⟨rfl, HF.out w2 _ [] rfl HB2.out⟩
theorem rnumber_is (rb : Nat) (s : Nm) (w : World) (h : Rdr rb s w) (hE : RdE w) (hs : s.length ≤ 1000000000) :
    Calls Tryz.prog 67 #[.pointer (some ⟨rb, 0, none⟩)] w fun e w' => e = .returned (.int .i64 (untilS 59 s).1) ∧ Rdr rb (untilS 59 s).2 w' ∧ But w.heap.size rb w w' := by
  have cU := until_is 59 rb s w h hE hs
  obtain ⟨A, hA⟩ : ∃ a, (untilS 59 s).1 = a := ⟨_, rfl⟩
  rw [hA] at cU ⊢
  clear h hE hs hA
  go_enter Tryz.func67, Tryz.ntmps67
  go_wp2_with fail
  refine cU.mono ?_
  rintro e w1 ⟨rfl, h1, h2⟩
  have HF : Hid (Rdr rb (untilS 59 s).2 w1 ∧ But w.heap.size rb w w1) := ⟨h1, h2⟩
  clear cU h1 h2
  go_wp2_with fail
  go_ret
  exact ⟨rfl, HF.out⟩
set_option maxHeartbeats 4000000 in
set_option maxRecDepth 100000 in
theorem rtext_call (rb : Nat) (s : Nm) (w : World) (h : Rdr rb s w) (hE : RdE w) (hs : s.length ≤ 1000000000) :
    Calls Tryz.prog 107 #[.pointer (some ⟨rb, 0, none⟩)] w fun e w' => (∃ t : ByteArray, e = .returned (.string t) ∧ t.data.toList = (textS s).1) ∧ Rdr rb (textS s).2 w' ∧ But w.heap.size rb w w' := by
  have cU := until_is 58 rb s w h hE hs
  have hg := until_ge 58 s
  have hl := until_len 58 s
  have hT : textS s = ((untilS 58 s).2.take (untilS 58 s).1.toNat, (untilS 58 s).2.drop (untilS 58 s).1.toNat) := rfl
  rw [hT]
  obtain ⟨A, hA⟩ : ∃ a, (untilS 58 s).1 = a := ⟨_, rfl⟩
  obtain ⟨X, hX⟩ : ∃ a, (untilS 58 s).2 = a := ⟨_, rfl⟩
  rw [hA, hX] at cU ⊢
  rw [hA] at hg
  rw [hX] at hl
  have hlt := h.lt
  clear h hE hA hX hT
  go_enter Tryz.func107, Tryz.ntmps107
  go_wp2_with fail
  refine cU.mono ?_
  rintro e w1 ⟨rfl, ⟨R, hR, hh⟩, h2⟩
  have hRz : R.size = X.length := by rw [← hR]; exact Lib.size_eq R
  obtain ⟨n, hn⟩ : ∃ n : Nat, min A (R.size : Int) = (n : Int) := ⟨(min A (R.size : Int)).toNat, by omega⟩
  have hn1 : n ≤ R.size := by omega
  have hn2 : X.take A.toNat = X.take n ∧ X.drop A.toNat = X.drop n := by
    by_cases hq : A ≤ (R.size : Int)
    · have : A.toNat = n := by omega
      rw [this]; exact ⟨rfl, rfl⟩
    · have : n = X.length := by omega
      rw [this, List.take_of_length_le (by omega), List.take_of_length_le (Nat.le_refl _), List.drop_of_length_le (by omega), List.drop_of_length_le (Nat.le_refl _)]
      exact ⟨rfl, rfl⟩
  have c1 : w1.cell? ⟨rb, 0, none⟩ = some (.string R) := rd_cell hh rfl
  have f1 : w1.frozen? ⟨rb, 0, none⟩ = false := rd_free hh 0
  have p1 : (R.extract 0 n).data.toList = X.take A.toNat := by rw [Lib.extract_data, hR, hn2.1]; simp
  have p2 : (R.extract n R.size).data.toList = X.drop A.toNat := by rw [Lib.extract_to_end, hR, hn2.2]
  have HF : Hid ((R.extract 0 n).data.toList = X.take A.toNat ∧ Rdr rb (X.drop A.toNat) (w1.setCell ⟨rb, 0, none⟩ (.string (R.extract n R.size))) ∧ But w.heap.size rb w (w1.setCell ⟨rb, 0, none⟩ (.string (R.extract n R.size)))) := ⟨p1, ⟨_, p2, rd_set (i := 0) _ hh⟩, h2.setB _ _⟩
  have i1 : (0 : Int) ≤ (n : Int) := by omega
  have i2 : (n : Int) ≤ (R.size : Int) := by omega
  clear cU h2 hh p1 p2 hn2 hR hRz hg hl hs
  go_wp2_with fail
  go_ret
  exact ⟨⟨_, rfl, HF.out.1⟩, HF.out.2⟩
end Go.Proofs.YtdmplfflmdanlaaGreatDoor
