/-
  What the closure of the document's answer to Encode does: it writes the bits that wait.
-/
import Derived.Test.YtiocmecalidlhaaDoorRefBits
import Derived.Test.YtiocmecalidlhaaDoorFlush
import Derived.RegionTactic
import Derived.BigRegion
namespace Go.Proofs.Ut
theorem lettersOf_pad (l : List Bool) (j : Nat) (hj : j < 6) (h : (l.length + j) % 6 = 0) : lettersOf l = (pieces 6 (l ++ List.replicate j false) ((l.length + j) / 6)).map letter := by
  by_cases h0 : l.length % 6 = 0
  · obtain rfl : j = 0 := by omega
    rw [lettersOf, if_pos h0]
    simp
  · have hd : (l.length + j) / 6 = l.length / 6 + 1 := by omega
    rw [lettersOf, if_neg h0, hd, pieces_succ, pieces_append _ _ _ _ (by omega), List.map_append]
    congr 2
    unfold piece
    rw [List.drop_append_of_le_length (by omega), List.take_of_length_le (by rw [List.length_append, List.length_drop, List.length_replicate]; omega), show 6 - l.length % 6 = j by omega]
end Go.Proofs.Ut
namespace Go.Proofs.YtiocmecalidlhaaDoor
open Go.RowKit Go.Proofs.Aid Go.Proofs.Ut

/-- Two variables that hold texts. -/
structure Txt2 (B bo bw : Nat) (o t : ByteArray) (w : World) : Prop where
  lo : B ≤ bo
  lw : B ≤ bw
  ne : bo ≠ bw
  o : w.heap[bo]? = some (.cells #[.string o] 9 (0, 0))
  t : w.heap[bw]? = some (.cells #[.string t] 9 (0, 0))
theorem Txt2.setO {B bo bw : Nat} {o t : ByteArray} {w : World} (h : Txt2 B bo bw o t w) (x : ByteArray) : Txt2 B bo bw x t (w.setCell ⟨bo, 0, none⟩ (.string x)) ∧ Iters B w (w.setCell ⟨bo, 0, none⟩ (.string x)) :=
  ⟨⟨h.lo, h.lw, h.ne, one_setCell h.o, (Below.heap_setCell _ _ _ _ (Ne.symm h.ne)).trans h.t⟩, Iters.store h.o h.lo⟩
theorem Txt2.setT {B bo bw : Nat} {o t : ByteArray} {w : World} (h : Txt2 B bo bw o t w) (x : ByteArray) : Txt2 B bo bw o x (w.setCell ⟨bw, 0, none⟩ (.string x)) ∧ Iters B w (w.setCell ⟨bw, 0, none⟩ (.string x)) :=
  ⟨⟨h.lo, h.lw, h.ne, (Below.heap_setCell _ _ _ _ h.ne).trans h.o, one_setCell h.t⟩, Iters.store h.t h.lw⟩
theorem back_list (t : ByteArray) (c : UInt8) : (t ++ (⟨#[c]⟩ : ByteArray)).data.toList = t.data.toList ++ [c] := by
  rw [Joins.data_append]
theorem back_size (t : ByteArray) (c : UInt8) : (t ++ (⟨#[c]⟩ : ByteArray)).size = t.size + 1 := by
  rw [Lib.size_eq, back_list, List.length_append, ← Lib.size_eq]; rfl

theorem Txt2.alloc {B bo bw : Nat} {o t : ByteArray} {w : World} (h : Txt2 B bo bw o t w) (x : Obj) : Txt2 B bo bw o t (w.alloc x) :=
  ⟨h.lo, h.lw, h.ne, (Below.heap_alloc _ _ _ (lt_of_block h.o)).trans h.o, (Below.heap_alloc _ _ _ (lt_of_block h.t)).trans h.t⟩
theorem Txt2.iterAt {B bo bw k : Nat} {o t : ByteArray} {s : ByteArray} {pos : Nat} {w : World} (h : Txt2 B bo bw o t w) (hit : w.heap[k]? = some (.stringIter s pos)) (s' : ByteArray) (pos' : Nat) : Txt2 B bo bw o t (w.iterAt k s' pos') :=
  ⟨h.lo, h.lw, h.ne, by rw [Lib.iterAt_other w k bo s' pos' (fun e => by subst e; rw [h.o] at hit; cases hit)]; exact h.o, by rw [Lib.iterAt_other w k bw s' pos' (fun e => by subst e; rw [h.t] at hit; cases hit)]; exact h.t⟩
theorem Iters.alloc {B : Nat} {a w : World} (h : Iters B a w) (hB : B ≤ w.heap.size) (o : Obj) : Iters B a (w.alloc o) :=
  ⟨h.below.alloc hB o, fun k s p hk => (Below.heap_alloc _ _ _ (lt_of_block (h.it k s p hk))).trans (h.it k s p hk)⟩
theorem Iters.iterAt {B : Nat} {a w : World} (h : Iters B a w) (hBa : B ≤ a.heap.size) {k : Nat} (hk : a.heap.size ≤ k) (s : ByteArray) (pos : Nat) : Iters B a (w.iterAt k s pos) :=
  ⟨Lib.below_iterAt h.below (Nat.le_trans hBa hk) s pos, fun i s' p hi => by
    have := lt_of_block hi
    rw [Lib.iterAt_other w k i s pos (by omega)]
    exact h.it i s' p hi⟩
/-- A text of letters 0 and 1, letter by letter. -/
theorem bit_at {t : ByteArray} {D : List Bool} (h : t.data.toList = bitStr D) (p : Nat) (hp : p < t.size) (hpD : p < D.length) : t[p] = bitB D[p] := by
  have h1 : t[p] = t.data.toList[p]'(by rw [← Lib.size_eq]; exact hp) := by rw [Array.getElem_toList]; rfl
  rw [h1]
  simp [h, bitStr]
theorem val_take (D : List Bool) (p : Nat) (h : p < D.length) : val (D.take (p + 1)) = 2 * val (D.take p) + D[p].toNat := by
  rw [List.take_succ_eq_append_getElem h, val_append, val_single]
  simp
  omega
theorem alpha_drop : ∀ p : Fin 64, (alpha.drop p.val).take 1 = [letter p.val] := by decide +kernel
theorem alpha_ext (p : Nat) (h : p < 64) : ((⟨#[65, 66, 67, 68, 69, 70, 71, 72, 73, 74, 75, 76, 77, 78, 79, 80, 81, 82, 83, 84, 85, 86, 87, 88, 89, 90, 97, 98, 99, 100, 101, 102, 103, 104, 105, 106, 107, 108, 109, 110, 111, 112, 113, 114, 115, 116, 117, 118, 119, 120, 121, 122, 48, 49, 50, 51, 52, 53, 54, 55, 56, 57, 43, 44]⟩ : ByteArray).extract p (p + 1)).data.toList = [letter p] := by
  rw [Lib.extract_data, show p + 1 - p = 1 by omega]
  exact alpha_drop ⟨p, h⟩
/-- How long the text of a variable is. -/
def txtLen (w : World) (b : Nat) : Nat := match w.cell? ⟨b, 0, none⟩ with | some (.string x) => x.size | _ => 0
theorem txtLen_of {w : World} {b : Nat} {x : ByteArray} {t : TypeId} (h : w.heap[b]? = some (.cells #[.string x] t (0, 0))) : txtLen w b = x.size := by
  unfold txtLen
  rw [cell_of_one h]

set_option maxHeartbeats 1000000 in
set_option maxRecDepth 100000 in
theorem refFlush_any (B bo bw : Nat) (o t : ByteArray) (L : List Bool) (w : World) (h : Txt2 B bo bw o t w) (ht : t.data.toList = bitStr L) (hL : L ≠ []) (hl : L.length ≤ 4000) (ho : o.size ≤ 4000) (hB : B ≤ w.heap.size) :
    Calls Tryd.prog 13 #[.pointer (some ⟨bw, 0, none⟩), .pointer (some ⟨bo, 0, none⟩)] w fun e w' => e = .returned (.tuple #[]) ∧
      (∃ o2, Txt2 B bo bw o2 ⟨#[]⟩ w' ∧ o2.data.toList = o.data.toList ++ 38 :: (lettersOf L ++ [45])) ∧ Iters B w w' := by
  have hLp : 0 < L.length := List.length_pos_iff.2 hL
  have htl : t.size = L.length := by rw [Lib.size_eq, ht, bitStr_length]
  have hte : t.toList.isEmpty = false := by
    rw [Lib.toList_data, ht, List.isEmpty_eq_false_iff]
    intro hh
    have := congrArg List.length hh
    rw [bitStr_length, List.length_nil] at this
    omega
  have cT := cell_of_one h.t
  clear hL
  have HT : Hid (t.data.toList = bitStr L) := ht
  clear ht
  have htz : t.size ≤ 4000 := by omega
  have HTL : Hid (t.size = L.length) := htl
  clear htl
  go_enter Tryd.func13, Tryd.ntmps13
  go_wp2
  go_loopw [] (fun wr => ∃ (j : Nat) (x : ByteArray), Txt2 B bo bw o x wr ∧ x.data.toList = bitStr (L ++ List.replicate j false) ∧ j < 6 ∧ L.length + j ≤ 6 * ((L.length + 5) / 6) ∧ Iters B w wr) (fun wr => 6 * ((L.length + 5) / 6) - txtLen wr bw)
  case atStart => exact ⟨0, t, h, by simpa using HT.out, by omega, by omega, Iters.refl _ _⟩
  case round =>
    obtain ⟨j, x, htx, hx, hj, hjl, hI⟩ := hrel
    have hxs : x.size = L.length + j := by rw [Lib.size_eq, hx, bitStr_length, List.length_append, List.length_replicate]
    have HX : Hid (x.data.toList = bitStr (L ++ List.replicate j false)) := hx
    have HXS : Hid (x.size = L.length + j) := hxs
    have hxz : x.size ≤ 4010 := by omega
    have cX := cell_of_one htx.t
    have fX := free_of_one htx.t
    have cO := cell_of_one htx.o
    have fO := free_of_one htx.o
    clear hx cT
    by_cases hm : (L.length + j) % 6 = 0
    · have hmI : (x.size : Int) % 6 = 0 := by omega
      have hpad := lettersOf_pad L j hj hm
      have hP : (L ++ List.replicate j false).length = L.length + j := by simp
      clear hxs
      generalize L ++ List.replicate j false = P at HX hpad hP
      go_wp2
      obtain ⟨hT2, hI2⟩ := htx.setO (o ++ ⟨#[38]⟩)
      have hI3 := hI.trans hI2
      have HO : Hid ((o ++ ⟨#[38]⟩ : ByteArray).data.toList = o.data.toList ++ [38]) := back_list o 38
      have hos : (o ++ ⟨#[38]⟩ : ByteArray).size ≤ 4001 := by rw [back_size]; omega
      clear hI hI2 cX fX cO fO htx
      have hxP : x.size = P.length := by have := HXS.out; omega
      have HXP : Hid (x.size = P.length) := hxP
      have hPm : P.length % 6 = 0 := by omega
      have HPAD : Hid (lettersOf L = (pieces 6 P (P.length / 6)).map letter) := by show _ = _; rw [hP]; exact hpad
      have hPl : P.length ≤ 4005 := by omega
      clear hpad hP hxP HXS hm
      go_loopw [2] (fun i wr => ∃ (q : Nat) (y : ByteArray), 6 * q ≤ P.length ∧ i = .int .i64 ((6 * q : Nat) : Int) ∧ Txt2 B bo bw y x wr ∧ y.data.toList = o.data.toList ++ [38] ++ (pieces 6 P q).map letter ∧ y.size ≤ 4001 + q ∧ Iters B w wr) (fun i _ => P.length - (intOf i).toNat)
      case atStart => exact ⟨0, _, by omega, rfl, hT2, by rw [HO.out]; simp [pieces], by omega, hI3⟩
      case round =>
        clear hT2 hI3 HO hos
        obtain ⟨q, y, hq, rfl, hty, hy, hys, hIy⟩ := hrel
        have cX := cell_of_one hty.t
        have cY := cell_of_one hty.o
        have fY := free_of_one hty.o
        have HY : Hid (y.data.toList = o.data.toList ++ [38] ++ (pieces 6 P q).map letter) := hy
        clear hy
        by_cases hlt : 6 * q < P.length
        · have hltI : ((6 * q : Nat) : Int) < (x.size : Int) := by have := HXP.out; omega
          have hqI : ((6 * q : Nat) : Int) + 6 ≤ (x.size : Int) := by have := HXP.out; omega
          have hsl := Lib.extract_data x (6 * q) (6 * q + 6)
          rw [HX.out, show 6 * q + 6 - 6 * q = 6 by omega] at hsl
          obtain ⟨D, hD⟩ : ∃ D, (P.drop (6 * q)).take 6 = D := ⟨_, rfl⟩
          have hDl : D.length = 6 := by rw [← hD, List.length_take, List.length_drop]; omega
          have hsD : (x.extract (6 * q) (6 * q + 6)).data.toList = bitStr D := by
            rw [hsl, ← hD]; simp [bitStr, List.map_take, List.map_drop]
          have hsub : (x.extract (6 * q) (6 * q + 6)).size = 6 := by rw [Lib.size_eq, hsD, bitStr_length, hDl]
          have HPC : Hid (val D = piece 6 P q) := by show _ = _; rw [← hD]; rfl
          have HSD : Hid ((x.extract (6 * q) (6 * q + 6)).data.toList = bitStr D) := hsD
          have HSUB : Hid ((x.extract (6 * q) (6 * q + 6)).size = 6) := hsub
          have HDL : Hid (D.length = 6) := hDl
          have hwr : w.heap.size ≤ wr.heap.size := hIy.below.size
          clear hsl hD hsD hsub hDl
          go_wp2
          generalize x.extract (6 * q) (6 * q + 6) = sub at HSD HSUB ⊢
          go_loopw [3] (fun kv w3 => ∃ p : Nat, p ≤ 6 ∧ kv = .int .i64 ((val (D.take p) : Nat) : Int) ∧ w3.heap[wr.heap.size]? = some (.stringIter sub p) ∧ Txt2 B bo bw y x w3 ∧ Iters B w w3) (fun _ w3 => 6 - w3.iterPos wr.heap.size)
          case atStart => exact ⟨0, by omega, by simp [val], World.iter_heap wr sub 0, hty.alloc _, hIy.alloc (Nat.le_trans hB hwr) _⟩
          case round =>
            clear hty hIy cX cY fY
            obtain ⟨p, hp6, rfl, hit, hty, hIy⟩ := hrel
            by_cases hp : p < 6
            · have hps : p < sub.size := by have := HSUB.out; omega
              have hpD : p < D.length := by have := HDL.out; omega
              have hbit := bit_at HSD.out p hps hpD
              have hvt := val_take D p hpD
              have hvl := val_lt (D.take p)
              have hvl2 : val (D.take p) < 64 := Nat.lt_of_lt_of_le hvl (by rw [List.length_take]; exact Nat.pow_le_pow_right (i := min p D.length) (j := 6) (show 2 > 0 by decide) (by omega))
              have hit2 := Lib.iterAt_heap _ _ sub p (p + 1) hit
              have hty2 := hty.iterAt hit sub (p + 1)
              have hIy2 := hIy.iterAt hB hwr sub (p + 1)
              rcases hb : D[p] with _ | _
              all_goals
                rw [hb] at hbit hvt
                simp only [bitB, if_true, Bool.false_eq_true, if_false] at hbit
                have hnx := fun ty => Lib.run_next_ascii_at (P := Tryd.prog) _ _ sub p ty hit hps (by rw [hbit]; decide)
                rw [hbit] at hnx
                have HV : Hid (val (D.take (p + 1)) = _) := hvt
                clear hvt hbit hvl
                go_wp2
                go_roundw
                case rel =>
                  refine ⟨p + 1, by omega, ?_, hit2, hty2, hIy2⟩
                  rw [HV.out]
                  simp only [Bool.toNat_false, Bool.toNat_true]
                  go_num
                case measure =>
                  simp only [World.iterPos, hit2, hit]
                  omega
            · obtain rfl : p = 6 := by omega
              have hnx := fun ty => Lib.run_next_end_at (P := Tryd.prog) _ _ sub 6 ty hit (by have := HSUB.out; omega)
              have hD6 : D.take 6 = D := List.take_of_length_le (by have := HDL.out; omega)
              rw [hD6]
              have hk64 : val D < 64 := by have := val_lt D; rw [HDL.out] at this; exact this
              generalize val D = kk at HPC hk64 ⊢
              have hkI : (kk : Int) + 1 ≤ 64 := by omega
              have cY := cell_of_one hty.o
              have fY := free_of_one hty.o
              clear hD6
              go_wp2
              go_region
              go_wp2
              have hax := alpha_ext kk hk64
              have haz : (y ++ (⟨#[65, 66, 67, 68, 69, 70, 71, 72, 73, 74, 75, 76, 77, 78, 79, 80, 81, 82, 83, 84, 85, 86, 87, 88, 89, 90, 97, 98, 99, 100, 101, 102, 103, 104, 105, 106, 107, 108, 109, 110, 111, 112, 113, 114, 115, 116, 117, 118, 119, 120, 121, 122, 48, 49, 50, 51, 52, 53, 54, 55, 56, 57, 43, 44]⟩ : ByteArray).extract kk (kk + 1)).size = y.size + 1 := by rw [Lib.size_eq, Joins.data_append, hax, List.length_append, ← Lib.size_eq]; rfl
              obtain ⟨hT4, hI4⟩ := hty.setO (y ++ (⟨#[65, 66, 67, 68, 69, 70, 71, 72, 73, 74, 75, 76, 77, 78, 79, 80, 81, 82, 83, 84, 85, 86, 87, 88, 89, 90, 97, 98, 99, 100, 101, 102, 103, 104, 105, 106, 107, 108, 109, 110, 111, 112, 113, 114, 115, 116, 117, 118, 119, 120, 121, 122, 48, 49, 50, 51, 52, 53, 54, 55, 56, 57, 43, 44]⟩ : ByteArray).extract kk (kk + 1))
              have hI5 := hIy.trans hI4
              go_roundw
              case rel =>
                refine ⟨q + 1, _, by omega, by go_num, ⟨hT4.lo, hT4.lw, hT4.ne, hT4.o, hT4.t⟩, ?_, by rw [haz]; omega, ⟨hI5.below.drew, hI5.it⟩⟩
                rw [Joins.data_append, hax, HY.out, pieces_succ, List.map_append, ← HPC.out]
                simp
              case measure => simp [intOf]; omega
        · obtain hq6 : q = P.length / 6 := by omega
          have hnl : ¬ ((6 * q : Nat) : Int) < (x.size : Int) := by have := HXP.out; omega
          obtain ⟨hT4, hI4⟩ := hty.setO (y ++ ⟨#[45]⟩)
          have c4 := cell_of_one hT4.t
          have f4 := free_of_one hT4.t
          subst hq6
          go_wp2
          go_end0
          obtain ⟨hT5, hI5⟩ := hT4.setT ⟨#[]⟩
          refine ⟨rfl, ⟨_, hT5, ?_⟩, (hIy.trans hI4).trans hI5⟩
          rw [back_list, HY.out, HPAD.out]
          simp
    · have hmI : ((x.size : Int) % 6 != 0) = true := by rw [bne_iff_ne]; omega
      clear hxs
      go_wp2
      obtain ⟨hT2, hI2⟩ := htx.setT (x ++ ⟨#[48]⟩)
      go_roundw
      case rel =>
        refine ⟨j + 1, x ++ ⟨#[48]⟩, hT2, ?_, by omega, by omega, hI.trans hI2⟩
        rw [back_list, HX.out, List.replicate_succ', ← List.append_assoc, bitStr_append _ [false]]
        rfl
      case measure =>
        have h1 := txtLen_of hT2.t
        have h2 := txtLen_of htx.t
        rw [back_size] at h1
        have h3 := HXS.out
        rw [h1, h2]
        omega
end Go.Proofs.YtiocmecalidlhaaDoor
