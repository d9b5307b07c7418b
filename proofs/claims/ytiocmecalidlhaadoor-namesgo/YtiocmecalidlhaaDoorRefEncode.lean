/-
  What the document's answer to Encode is: the same.
-/
import Derived.Test.YtiocmecalidlhaaDoorRefFlush
import Derived.Test.YtiocmecalidlhaaDoorEncode
import Derived.Test.YtiocmecalidlhaaDoorUtf8Enc
import Derived.Deep.RegionWith
import Derived.Deep.RegionHeld3
namespace Go.Proofs.YtiocmecalidlhaaDoor
open Go.RowKit Go.Proofs.Aid Go.Proofs.Ut

theorem one_below {W w2 : World} {b : Nat} {t : TypeId} {v : Value} (hb : Below W.heap.size W w2) (h : W.heap[b]? = some (.cells #[v] t (0, 0))) : w2.cell? ⟨b, 0, none⟩ = some v ∧ w2.frozen? ⟨b, 0, none⟩ = false ∧ w2.heap[b]? = some (.cells #[v] t (0, 0)) := by
  have h2 := (hb.block b (lt_of_block h)).trans h
  exact ⟨cell_of_one h2, free_of_one h2, h2⟩
theorem Txt2.below {B bo bw : Nat} {o t : ByteArray} {w w' : World} (h : Txt2 B bo bw o t w) (hb : Below w.heap.size w w') : Txt2 B bo bw o t w' :=
  ⟨h.lo, h.lw, h.ne, (hb.block bo (lt_of_block h.o)).trans h.o, (hb.block bw (lt_of_block h.t)).trans h.t⟩
theorem below_undrew {B : Nat} {w w' : World} (h : Below B w.drew w') : Below B w w' := ⟨h.os, h.tape, h.output, h.size, h.block⟩
theorem bits16_append (a b : List Nat) : bits16 (a ++ b) = bits16 a ++ bits16 b := by simp [bits16]
theorem bits16_nil (us : List Nat) : bits16 us = [] ↔ us = [] := by
  constructor
  · intro h
    have := congrArg List.length h
    rw [bits16_length, List.length_nil] at this
    exact List.length_eq_zero_iff.1 (by omega)
  · intro h; subst h; rfl
theorem bits_16 (u : Nat) (w : World) (hu : u < 4294967296) : Calls Tryd.prog 15 #[.int .i64 (u : Int), .int .i64 16] w fun e w' => e = .returned (.string ⟨(bitStr (bitsOf 16 u)).toArray⟩) ∧ Below w.heap.size w w' := bits_any u 16 w hu (by decide)
set_option maxHeartbeats 400000 in
set_option maxRecDepth 100000 in
theorem refFlush_none (bo bw : Nat) (w : World) (h : w.heap[bw]? = some (.cells #[.string ⟨#[]⟩] 9 (0, 0))) :
    Calls Tryd.prog 13 #[.pointer (some ⟨bw, 0, none⟩), .pointer (some ⟨bo, 0, none⟩)] w fun e w' => e = .returned (.tuple #[]) ∧ w' = w := by
  have cT := cell_of_one h
  go_enter Tryd.func13, Tryd.ntmps13
  go_wp2
  refine bodyPost_ret (results_none rfl _ _ _) rfl ?_
  exact ⟨rfl, rfl⟩
theorem refFlush_all (B bo bw : Nat) (o t : ByteArray) (us : List Nat) (w : World) (h : Txt2 B bo bw o t w) (ht : t.data.toList = bitStr (bits16 us)) (hl : us.length ≤ 200) (ho : o.size ≤ 4000) (hB : B ≤ w.heap.size) :
    Calls Tryd.prog 13 #[.pointer (some ⟨bw, 0, none⟩), .pointer (some ⟨bo, 0, none⟩)] w fun e w' => e = .returned (.tuple #[]) ∧
      (∃ o2, Txt2 B bo bw o2 ⟨#[]⟩ w' ∧ o2.data.toList = flushTo o.data.toList us) ∧ Iters B w w' := by
  by_cases h0 : us = []
  · subst h0
    have ht0 : t = ⟨#[]⟩ := by
      have : t = ⟨t.data.toList.toArray⟩ := by simp
      rw [this, ht]; rfl
    subst ht0
    refine (refFlush_none bo bw w h.t).mono ?_
    rintro e w' ⟨rfl, rfl⟩
    exact ⟨rfl, ⟨o, h, by simp [flushTo]⟩, Iters.refl _ _⟩
  · have hne : bits16 us ≠ [] := fun e => h0 ((bits16_nil us).1 e)
    refine (refFlush_any B bo bw o t (bits16 us) w h ht hne (by rw [bits16_length]; omega) ho hB).mono ?_
    rintro e w' ⟨rfl, ⟨o2, h2, h3⟩, hI⟩
    exact ⟨rfl, ⟨o2, h2, by rw [h3, flushTo, if_neg h0]⟩, hI⟩

set_option maxHeartbeats 1000000 in
set_option maxRecDepth 100000 in
theorem refEncode_no (s : ByteArray) (w : World) (hs : s.size ≤ 4611686018427387904) (hT : Tabs w) (hr : rightB s.data.toList = false) :
    Calls Tryd.prog 5 #[.string s] w fun e w' => e = .returned (.tuple #[.string ⟨#[]⟩, .int .i64 1]) ∧ Below w.heap.size w w' := by
  have cR := named_any s w hs hT
  rw [hr] at cR
  go_enter Tryd.func5, Tryd.ntmps5
  go_wp2_with (go_at_call 9; refine cR.mono ?_; rintro e w1 ⟨rfl, hb1⟩)
  go_ret2
  exact ⟨rfl, by assumption⟩

set_option maxHeartbeats 16000000 in
set_option maxRecDepth 100000 in
theorem refEncode_yes (s : ByteArray) (w : World) (hs : s.size ≤ 4611686018427387904) (hT : Tabs w) (hr : rightB s.data.toList = true) :
    Calls Tryd.prog 5 #[.string s] w fun e w' => e = .returned (.tuple #[.string ⟨(encName s.data.toList).toArray⟩, .int .i64 0]) ∧ Below w.heap.size w w' := by
  have cR := named_any s w hs hT
  have hok : ∀ r ∈ runes s.data.toList, okRune r = true := by simp [rightB] at hr; exact hr.2
  have hrl : (runes s.data.toList).length ≤ 60 := by
    have h1 := runes_length s.data.toList
    have hsl := Lib.size_eq s
    simp [rightB] at hr
    omega
  rw [hr] at cR
  obtain ⟨ANS, hANS⟩ : ∃ ANS, encName s.data.toList = ANS := ⟨_, rfl⟩
  rw [hANS]
  clear hr
  go_enter Tryd.func5, Tryd.ntmps5
  go_wp2_with (go_at_call 9; refine cR.mono ?_; rintro e w1 ⟨rfl, hb1⟩)
  clear cR hs hT
  go_loopw [] (fun wr => ∃ (pos : Nat) (o t : ByteArray) (us : List Nat), wr.heap[w1.heap.size + 1 + 1]? = some (.stringIter s pos) ∧ Txt2 w1.heap.size w1.heap.size (w1.heap.size + 1) o t wr ∧ t.data.toList = bitStr (bits16 us) ∧ Below w1.heap.size w1 wr ∧
      encFrom o.data.toList us (runes (s.data.toList.drop pos)) = ANS ∧ o.size + 6 * us.length + 12 * (runes (s.data.toList.drop pos)).length ≤ 720 ∧ (∀ r ∈ runes (s.data.toList.drop pos), okRune r = true)) (fun wr => s.size - wr.iterPos (w1.heap.size + 1 + 1))
  case atStart =>
    refine ⟨0, ⟨#[]⟩, ⟨#[]⟩, [], ?_, ⟨Nat.le_refl _, by omega, by omega, (three_heap w1 _ _ _).1, (three_heap w1 _ _ _).2⟩, rfl, ?_, by simpa [encName] using hANS, by simp [ByteArray.size]; omega, by simpa using hok⟩
    · have := World.iter_heap ((w1.alloc (.cells #[.string ⟨#[]⟩] 9)).alloc (.cells #[.string ⟨#[]⟩] 9)) s 0
      simpa using this
    · exact (((Below.refl _ w1).alloc (Nat.le_refl _) _).alloc (by simp) _).alloc (by simp; omega) _
  case round =>
    obtain ⟨pos, o, t, us, hit, htwo, htl, hbw, henc, hbd, hokr⟩ := hrel
    clear hANS hok
    by_cases hp : pos < s.size
    · have hnx : ∀ ty, (Instr.next (.pointer (some ⟨w1.heap.size + 1 + 1, 0, none⟩)) true ty).run Tryd.prog wr = _ := fun ty => Lib.run_next_any_at wr (w1.heap.size + 1 + 1) s pos ty hit hp
      have hra := runes_at s pos hp
      have hwd : 1 ≤ (Utf8.decode s pos).2 := by have := Lib.decodeL_width (s.data.toList.drop pos); rw [Lib.decodeL_drop] at this; exact this
      have hrs : Scalar (Utf8.decode s pos).1 := by have := decodeL_scalar (s.data.toList.drop pos); rw [Lib.decodeL_drop] at this; exact this
      have hrm : (Utf8.decode s pos).1 ≤ 1114111 := by unfold Scalar at hrs; omega
      rw [hra] at henc hbd hokr
      rw [List.length_cons] at hbd
      have hok1 := hokr _ (List.mem_cons_self)
      have hok2 : ∀ r ∈ runes (s.data.toList.drop (pos + (Utf8.decode s pos).2)), okRune r = true := fun r hr => hokr r (List.mem_cons_of_mem _ hr)
      have hr32 : 32 ≤ (Utf8.decode s pos).1 := by simp [okRune] at hok1; omega
      have hit2 := Lib.iterAt_heap wr (w1.heap.size + 1 + 1) s pos (pos + (Utf8.decode s pos).2) hit
      have hbw2 := Lib.below_iterAt hbw (k := w1.heap.size + 1 + 1) (by omega) s (pos + (Utf8.decode s pos).2)
      have htwo2 := htwo.iterAt hit s (pos + (Utf8.decode s pos).2)
      have hB2 : w1.heap.size ≤ (wr.iterAt (w1.heap.size + 1 + 1) s (pos + (Utf8.decode s pos).2)).heap.size := hbw2.size
      have hoz : o.size ≤ 720 := by omega
      have huz : us.length ≤ 120 := by omega
      clear hra hrs htwo hbw hokr hok1
      generalize hr0 : (Utf8.decode s pos).1 = r at hrm hnx henc hr32
      clear hr0
      have HOK : Hid (∀ r ∈ runes (s.data.toList.drop (pos + (Utf8.decode s pos).2)), okRune r = true) := hok2
      clear hok2
      by_cases h126 : 126 < r
      · rw [encFrom, if_pos h126] at henc
        have hne : ((r : Int) == 38) = false := beq_eq_false_iff_ne.2 (by omega)
        have cI := fun w => in_no r 32 126 w (by omega)
        have cT := cell_of_one htwo2.t
        have fT := free_of_one htwo2.t
        have htz : t.size ≤ 2000 := by rw [Lib.size_eq, htl, bitStr_length, bits16_length]; omega
        by_cases hbig : r ≤ 65535
        · have cB := fun w => bits_16 r w (by omega)
          have hbz : (⟨(bitStr (bitsOf 16 r)).toArray⟩ : ByteArray).size ≤ 16 := by rw [Lib.size_eq]; simp [bitStr_length, length_bitsOf]
          have hbl : (⟨(bitStr (bitsOf 16 r)).toArray⟩ : ByteArray).data.toList = bitStr (bits16 (unitsOf r)) := by simp [unitsOf, hbig, bits16]
          generalize (⟨(bitStr (bitsOf 16 r)).toArray⟩ : ByteArray) = bx at cB hbz hbl
          have hTw := htwo2.t
          have hul := unitsOf_length r
          have HBL : Hid (bx.data.toList = bitStr (bits16 (unitsOf r))) := hbl
          have HTL : Hid (t.data.toList = bitStr (bits16 us)) := htl
          have HE : Hid (encFrom o.data.toList (us ++ unitsOf r) (runes (s.data.toList.drop (pos + (Utf8.decode s pos).2))) = ANS) := henc
          clear hbl htl henc
          go_wp2_with (go_at_call 14; refine (cI _).mono ?_; rintro e w' ⟨rfl, rfl⟩)
          clear cI hne hnx
          generalize wr.iterAt (w1.heap.size + 1 + 1) s (pos + (Utf8.decode s pos).2) = W0 at cT fT hTw hit2 hbw2 htwo2 hB2 ⊢
          have hcat : (9223372036854775807 < t.size + bx.size) = False := eq_false (by omega)
          go_region_with ((go_at_call 15; refine (cB _).mono ?_; rintro e w2 ⟨rfl, hb2⟩; obtain ⟨cT2, fT2, hT2⟩ := one_below hb2 hTw))
          all_goals
            go_wp2
            have hb2' : Below W0.heap.size W0 w2 := below_undrew hb2
            have hit2' := (hb2'.block _ (lt_of_block hit2)).trans hit2
            obtain ⟨hT3, hI3⟩ := (htwo2.below hb2').setT (t ++ bx)
            have hit3 := hI3.it _ _ _ hit2'
            go_roundw
            case rel =>
              refine ⟨_, o, t ++ bx, us ++ unitsOf r, hit3, hT3, ?_, (hbw2.trans (hb2'.mono hB2)).trans hI3.below, HE.out, by rw [List.length_append]; omega, HOK.out⟩
              rw [Joins.data_append, HTL.out, HBL.out, bits16_append, bitStr_append]
            case measure =>
              simp only [World.iterPos, hit3, hit]
              omega
        · obtain ⟨U1, hU1⟩ : ∃ U1 : Nat, 55296 + (r - 65536) / 1024 = U1 := ⟨_, rfl⟩
          obtain ⟨U2, hU2⟩ : ∃ U2 : Nat, 56320 + (r - 65536) % 1024 = U2 := ⟨_, rfl⟩
          have hu1 : IntKind.i64.wrap (55296 + IntKind.i64.wrap (((r : Int) - 65536).tdiv 1024)) = (U1 : Int) := by
            rw [Int.tdiv_eq_ediv_of_nonneg (by omega), IntKind.wrap_i64, IntKind.wrap_i64]; omega
          have hu2 : IntKind.i64.wrap (56320 + ((r : Int) - 65536).tmod 1024) = (U2 : Int) := by
            rw [Int.tmod_eq_emod_of_nonneg (by omega), IntKind.wrap_i64]; omega
          have cB1 := fun w => bits_16 U1 w (by omega)
          have cB2 := fun w => bits_16 U2 w (by omega)
          have hbz1 : (⟨(bitStr (bitsOf 16 U1)).toArray⟩ : ByteArray).size ≤ 16 := by rw [Lib.size_eq]; simp [bitStr_length, length_bitsOf]
          have hbz2 : (⟨(bitStr (bitsOf 16 U2)).toArray⟩ : ByteArray).size ≤ 16 := by rw [Lib.size_eq]; simp [bitStr_length, length_bitsOf]
          have hbl : (⟨(bitStr (bitsOf 16 U1)).toArray⟩ : ByteArray).data.toList ++ (⟨(bitStr (bitsOf 16 U2)).toArray⟩ : ByteArray).data.toList = bitStr (bits16 (unitsOf r)) := by
            rw [unitsOf, if_neg hbig, hU1, hU2]; simp [bits16, bitStr]
          generalize (⟨(bitStr (bitsOf 16 U1)).toArray⟩ : ByteArray) = b1 at cB1 hbz1 hbl
          generalize (⟨(bitStr (bitsOf 16 U2)).toArray⟩ : ByteArray) = b2 at cB2 hbz2 hbl
          have hTw := htwo2.t
          have hul := unitsOf_length r
          have HBL : Hid (b1.data.toList ++ b2.data.toList = bitStr (bits16 (unitsOf r))) := hbl
          have HTL : Hid (t.data.toList = bitStr (bits16 us)) := htl
          have HE : Hid (encFrom o.data.toList (us ++ unitsOf r) (runes (s.data.toList.drop (pos + (Utf8.decode s pos).2))) = ANS) := henc
          have hbz3 : (b1 ++ b2).size ≤ 32 := by rw [Lib.size_eq, Joins.data_append, List.length_append, ← Lib.size_eq, ← Lib.size_eq]; omega
          clear hbl htl henc hU1 hU2
          go_wp2_with (go_at_call 14; refine (cI _).mono ?_; rintro e w' ⟨rfl, rfl⟩)
          clear cI hne hnx
          generalize wr.iterAt (w1.heap.size + 1 + 1) s (pos + (Utf8.decode s pos).2) = W0 at cT fT hTw hit2 hbw2 htwo2 hB2 ⊢
          have hcat1 : (9223372036854775807 < b1.size + b2.size) = False := eq_false (by omega)
          have hcat2 : (9223372036854775807 < t.size + (b1 ++ b2).size) = False := eq_false (by omega)
          have hcat3 : (9223372036854775807 < t.size + (b1.size + b2.size)) = False := eq_false (by omega)
          go_region_with (first
            | (go_at_call_of 15 (Value.int IntKind.i64 (U1 : Int)); refine (cB1 _).mono ?_; rintro e w2 ⟨rfl, hb2⟩; obtain ⟨cT2, fT2, hT2⟩ := one_below hb2 hTw)
            | (go_at_call_of 15 (Value.int IntKind.i64 (U2 : Int)); refine (cB2 _).mono ?_; rintro e w3 ⟨rfl, hb3⟩; obtain ⟨cT3, fT3, hT3⟩ := one_below hb3 hT2))
          all_goals
            go_wp2
            have hb2' : Below W0.heap.size W0 w3 := (below_undrew hb2).trans (hb3.mono hb2.size)
            have hit2' := (hb2'.block _ (lt_of_block hit2)).trans hit2
            obtain ⟨hT4, hI4⟩ := (htwo2.below hb2').setT (t ++ (b1 ++ b2))
            have hit3 := hI4.it _ _ _ hit2'
            go_roundw
            case rel =>
              refine ⟨_, o, t ++ (b1 ++ b2), us ++ unitsOf r, hit3, hT4, ?_, (hbw2.trans (hb2'.mono hB2)).trans hI4.below, HE.out, by rw [List.length_append]; omega, HOK.out⟩
              rw [Joins.data_append, Joins.data_append, HTL.out, HBL.out, bits16_append, bitStr_append]
            case measure =>
              simp only [World.iterPos, hit3, hit]
              omega
      · rw [encFrom, if_neg h126] at henc
        have cF := refFlush_all w1.heap.size _ _ o t us _ htwo2 htl (by omega) (by omega) hB2
        have hfl := flushTo_length o.data.toList us
        rw [← Lib.size_eq] at hfl
        have HE : Hid (encFrom (flushTo o.data.toList us ++ plainOf r) [] (runes (s.data.toList.drop (pos + (Utf8.decode s pos).2))) = ANS) := henc
        have HB : Hid ((flushTo o.data.toList us).length + 12 + 12 * (runes (s.data.toList.drop (pos + (Utf8.decode s pos).2))).length ≤ 720) := by show _ ≤ _; omega
        have hfl2 : (flushTo o.data.toList us).length ≤ 720 := by omega
        clear henc hbd hfl htl
        by_cases h38 : r = 38
        · subst h38
          rw [plainOf, if_pos rfl] at HE
          go_wp2_with fail
          refine cF.mono ?_
          rintro e w2 ⟨rfl, ⟨o2, hT2, ho2⟩, hI2⟩
          have ho2z : o2.size ≤ 720 := by rw [Lib.size_eq, ho2]; exact hfl2
          have HO2 : Hid (o2.data.toList = flushTo o.data.toList us) := ho2
          have cO := cell_of_one hT2.o
          have fO := free_of_one hT2.o
          obtain ⟨hT3, hI3⟩ := hT2.setO (o2 ++ ⟨#[38, 45]⟩)
          have hit3 := hI3.it _ _ _ (hI2.it _ _ _ hit2)
          have hbw3 := (hbw2.trans hI2.below).trans hI3.below
          clear cF hnx ho2 hI2 hI3 hbw2 hB2 hit2
          go_wp2
          go_roundw
          case rel =>
            refine ⟨_, _, _, [], hit3, hT3, rfl, hbw3, ?_, ?_, HOK.out⟩
            · rw [Joins.data_append, HO2.out]
              exact HE.out
            · have := HB.out
              rw [Lib.size_eq, Joins.data_append, HO2.out, List.length_append]
              simp only [List.length_cons, List.length_nil]
              omega
          case measure =>
            simp only [World.iterPos, hit3, hit]
            omega
        · have hne : ((r : Int) == 38) = false := beq_eq_false_iff_ne.2 (by omega)
          have cI := fun w => in_yes r 32 126 w (by omega) (by omega)
          rw [plainOf, if_neg h38] at HE
          clear h38
          go_wp2_with (go_at_call 14; refine (cI _).mono ?_; rintro e w' ⟨rfl, rfl⟩)
          refine cF.mono ?_
          rintro e w2 ⟨rfl, ⟨o2, hT2, ho2⟩, hI2⟩
          have ho2z : o2.size ≤ 720 := by rw [Lib.size_eq, ho2]; exact hfl2
          have HO2 : Hid (o2.data.toList = flushTo o.data.toList us) := ho2
          have cO := cell_of_one hT2.o
          have fO := free_of_one hT2.o
          have he8 := encode_low r (by omega)
          obtain ⟨hT3, hI3⟩ := hT2.setO (o2 ++ ⟨#[UInt8.ofNat r]⟩)
          have hit3 := hI3.it _ _ _ (hI2.it _ _ _ hit2)
          have hbw3 := (hbw2.trans hI2.below).trans hI3.below
          clear cF hnx ho2 hB2 hit2
          go_wp2
          go_roundw
          case rel =>
            refine ⟨_, _, _, [], hit3, hT3, rfl, hbw3, ?_, ?_, HOK.out⟩
            · rw [back_list, HO2.out]
              exact HE.out
            · have := HB.out
              rw [back_size, Lib.size_eq, HO2.out]
              simp only [List.length_nil]
              omega
          case measure =>
            simp only [World.iterPos, hit3, hit]
            omega
    · have hnx : ∀ ty, (Instr.next (.pointer (some ⟨w1.heap.size + 1 + 1, 0, none⟩)) true ty).run Tryd.prog wr = _ := fun ty => Lib.run_next_end_at wr (w1.heap.size + 1 + 1) s pos ty hit hp
      rw [drop_nil s pos hp, runes_nil, encFrom] at henc
      have cF := refFlush_all w1.heap.size _ _ o t us _ htwo htl (by omega) (by omega) hbw.size
      rw [henc] at cF
      clear henc hbd htl htwo hokr
      go_wp2_with fail
      refine cF.mono ?_
      rintro e w2 ⟨rfl, ⟨o2, hT2, ho2⟩, hI2⟩
      have hoe : o2 = ⟨ANS.toArray⟩ := by rw [← ho2]
      subst hoe
      have cO := cell_of_one hT2.o
      clear cF hnx ho2
      go_wp2
      go_ret2
      exact ⟨rfl, hb1.trans ((hbw.trans hI2.below).mono hb1.size)⟩
end Go.Proofs.YtiocmecalidlhaaDoor
