/-
  What utf7.Encode does: a name that may be is written as 1.1 tells; else ErrArg.
-/
import Derived.Test.YtiocmecalidlhaaDoorFlush
import Derived.Test.YtiocmecalidlhaaDoorRight
import Derived.Test.YtiocmecalidlhaaDoorEncodeSpec
namespace Go.Proofs.YtiocmecalidlhaaDoor
open Go.RowKit Go.Proofs.Aid Go.Proofs.Ut

/-- 'string(out)' of a row that the call owns. -/
theorem conv_row {B : Nat} {v : Value} {xs : List UInt8} {w : World} (h : w.ownsRow B 5 1 v xs.length (Lib.byteCells xs)) :
    (convert 35 9 v).run Tryd.prog w = .ok (.string ⟨xs.toArray⟩) w := by
  have h0 := h
  rcases h.2 with ⟨rfl, hn⟩ | ⟨g, cap, cur, rfl, _⟩
  · obtain rfl : xs = [] := List.length_eq_zero_iff.1 hn
    rw [run_convert_bytes_string w 35 9 5 none 0 0 Tryd.underlying35 Tryd.underlying5 Tryd.underlying9]
    rfl
  · refine run_convert_bytes_back w 35 9 5 ⟨g, 0, none⟩ cap xs Tryd.underlying35 Tryd.underlying5 Tryd.underlying9 (fun j hj => ?_)
    rw [Addr.add_lit, Nat.zero_add, h0.cellAt j (by omega)]
    simp [Lib.byteCells, hj]

theorem row_iterAt {B k n : Nat} {e : TypeId} {v : Value} {xs : List Value} {s : ByteArray} {pos : Nat} {w : World} (h : w.ownsRow B e 1 v n xs) (hit : w.heap[k]? = some (.stringIter s pos)) (s' : ByteArray) (pos' : Nat) : (w.iterAt k s' pos').ownsRow B e 1 v n xs := by
  refine ⟨h.1, ?_⟩
  rcases h.2 with h2 | ⟨g, cap, cur, hv, hg, hh, r⟩
  · exact Or.inl h2
  · exact Or.inr ⟨g, cap, cur, hv, hg, by rw [Lib.iterAt_other w k g s' pos' (fun e => by subst e; rw [hh] at hit; cases hit)]; exact hh, r⟩
theorem Two.iterAt {B bo bw k : Nat} {xs : List UInt8} {us : List Nat} {s : ByteArray} {pos : Nat} {w : World} (h : Two B bo bw xs us w) (hit : w.heap[k]? = some (.stringIter s pos)) (s' : ByteArray) (pos' : Nat) : Two B bo bw xs us (w.iterAt k s' pos') := by
  obtain ⟨lo, lw, ⟨vo, ho, hown⟩, ⟨vw, hw, hownw⟩⟩ := h
  exact ⟨lo, lw, ⟨vo, by rw [Lib.iterAt_other w k bo s' pos' (fun e => by subst e; rw [ho] at hit; cases hit)]; exact ho, row_iterAt hown hit s' pos'⟩,
    ⟨vw, by rw [Lib.iterAt_other w k bw s' pos' (fun e => by subst e; rw [hw] at hit; cases hit)]; exact hw, row_iterAt hownw hit s' pos'⟩⟩
theorem Two.ne {B bo bw : Nat} {xs : List UInt8} {us : List Nat} {w : World} (h : Two B bo bw xs us w) : bo ≠ bw := by
  obtain ⟨lo, lw, ⟨vo, ho, hown⟩, ⟨vw, hw, hownw⟩⟩ := h
  intro e; subst e; rw [ho] at hw; cases hw
/-- The row of what waits has grown, and its new value is stored. -/
theorem Two.units {B bo bw : Nat} {xs : List UInt8} {us us' : List Nat} {w w1 : World} {v : Value} (h : Two B bo bw xs us w) (hk : Kept 48 B w w1) (hown : w1.ownsRow B 48 1 v us'.length (u16s us')) :
    Two B bo bw xs us' (w1.setCell ⟨bw, 0, none⟩ v) ∧ Iters B w (w1.setCell ⟨bw, 0, none⟩ v) := by
  have hne := h.ne
  obtain ⟨lo, lw, ⟨vo, ho, hownO⟩, ⟨vw, hw, hownw⟩⟩ := h
  have ho1 := hk.one ho (by decide)
  have hw1 := hk.one hw (by decide)
  have hO1 := hk.row (by decide) hownO
  exact ⟨⟨lo, lw, ⟨vo, (Below.heap_setCell _ ⟨bw, 0, none⟩ v bo hne).trans ho1, ownsRow_setCell_other hO1 (row_ne hO1 hw1 (by decide)) v⟩, ⟨v, one_setCell hw1, ownsRow_setCell_other hown (row_ne hown hw1 (by decide)) v⟩⟩,
    (Iters.kept hk).trans (Iters.store hw1 lw)⟩
/-- The row of what is written has grown, and its new value is stored. -/
theorem Two.push {B bo bw : Nat} {xs xs' : List UInt8} {us : List Nat} {w w1 : World} {v : Value} (h : Two B bo bw xs us w) (hk : Kept 5 B w w1) (hown : w1.ownsRow B 5 1 v xs'.length (Lib.byteCells xs')) :
    Two B bo bw xs' us (w1.setCell ⟨bo, 0, none⟩ v) ∧ Iters B w (w1.setCell ⟨bo, 0, none⟩ v) := by
  have hne := h.ne
  obtain ⟨lo, lw, ⟨vo, ho, hownO⟩, ⟨vw, hw, hownw⟩⟩ := h
  have ho1 := hk.one ho (by decide)
  have hw1 := hk.one hw (by decide)
  have hW1 := hk.row (by decide) hownw
  exact ⟨⟨lo, lw, ⟨v, one_setCell ho1, ownsRow_setCell_other hown (row_ne hown ho1 (by decide)) v⟩, ⟨vw, (Below.heap_setCell _ ⟨bo, 0, none⟩ v bw (Ne.symm hne)).trans hw1, ownsRow_setCell_other hW1 (row_ne hW1 ho1 (by decide)) v⟩⟩,
    (Iters.kept hk).trans (Iters.store ho1 lo)⟩

theorem three_heap (w : World) (a b c : Obj) : (((w.alloc a).alloc b).alloc c).heap[w.heap.size]? = some a ∧ (((w.alloc a).alloc b).alloc c).heap[w.heap.size + 1]? = some b := by
  constructor
  · rw [Below.heap_alloc _ _ _ (by simp; omega), Below.heap_alloc _ _ _ (by simp), heap_alloc_new]
  · rw [Below.heap_alloc _ _ _ (by simp)]
    have := heap_alloc_new (w.alloc a) b
    simpa using this

/-- utf7.appendUnits, at every rune. -/
theorem appendUnits_any (B : Nat) (v : Value) (us : List Nat) (r : Nat) (w : World) (hown : w.ownsRow B 48 1 v us.length (u16s us)) (hB : B ≤ w.heap.size) (hn : us.length ≤ 1000) (h1 : r ≤ 1114111) :
    Calls Tryd.prog 18 #[v, .int .i32 (r : Int)] w fun e w' => ∃ v', e = .returned v' ∧ w'.ownsRow B 48 1 v' (us ++ unitsOf r).length (u16s (us ++ unitsOf r)) ∧ Kept 48 B w w' := by
  by_cases h : r ≤ 65535
  · refine (appendUnits_lo B v us.length (u16s us) r w hown hB hn (by omega) (by omega)).mono ?_
    rintro e w' ⟨v', rfl, ho, hk⟩
    refine ⟨v', rfl, ?_, hk⟩
    rw [u16s_append, unitsOf, if_pos h, List.length_append]
    exact ho
  · refine (appendUnits_hi B v us.length (u16s us) r w hown hB hn (by omega) (by omega)).mono ?_
    rintro e w' ⟨v', rfl, ho, hk⟩
    refine ⟨v', rfl, ?_, hk⟩
    have e1 : ((55296 + (r - 65536) / 1024 : Nat) : Int) = 55296 + ((r : Int) - 65536) / 1024 := by omega
    have e2 : ((56320 + (r - 65536) % 1024 : Nat) : Int) = 56320 + ((r : Int) - 65536) % 1024 := by omega
    rw [u16s_append, unitsOf, if_neg h, List.length_append]
    simp only [u16s, List.map_cons, List.map_nil, e1, e2]
    exact ho

set_option maxHeartbeats 1000000 in
set_option maxRecDepth 100000 in
theorem encode_no (s : ByteArray) (w : World) (hs : s.size ≤ 4611686018427387904) (hT : Tabs w) (hr : rightB s.data.toList = false) :
    Calls Tryd.prog 6 #[.string s] w fun e w' => e = .returned (.tuple #[.string ⟨#[]⟩, .iface 22 (.int .i64 1)]) ∧ Below w.heap.size w w' := by
  have cR := right_any s w hs hT
  rw [hr] at cR
  go_enter Tryd.func6, Tryd.ntmps6
  go_wp2_with (go_at_call 8; refine cR.mono ?_; rintro e w1 ⟨rfl, hb1⟩)
  go_ret2
  exact ⟨rfl, by assumption⟩

set_option maxHeartbeats 1000000 in
set_option maxRecDepth 100000 in
theorem encode_yes (s : ByteArray) (w : World) (hs : s.size ≤ 4611686018427387904) (hT : Tabs w) (hr : rightB s.data.toList = true) :
    Calls Tryd.prog 6 #[.string s] w fun e w' => e = .returned (.tuple #[.string ⟨(encName s.data.toList).toArray⟩, .nilIface]) ∧ Below w.heap.size w w' := by
  have cR := right_any s w hs hT
  have hsc := runes_scalar s.data.toList
  have hrl : (runes s.data.toList).length ≤ 60 := by
    have h1 := runes_length s.data.toList
    have hsl := Lib.size_eq s
    simp [rightB] at hr
    omega
  rw [hr] at cR
  obtain ⟨ANS, hANS⟩ : ∃ ANS, encName s.data.toList = ANS := ⟨_, rfl⟩
  rw [hANS]
  clear hr
  go_enter Tryd.func6, Tryd.ntmps6
  go_wp2_with (go_at_call 8; refine cR.mono ?_; rintro e w1 ⟨rfl, hb1⟩)
  clear cR
  go_loopw [] (fun wr => ∃ (pos : Nat) (out : List UInt8) (wait : List Nat), wr.heap[w1.heap.size + 1 + 1]? = some (.stringIter s pos) ∧ Two w1.heap.size w1.heap.size (w1.heap.size + 1) out wait wr ∧ Below w1.heap.size w1 wr ∧
      encFrom out wait (runes (s.data.toList.drop pos)) = ANS ∧ out.length + 6 * wait.length + 12 * (runes (s.data.toList.drop pos)).length ≤ 720 ∧ (∀ u ∈ wait, u < 65536)) (fun wr => s.size - wr.iterPos (w1.heap.size + 1 + 1))
  case atStart =>
    refine ⟨0, [], [], ?_, ⟨Nat.le_refl _, by omega, ⟨.slice none 0 0, ?_, World.ownsRow_nil _ _ _ _⟩, ⟨.slice none 0 0, ?_, World.ownsRow_nil _ _ _ _⟩⟩, ?_, by simpa [encName] using hANS, by simp; omega, by simp⟩
    · have := World.iter_heap ((w1.alloc (.cells #[.slice none 0 0] 35)).alloc (.cells #[.slice none 0 0] 36)) s 0
      simpa using this
    · exact (three_heap w1 _ _ _).1
    · exact (three_heap w1 _ _ _).2
    · exact (((Below.refl _ w1).alloc (Nat.le_refl _) _).alloc (by simp) _).alloc (by simp; omega) _
  case round =>
    obtain ⟨pos, out, wait, hit, htwo, hbw, henc, hbd, hwt⟩ := hrel
    clear hANS
    by_cases hp : pos < s.size
    · have hnx : ∀ ty, (Instr.next (.pointer (some ⟨w1.heap.size + 1 + 1, 0, none⟩)) true ty).run Tryd.prog wr = _ := fun ty => Lib.run_next_any_at wr (w1.heap.size + 1 + 1) s pos ty hit hp
      have hra := runes_at s pos hp
      have hwd : 1 ≤ (Utf8.decode s pos).2 := by have := Lib.decodeL_width (s.data.toList.drop pos); rw [Lib.decodeL_drop] at this; exact this
      have hrs : Scalar (Utf8.decode s pos).1 := by have := decodeL_scalar (s.data.toList.drop pos); rw [Lib.decodeL_drop] at this; exact this
      have hrm : (Utf8.decode s pos).1 ≤ 1114111 := by unfold Scalar at hrs; omega
      rw [hra] at henc hbd
      rw [List.length_cons] at hbd
      have hit2 := Lib.iterAt_heap wr (w1.heap.size + 1 + 1) s pos (pos + (Utf8.decode s pos).2) hit
      have hbw2 := Lib.below_iterAt hbw (k := w1.heap.size + 1 + 1) (by omega) s (pos + (Utf8.decode s pos).2)
      have htwo2 := htwo.iterAt hit s (pos + (Utf8.decode s pos).2)
      have hB2 : w1.heap.size ≤ (wr.iterAt (w1.heap.size + 1 + 1) s (pos + (Utf8.decode s pos).2)).heap.size := hbw2.size
      clear hra hrs htwo hbw
      by_cases h126 : 126 < (Utf8.decode s pos).1
      · rw [encFrom, if_pos h126] at henc
        have HE : Hid (encFrom out (wait ++ unitsOf (Utf8.decode s pos).1) (runes (s.data.toList.drop (pos + (Utf8.decode s pos).2))) = ANS) := henc
        clear henc
        obtain ⟨vw, hw, hownw⟩ := htwo2.u
        have cW := cell_of_one hw
        have cU := appendUnits_any w1.heap.size vw wait (Utf8.decode s pos).1 _ hownw hB2 (by omega) hrm
        go_wp2_with fail
        refine cU.mono ?_
        rintro e w2 ⟨v2, rfl, hown2, hk2⟩
        have hul := unitsOf_length (Utf8.decode s pos).1
        have hup : 0 < (wait ++ unitsOf (Utf8.decode s pos).1).length := by
          have : 0 < (unitsOf (Utf8.decode s pos).1).length := by unfold unitsOf; split <;> simp
          simp; omega
        obtain ⟨g2, cap2, hv2, _, _⟩ := hown2.form hup
        have hT2 := htwo2.units hk2 hown2
        have hw2 := hk2.one hw (by decide)
        have cW2 := cell_of_one hw2
        have fW2 := free_of_one hw2
        rw [hv2] at hT2
        rw [hv2]
        obtain ⟨hT3, hI3⟩ := hT2
        have hit3 := hI3.it _ _ _ hit2
        have hbw3 := hbw2.trans hI3.below
        have hwt2 : ∀ u ∈ wait ++ unitsOf (Utf8.decode s pos).1, u < 65536 := by
          intro u hu
          rcases List.mem_append.1 hu with hu | hu
          · exact hwt u hu
          · exact unitsOf_lt _ hrm u hu
        have hbd2 : out.length + 6 * (wait ++ unitsOf (Utf8.decode s pos).1).length + 12 * (runes (s.data.toList.drop (pos + (Utf8.decode s pos).2))).length ≤ 720 := by
          rw [List.length_append]; omega
        clear hown2 cU cW hw hk2 hv2 hownw hnx hwt hul hup
        generalize wait ++ unitsOf (Utf8.decode s pos).1 = wait2 at HE hT3 hit3 hbw3 hwt2 hbd2 hI3 ⊢
        go_wp2
        go_roundw
        case rel => exact ⟨_, _, _, hit3, hT3, hbw3, HE.out, hbd2, hwt2⟩
        case measure =>
          simp only [World.iterPos, hit3, hit]
          omega
      · rw [encFrom, if_neg h126] at henc
        have HE : Hid (encFrom (flushTo out wait ++ plainOf (Utf8.decode s pos).1) [] (runes (s.data.toList.drop (pos + (Utf8.decode s pos).2))) = ANS) := henc
        clear henc
        have cF := flush_any w1.heap.size _ _ out wait _ htwo2 hwt (by omega) (by omega) hB2
        have hfl := flushTo_length out wait
        have hbd2 : (flushTo out wait).length + 12 + 12 * (runes (s.data.toList.drop (pos + (Utf8.decode s pos).2))).length ≤ 720 := by omega
        have hbd3 : (flushTo out wait).length ≤ 720 := by omega
        have HB : Hid ((flushTo out wait).length + 12 + 12 * (runes (s.data.toList.drop (pos + (Utf8.decode s pos).2))).length ≤ 720) := hbd2
        rw [show (if wait = [] then out else out ++ 38 :: (lettersOf (bits16 wait) ++ [45])) = flushTo out wait from rfl] at cF
        generalize flushTo out wait = out2 at cF HE HB hbd3
        clear hbd hfl hwt htwo2 hbd2
        generalize hr0 : (Utf8.decode s pos).1 = r at h126 hrm hnx HE
        clear hr0
        go_wp2_with fail
        refine cF.mono ?_
        rintro e w2 ⟨rfl, hT2, hI2⟩
        obtain ⟨vo, ho, hown⟩ := hT2.o
        have cO := cell_of_one ho
        have fO := free_of_one ho
        have hit3 := hI2.it _ _ _ hit2
        have hbw3 := hbw2.trans hI2.below
        have hB3 : w1.heap.size ≤ w2.heap.size := hbw3.size
        clear cF hnx hI2 hbw2 hB2 hit2
        by_cases h38 : r = 38
        · subst h38
          rw [plainOf, if_pos rfl] at HE
          go_wp2_with (first
            | (at_builtin; refine wpList_push rfl (.tmp 26) (.tmp 29) 35 (by rfl) w2 w1.heap.size 5 (.int .u8 0) 1 Tryd.underlying35 Tryd.info5 rfl _ _ _ (by rfl) hown [.int .u8 38] _ (by rfl) (by simp) (by simp [Value.oneCell']) (by simp) (by rfl) (by decide) (by simp; omega) hB3 ?_; intro g4 cap4 w4 hown4 hg4 hlt4; have hk4 := (Kept.refl _ _ _).grown hown hg4 (Nat.le_refl _) hB3; have ho4 := hk4.one ho (by decide); have hown5 := ownsRow_setCell_other hown4 (row_ne hown4 ho4 (by decide)) (a := ⟨w1.heap.size, 0, none⟩) (.slice (some ⟨g4, 0, none⟩) (out2.length + 1) cap4); have hB5 := Nat.le_trans hB3 (Nat.le_trans hk4.size ((Iters.store (B := w1.heap.size) (new := .slice (some ⟨g4, 0, none⟩) (out2.length + 1) cap4) ho4 (Nat.le_refl _)).below.size)); have cO4 := cell_of_one ho4; have fO4 := free_of_one ho4; clear hg4 hlt4 cO fO)
            | (at_builtin; go_must (refine wpList_push rfl (.tmp 33) (.tmp 34) 35 (by rfl) _ w1.heap.size 5 (.int .u8 0) 1 Tryd.underlying35 Tryd.info5 rfl _ _ _ (by rfl) hown5 [.int .u8 45] _ (by rfl) (by simp) (by simp [Value.oneCell']) (by simp) (by rfl) (by decide) (by simp; omega) hB5 ?_); intro g6 cap6 w6 hown6 hg6 hlt6; have hk6 := (Kept.refl _ _ _).grown hown5 hg6 (Nat.le_refl _) hB5; have ho6 := hk6.one (one_setCell ho4) (by decide); have cO6 := cell_of_one ho6; have fO6 := free_of_one ho6; clear hg6 hlt6 cO4 fO4))
          go_roundw
          case rel =>
            obtain ⟨hT7, hI7⟩ := hT2.push (xs' := out2 ++ [38]) (v := .slice (some ⟨g4, 0, none⟩) (out2.length + 1) cap4) hk4 (by rw [List.length_append, Lib.byteCells_append]; exact hown4)
            obtain ⟨hT8, hI8⟩ := hT7.push (xs' := out2 ++ [38, 45]) (v := .slice (some ⟨g6, 0, none⟩) (out2.length + 1 + 1) cap6) hk6 (by rw [show out2 ++ [(38 : UInt8), 45] = out2 ++ [38] ++ [45] by simp, List.length_append, List.length_append, Lib.byteCells_append, Lib.byteCells_append]; exact hown6)
            refine ⟨_, _, _, hI8.it _ _ _ (hI7.it _ _ _ hit3), hT8, (hbw3.trans hI7.below).trans hI8.below, HE.out, ?_, by simp⟩
            have := HB.out
            rw [List.length_append]
            simp only [List.length_cons, List.length_nil]
            omega
          case measure =>
            obtain ⟨hT7, hI7⟩ := hT2.push (xs' := out2 ++ [38]) (v := .slice (some ⟨g4, 0, none⟩) (out2.length + 1) cap4) hk4 (by rw [List.length_append, Lib.byteCells_append]; exact hown4)
            obtain ⟨hT8, hI8⟩ := hT7.push (xs' := out2 ++ [38, 45]) (v := .slice (some ⟨g6, 0, none⟩) (out2.length + 1 + 1) cap6) hk6 (by rw [show out2 ++ [(38 : UInt8), 45] = out2 ++ [38] ++ [45] by simp, List.length_append, List.length_append, Lib.byteCells_append, Lib.byteCells_append]; exact hown6)
            simp only [World.iterPos, hI8.it _ _ _ (hI7.it _ _ _ hit3), hit]
            omega
        · have hrl2 : r < 256 := by omega
          have hr2 : ((r : Int) == 38) = false := beq_eq_false_iff_ne.2 (by omega)
          have HR : Hid (r ≠ 38) := h38
          clear h38
          go_wp2_with (at_builtin; go_must (refine wpList_push rfl (.tmp 26) (.tmp 29) 35 (by rfl) w2 w1.heap.size 5 (.int .u8 0) 1 Tryd.underlying35 Tryd.info5 rfl _ _ _ (by rfl) hown [.int .u8 (r : Int)] _ (by rfl) (by simp) (by simp [Value.oneCell']) (by simp) (by rfl) (by decide) (by simp; omega) hB3 ?_); intro g4 cap4 w4 hown4 hg4 hlt4; have hk4 := (Kept.refl _ _ _).grown hown hg4 (Nat.le_refl _) hB3; have ho4 := hk4.one ho (by decide); have cO4 := cell_of_one ho4; have fO4 := free_of_one ho4; clear hg4 hlt4 cO fO)
          rw [plainOf, if_neg HR.out] at HE
          have hu8 : ((UInt8.ofNat r).toNat : Int) = (r : Int) := by simp; omega
          have hT8 := hT2.push (xs' := out2 ++ [UInt8.ofNat r]) (v := .slice (some ⟨g4, 0, none⟩) (out2.length + 1) cap4) hk4 (by rw [List.length_append, Lib.byteCells_append]; simp only [Lib.byteCells, List.map_cons, List.map_nil, hu8]; exact hown4)
          obtain ⟨hT8, hI8⟩ := hT8
          go_roundw
          case rel =>
            refine ⟨_, _, _, hI8.it _ _ _ hit3, hT8, hbw3.trans hI8.below, HE.out, ?_, by simp⟩
            have := HB.out
            rw [List.length_append]
            simp only [List.length_cons, List.length_nil]
            omega
          case measure =>
            simp only [World.iterPos, hI8.it _ _ _ hit3, hit]
            omega
    · have hnx : ∀ ty, (Instr.next (.pointer (some ⟨w1.heap.size + 1 + 1, 0, none⟩)) true ty).run Tryd.prog wr = _ := fun ty => Lib.run_next_end_at wr (w1.heap.size + 1 + 1) s pos ty hit hp
      rw [drop_nil s pos hp, runes_nil, encFrom] at henc
      have hfl := flushTo_length out wait
      have cF := flush_any w1.heap.size _ _ out wait _ htwo hwt (by omega) (by omega) hbw.size
      rw [show (if wait = [] then out else out ++ 38 :: (lettersOf (bits16 wait) ++ [45])) = flushTo out wait from rfl, henc] at cF
      clear henc hfl hwt hbd htwo
      go_wp2_with fail
      refine cF.mono ?_
      rintro e w2 ⟨rfl, hT2, hI2⟩
      obtain ⟨vo, ho, hown⟩ := hT2.o
      have cO := cell_of_one ho
      have hcv := conv_row hown
      clear cF hnx
      go_wp2
      go_ret2
      exact ⟨rfl, hb1.trans ((hbw.trans hI2.below).mono hb1.size)⟩
end Go.Proofs.YtiocmecalidlhaaDoor
