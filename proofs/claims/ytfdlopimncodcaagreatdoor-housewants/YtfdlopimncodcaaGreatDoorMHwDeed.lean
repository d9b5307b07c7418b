/-
  A deed of a house, whatever it is, but for what is wanted: what it leaves.
-/
import Derived.Test.YtfdlopimncodcaaGreatDoorMHwRen
namespace Go.Proofs.YtfdlopimncodcaaGreatDoor
open Go.RowKit Go.Proofs.Aid Go.Proofs.Bx

set_option maxHeartbeats 4000000 in
set_option maxRecDepth 100000 in
theorem get_is (nB : Nm → Option Nm) (hb mb : Nat) (l : Bxs) (nx : Int) (wv : Value) (s : ByteArray) (w : World) (hN : NameC nB w) (h : HsAt w hb mb l nx wv) (hs : s.size ≤ 1000) :
    Calls Tryz.prog 31 #[.pointer (some ⟨hb, 0, none⟩), .string s] w fun e w' => Below w.heap.size w w' ∧
      ((∃ r b, nB s.data.toList = some r ∧ (r, b) ∈ l ∧ e = .returned (.tuple #[.pointer (some ⟨b, 0, none⟩), .nilIface])) ∨ ∃ E, (E = 1 ∨ E = 7) ∧ e = .returned (.tuple #[.pointer none, errN E])) := by
  have cT := there_is nB hb mb l nx wv s w hN h hs
  have HH : Hid (HsAt w hb mb l nx wv) := h
  clear hN h
  go_enter Tryz.func31, Tryz.ntmps31
  go_wp2_with fail
  refine cT.mono ?_
  rintro e w1 ⟨hb1, ⟨r, hr, hr2, hr3, rfl⟩ | ⟨r, hr, hr3, rfl⟩ | ⟨hr, rfl⟩⟩
  · have h1 := HH.out.below hb1 (Nat.le_refl _)
    obtain ⟨b, hb⟩ := hasB_true.1 hr3
    have hlk := mp_look h1.2 r (by omega) (b := b) hb
    have c0 := h1.cell.1
    have HR : Hid (Below w.heap.size w w1 ∧ nB s.data.toList = some r.data.toList ∧ (r.data.toList, b) ∈ l) := ⟨hb1, hr, hb⟩
    clear cT hr hr3 hb1 h1 hb
    go_wp2_with fail
    go_ret2
    exact ⟨HR.out.1, Or.inl ⟨_, b, HR.out.2.1, HR.out.2.2, rfl⟩⟩
  · have HR : Hid (Below w.heap.size w w1) := hb1
    clear cT hr hr3 hb1
    go_wp2_with fail
    go_ret2
    exact ⟨HR.out, Or.inr ⟨7, Or.inr rfl, rfl⟩⟩
  · have HR : Hid (Below w.heap.size w w1) := hb1
    clear cT hr hb1
    go_wp2_with fail
    go_ret2
    exact ⟨HR.out, Or.inr ⟨1, Or.inl rfl, rfl⟩⟩
theorem Left.more {H hb mb K K' : Nat} {nx : Int} {wv : Value} {w w' : World} (h : Left H hb mb K nx wv w w') (hK : K ≤ K') : Left H hb mb K' nx wv w w' := by
  obtain ⟨f, l', mx, h1, h2, h3⟩ := h
  exact ⟨f, l', mx, h1, h2.more hK, h3⟩
theorem create_any (H hb mb K : Nat) (l : Bxs) (nx : Int) (a : Option Addr) (wn wc : Nat) (s : ByteArray) (w : World) (hE : NEnv w) (h : HsAt w hb mb l nx (.slice a wn wc)) (hO : BxOk w H K l) (hl : l.length ≤ 30) (hn : 0 ≤ nx ∧ nx ≤ 800000) (hs : s.size ≤ 1000) (h0 : H ≤ w.heap.size) (h1 : H ≤ hb) (h2 : H ≤ mb) :
    Calls Tryz.prog 41 #[.pointer (some ⟨hb, 0, none⟩), .string s] w fun e w' => (∃ v, e = .returned v) ∧ Left H hb mb K nx (.slice a wn wc) w w' := by
  refine (create_is nameB hb mb l nx (.slice a wn wc) s w (nameC hE) h hs (by omega) (by omega)).mono ?_
  rintro e w' (⟨_, c2, c3⟩ | ⟨r, _, _, c3, c4⟩ | ⟨r, _, _, _, c4, c5⟩ | ⟨r, ps, c1, _, c3, c4, c5, c6, c7⟩)
  · exact ⟨⟨_, c2⟩, left_low h hO hl h0 c3⟩
  · exact ⟨⟨_, c3⟩, left_low h hO hl h0 c4⟩
  · exact ⟨⟨_, c4⟩, left_low h hO hl h0 c5⟩
  · refine ⟨⟨_, c4⟩, Fr.hk h c5 h0 h1 h2, _, _, c7, hO.built h c5 c6 h0 (fun m hm => ?_), ?_, ?_, ?_⟩
    · have h3 := nameB_len c1
      rcases List.mem_append.1 hm with hm | hm
      · have := lack_short hm
        omega
      · rw [List.mem_singleton.1 hm]
        exact h3
    · have e5 : ps.length = (lackB l r ++ [r]).length := by rw [← c6.1, List.length_map]
      have := putAll_len l _ ps e5
      omega
    · omega
    · omega
theorem delete_any (H hb mb K : Nat) (l : Bxs) (nx : Int) (a : Option Addr) (wn wc : Nat) (s : ByteArray) (w : World) (hE : NEnv w) (h : HsAt w hb mb l nx (.slice a wn wc)) (hO : BxOk w H K l) (hl : l.length ≤ 30) (hs : s.size ≤ 1000) (h0 : H ≤ w.heap.size) (h1 : H ≤ hb) (h2 : H ≤ mb) :
    Calls Tryz.prog 43 #[.pointer (some ⟨hb, 0, none⟩), .string s] w fun e w' => (∃ v, e = .returned v) ∧ Left H hb mb K nx (.slice a wn wc) w w' := by
  refine (delete_is nameB hb mb l nx (.slice a wn wc) s w (nameC hE) h hs (by omega)).mono ?_
  rintro e w' (⟨_, c2, c3⟩ | ⟨r, _, _, c3, c4⟩ | ⟨r, _, _, _, c4, c5⟩ | ⟨r, _, _, _, _, c4, c5, c7⟩)
  · exact ⟨⟨_, c2⟩, left_low h hO hl h0 c3⟩
  · exact ⟨⟨_, c3⟩, left_low h hO hl h0 c4⟩
  · exact ⟨⟨_, c4⟩, left_low h hO hl h0 c5⟩
  · exact ⟨⟨_, c4⟩, Fr.hk h c5 h0 h1 h2, _, _, c7, (hO.hk h c5).sub (fun p hp => (List.mem_filter.1 hp).1), Nat.le_trans (List.length_filter_le _ _) hl, Int.le_refl _, by omega⟩
/-- A message more in a box of a house. -/
theorem append_any (H hb mb K : Nat) (l : Bxs) (nx : Int) (a : Option Addr) (wn wc b : Nat) (n : Nm) (t : ByteArray) (w : World) (h : HsAt w hb mb l nx (.slice a wn wc)) (hO : BxOk w H K l) (hl : l.length ≤ 30) (hK : K ≤ 900) (hb' : (n, b) ∈ l) (h0 : H ≤ w.heap.size) :
    Calls Tryz.prog 50 #[.pointer (some ⟨b, 0, none⟩), .slice none 0 0, .int .i64 1, .string t] w fun e w' => (∃ x y, e = .returned (.tuple #[x, y])) ∧ Left H hb mb (K + 1) nx (.slice a wn wc) w w' := by
  obtain ⟨q1, q2, v, m, ls, q3, q4, q5, q6⟩ := hO _ hb'
  refine (box_append b v m 1 ls (.slice none 0 0) ([], 0) t w q3 (by omega) (by omega) (set_nil w)).mono ?_
  rintro e w' (⟨_, c2, c3⟩ | ⟨_, c2, c3, c4⟩)
  · exact ⟨⟨_, _, c2⟩, (left_low h hO hl h0 c3).more (by omega)⟩
  · have hf : Fr H w w' := Fr.but q3 c4 h0 q1
    obtain ⟨lv, hh, _⟩ := id q3
    have nk := ne_of_kind h hh (by decide)
    refine ⟨⟨_, _, c2⟩, hf, l, nx, ⟨(c4.block hb h.lt nk.1.symm).trans h.1, h.2.same (c4.block mb h.2.lt nk.2.symm)⟩, fun p hp => ?_, hl, Int.le_refl _, by omega⟩
    obtain ⟨g1, g2, v', m', ls', g3, g4, g5, g6⟩ := hO p hp
    by_cases hpb : p.2 = b
    · exact ⟨g1, g2, v, m + 1, _, by rw [hpb]; exact c3, by omega, by omega, by rw [List.length_append]; simp; omega⟩
    · exact ⟨g1, g2, v', m', ls', g3.tx (c4.block p.2 g3.lt hpb) hf.tx, g4, by omega, by omega⟩
set_option maxHeartbeats 4000000 in
set_option maxRecDepth 100000 in
theorem deed_is (H hb mb K : Nat) (l : Bxs) (nx : Int) (a : Option Addr) (wn wc : Nat) (k : Int) (s t : ByteArray) (y : Bool) (w : World) (hE : NEnv w) (h : HsAt w hb mb l nx (.slice a wn wc)) (hO : BxOk w H K l) (hl : l.length ≤ 30) (hK : K ≤ 900) (hn : 0 ≤ nx ∧ nx ≤ 800000) (hs : s.size ≤ 1000) (ht : t.size ≤ 1000) (h0 : H ≤ w.heap.size) (h1 : H ≤ hb) (h2 : H ≤ mb) (hk3 : k ≠ 3) :
    Calls Tryz.prog 27 #[.pointer (some ⟨hb, 0, none⟩), .agg #[.int .i64 k, .string s, .string t, .bool y]] w fun e w' => (∃ v, e = .returned v) ∧ Left H hb mb (K + 1) nx (.slice a wn wc) w w' := by
  have b1 : Below w.heap.size w (w.alloc (.cells #[.int .i64 k, .string s, .string t, .bool y] 62)) := (Below.refl _ _).alloc (Nat.le_refl _) _
  have e1 := heap_alloc_new w (.cells #[.int .i64 k, .string s, .string t, .bool y] 62)
  obtain ⟨W1, hW1⟩ : ∃ W, w.alloc (.cells #[.int .i64 k, .string s, .string t, .bool y] 62) = W := ⟨_, rfl⟩
  rw [hW1] at b1 e1
  have f1 : Fr H w W1 := Fr.of b1 h0
  have HL : Hid (∀ w3, Left H hb mb K nx (.slice a wn wc) W1 w3 ∨ Left H hb mb (K + 1) nx (.slice a wn wc) W1 w3 → Left H hb mb (K + 1) nx (.slice a wn wc) w w3) := fun w3 h3 => by
    rcases h3 with h3 | h3
    · exact ⟨f1.trans h3.1, (h3.more (by omega)).2⟩
    · exact ⟨f1.trans h3.1, h3.2⟩
  have hS1 := h.below b1 (Nat.le_refl _)
  have hO1 := hO.hk h (HK.of b1)
  have hE1 := hE.below b1
  have hz1 : H ≤ W1.heap.size := Nat.le_trans h0 b1.size
  have r0 : W1.cell? ⟨w.heap.size, 0, none⟩ = some (.int .i64 k) := rd_cell e1 rfl
  have r1 : W1.cell? ⟨w.heap.size, 1, none⟩ = some (.string s) := rd_cell e1 rfl
  have r2 : W1.cell? ⟨w.heap.size, 2, none⟩ = some (.string t) := rd_cell e1 rfl
  have e1' : Hid (W1.heap[w.heap.size]? = some (.cells #[.int .i64 k, .string s, .string t, .bool y] 62 (0, 0))) := e1
  have HSelf : Hid (Left H hb mb (K + 1) nx (.slice a wn wc) w W1) := (left_low h hO hl h0 b1).more (by omega)
  clear h hO hE b1 e1 f1 h0
  by_cases k0 : k = 0
  · subst k0
    have cC := create_any H hb mb K l nx a wn wc s W1 hE1 hS1 hO1 hl hn hs hz1 h1 h2
    clear hS1 hO1 hE1
    go_enter Tryz.func27, Tryz.ntmps27
    go_wp2_with fail
    refine cC.mono ?_
    rintro e w2 ⟨⟨v, rfl⟩, hL⟩
    have HF : Hid (Left H hb mb (K + 1) nx (.slice a wn wc) w w2) := HL.out w2 (Or.inl hL)
    clear cC hL
    go_wp2_with fail
    go_ret
    exact ⟨⟨_, rfl⟩, HF.out⟩
  · have d0 : (k == 0) = false := beq_eq_false_iff_ne.2 k0
    by_cases k1 : k = 1
    · subst k1
      have cC := delete_any H hb mb K l nx a wn wc s W1 hE1 hS1 hO1 hl hs hz1 h1 h2
      clear hS1 hO1 hE1
      go_enter Tryz.func27, Tryz.ntmps27
      go_wp2_with fail
      refine cC.mono ?_
      rintro e w2 ⟨⟨v, rfl⟩, hL⟩
      have HF : Hid (Left H hb mb (K + 1) nx (.slice a wn wc) w w2) := HL.out w2 (Or.inl hL)
      clear cC hL
      go_wp2_with fail
      go_ret
      exact ⟨⟨_, rfl⟩, HF.out⟩
    · have d1 : (k == 1) = false := beq_eq_false_iff_ne.2 k1
      by_cases k2 : k = 2
      · subst k2
        have cC := rename_any H hb mb K l nx a wn wc s t W1 hE1 hS1 hO1 hl hn hs ht hz1 h1 h2
        clear hS1 hO1 hE1
        go_enter Tryz.func27, Tryz.ntmps27
        go_wp2_with fail
        refine cC.mono ?_
        rintro e w2 ⟨⟨v, rfl⟩, hL⟩
        have HF : Hid (Left H hb mb (K + 1) nx (.slice a wn wc) w w2) := HL.out w2 (Or.inl hL)
        clear cC hL
        go_wp2_with fail
        go_ret
        exact ⟨⟨_, rfl⟩, HF.out⟩
      · have d2 : (k == 2) = false := beq_eq_false_iff_ne.2 k2
        have d3 : (k == 3) = false := beq_eq_false_iff_ne.2 hk3
        by_cases k4 : k = 4
        · subst k4
          have cG := get_is nameB hb mb l nx (.slice a wn wc) s W1 (nameC hE1) hS1 hs
          have HX : Hid (HsAt W1 hb mb l nx (.slice a wn wc) ∧ BxOk W1 H K l) := ⟨hS1, hO1⟩
          clear hS1 hO1 hE1
          go_enter Tryz.func27, Tryz.ntmps27
          go_wp2_with fail
          refine cG.mono ?_
          rintro e w2 ⟨hb2, ⟨r, b, _, hm, rfl⟩ | ⟨E, _, rfl⟩⟩
          · have hS2 := HX.out.1.below hb2 (Nat.le_refl _)
            have cA := append_any H hb mb K l nx a wn wc b r t w2 hS2 (HX.out.2.hk HX.out.1 (HK.of hb2)) hl hK hm (Nat.le_trans hz1 hb2.size)
            have HB2 : Hid (Fr H W1 w2) := Fr.of hb2 hz1
            have r2' : w2.cell? ⟨w.heap.size, 2, none⟩ = some (.string t) := rd_cell ((hb2.block _ (Array.getElem?_eq_some_iff.1 e1'.out).1).trans e1'.out) rfl
            clear cG hb2 hS2 hm r0 r1 r2
            go_wp2_with fail
            refine cA.mono ?_
            rintro e w3 ⟨⟨x, z, rfl⟩, hL⟩
            have HF : Hid (Left H hb mb (K + 1) nx (.slice a wn wc) w w3) := HL.out w3 (Or.inr ⟨HB2.out.trans hL.1, hL.2⟩)
            clear cA hL r2'
            go_wp2_with fail
            go_ret
            exact ⟨⟨_, rfl⟩, HF.out⟩
          · have HF : Hid (Left H hb mb (K + 1) nx (.slice a wn wc) w w2) := HL.out w2 (Or.inl (left_low HX.out.1 HX.out.2 hl hz1 hb2))
            clear cG hb2
            go_wp2_with fail
            go_ret
            exact ⟨⟨_, rfl⟩, HF.out⟩
        · have d4 : (k == 4) = false := beq_eq_false_iff_ne.2 k4
          clear hS1 hO1 hE1
          go_enter Tryz.func27, Tryz.ntmps27
          go_wp2_with fail
          go_ret
          exact ⟨⟨_, rfl⟩, HSelf.out⟩
end Go.Proofs.YtfdlopimncodcaaGreatDoor
