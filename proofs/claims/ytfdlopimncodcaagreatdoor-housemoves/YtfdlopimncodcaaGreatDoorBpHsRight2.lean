/-
  Names that are in order, each as boxes are called: rightNames says so, and more.
-/
import Derived.Test.YtfdlopimncodcaaGreatDoorMHsCopy
namespace Go.Proofs.YtfdlopimncodcaaGreatDoor
open Go.RowKit Go.Proofs.Aid Go.Proofs.Bx

theorem sl_at {w : World} {a : Option Addr} {n c : Nat} {l : List Nm} (h : Sl w (.slice a n c) l) {k : Nat} {x : Nm} (hk : l[k]? = some x) : ∃ b o, a = some ⟨b, o, none⟩ ∧ ∀ (j : Nat) t, l[j]? = some t → w.cell? ⟨b, o + j, none⟩ = some (.string ⟨t.toArray⟩) := by
  obtain ⟨a', c', h1, _, h2⟩ := h
  injection h1 with h1 _ _
  subst h1
  rcases h2 with h2 | ⟨b, o, h3, h4⟩
  · rw [h2] at hk
    simp at hk
  · exact ⟨b, o, h3, h4⟩
theorem ba_size (n : Nm) : (⟨n.toArray⟩ : ByteArray).size = n.length := by show n.toArray.size = _; rw [List.size_toArray]
set_option maxHeartbeats 4000000 in
set_option maxRecDepth 100000 in
theorem rnames_true (v : Value) (ns : List Nm) (w : World) (hE : NEnv w) (h : Sl w v ns) (hl : ns.length ≤ 1000) (hn : ∀ n ∈ ns, nameB n = some n) (hs : ns.Pairwise (· < ·)) :
    Calls Tryz.prog 53 #[v] w fun e w' => e = .returned (.bool true) ∧ Below w.heap.size w w' := by
  obtain ⟨a, c, rfl, _⟩ := id h
  obtain ⟨M, hM⟩ : ∃ m, ns.length = m := ⟨_, rfl⟩
  have HX : Hid (Sl w (.slice a M c) ns ∧ ns.length = M ∧ (∀ n ∈ ns, nameB n = some n) ∧ ns.Pairwise (· < ·) ∧ NEnv w) := ⟨by rw [← hM]; exact h, hM, hn, hs, hE⟩
  rw [hM] at hl ⊢
  clear h hM hn hs hE
  go_enter Tryz.func53, Tryz.ntmps53
  go_wp2_with fail
  go_loopw [9] (fun iv wr => ∃ k : Nat, iv = .int .i64 (k : Int) ∧ k ≤ M ∧ Hid (Below w.heap.size w wr)) (fun iv _ => M - (intOf iv).toNat)
  case atStart => exact ⟨0, rfl, Nat.zero_le _, Below.refl _ _⟩
  case round =>
    obtain ⟨k, rfl, hk, HB⟩ := hrel
    by_cases hlt : k < M
    · have d1 : decide ((k : Int) < (M : Int)) = true := decide_eq_true (by omega)
      have i1 : (0 : Int) ≤ (k : Int) := by omega
      have i2 : (k : Int) < (M : Int) := by omega
      obtain ⟨n, hnk⟩ : ∃ n, ns[k]? = some n := ⟨_, List.getElem?_eq_getElem (by have := HX.out.2.1; omega)⟩
      obtain ⟨b, o, rfl, hat⟩ := sl_at (HX.out.1.below HB.out (Nat.le_refl _)) hnk
      have x0 := hat k n hnk
      have hnm := HX.out.2.2.1 n (List.mem_of_getElem? hnk)
      have hnl := nameB_len hnm
      have cN := name_is ⟨n.toArray⟩ wr (HX.out.2.2.2.2.below HB.out) (by rw [ba_size]; omega)
      have HAT : Hid (∀ W, Below wr.heap.size wr W → ∀ (j : Nat) t, ns[j]? = some t → W.cell? ⟨b, o + j, none⟩ = some (.string ⟨t.toArray⟩)) := fun W hW j t hj => (hW.cell (p := ⟨b, o + j, none⟩) (World.block_lt_of_cell? _ _ (hat j t hj))).trans (hat j t hj)
      have HNM : Hid (ns[k]? = some n ∧ nameB n = some n) := ⟨hnk, hnm⟩
      clear hat hnk hnm
      go_wp2_with fail
      refine cN.mono ?_
      rintro e w1 ⟨hb1, ⟨r, hr, _, rfl⟩ | ⟨hr, rfl⟩⟩
      · have hrn : r = ⟨n.toArray⟩ := by
          have hr : nameB n = some r.data.toList := hr
          rw [HNM.out.2] at hr
          exact ba_list (Option.some.inj hr).symm
        subst hrn
        have HB1 : Hid (Below w.heap.size w w1) := HB.out.trans (hb1.mono HB.out.size)
        have y0 : w1.cell? ⟨b, o + k, none⟩ = some (.string ⟨n.toArray⟩) := HAT.out w1 hb1 k n HNM.out.1
        by_cases h0 : k = 0
        · subst h0
          clear cN hr hb1 HAT
          go_wp2_with fail
          go_roundw
          case rel => exact ⟨1, by go_num, by omega, HB1⟩
          case measure => simp [intOf]; omega
        · obtain ⟨j, hj⟩ : ∃ j, k = j + 1 := ⟨k - 1, by omega⟩
          have HJ : Hid (k = j + 1) := hj
          obtain ⟨m, hmj⟩ : ∃ m, ns[j]? = some m := ⟨_, List.getElem?_eq_getElem (by have := HX.out.2.1; omega)⟩
          have z0 : w1.cell? ⟨b, o + (k - 1), none⟩ = some (.string ⟨m.toArray⟩) := by rw [show k - 1 = j by omega]; exact HAT.out w1 hb1 j m hmj
          have hless : Op.bytesLess (⟨m.toArray⟩ : ByteArray).toList (⟨n.toArray⟩ : ByteArray).toList = true := by
            rw [bytesLess_eq]
            refine decide_eq_true ?_
            rw [Lib.toList_data, Lib.toList_data]
            obtain ⟨g1, e1⟩ := List.getElem?_eq_some_iff.1 hmj
            obtain ⟨g2, e2⟩ := List.getElem?_eq_some_iff.1 HNM.out.1
            have := List.pairwise_iff_getElem.1 HX.out.2.2.2.1 j k g1 g2 (by omega)
            rw [e1, e2] at this
            exact this
          have hless2 : Op.bytesLess m n = true := by
            have h5 := hless
            rw [Lib.toList_data, Lib.toList_data] at h5
            exact h5
          have d2 : decide ((0 : Int) < (k : Int)) = true := decide_eq_true (by omega)
          have i5 : (0 : Int) ≤ (k : Int) - 1 := by omega
          have i6 : (k : Int) - 1 < (M : Int) := by omega
          have i3 : (0 : Int) ≤ (j : Int) := by omega
          have i4 : (j : Int) < (M : Int) := by omega
          clear cN hr hb1 HAT hmj hj
          go_wp2_with fail
          go_roundw
          case rel => exact ⟨k + 1, by go_num, by omega, HB1⟩
          case measure => simp [intOf]; omega
      · have hr : nameB n = none := hr
        rw [HNM.out.2] at hr
        cases hr
    · have d1 : decide ((k : Int) < (M : Int)) = false := decide_eq_false (by omega)
      go_wp2_with fail
      go_ret
      exact ⟨rfl, HB.out⟩
end Go.Proofs.YtfdlopimncodcaaGreatDoor
namespace Go.Proofs.YtfdlopimncodcaaGreatDoor
open Go.RowKit Go.Proofs.Aid Go.Proofs.Bx

set_option maxHeartbeats 4000000 in
set_option maxRecDepth 100000 in
theorem get_is (nB : Nm → Option Nm) (hb mb : Nat) (l : Bxs) (nx : Int) (wv : Value) (s : ByteArray) (w : World) (hN : NameC nB w) (h : HsAt w hb mb l nx wv) (hs : s.size ≤ 1000) :
    Calls Tryz.prog 31 #[.pointer (some ⟨hb, 0, none⟩), .string s] w fun e w' => Below w.heap.size w w' ∧
      ((∃ r b, nB s.data.toList = some r ∧ (r, b) ∈ l ∧ e = .returned (.tuple #[.pointer (some ⟨b, 0, none⟩), .nilIface])) ∨ ∃ E, (E = 1 ∨ E = 7) ∧ e = .returned (.tuple #[.pointer none, errN E])) := by
  have cT := there_is nB hb mb l nx wv s w hN h hs
  have HH : Hid (HsAt w hb mb l nx wv) := h
  clear hN h
  go_enter Tryz.func31, Tryz.ntmps31
  go_wp2_with fail
  refine cT.mono ?_
  rintro e w1 ⟨hb1, ⟨r, hr, hr2, hr3, rfl⟩ | ⟨r, hr, hr3, rfl⟩ | ⟨hr, rfl⟩⟩
  · have h1 := HH.out.below hb1 (Nat.le_refl _)
    obtain ⟨b, hb⟩ := hasB_true.1 hr3
    have hlk := mp_look h1.2 r (by omega) (b := b) hb
    have c0 := h1.cell.1
    have HR : Hid (Below w.heap.size w w1 ∧ nB s.data.toList = some r.data.toList ∧ (r.data.toList, b) ∈ l) := ⟨hb1, hr, hb⟩
    clear cT hr hr3 hb1 h1 hb
    go_wp2_with fail
    go_ret2
    exact ⟨HR.out.1, Or.inl ⟨_, b, HR.out.2.1, HR.out.2.2, rfl⟩⟩
  · have HR : Hid (Below w.heap.size w w1) := hb1
    clear cT hr hr3 hb1
    go_wp2_with fail
    go_ret2
    exact ⟨HR.out, Or.inr ⟨7, Or.inr rfl, rfl⟩⟩
  · have HR : Hid (Below w.heap.size w w1) := hb1
    clear cT hr hb1
    go_wp2_with fail
    go_ret2
    exact ⟨HR.out, Or.inr ⟨1, Or.inl rfl, rfl⟩⟩
theorem Left.more {H hb mb K K' : Nat} {nx : Int} {wv : Value} {w w' : World} (h : Left H hb mb K nx wv w w') (hK : K ≤ K') : Left H hb mb K' nx wv w w' := by
  obtain ⟨f, l', mx, h1, h2, h3⟩ := h
  exact ⟨f, l', mx, h1, h2.more hK, h3⟩
theorem create_any (H hb mb K : Nat) (l : Bxs) (nx : Int) (a : Option Addr) (wn wc : Nat) (s : ByteArray) (w : World) (hE : NEnv w) (h : HsAt w hb mb l nx (.slice a wn wc)) (hO : BxOk w H K l) (hl : l.length ≤ 30) (hn : 0 ≤ nx ∧ nx ≤ 800000) (hs : s.size ≤ 1000) (h0 : H ≤ w.heap.size) (h1 : H ≤ hb) (h2 : H ≤ mb) :
    Calls Tryz.prog 41 #[.pointer (some ⟨hb, 0, none⟩), .string s] w fun e w' => (∃ v, e = .returned v) ∧ Left H hb mb K nx (.slice a wn wc) w w' := by
  refine (create_is nameB hb mb l nx (.slice a wn wc) s w (nameC hE) h hs (by omega) (by omega)).mono ?_
  rintro e w' (⟨_, c2, c3⟩ | ⟨r, _, _, c3, c4⟩ | ⟨r, _, _, _, c4, c5⟩ | ⟨r, ps, c1, _, c3, c4, c5, c6, c7⟩)
  · exact ⟨⟨_, c2⟩, left_low h hO hl h0 c3⟩
  · exact ⟨⟨_, c3⟩, left_low h hO hl h0 c4⟩
  · exact ⟨⟨_, c4⟩, left_low h hO hl h0 c5⟩
  · refine ⟨⟨_, c4⟩, Fr.hk h c5 h0 h1 h2, _, _, c7, hO.built h c5 c6 h0 (fun m hm => ?_), ?_, ?_, ?_⟩
    · have h3 := nameB_len c1
      rcases List.mem_append.1 hm with hm | hm
      · have := lack_short hm
        omega
      · rw [List.mem_singleton.1 hm]
        exact h3
    · have e5 : ps.length = (lackB l r ++ [r]).length := by rw [← c6.1, List.length_map]
      have := putAll_len l _ ps e5
      omega
    · omega
    · omega
theorem delete_any (H hb mb K : Nat) (l : Bxs) (nx : Int) (a : Option Addr) (wn wc : Nat) (s : ByteArray) (w : World) (hE : NEnv w) (h : HsAt w hb mb l nx (.slice a wn wc)) (hO : BxOk w H K l) (hl : l.length ≤ 30) (hs : s.size ≤ 1000) (h0 : H ≤ w.heap.size) (h1 : H ≤ hb) (h2 : H ≤ mb) :
    Calls Tryz.prog 43 #[.pointer (some ⟨hb, 0, none⟩), .string s] w fun e w' => (∃ v, e = .returned v) ∧ Left H hb mb K nx (.slice a wn wc) w w' := by
  refine (delete_is nameB hb mb l nx (.slice a wn wc) s w (nameC hE) h hs (by omega)).mono ?_
  rintro e w' (⟨_, c2, c3⟩ | ⟨r, _, _, c3, c4⟩ | ⟨r, _, _, _, c4, c5⟩ | ⟨r, _, _, _, _, c4, c5, c7⟩)
  · exact ⟨⟨_, c2⟩, left_low h hO hl h0 c3⟩
  · exact ⟨⟨_, c3⟩, left_low h hO hl h0 c4⟩
  · exact ⟨⟨_, c4⟩, left_low h hO hl h0 c5⟩
  · exact ⟨⟨_, c4⟩, Fr.hk h c5 h0 h1 h2, _, _, c7, (hO.hk h c5).sub (fun p hp => (List.mem_filter.1 hp).1), Nat.le_trans (List.length_filter_le _ _) hl, Int.le_refl _, by omega⟩
/-- A message more in a box of a house. -/
theorem append_any (H hb mb K : Nat) (l : Bxs) (nx : Int) (a : Option Addr) (wn wc b : Nat) (n : Nm) (t : ByteArray) (w : World) (h : HsAt w hb mb l nx (.slice a wn wc)) (hO : BxOk w H K l) (hl : l.length ≤ 30) (hK : K ≤ 900) (hb' : (n, b) ∈ l) (h0 : H ≤ w.heap.size) :
    Calls Tryz.prog 50 #[.pointer (some ⟨b, 0, none⟩), .slice none 0 0, .int .i64 1, .string t] w fun e w' => (∃ x y, e = .returned (.tuple #[x, y])) ∧ Left H hb mb (K + 1) nx (.slice a wn wc) w w' := by
  obtain ⟨q1, q2, v, m, ls, q3, q4, q5, q6⟩ := hO _ hb'
  refine (box_append b v m 1 ls (.slice none 0 0) ([], 0) t w q3 (by omega) (by omega) (set_nil w)).mono ?_
  rintro e w' (⟨_, c2, c3⟩ | ⟨_, c2, c3, c4⟩)
  · exact ⟨⟨_, _, c2⟩, (left_low h hO hl h0 c3).more (by omega)⟩
  · have hf : Fr H w w' := Fr.but q3 c4 h0 q1
    obtain ⟨lv, hh, _⟩ := id q3
    have nk := ne_of_kind h hh (by decide)
    refine ⟨⟨_, _, c2⟩, hf, l, nx, ⟨(c4.block hb h.lt nk.1.symm).trans h.1, h.2.same (c4.block mb h.2.lt nk.2.symm)⟩, fun p hp => ?_, hl, Int.le_refl _, by omega⟩
    obtain ⟨g1, g2, v', m', ls', g3, g4, g5, g6⟩ := hO p hp
    by_cases hpb : p.2 = b
    · exact ⟨g1, g2, v, m + 1, _, by rw [hpb]; exact c3, by omega, by omega, by rw [List.length_append]; simp; omega⟩
    · exact ⟨g1, g2, v', m', ls', g3.tx (c4.block p.2 g3.lt hpb) hf.tx, g4, by omega, by omega⟩
set_option maxHeartbeats 4000000 in
set_option maxRecDepth 100000 in
theorem deed_is (H hb mb K : Nat) (l : Bxs) (nx : Int) (a : Option Addr) (wn wc : Nat) (k : Int) (s t : ByteArray) (y : Bool) (w : World) (hE : NEnv w) (h : HsAt w hb mb l nx (.slice a wn wc)) (hO : BxOk w H K l) (hl : l.length ≤ 30) (hK : K ≤ 900) (hn : 0 ≤ nx ∧ nx ≤ 800000) (hs : s.size ≤ 1000) (ht : t.size ≤ 1000) (h0 : H ≤ w.heap.size) (h1 : H ≤ hb) (h2 : H ≤ mb) (hk3 : k ≠ 3) :
    Calls Tryz.prog 27 #[.pointer (some ⟨hb, 0, none⟩), .agg #[.int .i64 k, .string s, .string t, .bool y]] w fun e w' => (∃ v, e = .returned v) ∧ Left H hb mb (K + 1) nx (.slice a wn wc) w w' := by
  have b1 : Below w.heap.size w (w.alloc (.cells #[.int .i64 k, .string s, .string t, .bool y] 62)) := (Below.refl _ _).alloc (Nat.le_refl _) _
  have e1 := heap_alloc_new w (.cells #[.int .i64 k, .string s, .string t, .bool y] 62)
  obtain ⟨W1, hW1⟩ : ∃ W, w.alloc (.cells #[.int .i64 k, .string s, .string t, .bool y] 62) = W := ⟨_, rfl⟩
  rw [hW1] at b1 e1
  have f1 : Fr H w W1 := Fr.of b1 h0
  have HL : Hid (∀ w3, Left H hb mb K nx (.slice a wn wc) W1 w3 ∨ Left H hb mb (K + 1) nx (.slice a wn wc) W1 w3 → Left H hb mb (K + 1) nx (.slice a wn wc) w w3) := fun w3 h3 => by
    rcases h3 with h3 | h3
    · exact ⟨f1.trans h3.1, (h3.more (by omega)).2⟩
    · exact ⟨f1.trans h3.1, h3.2⟩
  have hS1 := h.below b1 (Nat.le_refl _)
  have hO1 := hO.hk h (HK.of b1)
  have hE1 := hE.below b1
  have hz1 : H ≤ W1.heap.size := Nat.le_trans h0 b1.size
  have r0 : W1.cell? ⟨w.heap.size, 0, none⟩ = some (.int .i64 k) := rd_cell e1 rfl
  have r1 : W1.cell? ⟨w.heap.size, 1, none⟩ = some (.string s) := rd_cell e1 rfl
  have r2 : W1.cell? ⟨w.heap.size, 2, none⟩ = some (.string t) := rd_cell e1 rfl
  have e1' : Hid (W1.heap[w.heap.size]? = some (.cells #[.int .i64 k, .string s, .string t, .bool y] 62 (0, 0))) := e1
  have HSelf : Hid (Left H hb mb (K + 1) nx (.slice a wn wc) w W1) := (left_low h hO hl h0 b1).more (by omega)
  clear h hO hE b1 e1 f1 h0
  by_cases k0 : k = 0
  · subst k0
    have cC := create_any H hb mb K l nx a wn wc s W1 hE1 hS1 hO1 hl hn hs hz1 h1 h2
    clear hS1 hO1 hE1
    go_enter Tryz.func27, Tryz.ntmps27
    go_wp2_with fail
    refine cC.mono ?_
    rintro e w2 ⟨⟨v, rfl⟩, hL⟩
    have HF : Hid (Left H hb mb (K + 1) nx (.slice a wn wc) w w2) := HL.out w2 (Or.inl hL)
    clear cC hL
    go_wp2_with fail
    go_ret
    exact ⟨⟨_, rfl⟩, HF.out⟩
  · have d0 : (k == 0) = false := beq_eq_false_iff_ne.2 k0
    by_cases k1 : k = 1
    · subst k1
      have cC := delete_any H hb mb K l nx a wn wc s W1 hE1 hS1 hO1 hl hs hz1 h1 h2
      clear hS1 hO1 hE1
      go_enter Tryz.func27, Tryz.ntmps27
      go_wp2_with fail
      refine cC.mono ?_
      rintro e w2 ⟨⟨v, rfl⟩, hL⟩
      have HF : Hid (Left H hb mb (K + 1) nx (.slice a wn wc) w w2) := HL.out w2 (Or.inl hL)
      clear cC hL
      go_wp2_with fail
      go_ret
      exact ⟨⟨_, rfl⟩, HF.out⟩
    · have d1 : (k == 1) = false := beq_eq_false_iff_ne.2 k1
      by_cases k2 : k = 2
      · subst k2
        have cC := rename_any H hb mb K l nx a wn wc s t W1 hE1 hS1 hO1 hl hn hs ht hz1 h1 h2
        clear hS1 hO1 hE1
        go_enter Tryz.func27, Tryz.ntmps27
        go_wp2_with fail
        refine cC.mono ?_
        rintro e w2 ⟨⟨v, rfl⟩, hL⟩
        have HF : Hid (Left H hb mb (K + 1) nx (.slice a wn wc) w w2) := HL.out w2 (Or.inl hL)
        clear cC hL
        go_wp2_with fail
        go_ret
        exact ⟨⟨_, rfl⟩, HF.out⟩
      · have d2 : (k == 2) = false := beq_eq_false_iff_ne.2 k2
        have d3 : (k == 3) = false := beq_eq_false_iff_ne.2 hk3
        by_cases k4 : k = 4
        · subst k4
          have cG := get_is nameB hb mb l nx (.slice a wn wc) s W1 (nameC hE1) hS1 hs
          have HX : Hid (HsAt W1 hb mb l nx (.slice a wn wc) ∧ BxOk W1 H K l) := ⟨hS1, hO1⟩
          clear hS1 hO1 hE1
          go_enter Tryz.func27, Tryz.ntmps27
          go_wp2_with fail
          refine cG.mono ?_
          rintro e w2 ⟨hb2, ⟨r, b, _, hm, rfl⟩ | ⟨E, _, rfl⟩⟩
          · have hS2 := HX.out.1.below hb2 (Nat.le_refl _)
            have cA := append_any H hb mb K l nx a wn wc b r t w2 hS2 (HX.out.2.hk HX.out.1 (HK.of hb2)) hl hK hm (Nat.le_trans hz1 hb2.size)
            have HB2 : Hid (Fr H W1 w2) := Fr.of hb2 hz1
            have r2' : w2.cell? ⟨w.heap.size, 2, none⟩ = some (.string t) := rd_cell ((hb2.block _ (Array.getElem?_eq_some_iff.1 e1'.out).1).trans e1'.out) rfl
            clear cG hb2 hS2 hm r0 r1 r2
            go_wp2_with fail
            refine cA.mono ?_
            rintro e w3 ⟨⟨x, z, rfl⟩, hL⟩
            have HF : Hid (Left H hb mb (K + 1) nx (.slice a wn wc) w w3) := HL.out w3 (Or.inr ⟨HB2.out.trans hL.1, hL.2⟩)
            clear cA hL r2'
            go_wp2_with fail
            go_ret
            exact ⟨⟨_, rfl⟩, HF.out⟩
          · have HF : Hid (Left H hb mb (K + 1) nx (.slice a wn wc) w w2) := HL.out w2 (Or.inl (left_low HX.out.1 HX.out.2 hl hz1 hb2))
            clear cG hb2
            go_wp2_with fail
            go_ret
            exact ⟨⟨_, rfl⟩, HF.out⟩
        · have d4 : (k == 4) = false := beq_eq_false_iff_ne.2 k4
          clear hS1 hO1 hE1
          go_enter Tryz.func27, Tryz.ntmps27
          go_wp2_with fail
          go_ret
          exact ⟨⟨_, rfl⟩, HSelf.out⟩
end Go.Proofs.YtfdlopimncodcaaGreatDoor
namespace Go.Proofs
open Go.Shelf
def Tryz.laysSlH6_f122_ren : Go.Shelf.Ren := ⟨fun | 6 => 122 | n => n, fun | 22 => 32 | 23 => 9 | 25 => 104 | 3 => 3 | 0 => 0 | 4 => 4 | n => n, fun | n => n⟩
theorem Tryz.laysSlH6_f122 : Go.Proofs.SlLaysH.n6 Tryz.prog Tryz.laysSlH6_f122_ren := {
  mixed := by kernel_rfl
  f6 := ⟨Tryz.f122.name, by decide, Tryz.func122.trans (congrArg some (by kernel_rfl))⟩
  t0 := Tryz.underlying0
  a0 := Tryz.isAgg0
  z0 := Tryz.sizeOf0
  v0 := Tryz.zeroValue0
  t3 := Tryz.underlying3
  a3 := Tryz.isAgg3
  z3 := Tryz.sizeOf3
  v3 := Tryz.zeroValue3
  t4 := Tryz.underlying4
  a4 := Tryz.isAgg4
  z4 := Tryz.sizeOf4
  v4 := Tryz.zeroValue4
  t22 := Tryz.underlying32
  a22 := Tryz.isAgg32
  z22 := Tryz.sizeOf32
  v22 := Tryz.zeroValue32
  a23 := Tryz.isAgg9
  z23 := Tryz.sizeOf9
  t25 := Tryz.underlying104
  a25 := Tryz.isAgg104
  z25 := Tryz.sizeOf104
  v25 := Tryz.zeroValue104 }
open Go.RowKit Go.Lib in
theorem Tryz.slices_IndexFunc {α : Type} [Inhabited α] (enc : α → Value) (p : α → Bool) (g : Nat) (lb : Array Value) (eg : ∀ args w, (callFunc g args).run Tryz.prog w = .ok (.enter g args) w) (b off n c : Nat) (zs : List α) (w : World) (hp : PredAt Tryz.prog g lb enc p w) (hz : n ≤ zs.length) (hbig : n ≤ 9223372036854775807) (hc : ∀ j, j < zs.length → w.cell? ⟨b, off + j, none⟩ = some (enc zs[j]!)) :
    Calls Tryz.prog 122 #[.slice (some ⟨b, off, none⟩) n c, .func (.func g) #[] lb] w fun e w' => e = .returned (.int .i64 (Lib.idxBy (fun _ y => p y) (zs.take n) default)) ∧ ∃ q, w' = w.drewN q := AnyE.slices_IndexFunc Tryz.laysSlH6_f122 enc p g lb eg b off n c zs w hp hz hbig hc
open Go.RowKit Go.Lib in
theorem Tryz.slices_IndexFunc_empty {α : Type} [Inhabited α] (a : Option Addr) (c : Nat) (fv : Value) (w : World) :
    Calls Tryz.prog 122 #[.slice a 0 c, fv] w fun e w' => e = .returned (.int .i64 (-1)) ∧ w' = w := AnyE.slices_IndexFunc_empty Tryz.laysSlH6_f122 a c fv w
end Go.Proofs
