/-
  Rename, of whatever names: what it leaves, and more.
-/
import Derived.Test.YtfdlopimncodcaaGreatDoorMHwPour
namespace Go.Proofs.YtfdlopimncodcaaGreatDoor
open Go.RowKit Go.Proofs.Aid Go.Proofs.Bx

theorem del_len {l : Bxs} {x : Nm} (h : hasB l x = true) : (delB l x).length + 1 ≤ l.length := by
  obtain ⟨b, hb⟩ := hasB_true.1 h
  unfold delB
  have := List.length_filter_lt_length_iff_exists (p := fun p : Nm × Nat => decide (p.1 ≠ x)) (l := l) |>.2 ⟨(x, b), hb, by simp⟩
  omega
theorem look_has {l : Bxs} {x : Nm} {b : Nat} (h : lookB l x = some b) : (x, b) ∈ l := by
  unfold lookB at h
  obtain ⟨q, hq, rfl⟩ := Option.map_eq_some_iff.1 h
  have hm := List.mem_of_find?_eq_some hq
  have hx : (q.1 == x) = true := List.find?_some (p := fun p : Nm × Nat => p.1 == x) hq
  obtain ⟨q1, q2⟩ := q
  obtain rfl : q1 = x := by simpa using hx
  exact hm
theorem mvStep_le {t n : Nm} {l : Bxs} {x : Nm} (hs : SortedB l) : (mvStep t n l x).length ≤ l.length := by
  unfold mvStep
  split
  · rename_i b hb
    have h1 := putB_len (calledB t n x) b l
    have h2 := del_len (has_put hs (c := calledB t n x) (b := b) (hasB_true.2 ⟨b, look_has hb⟩))
    omega
  · exact Nat.le_refl _
theorem mvAll_le {t n : Nm} : ∀ (xs : List Nm) (l : Bxs), SortedB l → (mvAll t n xs l).length ≤ l.length
  | [], _, _ => Nat.le_refl _
  | x :: xs, l, hs => Nat.le_trans (mvAll_le xs (mvStep t n l x) (mvStep_sorted hs)) (mvStep_le hs)
theorem mem_mvStep {t n : Nm} {l : Bxs} {x : Nm} {q : Nm × Nat} (hs : SortedB l) (h : q ∈ mvStep t n l x) : ∃ p ∈ l, q.2 = p.2 ∧ (q.1 = p.1 ∨ q.1 = calledB t n x) := by
  unfold mvStep at h
  split at h
  · rename_i b hb
    obtain ⟨q1, q2⟩ := q
    rcases (mem_putB hs).1 (mem_delB.1 h).2 with ⟨e1, e2⟩ | ⟨_, hm⟩
    · exact ⟨(x, b), look_has hb, e2, Or.inr e1⟩
    · exact ⟨(q1, q2), hm, rfl, Or.inl rfl⟩
  · exact ⟨q, h, rfl, Or.inl rfl⟩
theorem mem_mvAll {t n : Nm} {q : Nm × Nat} : ∀ (xs : List Nm) (l : Bxs), SortedB l → q ∈ mvAll t n xs l → ∃ p ∈ l, q.2 = p.2 ∧ (q.1 = p.1 ∨ ∃ x ∈ xs, q.1 = calledB t n x)
  | [], _, _, h => ⟨q, h, rfl, Or.inl rfl⟩
  | x :: xs, l, hs, h => by
    obtain ⟨p, hp, e1, e2⟩ := mem_mvAll xs (mvStep t n l x) (mvStep_sorted hs) h
    obtain ⟨p', hp', f1, f2⟩ := mem_mvStep hs hp
    refine ⟨p', hp', e1.trans f1, ?_⟩
    rcases e2 with e2 | ⟨y, hy, e2⟩
    · rcases f2 with f2 | f2
      · exact Or.inl (e2.trans f2)
      · exact Or.inr ⟨x, List.mem_cons_self, e2.trans f2⟩
    · exact Or.inr ⟨y, List.mem_cons_of_mem _ hy, e2⟩
/-- What a deed leaves of a house, whatever it does. -/
def Left (H hb mb K : Nat) (nx : Int) (wv : Value) (w w' : World) : Prop := Fr H w w' ∧ ∃ l' mx, HsAt w' hb mb l' mx wv ∧ BxOk w' H K l' ∧ l'.length ≤ 30 ∧ nx ≤ mx ∧ mx ≤ nx + 30
theorem left_low {H hb mb K : Nat} {l : Bxs} {nx : Int} {a : Option Addr} {wn wc : Nat} {w w' : World} (h : HsAt w hb mb l nx (.slice a wn wc)) (hO : BxOk w H K l) (hl : l.length ≤ 30) (h0 : H ≤ w.heap.size) (hb' : Below w.heap.size w w') : Left H hb mb K nx (.slice a wn wc) w w' :=
  ⟨Fr.of hb' h0, l, nx, h.below hb' (Nat.le_refl _), hO.hk h (HK.of hb'), hl, Int.le_refl _, by omega⟩
set_option maxHeartbeats 8000000 in
set_option maxRecDepth 100000 in
theorem rename_any (H hb mb K : Nat) (l : Bxs) (nx : Int) (a : Option Addr) (wn wc : Nat) (s u : ByteArray) (w : World) (hE : NEnv w) (h : HsAt w hb mb l nx (.slice a wn wc)) (hO : BxOk w H K l) (hl : l.length ≤ 30) (hn : 0 ≤ nx ∧ nx ≤ 800000) (hs : s.size ≤ 1000) (hu : u.size ≤ 1000) (h0 : H ≤ w.heap.size) (h1 : H ≤ hb) (h2 : H ≤ mb) :
    Calls Tryz.prog 32 #[.pointer (some ⟨hb, 0, none⟩), .string s, .string u] w fun e w' => (∃ v, e = .returned v) ∧ Left H hb mb K nx (.slice a wn wc) w w' := by
  have cT := there_is nameB hb mb l nx (.slice a wn wc) s w (nameC hE) h hs
  have HH : Hid (HsAt w hb mb l nx (.slice a wn wc) ∧ BxOk w H K l ∧ NEnv w ∧ H ≤ w.heap.size ∧ H ≤ hb ∧ H ≤ mb) := ⟨h, hO, hE, h0, h1, h2⟩
  clear hE h hO h0 h1 h2
  go_enter Tryz.func32, Tryz.ntmps32
  go_wp2_with fail
  refine cT.mono ?_
  rintro e w1 ⟨hb1, ⟨r, hr, hr2, hr3, rfl⟩ | ⟨r, hr, hr3, rfl⟩ | ⟨hr, rfl⟩⟩
  · have h1 := HH.out.1.below hb1 (Nat.le_refl _)
    have hz1 := hb1.size
    have cF := free_is nameB hb mb l nx (.slice a wn wc) u w1 (nameC (HH.out.2.2.1.below hb1)) h1 hu
    have HR : Hid (hasB l r.data.toList = true ∧ r.size ≤ 60 ∧ HsAt w1 hb mb l nx (.slice a wn wc) ∧ Below w.heap.size w w1 ∧ NEnv w1) := ⟨hr3, hr2, h1, hb1, HH.out.2.2.1.below hb1⟩
    clear cT hr hr3 h1 hb1
    go_wp2_with fail
    refine cF.mono ?_
    rintro e w2 ⟨hb2, ⟨q, hq, hq2, hq3, rfl⟩ | ⟨q, hq, hq3, rfl⟩ | ⟨hq, rfl⟩⟩
    · have h2 := HR.out.2.2.1.below hb2 (Nat.le_refl _)
      have hB2 : Below w.heap.size w w2 := HR.out.2.2.2.1.trans (hb2.mono hz1)
      have hO2 := HH.out.2.1.hk HH.out.1 (HK.of hB2)
      have hE2 := HR.out.2.2.2.2.below hb2
      have hz2 := hB2.size
      have hH := HH.out.2.2.2
      have HL : Hid (∀ w3, Left H hb mb K nx (.slice a wn wc) w2 w3 → Left H hb mb K nx (.slice a wn wc) w w3) := fun w3 h3 => ⟨(Fr.of hB2 hH.1).trans h3.1, h3.2⟩
      by_cases hin : r.data.toList = inboxN
      · have hT : r.toList = [73, 78, 66, 79, 88] := by rw [Lib.toList_data]; exact hin
        have cP := pour_is H hb mb K l nx a wn wc q w2 nameB (nameC hE2) h2 hO2 hl hn hq2 (nameB_idem hq) hq3 (by rw [← hin]; exact HR.out.1) (by omega) hH.2.1 hH.2.2
        clear cF hq hq3 h2 hB2 hO2 hE2 hin hb2
        go_wp2_with fail
        refine cP.mono ?_
        rintro e w3 ⟨⟨v, rfl⟩, hL⟩
        have HF : Hid (Left H hb mb K nx (.slice a wn wc) w w3) := HL.out w3 hL
        clear cP hL
        go_wp2_with fail
        go_ret
        exact ⟨⟨_, rfl⟩, HF.out⟩
      · have hT : ¬ r.toList = [73, 78, 66, 79, 88] := by rw [Lib.toList_data]; exact hin
        have hT2 : (r.toList == [73, 78, 66, 79, 88]) = false := beq_eq_false_iff_ne.2 hT
        have cM := move_is hb mb l nx (.slice a wn wc) r q w2 h2 (by omega) hq2 (by omega) (fun p hp => by have := (hO2 p hp).2.1; omega) HR.out.1 (by omega)
        have HX : Hid (HsAt w2 hb mb l nx (.slice a wn wc) ∧ BxOk w2 H K l ∧ H ≤ w2.heap.size) := ⟨h2, hO2, by omega⟩
        clear cF hq hq3 h2 hB2 hO2 hE2 hin hb2
        go_wp2_with fail
        refine cM.mono ?_
        rintro e w3 hc
        have HC : Hid ((∃ v, e = .returned v) ∧ Left H hb mb K nx (.slice a wn wc) w w3) := by
          rcases hc with ⟨_, c2, c3⟩ | ⟨_, _, c3, c4⟩ | ⟨_, _, _, c4, c5⟩ | ⟨_, c2, c3, c4, c5, ps, c6, c7⟩
          · exact ⟨⟨_, c2⟩, HL.out w3 (left_low HX.out.1 HX.out.2.1 hl HX.out.2.2 c3)⟩
          · exact ⟨⟨_, c3⟩, HL.out w3 (left_low HX.out.1 HX.out.2.1 hl HX.out.2.2 c4)⟩
          · exact ⟨⟨_, c4⟩, HL.out w3 (left_low HX.out.1 HX.out.2.1 hl HX.out.2.2 c5)⟩
          · refine ⟨⟨_, c4⟩, HL.out w3 ⟨Fr.hk HX.out.1 c5 HX.out.2.2 hH.2.1 hH.2.2, _, _, c7, fun p hp => ?_, ?_, ?_, ?_⟩⟩
            · have hso := HX.out.1.2.sorted
              have hbu := HX.out.2.1.built HX.out.1 c5 c6 HX.out.2.2 (fun m hm => by
                have h3 := lack_short hm
                have h4 : q.data.toList.length = q.size := by rw [Array.length_toList]; rfl
                omega)
              obtain ⟨p', hp', e1, e2⟩ := mem_mvAll _ _ (putAll_sorted ps l hso) hp
              obtain ⟨g1, g2, g3⟩ := hbu p' hp'
              refine ⟨by rw [e1]; exact g1, ?_, by rw [e1]; exact g3⟩
              rcases e2 with e2 | ⟨x, hx, e2⟩
              · rw [e2]; exact g2
              · rw [e2]
                have := List.any_eq_false.1 c2 x hx
                simpa using this
            · have e5 : ps.length = (lackB l q.data.toList).length := by rw [← c6.1, List.length_map]
              have h3 := putAll_len l _ ps e5
              have h4 := mvAll_le (t := q.data.toList) (n := r.data.toList) (mvNames l r.data.toList) (putAll l ps) (putAll_sorted ps l HX.out.1.2.sorted)
              omega
            · omega
            · omega
        obtain ⟨v, rfl⟩ := HC.out.1
        clear hc cM
        go_wp2_with fail
        go_ret
        exact HC.out
    · have HF : Hid (Left H hb mb K nx (.slice a wn wc) w w2) := left_low HH.out.1 HH.out.2.1 hl HH.out.2.2.2.1 (HR.out.2.2.2.1.trans (hb2.mono hz1))
      clear cF hq hq3 hb2
      go_wp2_with fail
      go_ret
      exact ⟨⟨_, rfl⟩, HF.out⟩
    · have HF : Hid (Left H hb mb K nx (.slice a wn wc) w w2) := left_low HH.out.1 HH.out.2.1 hl HH.out.2.2.2.1 (HR.out.2.2.2.1.trans (hb2.mono hz1))
      clear cF hq hb2
      go_wp2_with fail
      go_ret
      exact ⟨⟨_, rfl⟩, HF.out⟩
  · have HF : Hid (Left H hb mb K nx (.slice a wn wc) w w1) := left_low HH.out.1 HH.out.2.1 hl HH.out.2.2.2.1 hb1
    clear cT hr hr3 hb1
    go_wp2_with fail
    go_ret
    exact ⟨⟨_, rfl⟩, HF.out⟩
  · have HF : Hid (Left H hb mb K nx (.slice a wn wc) w w1) := left_low HH.out.1 HH.out.2.1 hl HH.out.2.2.2.1 hb1
    clear cT hr hb1
    go_wp2_with fail
    go_ret
    exact ⟨⟨_, rfl⟩, HF.out⟩
end Go.Proofs.YtfdlopimncodcaaGreatDoor
namespace Go.Proofs.YtfdlopimncodcaaGreatDoor
open Go.RowKit Go.Proofs.Aid Go.Proofs.Bx

theorem hown_set {w0 w : World} {base g cap k : Nat} {v : Value} {l : List Lt} {x : Lt} (h : LOwn w0 w base v l) (hv : v = .slice (some ⟨g, 0, none⟩) l.length cap) (hk : l[k]? = some x) {fv : Value} {F : List Fl.Tx} (hf : Sl w0 fv F) :
    LOwn w0 (w.setCell ⟨g, k * 4 + 1, none⟩ fv) base v (l.set k ⟨x.uid, F, x.day, x.text⟩) ∧ (∃ a n c, w.cell? ⟨g, k * 4 + 1, none⟩ = some (.slice a n c)) ∧ w.frozen? ⟨g, k * 4 + 1, none⟩ = false := by
  obtain ⟨rows, h1, h2, h3, h4⟩ := id h
  subst hv
  have hkl := (List.getElem?_eq_some_iff.1 hk).1
  rcases h1.2 with ⟨hz, _⟩ | ⟨g', cap', cur, hv, hb, hh, hnc, hcm, hcs, htk⟩
  · cases hz
  injection hv with hv _ hv2
  injection hv with hv
  injection hv with hv _ _
  subst hv
  subst hv2
  have e9 := rd_set (i := k * 4 + 1) fv hh
  have hrk : rows[k]? = some (rows[k]'(by omega)) := List.getElem?_eq_getElem (by omega)
  obtain ⟨fu, e1, hfu⟩ := h3 k x _ hk hrk
  obtain ⟨ua, uc, hfue, _⟩ := id hfu
  refine ⟨⟨rows.set k [.int .i64 x.uid, fv, .int .i64 x.day, .string ⟨x.text.toArray⟩], ⟨?_, Or.inr ⟨g, cap, _, by rw [List.length_set], hb, e9, by rw [List.length_set]; exact hnc, hcm, by rw [Array.size_setIfInBounds]; exact hcs, ?_⟩⟩, by simp [h2], fun j y ys hj hy => ?_, fun xs hx => ?_⟩, ⟨ua, x.flags.length, uc, ?_⟩, rd_free hh _⟩
  · rw [flat4_len (fun xs hx => by
      rcases List.mem_or_eq_of_mem_set hx with h | h
      · exact h4 xs h
      · rw [h]; rfl), List.length_set, List.length_set, h2]
  · rw [List.length_set, Array.toList_setIfInBounds, List.take_set, htk]
    apply List.ext_getElem?
    intro i
    rw [List.getElem?_set]
    by_cases hi : i < l.length * 4
    · have hd : i = i / 4 * 4 + i % 4 := by omega
      have hjr : rows[i / 4]? = some (rows[i / 4]'(by omega)) := List.getElem?_eq_getElem (by omega)
      have hfl := flat4_get (i := i % 4) h4 hjr (by omega)
      rw [← hd] at hfl
      have h4' : ∀ xs ∈ rows.set k [.int .i64 x.uid, fv, .int .i64 x.day, .string ⟨x.text.toArray⟩], xs.length = 4 := fun xs hx => by
        rcases List.mem_or_eq_of_mem_set hx with h | h
        · exact h4 xs h
        · rw [h]; rfl
      have hlt' : i / 4 < (rows.set k [.int .i64 x.uid, fv, .int .i64 x.day, .string ⟨x.text.toArray⟩]).length := by rw [List.length_set]; omega
      have hfl' := flat4_get (i := i % 4) h4' (List.getElem?_eq_getElem hlt') (by omega)
      rw [← hd] at hfl'
      rw [hfl']
      by_cases hik : k = i / 4
      · subst hik
        rw [List.getElem_set_self]
        by_cases h1i : i % 4 = 1
        · rw [if_pos (by omega), if_pos (by rw [flat4_len h4, h2]; omega), h1i]
          rfl
        · rw [if_neg (by omega), hfl, e1]
          have : i % 4 = 0 ∨ i % 4 = 2 ∨ i % 4 = 3 := by omega
          rcases this with h | h | h <;> rw [h] <;> rfl
      · rw [List.getElem_set_ne hik, if_neg (by omega), hfl]
    · have hl1 : rows.flatten.length = l.length * 4 := by rw [flat4_len h4, h2]
      have hl2 : (rows.set k [.int .i64 x.uid, fv, .int .i64 x.day, .string ⟨x.text.toArray⟩]).flatten.length = l.length * 4 := by
        rw [flat4_len (fun xs hx => by
          rcases List.mem_or_eq_of_mem_set hx with h | h
          · exact h4 xs h
          · rw [h]; rfl), List.length_set, h2]
      rw [if_neg (by omega), List.getElem?_eq_none (by omega), List.getElem?_eq_none (by omega)]
  · by_cases hjk : k = j
    · subst hjk
      rw [List.getElem?_set_self hkl] at hj
      rw [List.getElem?_set_self (by omega)] at hy
      obtain rfl := Option.some.inj hj
      obtain rfl := Option.some.inj hy
      exact ⟨fv, rfl, hf⟩
    · rw [List.getElem?_set_ne hjk] at hj hy
      exact h3 j y ys hj hy
  · rcases List.mem_or_eq_of_mem_set hx with h | h
    · exact h4 xs h
    · rw [h]; rfl
  · rw [h1.cellAt (k * 4 + 1) (by omega), flat4_get h4 hrk (by omega), e1, hfue]
    rfl
theorem hown_at {w0 w : World} {base : Nat} {v : Value} {l : List Lt} (h : LOwn w0 w base v l) {k : Nat} {x : Lt} (hk : l[k]? = some x) : ∃ g cap fv, v = .slice (some ⟨g, 0, none⟩) l.length cap ∧ base ≤ g ∧ g < w.heap.size ∧
    w.cell? ⟨g, k * 4, none⟩ = some (.int .i64 x.uid) ∧ w.cell? ⟨g, k * 4 + 1, none⟩ = some fv ∧ w.cell? ⟨g, k * 4 + 2, none⟩ = some (.int .i64 x.day) ∧ w.cell? ⟨g, k * 4 + 3, none⟩ = some (.string ⟨x.text.toArray⟩) ∧ Sl w0 fv x.flags := by
  obtain ⟨rows, h1, h2, h3, h4⟩ := h
  have hkl : k < l.length := (List.getElem?_eq_some_iff.1 hk).1
  rcases h1.2 with ⟨_, h0⟩ | ⟨g, cap, cur, rfl, hg, hh, _⟩
  · omega
  · have hjr : rows[k]? = some (rows[k]'(by omega)) := List.getElem?_eq_getElem (by omega)
    obtain ⟨fv, hx, hs⟩ := h3 k x _ hk hjr
    have hc : ∀ i u, i < 4 → (rows[k]'(by omega))[i]? = some u → w.cell? ⟨g, k * 4 + i, none⟩ = some u := fun i u hi hu => by
      rw [h1.cellAt (k * 4 + i) (by omega), flat4_get h4 hjr hi]
      exact hu
    refine ⟨g, cap, fv, rfl, hg, (Array.getElem?_eq_some_iff.1 hh).1, ?_, hc 1 fv (by omega) (by rw [hx]; rfl), hc 2 _ (by omega) (by rw [hx]; rfl), hc 3 _ (by omega) (by rw [hx]; rfl), hs⟩
    have := hc 0 (.int .i64 x.uid) (by omega) (by rw [hx]; rfl)
    rwa [Nat.add_zero] at this
theorem Sl.hstrs {w w' : World} {v : Value} {l : List Fl.Tx} (h : Sl w v l) (hs : ∀ p s, w.cell? p = some (.string s) → w'.cell? p = some (.string s)) : Sl w' v l := by
  obtain ⟨a, c, h1, h0, h2⟩ := h
  refine ⟨a, c, h1, h0, ?_⟩
  rcases h2 with h2 | ⟨b, o, h3, h4⟩
  · exact Or.inl h2
  · exact Or.inr ⟨b, o, h3, fun j z hj => hs _ _ (h4 j z hj)⟩
theorem LOwn.hsame {w0 w w' : World} {base : Nat} {v : Value} {l : List Lt} (h : LOwn w0 w base v l) (hk : ∀ q, base ≤ q → q < w.heap.size → v.ownBlock = some q → w'.heap[q]? = w.heap[q]?) : LOwn w0 w' base v l := by
  obtain ⟨rows, h1, h2, h3, h4⟩ := h
  exact ⟨rows, own_same h1 fun q hq => hk q (h1.lt q hq).1 (h1.lt q hq).2 hq, h2, h3, h4⟩
theorem LOwn.hnow {w0 w : World} {base : Nat} {v : Value} {l : List Lt} (h : LOwn w0 w base v l) (hs : ∀ fv F, Sl w0 fv F → Sl w fv F) : LOwn w w base v l := by
  obtain ⟨rows, h1, h2, h3, h4⟩ := h
  exact ⟨rows, h1, h2, fun j x xs h5 h6 => (by obtain ⟨fv, e1, e2⟩ := h3 j x xs h5 h6; exact ⟨fv, e1, hs fv _ e2⟩), h4⟩
theorem LOwn.hform {w0 w : World} {base : Nat} {v : Value} {l : List Lt} (h : LOwn w0 w base v l) : ∃ a c, v = .slice a l.length c := by
  obtain ⟨rows, h1, _⟩ := h
  rcases h1.2 with ⟨h2, h3⟩ | ⟨g, cap, cur, hv, _⟩
  · exact ⟨none, 0, by rw [h2, h3]⟩
  · exact ⟨_, _, hv⟩
theorem LOwn.hblk {w0 w : World} {base : Nat} {v : Value} {l : List Lt} (h : LOwn w0 w base v l) {q : Nat} (hq : v.ownBlock = some q) : base ≤ q ∧ q < w.heap.size := by
  obtain ⟨rows, h1, _⟩ := h
  exact h1.lt q hq
theorem hset_strs {w : World} {g i : Nat} {v : Value} {a : Option Addr} {n c : Nat} (h : w.cell? ⟨g, i, none⟩ = some (.slice a n c)) : ∀ p s, w.cell? p = some (.string s) → (w.setCell ⟨g, i, none⟩ v).cell? p = some (.string s) := fun p s hp => by
  have hne : p ≠ ⟨g, i, none⟩ := fun e => by rw [e, h] at hp; cases hp
  rw [World.cell?_setCell_other (h := Ne.symm hne)]
  exact hp
end Go.Proofs.YtfdlopimncodcaaGreatDoor
