/-
  How boxes are called; boxes are made and go.
-/
import Derived.Test.YtfdlopimncodcaaGreatDoorMHsWithin
namespace Go.Proofs.YtfdlopimncodcaaGreatDoor
open Go.RowKit Go.Proofs.Aid

/-- What Name promises, of whatever text: nB tells it. -/
def NameC (nB : Nm → Option Nm) (w : World) : Prop := ∀ (s : ByteArray) (W : World), Below 8 w W → s.size ≤ 1000 → Calls Tryz.prog 15 #[.string s] W fun e w' => Below W.heap.size W w' ∧
  ((∃ r : ByteArray, nB s.data.toList = some r.data.toList ∧ r.size ≤ 60 ∧ e = .returned (.tuple #[.string r, .nilIface])) ∨ (nB s.data.toList = none ∧ e = .returned (.tuple #[.string ⟨#[]⟩, .iface 42 (.int .i64 1)])))
theorem NameC.low {nB : Nm → Option Nm} {w w' : World} (h : NameC nB w) (hb : Below 8 w w') : NameC nB w' := fun s W hW hs => h s W (hb.trans hW) hs
/-- An error of that number. -/
abbrev errN (n : Int) : Value := .iface 42 (.int .i64 n)
set_option maxHeartbeats 2000000 in
set_option maxRecDepth 100000 in
theorem there_is (nB : Nm → Option Nm) (hb mb : Nat) (l : Bxs) (nx : Int) (wv : Value) (s : ByteArray) (w : World) (hN : NameC nB w) (h : HsAt w hb mb l nx wv) (hs : s.size ≤ 1000) :
    Calls Tryz.prog 81 #[.pointer (some ⟨hb, 0, none⟩), .string s] w fun e w' => Below w.heap.size w w' ∧
      ((∃ r : ByteArray, nB s.data.toList = some r.data.toList ∧ r.size ≤ 60 ∧ hasB l r.data.toList = true ∧ e = .returned (.tuple #[.string r, .nilIface])) ∨
       (∃ r : ByteArray, nB s.data.toList = some r.data.toList ∧ hasB l r.data.toList = false ∧ e = .returned (.tuple #[.string r, errN 7])) ∨
       (nB s.data.toList = none ∧ e = .returned (.tuple #[.string ⟨#[]⟩, errN 1]))) := by
  have cN := hN s w (Below.refl _ _) hs
  have HH : Hid (HsAt w hb mb l nx wv) := h
  clear hN h
  go_enter Tryz.func81, Tryz.ntmps81
  go_wp2_with fail
  refine cN.mono ?_
  rintro e w1 ⟨hb1, ⟨r, hr, hr2, rfl⟩ | ⟨hr, rfl⟩⟩
  · have cH := has_is hb mb l nx wv r w1 (HH.out.below hb1 (Nat.le_refl _)) (by omega)
    have HB1 : Hid (Below w.heap.size w w1 ∧ nB s.data.toList = some r.data.toList) := ⟨hb1, hr⟩
    cases hB : hasB l r.data.toList with
    | true =>
      have HBB : Hid (hasB l r.data.toList = true) := hB
      rw [hB] at cH
      clear cN hb1 hB hr
      go_wp2_with fail
      refine cH.mono ?_
      rintro e w2 ⟨rfl, hw⟩
      obtain rfl : w1 = w2 := hw.symm
      clear hw cH
      go_wp2_with fail
      go_ret2
      exact ⟨HB1.out.1, Or.inl ⟨r, HB1.out.2, hr2, HBB.out, rfl⟩⟩
    | false =>
      have HBB : Hid (hasB l r.data.toList = false) := hB
      rw [hB] at cH
      clear cN hb1 hB hr
      go_wp2_with fail
      refine cH.mono ?_
      rintro e w2 ⟨rfl, hw⟩
      obtain rfl : w1 = w2 := hw.symm
      clear hw cH
      go_wp2_with fail
      go_ret2
      exact ⟨HB1.out.1, Or.inr (Or.inl ⟨r, HB1.out.2, HBB.out, rfl⟩)⟩
  · have HB1 : Hid (Below w.heap.size w w1 ∧ nB s.data.toList = none) := ⟨hb1, hr⟩
    clear cN hb1 hr
    go_wp2_with fail
    go_ret2
    exact ⟨HB1.out.1, Or.inr (Or.inr ⟨HB1.out.2, rfl⟩)⟩
set_option maxHeartbeats 2000000 in
set_option maxRecDepth 100000 in
theorem free_is (nB : Nm → Option Nm) (hb mb : Nat) (l : Bxs) (nx : Int) (wv : Value) (s : ByteArray) (w : World) (hN : NameC nB w) (h : HsAt w hb mb l nx wv) (hs : s.size ≤ 1000) :
    Calls Tryz.prog 82 #[.pointer (some ⟨hb, 0, none⟩), .string s] w fun e w' => Below w.heap.size w w' ∧
      ((∃ r : ByteArray, nB s.data.toList = some r.data.toList ∧ r.size ≤ 60 ∧ hasB l r.data.toList = false ∧ e = .returned (.tuple #[.string r, .nilIface])) ∨
       (∃ r : ByteArray, nB s.data.toList = some r.data.toList ∧ hasB l r.data.toList = true ∧ e = .returned (.tuple #[.string r, errN 9])) ∨
       (nB s.data.toList = none ∧ e = .returned (.tuple #[.string ⟨#[]⟩, errN 1]))) := by
  have cN := hN s w (Below.refl _ _) hs
  have HH : Hid (HsAt w hb mb l nx wv) := h
  clear hN h
  go_enter Tryz.func82, Tryz.ntmps82
  go_wp2_with fail
  refine cN.mono ?_
  rintro e w1 ⟨hb1, ⟨r, hr, hr2, rfl⟩ | ⟨hr, rfl⟩⟩
  · have cH := has_is hb mb l nx wv r w1 (HH.out.below hb1 (Nat.le_refl _)) (by omega)
    have HB1 : Hid (Below w.heap.size w w1 ∧ nB s.data.toList = some r.data.toList) := ⟨hb1, hr⟩
    cases hB : hasB l r.data.toList with
    | true =>
      have HBB : Hid (hasB l r.data.toList = true) := hB
      rw [hB] at cH
      clear cN hb1 hB hr
      go_wp2_with fail
      refine cH.mono ?_
      rintro e w2 ⟨rfl, hw⟩
      obtain rfl : w1 = w2 := hw.symm
      clear hw cH
      go_wp2_with fail
      go_ret2
      exact ⟨HB1.out.1, Or.inr (Or.inl ⟨r, HB1.out.2, HBB.out, rfl⟩)⟩
    | false =>
      have HBB : Hid (hasB l r.data.toList = false) := hB
      rw [hB] at cH
      clear cN hb1 hB hr
      go_wp2_with fail
      refine cH.mono ?_
      rintro e w2 ⟨rfl, hw⟩
      obtain rfl : w1 = w2 := hw.symm
      clear hw cH
      go_wp2_with fail
      go_ret2
      exact ⟨HB1.out.1, Or.inl ⟨r, HB1.out.2, hr2, HBB.out, rfl⟩⟩
  · have HB1 : Hid (Below w.heap.size w w1 ∧ nB s.data.toList = none) := ⟨hb1, hr⟩
    clear cN hb1 hr
    go_wp2_with fail
    go_ret2
    exact ⟨HB1.out.1, Or.inr (Or.inr ⟨HB1.out.2, rfl⟩)⟩
theorem lack_short {l : Bxs} {n m : Nm} (h : m ∈ lackB l n) : m.length ≤ n.length := by
  unfold lackB lackTo at h
  obtain ⟨i, _, rfl⟩ := List.mem_map.1 h
  rw [List.length_take]
  omega
set_option maxHeartbeats 4000000 in
set_option maxRecDepth 100000 in
theorem create_is (nB : Nm → Option Nm) (hb mb : Nat) (l : Bxs) (nx : Int) (wv : Value) (s : ByteArray) (w : World) (hN : NameC nB w) (h : HsAt w hb mb l nx wv) (hs : s.size ≤ 1000) (hl : l.length ≤ 100) (hn : 0 ≤ nx ∧ nx ≤ 900000) :
    Calls Tryz.prog 41 #[.pointer (some ⟨hb, 0, none⟩), .string s] w fun e w' =>
      (nB s.data.toList = none ∧ e = .returned (errN 1) ∧ Below w.heap.size w w') ∨
      (∃ r, nB s.data.toList = some r ∧ hasB l r = true ∧ e = .returned (errN 9) ∧ Below w.heap.size w w') ∨
      (∃ r, nB s.data.toList = some r ∧ hasB l r = false ∧ 30 < l.length + (lackB l r ++ [r]).length ∧ e = .returned (errN 12) ∧ Below w.heap.size w w') ∨
      (∃ r ps, nB s.data.toList = some r ∧ hasB l r = false ∧ l.length + (lackB l r ++ [r]).length ≤ 30 ∧ e = .returned .nilIface ∧ HK hb mb w w' ∧ Built w.heap.size w' nx (lackB l r ++ [r]) ps ∧ HsAt w' hb mb (putAll l ps) (nx + ((lackB l r ++ [r]).length : Int)) wv) := by
  have cF := free_is nB hb mb l nx wv s w hN h hs
  have HH : Hid (HsAt w hb mb l nx wv) := h
  clear hN h
  go_enter Tryz.func41, Tryz.ntmps41
  go_wp2_with fail
  refine cF.mono ?_
  rintro e w1 ⟨hb1, ⟨r, hr, hr2, hr3, rfl⟩ | ⟨r, hr, hr3, rfl⟩ | ⟨hr, rfl⟩⟩
  · have h1 := HH.out.below hb1 (Nat.le_refl _)
    have cL := lacking_is hb mb l nx wv r w1 h1 (by omega)
    have HR : Hid (nB s.data.toList = some r.data.toList ∧ hasB l r.data.toList = false ∧ Below w.heap.size w w1 ∧ HsAt w1 hb mb l nx wv) := ⟨hr, hr3, hb1, h1⟩
    clear cF hr hr3 hb1 h1
    go_wp2_with fail
    refine cL.mono ?_
    rintro e w2 ⟨⟨v, rfl, hrow⟩, hb2⟩
    obtain ⟨LL, hLL⟩ : ∃ n, (lackB l r.data.toList).length = n := ⟨_, rfl⟩
    obtain ⟨XS, hXS⟩ : ∃ x, (lackB l r.data.toList).map encStr = x := ⟨_, rfl⟩
    have hlen : LL ≤ 60 := by
      have := lackTo_len l r.data.toList r.data.toList.length
      rw [Array.length_toList] at this
      have e2 : (lackB l r.data.toList).length ≤ r.size := by unfold lackB; rw [Array.length_toList]; exact this
      omega
    unfold NRow at hrow
    rw [hLL, hXS] at hrow
    obtain ⟨oa, oc, rfl⟩ := row_form hrow
    have hbs := hb2.size
    have HL : Hid ((lackB l r.data.toList).length = LL ∧ (lackB l r.data.toList).map encStr = XS ∧ Below w1.heap.size w1 w2) := ⟨hLL, hXS, hb2⟩
    clear cL hLL hXS hb2
    go_wp2_with (at_builtin; go_must (refine wpList_push rfl (.tmp 18) (.tmp 20) 32 rfl _ w1.heap.size 9 (.string ⟨#[]⟩) 16 Tryz.underlying32 Tryz.infoNm rfl _ _ _ (by rfl) hrow [.string r] _ (by rfl) (by simp) (by simp [Value.oneCell']) (by simp) (by rfl) (by decide) (by simp; omega) hbs ?_); intro g3 cap3 w3 hown3 hg3 hlt3)
    have hb3 : Below w1.heap.size w1 w3 := HL.out.2.2.grown hg3 hbs (fun j e => (hrow.lt j e).1)
    have h3 := HR.out.2.2.2.below hb3 (Nat.le_refl _)
    have hrow3 : NRow w3 w1.heap.size (.slice (some ⟨g3, 0, none⟩) (LL + 1) cap3) (lackB l r.data.toList ++ [r.data.toList]) := by
      unfold NRow
      rw [List.length_append, List.map_append, HL.out.1, HL.out.2.1, List.map_cons, enc_ba]
      exact hown3
    have cB := build_is hb mb w1.heap.size l nx wv (.slice (some ⟨g3, 0, none⟩) (LL + 1) cap3) (lackB l r.data.toList ++ [r.data.toList]) w3 h3 hrow3 (fun n hn' => by
      have hsz : r.data.toList.length = r.size := by rw [Array.length_toList]; rfl
      rcases List.mem_append.1 hn' with h4 | h4
      · have := lack_short h4
        omega
      · rw [List.mem_singleton.1 h4]
        omega) hl (by rw [List.length_append, HL.out.1]; simp; omega) hn
    have HB3 : Hid (Below w.heap.size w w3) := HR.out.2.2.1.trans (hb3.mono HR.out.2.2.1.size)
    clear hown3 hg3 hb3 h3 hrow3 hrow
    go_wp2_with fail
    refine cB.mono ?_
    rintro e w4 (⟨q1, rfl, hw⟩ | ⟨q1, rfl, q2, ps, q3, q4⟩)
    · obtain rfl : w3 = w4 := hw.symm
      have HQ : Hid (30 < l.length + (lackB l r.data.toList ++ [r.data.toList]).length) := q1
      clear hw cB q1
      go_wp2_with fail
      go_ret
      exact Or.inr (Or.inr (Or.inl ⟨_, HR.out.1, HR.out.2.1, HQ.out, rfl, HB3.out⟩))
    · have HQ : Hid (l.length + (lackB l r.data.toList ++ [r.data.toList]).length ≤ 30 ∧ HK hb mb w w4 ∧ Built w.heap.size w4 nx (lackB l r.data.toList ++ [r.data.toList]) ps ∧ HsAt w4 hb mb (putAll l ps) (nx + ((lackB l r.data.toList ++ [r.data.toList]).length : Int)) wv) := ⟨q1, (HK.of HB3.out).trans q2, ⟨q3.1, fun j p hj => ⟨Nat.le_trans HB3.out.size (q3.2.1 j p hj).1, (q3.2.1 j p hj).2⟩, q3.2.2⟩, q4⟩
      clear cB q1 q2 q3 q4
      go_wp2_with fail
      go_ret
      exact Or.inr (Or.inr (Or.inr ⟨_, ps, HR.out.1, HR.out.2.1, HQ.out.1, rfl, HQ.out.2.1, HQ.out.2.2.1, HQ.out.2.2.2⟩))
  · have HR : Hid (nB s.data.toList = some r.data.toList ∧ hasB l r.data.toList = true ∧ Below w.heap.size w w1) := ⟨hr, hr3, hb1⟩
    clear cF hr hr3 hb1
    go_wp2_with fail
    go_ret
    exact Or.inr (Or.inl ⟨_, HR.out.1, HR.out.2.1, rfl, HR.out.2.2⟩)
  · have HR : Hid (nB s.data.toList = none ∧ Below w.heap.size w w1) := ⟨hr, hb1⟩
    clear cF hr hb1
    go_wp2_with fail
    go_ret
    exact Or.inl ⟨HR.out.1, rfl, HR.out.2⟩
end Go.Proofs.YtfdlopimncodcaaGreatDoor
