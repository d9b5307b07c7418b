/-
  Flags of a message are changed: changed, Flag.
  What saysYes says, of what does not panic.
-/
import Derived.Test.YtgpcnacpefficaaGreatDoorBpBoxApp
import Derived.Test.YtgpcnacpefficaaGreatDoorMFlagsSet
namespace Go.Proofs.YtgpcnacpefficaaGreatDoor
open Go.RowKit Go.Proofs.Aid Go.Proofs.Bx

def limF (x : List Fl.Tx) : List Fl.Tx × Int := if 12 < x.length then ([], 4) else (x, 0)
/-- What flags are, when something was done with them. -/
def chgF (had : List Fl.Tx) (what : Int) (set : List Fl.Tx) : List Fl.Tx × Int :=
  if what = 0 then limF set else if what = 1 then limF (Fl.order (had ++ set)) else if what = 2 then limF (Fl.order (Fl.without had (Fl.order set))) else ([], 1)
def ChgOut (w : World) (F : List Fl.Tx × Int) (e : Ending) (w' : World) : Prop :=
  ((F.2 = 0 ∧ ∃ v', e = .returned (.tuple #[v', .nilIface]) ∧ Sl w' v' F.1) ∨ (F.2 ≠ 0 ∧ e = .returned (.tuple #[.slice none 0 0, .iface 55 (.int .i64 F.2)]))) ∧ Below w.heap.size w w'
theorem lim_out {w w' : World} {x : List Fl.Tx} {v : Value} (h : Sl w' v x) (hb : Below w.heap.size w w') (hl : ¬ 12 < x.length) : ChgOut w (limF x) (.returned (.tuple #[v, .nilIface])) w' := by
  unfold limF
  rw [if_neg hl]
  exact ⟨Or.inl ⟨rfl, v, rfl, h⟩, hb⟩
theorem lim_bad {w w' : World} {x : List Fl.Tx} (hb : Below w.heap.size w w') (hl : 12 < x.length) : ChgOut w (limF x) (.returned (.tuple #[.slice none 0 0, .iface 55 (.int .i64 4)])) w' := by
  unfold limF
  rw [if_pos hl]
  exact ⟨Or.inr ⟨by decide, rfl⟩, hb⟩
set_option maxHeartbeats 2000000 in
set_option maxRecDepth 100000 in
theorem changed_is (hv sv : Value) (what : Int) (had set : List Fl.Tx) (w : World) (h1 : Sl w hv had) (h2 : Sl w sv set) (hl1 : had.length ≤ 400) (hl2 : set.length ≤ 400) (hg : SysAt w) :
    Calls Tryz.prog 49 #[hv, .int .i64 what, sv] w fun e w' => ChgOut w (chgF had what set) e w' := by
  have cO := or_any hv sv had set w h1 h2 hl1 hl2 hg
  have cN := not_any hv sv had set w h1 h2 (by omega) (by omega) hg
  obtain ⟨T, hT⟩ : ∃ T, chgF had what set = T := ⟨_, rfl⟩
  rw [hT]
  unfold chgF at hT
  obtain ⟨sa, sc, hsv, hsr⟩ := id h2
  by_cases w0 : what = 0
  · subst w0
    rw [if_pos rfl] at hT
    subst hT
    subst hsv
    by_cases hlen : 12 < set.length
    · have d1 : decide ((12 : Int) < (set.length : Int)) = true := decide_eq_true (by omega)
      have d2 : decide (12 < set.length) = true := decide_eq_true hlen
      have HD := lim_bad (w := w) (x := set) (Below.refl _ _) hlen
      clear cO cN hsr h1
      go_enter Tryz.func49, Tryz.ntmps49
      go_wp2_with fail
      go_ret2
      exact HD
    · have d1 : decide ((12 : Int) < (set.length : Int)) = false := decide_eq_false (by omega)
      have d2 : decide (12 < set.length) = false := decide_eq_false hlen
      have HD := lim_out h2 (Below.refl _ w) hlen
      clear cO cN hsr h1
      go_enter Tryz.func49, Tryz.ntmps49
      go_wp2_with fail
      go_ret2
      exact HD
  rw [if_neg w0] at hT
  have m0 : (what == 0) = false := by simpa using w0
  by_cases w1 : what = 1
  · subst w1
    rw [if_pos rfl] at hT
    obtain ⟨X, hX⟩ : ∃ X, Fl.order (had ++ set) = X := ⟨_, rfl⟩
    rw [hX] at hT cO
    subst hT
    clear cN hsr h1 h2 hX hsv
    go_enter Tryz.func49, Tryz.ntmps49
    go_wp2_with fail
    refine cO.mono ?_
    rintro e w2 ⟨⟨xv, rfl, hx⟩, hb⟩
    obtain ⟨xa, xc, hxv, _⟩ := id hx
    subst hxv
    by_cases hlen : 12 < X.length
    · have d1 : decide ((12 : Int) < (X.length : Int)) = true := decide_eq_true (by omega)
      have d2 : decide (12 < X.length) = true := decide_eq_true hlen
      have HD := lim_bad (x := X) hb hlen
      clear cO
      go_wp2_with fail
      go_ret2
      exact HD
    · have d1 : decide ((12 : Int) < (X.length : Int)) = false := decide_eq_false (by omega)
      have d2 : decide (12 < X.length) = false := decide_eq_false hlen
      have HD := lim_out hx hb hlen
      clear cO
      go_wp2_with fail
      go_ret2
      exact HD
  rw [if_neg w1] at hT
  have m1 : (what == 1) = false := by simpa using w1
  by_cases w2 : what = 2
  · subst w2
    rw [if_pos rfl] at hT
    obtain ⟨X, hX⟩ : ∃ X, Fl.order (Fl.without had (Fl.order set)) = X := ⟨_, rfl⟩
    rw [hX] at hT cN
    subst hT
    clear cO hsr h1 h2 hX hsv
    go_enter Tryz.func49, Tryz.ntmps49
    go_wp2_with fail
    refine cN.mono ?_
    rintro e w2 ⟨⟨xv, rfl, hx⟩, hb⟩
    obtain ⟨xa, xc, hxv, _⟩ := id hx
    subst hxv
    by_cases hlen : 12 < X.length
    · have d1 : decide ((12 : Int) < (X.length : Int)) = true := decide_eq_true (by omega)
      have d2 : decide (12 < X.length) = true := decide_eq_true hlen
      have HD := lim_bad (x := X) hb hlen
      clear cN
      go_wp2_with fail
      go_ret2
      exact HD
    · have d1 : decide ((12 : Int) < (X.length : Int)) = false := decide_eq_false (by omega)
      have d2 : decide (12 < X.length) = false := decide_eq_false hlen
      have HD := lim_out hx hb hlen
      clear cN
      go_wp2_with fail
      go_ret2
      exact HD
  rw [if_neg w2] at hT
  have m2 : (what == 2) = false := by simpa using w2
  subst hT
  clear cO cN hsr h1 h2 hsv
  go_enter Tryz.func49, Tryz.ntmps49
  go_wp2_with fail
  go_ret2
  exact ⟨Or.inr ⟨by decide, rfl⟩, Below.refl _ _⟩
/-- A message with other flags. -/
def Lt.withF (x : Lt) (G : List Fl.Tx) : Lt := ⟨x.uid, G, x.day, x.text⟩
/-- The row with one message's flags put anew. -/
theorem put_flags {w0 w : World} {base g cap i bb : Nat} {v : Value} {l : List Lt} {x : Lt} (h : LOwn w0 w base v l) (hv : v = .slice (some ⟨g, 0, none⟩) l.length cap) (hi : l[i]? = some x) (hg0 : w0.heap.size ≤ g) (hns : NoStr w0 bb)
    (hb : But w0.heap.size bb w0 w) (nv : Value) (G : List Fl.Tx) (hs : Sl w0 nv G) :
    Lts (w.setCell ⟨g, i * 4 + 1, none⟩ nv) v (l.set i (Lt.withF x G)) ∧ (∃ u, w.cell? ⟨g, i * 4 + 1, none⟩ = some u) ∧ w.frozen? ⟨g, i * 4 + 1, none⟩ = false := by
  obtain ⟨rows, hown, hrl, hrw, h4⟩ := h
  have hil : i < l.length := (List.getElem?_eq_some_iff.1 hi).1
  rcases hown.2 with ⟨_, h0⟩ | ⟨g', cap', cur, hv', hbase, hh, hcp, hcm, hsz, htk⟩
  · omega
  rw [hv] at hv'
  injection hv' with e1 _ e3
  injection e1 with e1
  injection e1 with e1 _ _
  subst e1
  subst e3
  have hfl := flat4_len h4
  have hcur : ∀ k, k < l.length * 4 → cur[k]? = rows.flatten[k]? := fun k hk => by rw [← htk, List.getElem?_take_of_lt hk]; simp
  have hset := rd_set (i := i * 4 + 1) nv hh
  have hbw : But w0.heap.size bb w0 (w.setCell ⟨g, i * 4 + 1, none⟩ nv) := hb.trans (to_but ((Below.refl _ _).setCell (p := ⟨g, i * 4 + 1, none⟩) hg0 nv))
  have hcell : ∀ k u, k < l.length * 4 → k ≠ i * 4 + 1 → rows.flatten[k]? = some u → (w.setCell ⟨g, i * 4 + 1, none⟩ nv).cell? ⟨g, k, none⟩ = some u := fun k u hk hne hu => by
    refine rd_cell hset ?_
    rw [Array.getElem?_setIfInBounds, if_neg (Ne.symm hne), hcur k hk]
    exact hu
  refine ⟨⟨some ⟨g, 0, none⟩, cap, by rw [hv, List.length_set], ⟨fun e => (by cases e), by rw [List.length_set]; exact hcp, by unfold maxLen at hcm; omega⟩, Or.inr ⟨g, 0, rfl, fun j y hj => ?_⟩⟩, ?_, rd_free hh _⟩
  · have hjl : j < l.length := by have := (List.getElem?_eq_some_iff.1 hj).1; rwa [List.length_set] at this
    obtain ⟨z, hz⟩ : ∃ z, l[j]? = some z := ⟨l[j], List.getElem?_eq_getElem hjl⟩
    have hjr : rows[j]? = some (rows[j]'(by omega)) := List.getElem?_eq_getElem (by omega)
    obtain ⟨fv, hx, hsf⟩ := hrw j z _ hz hjr
    have hf : ∀ m u, m < 4 → (rows[j]'(by omega))[m]? = some u → rows.flatten[j * 4 + m]? = some u := fun m u hm hu => by rw [flat4_get h4 hjr hm]; exact hu
    have c0 := hcell (j * 4 + 0) (.int .i64 z.uid) (by omega) (by omega) (hf 0 _ (by omega) (by rw [hx]; rfl))
    have c2 := hcell (j * 4 + 2) (.int .i64 z.day) (by omega) (by omega) (hf 2 _ (by omega) (by rw [hx]; rfl))
    have c3 := hcell (j * 4 + 3) (.string ⟨z.text.toArray⟩) (by omega) (by omega) (hf 3 _ (by omega) (by rw [hx]; rfl))
    rw [Nat.add_zero] at c0
    rw [Nat.zero_add]
    by_cases hji : j = i
    · subst hji
      rw [hi] at hz
      obtain rfl := Option.some.inj hz
      rw [List.getElem?_set_self hjl] at hj
      obtain rfl := Option.some.inj hj
      refine ⟨c0, ⟨nv, rd_cell hset ?_, hs.but hns hbw (Nat.le_refl _)⟩, c2, c3⟩
      rw [Array.getElem?_setIfInBounds, if_pos rfl, if_pos (by rw [hsz]; omega)]
    · rw [List.getElem?_set_ne (Ne.symm hji), hz] at hj
      obtain rfl := Option.some.inj hj
      refine ⟨c0, ⟨fv, hcell (j * 4 + 1) fv (by omega) (by omega) (hf 1 _ (by omega) (by rw [hx]; rfl)), hsf.but hns hbw (Nat.le_refl _)⟩, c2, c3⟩
  · have hk : i * 4 + 1 < cur.size := by rw [hsz]; omega
    exact ⟨_, rd_cell hh (Array.getElem?_eq_getElem hk)⟩
/-- What Flag leaves. -/
def FlagOut (w : World) (bb : Nat) (vv n u what : Int) (l : List Lt) (F : List Fl.Tx × Int) (e : Ending) (w' : World) : Prop :=
  (∃ E : Int, E ≠ 0 ∧ (findB l u = false → E = 7) ∧ (findB l u = true → F.2 ≠ 0 → E = F.2) ∧ (∀ x, findB l u = true → F.2 = 0 → l[findI l u]? = some x → E = (chgF x.flags what F.1).2) ∧ e = .returned (.iface 55 (.int .i64 E)) ∧ Below w.heap.size w w') ∨
  (findB l u = true ∧ F.2 = 0 ∧ e = .returned .nilIface ∧ ∃ x, l[findI l u]? = some x ∧ (chgF x.flags what F.1).2 = 0 ∧ BoxAt w' bb vv n (l.set (findI l u) (Lt.withF x (chgF x.flags what F.1).1)) ∧ But w.heap.size bb w w')
/-- What Flag leaves, its row new. -/
def FlagNew (w : World) (bb : Nat) (vv n u what : Int) (l : List Lt) (F : List Fl.Tx × Int) (e : Ending) (w' : World) : Prop :=
  (∃ E : Int, E ≠ 0 ∧ (findB l u = false → E = 7) ∧ (findB l u = true → F.2 ≠ 0 → E = F.2) ∧ (∀ x, findB l u = true → F.2 = 0 → l[findI l u]? = some x → E = (chgF x.flags what F.1).2) ∧ e = .returned (.iface 55 (.int .i64 E)) ∧ Below w.heap.size w w') ∨
  (findB l u = true ∧ F.2 = 0 ∧ e = .returned .nilIface ∧ ∃ x, l[findI l u]? = some x ∧ (chgF x.flags what F.1).2 = 0 ∧ BoxNew w.heap.size w' bb vv n (l.set (findI l u) (Lt.withF x (chgF x.flags what F.1).1)) ∧ But w.heap.size bb w w')
set_option maxHeartbeats 4000000 in
set_option maxRecDepth 100000 in
theorem box_flag_new (bb : Nat) (vv n u what : Int) (l : List Lt) (fv : Value) (F : List Fl.Tx × Int) (w : World) (h : BoxAt w bb vv n l) (hr : Rise l) (hl : l.length ≤ 1000) (hfl : ∀ x ∈ l, x.flags.length ≤ 400) (hF : F.1.length ≤ 400) (hg : SysAt w)
    (cS : ∀ W, Below w.heap.size w W → Calls Tryz.prog 40 #[fv] W fun e w' => SetOut W F e w') :
    Calls Tryz.prog 25 #[.pointer (some ⟨bb, 0, none⟩), .int .i64 u, .int .i64 what, fv] w fun e w' => FlagNew w bb vv n u what l F e w' := by
  have cF := find_is bb vv n u l w h hr hl
  obtain ⟨FI, hFI⟩ : ∃ C, findI l u = C := ⟨_, rfl⟩
  obtain ⟨FB, hFB⟩ : ∃ C, findB l u = C := ⟨_, rfl⟩
  have HT : Hid (FB = true → ∃ x, l[FI]? = some x ∧ x.uid = u) := fun h => by rw [← hFI]; exact find_true hr (hFB.trans h)
  have HFF : Hid (findI l u = FI ∧ findB l u = FB) := ⟨hFI, hFB⟩
  rw [hFI, hFB] at cF
  have HBX : Hid (BoxAt w bb vv n l) := h
  have hbl := h.lt
  have HSY : Hid (SysAt w) := hg
  have hsl := hg.lt
  clear hFI hFB h hr hg
  go_enter Tryz.func25, Tryz.ntmps25
  go_wp2_with fail
  refine cF.mono ?_
  rintro e w1 ⟨rfl, hb1⟩
  have HB1 : Hid (Below w.heap.size w w1) := hb1
  clear cF
  cases FB with
  | false =>
    have HFB : Hid (findB l u = false) := HFF.out.2
    clear hb1 cS HFF
    go_wp2_with fail
    go_ret
    exact Or.inl ⟨7, by decide, fun _ => rfl, fun h => (by rw [HFB.out] at h; cases h), fun _ h => (by rw [HFB.out] at h; cases h), rfl, HB1.out⟩
  | true =>
    have cS1 := cS w1 hb1
    have HFB : Hid (findB l u = true) := HFF.out.2
    have HFI : Hid (findI l u = FI) := HFF.out.1
    obtain ⟨x, hx, _⟩ := HT.out rfl
    have HX : Hid (l[FI]? = some x) := hx
    clear cS HFF hx
    go_wp2_with fail
    refine cS1.mono ?_
    rintro e w2 ⟨hout, hb2⟩
    have hb02 := hb1.trans (hb2.mono hb1.size)
    have HB2 : Hid (Below w.heap.size w w2) := hb02
    clear cS1
    rcases hout with ⟨hF0, sv, rfl, hsv⟩ | ⟨hF0, rfl⟩
    rotate_left
    · clear hb1 hb2 hb02
      go_wp2_with fail
      go_ret
      exact Or.inl ⟨F.2, hF0, fun h => (by rw [HFB.out] at h; cases h), fun _ _ => rfl, fun _ _ h => absurd h hF0, rfl, HB2.out⟩
    obtain ⟨lv, y1, y2⟩ := HBX.out.below hb02 (Nat.le_refl _)
    obtain ⟨a, c, rfl, hcap, hrest⟩ := id y2
    have hFl : FI < l.length := (List.getElem?_eq_some_iff.1 HX.out).1
    obtain ⟨b, o, rfl, hat⟩ : ∃ b o, a = some ⟨b, o, none⟩ ∧ ∀ (j : Nat) x, l[j]? = some x → LtAt w2 b (o + j * 4) x := by
      rcases hrest with h | h
      · rw [h] at hFl; simp at hFl
      · exact h
    obtain ⟨q0, ⟨hv, q1, hsh⟩, _, _⟩ := hat FI x HX.out
    have p2 : w2.cell? ⟨bb, 2, none⟩ = some (.slice (some ⟨b, o, none⟩) l.length c) := rd_cell y1 rfl
    have i1 : (0 : Int) ≤ (FI : Int) := by omega
    have i2 : (FI : Int) < (l.length : Int) := by omega
    have hsy2 : SysAt w2 := HSY.out.below hb02 hsl
    have cC := changed_is hv sv what x.flags F.1 w2 hsh hsv (hfl x (List.mem_of_getElem? HX.out)) hF hsy2
    obtain ⟨G, hG⟩ : ∃ G, chgF x.flags what F.1 = G := ⟨_, rfl⟩
    rw [hG] at cC
    have HG : Hid (chgF x.flags what F.1 = G) := hG
    have HBX2 : Hid (w2.heap[bb]? = some (.cells #[.int .i64 vv, .int .i64 n, .slice (some ⟨b, o, none⟩) l.length c] 28 (0, 0)) ∧ Lts w2 (.slice (some ⟨b, o, none⟩) l.length c) l) := ⟨y1, y2⟩
    have HF0 : Hid (F.2 = 0) := hF0
    clear hb1 hb2 hb02 y1 y2 hcap hrest hat q0 hsh hsv hG hF0 hsy2
    go_wp2_with fail
    refine cC.mono ?_
    rintro e w3 ⟨hout, hb3⟩
    have HB3 : Hid (Below w.heap.size w w3) := HB2.out.trans (hb3.mono HB2.out.size)
    clear cC
    rcases hout with ⟨hG0, nv, rfl, hnv⟩ | ⟨hG0, rfl⟩
    rotate_left
    · clear hb3
      go_wp2_with fail
      go_ret
      exact Or.inl ⟨G.2, hG0, fun h => (by rw [HFB.out] at h; cases h), fun _ h => absurd HF0.out h, fun y _ _ h => (by rw [HFI.out, HX.out] at h; rw [← Option.some.inj h, HG.out]), rfl, HB3.out⟩
    have hbw2 : bb < w2.heap.size := Nat.lt_of_lt_of_le hbl HB2.out.size
    have y3 := (hb3.block bb hbw2).trans HBX2.out.1
    have y4 := HBX2.out.2.below hb3 (Nat.le_refl _)
    have p3 : w3.cell? ⟨bb, 2, none⟩ = some (.slice (some ⟨b, o, none⟩) l.length c) := rd_cell y3 rfl
    have cK := clone_lts (.slice (some ⟨b, o, none⟩) l.length c) l w3 y4 hl
    have hns : NoStr w3 bb := noStr_box y3 ⟨_, _, _, rfl⟩
    obtain ⟨na, nc, hnvf, _⟩ := id hnv
    have H3 : Hid (w3.heap[bb]? = some (.cells #[.int .i64 vv, .int .i64 n, .slice (some ⟨b, o, none⟩) l.length c] 28 (0, 0)) ∧ NoStr w3 bb ∧ Sl w3 nv G.1 ∧ bb < w3.heap.size) := ⟨y3, hns, hnv, Nat.lt_of_lt_of_le hbw2 hb3.size⟩
    have HG0 : Hid (G.2 = 0) := hG0
    clear hb3 hG0 y3 y4 hns hnv HBX2 hbw2 p2 q1
    go_wp2_with fail
    refine cK.mono ?_
    rintro e w4 ⟨⟨v', rfl, _, hown⟩, hb4⟩
    have hne : l ≠ [] := fun e => by rw [e] at hFl; simp at hFl
    have hO := hown hne
    obtain ⟨g, cap, hv'⟩ : ∃ g cap, v' = .slice (some ⟨g, 0, none⟩) l.length cap := by
      obtain ⟨rows, h1, _⟩ := hO
      exact row_some h1 (by omega)
    have hgb : w3.heap.size ≤ g := by
      obtain ⟨rows, h1, _⟩ := hO
      exact (h1.lt g (by rw [hv']; rfl)).1
    have hbw := H3.out.2.2.2
    have z3 := (hb4.block bb hbw).trans H3.out.1
    have s2 : w4.cell? ⟨bb, 2, none⟩ = some (.slice (some ⟨b, o, none⟩) l.length c) := rd_cell z3 rfl
    have sf2 : w4.frozen? ⟨bb, 2, none⟩ = false := rd_free z3 2
    have z5 := rd_set (i := 2) v' z3
    have hO5 : LOwn w3 (w4.setCell ⟨bb, 2, none⟩ v') w3.heap.size v' l := by
      obtain ⟨rows, h1, h2, h3, h4⟩ := hO
      exact ⟨rows, own_same h1 fun q hq => Below.heap_setCell _ _ _ _ (by have := (h1.lt q hq).1; show q ≠ bb; omega), h2, h3, h4⟩
    have hbut5 : But w3.heap.size bb w3 (w4.setCell ⟨bb, 2, none⟩ v') := (to_but hb4).setB 2 _
    obtain ⟨P1, ⟨old, P2⟩, P3⟩ := put_flags hO5 hv' HX.out hgb H3.out.2.1 hbut5 nv G.1 H3.out.2.2.1
    have t2 : (w4.setCell ⟨bb, 2, none⟩ v').cell? ⟨bb, 2, none⟩ = some v' := rd_cell z5 rfl
    have z6 := (Below.heap_setCell (w4.setCell ⟨bb, 2, none⟩ v') ⟨g, FI * 4 + 1, none⟩ nv bb (by show bb ≠ g; omega)).trans z5
    have HD : Hid (BoxNew w.heap.size ((w4.setCell ⟨bb, 2, none⟩ v').setCell ⟨g, FI * 4 + 1, none⟩ nv) bb vv n (l.set FI (Lt.withF x G.1)) ∧ But w.heap.size bb w ((w4.setCell ⟨bb, 2, none⟩ v').setCell ⟨g, FI * 4 + 1, none⟩ nv)) :=
      ⟨⟨v', z6, P1, fun q hq => by rw [hv'] at hq; obtain rfl : g = q := (by simpa [Value.ownBlock] using hq); have := HB3.out.size; omega⟩, (to_but HB3.out).trans ((hbut5.trans (to_but ((Below.refl _ _).setCell (p := ⟨g, FI * 4 + 1, none⟩) hgb nv))).less HB3.out.size)⟩
    subst hv'
    subst hnvf
    clear cK hb4 hown hO hO5 z3 z5 hbut5 P1 z6 H3
    go_wp2_with fail
    go_ret
    exact Or.inr ⟨HFB.out, HF0.out, rfl, x, by rw [HFI.out]; exact HX.out, by rw [HG.out]; exact HG0.out, by rw [HFI.out, HG.out]; exact HD.out.1, HD.out.2⟩
theorem box_flag (bb : Nat) (vv n u what : Int) (l : List Lt) (fv : Value) (F : List Fl.Tx × Int) (w : World) (h : BoxAt w bb vv n l) (hr : Rise l) (hl : l.length ≤ 1000) (hfl : ∀ x ∈ l, x.flags.length ≤ 400) (hF : F.1.length ≤ 400) (hg : SysAt w)
    (cS : ∀ W, Below w.heap.size w W → Calls Tryz.prog 40 #[fv] W fun e w' => SetOut W F e w') :
    Calls Tryz.prog 25 #[.pointer (some ⟨bb, 0, none⟩), .int .i64 u, .int .i64 what, fv] w fun e w' => FlagOut w bb vv n u what l F e w' :=
  (box_flag_new bb vv n u what l fv F w h hr hl hfl hF hg cS).mono fun _ _ h => h.imp id fun ⟨h1, h2, h3, x, h4, h5, h6, h7⟩ => ⟨h1, h2, h3, x, h4, h5, h6.at, h7⟩
end Go.Proofs.YtgpcnacpefficaaGreatDoor
namespace Go.Proofs.YtgpcnacpefficaaGreatDoor
open Go.RowKit Go.Proofs.Aid Go.Proofs.Bx

theorem says_caught (w : World) :
    CallsD Tryz.prog 69 #[] .returning w fun e u' w' => e = .returned (.tuple #[]) ∧ u' = .returning ∧ w' = w := by
  refine callsD_of_wpS Tryz.func69 rfl fun c₀ cs hu => ?_
  apply wpS_region
  simp [wpOpsS, go_sem, recoverD, hu, Tryz.ntmps69]
  cases c₀
  simp_all [bodyPostS, results, Tryz.results69]
set_option maxHeartbeats 2000000 in
set_option maxRecDepth 100000 in
theorem says_is (f : FuncId) (caps : List Value) (u : Int) (ans : Bool) (w : World) (eg : ∀ args w, (callFunc f args).run Tryz.prog w = .ok (.enter f args) w)
    (cH : Calls Tryz.prog f (Value.int .i64 u :: caps).toArray w fun e w' => e = .returned (.bool ans) ∧ Below w.heap.size w w') :
    Calls Tryz.prog 53 #[.func (.func f) #[] caps.toArray, .int .i64 u] w fun e w' => e = .returned (.bool ans) ∧ Below w.heap.size w w' := by
  go_enter_defers Tryz.func53, Tryz.ntmps53
  go_wp2_with fail
  refine cH.mono ?_
  rintro e w1 ⟨rfl, hb⟩
  have HF : Hid (∀ tmps : Array Value, tmps[4]? = some (.bool ans) →
      Leaves Tryz.prog Tryz.f53 tmps (fun e w' => e = .returned (.bool ans) ∧ Below w.heap.size w w') [{ target := .fn (.func 69) #[], args := #[] }] .returning w1) := by
    intro tmps ht
    refine leaves_cons (f := 69) (args := #[]) (by simp) (by simp [go_sem]) ?_
    refine (says_caught _).mono ?_
    rintro e u' w8 ⟨rfl, rfl, rfl⟩
    exact ⟨.bool ans, by simp [results, Tryz.results53, go_sem, ht], rfl, hb⟩
  clear cH hb
  go_wp2_with fail
  exact HF.out _ rfl
/-- Where the numbers of messages go. -/
theorem Tryz.infoInt : (Tryz.prog.info? 3).map (fun i => (i.zero, i.size, i.bytes)) = some (some (.int .i64 0), 1, 8) := by kernel_rfl
/-- Those that stay, and the numbers of those that go. -/
def stay (p : Int → Bool) (l : List Lt) : List Lt := l.filter fun x => !(Fl.hasF x.flags [92, 68, 101, 108, 101, 116, 101, 100] && p x.uid)
def went (p : Int → Bool) (l : List Lt) : List Int := (l.filter fun x => Fl.hasF x.flags [92, 68, 101, 108, 101, 116, 101, 100] && p x.uid).map (·.uid)
end Go.Proofs.YtgpcnacpefficaaGreatDoor
