/-
  A message is put behind all others: Append.
-/
import Derived.Test.YtfdlopimncodcaaGreatDoorBpBoxRow
namespace Go.Proofs.YtfdlopimncodcaaGreatDoor
open Go.RowKit Go.Proofs.Aid Go.Proofs.Bx

/-- A block that holds no text. -/
def NoStr (w : World) (bb : Nat) : Prop := ∀ i s, w.cell? ⟨bb, i, none⟩ ≠ some (.string s)
theorem noStr_box {w : World} {bb : Nat} {x y : Int} {lv : Value} {t : TypeId} (h : w.heap[bb]? = some (.cells #[.int .i64 x, .int .i64 y, lv] t (0, 0))) (hl : ∃ a n c, lv = .slice a n c) : NoStr w bb := by
  intro i s hc
  obtain ⟨a, n, c, rfl⟩ := hl
  simp only [World.cell?, h] at hc
  match i, hc with
  | 0, hc => simp at hc
  | 1, hc => simp at hc
  | 2, hc => simp at hc
  | i + 3, hc => simp at hc
theorem Sl.but {w w' : World} {v : Value} {l : List Fl.Tx} {bb B : Nat} (h : Sl w v l) (hn : NoStr w bb) (hb : But B bb w w') (hB : w.heap.size ≤ B) : Sl w' v l := by
  obtain ⟨a, c, h1, h0, h2⟩ := h
  refine ⟨a, c, h1, h0, ?_⟩
  rcases h2 with h2 | ⟨b, o, h3, h4⟩
  · exact Or.inl h2
  · refine Or.inr ⟨b, o, h3, fun j z hj => ?_⟩
    have h5 := h4 j z hj
    have hne : b ≠ bb := fun e => by subst e; exact hn _ _ h5
    exact (hb.cell (p := ⟨b, _, none⟩) (Nat.lt_of_lt_of_le (World.block_lt_of_cell? _ _ h5) hB) hne).trans h5
theorem LtAt.but {w w' : World} {b o bb B : Nat} {x : Lt} (h : LtAt w b o x) (hn : NoStr w bb) (hb : But B bb w w') (hB : w.heap.size ≤ B) : LtAt w' b o x := by
  obtain ⟨h1, ⟨fv, h2, h3⟩, h4, h5⟩ := h
  have hne : b ≠ bb := fun e => by subst e; exact hn _ _ h5
  have hlt : b < B := Nat.lt_of_lt_of_le (World.block_lt_of_cell? _ _ h1) hB
  exact ⟨(hb.cell (p := ⟨b, _, none⟩) hlt hne).trans h1, ⟨fv, (hb.cell (p := ⟨b, _, none⟩) hlt hne).trans h2, h3.but hn hb hB⟩, (hb.cell (p := ⟨b, _, none⟩) hlt hne).trans h4, (hb.cell (p := ⟨b, _, none⟩) hlt hne).trans h5⟩
theorem Lts.but {w w' : World} {v : Value} {l : List Lt} {bb B : Nat} (h : Lts w v l) (hn : NoStr w bb) (hb : But B bb w w') (hB : w.heap.size ≤ B) : Lts w' v l := by
  obtain ⟨a, c, h1, h0, h2⟩ := h
  refine ⟨a, c, h1, h0, ?_⟩
  rcases h2 with h2 | ⟨b, o, h3, h4⟩
  · exact Or.inl h2
  · exact Or.inr ⟨b, o, h3, fun j x hj => (h4 j x hj).but hn hb hB⟩
/-- What Append says is wrong: a text that is too long, its flags (E), its day, no room. -/
def appE (E : Int) (n : Int) (k : Nat) (day : Int) (z : Nat) : Int :=
  if 2000 < z then 4 else if E ≠ 0 then E else if day < 0 ∨ 2147483647 < day then 2 else if 60 ≤ k ∨ 2147483647 ≤ n then 12 else 0
set_option maxHeartbeats 1000000 in
theorem isDay_is (d : Int) (w : World) : Calls Tryz.prog 101 #[.int .i64 d] w fun e w' => e = .returned (.bool (decide (0 ≤ d ∧ d ≤ 2147483647))) ∧ w' = w := by
  by_cases h1 : 0 ≤ d
  · have d1 : decide (0 ≤ d) = true := decide_eq_true h1
    by_cases h2 : d ≤ 2147483647
    · have d2 : decide (d ≤ 2147483647) = true := decide_eq_true h2
      rw [decide_eq_true ⟨h1, h2⟩]
      go_enter Tryz.func101, Tryz.ntmps101
      go_wp2_with fail
      go_ret
      exact ⟨rfl, rfl⟩
    · have d2 : decide (d ≤ 2147483647) = false := decide_eq_false h2
      rw [decide_eq_false (fun h => h2 h.2)]
      go_enter Tryz.func101, Tryz.ntmps101
      go_wp2_with fail
      go_ret
      exact ⟨rfl, rfl⟩
  · have d1 : decide (0 ≤ d) = false := decide_eq_false h1
    rw [decide_eq_false (fun h => h1 h.1)]
    go_enter Tryz.func101, Tryz.ntmps101
    go_wp2_with fail
    go_ret
    exact ⟨rfl, rfl⟩
/-- What flags.Set leaves, where it tells F. -/
def SetOut (w : World) (F : List Fl.Tx × Int) (e : Ending) (w' : World) : Prop :=
  ((F.2 = 0 ∧ ∃ v', e = .returned (.tuple #[v', .nilIface]) ∧ Sl w' v' F.1) ∨ (F.2 ≠ 0 ∧ e = .returned (.tuple #[.slice none 0 0, .iface 42 (.int .i64 F.2)]))) ∧ Below w.heap.size w w'
set_option maxHeartbeats 4000000 in
set_option maxRecDepth 100000 in
theorem box_append_new (bb : Nat) (vv n day : Int) (l : List Lt) (fv : Value) (F : List Fl.Tx × Int) (t : ByteArray) (w : World) (h : BoxAt w bb vv n l) (hl : l.length ≤ 1000) (hn : 0 ≤ n ∧ n ≤ 4000000000)
    (cS : Calls Tryz.prog 100 #[fv] w fun e w' => SetOut w F e w') :
    Calls Tryz.prog 50 #[.pointer (some ⟨bb, 0, none⟩), fv, .int .i64 day, .string t] w fun e w' =>
      (appE F.2 n l.length day t.size ≠ 0 ∧ e = .returned (.tuple #[.int .i64 0, .iface 42 (.int .i64 (appE F.2 n l.length day t.size))]) ∧ Below w.heap.size w w') ∨
      (appE F.2 n l.length day t.size = 0 ∧ e = .returned (.tuple #[.int .i64 n, .nilIface]) ∧ BoxNew w.heap.size w' bb vv (n + 1) (l ++ [⟨n, F.1, day, t.data.toList⟩]) ∧ But w.heap.size bb w w') := by
  obtain ⟨R, hR⟩ : ∃ R, appE F.2 n l.length day t.size = R := ⟨_, rfl⟩
  rw [hR]
  obtain ⟨x, hx0⟩ : ∃ x : Lt, (⟨n, F.1, day, t.data.toList⟩ : Lt) = x := ⟨_, rfl⟩
  rw [hx0]
  have HXX : Hid (x = ⟨n, F.1, day, t.data.toList⟩) := hx0.symm
  clear hx0
  unfold appE at hR
  have HBX : Hid (BoxAt w bb vv n l) := h
  have hbl := h.lt
  by_cases h1 : 2000 < t.size
  · rw [if_pos h1] at hR
    subst hR
    have d1 : decide ((2000 : Int) < (t.size : Int)) = true := decide_eq_true (by omega)
    clear h cS
    go_enter Tryz.func50, Tryz.ntmps50
    go_wp2_with fail
    go_ret2
    exact Or.inl ⟨by decide, rfl, Below.refl _ _⟩
  rw [if_neg h1] at hR
  have d1 : decide ((2000 : Int) < (t.size : Int)) = false := decide_eq_false (by omega)
  have HR : Hid ((if F.2 ≠ 0 then F.2 else if day < 0 ∨ 2147483647 < day then 2 else if 60 ≤ l.length ∨ 2147483647 ≤ n then 12 else 0) = R) := hR
  clear h hR
  go_enter Tryz.func50, Tryz.ntmps50
  go_wp2_with fail
  refine cS.mono ?_
  rintro e w1 ⟨hout, hb1⟩
  have HB1 : Hid (Below w.heap.size w w1) := hb1
  clear cS
  rcases hout with ⟨hF, sv, rfl, hsv⟩ | ⟨hF, rfl⟩
  rotate_left
  · have hR := HR.out
    rw [if_pos hF] at hR
    subst hR
    clear HR hb1
    go_wp2_with fail
    go_ret2
    exact Or.inl ⟨hF, rfl, HB1.out⟩
  have hR := HR.out
  rw [if_neg (by simpa using hF)] at hR
  have cD := isDay_is day w1
  by_cases h2 : day < 0 ∨ 2147483647 < day
  · rw [if_pos h2] at hR
    subst hR
    rw [decide_eq_false (by omega)] at cD
    clear HR hb1 hsv hF
    go_wp2_with fail
    refine cD.mono ?_
    rintro e w2 ⟨rfl, hw⟩
    obtain rfl : w1 = w2 := hw.symm
    go_wp2_with fail
    go_ret2
    exact Or.inl ⟨by decide, rfl, HB1.out⟩
  rw [if_neg h2] at hR
  rw [decide_eq_true (by omega)] at cD
  obtain ⟨lv, x1, x2⟩ := HBX.out.below hb1 (Nat.le_refl _)
  obtain ⟨a, c, rfl, hcap, hrest⟩ := id x2
  have p2 : w1.cell? ⟨bb, 2, none⟩ = some (.slice a l.length c) := rd_cell x1 rfl
  have p1 : w1.cell? ⟨bb, 1, none⟩ = some (.int .i64 n) := rd_cell x1 rfl
  by_cases h3 : 60 ≤ l.length
  · rw [if_pos (Or.inl h3)] at hR
    subst hR
    have d3 : decide ((60 : Int) ≤ (l.length : Int)) = true := decide_eq_true (by omega)
    have d4 : decide (60 ≤ l.length) = true := decide_eq_true h3
    clear HR hb1 hsv hF x1 x2 hcap hrest h2
    go_wp2_with fail
    refine cD.mono ?_
    rintro e w2 ⟨rfl, hw⟩
    obtain rfl : w1 = w2 := hw.symm
    go_wp2_with fail
    go_ret2
    exact Or.inl ⟨by decide, rfl, HB1.out⟩
  have d3 : decide ((60 : Int) ≤ (l.length : Int)) = false := decide_eq_false (by omega)
  have d4 : decide (60 ≤ l.length) = false := decide_eq_false h3
  by_cases h4 : 2147483647 ≤ n
  · rw [if_pos (Or.inr h4)] at hR
    subst hR
    have d5 : decide ((2147483647 : Int) ≤ n) = true := decide_eq_true h4
    clear HR hb1 hsv hF x1 x2 hcap hrest h2
    go_wp2_with fail
    refine cD.mono ?_
    rintro e w2 ⟨rfl, hw⟩
    obtain rfl : w1 = w2 := hw.symm
    go_wp2_with fail
    go_ret2
    exact Or.inl ⟨by decide, rfl, HB1.out⟩
  rw [if_neg (by omega)] at hR
  subst hR
  have d5 : decide ((2147483647 : Int) ≤ n) = false := decide_eq_false h4
  have cC := clip_is a l.length c w1 hcap.2.1
  have hns : NoStr w1 bb := noStr_box x1 ⟨_, _, _, rfl⟩
  obtain ⟨sa, sn, sc, hsvf⟩ : ∃ sa sn sc, sv = .slice sa sn sc := by obtain ⟨a, c, h, _⟩ := hsv; exact ⟨_, _, _, h⟩
  have htt : (⟨t.data.toList.toArray⟩ : ByteArray) = t := by cases t; simp
  have b2 : Below w1.heap.size w1 (w1.alloc (.cells #[.int .i64 n, sv, .int .i64 day, .string t] 127)) := (Below.refl _ _).alloc (Nat.le_refl _) _
  have e2 := heap_alloc_new w1 (.cells #[.int .i64 n, sv, .int .i64 day, .string t] 127)
  have hrow : LtRow (w1.alloc (.cells #[.int .i64 n, sv, .int .i64 day, .string t] 127)) x [.int .i64 n, sv, .int .i64 day, .string t] := ⟨sv, by rw [HXX.out, htt], by rw [HXX.out]; exact hsv.below b2 (Nat.le_refl _)⟩
  obtain ⟨v', w', hrun, hlts, hb3, g, cap, hv', hgf⟩ := append_lt (x2.below b2 (Nat.le_refl _)) hl x _ hrow w1.heap.size (fun j u hu => rd_cell e2 (by simpa using hu)) (by rw [hsvf]; simp [Value.oneCell'])
  have z2 : (w1.alloc (.cells #[.int .i64 n, sv, .int .i64 day, .string t] 127)).heap.size = w1.heap.size + 1 := by simp
  have hbw : bb < w1.heap.size := Nat.lt_of_lt_of_le hbl hb1.size
  have x3 := (hb3.block bb (by omega)).trans ((b2.block bb hbw).trans x1)
  have q2 : w'.cell? ⟨bb, 2, none⟩ = some (.slice a l.length c) := rd_cell x3 rfl
  have q1 : w'.cell? ⟨bb, 1, none⟩ = some (.int .i64 n) := rd_cell x3 rfl
  have f2 : w'.frozen? ⟨bb, 2, none⟩ = false := rd_free x3 2
  have f1 : w'.frozen? ⟨bb, 1, none⟩ = false := rd_free x3 1
  have hns3 : NoStr w' bb := noStr_box x3 ⟨_, _, _, rfl⟩
  have x4 := rd_set (i := 1) (.int .i64 (n + 1)) (rd_set (i := 2) v' x3)
  have hbut : But w'.heap.size bb w' ((w'.setCell ⟨bb, 2, none⟩ v').setCell ⟨bb, 1, none⟩ (.int .i64 (n + 1))) := ((to_but (Below.refl _ _)).setB 2 _).setB 1 _
  have hb13 : Below w1.heap.size w1 w' := b2.trans (hb3.mono (by omega))
  have r1 : (w'.setCell ⟨bb, 2, none⟩ v').cell? ⟨bb, 1, none⟩ = some (.int .i64 n) := rd_cell (rd_set (i := 2) v' x3) rfl
  have HD : Hid (BoxNew w.heap.size ((w'.setCell ⟨bb, 2, none⟩ v').setCell ⟨bb, 1, none⟩ (.int .i64 (n + 1))) bb vv (n + 1) (l ++ [x]) ∧ But w.heap.size bb w ((w'.setCell ⟨bb, 2, none⟩ v').setCell ⟨bb, 1, none⟩ (.int .i64 (n + 1)))) :=
    ⟨⟨v', x4, hlts.but hns3 hbut (Nat.le_refl _), fun q hq => by rw [hv'] at hq; obtain rfl : g = q := (by simpa [Value.ownBlock] using hq); have := hb1.size; omega⟩, (to_but (hb1.trans (hb13.mono hb1.size))).trans (hbut.less (by have := hb13.size; have := hb1.size; omega))⟩
  have HRUN : Hid ((Builtin.append_ #[70, 70] 70 #[.slice a l.length l.length, .slice (some ⟨w1.heap.size, 0, none⟩) 1 1]).run Tryz.prog (w1.alloc (.cells #[.int .i64 n, sv, .int .i64 day, .string t] 127)) = .ok v' w') := hrun
  subst hv'
  subst hsvf
  clear HR hb1 hsv hF x1 x2 hcap hrest h2 hns htt b2 e2 hrow hrun hlts hb3 x3 x4 hns3 hbut hb13 HBX z2
  go_wp2_with fail
  refine cD.mono ?_
  rintro e w2 ⟨rfl, hw⟩
  obtain rfl : w1 = w2 := hw.symm
  clear cD hw
  go_wp2_with fail
  refine cC.mono ?_
  rintro e w2 ⟨rfl, hw⟩
  obtain rfl : w1 = w2 := hw.symm
  clear cC hw
  go_wp2_with (at_builtin; go_must (refine Go.Lib.wpList_append_run _ rfl (.tmp 52) (.tmp 58) 70 70 rfl _ _ rfl rfl _ w' HRUN.out ?_))
  go_ret2
  exact ⟨rfl, HD.out⟩
theorem box_append (bb : Nat) (vv n day : Int) (l : List Lt) (fv : Value) (F : List Fl.Tx × Int) (t : ByteArray) (w : World) (h : BoxAt w bb vv n l) (hl : l.length ≤ 1000) (hn : 0 ≤ n ∧ n ≤ 4000000000)
    (cS : Calls Tryz.prog 100 #[fv] w fun e w' => SetOut w F e w') :
    Calls Tryz.prog 50 #[.pointer (some ⟨bb, 0, none⟩), fv, .int .i64 day, .string t] w fun e w' =>
      (appE F.2 n l.length day t.size ≠ 0 ∧ e = .returned (.tuple #[.int .i64 0, .iface 42 (.int .i64 (appE F.2 n l.length day t.size))]) ∧ Below w.heap.size w w') ∨
      (appE F.2 n l.length day t.size = 0 ∧ e = .returned (.tuple #[.int .i64 n, .nilIface]) ∧ BoxAt w' bb vv (n + 1) (l ++ [⟨n, F.1, day, t.data.toList⟩]) ∧ But w.heap.size bb w w') :=
  (box_append_new bb vv n day l fv F t w h hl hn cS).mono fun _ _ h => h.imp id fun ⟨h1, h2, h3, h4⟩ => ⟨h1, h2, h3.at, h4⟩
end Go.Proofs.YtfdlopimncodcaaGreatDoor
