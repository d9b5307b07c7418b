/-
  The document's reader: a part is read and put behind others.
  What the method arg of letterboxref.command does at each kind of part, but for a List.
-/
import Derived.Test.YtmcpohnilgbicaaGreatDoorRwRdAll
import Derived.Test.YtmcpohnilgbicaaGreatDoorWireCommAll
namespace Go.Proofs.YtmcpohnilgbicaaGreatDoor
open Go.RowKit Go.Proofs.Aid Go.Proofs.Hd
open Go.Proofs.Sr (Ar)

/-- What was told, against what the document's reader has. -/
def ResA (R : Wd Ar) (a : Ar) (p c : Nat) (E q : Int) : Prop := match R with
  | .bad n p0 => E = n ∧ q = (p0 : Int) ∧ n ≠ 0
  | .ok a0 p0 c0 => a = a0 ∧ p = p0 ∧ c = c0 ∧ E = 0 ∧ q = -1
/-- What arg of the document's reader leaves. -/
def OutRA (w : World) (cb : Nat) (s : ByteArray) (R : Wd Ar) (e : Ending) (w' : World) : Prop :=
  ∃ (a : Ar) (ys : List Value) (p c : Nat) (E q : Int), e = .returned (.agg ys.toArray) ∧ Ax w' (fun k => w.heap.size ≤ k) a ys ∧ CdW w' cb s p c E q ∧ But w.heap.size cb w w' ∧ ResA R a p c E q
theorem rapp (cb AB d N vc : Nat) (s : ByteArray) (R : Wd Ar) (acc : List Ar) (va : Option Addr) (x0 x1 : Value) (t : TypeId) (w : World)
    (cA : Calls Tryz.prog 26 #[.pointer (some ⟨cb, 0, none⟩), .int .i64 (d : Int)] w fun e w' => OutRA w cb s R e w')
    (hA : w.heap[AB]? = some (.cells #[x0, x1, .slice va N vc] t (0, 0))) (hrow : ARow (AB + 1) acc (.slice va acc.length vc) w) (hN : acc.length = N) (hNb : N ≤ 1000) (hcb : cb < AB) :
    Calls Tryz.prog 26 #[.pointer (some ⟨cb, 0, none⟩), .int .i64 (d : Int)] w fun e w9 => ∃ (K : Int) (tx : ByteArray) (xa : Option Addr) (xk xc : Nat) (w7 W8 : World) (g9 cap9 : Nat) (W9 : World),
      e = .returned (.agg #[.int .i64 K, .string tx, .slice xa xk xc]) ∧ w9 = w7 ∧ w7.cell? ⟨AB, 2, none⟩ = some (.slice va N vc) ∧ w7.alloc (.cells #[.int .i64 K, .string tx, .slice xa xk xc] 59) = W8 ∧ W8.cell? ⟨AB, 2, none⟩ = some (.slice va N vc) ∧
      (Builtin.append_ #[30, 30] 30 #[.slice va N vc, .slice (some ⟨w7.heap.size, 0, none⟩) 1 1]).run Tryz.prog W8 = .ok (.slice (some ⟨g9, 0, none⟩) (N + 1) cap9) W9 ∧ W9.cell? ⟨AB, 2, none⟩ = some (.slice va N vc) ∧ W9.frozen? ⟨AB, 2, none⟩ = false ∧
      Hid (∃ (a : Ar) (p c : Nat) (E q : Int), ResA R a p c E q ∧ CdW (W9.setCell ⟨AB, 2, none⟩ (.slice (some ⟨g9, 0, none⟩) (N + 1) cap9)) cb s p c E q ∧ But AB cb w (W9.setCell ⟨AB, 2, none⟩ (.slice (some ⟨g9, 0, none⟩) (N + 1) cap9)) ∧
        (W9.setCell ⟨AB, 2, none⟩ (.slice (some ⟨g9, 0, none⟩) (N + 1) cap9)).heap[AB]? = some (.cells #[x0, x1, .slice (some ⟨g9, 0, none⟩) (N + 1) cap9] t (0, 0)) ∧
        ARow (AB + 1) (acc ++ [a]) (.slice (some ⟨g9, 0, none⟩) (acc ++ [a]).length cap9) (W9.setCell ⟨AB, 2, none⟩ (.slice (some ⟨g9, 0, none⟩) (N + 1) cap9))) := by
  have hAB := (Array.getElem?_eq_some_iff.1 hA).1
  obtain ⟨j0, hj, hjz0, hjz1, hjz2⟩ := info_parts Tryz.infoArg
  refine cA.mono ?_
  rintro e w7 ⟨a7, ys, p7, c7, E7, q7, rfl, hk7, hr7, hb7, hres⟩
  obtain ⟨tx, xa, xk, xc, rfl⟩ := ax_cells hk7
  have hs7 := hb7.size
  obtain ⟨rows, hrl, hown, hsx, h3⟩ := hrow.kept (w' := w7) fun q hq hlt => hb7.block q hlt (by omega)
  have hoz : ∀ q, (Value.slice va acc.length vc).ownBlock = some q → q < w.heap.size ∧ AB + 1 ≤ q := fun q hq => by
    obtain ⟨_, _, h, _⟩ := hrow
    exact ⟨(h.lt q hq).2, (h.lt q hq).1⟩
  rw [hN] at hown
  have b8 : Below w7.heap.size w7 (w7.alloc (.cells #[.int .i64 a7.kind, .string tx, .slice xa xk xc] 59)) := (Below.refl _ _).alloc (Nat.le_refl _) _
  have hnews := World.news_of_block (heap_alloc_new w7 (.cells #[.int .i64 a7.kind, .string tx, .slice xa xk xc] 59))
  obtain ⟨g9, cap9, W9, hrun, hown9, hg9, hor9, hlt9⟩ := run_append_lies (P := Tryz.prog) (w7.alloc (.cells #[.int .i64 a7.kind, .string tx, .slice xa xk xc] 59)) 30 30 (AB + 1) 59 j0 (.agg #[.int .i64 0, .string ⟨#[]⟩, .slice none 0 0]) 3 48 Tryz.underlying30 hj hjz0 hjz1 hjz2 rfl (by decide) (.slice va N vc) N _ (hown.alloc _) ⟨w7.heap.size, 0, none⟩ 1 1 [.int .i64 a7.kind, .string tx, .slice xa xk xc] rfl hnews (by simp [Value.oneCell']) (by decide) (by unfold maxLen; omega) (by omega) (by simp; omega) _ rfl
  have hp := ARow.push (base := AB + 1) (z := w.heap.size) (ks := acc) (va := va) (vc := vc) (w := w7) (k := a7) (rows := rows) hrl hsx h3 (by omega) (fun q hq => by have := (hoz q hq).1; omega) hk7 b8 (by rw [hN]; exact hown9) (by rw [hN]; exact hg9) (by rw [hN]; exact hor9)
  rw [hN] at hp
  have hfar : ∀ q, q < w7.heap.size → q < AB + 1 → W9.heap[q]? = w7.heap[q]? := fun q h1 h2 => hp.2 q h1 (fun e => by have := (hoz q (by rw [hN]; exact e.symm)).2; omega)
  have eC7 := (hb7.block AB (by omega) (by omega)).trans hA
  have eC8 := (b8.block AB (by omega)).trans eC7
  have eC9 := (hfar AB (by omega) (by omega)).trans eC7
  refine ⟨a7.kind, tx, xa, xk, xc, w7, _, g9, cap9, W9, rfl, rfl, rd_cell eC7 rfl, rfl, rd_cell eC8 rfl, hrun, rd_cell eC9 rfl, rd_free eC9 2, ?_⟩
  have hsz9 : w7.heap.size ≤ W9.heap.size := Nat.le_trans b8.size hg9.size
  refine ⟨a7, p7, c7, E7, q7, hres, hr7.kept ((Below.heap_setCell _ _ _ _ (show cb ≠ AB by omega)).trans (hfar cb (by omega) (by omega))), ?_, rd_set (i := 2) (.slice (some ⟨g9, 0, none⟩) (N + 1) cap9) eC9, ?_⟩
  · refine (hb7.less (by omega)).trans ⟨?_, ?_, ?_, ?_, fun q hq _ => (Below.heap_setCell _ _ _ _ (show q ≠ AB by omega)).trans (hfar q (by omega) (by omega))⟩
    · exact hg9.os.trans b8.os
    · exact hg9.tape.trans b8.tape
    · exact hg9.output.trans b8.output
    · simpa using hsz9
  · rw [List.length_append, hN]
    refine hp.1.kept fun q hq hlt => Below.heap_setCell _ _ _ _ (show q ≠ AB by omega)
end Go.Proofs.YtmcpohnilgbicaaGreatDoor
namespace Go.Proofs.YtmcpohnilgbicaaGreatDoor
open Go.RowKit Go.Proofs.Aid Go.Proofs.Hd
open Go.Proofs.Sr (Ar)

theorem outRT_any {w w' : World} {cb : Nat} {s : ByteArray} {T : Wd Tx} {e : Ending} (k : Int) (h : OutRT w cb s T e w') :
    ∃ (tb : ByteArray) (p c : Nat) (E q : Int), e = .returned (.string tb) ∧ CdW w' cb s p c E q ∧ But w.heap.size cb w w' ∧ ResA (T.map fun t => .mk k t []) (.mk k tb.data.toList []) p c E q := by
  cases T with
  | bad n p =>
    obtain ⟨tb, p', c', rfl, hn, _, hr, hb⟩ := h
    exact ⟨tb, p', c', n, p, rfl, hr, hb, rfl, rfl, hn⟩
  | ok t p c =>
    obtain ⟨tb, rfl, ht, hr, hb⟩ := h
    exact ⟨tb, p, c, 0, -1, rfl, hr, hb, by rw [ht], rfl, rfl, rfl, rfl⟩
/-- arg has begun: a cell for its answer, one more is counted. -/
theorem rarg_begun (cb p c : Nat) (s : ByteArray) (w : World) (hr : CdW w cb s p c 0 (-1)) :
    ∃ W1 W2, w.alloc (.cells #[.int .i64 0, .string ⟨#[]⟩, .slice none 0 0] 59) = W1 ∧ W1.setCell ⟨cb, 2, none⟩ (.int .i64 ((c : Int) + 1)) = W2 ∧
      W1.cell? ⟨cb, 2, none⟩ = some (.int .i64 (c : Int)) ∧ W1.frozen? ⟨cb, 2, none⟩ = false ∧ W2.cell? ⟨cb, 2, none⟩ = some (.int .i64 ((c : Int) + 1)) ∧
      W2.heap.size = w.heap.size + 1 ∧ CdW W2 cb s p (c + 1) 0 (-1) ∧ But w.heap.size cb w W2 ∧
      W2.heap[w.heap.size]? = some (.cells #[.int .i64 0, .string ⟨#[]⟩, .slice none 0 0] 59 (0, 0)) := by
  have hcb := hr.lt
  have b1 : Below w.heap.size w (w.alloc (.cells #[.int .i64 0, .string ⟨#[]⟩, .slice none 0 0] 59)) := (Below.refl _ _).alloc (Nat.le_refl _) _
  have e1 := heap_alloc_new w (.cells #[.int .i64 0, .string ⟨#[]⟩, .slice none 0 0] 59)
  have z1 : (w.alloc (.cells #[.int .i64 0, .string ⟨#[]⟩, .slice none 0 0] 59)).heap.size = w.heap.size + 1 := by simp
  generalize w.alloc (.cells #[.int .i64 0, .string ⟨#[]⟩, .slice none 0 0] 59) = W1 at b1 e1 z1
  have hr1 : CdW W1 cb s p c 0 (-1) := hr.kept (b1.block cb hcb)
  have hs := rd_set (i := 2) (.int .i64 ((c : Int) + 1)) hr1
  refine ⟨W1, _, rfl, rfl, rd_cell hr1 rfl, rd_free hr1 2, setm_read hr1 (by simp) _, by simpa using z1, hs, (to_but b1).setB 2 _, ?_⟩
  rw [Below.heap_setCell _ _ _ _ (show w.heap.size ≠ cb by omega)]
  exact e1
theorem rarg_done {w w3 : World} {cb p c : Nat} {s : ByteArray} {k : Int} {l : List Ar} {tb : ByteArray} {lv : Value} {E q : Int} {R : Wd Ar} (hcb : cb < w.heap.size) (hl : Agw w3 (fun q => w.heap.size + 1 ≤ q) l lv) (hr : CdW w3 cb s p c E q) (hb : But w.heap.size cb w w3) (hR : ResA R (.mk k tb.data.toList l) p c E q) :
    OutRA w cb s R (.returned (.agg #[.int .i64 k, .string tb, lv])) (((w3.setCell ⟨w.heap.size, 0, none⟩ (.int .i64 k)).setCell ⟨w.heap.size, 1, none⟩ (.string tb)).setCell ⟨w.heap.size, 2, none⟩ lv) :=
  ⟨.mk k tb.data.toList l, [.int .i64 k, .string tb, lv], p, c, E, q, rfl, ⟨tb, lv, rfl, rfl, hl.kept fun q hq _ => ⟨by omega, three_other _ (by omega) _ _ _⟩⟩, hr.kept (three_other _ (by omega) _ _ _), three_but hb (Nat.le_refl _) _ _ _, hR⟩
set_option maxHeartbeats 4000000 in
set_option maxRecDepth 100000 in
theorem rarg_limit (cb p c d : Nat) (s : ByteArray) (w : World) (hr : CdW w cb s p c 0 (-1)) (hf : FineAt w) (hcf : cb ≠ 0) (_hs : s.size ≤ 1000000) (hE : Ends s.data.toList) (_hp : p + 2 ≤ s.size) (hc : c ≤ 1000) (hd : d ≤ 1000) (h : 6 < d ∨ 60 < c + 1) :
    Calls Tryz.prog 26 #[.pointer (some ⟨cb, 0, none⟩), .int .i64 (d : Int)] w fun e w' => OutRA w cb s (.bad 4 p) e w' := by
  obtain ⟨W1, W2, hW1, hW2, p1, f1, q1, z2, hr2, hb2, hE2⟩ := rarg_begun cb p c s w hr
  have hcb := hr.lt
  have cF := rfail_yes cb p (c + 1) 4 s W2 hr2 (hf.but hb2 hcf)
  have HX : Hid (CdW W2 cb s p (c + 1) 0 (-1) ∧ But w.heap.size cb w W2 ∧ W2.heap[w.heap.size]? = some (.cells #[.int .i64 0, .string ⟨#[]⟩, .slice none 0 0] 59 (0, 0)) ∧ W2.heap.size = w.heap.size + 1 ∧ FineAt w) := ⟨hr2, hb2, hE2, z2, hf⟩
  have HEN : Hid (Ends s.data.toList) := hE
  clear hr hr2 hb2 hE2 z2 hf hE
  by_cases h1 : 60 < c + 1
  · have d2 : decide ((60 : Int) < (c : Int) + 1) = true := decide_eq_true (by omega)
    go_enter Tryz.func26, Tryz.ntmps26
    go_wp2_with fail
    refine cF.mono ?_
    rintro e w3 ⟨rfl, hr3, hb3⟩
    have z2 := HX.out.2.2.2.1
    have hb03 : But w.heap.size cb w w3 := HX.out.2.1.trans (hb3.less (by omega))
    have e3 := (hb3.block w.heap.size (by omega) (by omega)).trans HX.out.2.2.1
    have cS := rsee_bad cb p (c + 1) 4 (p : Int) s w3 hr3 (by decide) (HX.out.2.2.2.2.but hb03 hcf)
    have z3 : w.heap.size + 1 ≤ w3.heap.size := by have := hb3.size; omega
    have H3 : Hid (CdW w3 cb s p (c + 1) 4 (p : Int) ∧ But w.heap.size cb w w3 ∧ w3.heap[w.heap.size]? = some (.cells #[.int .i64 0, .string ⟨#[]⟩, .slice none 0 0] 59 (0, 0))) := ⟨hr3, hb03, e3⟩
    clear cF hr3 hb3 hb03 e3 z2
    go_wp2_with fail
    refine cS.mono ?_
    rintro e w4 ⟨rfl, hb4⟩
    have hr4 := H3.out.1.kept (hb4.block cb (by omega))
    have hb04 := H3.out.2.1.trans (to_but (hb4.mono (by omega)))
    have cG := rfail_no cb p (c + 1) 3 4 (p : Int) s w4 hr4 (by decide) (HX.out.2.2.2.2.but hb04 hcf)
    have H4 : Hid (CdW w4 cb s p (c + 1) 4 (p : Int) ∧ But w.heap.size cb w w4 ∧ w4.heap[w.heap.size]? = some (.cells #[.int .i64 0, .string ⟨#[]⟩, .slice none 0 0] 59 (0, 0)) ∧ w3.heap.size ≤ w4.heap.size) := ⟨hr4, hb04, (hb4.block w.heap.size (by omega)).trans H3.out.2.2, hb4.size⟩
    clear cS hb4 hr4 hb04 H3
    go_wp2_with fail
    refine cG.mono ?_
    rintro e w7 ⟨rfl, hb9⟩
    have z4 := H4.out.2.2.2
    have hr7 := H4.out.1.kept (hb9.block cb (by omega))
    have hb7 := H4.out.2.1.trans (to_but (hb9.mono (by omega)))
    have e7 := (hb9.block w.heap.size (by omega)).trans H4.out.2.2.1
    clear cG hb9 H4 HX
    have hcz := hcb
    obtain ⟨⟨s0, s1, s2⟩, ⟨sf0, sf1, sf2⟩, u0, u1, u2⟩ := three_facts e7 (.int .i64 0) (.string ⟨#[]⟩) (.slice none 0 0)
    have HD : Hid (OutRA w cb s (.bad 4 p) (.returned (.agg #[.int .i64 0, .string ⟨#[]⟩, (.slice none 0 0)])) _) := rarg_done hcz (Agw.nil w7 _) hr7 hb7 ⟨rfl, rfl, by decide⟩
    clear hr7 hb7 e7 hcz
    go_wp2_with fail
    exact bodyPost_ret (v := .agg #[.int .i64 0, .string ⟨#[]⟩, (.slice none 0 0)]) (by simp [results, Tryz.results26, go_sem, u0, u1, u2]) rfl HD.out
  · have d2 : decide ((60 : Int) < (c : Int) + 1) = false := decide_eq_false (by omega)
    have d1 : decide ((6 : Int) < (d : Int)) = true := decide_eq_true (by omega)
    go_enter Tryz.func26, Tryz.ntmps26
    go_wp2_with fail
    refine cF.mono ?_
    rintro e w3 ⟨rfl, hr3, hb3⟩
    have z2 := HX.out.2.2.2.1
    have hb03 : But w.heap.size cb w w3 := HX.out.2.1.trans (hb3.less (by omega))
    have e3 := (hb3.block w.heap.size (by omega) (by omega)).trans HX.out.2.2.1
    have cS := rsee_bad cb p (c + 1) 4 (p : Int) s w3 hr3 (by decide) (HX.out.2.2.2.2.but hb03 hcf)
    have z3 : w.heap.size + 1 ≤ w3.heap.size := by have := hb3.size; omega
    have H3 : Hid (CdW w3 cb s p (c + 1) 4 (p : Int) ∧ But w.heap.size cb w w3 ∧ w3.heap[w.heap.size]? = some (.cells #[.int .i64 0, .string ⟨#[]⟩, .slice none 0 0] 59 (0, 0))) := ⟨hr3, hb03, e3⟩
    clear cF hr3 hb3 hb03 e3 z2
    go_wp2_with fail
    refine cS.mono ?_
    rintro e w4 ⟨rfl, hb4⟩
    have hr4 := H3.out.1.kept (hb4.block cb (by omega))
    have hb04 := H3.out.2.1.trans (to_but (hb4.mono (by omega)))
    have cG := rfail_no cb p (c + 1) 3 4 (p : Int) s w4 hr4 (by decide) (HX.out.2.2.2.2.but hb04 hcf)
    have H4 : Hid (CdW w4 cb s p (c + 1) 4 (p : Int) ∧ But w.heap.size cb w w4 ∧ w4.heap[w.heap.size]? = some (.cells #[.int .i64 0, .string ⟨#[]⟩, .slice none 0 0] 59 (0, 0)) ∧ w3.heap.size ≤ w4.heap.size) := ⟨hr4, hb04, (hb4.block w.heap.size (by omega)).trans H3.out.2.2, hb4.size⟩
    clear cS hb4 hr4 hb04 H3
    go_wp2_with fail
    refine cG.mono ?_
    rintro e w7 ⟨rfl, hb9⟩
    have z4 := H4.out.2.2.2
    have hr7 := H4.out.1.kept (hb9.block cb (by omega))
    have hb7 := H4.out.2.1.trans (to_but (hb9.mono (by omega)))
    have e7 := (hb9.block w.heap.size (by omega)).trans H4.out.2.2.1
    clear cG hb9 H4 HX
    have hcz := hcb
    obtain ⟨⟨s0, s1, s2⟩, ⟨sf0, sf1, sf2⟩, u0, u1, u2⟩ := three_facts e7 (.int .i64 0) (.string ⟨#[]⟩) (.slice none 0 0)
    have HD : Hid (OutRA w cb s (.bad 4 p) (.returned (.agg #[.int .i64 0, .string ⟨#[]⟩, (.slice none 0 0)])) _) := rarg_done hcz (Agw.nil w7 _) hr7 hb7 ⟨rfl, rfl, by decide⟩
    clear hr7 hb7 e7 hcz
    go_wp2_with fail
    exact bodyPost_ret (v := .agg #[.int .i64 0, .string ⟨#[]⟩, (.slice none 0 0)]) (by simp [results, Tryz.results26, go_sem, u0, u1, u2]) rfl HD.out
theorem argW_end {s : Tx} (hE : Ends s) {p c f : Nat} (hc : ¬ 60 < c + 1) (hp : p + 2 ≤ s.length) (h : seeW s p = none) : argW s (f + 1) p c = .bad 3 p := by
  have hn : ∀ x : UInt8, x ≠ 13 → x ≠ 10 → tookW [x] s p = false := fun x h1 h2 => see_not hE h1 h2 (by rw [h]; simp)
  rw [argW, if_neg hc, hn 123 (by decide) (by decide), hn 34 (by decide) (by decide), hn 40 (by decide) (by decide), word_by hE (Nat.le_refl p) hp (fun j b h1 h2 => absurd h2 (by omega)) (fun b hb => by rw [h] at hb; cases hb), if_pos rfl]
  simp [Wd.map]
set_option maxHeartbeats 4000000 in
set_option maxRecDepth 100000 in
theorem rarg_end (cb p c d : Nat) (s : ByteArray) (w : World) (hr : CdW w cb s p c 0 (-1)) (hf : FineAt w) (hcf : cb ≠ 0) (hs : s.size ≤ 1000000) (hE : Ends s.data.toList) (hp : p + 2 ≤ s.size) (hc : c + 1 ≤ 60) (hd : d ≤ 6) (hse : seeW s.data.toList p = none) :
    Calls Tryz.prog 26 #[.pointer (some ⟨cb, 0, none⟩), .int .i64 (d : Int)] w fun e w' => OutRA w cb s (.bad 3 p) e w' := by
  obtain ⟨W1, W2, hW1, hW2, p1, f1, q1, z2, hr2, hb2, hE2⟩ := rarg_begun cb p c s w hr
  have hcb := hr.lt
  have d1 : decide ((6 : Int) < (d : Int)) = false := decide_eq_false (by omega)
  have d2 : decide ((60 : Int) < (c : Int) + 1) = false := decide_eq_false (by omega)
  have cS := rsee_end cb p (c + 1) s W2 hr2 (hf.but hb2 hcf) hs (by omega) hse
  have HX : Hid (CdW W2 cb s p (c + 1) 0 (-1) ∧ But w.heap.size cb w W2 ∧ W2.heap[w.heap.size]? = some (.cells #[.int .i64 0, .string ⟨#[]⟩, .slice none 0 0] 59 (0, 0)) ∧ W2.heap.size = w.heap.size + 1 ∧ FineAt w) := ⟨hr2, hb2, hE2, z2, hf⟩
  have HEN : Hid (Ends s.data.toList) := hE
  clear hr hr2 hb2 hE2 z2 hf hE hse
  go_enter Tryz.func26, Tryz.ntmps26
  go_wp2_with fail
  refine cS.mono ?_
  rintro e w3 ⟨rfl, hb3⟩
  have z2 := HX.out.2.2.2.1
  have hr3 := HX.out.1.kept (hb3.block cb (by omega))
  have hb03 : But w.heap.size cb w w3 := HX.out.2.1.trans (to_but (hb3.mono (by omega)))
  have e3 := (hb3.block w.heap.size (by omega)).trans HX.out.2.2.1
  have z3 : w.heap.size + 1 ≤ w3.heap.size := by have := hb3.size; omega
  have cF := rfail_yes cb p (c + 1) 3 s w3 hr3 (HX.out.2.2.2.2.but hb03 hcf)
  have H3 : Hid (But w.heap.size cb w w3 ∧ w3.heap[w.heap.size]? = some (.cells #[.int .i64 0, .string ⟨#[]⟩, .slice none 0 0] 59 (0, 0))) := ⟨hb03, e3⟩
  clear cS hb3 hr3 hb03 e3 HX z2
  go_wp2_with fail
  refine cF.mono ?_
  rintro e w7 ⟨rfl, hr7, hb9⟩
  have hb7 := H3.out.1.trans (hb9.less (by omega))
  have e7 := (hb9.block w.heap.size (by omega) (by omega)).trans H3.out.2
  clear cF hb9 H3
  have hcz := hcb
  obtain ⟨⟨s0, s1, s2⟩, ⟨sf0, sf1, sf2⟩, u0, u1, u2⟩ := three_facts e7 (.int .i64 0) (.string ⟨#[]⟩) (.slice none 0 0)
  have HD : Hid (OutRA w cb s (.bad 3 p) (.returned (.agg #[.int .i64 0, .string ⟨#[]⟩, (.slice none 0 0)])) _) := rarg_done hcz (Agw.nil w7 _) hr7 hb7 ⟨rfl, rfl, by decide⟩
  clear hr7 hb7 e7 hcz
  go_wp2_with fail
  exact bodyPost_ret (v := .agg #[.int .i64 0, .string ⟨#[]⟩, (.slice none 0 0)]) (by simp [results, Tryz.results26, go_sem, u0, u1, u2]) rfl HD.out
set_option maxHeartbeats 4000000 in
set_option maxRecDepth 100000 in
theorem rarg_quo (cb p c d : Nat) (s : ByteArray) (w : World) (hr : CdW w cb s p c 0 (-1)) (hf : FineAt w) (hcf : cb ≠ 0) (hs : s.size ≤ 1000000) (hE : Ends s.data.toList) (_hp : p + 2 ≤ s.size) (hc : c + 1 ≤ 60) (hd : d ≤ 6) (hse : seeW s.data.toList p = some 34) :
    Calls Tryz.prog 26 #[.pointer (some ⟨cb, 0, none⟩), .int .i64 (d : Int)] w fun e w' => OutRA w cb s ((quotedW s.data.toList (p + 1) (c + 1) [] s.data.toList.length).map fun t => .mk 2 t []) e w' := by
  obtain ⟨W1, W2, hW1, hW2, p1, f1, q1, z2, hr2, hb2, hE2⟩ := rarg_begun cb p c s w hr
  have hcb := hr.lt
  have d1 : decide ((6 : Int) < (d : Int)) = false := decide_eq_false (by omega)
  have d2 : decide ((60 : Int) < (c : Int) + 1) = false := decide_eq_false (by omega)
  have cS := rsee_yes cb p (c + 1) 34 s W2 hr2 (hf.but hb2 hcf) hs hse
  have HX : Hid (CdW W2 cb s p (c + 1) 0 (-1) ∧ But w.heap.size cb w W2 ∧ W2.heap[w.heap.size]? = some (.cells #[.int .i64 0, .string ⟨#[]⟩, .slice none 0 0] 59 (0, 0)) ∧ W2.heap.size = w.heap.size + 1 ∧ FineAt w) := ⟨hr2, hb2, hE2, z2, hf⟩
  have HEN : Hid (Ends s.data.toList) := hE
  rw [show ((34 : UInt8).toNat : Int) = 34 from rfl] at cS
  have hlt := (see_some hse).1
  rw [wsize] at hlt
  clear hse
  clear hr hr2 hb2 hE2 z2 hf hE
  go_enter Tryz.func26, Tryz.ntmps26
  go_wp2_with fail
  refine cS.mono ?_
  rintro e w3 ⟨rfl, hb3⟩
  have z2 := HX.out.2.2.2.1
  have hr3 := HX.out.1.kept (hb3.block cb (by omega))
  have hb03 : But w.heap.size cb w w3 := HX.out.2.1.trans (to_but (hb3.mono (by omega)))
  have e3 := (hb3.block w.heap.size (by omega)).trans HX.out.2.2.1
  have z3 : w.heap.size + 1 ≤ w3.heap.size := by have := hb3.size; omega
  have cC := rquoted_is cb p (c + 1) s w3 hr3 (HX.out.2.2.2.2.but hb03 hcf) hcf hs HEN.out hlt
  have H3 : Hid (But w.heap.size cb w w3 ∧ w3.heap[w.heap.size]? = some (.cells #[.int .i64 0, .string ⟨#[]⟩, .slice none 0 0] 59 (0, 0))) := ⟨hb03, e3⟩
  clear cS hb3 hr3 hb03 e3 HX z2
  go_wp2_with fail
  refine cC.mono ?_
  intro e w7 h7
  obtain ⟨tb, p7, c7, E7, q7, rfl, hr7, hb9, hres⟩ := outRT_any 2 h7
  have hb7 := H3.out.1.trans (hb9.less (by omega))
  have e7 := (hb9.block w.heap.size (by omega) (by omega)).trans H3.out.2
  clear cC hb9 H3 h7
  have hcz := hcb
  obtain ⟨⟨s0, s1, s2⟩, ⟨sf0, sf1, sf2⟩, u0, u1, u2⟩ := three_facts e7 (.int .i64 2) (.string tb) (.slice none 0 0)
  have HD : Hid (OutRA w cb s _ (.returned (.agg #[.int .i64 2, .string tb, (.slice none 0 0)])) _) := rarg_done hcz (Agw.nil w7 _) hr7 hb7 hres
  clear hr7 hb7 e7 hcz hres
  go_wp2_with fail
  exact bodyPost_ret (v := .agg #[.int .i64 2, .string tb, (.slice none 0 0)]) (by simp [results, Tryz.results26, go_sem, u0, u1, u2]) rfl HD.out
set_option maxHeartbeats 4000000 in
set_option maxRecDepth 100000 in
theorem rarg_word (cb p c d : Nat) (s : ByteArray) (w : World) (hr : CdW w cb s p c 0 (-1)) (hf : FineAt w) (hcf : cb ≠ 0) (hs : s.size ≤ 1000000) (hE : Ends s.data.toList) (hp : p + 2 ≤ s.size) (b : UInt8) (hc : c + 1 ≤ 60) (hd : d ≤ 6) (hse : seeW s.data.toList p = some b) (h1 : b ≠ 34) (h2 : b ≠ 123) (h3 : b ≠ 40) :
    Calls Tryz.prog 26 #[.pointer (some ⟨cb, 0, none⟩), .int .i64 (d : Int)] w fun e w' => OutRA w cb s ((wordW s.data.toList p (c + 1)).map fun t => .mk 1 t []) e w' := by
  obtain ⟨W1, W2, hW1, hW2, p1, f1, q1, z2, hr2, hb2, hE2⟩ := rarg_begun cb p c s w hr
  have hcb := hr.lt
  have d1 : decide ((6 : Int) < (d : Int)) = false := decide_eq_false (by omega)
  have d2 : decide ((60 : Int) < (c : Int) + 1) = false := decide_eq_false (by omega)
  have cS := rsee_yes cb p (c + 1) b s W2 hr2 (hf.but hb2 hcf) hs hse
  have HX : Hid (CdW W2 cb s p (c + 1) 0 (-1) ∧ But w.heap.size cb w W2 ∧ W2.heap[w.heap.size]? = some (.cells #[.int .i64 0, .string ⟨#[]⟩, .slice none 0 0] 59 (0, 0)) ∧ W2.heap.size = w.heap.size + 1 ∧ FineAt w) := ⟨hr2, hb2, hE2, z2, hf⟩
  have HEN : Hid (Ends s.data.toList) := hE
  have h256 := b.toNat_lt
  have m34 : ((b.toNat : Int) == 34) = false := by rw [beq_eq_false_iff_ne]; intro e; exact h1 (UInt8.toNat_inj.1 (by show b.toNat = 34; omega))
  have m123 : ((b.toNat : Int) == 123) = false := by rw [beq_eq_false_iff_ne]; intro e; exact h2 (UInt8.toNat_inj.1 (by show b.toNat = 123; omega))
  have m40 : ((b.toNat : Int) == 40) = false := by rw [beq_eq_false_iff_ne]; intro e; exact h3 (UInt8.toNat_inj.1 (by show b.toNat = 40; omega))
  clear hse h1 h2 h3
  clear hr hr2 hb2 hE2 z2 hf hE
  go_enter Tryz.func26, Tryz.ntmps26
  go_wp2_with fail
  refine cS.mono ?_
  rintro e w3 ⟨rfl, hb3⟩
  have z2 := HX.out.2.2.2.1
  have hr3 := HX.out.1.kept (hb3.block cb (by omega))
  have hb03 : But w.heap.size cb w w3 := HX.out.2.1.trans (to_but (hb3.mono (by omega)))
  have e3 := (hb3.block w.heap.size (by omega)).trans HX.out.2.2.1
  have z3 : w.heap.size + 1 ≤ w3.heap.size := by have := hb3.size; omega
  have cC := rword_is cb p (c + 1) s w3 hr3 (HX.out.2.2.2.2.but hb03 hcf) hcf hs HEN.out hp
  have H3 : Hid (But w.heap.size cb w w3 ∧ w3.heap[w.heap.size]? = some (.cells #[.int .i64 0, .string ⟨#[]⟩, .slice none 0 0] 59 (0, 0))) := ⟨hb03, e3⟩
  clear cS hb3 hr3 hb03 e3 HX z2
  go_wp2_with fail
  refine cC.mono ?_
  intro e w7 h7
  obtain ⟨tb, p7, c7, E7, q7, rfl, hr7, hb9, hres⟩ := outRT_any 1 h7
  have hb7 := H3.out.1.trans (hb9.less (by omega))
  have e7 := (hb9.block w.heap.size (by omega) (by omega)).trans H3.out.2
  clear cC hb9 H3 h7
  have hcz := hcb
  obtain ⟨⟨s0, s1, s2⟩, ⟨sf0, sf1, sf2⟩, u0, u1, u2⟩ := three_facts e7 (.int .i64 1) (.string tb) (.slice none 0 0)
  have HD : Hid (OutRA w cb s _ (.returned (.agg #[.int .i64 1, .string tb, (.slice none 0 0)])) _) := rarg_done hcz (Agw.nil w7 _) hr7 hb7 hres
  clear hr7 hb7 e7 hcz hres
  go_wp2_with fail
  exact bodyPost_ret (v := .agg #[.int .i64 1, .string tb, (.slice none 0 0)]) (by simp [results, Tryz.results26, go_sem, u0, u1, u2]) rfl HD.out
end Go.Proofs.YtmcpohnilgbicaaGreatDoor
