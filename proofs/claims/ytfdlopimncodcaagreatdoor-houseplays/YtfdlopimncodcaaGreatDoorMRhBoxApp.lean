/-
  The document's box: a message is put behind all others.
-/
import Derived.Test.YtfdlopimncodcaaGreatDoorBpHsSaved
namespace Go.Proofs.YtfdlopimncodcaaGreatDoor
open Go.Proofs.Aid Go.Proofs.Bx Go.RowKit
set_option maxHeartbeats 8000000
set_option maxRecDepth 100000
def RBox (w : World) (wb : Nat) (v n : Int) (lv : Value) (l : List Lt) : Prop := w.heap[wb]? = some (.cells #[.int .i64 v, .int .i64 n, lv] 84 (0, 0)) ∧ Lts w lv l
theorem RBox.below {w w' : World} {wb B : Nat} {v n : Int} {lv : Value} {l : List Lt} (h : RBox w wb v n lv l) (hb : Below B w w') (hB : w.heap.size ≤ B) : RBox w' wb v n lv l :=
 ⟨(hb.block wb (Nat.lt_of_lt_of_le (Array.getElem?_eq_some_iff.1 h.1).1 hB)).trans h.1, h.2.below hb hB⟩
theorem RBox.lt {w : World} {wb : Nat} {v n : Int} {lv : Value} {l : List Lt} (h : RBox w wb v n lv l) : wb < w.heap.size := (Array.getElem?_eq_some_iff.1 h.1).1
theorem step_app {P : Program} {w w' : World} {ops : Array Oper} {o : Oper} {a : Act} {K : Act → World → Prop} {Q : Exit → Act → World → Prop} {E : Prop} (hgd : o.guard = none) (s x : Operand) (t : TypeId)
  (ho : o.op = .call { callee := .builtin .append, args := #[s, x], argTypes := #[t, t] }) (v xv r : Value) (hs : a.eval s = v) (hx : a.eval x = xv) (hr : (Builtin.append_ #[t, t] o.type #[v, xv]).run P w = .ok r w') (h : K (a.put o.dst r) w') :
  if Region.wanted o (yielded ops a.tmps) = true then Oper.wp P o a w K Q else E := by
 have hw : Region.wanted o (yielded ops a.tmps) = true := by simp [Region.wanted, hgd]
 rw [if_pos hw]
 unfold Oper.wp execOp
 simp only [ho, resolve, invoke, builtin, Sem.run_bind, Sem.run_pure, Result.andThen_ok, List.map_toArray, List.map_cons, List.map_nil, hs, hx, hr]
 exact h
theorem lown_push {w0 w : World} {base : Nat} {va : Option Addr} {ca : Nat} {L : List Lt} (h : LOwn w0 w base (.slice va L.length ca) L) (hL : L.length ≤ 1000) (x : Lt) (xs : List Value) (hx : LtRow w0 x xs) (nb : Nat) (hnb : ∀ j u, xs[j]? = some u → w.cell? ⟨nb, j, none⟩ = some u) (hcell : ∀ u ∈ xs, u.oneCell' = true) (hbase : base ≤ w.heap.size) :
  ∃ g cap W, (Builtin.append_ #[70, 70] 70 #[.slice va L.length ca, .slice (some ⟨nb, 0, none⟩) 1 1]).run Tryz.prog w = .ok (.slice (some ⟨g, 0, none⟩) (L.length + 1) cap) W ∧
   LOwn w0 W base (.slice (some ⟨g, 0, none⟩) (L.length + 1) cap) (L ++ [x]) ∧ (W.os = w.os ∧ W.tape = w.tape ∧ W.output = w.output ∧ w.heap.size ≤ W.heap.size ∧ ∀ q, q < w.heap.size → (Value.slice va L.length ca).ownBlock ≠ some q → W.heap[q]? = w.heap[q]?) ∧ ((Value.slice va L.length ca).ownBlock = some g ∨ w.heap.size ≤ g) := by
 obtain ⟨rows, h1, h2, h3, h4⟩ := h
 obtain ⟨j0, hj, hz, hs, hby⟩ := info_parts Tryz.infoLt
 have hlen := hx.len
 have hnews : ∀ j u, xs[j]? = some u → w.cell? ((⟨nb, 0, none⟩ : Addr).add j) = some u := fun j u hu => by
  rw [Addr.add_lit, Nat.zero_add]
  exact hnb j u hu
 obtain ⟨g9, cap9, W9, hrun, hown9, hg9, hor9, hlt9⟩ := run_append_lies (P := Tryz.prog) w 70 70 base 127 j0 (.agg #[.int .i64 0, .slice none 0 0, .int .i64 0, .string ⟨#[]⟩]) 4 56 Tryz.underlying70 hj hz hs hby rfl (by decide) (.slice va L.length ca) L.length _ h1 ⟨nb, 0, none⟩ 1 1 xs (by rw [hlen]) hnews hcell (by decide) (by unfold maxLen; omega) (by omega) hbase _ rfl
 refine ⟨g9, cap9, W9, hrun, ⟨rows ++ [xs], ?_, by simp [h2], fun j y ys hj hy => ?_, fun ys hy => ?_⟩, ⟨hg9.os, hg9.tape, hg9.output, hg9.size, fun q hq hne => hg9.block q hq (fun e => hne e.symm)⟩, hor9.imp id fun e => by omega⟩
 ·rw [List.length_append, List.flatten_append, List.flatten_cons, List.flatten_nil, List.append_nil]
  exact hown9
 ·by_cases hjl : j < L.length
  ·rw [List.getElem?_append_left hjl] at hj
   rw [List.getElem?_append_left (by omega)] at hy
   exact h3 j y ys hj hy
  ·have : j < (L ++ [x]).length := (List.getElem?_eq_some_iff.1 hj).1
   obtain rfl : j = L.length := by simp at this; omega
   rw [List.getElem?_append_right (Nat.le_refl _), Nat.sub_self] at hj
   rw [List.getElem?_append_right (by omega), h2, Nat.sub_self] at hy
   obtain rfl : x = y := by simpa using hj
   obtain rfl := Option.some.inj hy
   exact hx
 ·rcases List.mem_append.1 hy with h | h
  ·exact h4 ys h
  ·rw [List.mem_singleton.1 h]; exact hlen
theorem LOwn.same {w0 w w' : World} {base : Nat} {v : Value} {l : List Lt} (h : LOwn w0 w base v l) (hk : ∀ q, base ≤ q → q < w.heap.size → v.ownBlock = some q → w'.heap[q]? = w.heap[q]?) : LOwn w0 w' base v l := by
 obtain ⟨rows, h1, h2, h3, h4⟩ := h
 exact ⟨rows, own_same h1 fun q hq => hk q (h1.lt q hq).1 (h1.lt q hq).2 hq, h2, h3, h4⟩
theorem LOwn.form {w0 w : World} {base : Nat} {v : Value} {l : List Lt} (h : LOwn w0 w base v l) : ∃ a c, v = .slice a l.length c := by
 obtain ⟨rows, h1, _⟩ := h
 rcases h1.2 with ⟨h2, h3⟩ | ⟨g, cap, cur, hv, _⟩
 ·exact ⟨none, 0, by rw [h2, h3]⟩
 ·exact ⟨_, _, hv⟩
theorem LOwn.blk {w0 w : World} {base : Nat} {v : Value} {l : List Lt} (h : LOwn w0 w base v l) {q : Nat} (hq : v.ownBlock = some q) : base ≤ q ∧ q < w.heap.size := by
 obtain ⟨rows, h1, _⟩ := h
 exact h1.lt q hq
def RBoxNew (B : Nat) (w : World) (wb : Nat) (v n : Int) (l : List Lt) : Prop := ∃ lv, RBox w wb v n lv l ∧ ∀ q, lv.ownBlock = some q → B ≤ q
theorem ref_in (n a b : Int) (w : World) : Calls Tryz.prog 99 #[.int .i64 n, .int .i64 a, .int .i64 b] w fun e w' => e = .returned (.bool (decide (a ≤ n ∧ n ≤ b))) ∧ w' = w := by
 by_cases h0 : a ≤ n
 ·by_cases h1 : n ≤ b
  ·rw [decide_eq_true ⟨h0, h1⟩]
   go_enter Tryz.func99, Tryz.ntmps99
   go_wp2
   go_ret
   exact ⟨by simp, rfl⟩
  ·rw [decide_eq_false (by omega)]
   go_enter Tryz.func99, Tryz.ntmps99
   go_wp2
   go_ret
   exact ⟨by simp, rfl⟩
 ·rw [decide_eq_false (by omega)]
  go_enter Tryz.func99, Tryz.ntmps99
  go_wp2
  go_ret
  exact ⟨rfl, rfl⟩
theorem Tryz.nilSpread (x : Addr) (w : World) : (Builtin.append_ #[70, 70] 70 #[.slice (some x) 0 0, .slice none 0 0]).run Tryz.prog w = .ok (.slice (some x) 0 0) w := by kernel_rfl
theorem spread {w0 w : World} {lv : Value} {l : List Lt} {g0 : Nat} (h : Lts w0 lv l) (hl : l.length ≤ 1000) (hb : Below w0.heap.size w0 w) (hE : w.heap[g0]? = some (.cells #[] 127 (0, 0))) (hg : w0.heap.size ≤ g0) :
  ∃ v1 W1, (Builtin.append_ #[70, 70] 70 #[.slice (some ⟨g0, 0, none⟩) 0 0, lv]).run Tryz.prog w = .ok v1 W1 ∧ LOwn w0 W1 w0.heap.size v1 l ∧ Below w.heap.size w W1 := by
 obtain ⟨a, c, rfl, ⟨h0, hc1, hc2⟩, ha⟩ := h
 have hnil : LOwn w0 w w0.heap.size (.slice (some ⟨g0, 0, none⟩) 0 0) [] := ⟨[], ⟨rfl, Or.inr ⟨g0, 0, #[], rfl, hg, hE, Nat.le_refl _, by unfold maxLen; omega, rfl, rfl⟩⟩, rfl, fun j x xs h => (by simp at h), fun xs h => (by cases h)⟩
 cases a with
 | none =>
  have hn : l = [] := by
   rcases ha with h | ⟨b, o, h, _⟩
   ·exact h
   ·cases h
  subst hn
  obtain rfl := h0 rfl
  exact ⟨_, _, Tryz.nilSpread _ _, hnil, Below.refl _ _⟩
 | some ad =>
  by_cases hl0 : l = []
  ·subst hl0
   exact ⟨_, _, Tryz.noneLts ⟨g0, 0, none⟩ ad c w, hnil, Below.refl _ _⟩
  ·rcases ha with rfl | ⟨b, o, h1, hat⟩
   ·exact absurd rfl hl0
   ·obtain rfl := Option.some.inj h1
    obtain ⟨rows, r1, r2, r3, r4⟩ := lts_rows hat
    obtain ⟨j0, hj, hz, hs, hby⟩ := info_parts Tryz.infoLt
    have hlp : 0 < l.length := List.length_pos_iff.2 hl0
    obtain ⟨v', w', hrun, hown, hgr⟩ := run_append_arg_grows (P := Tryz.prog) (w := w) 70 70 127 j0 (.agg #[.int .i64 0, .slice none 0 0, .int .i64 0, .string ⟨#[]⟩]) 4 56 Tryz.underlying70 hj hz hs hby rfl (by decide) ⟨g0, 0, none⟩ 0 0 [] rfl (fun j u h => (by simp at h)) ⟨b, o, none⟩ l.length c rows.flatten (by rw [flat4_len r3, r1]) (fun k u hk => by rw [Addr.add_lit]; have h9 := r4 k u hk; exact (hb.cell (p := ⟨b, _, none⟩) (World.block_lt_of_cell? _ _ h9)).trans h9) (by omega) (by unfold maxLen; omega) (by omega)
    rw [Nat.zero_add, List.nil_append] at hown
    exact ⟨v', w', hrun, ⟨rows, own_lower hown hb.size, r1, r2, r3⟩, ⟨hgr.os, hgr.tape, hgr.output, hgr.size, fun k hk => hgr.block k hk (by simp)⟩⟩
theorem rapp_fin {WD W3 : World} {wb nb k c1 : Nat} {vv n day : Int} {lv : Value} {a1 : Option Addr} {l : List Lt} {F : List Fl.Tx} {sv : Value} {t : ByteArray} (hbox : RBox WD wb vv n lv l) (hf : ∃ a m c, lv = .slice a m c) (hO : LOwn WD W3 WD.heap.size (.slice a1 k c1) l) (hk : l.length = k) (hk9 : k ≤ 999) (hb : Below WD.heap.size WD W3) (hs : Sl WD sv F)
  (hX : W3.heap[nb]? = some (.cells #[.int .i64 n, sv, .int .i64 day, .string t] 127 (0, 0))) :
  ∃ (g9 cap9 : Nat) (W4 : World), (Builtin.append_ #[70, 70] 70 #[.slice a1 k c1, .slice (some ⟨nb, 0, none⟩) 1 1]).run Tryz.prog W3 = .ok (.slice (some ⟨g9, 0, none⟩) (k + 1) cap9) W4 ∧ W4.cell? ⟨wb, 1, none⟩ = some (.int .i64 n) ∧ W4.cell? ⟨wb, 2, none⟩ = some lv ∧ W4.frozen? ⟨wb, 2, none⟩ = false ∧
   (W4.setCell ⟨wb, 2, none⟩ (.slice (some ⟨g9, 0, none⟩) (k + 1) cap9)).cell? ⟨wb, 1, none⟩ = some (.int .i64 n) ∧ (W4.setCell ⟨wb, 2, none⟩ (.slice (some ⟨g9, 0, none⟩) (k + 1) cap9)).frozen? ⟨wb, 1, none⟩ = false ∧
   ((W4.setCell ⟨wb, 2, none⟩ (.slice (some ⟨g9, 0, none⟩) (k + 1) cap9)).setCell ⟨wb, 1, none⟩ (.int .i64 (n + 1))).cell? ⟨wb, 1, none⟩ = some (.int .i64 (n + 1)) ∧
   Hid (RBoxNew WD.heap.size ((W4.setCell ⟨wb, 2, none⟩ (.slice (some ⟨g9, 0, none⟩) (k + 1) cap9)).setCell ⟨wb, 1, none⟩ (.int .i64 (n + 1))) wb vv (n + 1) (l ++ [⟨n, F, day, t.data.toList⟩]) ∧ But WD.heap.size wb WD ((W4.setCell ⟨wb, 2, none⟩ (.slice (some ⟨g9, 0, none⟩) (k + 1) cap9)).setCell ⟨wb, 1, none⟩ (.int .i64 (n + 1)))) := by
 subst hk
 obtain ⟨fa, fc, hfv, _⟩ := id hs
 have htt : (⟨t.data.toList.toArray⟩ : ByteArray) = t := by cases t; simp
 obtain ⟨g9, cap9, W4, hrun, hO4, ⟨k1, k2, k3, k4, k5⟩, _⟩ := lown_push hO (by omega) ⟨n, F, day, t.data.toList⟩ [.int .i64 n, sv, .int .i64 day, .string t] ⟨sv, by rw [htt], hs⟩ nb (fun j u hu => rd_cell hX (by simpa using hu)) (by rw [hfv]; simp [Value.oneCell']) hb.size
 have hwl := hbox.lt
 have hsz := hb.size
 have hno : (Value.slice a1 l.length c1).ownBlock ≠ some wb := fun e => by have := (hO.blk e).1; omega
 have hfr : ∀ q, q < WD.heap.size → W4.heap[q]? = WD.heap[q]? := fun q hq => (k5 q (by omega) (fun e => by have := (hO.blk e).1; omega)).trans (hb.block q hq)
 have hb4 : Below WD.heap.size WD W4 := ⟨k1.trans hb.os, k2.trans hb.tape, k3.trans hb.output, Nat.le_trans hsz k4, hfr⟩
 have z4 := (hfr wb hwl).trans hbox.1
 have z5 := rd_set (i := 2) (.slice (some ⟨g9, 0, none⟩) (l.length + 1) cap9) z4
 have z6 := rd_set (i := 1) (.int .i64 (n + 1)) z5
 have hns : NoStr WD wb := noStr_box hbox.1 hf
 have hbut : But WD.heap.size wb WD ((W4.setCell ⟨wb, 2, none⟩ (.slice (some ⟨g9, 0, none⟩) (l.length + 1) cap9)).setCell ⟨wb, 1, none⟩ (.int .i64 (n + 1))) := ((to_but hb4).setB 2 _).setB 1 _
 refine ⟨g9, cap9, W4, hrun, rd_cell z4 rfl, rd_cell z4 rfl, rd_free z4 2, rd_cell z5 rfl, rd_free z5 1, rd_cell z6 rfl, ⟨_, ⟨z6, ?_⟩, fun q hq => (hO4.blk hq).1⟩, hbut⟩
 obtain ⟨rows, r1, r2, r3, r4⟩ := hO4
 have hl1 : (l ++ [(⟨n, F, day, t.data.toList⟩ : Lt)]).length = l.length + 1 := by simp
 refine lts_own (base := WD.heap.size) (rows := rows) (own_same r1 fun q hq => ?_) r2 (fun j x xs h1 h2 => ?_) r4
 ·have := (r1.lt q hq).1
  exact (Below.heap_setCell _ _ _ _ (by show q ≠ wb; omega)).trans (Below.heap_setCell _ _ _ _ (by show q ≠ wb; omega))
 ·obtain ⟨fv, e1, e2⟩ := r3 j x xs h1 h2
  exact ⟨fv, e1, e2.but hns hbut (Nat.le_refl _)⟩
def RSetOut (w : World) (F : List Fl.Tx × Int) (e : Ending) (w' : World) : Prop := (∃ v', e = .returned (.tuple #[v', .int .i64 F.2]) ∧ Sl w' v' F.1) ∧ Below w.heap.size w w'
theorem rappend_is (wb : Nat) (vv n day : Int) (lv : Value) (l : List Lt) (fv : Value) (F : List Fl.Tx × Int) (t : ByteArray) (w : World) (h : RBox w wb vv n lv l) (hl : l.length ≤ 900) (hn : 0 ≤ n ∧ n ≤ 4000000000)
  (cS : Calls Tryz.prog 98 #[fv] w fun e w' => RSetOut w F e w') :
  Calls Tryz.prog 49 #[.pointer (some ⟨wb, 0, none⟩), fv, .int .i64 day, .string t] w fun e w' =>
   (appE F.2 n l.length day t.size ≠ 0 ∧ e = .returned (.tuple #[.int .i64 0, .int .i64 (appE F.2 n l.length day t.size)]) ∧ Below w.heap.size w w') ∨
   (appE F.2 n l.length day t.size = 0 ∧ e = .returned (.tuple #[.int .i64 n, .int .i64 0]) ∧ RBoxNew w.heap.size w' wb vv (n + 1) (l ++ [⟨n, F.1, day, t.data.toList⟩]) ∧ But w.heap.size wb w w') := by
 obtain ⟨R, hR⟩ : ∃ R, appE F.2 n l.length day t.size = R := ⟨_, rfl⟩
 rw [hR]
 unfold appE at hR
 have HBX : Hid (RBox w wb vv n lv l) := h
 have hbl := h.lt
 by_cases h1 : 2000 < t.size
 ·rw [if_pos h1] at hR
  subst hR
  have d1 : decide ((2000 : Int) < (t.size : Int)) = true := decide_eq_true (by omega)
  clear h cS
  go_enter Tryz.func49, Tryz.ntmps49
  go_wp2_with fail
  go_ret2
  exact Or.inl ⟨by decide, rfl, Below.refl _ _⟩
 rw [if_neg h1] at hR
 have d1 : decide ((2000 : Int) < (t.size : Int)) = false := decide_eq_false (by omega)
 have HR : Hid ((if F.2 ≠ 0 then F.2 else if day < 0 ∨ 2147483647 < day then 2 else if 60 ≤ l.length ∨ 2147483647 ≤ n then 12 else 0) = R) := hR
 obtain ⟨FE, hFE⟩ : ∃ z, F.2 = z := ⟨_, rfl⟩
 obtain ⟨FX, hFX⟩ : ∃ z, F.1 = z := ⟨_, rfl⟩
 have HSO : Hid (∀ e w', RSetOut w F e w' → (∃ v', e = .returned (.tuple #[v', .int .i64 FE]) ∧ Sl w' v' FX) ∧ Below w.heap.size w w') := fun e w' h => by rw [← hFE, ← hFX]; exact h
 rw [hFX]
 rw [hFE] at HR
 clear h hR
 go_enter Tryz.func49, Tryz.ntmps49
 go_wp2_with fail
 refine cS.mono ?_
 intro e w1 hout
 obtain ⟨⟨sv, rfl, hsv⟩, hb1⟩ := HSO.out e w1 hout
 have HB1 : Hid (Below w.heap.size w w1) := hb1
 obtain ⟨sa, sc, hsvf, hsr⟩ := id hsv
 clear cS hout HSO hsr
 obtain ⟨sn, hsn⟩ : ∃ z, FX.length = z := ⟨_, rfl⟩
 rw [hsn] at hsvf
 clear hsn
 subst hsvf
 by_cases hF : FE = 0
 rotate_left
 ·have hR := HR.out
  rw [if_pos hF] at hR
  subst hR
  have hFb : (FE == 0) = false := by simpa using hF
  clear HR hb1 hsv hFE
  go_wp2_with fail
  go_ret2
  exact Or.inl ⟨hF, rfl, HB1.out⟩
 have hR := HR.out
 rw [if_neg (by simpa using hF)] at hR
 subst hF
 have cD := ref_in day 0 2147483647 w1
 by_cases h2 : day < 0 ∨ 2147483647 < day
 ·rw [if_pos h2] at hR
  subst hR
  rw [decide_eq_false (by omega)] at cD
  clear HR hb1 hsv hFE
  go_wp2_with fail
  refine cD.mono ?_
  rintro e w2 ⟨rfl, hw⟩
  obtain rfl : w1 = w2 := hw.symm
  go_wp2_with fail
  go_ret2
  exact Or.inl ⟨by decide, rfl, HB1.out⟩
 rw [if_neg h2] at hR
 rw [decide_eq_true (by omega)] at cD
 obtain ⟨x1, x2⟩ := HBX.out.below hb1 (Nat.le_refl _)
 obtain ⟨a, c, rfl, hcap, hrest⟩ := id x2
 obtain ⟨m, hm⟩ : ∃ m, l.length = m := ⟨_, rfl⟩
 have HM : Hid (l.length = m) := hm
 rw [hm] at hR hl x1 x2
 have p2 : w1.cell? ⟨wb, 2, none⟩ = some (.slice a m c) := rd_cell x1 rfl
 have p1 : w1.cell? ⟨wb, 1, none⟩ = some (.int .i64 n) := rd_cell x1 rfl
 by_cases h3 : 60 ≤ m
 ·rw [if_pos (Or.inl h3)] at hR
  subst hR
  have d3 : decide ((60 : Int) ≤ (m : Int)) = true := decide_eq_true (by omega)
  have d4 : decide (60 ≤ m) = true := decide_eq_true h3
  clear HR hb1 hsv x1 x2 hcap hrest h2 hFE
  go_wp2_with fail
  refine cD.mono ?_
  rintro e w2 ⟨rfl, hw⟩
  obtain rfl : w1 = w2 := hw.symm
  go_wp2_with fail
  go_ret2
  exact Or.inl ⟨by decide, rfl, HB1.out⟩
 have d3 : decide ((60 : Int) ≤ (m : Int)) = false := decide_eq_false (by omega)
 have d4 : decide (60 ≤ m) = false := decide_eq_false h3
 by_cases h4 : 2147483647 ≤ n
 ·rw [if_pos (Or.inr h4)] at hR
  subst hR
  have d5 : decide ((2147483647 : Int) ≤ n) = true := decide_eq_true h4
  clear HR hb1 hsv x1 x2 hcap hrest h2 hFE
  go_wp2_with fail
  refine cD.mono ?_
  rintro e w2 ⟨rfl, hw⟩
  obtain rfl : w1 = w2 := hw.symm
  go_wp2_with fail
  go_ret2
  exact Or.inl ⟨by decide, rfl, HB1.out⟩
 rw [if_neg (by omega)] at hR
 subst hR
 have d5 : decide ((2147483647 : Int) ≤ n) = false := decide_eq_false h4
 obtain ⟨WD, hWD⟩ : ∃ W, w1.drew = W := ⟨_, rfl⟩
 have hbD : Below w1.heap.size w1 WD := by rw [← hWD]; exact (Below.refl _ _).drew
 have hbox : RBox WD wb vv n (.slice a m c) l := (show RBox w1 wb vv n (.slice a m c) l from ⟨x1, x2⟩).below hbD (Nat.le_refl _)
 have hsD := hsv.below hbD (Nat.le_refl _)
 have hwD := hbox.lt
 have r2 : WD.cell? ⟨wb, 2, none⟩ = some (.slice a m c) := rd_cell hbox.1 rfl
 have r1 : WD.cell? ⟨wb, 1, none⟩ = some (.int .i64 n) := rd_cell hbox.1 rfl
 have bE : Below WD.heap.size WD (WD.alloc (.cells #[] 127)) := (Below.refl _ _).alloc (Nat.le_refl _) _
 have bX : Below WD.heap.size WD (WD.alloc (.cells #[.int .i64 n, .slice sa sn sc, .int .i64 day, .string t] 127)) := (Below.refl _ _).alloc (Nat.le_refl _) _
 have eE := heap_alloc_new WD (.cells #[] 127)
 have eX := heap_alloc_new WD (.cells #[.int .i64 n, .slice sa sn sc, .int .i64 day, .string t] 127)
 have zE : (WD.alloc (.cells #[] 127)).heap.size = WD.heap.size + 1 := by simp
 have zX : (WD.alloc (.cells #[.int .i64 n, .slice sa sn sc, .int .i64 day, .string t] 127)).heap.size = WD.heap.size + 1 := by simp
 obtain ⟨WE, hWE⟩ : ∃ W, WD.alloc (.cells #[] 127) = W := ⟨_, rfl⟩
 obtain ⟨WX, hWX⟩ : ∃ W, WD.alloc (.cells #[.int .i64 n, .slice sa sn sc, .int .i64 day, .string t] 127) = W := ⟨_, rfl⟩
 rw [hWE] at bE eE zE
 rw [hWX] at bX eX zX
 have hsz1 : w.heap.size ≤ WD.heap.size := by have := hbD.size; have := HB1.out.size; omega
 have HWW : Hid (∀ W, RBoxNew WD.heap.size W wb vv (n + 1) (l ++ [⟨n, FX, day, t.data.toList⟩]) ∧ But WD.heap.size wb WD W → RBoxNew w.heap.size W wb vv (n + 1) (l ++ [⟨n, FX, day, t.data.toList⟩]) ∧ But w.heap.size wb w W) := fun W hW => by
  obtain ⟨⟨lv, h1, h2⟩, h3⟩ := hW
  exact ⟨⟨lv, h1, fun q hq => Nat.le_trans hsz1 (h2 q hq)⟩, (to_but (HB1.out.trans (hbD.mono HB1.out.size))).trans (h3.less hsz1)⟩
 -- first: the empty row, all put behind it, the new one
 obtain ⟨v1, V1, g1, o1, s1⟩ := spread (w := WE) hbox.2 (by omega) bE eE (Nat.le_refl _)
 obtain ⟨y1, j1, rfl⟩ := o1.form
 have bX1 : Below V1.heap.size V1 (V1.alloc (.cells #[.int .i64 n, .slice sa sn sc, .int .i64 day, .string t] 127)) := (Below.refl _ _).alloc (Nat.le_refl _) _
 have eX1 := heap_alloc_new V1 (.cells #[.int .i64 n, .slice sa sn sc, .int .i64 day, .string t] 127)
 obtain ⟨U1, hU1⟩ : ∃ W, V1.alloc (.cells #[.int .i64 n, .slice sa sn sc, .int .i64 day, .string t] 127) = W := ⟨_, rfl⟩
 rw [hU1] at bX1 eX1
 have hb1U : Below WD.heap.size WD U1 := (bE.trans (s1.mono (by omega))).trans (bX1.mono (by have := s1.size; omega))
 obtain ⟨ga, ca, Wa, Qa, f1a, f2a, fza, f3a, f4a, f5a, Fa⟩ := rapp_fin (W3 := U1) (nb := V1.heap.size) (day := day) (t := t) hbox ⟨_, _, _, rfl⟩ (o1.same fun q _ hq _ => bX1.block q hq) rfl (by rw [hm]; omega) hb1U hsD eX1
 -- the empty row, the new one, all put behind
 have bX2 : Below WE.heap.size WE (WE.alloc (.cells #[.int .i64 n, .slice sa sn sc, .int .i64 day, .string t] 127)) := (Below.refl _ _).alloc (Nat.le_refl _) _
 have eX2 := heap_alloc_new WE (.cells #[.int .i64 n, .slice sa sn sc, .int .i64 day, .string t] 127)
 obtain ⟨U2, hU2⟩ : ∃ W, WE.alloc (.cells #[.int .i64 n, .slice sa sn sc, .int .i64 day, .string t] 127) = W := ⟨_, rfl⟩
 rw [hU2] at bX2 eX2
 obtain ⟨v2, V2, g2, o2, s2⟩ := spread (w := U2) (g0 := WD.heap.size) hbox.2 (by omega) (bE.trans (bX2.mono (by omega))) ((bX2.block _ (by omega)).trans eE) (Nat.le_refl _)
 obtain ⟨y2, j2, rfl⟩ := o2.form
 have hb2V : Below WD.heap.size WD V2 := (bE.trans (bX2.mono (by omega))).trans (s2.mono (by have := bX2.size; omega))
 obtain ⟨gb, cb, Wb, Qb, f1b, f2b, fzb, f3b, f4b, f5b, Fb⟩ := rapp_fin (W3 := V2) (nb := WE.heap.size) (day := day) (t := t) hbox ⟨_, _, _, rfl⟩ o2 rfl (by rw [hm]; omega) hb2V hsD ((s2.block _ (by have := (Array.getElem?_eq_some_iff.1 eX2).1; omega)).trans eX2)
 -- the new one, the empty row, all put behind
 have bE3 : Below WX.heap.size WX (WX.alloc (.cells #[] 127)) := (Below.refl _ _).alloc (Nat.le_refl _) _
 have eE3 := heap_alloc_new WX (.cells #[] 127)
 obtain ⟨U3, hU3⟩ : ∃ W, WX.alloc (.cells #[] 127) = W := ⟨_, rfl⟩
 rw [hU3] at bE3 eE3
 obtain ⟨v3, V3, g3, o3, s3⟩ := spread (w := U3) (g0 := WX.heap.size) hbox.2 (by omega) (bX.trans (bE3.mono (by omega))) eE3 (by omega)
 obtain ⟨y3, j3, rfl⟩ := o3.form
 have hb3V : Below WD.heap.size WD V3 := (bX.trans (bE3.mono (by omega))).trans (s3.mono (by have := bE3.size; omega))
 obtain ⟨gc, cc, Wc, Qc, f1c, f2c, fzc, f3c, f4c, f5c, Fc⟩ := rapp_fin (W3 := V3) (nb := WD.heap.size) (day := day) (t := t) hbox ⟨_, _, _, rfl⟩ o3 rfl (by rw [hm]; omega) hb3V hsD ((s3.block _ (by have := bE3.size; omega)).trans ((bE3.block _ (by omega)).trans eX))
 rw [hm] at g1 g2 g3 Qa Qb Qc f3a f4a f5a Fa f3b f4b f5b Fb f3c f4c f5c Fc
 have R1 : Hid _ := g1
 have R2 : Hid _ := g2
 have R3 : Hid _ := g3
 have Q1 : Hid _ := Qa
 have Q2 : Hid _ := Qb
 have Q3 : Hid _ := Qc
 have F1 : Hid _ := HWW.out _ Fa.out
 have F2 : Hid _ := HWW.out _ Fb.out
 have F3 : Hid _ := HWW.out _ Fc.out
 have HBX1 : Hid (Below w1.heap.size w1 WD) := hbD
 have k1E : WE.cell? ⟨wb, 1, none⟩ = some (.int .i64 n) := (bE.cell (p := ⟨wb, 1, none⟩) hwD).trans r1
 have k2E : WE.cell? ⟨wb, 2, none⟩ = some (.slice a m c) := (bE.cell (p := ⟨wb, 2, none⟩) hwD).trans r2
 have k1X : WX.cell? ⟨wb, 1, none⟩ = some (.int .i64 n) := (bX.cell (p := ⟨wb, 1, none⟩) hwD).trans r1
 have k2X : WX.cell? ⟨wb, 2, none⟩ = some (.slice a m c) := (bX.cell (p := ⟨wb, 2, none⟩) hwD).trans r2
 have k1V : V1.cell? ⟨wb, 1, none⟩ = some (.int .i64 n) := (s1.cell (p := ⟨wb, 1, none⟩) (by show wb < _; omega)).trans k1E
 have k1U : U1.cell? ⟨wb, 1, none⟩ = some (.int .i64 n) := (hb1U.cell (p := ⟨wb, 1, none⟩) hwD).trans r1
 have k1U2 : U2.cell? ⟨wb, 1, none⟩ = some (.int .i64 n) := (bX2.cell (p := ⟨wb, 1, none⟩) (by show wb < _; omega)).trans k1E
 have k2U2 : U2.cell? ⟨wb, 2, none⟩ = some (.slice a m c) := (bX2.cell (p := ⟨wb, 2, none⟩) (by show wb < _; omega)).trans k2E
 have k1U3 : U3.cell? ⟨wb, 1, none⟩ = some (.int .i64 n) := (bE3.cell (p := ⟨wb, 1, none⟩) (by show wb < _; omega)).trans k1X
 have k2U3 : U3.cell? ⟨wb, 2, none⟩ = some (.slice a m c) := (bE3.cell (p := ⟨wb, 2, none⟩) (by show wb < _; omega)).trans k2X
 have k1V2 : V2.cell? ⟨wb, 1, none⟩ = some (.int .i64 n) := (hb2V.cell (p := ⟨wb, 1, none⟩) hwD).trans r1
 have k1V3 : V3.cell? ⟨wb, 1, none⟩ = some (.int .i64 n) := (hb3V.cell (p := ⟨wb, 1, none⟩) hwD).trans r1
 clear HR hb1 hsv x1 x2 hcap hrest h2 hFE hFX hbD hbox hsD bE bX eE eX zE zX HWW g1 g2 g3 Qa Qb Qc Fa Fb Fc o1 o2 o3 s1 s2 s3 bX1 bX2 bE3 eX1 eX2 eE3 hb1U hb2V hb3V hm HBX hsz1
 go_wp2_with fail
 refine cD.mono ?_
 rintro e w2 ⟨rfl, hw⟩
 obtain rfl : w1 = w2 := hw.symm
 clear cD hw
 go_upto_region 10 with fail
 refine wp_region_held_drew (S := fun W => W.cell? ⟨wb, 1, none⟩ = some (.int .i64 n)) (by kernel_rfl) ?_ (fun hHeld => ?_)
 ·simpa using p1
 rw [hWD] at hHeld ⊢
 refine wpAnyH_take (i := 0) (v := ?_) rfl (by kernel_rfl) (by kernel_rfl) (by kernel_rfl) (fun _ _ _ h => h) (Or.inl ⟨by rfl, ?_⟩) (by assumption) ?_
 rotate_left
 ·intro w hSw; go_simp; (try with_reducible rfl)
 change wpAnyH _ _ _ _ _ _ _ (Act.put _ (some 39) _) _; simp only [Act.put, List.setIfInBounds_toArray, List.set_cons_zero, List.set_cons_succ]
 refine wpAnyH_take (i := 2) (v := ?_) rfl (by kernel_rfl) (by kernel_rfl) (by kernel_rfl) (fun _ _ _ h => h) (Or.inl ⟨by rfl, ?_⟩) (by assumption) ?_
 rotate_left
 ·intro w hSw; go_simp; (try with_reducible rfl)
 change wpAnyH _ _ _ _ _ _ _ (Act.put _ (some 41) _) _; simp only [Act.put, List.setIfInBounds_toArray, List.set_cons_zero, List.set_cons_succ]
 refine wpAnyH_take (i := 3) (v := ?_) rfl (by kernel_rfl) (by kernel_rfl) (by kernel_rfl) (fun _ _ _ h => h) (Or.inl ⟨by rfl, ?_⟩) (by assumption) ?_
 rotate_left
 ·intro w hSw; go_simp; (try with_reducible rfl)
 change wpAnyH _ _ _ _ _ _ _ (Act.put _ (some 42) _) _; simp only [Act.put, List.setIfInBounds_toArray, List.set_cons_zero, List.set_cons_succ]
 refine wpAnyH_take (i := 4) (v := ?_) rfl (by kernel_rfl) (by kernel_rfl) (by kernel_rfl) (fun _ _ _ h => h) (Or.inl ⟨by rfl, ?_⟩) (by assumption) ?_
 rotate_left
 ·intro w hSw; go_simp; (try with_reducible rfl)
 change wpAnyH _ _ _ _ _ _ _ (Act.put _ (some 43) _) _; simp only [Act.put, List.setIfInBounds_toArray, List.set_cons_zero, List.set_cons_succ]
 refine wpAnyH_take (i := 7) (v := ?_) rfl (by kernel_rfl) (by kernel_rfl) (by kernel_rfl) (fun _ _ _ h => h) (Or.inl ⟨by rfl, ?_⟩) (by assumption) ?_
 rotate_left
 ·intro w hSw; go_simp; (try with_reducible rfl)
 change wpAnyH _ _ _ _ _ _ _ (Act.put _ (some 46) _) _; simp only [Act.put, List.setIfInBounds_toArray, List.set_cons_zero, List.set_cons_succ]
 refine wpAnyH_take (i := 8) (v := ?_) rfl (by kernel_rfl) (by kernel_rfl) (by kernel_rfl) (fun _ _ _ h => h) (Or.inl ⟨by rfl, ?_⟩) (by assumption) ?_
 rotate_left
 ·intro w hSw; go_simp; (try with_reducible rfl)
 change wpAnyH _ _ _ _ _ _ _ (Act.put _ (some 47) _) _; simp only [Act.put, List.setIfInBounds_toArray, List.set_cons_zero, List.set_cons_succ]
 refine wpAnyH_take (i := 9) (v := ?_) rfl (by kernel_rfl) (by kernel_rfl) (by kernel_rfl) (fun _ _ _ h => h) (Or.inl ⟨by rfl, ?_⟩) (by assumption) ?_
 rotate_left
 ·intro w hSw; go_simp; (try with_reducible rfl)
 change wpAnyH _ _ _ _ _ _ _ (Act.put _ (some 48) _) _; simp only [Act.put, List.setIfInBounds_toArray, List.set_cons_zero, List.set_cons_succ]
 refine wpAnyH_take (i := 10) (v := ?_) rfl (by kernel_rfl) (by kernel_rfl) (by kernel_rfl) (fun _ _ _ h => h) (Or.inl ⟨by rfl, ?_⟩) (by assumption) ?_
 rotate_left
 ·intro w hSw; go_simp; (try with_reducible rfl)
 change wpAnyH _ _ _ _ _ _ _ (Act.put _ (some 49) _) _; simp only [Act.put, List.setIfInBounds_toArray, List.set_cons_zero, List.set_cons_succ]
 refine wpAnyH_take (i := 11) (v := ?_) rfl (by kernel_rfl) (by kernel_rfl) (by kernel_rfl) (fun _ _ _ h => h) (Or.inl ⟨by rfl, ?_⟩) (by assumption) ?_
 rotate_left
 ·intro w hSw; go_simp; (try with_reducible rfl)
 change wpAnyH _ _ _ _ _ _ _ (Act.put _ (some 50) _) _; simp only [Act.put, List.setIfInBounds_toArray, List.set_cons_zero, List.set_cons_succ]
 refine wpAnyH_take (i := 12) (v := ?_) rfl (by kernel_rfl) (by kernel_rfl) (by kernel_rfl) (fun _ _ _ h => h) (Or.inl ⟨by rfl, ?_⟩) (by assumption) ?_
 rotate_left
 ·intro w hSw; go_simp; (try with_reducible rfl)
 change wpAnyH _ _ _ _ _ _ _ (Act.put _ (some 51) _) _; simp only [Act.put, List.setIfInBounds_toArray, List.set_cons_zero, List.set_cons_succ]
 refine wpAnyH_take (i := 13) (v := ?_) rfl (by kernel_rfl) (by kernel_rfl) (by kernel_rfl) (fun _ _ _ h => h) (Or.inl ⟨by rfl, ?_⟩) (by assumption) ?_
 rotate_left
 ·intro w hSw; go_simp; (try with_reducible rfl)
 change wpAnyH _ _ _ _ _ _ _ (Act.put _ (some 52) _) _; simp only [Act.put, List.setIfInBounds_toArray, List.set_cons_zero, List.set_cons_succ]
 refine wpAnyH_take (i := 14) (v := ?_) rfl (by kernel_rfl) (by kernel_rfl) (by kernel_rfl) (fun _ _ _ h => h) (Or.inl ⟨by rfl, ?_⟩) (by assumption) ?_
 rotate_left
 ·intro w hSw; go_simp; (try with_reducible rfl)
 change wpAnyH _ _ _ _ _ _ _ (Act.put _ (some 53) _) _; simp only [Act.put, List.setIfInBounds_toArray, List.set_cons_zero, List.set_cons_succ]
 refine wpAnyH_ready (rs := [1, 5, 15]) (by kernel_rfl) (by simp) ?_
 refine AllReadyH.cons rfl (fun K hK => ?_) ?_
 ·go_simp
  refine hK.out _ _ ?_ (fun hHeld => ?_)
  ·with_reducible assumption
  clear hK K
  refine wpAnyH_ready (rs := [5, 15]) (by kernel_rfl) (by simp) ?_
  refine AllReadyH.cons rfl (fun K hK => ?_) ?_
  ·go_simp
   refine hK.out _ _ ?_ (fun hHeld => ?_)
   ·with_reducible assumption
   clear hK K
   refine wpAnyH_ready (rs := [6, 15]) (by kernel_rfl) (by simp) ?_
   refine AllReadyH.cons rfl (fun K hK => ?_) ?_
   ·refine step_app rfl (.tmp 40) (.tmp 44) 70 rfl _ _ _ rfl rfl R1.out ?_
    refine hK.out _ _ ?_ (fun hHeld => ?_)
    ·with_reducible assumption
    clear hK K
    refine wpAnyH_ready (rs := [15]) (by kernel_rfl) (by simp) ?_
    refine AllReadyH.cons rfl (fun K hK => ?_) AllReadyH.nil
    go_simp
    refine hK.out _ _ ?_ (fun hHeld => ?_)
    ·with_reducible assumption
    clear hK K
    refine wpAnyH_ready (rs := [16]) (by kernel_rfl) (by simp) ?_
    refine AllReadyH.cons rfl (fun K hK => ?_) AllReadyH.nil
    refine step_app rfl (.tmp 45) (.tmp 54) 70 rfl _ _ _ rfl rfl Q1.out ?_
    refine hK.out _ _ ?_ (fun hHeld => ?_)
    ·with_reducible assumption
    clear hK K
    refine wpAnyH_take (i := 17) (v := ?_) rfl (by kernel_rfl) (by kernel_rfl) (by kernel_rfl) (fun _ _ _ h => h) (Or.inl ⟨by rfl, ?_⟩) (by assumption) ?_
    rotate_left
    ·intro w hSw; go_simp; (try with_reducible rfl)
    refine wpAnyH_take (i := 18) (v := ?_) rfl (by kernel_rfl) (by kernel_rfl) (by kernel_rfl) (fun _ _ _ h => h) (Or.inl ⟨by rfl, ?_⟩) (by assumption) ?_
    rotate_left
    ·intro w hSw; go_simp; (try with_reducible rfl)
    refine wpAnyH_ready (rs := [19]) (by kernel_rfl) (by simp) ?_
    refine AllReadyH.cons rfl (fun K hK => ?_) AllReadyH.nil
    go_simp
    refine hK.out _ _ ?_ (fun hHeld => ?_)
    ·with_reducible assumption
    clear hK K
    refine wpAnyH_done (by kernel_rfl) ?_ _
    clear hHeld
    go_wp2_with fail
    go_ret2
    exact ⟨rfl, F1.out⟩
   refine AllReadyH.cons rfl (fun K hK => ?_) AllReadyH.nil
   go_simp
   refine hK.out _ _ ?_ (fun hHeld => ?_)
   ·with_reducible assumption
   clear hK K
   refine wpAnyH_ready (rs := [6]) (by kernel_rfl) (by simp) ?_
   refine AllReadyH.cons rfl (fun K hK => ?_) AllReadyH.nil
   refine step_app rfl (.tmp 40) (.tmp 44) 70 rfl _ _ _ rfl rfl R2.out ?_
   refine hK.out _ _ ?_ (fun hHeld => ?_)
   ·with_reducible assumption
   clear hK K
   refine wpAnyH_ready (rs := [16]) (by kernel_rfl) (by simp) ?_
   refine AllReadyH.cons rfl (fun K hK => ?_) AllReadyH.nil
   refine step_app rfl (.tmp 45) (.tmp 54) 70 rfl _ _ _ rfl rfl Q2.out ?_
   refine hK.out _ _ ?_ (fun hHeld => ?_)
   ·with_reducible assumption
   clear hK K
   refine wpAnyH_take (i := 17) (v := ?_) rfl (by kernel_rfl) (by kernel_rfl) (by kernel_rfl) (fun _ _ _ h => h) (Or.inl ⟨by rfl, ?_⟩) (by assumption) ?_
   rotate_left
   ·intro w hSw; go_simp; (try with_reducible rfl)
   refine wpAnyH_take (i := 18) (v := ?_) rfl (by kernel_rfl) (by kernel_rfl) (by kernel_rfl) (fun _ _ _ h => h) (Or.inl ⟨by rfl, ?_⟩) (by assumption) ?_
   rotate_left
   ·intro w hSw; go_simp; (try with_reducible rfl)
   refine wpAnyH_ready (rs := [19]) (by kernel_rfl) (by simp) ?_
   refine AllReadyH.cons rfl (fun K hK => ?_) AllReadyH.nil
   go_simp
   refine hK.out _ _ ?_ (fun hHeld => ?_)
   ·with_reducible assumption
   clear hK K
   refine wpAnyH_done (by kernel_rfl) ?_ _
   clear hHeld
   go_wp2_with fail
   go_ret2
   exact ⟨rfl, F2.out⟩
  refine AllReadyH.cons rfl (fun K hK => ?_) AllReadyH.nil
  go_simp
  refine hK.out _ _ ?_ (fun hHeld => ?_)
  ·with_reducible assumption
  clear hK K
  refine wpAnyH_ready (rs := [5]) (by kernel_rfl) (by simp) ?_
  refine AllReadyH.cons rfl (fun K hK => ?_) AllReadyH.nil
  go_simp
  refine hK.out _ _ ?_ (fun hHeld => ?_)
  ·with_reducible assumption
  clear hK K
  refine wpAnyH_ready (rs := [6]) (by kernel_rfl) (by simp) ?_
  refine AllReadyH.cons rfl (fun K hK => ?_) AllReadyH.nil
  refine step_app rfl (.tmp 40) (.tmp 44) 70 rfl _ _ _ rfl rfl R2.out ?_
  refine hK.out _ _ ?_ (fun hHeld => ?_)
  ·with_reducible assumption
  clear hK K
  refine wpAnyH_ready (rs := [16]) (by kernel_rfl) (by simp) ?_
  refine AllReadyH.cons rfl (fun K hK => ?_) AllReadyH.nil
  refine step_app rfl (.tmp 45) (.tmp 54) 70 rfl _ _ _ rfl rfl Q2.out ?_
  refine hK.out _ _ ?_ (fun hHeld => ?_)
  ·with_reducible assumption
  clear hK K
  refine wpAnyH_take (i := 17) (v := ?_) rfl (by kernel_rfl) (by kernel_rfl) (by kernel_rfl) (fun _ _ _ h => h) (Or.inl ⟨by rfl, ?_⟩) (by assumption) ?_
  rotate_left
  ·intro w hSw; go_simp; (try with_reducible rfl)
  refine wpAnyH_take (i := 18) (v := ?_) rfl (by kernel_rfl) (by kernel_rfl) (by kernel_rfl) (fun _ _ _ h => h) (Or.inl ⟨by rfl, ?_⟩) (by assumption) ?_
  rotate_left
  ·intro w hSw; go_simp; (try with_reducible rfl)
  refine wpAnyH_ready (rs := [19]) (by kernel_rfl) (by simp) ?_
  refine AllReadyH.cons rfl (fun K hK => ?_) AllReadyH.nil
  go_simp
  refine hK.out _ _ ?_ (fun hHeld => ?_)
  ·with_reducible assumption
  clear hK K
  refine wpAnyH_done (by kernel_rfl) ?_ _
  clear hHeld
  go_wp2_with fail
  go_ret2
  exact ⟨rfl, F2.out⟩
 refine AllReadyH.cons rfl (fun K hK => ?_) ?_
 ·go_simp
  refine hK.out _ _ ?_ (fun hHeld => ?_)
  ·with_reducible assumption
  clear hK K
  refine wpAnyH_ready (rs := [1, 15]) (by kernel_rfl) (by simp) ?_
  refine AllReadyH.cons rfl (fun K hK => ?_) ?_
  ·go_simp
   refine hK.out _ _ ?_ (fun hHeld => ?_)
   ·with_reducible assumption
   clear hK K
   refine wpAnyH_ready (rs := [6, 15]) (by kernel_rfl) (by simp) ?_
   refine AllReadyH.cons rfl (fun K hK => ?_) ?_
   ·refine step_app rfl (.tmp 40) (.tmp 44) 70 rfl _ _ _ rfl rfl R1.out ?_
    refine hK.out _ _ ?_ (fun hHeld => ?_)
    ·with_reducible assumption
    clear hK K
    refine wpAnyH_ready (rs := [15]) (by kernel_rfl) (by simp) ?_
    refine AllReadyH.cons rfl (fun K hK => ?_) AllReadyH.nil
    go_simp
    refine hK.out _ _ ?_ (fun hHeld => ?_)
    ·with_reducible assumption
    clear hK K
    refine wpAnyH_ready (rs := [16]) (by kernel_rfl) (by simp) ?_
    refine AllReadyH.cons rfl (fun K hK => ?_) AllReadyH.nil
    refine step_app rfl (.tmp 45) (.tmp 54) 70 rfl _ _ _ rfl rfl Q1.out ?_
    refine hK.out _ _ ?_ (fun hHeld => ?_)
    ·with_reducible assumption
    clear hK K
    refine wpAnyH_take (i := 17) (v := ?_) rfl (by kernel_rfl) (by kernel_rfl) (by kernel_rfl) (fun _ _ _ h => h) (Or.inl ⟨by rfl, ?_⟩) (by assumption) ?_
    rotate_left
    ·intro w hSw; go_simp; (try with_reducible rfl)
    refine wpAnyH_take (i := 18) (v := ?_) rfl (by kernel_rfl) (by kernel_rfl) (by kernel_rfl) (fun _ _ _ h => h) (Or.inl ⟨by rfl, ?_⟩) (by assumption) ?_
    rotate_left
    ·intro w hSw; go_simp; (try with_reducible rfl)
    refine wpAnyH_ready (rs := [19]) (by kernel_rfl) (by simp) ?_
    refine AllReadyH.cons rfl (fun K hK => ?_) AllReadyH.nil
    go_simp
    refine hK.out _ _ ?_ (fun hHeld => ?_)
    ·with_reducible assumption
    clear hK K
    refine wpAnyH_done (by kernel_rfl) ?_ _
    clear hHeld
    go_wp2_with fail
    go_ret2
    exact ⟨rfl, F1.out⟩
   refine AllReadyH.cons rfl (fun K hK => ?_) AllReadyH.nil
   go_simp
   refine hK.out _ _ ?_ (fun hHeld => ?_)
   ·with_reducible assumption
   clear hK K
   refine wpAnyH_ready (rs := [6]) (by kernel_rfl) (by simp) ?_
   refine AllReadyH.cons rfl (fun K hK => ?_) AllReadyH.nil
   refine step_app rfl (.tmp 40) (.tmp 44) 70 rfl _ _ _ rfl rfl R2.out ?_
   refine hK.out _ _ ?_ (fun hHeld => ?_)
   ·with_reducible assumption
   clear hK K
   refine wpAnyH_ready (rs := [16]) (by kernel_rfl) (by simp) ?_
   refine AllReadyH.cons rfl (fun K hK => ?_) AllReadyH.nil
   refine step_app rfl (.tmp 45) (.tmp 54) 70 rfl _ _ _ rfl rfl Q2.out ?_
   refine hK.out _ _ ?_ (fun hHeld => ?_)
   ·with_reducible assumption
   clear hK K
   refine wpAnyH_take (i := 17) (v := ?_) rfl (by kernel_rfl) (by kernel_rfl) (by kernel_rfl) (fun _ _ _ h => h) (Or.inl ⟨by rfl, ?_⟩) (by assumption) ?_
   rotate_left
   ·intro w hSw; go_simp; (try with_reducible rfl)
   refine wpAnyH_take (i := 18) (v := ?_) rfl (by kernel_rfl) (by kernel_rfl) (by kernel_rfl) (fun _ _ _ h => h) (Or.inl ⟨by rfl, ?_⟩) (by assumption) ?_
   rotate_left
   ·intro w hSw; go_simp; (try with_reducible rfl)
   refine wpAnyH_ready (rs := [19]) (by kernel_rfl) (by simp) ?_
   refine AllReadyH.cons rfl (fun K hK => ?_) AllReadyH.nil
   go_simp
   refine hK.out _ _ ?_ (fun hHeld => ?_)
   ·with_reducible assumption
   clear hK K
   refine wpAnyH_done (by kernel_rfl) ?_ _
   clear hHeld
   go_wp2_with fail
   go_ret2
   exact ⟨rfl, F2.out⟩
  refine AllReadyH.cons rfl (fun K hK => ?_) AllReadyH.nil
  go_simp
  refine hK.out _ _ ?_ (fun hHeld => ?_)
  ·with_reducible assumption
  clear hK K
  refine wpAnyH_ready (rs := [1]) (by kernel_rfl) (by simp) ?_
  refine AllReadyH.cons rfl (fun K hK => ?_) AllReadyH.nil
  go_simp
  refine hK.out _ _ ?_ (fun hHeld => ?_)
  ·with_reducible assumption
  clear hK K
  refine wpAnyH_ready (rs := [6]) (by kernel_rfl) (by simp) ?_
  refine AllReadyH.cons rfl (fun K hK => ?_) AllReadyH.nil
  refine step_app rfl (.tmp 40) (.tmp 44) 70 rfl _ _ _ rfl rfl R3.out ?_
  refine hK.out _ _ ?_ (fun hHeld => ?_)
  ·with_reducible assumption
  clear hK K
  refine wpAnyH_ready (rs := [16]) (by kernel_rfl) (by simp) ?_
  refine AllReadyH.cons rfl (fun K hK => ?_) AllReadyH.nil
  refine step_app rfl (.tmp 45) (.tmp 54) 70 rfl _ _ _ rfl rfl Q3.out ?_
  refine hK.out _ _ ?_ (fun hHeld => ?_)
  ·with_reducible assumption
  clear hK K
  refine wpAnyH_take (i := 17) (v := ?_) rfl (by kernel_rfl) (by kernel_rfl) (by kernel_rfl) (fun _ _ _ h => h) (Or.inl ⟨by rfl, ?_⟩) (by assumption) ?_
  rotate_left
  ·intro w hSw; go_simp; (try with_reducible rfl)
  refine wpAnyH_take (i := 18) (v := ?_) rfl (by kernel_rfl) (by kernel_rfl) (by kernel_rfl) (fun _ _ _ h => h) (Or.inl ⟨by rfl, ?_⟩) (by assumption) ?_
  rotate_left
  ·intro w hSw; go_simp; (try with_reducible rfl)
  refine wpAnyH_ready (rs := [19]) (by kernel_rfl) (by simp) ?_
  refine AllReadyH.cons rfl (fun K hK => ?_) AllReadyH.nil
  go_simp
  refine hK.out _ _ ?_ (fun hHeld => ?_)
  ·with_reducible assumption
  clear hK K
  refine wpAnyH_done (by kernel_rfl) ?_ _
  clear hHeld
  go_wp2_with fail
  go_ret2
  exact ⟨rfl, F3.out⟩
 refine AllReadyH.cons rfl (fun K hK => ?_) AllReadyH.nil
 go_simp
 refine hK.out _ _ ?_ (fun hHeld => ?_)
 ·with_reducible assumption
 clear hK K
 refine wpAnyH_ready (rs := [1, 5]) (by kernel_rfl) (by simp) ?_
 refine AllReadyH.cons rfl (fun K hK => ?_) ?_
 ·go_simp
  refine hK.out _ _ ?_ (fun hHeld => ?_)
  ·with_reducible assumption
  clear hK K
  refine wpAnyH_ready (rs := [5]) (by kernel_rfl) (by simp) ?_
  refine AllReadyH.cons rfl (fun K hK => ?_) AllReadyH.nil
  go_simp
  refine hK.out _ _ ?_ (fun hHeld => ?_)
  ·with_reducible assumption
  clear hK K
  refine wpAnyH_ready (rs := [6]) (by kernel_rfl) (by simp) ?_
  refine AllReadyH.cons rfl (fun K hK => ?_) AllReadyH.nil
  refine step_app rfl (.tmp 40) (.tmp 44) 70 rfl _ _ _ rfl rfl R3.out ?_
  refine hK.out _ _ ?_ (fun hHeld => ?_)
  ·with_reducible assumption
  clear hK K
  refine wpAnyH_ready (rs := [16]) (by kernel_rfl) (by simp) ?_
  refine AllReadyH.cons rfl (fun K hK => ?_) AllReadyH.nil
  refine step_app rfl (.tmp 45) (.tmp 54) 70 rfl _ _ _ rfl rfl Q3.out ?_
  refine hK.out _ _ ?_ (fun hHeld => ?_)
  ·with_reducible assumption
  clear hK K
  refine wpAnyH_take (i := 17) (v := ?_) rfl (by kernel_rfl) (by kernel_rfl) (by kernel_rfl) (fun _ _ _ h => h) (Or.inl ⟨by rfl, ?_⟩) (by assumption) ?_
  rotate_left
  ·intro w hSw; go_simp; (try with_reducible rfl)
  refine wpAnyH_take (i := 18) (v := ?_) rfl (by kernel_rfl) (by kernel_rfl) (by kernel_rfl) (fun _ _ _ h => h) (Or.inl ⟨by rfl, ?_⟩) (by assumption) ?_
  rotate_left
  ·intro w hSw; go_simp; (try with_reducible rfl)
  refine wpAnyH_ready (rs := [19]) (by kernel_rfl) (by simp) ?_
  refine AllReadyH.cons rfl (fun K hK => ?_) AllReadyH.nil
  go_simp
  refine hK.out _ _ ?_ (fun hHeld => ?_)
  ·with_reducible assumption
  clear hK K
  refine wpAnyH_done (by kernel_rfl) ?_ _
  clear hHeld
  go_wp2_with fail
  go_ret2
  exact ⟨rfl, F3.out⟩
 refine AllReadyH.cons rfl (fun K hK => ?_) AllReadyH.nil
 go_simp
 refine hK.out _ _ ?_ (fun hHeld => ?_)
 ·with_reducible assumption
 clear hK K
 refine wpAnyH_ready (rs := [1]) (by kernel_rfl) (by simp) ?_
 refine AllReadyH.cons rfl (fun K hK => ?_) AllReadyH.nil
 go_simp
 refine hK.out _ _ ?_ (fun hHeld => ?_)
 ·with_reducible assumption
 clear hK K
 refine wpAnyH_ready (rs := [6]) (by kernel_rfl) (by simp) ?_
 refine AllReadyH.cons rfl (fun K hK => ?_) AllReadyH.nil
 refine step_app rfl (.tmp 40) (.tmp 44) 70 rfl _ _ _ rfl rfl R3.out ?_
 refine hK.out _ _ ?_ (fun hHeld => ?_)
 ·with_reducible assumption
 clear hK K
 refine wpAnyH_ready (rs := [16]) (by kernel_rfl) (by simp) ?_
 refine AllReadyH.cons rfl (fun K hK => ?_) AllReadyH.nil
 refine step_app rfl (.tmp 45) (.tmp 54) 70 rfl _ _ _ rfl rfl Q3.out ?_
 refine hK.out _ _ ?_ (fun hHeld => ?_)
 ·with_reducible assumption
 clear hK K
 refine wpAnyH_take (i := 17) (v := ?_) rfl (by kernel_rfl) (by kernel_rfl) (by kernel_rfl) (fun _ _ _ h => h) (Or.inl ⟨by rfl, ?_⟩) (by assumption) ?_
 rotate_left
 ·intro w hSw; go_simp; (try with_reducible rfl)
 refine wpAnyH_take (i := 18) (v := ?_) rfl (by kernel_rfl) (by kernel_rfl) (by kernel_rfl) (fun _ _ _ h => h) (Or.inl ⟨by rfl, ?_⟩) (by assumption) ?_
 rotate_left
 ·intro w hSw; go_simp; (try with_reducible rfl)
 refine wpAnyH_ready (rs := [19]) (by kernel_rfl) (by simp) ?_
 refine AllReadyH.cons rfl (fun K hK => ?_) AllReadyH.nil
 go_simp
 refine hK.out _ _ ?_ (fun hHeld => ?_)
 ·with_reducible assumption
 clear hK K
 refine wpAnyH_done (by kernel_rfl) ?_ _
 clear hHeld
 go_wp2_with fail
 go_ret2
 exact ⟨rfl, F3.out⟩
end Go.Proofs.YtfdlopimncodcaaGreatDoor
