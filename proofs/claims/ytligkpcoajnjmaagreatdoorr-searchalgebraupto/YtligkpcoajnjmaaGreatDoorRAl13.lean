/-
  What field of package search does.
  What a reader of package search tells, in memory; what list does, by what keys does.
  Keys in a row that grows.
-/
import Derived.Test.YtligkpcoajnjmaaGreatDoorRAl09
import Derived.Test.YtligkpcoajnjmaaGreatDoorRAl08
namespace Go.Proofs.YtligkpcoajnjmaaGreatDoorR
open Go.RowKit Go.Proofs.Aid Go.Proofs.Sq Go.Proofs.Hd

theorem RdS.kept {w w' : World} {rb c : Nat} {v : Value} (h : RdS w rb v c) (hb : w'.heap[rb]? = w.heap[rb]?) : RdS w' rb v c := hb.trans h
set_option maxHeartbeats 2000000 in
set_option maxRecDepth 100000 in
theorem field_bad (name : ByteArray) (rb c B : Nat) (l : List Sr.Ar) (v : Value) (Ok : Nat → Prop) (w : World) (hn : name.size ≤ 2000000) (hr : RdS w rb v c) (hl : Ags w Ok B l v) (hrb : rb < w.heap.size) (h : Sr.wordF l c = .bad 3) :
    Calls Tryz.prog 154 #[.pointer (some ⟨rb, 0, none⟩), .string name] w fun e w' => e = thrown 3 ∧ Below w.heap.size w w' := by
  have b1 : Below w.heap.size w (w.alloc (.cells #[.int .i64 0, .string ⟨#[]⟩, .string ⟨#[]⟩, .int .i64 0, .slice none 0 0, .slice none 0 0] 33)) := (Below.refl _ _).alloc (Nat.le_refl _) _
  obtain ⟨W1, hW1⟩ : ∃ W, w.alloc (.cells #[.int .i64 0, .string ⟨#[]⟩, .string ⟨#[]⟩, .int .i64 0, .slice none 0 0, .slice none 0 0] 33) = W := ⟨_, rfl⟩
  rw [hW1] at b1
  have cS := small_is name W1 hn
  obtain ⟨nb, hnb⟩ : ∃ nb : ByteArray, ⟨(small name.data.toList).toArray⟩ = nb := ⟨_, rfl⟩
  rw [hnb] at cS
  have HB1 : Hid (Below w.heap.size w W1) := b1
  have HR : Hid (∀ W, Below w.heap.size w W → RdS W rb v c ∧ Ags W Ok B l v) := fun W hb => ⟨hr.kept (hb.block rb hrb), hl.kept fun k hk hlt => ⟨hk, hb.block k hlt⟩⟩
  clear b1 hnb hr hl
  go_enter Tryz.func154, Tryz.ntmps154
  go_wp2_with fail
  refine cS.mono ?_
  rintro e w2 ⟨rfl, hb2⟩
  have hb := HB1.out.trans (hb2.mono HB1.out.size)
  have HB : Hid (Below w.heap.size w w2) := hb
  have cW := word_bad rb c B l v Ok w2 (HR.out w2 hb).1 (HR.out w2 hb).2 h
  unfold thrown at cW
  clear hb hb2 cS
  go_wp2_with fail
  refine cW.mono ?_
  rintro e w3 ⟨rfl, hw3⟩
  obtain rfl : w2 = w3 := hw3.symm
  go_wp2_with fail
  exact ⟨rfl, rfl, HB.out⟩
set_option maxHeartbeats 2000000 in
set_option maxRecDepth 100000 in
theorem field_ok (name : ByteArray) (rb c B : Nat) (x : Sr.Ar) (l : List Sr.Ar) (v : Value) (Ok : Nat → Prop) (w : World) (hn : name.size ≤ 2000000) (hr : RdS w rb v c) (hl : Ags w Ok B (x :: l) v) (hrb : rb < w.heap.size) (hO : ∀ k, Ok k → k ≠ rb ∧ k < w.heap.size) (hk : x.kind ≠ 3) :
    Calls Tryz.prog 154 #[.pointer (some ⟨rb, 0, none⟩), .string name] w fun e w' => ∃ ys v', e = .returned (.agg ys.toArray) ∧ Kx w' (fun _ => False) (.mk 3 (small name.data.toList) x.text 0 [] []) ys ∧ RdS w' rb v' c ∧ Ags w' Ok B l v' ∧ But w.heap.size rb w w' := by
  have b1 : Below w.heap.size w (w.alloc (.cells #[.int .i64 0, .string ⟨#[]⟩, .string ⟨#[]⟩, .int .i64 0, .slice none 0 0, .slice none 0 0] 33)) := (Below.refl _ _).alloc (Nat.le_refl _) _
  have e1 := heap_alloc_new w (.cells #[.int .i64 0, .string ⟨#[]⟩, .string ⟨#[]⟩, .int .i64 0, .slice none 0 0, .slice none 0 0] 33)
  obtain ⟨W1, hW1⟩ : ∃ W, w.alloc (.cells #[.int .i64 0, .string ⟨#[]⟩, .string ⟨#[]⟩, .int .i64 0, .slice none 0 0, .slice none 0 0] 33) = W := ⟨_, rfl⟩
  have z1 : W1.heap.size = w.heap.size + 1 := by rw [← hW1]; simp
  rw [hW1] at b1 e1
  have cS := small_is name W1 hn
  obtain ⟨nb, hnb⟩ : ∃ nb : ByteArray, ⟨(small name.data.toList).toArray⟩ = nb := ⟨_, rfl⟩
  rw [hnb] at cS
  have hnl : nb.data.toList = small name.data.toList := by rw [← hnb]
  have HN : Hid (nb.data.toList = small name.data.toList) := hnl
  have HB1 : Hid (Below w.heap.size w W1) := b1
  have HE1 : Hid (W1.heap[w.heap.size]? = some (.cells #[.int .i64 0, .string ⟨#[]⟩, .string ⟨#[]⟩, .int .i64 0, .slice none 0 0, .slice none 0 0] 33 (0, 0))) := e1
  have HR : Hid (∀ W, Below w.heap.size w W → RdS W rb v c ∧ Ags W Ok B (x :: l) v) := fun W hb => ⟨hr.kept (hb.block rb hrb), hl.kept fun k hk hlt => ⟨hk, hb.block k hlt⟩⟩
  have HO : Hid (∀ k, Ok k → k ≠ rb ∧ k < w.heap.size) := hO
  clear b1 e1 hnb hnl hr hl hO
  go_enter Tryz.func154, Tryz.ntmps154
  go_wp2_with fail
  refine cS.mono ?_
  rintro e w2 ⟨rfl, hb2⟩
  have hb := HB1.out.trans (hb2.mono HB1.out.size)
  have hE2 := (hb2.block w.heap.size (by omega)).trans HE1.out
  have hz2 : w.heap.size < w2.heap.size := by have := hb2.size; omega
  have cW := word_ok rb c B x l v Ok w2 (HR.out w2 hb).1 (HR.out w2 hb).2 (fun k hk => (HO.out k hk).1) hk
  have HB : Hid (Below w.heap.size w w2) := hb
  have HE2 : Hid (w2.heap[w.heap.size]? = some (.cells #[.int .i64 0, .string ⟨#[]⟩, .string ⟨#[]⟩, .int .i64 0, .slice none 0 0, .slice none 0 0] 33 (0, 0))) := hE2
  clear hb hb2 cS hE2
  go_wp2_with fail
  refine cW.mono ?_
  rintro e w3 ⟨tb, v', htb, htz, rfl, hr3, hl3, hbut⟩
  have e3 := (hbut.block w.heap.size hz2 (by omega)).trans HE2.out
  obtain ⟨⟨r0, r1, r2, r3, r4, r5⟩, ⟨rf0, rf1, rf2, rf3, rf4, rf5⟩, v0, v1, v2, v3, v4, v5⟩ := six_facts e3 (.int .i64 3) (.string nb) (.string tb) (.int .i64 0) (.slice none 0 0) (.slice none 0 0)
  have HT : Hid (tb.data.toList = x.text) := htb
  have HX : Hid (RdS w3 rb v' c ∧ Ags w3 Ok B l v' ∧ But w2.heap.size rb w2 w3) := ⟨hr3, hl3, hbut⟩
  clear e3 htb hr3 hl3 hbut cW
  go_wp2_with fail
  refine bodyPost_ret (v := .agg #[.int .i64 3, .string nb, .string tb, .int .i64 0, .slice none 0 0, .slice none 0 0]) (by simp [results, Tryz.results154, go_sem, v0, v1, v2, v3, v4, v5]) rfl ?_
  refine ⟨_, v', rfl, ?_, HX.out.1.kept (six_other _ (by omega) _ _ _ _ _ _), HX.out.2.1.kept fun k hk _ => ⟨hk, six_other _ (by have := (HO.out k hk).2; omega) _ _ _ _ _ _⟩, six_but ((to_but HB.out).trans ⟨HX.out.2.2.os, HX.out.2.2.tape, HX.out.2.2.output, HX.out.2.2.size, fun k hk hb => HX.out.2.2.block k (by omega) hb⟩) (by omega) _ _ _ _ _ _⟩
  rw [← HT.out, ← HN.out]
  exact kx_leaf _ _ 3 0 nb tb
end Go.Proofs.YtligkpcoajnjmaaGreatDoorR
namespace Go.Proofs.YtligkpcoajnjmaaGreatDoorR
open Go.RowKit Go.Proofs.Aid Go.Proofs.Sq Go.Proofs.Hd

/-- What a reader's function leaves: thrown, or a key and what is left. -/
def Out (w : World) (rb B : Nat) (Ok : Nat → Prop) : Sr.Rs Sr.Ky → Ending → World → Prop
  | .bad n, e, w' => e = thrown n ∧ But w.heap.size rb w w'
  | .ok k l c, e, w' => ∃ ys v, e = .returned (.agg ys.toArray) ∧ Kx w' (fun q => w.heap.size ≤ q) k ys ∧ RdS w' rb v c ∧ Ags w' Ok B l v ∧ But w.heap.size rb w w'
set_option maxHeartbeats 4000000 in
set_option maxRecDepth 100000 in
theorem list_is (rb c B d : Nat) (x : Sr.Ar) (l : List Sr.Ar) (v : Value) (Ok : Nat → Prop) (w : World) (R : Sr.Rs Sr.Ky) (hd : d ≤ 1000) (hr : RdS w rb v c) (hl : Ags w Ok B (x :: l) v) (hrb : rb < w.heap.size) (hO : ∀ k, Ok k → k ≠ rb ∧ k < w.heap.size)
    (cK : ∀ W lv, RdS W rb lv c → Ags W Ok B x.list lv → But w.heap.size rb w W → Calls Tryz.prog 43 #[.pointer (some ⟨rb, 0, none⟩), .int .i64 ((d : Int) + 1)] W fun e w' => Out W rb B Ok R e w') :
    Calls Tryz.prog 150 #[.pointer (some ⟨rb, 0, none⟩), .int .i64 (d : Int)] w fun e w' => Out w rb B Ok (R.then fun k _ c => .ok k l c) e w' := by
  have b1 : Below w.heap.size w (w.alloc (.cells #[.int .i64 0, .string ⟨#[]⟩, .string ⟨#[]⟩, .int .i64 0, .slice none 0 0, .slice none 0 0] 33)) := (Below.refl _ _).alloc (Nat.le_refl _) _
  have e1 := heap_alloc_new w (.cells #[.int .i64 0, .string ⟨#[]⟩, .string ⟨#[]⟩, .int .i64 0, .slice none 0 0, .slice none 0 0] 33)
  obtain ⟨W1, hW1⟩ : ∃ W, w.alloc (.cells #[.int .i64 0, .string ⟨#[]⟩, .string ⟨#[]⟩, .int .i64 0, .slice none 0 0, .slice none 0 0] 33) = W := ⟨_, rfl⟩
  have z1 : W1.heap.size = w.heap.size + 1 := by rw [← hW1]; simp
  rw [hW1] at b1 e1
  have hr1 : RdS W1 rb v c := hr.kept (b1.block rb hrb)
  have hl1 : Ags W1 Ok B (x :: l) v := hl.kept fun k hk hlt => ⟨hk, b1.block k hlt⟩
  have p0 : W1.cell? ⟨rb, 0, none⟩ = some v := rd_cell hr1 rfl
  have f0 : W1.frozen? ⟨rb, 0, none⟩ = false := rd_free hr1 0
  obtain ⟨b, o, C, tb, lv, rfl, hC, hC2, hOb, htb, hsz, hlist, c1, c2, c3, hrest⟩ := hl1.head
  obtain ⟨la, lc, rfl⟩ := hlist.form
  obtain ⟨LN, hLN⟩ : ∃ n, x.list.length = n := ⟨_, rfl⟩
  rw [hLN] at c3 hlist
  have hset := Below.heap_setCell
  have b2 : But w.heap.size rb w (W1.setCell ⟨rb, 0, none⟩ (.slice la LN lc)) := (to_but b1).setB 0 _
  have hr2 : RdS (W1.setCell ⟨rb, 0, none⟩ (.slice la LN lc)) rb (.slice la LN lc) c := by
    show _ = _
    exact rd_set (i := 0) _ hr1
  have hk2 : ∀ k, k ≠ rb → (W1.setCell ⟨rb, 0, none⟩ (.slice la LN lc)).heap[k]? = W1.heap[k]? := fun k hk => Below.heap_setCell _ _ _ _ hk
  have hz2 : (W1.setCell ⟨rb, 0, none⟩ (.slice la LN lc)).heap.size = w.heap.size + 1 := by simp [z1]
  obtain ⟨W2, hW2⟩ : ∃ W, W1.setCell ⟨rb, 0, none⟩ (.slice la LN lc) = W := ⟨_, rfl⟩
  rw [hW2] at b2 hr2 hk2 hz2
  have cQ := cK W2 (.slice la LN lc) hr2 (hlist.kept fun k hk _ => ⟨hk, hk2 k (hO k hk).1⟩) b2
  have e2 := (hk2 w.heap.size (by omega)).trans e1
  have HA : Hid (Ags W2 Ok B l (.slice (if C = 0 then some ⟨b, o, none⟩ else some ⟨b, o + 3, none⟩) l.length C)) := hrest.kept fun k hk _ => ⟨hk, hk2 k (hO k hk).1⟩
  have HO : Hid (∀ k, Ok k → k ≠ rb ∧ k < w.heap.size) := hO
  have HB : Hid (But w.heap.size rb w W2) := b2
  have HE : Hid (W2.heap[w.heap.size]? = some (.cells #[.int .i64 0, .string ⟨#[]⟩, .string ⟨#[]⟩, .int .i64 0, .slice none 0 0, .slice none 0 0] 33 (0, 0))) := e2
  have HZ : Hid (W2.heap.size = w.heap.size + 1) := hz2
  obtain ⟨L, hL⟩ : ∃ L, l.length = L := ⟨_, rfl⟩
  rw [hL] at hC p0 HA
  have i2 : (1 : Int) ≤ (L : Int) + 1 := by omega
  have i3 : (L : Int) + 1 ≤ (C : Int) + 1 := by omega
  clear b1 e1 hr hl hr1 hl1 hO cK hlist hLN hset b2 hr2 hk2 hz2 e2 hL hrest htb hsz
  go_enter Tryz.func150, Tryz.ntmps150
  obtain ⟨BV, hBV⟩ : ∃ BV, BV = Value.slice (if C = 0 then some ⟨b, o, none⟩ else some ⟨b, o + 3, none⟩) L C := ⟨_, rfl⟩
  rw [← hBV] at HA
  have HV : Hid (BV = Value.slice (if C = 0 then some ⟨b, o, none⟩ else some ⟨b, o + 3, none⟩) L C) := hBV
  clear hBV
  rcases Nat.eq_zero_or_pos C with hC0 | hC0
  · subst hC0
    obtain rfl : L = 0 := by omega
    go_wp2_with fail
    have hv : Value.slice (some ⟨b, o, none⟩) 0 0 = BV := by rw [HV.out]; simp
    rw [hv]
    obtain ⟨A, N, CC, hbv⟩ : ∃ A N CC, BV = Value.slice A N CC := ⟨_, _, _, HV.out⟩
    clear HV hv p0 c1 c2 c3 i2 i3 hC hC2 f0
    subst hbv
    refine cQ.mono ?_
    intro e w3 h3
    clear cQ
    cases R with
    | bad n =>
      obtain ⟨rfl, hb3⟩ := h3
      have HB3 : Hid (But W2.heap.size rb W2 w3) := hb3
      clear hb3
      unfold thrown
      go_wp2_with fail
      exact ⟨rfl, rfl, HB.out.trans (HB3.out.less (by have := HZ.out; omega))⟩
    | ok k r cn =>
      obtain ⟨ys, v3, rfl, hk3, hr3, hl3, hb3⟩ := h3
      obtain ⟨x0, x3, x1, x2, xa, xk, xc, ya, yk, yc, rfl⟩ := kx_cells hk3
      have hta : ([.int .i64 x0, .string x1, .string x2, .int .i64 x3, .slice xa xk xc, .slice ya yk yc] : List Value).toArray = #[.int .i64 x0, .string x1, .string x2, .int .i64 x3, .slice xa xk xc, .slice ya yk yc] := rfl
      rw [hta]
      have hz := HZ.out
      have hs3 := hb3.size
      have e3 := (hb3.block w.heap.size (by omega) (by omega)).trans HE.out
      have b4 : Below w3.heap.size w3 (w3.alloc (.cells #[.int .i64 0, .string ⟨#[]⟩, .string ⟨#[]⟩, .int .i64 0, .slice none 0 0, .slice none 0 0] 33)) := (Below.refl _ _).alloc (Nat.le_refl _) _
      have e4 := heap_alloc_new w3 (.cells #[.int .i64 0, .string ⟨#[]⟩, .string ⟨#[]⟩, .int .i64 0, .slice none 0 0, .slice none 0 0] 33)
      obtain ⟨Wa, hWa⟩ : ∃ W, w3.alloc (.cells #[.int .i64 0, .string ⟨#[]⟩, .string ⟨#[]⟩, .int .i64 0, .slice none 0 0, .slice none 0 0] 33) = W := ⟨_, rfl⟩
      rw [hWa] at b4 e4
      obtain ⟨⟨r0, r1, r2, r3, r4, r5⟩, ⟨rf0, rf1, rf2, rf3, rf4, rf5⟩, _⟩ := six_facts e4 (.int .i64 x0) (.string x1) (.string x2) (.int .i64 x3) (.slice xa xk xc) (.slice ya yk yc)
      have eb := six_set e4 (.int .i64 x0) (.string x1) (.string x2) (.int .i64 x3) (.slice xa xk xc) (.slice ya yk yc)
      have ob : ∀ q, q ≠ w3.heap.size → _ := fun q hq => six_other Wa (k := q) hq (.int .i64 x0) (.string x1) (.string x2) (.int .i64 x3) (.slice xa xk xc) (.slice ya yk yc)
      have bb := six_but (rb := rb) (R := w3.heap.size) (to_but b4) (Nat.le_refl _) (.int .i64 x0) (.string x1) (.string x2) (.int .i64 x3) (.slice xa xk xc) (.slice ya yk yc)
      obtain ⟨Wb, hWb⟩ : ∃ W, ((((((Wa.setCell ⟨w3.heap.size, 0, none⟩ (.int .i64 x0)).setCell ⟨w3.heap.size, 1, none⟩ (.string x1)).setCell ⟨w3.heap.size, 2, none⟩ (.string x2)).setCell ⟨w3.heap.size, 3, none⟩ (.int .i64 x3)).setCell ⟨w3.heap.size, 4, none⟩ (.slice xa xk xc)).setCell ⟨w3.heap.size, 5, none⟩ (.slice ya yk yc)) = W := ⟨_, rfl⟩
      rw [hWb] at eb bb
      have ob' : ∀ q, q ≠ w3.heap.size → Wb.heap[q]? = Wa.heap[q]? := fun q hq => by rw [← hWb]; exact ob q hq
      have hrb3 : rb < w3.heap.size := by omega
      have hrB : RdS Wb rb v3 cn := hr3.kept ((ob' rb (by omega)).trans (b4.block rb hrb3))
      have p0 : Wb.cell? ⟨rb, 0, none⟩ = some v3 := rd_cell hrB rfl
      have f0 : Wb.frozen? ⟨rb, 0, none⟩ = false := rd_free hrB 0
      have hrC : RdS (Wb.setCell ⟨rb, 0, none⟩ (.slice A N CC)) rb (.slice A N CC) cn := by
        show _ = _
        exact rd_set (i := 0) _ hrB
      have hkC : ∀ q, q ≠ rb → (Wb.setCell ⟨rb, 0, none⟩ (.slice A N CC)).heap[q]? = Wb.heap[q]? := fun q hq => Below.heap_setCell _ _ _ _ hq
      have bC := bb.setB 0 (.slice A N CC)
      obtain ⟨Wc, hWc⟩ : ∃ W, Wb.setCell ⟨rb, 0, none⟩ (.slice A N CC) = W := ⟨_, rfl⟩
      rw [hWc] at hrC hkC bC
      have eN := (hkC w3.heap.size (by omega)).trans eb
      have l0 := rd_cell (j := 0) eN rfl
      have l1 := rd_cell (j := 1) eN rfl
      have l2 := rd_cell (j := 2) eN rfl
      have l3 := rd_cell (j := 3) eN rfl
      have l4 := rd_cell (j := 4) eN rfl
      have l5 := rd_cell (j := 5) eN rfl
      have hold : ∀ q, q ≠ rb → q < w3.heap.size → Wc.heap[q]? = w3.heap[q]? := fun q hq hlt => (hkC q hq).trans ((ob' q (by omega)).trans (b4.block q hlt))
      have e5 := (hold w.heap.size (by omega) (by omega)).trans e3
      obtain ⟨⟨s0, s1, s2, s3, s4, s5⟩, ⟨sf0, sf1, sf2, sf3, sf4, sf5⟩, v0, v1, v2, v3', v4, v5⟩ := six_facts e5 (.int .i64 x0) (.string x1) (.string x2) (.int .i64 x3) (.slice xa xk xc) (.slice ya yk yc)
      have HK : Hid (Kx Wc (fun q => w.heap.size < q ∧ q < w3.heap.size) k [.int .i64 x0, .string x1, .string x2, .int .i64 x3, .slice xa xk xc, .slice ya yk yc]) := hk3.kept fun q hq hlt => ⟨⟨by omega, hlt⟩, hold q (by omega) hlt⟩
      have HA3 : Hid (Ags Wc (fun q => Ok q) B l (.slice A N CC)) := HA.out.kept fun q hq hlt => ⟨hq, (hold q (HO.out q hq).1 (by omega)).trans (hb3.block q hlt (HO.out q hq).1)⟩
      have HRC : Hid (RdS Wc rb (.slice A N CC) cn) := hrC
      have HBC : Hid (But w.heap.size rb w Wc) := (HB.out.trans (hb3.less (by omega))).trans (bC.less (by omega))
      clear hta hs3 e3 b4 e4 eb ob bb ob' hrB hrC hkC bC eN hold e5 hk3 hr3 hl3 hb3 HA
      go_wp2_with fail
      refine bodyPost_ret (v := .agg #[.int .i64 x0, .string x1, .string x2, .int .i64 x3, .slice xa xk xc, .slice ya yk yc]) (by simp [results, Tryz.results150, go_sem, v0, v1, v2, v3', v4, v5]) rfl ?_
      exact ⟨_, .slice A N CC, rfl, HK.out.kept fun q hq hlt => ⟨by omega, six_other _ (by omega) _ _ _ _ _ _⟩, HRC.out.kept (six_other _ (by omega) _ _ _ _ _ _), HA3.out.kept fun q hq _ => ⟨hq, six_other _ (by have := (HO.out q hq).2; omega) _ _ _ _ _ _⟩, six_but HBC.out (Nat.le_refl _) _ _ _ _ _ _⟩
  · have hC1 : ¬ C = 0 := by omega
    go_wp2_with fail
    have hv : Value.slice (some ⟨b, o + 3, none⟩) L C = BV := by rw [HV.out]; simp [hC1]
    rw [hv]
    obtain ⟨A, N, CC, hbv⟩ : ∃ A N CC, BV = Value.slice A N CC := ⟨_, _, _, HV.out⟩
    clear HV hv p0 c1 c2 c3 i2 i3 hC hC2 f0 hC0 hC1
    subst hbv
    refine cQ.mono ?_
    intro e w3 h3
    clear cQ
    cases R with
    | bad n =>
      obtain ⟨rfl, hb3⟩ := h3
      have HB3 : Hid (But W2.heap.size rb W2 w3) := hb3
      clear hb3
      unfold thrown
      go_wp2_with fail
      exact ⟨rfl, rfl, HB.out.trans (HB3.out.less (by have := HZ.out; omega))⟩
    | ok k r cn =>
      obtain ⟨ys, v3, rfl, hk3, hr3, hl3, hb3⟩ := h3
      obtain ⟨x0, x3, x1, x2, xa, xk, xc, ya, yk, yc, rfl⟩ := kx_cells hk3
      have hta : ([.int .i64 x0, .string x1, .string x2, .int .i64 x3, .slice xa xk xc, .slice ya yk yc] : List Value).toArray = #[.int .i64 x0, .string x1, .string x2, .int .i64 x3, .slice xa xk xc, .slice ya yk yc] := rfl
      rw [hta]
      have hz := HZ.out
      have hs3 := hb3.size
      have e3 := (hb3.block w.heap.size (by omega) (by omega)).trans HE.out
      have b4 : Below w3.heap.size w3 (w3.alloc (.cells #[.int .i64 0, .string ⟨#[]⟩, .string ⟨#[]⟩, .int .i64 0, .slice none 0 0, .slice none 0 0] 33)) := (Below.refl _ _).alloc (Nat.le_refl _) _
      have e4 := heap_alloc_new w3 (.cells #[.int .i64 0, .string ⟨#[]⟩, .string ⟨#[]⟩, .int .i64 0, .slice none 0 0, .slice none 0 0] 33)
      obtain ⟨Wa, hWa⟩ : ∃ W, w3.alloc (.cells #[.int .i64 0, .string ⟨#[]⟩, .string ⟨#[]⟩, .int .i64 0, .slice none 0 0, .slice none 0 0] 33) = W := ⟨_, rfl⟩
      rw [hWa] at b4 e4
      obtain ⟨⟨r0, r1, r2, r3, r4, r5⟩, ⟨rf0, rf1, rf2, rf3, rf4, rf5⟩, _⟩ := six_facts e4 (.int .i64 x0) (.string x1) (.string x2) (.int .i64 x3) (.slice xa xk xc) (.slice ya yk yc)
      have eb := six_set e4 (.int .i64 x0) (.string x1) (.string x2) (.int .i64 x3) (.slice xa xk xc) (.slice ya yk yc)
      have ob : ∀ q, q ≠ w3.heap.size → _ := fun q hq => six_other Wa (k := q) hq (.int .i64 x0) (.string x1) (.string x2) (.int .i64 x3) (.slice xa xk xc) (.slice ya yk yc)
      have bb := six_but (rb := rb) (R := w3.heap.size) (to_but b4) (Nat.le_refl _) (.int .i64 x0) (.string x1) (.string x2) (.int .i64 x3) (.slice xa xk xc) (.slice ya yk yc)
      obtain ⟨Wb, hWb⟩ : ∃ W, ((((((Wa.setCell ⟨w3.heap.size, 0, none⟩ (.int .i64 x0)).setCell ⟨w3.heap.size, 1, none⟩ (.string x1)).setCell ⟨w3.heap.size, 2, none⟩ (.string x2)).setCell ⟨w3.heap.size, 3, none⟩ (.int .i64 x3)).setCell ⟨w3.heap.size, 4, none⟩ (.slice xa xk xc)).setCell ⟨w3.heap.size, 5, none⟩ (.slice ya yk yc)) = W := ⟨_, rfl⟩
      rw [hWb] at eb bb
      have ob' : ∀ q, q ≠ w3.heap.size → Wb.heap[q]? = Wa.heap[q]? := fun q hq => by rw [← hWb]; exact ob q hq
      have hrb3 : rb < w3.heap.size := by omega
      have hrB : RdS Wb rb v3 cn := hr3.kept ((ob' rb (by omega)).trans (b4.block rb hrb3))
      have p0 : Wb.cell? ⟨rb, 0, none⟩ = some v3 := rd_cell hrB rfl
      have f0 : Wb.frozen? ⟨rb, 0, none⟩ = false := rd_free hrB 0
      have hrC : RdS (Wb.setCell ⟨rb, 0, none⟩ (.slice A N CC)) rb (.slice A N CC) cn := by
        show _ = _
        exact rd_set (i := 0) _ hrB
      have hkC : ∀ q, q ≠ rb → (Wb.setCell ⟨rb, 0, none⟩ (.slice A N CC)).heap[q]? = Wb.heap[q]? := fun q hq => Below.heap_setCell _ _ _ _ hq
      have bC := bb.setB 0 (.slice A N CC)
      obtain ⟨Wc, hWc⟩ : ∃ W, Wb.setCell ⟨rb, 0, none⟩ (.slice A N CC) = W := ⟨_, rfl⟩
      rw [hWc] at hrC hkC bC
      have eN := (hkC w3.heap.size (by omega)).trans eb
      have l0 := rd_cell (j := 0) eN rfl
      have l1 := rd_cell (j := 1) eN rfl
      have l2 := rd_cell (j := 2) eN rfl
      have l3 := rd_cell (j := 3) eN rfl
      have l4 := rd_cell (j := 4) eN rfl
      have l5 := rd_cell (j := 5) eN rfl
      have hold : ∀ q, q ≠ rb → q < w3.heap.size → Wc.heap[q]? = w3.heap[q]? := fun q hq hlt => (hkC q hq).trans ((ob' q (by omega)).trans (b4.block q hlt))
      have e5 := (hold w.heap.size (by omega) (by omega)).trans e3
      obtain ⟨⟨s0, s1, s2, s3, s4, s5⟩, ⟨sf0, sf1, sf2, sf3, sf4, sf5⟩, v0, v1, v2, v3', v4, v5⟩ := six_facts e5 (.int .i64 x0) (.string x1) (.string x2) (.int .i64 x3) (.slice xa xk xc) (.slice ya yk yc)
      have HK : Hid (Kx Wc (fun q => w.heap.size < q ∧ q < w3.heap.size) k [.int .i64 x0, .string x1, .string x2, .int .i64 x3, .slice xa xk xc, .slice ya yk yc]) := hk3.kept fun q hq hlt => ⟨⟨by omega, hlt⟩, hold q (by omega) hlt⟩
      have HA3 : Hid (Ags Wc (fun q => Ok q) B l (.slice A N CC)) := HA.out.kept fun q hq hlt => ⟨hq, (hold q (HO.out q hq).1 (by omega)).trans (hb3.block q hlt (HO.out q hq).1)⟩
      have HRC : Hid (RdS Wc rb (.slice A N CC) cn) := hrC
      have HBC : Hid (But w.heap.size rb w Wc) := (HB.out.trans (hb3.less (by omega))).trans (bC.less (by omega))
      clear hta hs3 e3 b4 e4 eb ob bb ob' hrB hrC hkC bC eN hold e5 hk3 hr3 hl3 hb3 HA
      go_wp2_with fail
      refine bodyPost_ret (v := .agg #[.int .i64 x0, .string x1, .string x2, .int .i64 x3, .slice xa xk xc, .slice ya yk yc]) (by simp [results, Tryz.results150, go_sem, v0, v1, v2, v3', v4, v5]) rfl ?_
      exact ⟨_, .slice A N CC, rfl, HK.out.kept fun q hq hlt => ⟨by omega, six_other _ (by omega) _ _ _ _ _ _⟩, HRC.out.kept (six_other _ (by omega) _ _ _ _ _ _), HA3.out.kept fun q hq _ => ⟨hq, six_other _ (by have := (HO.out q hq).2; omega) _ _ _ _ _ _⟩, six_but HBC.out (Nat.le_refl _) _ _ _ _ _ _⟩
end Go.Proofs.YtligkpcoajnjmaaGreatDoorR
namespace Go.Proofs.YtligkpcoajnjmaaGreatDoorR
open Go.RowKit Go.Proofs.Aid Go.Proofs.Sq Go.Proofs.Hd

/-- A row of keys, owned. -/
def KRow (base : Nat) (ks : List Sr.Ky) (v : Value) (w : World) : Prop :=
  ∃ rows : List (List Value), rows.length = ks.length ∧ w.ownsRow base 33 6 v ks.length rows.flatten ∧
    (∀ (j : Nat) k xs, ks[j]? = some k → rows[j]? = some xs → Kx w (fun q => base ≤ q ∧ v.ownBlock ≠ some q) k xs) ∧ (∀ xs ∈ rows, xs.length = 6)
theorem KRow.kept {base : Nat} {ks : List Sr.Ky} {v : Value} {w w' : World} (h : KRow base ks v w) (hk : ∀ q, base ≤ q → q < w.heap.size → w'.heap[q]? = w.heap[q]?) : KRow base ks v w' := by
  obtain ⟨rows, h2, h3, h4, h5⟩ := h
  exact ⟨rows, h2, own_same h3 fun g hg => hk g (h3.lt g hg).1 (h3.lt g hg).2, fun j p xs hj hx => (h4 j p xs hj hx).kept fun q hq hlt => ⟨hq, hk q hq.1 hlt⟩, h5⟩
/-- A row of one key, just laid. -/
theorem KRow.lit {base : Nat} {k : Sr.Ky} {xs : List Value} {w : World} (h : Kx w (fun q => base ≤ q) k xs) (hb : base ≤ w.heap.size) : KRow base [k] (.slice (some ⟨w.heap.size, 0, none⟩) 1 1) (w.alloc (.cells xs.toArray 33)) := by
  refine ⟨[xs], rfl, ?_, fun j q ys hj hy => ?_, fun ys hy => ?_⟩
  · have := World.ownsRow_lit (base := base) (e := 33) (size := 6) w xs.toArray 1 hb (by decide) (by simpa using h.length)
    simpa using this
  · have hj0 : j = 0 := by
      have := (List.getElem?_eq_some_iff.1 hj).1
      simp at this
      exact this
    subst hj0
    obtain rfl : k = q := by simpa using hj
    obtain rfl : xs = ys := by simpa using hy
    have hbl : Below w.heap.size w (w.alloc (.cells xs.toArray 33)) := (Below.refl _ _).alloc (Nat.le_refl _) _
    refine h.kept fun q hq hlt => ⟨⟨hq, fun e => ?_⟩, hbl.block q hlt⟩
    injection e with e
    have e' : w.heap.size = q := e
    omega
  · rw [List.mem_singleton.1 hy]; exact h.length
/-- All of the row's keys, as the keys of a key. -/
theorem KRow.cells {base : Nat} {ks : List Sr.Ky} {va : Option Addr} {vc : Nat} {w : World} (h : KRow base ks (.slice va ks.length vc) w) :
    ∃ rows : Nat → List Value, (∀ (j : Nat) k, ks[j]? = some k → Kx w (fun q => base ≤ q) k (rows j)) ∧ (ks = [] ∨ ∃ b o, va = some ⟨b, o, none⟩ ∧ base ≤ b ∧ ∀ (j : Nat) k, ks[j]? = some k → ∀ i x, (rows j)[i]? = some x → w.cell? ⟨b, o + j * 6 + i, none⟩ = some x) := by
  obtain ⟨rows, hl, hrow, hsx, h6⟩ := h
  have hjr : ∀ j : Nat, j < ks.length → rows[j]? = some (rows.getD j []) := fun j hj => by
    rw [List.getD_eq_getElem?_getD, List.getElem?_eq_getElem (by rw [hl]; exact hj)]; rfl
  refine ⟨fun j => rows.getD j [], fun j k hjk => (hsx j k _ hjk (hjr j (List.getElem?_eq_some_iff.1 hjk).1)).kept fun q hq _ => ⟨hq.1, rfl⟩, ?_⟩
  by_cases hps : ks = []
  · exact Or.inl hps
  · right
    have hk0 : ks.length ≠ 0 := fun e => hps (List.eq_nil_of_length_eq_zero e)
    obtain ⟨g2, cap2, hv2⟩ := row_some hrow hk0
    injection hv2 with hva _ _
    subst hva
    refine ⟨g2, 0, rfl, (hrow.lt g2 rfl).1, fun j p hjp i x hx => ?_⟩
    change (rows.getD j [])[i]? = some x at hx
    have hjk := (List.getElem?_eq_some_iff.1 hjp).1
    have hx6 : i < 6 := by
      have h7 := h6 _ (List.mem_of_getElem? (hjr j hjk))
      have := (List.getElem?_eq_some_iff.1 hx).1
      omega
    rw [Nat.zero_add, hrow.cellAt (j * 6 + i) (by omega), flat_get h6 (hjr j hjk) hx6]
    exact hx
/-- The key that is all of them. -/
theorem KRow.all {base : Nat} {ks : List Sr.Ky} {va : Option Addr} {vc : Nat} {w : World} (h : KRow base ks (.slice va ks.length vc) w) :
    Kx w (fun q => base ≤ q) (.mk 15 [] [] 0 [] ks) [.int .i64 15, .string ⟨#[]⟩, .string ⟨#[]⟩, .int .i64 0, .slice none 0 0, .slice va ks.length vc] := by
  obtain ⟨rows, h1, h2⟩ := h.cells
  exact Kx.mk 15 0 ⟨#[]⟩ ⟨#[]⟩ [] (.slice none 0 0) ks va vc rows (StS.nil _ _) h1 h2
/-- One key more, behind an append. -/
theorem KRow.push {base z : Nat} {ks : List Sr.Ky} {va : Option Addr} {vc : Nat} {w W w' : World} {g cap : Nat} {k : Sr.Ky} {xs : List Value} {rows : List (List Value)}
    (hl : rows.length = ks.length)
    (hsx : ∀ (j : Nat) k xs, ks[j]? = some k → rows[j]? = some xs → Kx w (fun q => base ≤ q ∧ (Value.slice va ks.length vc).ownBlock ≠ some q) k xs) (h6 : ∀ xs ∈ rows, xs.length = 6)
    (hz : base ≤ z) (hoz : ∀ q, (Value.slice va ks.length vc).ownBlock = some q → q < z) (hk : Kx w (fun q => z ≤ q) k xs) (hW : Below w.heap.size w W)
    (hown : w'.ownsRow base 33 6 (.slice (some ⟨g, 0, none⟩) (ks.length + 1) cap) (ks.length + 1) (rows.flatten ++ xs)) (hg : W.grownBy w' (Value.slice va ks.length vc).ownBlock) (hor : (Value.slice va ks.length vc).ownBlock = some g ∨ g = W.heap.size) :
    KRow base (ks ++ [k]) (.slice (some ⟨g, 0, none⟩) (ks.length + 1) cap) w' ∧ ∀ q, q < w.heap.size → some q ≠ (Value.slice va ks.length vc).ownBlock → w'.heap[q]? = w.heap[q]? := by
  have far : ∀ q, q < w.heap.size → some q ≠ (Value.slice va ks.length vc).ownBlock → w'.heap[q]? = w.heap[q]? := fun q hq h1 =>
    (hg.block q (Nat.lt_of_lt_of_le hq hW.size) h1).trans (hW.block q hq)
  have hog : ∀ q, q < w.heap.size → some q ≠ (Value.slice va ks.length vc).ownBlock → q ≠ g := fun q hq h1 e => by
    subst e
    rcases hor with h | h
    · exact h1 h.symm
    · have := hW.size; omega
  have hlen : (ks ++ [k]).length = ks.length + 1 := by simp
  refine ⟨⟨rows ++ [xs], by simp [hl], ?_, ?_, ?_⟩, far⟩
  · rw [hlen, List.flatten_append, List.flatten_cons, List.flatten_nil, List.append_nil]
    exact hown
  · intro j p' xs' hjp hjx
    by_cases hjk : j < ks.length
    · rw [List.getElem?_append_left hjk] at hjp
      rw [List.getElem?_append_left (by rw [hl]; exact hjk)] at hjx
      refine (hsx j p' xs' hjp hjx).kept fun q hq hlt => ⟨⟨hq.1, fun e => ?_⟩, far q hlt (Ne.symm hq.2)⟩
      injection e with e
      exact hog q hlt (Ne.symm hq.2) e.symm
    · have hjl : j < (ks ++ [k]).length := (List.getElem?_eq_some_iff.1 hjp).1
      obtain rfl : j = ks.length := by rw [hlen] at hjl; omega
      rw [List.getElem?_append_right (Nat.le_refl _), Nat.sub_self] at hjp
      rw [List.getElem?_append_right (by rw [hl]; exact Nat.le_refl _), hl, Nat.sub_self] at hjx
      obtain rfl : k = p' := by simpa using hjp
      obtain rfl := Option.some.inj hjx
      have hown9 : ∀ q, z ≤ q → some q ≠ (Value.slice va ks.length vc).ownBlock := fun q hq e => by have := hoz q e.symm; omega
      refine hk.kept fun q hq hlt => ⟨⟨by omega, fun e => ?_⟩, far q hlt (hown9 q hq)⟩
      injection e with e
      exact hog q hlt (hown9 q hq) e.symm
  · intro xs' hxs
    rcases List.mem_append.1 hxs with h | h
    · exact h6 xs' h
    · rw [List.mem_singleton.1 h]; exact hk.length
end Go.Proofs.YtligkpcoajnjmaaGreatDoorR
