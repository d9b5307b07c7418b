/-
  What key of package search does where it does not come to a word: too much, too deep, nothing there, a list.
  What head.Great does.
-/
import Derived.Test.YtligkpcoajnjmaaGreatDoorRNu20
import Derived.Test.YtligkpcoajnjmaaGreatDoorRNu13
namespace Go.Proofs.YtligkpcoajnjmaaGreatDoorR
open Go.RowKit Go.Proofs.Aid Go.Proofs.Sq Go.Proofs.Hd

/-- The world behind the count of one key more. -/
theorem key_begun (rb c B : Nat) (l : List Sr.Ar) (v : Value) (Ok : Nat → Prop) (w : World) (hr : RdS w rb v c) (hl : Ags w Ok B l v) (hrb : rb < w.heap.size) (hO : ∀ k, Ok k → k ≠ rb ∧ k < w.heap.size) :
    ∃ W1 W2, w.alloc (.cells #[.int .i64 0, .string ⟨#[]⟩, .string ⟨#[]⟩, .int .i64 0, .slice none 0 0, .slice none 0 0] 33) = W1 ∧ W1.setCell ⟨rb, 1, none⟩ (.int .i64 ((c : Int) + 1)) = W2 ∧
      W1.cell? ⟨rb, 1, none⟩ = some (.int .i64 (c : Int)) ∧ W1.frozen? ⟨rb, 1, none⟩ = false ∧ W2.cell? ⟨rb, 1, none⟩ = some (.int .i64 ((c : Int) + 1)) ∧ W2.cell? ⟨rb, 0, none⟩ = some v ∧
      W2.heap.size = w.heap.size + 1 ∧ RdS W2 rb v (c + 1) ∧ Ags W2 Ok B l v ∧ But w.heap.size rb w W2 ∧
      W2.heap[w.heap.size]? = some (.cells #[.int .i64 0, .string ⟨#[]⟩, .string ⟨#[]⟩, .int .i64 0, .slice none 0 0, .slice none 0 0] 33 (0, 0)) := by
  have b1 : Below w.heap.size w (w.alloc (.cells #[.int .i64 0, .string ⟨#[]⟩, .string ⟨#[]⟩, .int .i64 0, .slice none 0 0, .slice none 0 0] 33)) := (Below.refl _ _).alloc (Nat.le_refl _) _
  have e1 := heap_alloc_new w (.cells #[.int .i64 0, .string ⟨#[]⟩, .string ⟨#[]⟩, .int .i64 0, .slice none 0 0, .slice none 0 0] 33)
  obtain ⟨W1, hW1⟩ : ∃ W, w.alloc (.cells #[.int .i64 0, .string ⟨#[]⟩, .string ⟨#[]⟩, .int .i64 0, .slice none 0 0, .slice none 0 0] 33) = W := ⟨_, rfl⟩
  have z1 : W1.heap.size = w.heap.size + 1 := by rw [← hW1]; simp
  rw [hW1] at b1 e1
  have hr1 : RdS W1 rb v c := hr.kept (b1.block rb hrb)
  have hl1 : Ags W1 Ok B l v := hl.kept fun k hk hlt => ⟨hk, b1.block k hlt⟩
  have hr2 : RdS (W1.setCell ⟨rb, 1, none⟩ (.int .i64 ((c : Int) + 1))) rb v (c + 1) := by
    show _ = _
    have := rd_set (i := 1) (.int .i64 ((c : Int) + 1)) hr1
    rw [Int.natCast_add]
    exact this
  refine ⟨W1, _, hW1, rfl, rd_cell hr1 rfl, rd_free hr1 1, ?_, rd_cell hr2 rfl, by simp [z1], hr2, hl1.kept fun k hk _ => ⟨hk, Below.heap_setCell _ _ _ _ (hO k hk).1⟩, (to_but b1).setB 1 _, (Below.heap_setCell _ _ _ _ (show w.heap.size ≠ rb by omega)).trans e1⟩
  have h := rd_cell (j := 1) hr2 rfl
  rw [Int.natCast_add] at h
  exact h
set_option maxHeartbeats 2000000 in
set_option maxRecDepth 100000 in
theorem key_limit (rb c B d : Nat) (l : List Sr.Ar) (v : Value) (Ok : Nat → Prop) (w : World) (hr : RdS w rb v c) (hl : Ags w Ok B l v) (hrb : rb < w.heap.size) (hO : ∀ k, Ok k → k ≠ rb ∧ k < w.heap.size) (hc : c ≤ 1000) (hd : d ≤ 1000) (h : 6 < d ∨ 60 < c + 1) :
    Calls Tryz.prog 101 #[.pointer (some ⟨rb, 0, none⟩), .int .i64 (d : Int)] w fun e w' => e = thrown 4 ∧ But w.heap.size rb w w' := by
  obtain ⟨W1, W2, hW1, hW2, p1, f1, q1, q0, z2, hr2, hl2, hb2, hE2⟩ := key_begun rb c B l v Ok w hr hl hrb hO
  have HB : Hid (But w.heap.size rb w W2) := hb2
  clear hr hl hO hr2 hl2 hb2 hE2
  by_cases hd6 : 6 < d
  · have d1 : decide ((6 : Int) < (d : Int)) = true := decide_eq_true (by omega)
    clear h
    go_enter Tryz.func101, Tryz.ntmps101
    go_wp2_with fail
    exact ⟨rfl, rfl, HB.out⟩
  · have d1 : decide ((6 : Int) < (d : Int)) = false := decide_eq_false (by omega)
    have d2 : decide ((60 : Int) < (c : Int) + 1) = true := decide_eq_true (by omega)
    clear h
    go_enter Tryz.func101, Tryz.ntmps101
    go_wp2_with fail
    exact ⟨rfl, rfl, HB.out⟩
set_option maxHeartbeats 2000000 in
set_option maxRecDepth 100000 in
theorem key_none (rb c B d : Nat) (v : Value) (Ok : Nat → Prop) (w : World) (hr : RdS w rb v c) (hl : Ags w Ok B [] v) (hrb : rb < w.heap.size) (hO : ∀ k, Ok k → k ≠ rb ∧ k < w.heap.size) (hd : d ≤ 6) (hc : c + 1 ≤ 60) :
    Calls Tryz.prog 101 #[.pointer (some ⟨rb, 0, none⟩), .int .i64 (d : Int)] w fun e w' => e = thrown 3 ∧ But w.heap.size rb w w' := by
  obtain ⟨a3, c3, rfl⟩ := hl.nil
  obtain ⟨W1, W2, hW1, hW2, p1, f1, q1, q0, z2, hr2, hl2, hb2, hE2⟩ := key_begun rb c B [] _ Ok w hr hl hrb hO
  have cW := word_bad rb (c + 1) B [] _ Ok W2 hr2 hl2 rfl
  unfold thrown at cW
  have HB : Hid (But w.heap.size rb w W2) := hb2
  clear hr hl hO hr2 hl2 hb2 hE2
  have d1 : decide ((6 : Int) < (d : Int)) = false := decide_eq_false (by omega)
  have d2 : decide ((60 : Int) < (c : Int) + 1) = false := decide_eq_false (by omega)
  go_enter Tryz.func101, Tryz.ntmps101
  go_wp2_with fail
  refine cW.mono ?_
  rintro e w3 ⟨rfl, hw3⟩
  obtain rfl : W2 = w3 := hw3.symm
  go_wp2_with fail
  exact ⟨rfl, rfl, HB.out⟩
/-- A key's six values laid into the answer's cells. -/
theorem key_done {w w3 : World} {rb B c : Nat} {Ok : Nat → Prop} {k : Sr.Ky} {l : List Sr.Ar} {v : Value} {x0 x1 x2 x3 x4 x5 : Value} (hrb : rb < w.heap.size) (hO : ∀ k, Ok k → k ≠ rb ∧ k < w.heap.size) (hk : Kx w3 (fun q => w.heap.size + 1 ≤ q) k [x0, x1, x2, x3, x4, x5]) (hr : RdS w3 rb v c) (hl : Ags w3 Ok B l v) (hb : But w.heap.size rb w w3) :
    Out w rb B Ok (.ok k l c) (.returned (.agg #[x0, x1, x2, x3, x4, x5])) ((((((w3.setCell ⟨w.heap.size, 0, none⟩ x0).setCell ⟨w.heap.size, 1, none⟩ x1).setCell ⟨w.heap.size, 2, none⟩ x2).setCell ⟨w.heap.size, 3, none⟩ x3).setCell ⟨w.heap.size, 4, none⟩ x4).setCell ⟨w.heap.size, 5, none⟩ x5) :=
  ⟨_, v, rfl, hk.kept fun q hq hlt => ⟨by omega, six_other _ (by omega) _ _ _ _ _ _⟩, hr.kept (six_other _ (by omega) _ _ _ _ _ _), hl.kept fun q hq _ => ⟨hq, six_other _ (by have := (hO q hq).2; omega) _ _ _ _ _ _⟩, six_but hb (Nat.le_refl _) _ _ _ _ _ _⟩
set_option maxHeartbeats 2000000 in
set_option maxRecDepth 100000 in
theorem key_list (rb c B d : Nat) (x : Sr.Ar) (l : List Sr.Ar) (v : Value) (Ok : Nat → Prop) (w : World) (R : Sr.Rs Sr.Ky) (hr : RdS w rb v c) (hl : Ags w Ok B (x :: l) v) (hrb : rb < w.heap.size) (hO : ∀ k, Ok k → k ≠ rb ∧ k < w.heap.size) (hd : d ≤ 6) (hc : c + 1 ≤ 60) (hx : x.kind = 3)
    (cK : ∀ W lv, RdS W rb lv (c + 1) → Ags W Ok B x.list lv → But w.heap.size rb w W → w.heap.size ≤ W.heap.size → Calls Tryz.prog 43 #[.pointer (some ⟨rb, 0, none⟩), .int .i64 ((d : Int) + 1)] W fun e w' => Out W rb B Ok R e w') :
    Calls Tryz.prog 101 #[.pointer (some ⟨rb, 0, none⟩), .int .i64 (d : Int)] w fun e w' => Out w rb B Ok (R.then fun k _ c => .ok k l c) e w' := by
  obtain ⟨W1, W2, hW1, hW2, p1, f1, q1, q0, z2, hr2, hl2, hb2, hE2⟩ := key_begun rb c B (x :: l) v Ok w hr hl hrb hO
  have cL := list_is rb (c + 1) B d x l v Ok W2 R (by omega) hr2 hl2 (by omega) (fun k hk => ⟨(hO k hk).1, by have := (hO k hk).2; omega⟩) (fun W lv h1 h2 h3 => cK W lv h1 h2 (hb2.trans (h3.less (by omega))) (by have := h3.size; omega))
  obtain ⟨b, o, C, tb, lv, rfl, hC, hC2, hOb, htb, hsz, hlist, c1, c2, c3, hrest⟩ := hl2.head
  rw [hx] at c1
  obtain ⟨L, hL⟩ : ∃ L, l.length = L := ⟨_, rfl⟩
  rw [hL] at q0 hC
  have HB : Hid (But w.heap.size rb w W2) := hb2
  have HE : Hid (W2.heap[w.heap.size]? = some (.cells #[.int .i64 0, .string ⟨#[]⟩, .string ⟨#[]⟩, .int .i64 0, .slice none 0 0, .slice none 0 0] 33 (0, 0))) := hE2
  have HO : Hid (∀ k, Ok k → k ≠ rb ∧ k < w.heap.size) := hO
  have HZ : Hid (W2.heap.size = w.heap.size + 1) := z2
  have d1 : decide ((6 : Int) < (d : Int)) = false := decide_eq_false (by omega)
  have d2 : decide ((60 : Int) < (c : Int) + 1) = false := decide_eq_false (by omega)
  clear hr hl hO hr2 hl2 hb2 hE2 cK hL hlist hrest htb hsz z2 hx
  go_enter Tryz.func101, Tryz.ntmps101
  go_wp2_with fail
  refine cL.mono ?_
  intro e w3 h3
  clear cL
  cases R with
  | bad n =>
    obtain ⟨rfl, hb3⟩ := h3
    have HB3 : Hid (But W2.heap.size rb W2 w3) := hb3
    clear hb3
    unfold thrown
    go_wp2_with fail
    exact ⟨rfl, rfl, HB.out.trans (HB3.out.less (by have := HZ.out; omega))⟩
  | ok k r cn =>
    obtain ⟨ys, v3, rfl, hk3, hr3, hl3, hb3⟩ := h3
    obtain ⟨x0, x3, x1, x2, xa, xk, xc, ya, yk, yc, rfl⟩ := kx_cells hk3
    have hta : ([.int .i64 x0, .string x1, .string x2, .int .i64 x3, .slice xa xk xc, .slice ya yk yc] : List Value).toArray = #[.int .i64 x0, .string x1, .string x2, .int .i64 x3, .slice xa xk xc, .slice ya yk yc] := rfl
    rw [hta]
    have hz := HZ.out
    have e3 := (hb3.block w.heap.size (by omega) (by omega)).trans HE.out
    obtain ⟨⟨s0, s1, s2, s3, s4, s5⟩, ⟨sf0, sf1, sf2, sf3, sf4, sf5⟩, v0, v1, v2, v3', v4, v5⟩ := six_facts e3 (.int .i64 x0) (.string x1) (.string x2) (.int .i64 x3) (.slice xa xk xc) (.slice ya yk yc)
    rw [hz] at hk3
    have HD : Hid (Out w rb B Ok (.ok k l cn) (.returned (.agg #[.int .i64 x0, .string x1, .string x2, .int .i64 x3, .slice xa xk xc, .slice ya yk yc])) _) := key_done hrb HO.out hk3 hr3 hl3 (HB.out.trans (hb3.less (by omega)))
    clear hta e3 hk3 hr3 hl3 hb3
    go_wp2_with fail
    exact bodyPost_ret (v := .agg #[.int .i64 x0, .string x1, .string x2, .int .i64 x3, .slice xa xk xc, .slice ya yk yc]) (by simp [results, Tryz.results101, go_sem, v0, v1, v2, v3', v4, v5]) rfl HD.out
end Go.Proofs.YtligkpcoajnjmaaGreatDoorR
namespace Go.Proofs.YtligkpcoajnjmaaGreatDoorR
open Go.RowKit Go.Proofs.Aid Go.Proofs.Hd Go.Proofs.Sq
theorem great_is (s : ByteArray) (w : World) (hs : s.size ≤ 1000000) :
    Calls Tryz.prog 122 #[.string s] w fun e w' => e = .returned (.string ⟨(great s.data.toList).toArray⟩) ∧ Below w.heap.size w w' := by
  have c := moved_any 97 65 (by decide) (by decide) s w hs
  rw [show s.data.toList.map (mv 97 65) = great s.data.toList from List.map_congr_left fun c _ => mv_gr c] at c
  go_enter Tryz.func122, Tryz.ntmps122
  go_wp2_with fail
  refine c.mono ?_
  rintro e w1 ⟨rfl, hb⟩
  go_wp2_with fail
  go_ret
  exact ⟨rfl, hb⟩
end Go.Proofs.YtligkpcoajnjmaaGreatDoorR
