/-
  What key of the document's reader does where it does not come to a wor, and more.
-/
import Derived.Test.YtogigccbnohjjaaGreatDoorBpSfMem
namespace Go.Proofs.YtogigccbnohjjaaGreatDoor
open Go.RowKit Go.Proofs.Aid Go.Proofs.Sq Go.Proofs.Hd
set_option maxHeartbeats 4000000
set_option maxRecDepth 100000
def OutK (w : World) (kb B : Nat) (Ok : Nat → Prop) (R : Sr.Rs Sr.Ky) (e : Ending) (w' : World) : Prop :=
 ∃ (ys : List Value) (v : Value) (k : Sr.Ky) (l : List Sr.Ar) (n E : Int), e = .returned (.tuple #[.agg ys.toArray, v]) ∧ Kx w' (fun q => w.heap.size ≤ q) k ys ∧ Ags w' Ok B l v ∧ KyS w' kb n E ∧ But w.heap.size kb w w' ∧ RelK R k l n E
theorem kbegun (kb B : Nat) (n E N : Int) (l : List Sr.Ar) (v : Value) (Ok : Nat → Prop) (w : World) (hr : KyS w kb n E) (hl : Ags w Ok B l v) (hO : ∀ k, Ok k → k ≠ kb ∧ k < w.heap.size) :
  ∃ W1 W2, w.alloc (.cells #[.int .i64 0, .string ⟨#[]⟩, .string ⟨#[]⟩, .int .i64 0, .slice none 0 0, .slice none 0 0] 32) = W1 ∧ W1.setCell ⟨kb, 0, none⟩ (.int .i64 N) = W2 ∧
   W1.cell? ⟨kb, 0, none⟩ = some (.int .i64 n) ∧ W1.frozen? ⟨kb, 0, none⟩ = false ∧ W2.cell? ⟨kb, 0, none⟩ = some (.int .i64 N) ∧ W2.cell? ⟨kb, 1, none⟩ = some (.int .i64 E) ∧
   W2.heap.size = w.heap.size + 1 ∧ KyS W2 kb N E ∧ Ags W2 Ok B l v ∧ But w.heap.size kb w W2 ∧ W2.heap[w.heap.size]? = some (.cells #[.int .i64 0, .string ⟨#[]⟩, .string ⟨#[]⟩, .int .i64 0, .slice none 0 0, .slice none 0 0] 32 (0, 0)) := by
 have hkb := hr.lt
 have b1 : Below w.heap.size w (w.alloc (.cells #[.int .i64 0, .string ⟨#[]⟩, .string ⟨#[]⟩, .int .i64 0, .slice none 0 0, .slice none 0 0] 32)) := (Below.refl _ _).alloc (Nat.le_refl _) _
 have e1 := heap_alloc_new w (.cells #[.int .i64 0, .string ⟨#[]⟩, .string ⟨#[]⟩, .int .i64 0, .slice none 0 0, .slice none 0 0] 32)
 obtain ⟨W1, hW1⟩ : ∃ W, w.alloc (.cells #[.int .i64 0, .string ⟨#[]⟩, .string ⟨#[]⟩, .int .i64 0, .slice none 0 0, .slice none 0 0] 32) = W := ⟨_, rfl⟩
 have z1 : W1.heap.size = w.heap.size + 1 := by rw [← hW1]; simp
 rw [hW1] at b1 e1
 have hr1 : KyS W1 kb n E := hr.kept (b1.block kb hkb)
 have hl1 : Ags W1 Ok B l v := hl.kept fun k hk hlt => ⟨hk, b1.block k hlt⟩
 have hr2 : KyS (W1.setCell ⟨kb, 0, none⟩ (.int .i64 N)) kb N E := rd_set (i := 0) (.int .i64 N) hr1
 exact ⟨W1, _, hW1, rfl, rd_cell hr1 rfl, rd_free hr1 0, rd_cell hr2 rfl, rd_cell hr2 rfl, by simp [z1], hr2, hl1.kept fun k hk _ => ⟨hk, Below.heap_setCell _ _ _ _ (hO k hk).1⟩, (to_but b1).setB 0 _, (Below.heap_setCell _ _ _ _ (show w.heap.size ≠ kb by omega)).trans e1⟩
theorem kdone {w w3 : World} {kb B : Nat} {Ok : Nat → Prop} {R : Sr.Rs Sr.Ky} {k : Sr.Ky} {l : List Sr.Ar} {v : Value} {n E : Int} {x0 x1 x2 x3 x4 x5 : Value} (hkb : kb < w.heap.size) (hO : ∀ k, Ok k → k ≠ kb ∧ k < w.heap.size) (hk : Kx w3 (fun q => w.heap.size + 1 ≤ q) k [x0, x1, x2, x3, x4, x5]) (hr : KyS w3 kb n E) (hl : Ags w3 Ok B l v) (hb : But w.heap.size kb w w3) (hR : RelK R k l n E) :
  OutK w kb B Ok R (.returned (.tuple #[.agg #[x0, x1, x2, x3, x4, x5], v])) ((((((w3.setCell ⟨w.heap.size, 0, none⟩ x0).setCell ⟨w.heap.size, 1, none⟩ x1).setCell ⟨w.heap.size, 2, none⟩ x2).setCell ⟨w.heap.size, 3, none⟩ x3).setCell ⟨w.heap.size, 4, none⟩ x4).setCell ⟨w.heap.size, 5, none⟩ x5) :=
 ⟨_, v, k, l, n, E, rfl, hk.kept fun q hq hlt => ⟨by omega, six_other _ (by omega) _ _ _ _ _ _⟩, hl.kept fun q hq _ => ⟨hq, six_other _ (by have := (hO q hq).2; omega) _ _ _ _ _ _⟩, hr.kept (six_other _ (by omega) _ _ _ _ _ _), six_but hb (Nat.le_refl _) _ _ _ _ _ _, hR⟩
theorem kkey_stop (kb B d : Nat) (n E N : Int) (l : List Sr.Ar) (v : Value) (Ok : Nat → Prop) (w : World) (T : Sr.Rs Sr.Ky) (hr : KyS w kb n E) (hl : Ags w Ok B l v) (hO : ∀ k, Ok k → k ≠ kb ∧ k < w.heap.size) (hN : wrap64 (n + 1) = N) (h : E ≠ 0 ∨ 60 < N ∨ 6 < d)
  (hT : ∀ k l n E', Took E 4 E' → RelK T k l n E') :
  Calls Tryz.prog 37 #[.pointer (some ⟨kb, 0, none⟩), v, .int .i64 (d : Int)] w fun e w' => OutK w kb B Ok T e w' := by
 have hkb := hr.lt
 obtain ⟨W1, W2, hW1, hW2, p1, f1, q0, q1, z2, hr2, hl2, hb2, hE2⟩ := kbegun kb B n E N l v Ok w hr hl hO
 have HO : Hid (∀ k, Ok k → k ≠ kb ∧ k < w.heap.size) := hO
 have HT : Hid (∀ k l n E', Took E 4 E' → RelK T k l n E') := hT
 clear hr hl hO hl2 hT
 by_cases hst : 60 < N ∨ 6 < d
 ·have cF := kfails kb N E 4 W2 hr2
  have HX : Hid (But w.heap.size kb w W2 ∧ W2.heap[w.heap.size]? = some (.cells #[.int .i64 0, .string ⟨#[]⟩, .string ⟨#[]⟩, .int .i64 0, .slice none 0 0, .slice none 0 0] 32 (0, 0))) := ⟨hb2, hE2⟩
  clear hr2 hb2 hE2 h
  by_cases hN60 : 60 < N
  ·have d1 : decide ((60 : Int) < N) = true := decide_eq_true hN60
   clear hst
   go_enter Tryz.func37, Tryz.ntmps37
   go_wp2_with fail
   refine cF.mono ?_
   rintro e w3 ⟨E', rfl, k1, k2, k3⟩
   have e3 := (k2.block w.heap.size (by omega) (by omega)).trans HX.out.2
   have hE' : E' ≠ 0 := by rcases k3 with ⟨_, h⟩ | ⟨h, h'⟩ <;> omega
   have i1 : (E' != 0) = true := by simpa using hE'
   have r1 : w3.cell? ⟨kb, 1, none⟩ = some (.int .i64 E') := rd_cell k1 rfl
   obtain ⟨⟨s0, s1, s2, s3, s4, s5⟩, ⟨sf0, sf1, sf2, sf3, sf4, sf5⟩, u0, u1, u2, u3, u4, u5⟩ := six_facts e3 (.int .i64 0) (.string ⟨#[]⟩) (.string ⟨#[]⟩) (.int .i64 0) (.slice none 0 0) (.slice none 0 0)
   have HD : Hid (OutK w kb B Ok T (.returned (.tuple #[.agg #[.int .i64 0, .string ⟨#[]⟩, .string ⟨#[]⟩, .int .i64 0, .slice none 0 0, .slice none 0 0], .slice none 0 0])) _) := kdone hkb HO.out (kx_leaf w3 _ 0 0 ⟨#[]⟩ ⟨#[]⟩) k1 (ags_none _ _ _) (HX.out.1.trans (k2.less (by omega))) (HT.out _ _ _ _ k3)
   clear k1 k2 k3 cF e3 hE' HX HT HO
   go_wp2_with fail
   exact bodyPost_ret (v := .tuple #[.agg #[.int .i64 0, .string ⟨#[]⟩, .string ⟨#[]⟩, .int .i64 0, .slice none 0 0, .slice none 0 0], .slice none 0 0]) (by simp [results, Tryz.results37, go_sem, u0, u1, u2, u3, u4, u5]) rfl HD.out
  ·have d1 : decide ((60 : Int) < N) = false := decide_eq_false hN60
   have d2 : decide ((6 : Int) < (d : Int)) = true := decide_eq_true (by omega)
   clear hst
   go_enter Tryz.func37, Tryz.ntmps37
   go_wp2_with fail
   refine cF.mono ?_
   rintro e w3 ⟨E', rfl, k1, k2, k3⟩
   have e3 := (k2.block w.heap.size (by omega) (by omega)).trans HX.out.2
   have hE' : E' ≠ 0 := by rcases k3 with ⟨_, h⟩ | ⟨h, h'⟩ <;> omega
   have i1 : (E' != 0) = true := by simpa using hE'
   have r1 : w3.cell? ⟨kb, 1, none⟩ = some (.int .i64 E') := rd_cell k1 rfl
   obtain ⟨⟨s0, s1, s2, s3, s4, s5⟩, ⟨sf0, sf1, sf2, sf3, sf4, sf5⟩, u0, u1, u2, u3, u4, u5⟩ := six_facts e3 (.int .i64 0) (.string ⟨#[]⟩) (.string ⟨#[]⟩) (.int .i64 0) (.slice none 0 0) (.slice none 0 0)
   have HD : Hid (OutK w kb B Ok T (.returned (.tuple #[.agg #[.int .i64 0, .string ⟨#[]⟩, .string ⟨#[]⟩, .int .i64 0, .slice none 0 0, .slice none 0 0], .slice none 0 0])) _) := kdone hkb HO.out (kx_leaf w3 _ 0 0 ⟨#[]⟩ ⟨#[]⟩) k1 (ags_none _ _ _) (HX.out.1.trans (k2.less (by omega))) (HT.out _ _ _ _ k3)
   clear k1 k2 k3 cF e3 hE' HX HT HO
   go_wp2_with fail
   exact bodyPost_ret (v := .tuple #[.agg #[.int .i64 0, .string ⟨#[]⟩, .string ⟨#[]⟩, .int .i64 0, .slice none 0 0, .slice none 0 0], .slice none 0 0]) (by simp [results, Tryz.results37, go_sem, u0, u1, u2, u3, u4, u5]) rfl HD.out
 ·have d1 : decide ((60 : Int) < N) = false := decide_eq_false (fun h => hst (Or.inl h))
  have d2 : decide ((6 : Int) < (d : Int)) = false := decide_eq_false (fun h => hst (Or.inr (by omega)))
  have hE : E ≠ 0 := by rcases h with h | h | h <;> first | exact h | omega
  have i1 : (E != 0) = true := by simpa using hE
  have HE0 : Hid (Took E 4 E) := Or.inr ⟨hE, rfl⟩
  clear hst h hE
  go_enter Tryz.func37, Tryz.ntmps37
  obtain ⟨⟨s0, s1, s2, s3, s4, s5⟩, ⟨sf0, sf1, sf2, sf3, sf4, sf5⟩, u0, u1, u2, u3, u4, u5⟩ := six_facts hE2 (.int .i64 0) (.string ⟨#[]⟩) (.string ⟨#[]⟩) (.int .i64 0) (.slice none 0 0) (.slice none 0 0)
  have HD : Hid (OutK w kb B Ok T (.returned (.tuple #[.agg #[.int .i64 0, .string ⟨#[]⟩, .string ⟨#[]⟩, .int .i64 0, .slice none 0 0, .slice none 0 0], .slice none 0 0])) _) := kdone hkb HO.out (kx_leaf W2 _ 0 0 ⟨#[]⟩ ⟨#[]⟩) hr2 (ags_none _ _ _) hb2 (HT.out _ _ _ _ HE0.out)
  clear hr2 hb2 hE2 HT HO HE0
  go_wp2_with fail
  exact bodyPost_ret (v := .tuple #[.agg #[.int .i64 0, .string ⟨#[]⟩, .string ⟨#[]⟩, .int .i64 0, .slice none 0 0, .slice none 0 0], .slice none 0 0]) (by simp [results, Tryz.results37, go_sem, u0, u1, u2, u3, u4, u5]) rfl HD.out
theorem kkey_none (kb B d c : Nat) (v : Value) (Ok : Nat → Prop) (w : World) (hr : KyS w kb (c : Int) 0) (hl : Ags w Ok B [] v) (hO : ∀ k, Ok k → k ≠ kb ∧ k < w.heap.size) (hd : d ≤ 6) (hc : c + 1 ≤ 60) :
  Calls Tryz.prog 37 #[.pointer (some ⟨kb, 0, none⟩), v, .int .i64 (d : Int)] w fun e w' => OutK w kb B Ok (.bad 3) e w' := by
 have hkb := hr.lt
 obtain ⟨T, hT⟩ : ∃ T, (Sr.Rs.bad 3 : Sr.Rs Sr.Ky) = T := ⟨_, rfl⟩
 rw [hT]
 obtain ⟨a3, c3, rfl⟩ := hl.nil
 obtain ⟨W1, W2, hW1, hW2, p1, f1, q0, q1, z2, hr2, hl2, hb2, hE2⟩ := kbegun kb B (c : Int) 0 ((c : Int) + 1) [] _ Ok w hr hl hO
 have cW := kword_bad kb B ((c : Int) + 1) 0 [] _ Ok W2 hr2 hl2 rfl
 have HO : Hid (∀ k, Ok k → k ≠ kb ∧ k < w.heap.size) := hO
 have HX : Hid (But w.heap.size kb w W2 ∧ W2.heap[w.heap.size]? = some (.cells #[.int .i64 0, .string ⟨#[]⟩, .string ⟨#[]⟩, .int .i64 0, .slice none 0 0, .slice none 0 0] 32 (0, 0))) := ⟨hb2, hE2⟩
 have HT : Hid ((Sr.Rs.bad 3 : Sr.Rs Sr.Ky) = T) := hT
 clear hr hl hO hr2 hl2 hb2 hE2 hT
 have d1 : decide ((60 : Int) < (c : Int) + 1) = false := decide_eq_false (by omega)
 have d2 : decide ((6 : Int) < (d : Int)) = false := decide_eq_false (by omega)
 go_enter Tryz.func37, Tryz.ntmps37
 go_wp2_with fail
 refine cW.mono ?_
 rintro e w3 ⟨tb, v3, l3, E3, rfl, htz, hl3, k1, k2, hrel⟩
 have hR := hrel
 unfold atK at hR
 rw [if_pos rfl] at hR
 obtain ⟨rfl, _⟩ : E3 = 3 ∧ (3 : Int) ≠ 0 := hR
 have e3 := (k2.block w.heap.size (by omega) (by omega)).trans HX.out.2
 have r1 : w3.cell? ⟨kb, 1, none⟩ = some (.int .i64 3) := rd_cell k1 rfl
 obtain ⟨⟨s0, s1, s2, s3, s4, s5⟩, ⟨sf0, sf1, sf2, sf3, sf4, sf5⟩, u0, u1, u2, u3, u4, u5⟩ := six_facts e3 (.int .i64 0) (.string ⟨#[]⟩) (.string ⟨#[]⟩) (.int .i64 0) (.slice none 0 0) (.slice none 0 0)
 have HD : Hid (OutK w kb B Ok T (.returned (.tuple #[.agg #[.int .i64 0, .string ⟨#[]⟩, .string ⟨#[]⟩, .int .i64 0, .slice none 0 0, .slice none 0 0], .slice none 0 0])) _) := kdone hkb HO.out (kx_leaf w3 _ 0 0 ⟨#[]⟩ ⟨#[]⟩) k1 (ags_none _ _ _) (HX.out.1.trans (k2.less (by omega))) (by rw [← HT.out]; exact ⟨rfl, by decide⟩)
 clear k1 k2 cW e3 HX HO HT hl3 hrel
 go_wp2_with fail
 exact bodyPost_ret (v := .tuple #[.agg #[.int .i64 0, .string ⟨#[]⟩, .string ⟨#[]⟩, .int .i64 0, .slice none 0 0, .slice none 0 0], .slice none 0 0]) (by simp [results, Tryz.results37, go_sem, u0, u1, u2, u3, u4, u5]) rfl HD.out
end Go.Proofs.YtogigccbnohjjaaGreatDoor
namespace Go.Proofs.YtogigccbnohjjaaGreatDoor
open Go.RowKit Go.Proofs.Aid Go.Proofs.Hd
theorem small_is (s : ByteArray) (w : World) (hs : s.size ≤ 2000000) :
  Calls Tryz.prog 79 #[.string s] w fun e w' => e = .returned (.string ⟨(small s.data.toList).toArray⟩) ∧ Below w.heap.size w w' := by
 have c := moved_any 65 97 (by decide) (by decide) s w hs
 rw [show s.data.toList.map (mv 65 97) = small s.data.toList from List.map_congr_left fun c _ => mv_sm c] at c
 go_enter Tryz.func79, Tryz.ntmps79
 go_wp2_with fail
 refine c.mono ?_
 rintro e w1 ⟨rfl, hb⟩
 go_wp2_with fail
 go_ret
 exact ⟨rfl, hb⟩
end Go.Proofs.YtogigccbnohjjaaGreatDoor
namespace Go.Proofs.YtogigccbnohjjaaGreatDoor
open Go.RowKit Go.Proofs.Aid Go.Proofs.Sq Go.Proofs.Hd
set_option maxHeartbeats 2000000
set_option maxRecDepth 100000
theorem RdS.kept {w w' : World} {rb c : Nat} {v : Value} (h : RdS w rb v c) (hb : w'.heap[rb]? = w.heap[rb]?) : RdS w' rb v c := hb.trans h
theorem field_bad (name : ByteArray) (rb c B : Nat) (l : List Sr.Ar) (v : Value) (Ok : Nat → Prop) (w : World) (hn : name.size ≤ 2000000) (hr : RdS w rb v c) (hl : Ags w Ok B l v) (hrb : rb < w.heap.size) (h : Sr.wordF l c = .bad 3) :
  Calls Tryz.prog 68 #[.pointer (some ⟨rb, 0, none⟩), .string name] w fun e w' => e = thrown 3 ∧ Below w.heap.size w w' := by
 have b1 : Below w.heap.size w (w.alloc (.cells #[.int .i64 0, .string ⟨#[]⟩, .string ⟨#[]⟩, .int .i64 0, .slice none 0 0, .slice none 0 0] 32)) := (Below.refl _ _).alloc (Nat.le_refl _) _
 obtain ⟨W1, hW1⟩ : ∃ W, w.alloc (.cells #[.int .i64 0, .string ⟨#[]⟩, .string ⟨#[]⟩, .int .i64 0, .slice none 0 0, .slice none 0 0] 32) = W := ⟨_, rfl⟩
 rw [hW1] at b1
 have cS := small_is name W1 hn
 obtain ⟨nb, hnb⟩ : ∃ nb : ByteArray, ⟨(small name.data.toList).toArray⟩ = nb := ⟨_, rfl⟩
 rw [hnb] at cS
 have HB1 : Hid (Below w.heap.size w W1) := b1
 have HR : Hid (∀ W, Below w.heap.size w W → RdS W rb v c ∧ Ags W Ok B l v) := fun W hb => ⟨hr.kept (hb.block rb hrb), hl.kept fun k hk hlt => ⟨hk, hb.block k hlt⟩⟩
 clear b1 hnb hr hl
 go_enter Tryz.func68, Tryz.ntmps68
 go_wp2_with fail
 refine cS.mono ?_
 rintro e w2 ⟨rfl, hb2⟩
 have hb := HB1.out.trans (hb2.mono HB1.out.size)
 have HB : Hid (Below w.heap.size w w2) := hb
 have cW := word_bad rb c B l v Ok w2 (HR.out w2 hb).1 (HR.out w2 hb).2 h
 unfold thrown at cW
 clear hb hb2 cS
 go_wp2_with fail
 refine cW.mono ?_
 rintro e w3 ⟨rfl, hw3⟩
 obtain rfl : w2 = w3 := hw3.symm
 go_wp2_with fail
 exact ⟨rfl, rfl, HB.out⟩
theorem field_ok (name : ByteArray) (rb c B : Nat) (x : Sr.Ar) (l : List Sr.Ar) (v : Value) (Ok : Nat → Prop) (w : World) (hn : name.size ≤ 2000000) (hr : RdS w rb v c) (hl : Ags w Ok B (x :: l) v) (hrb : rb < w.heap.size) (hO : ∀ k, Ok k → k ≠ rb ∧ k < w.heap.size) (hk : x.kind ≠ 3) :
  Calls Tryz.prog 68 #[.pointer (some ⟨rb, 0, none⟩), .string name] w fun e w' => ∃ ys v', e = .returned (.agg ys.toArray) ∧ Kx w' (fun _ => False) (.mk 3 (small name.data.toList) x.text 0 [] []) ys ∧ RdS w' rb v' c ∧ Ags w' Ok B l v' ∧ But w.heap.size rb w w' := by
 have b1 : Below w.heap.size w (w.alloc (.cells #[.int .i64 0, .string ⟨#[]⟩, .string ⟨#[]⟩, .int .i64 0, .slice none 0 0, .slice none 0 0] 32)) := (Below.refl _ _).alloc (Nat.le_refl _) _
 have e1 := heap_alloc_new w (.cells #[.int .i64 0, .string ⟨#[]⟩, .string ⟨#[]⟩, .int .i64 0, .slice none 0 0, .slice none 0 0] 32)
 obtain ⟨W1, hW1⟩ : ∃ W, w.alloc (.cells #[.int .i64 0, .string ⟨#[]⟩, .string ⟨#[]⟩, .int .i64 0, .slice none 0 0, .slice none 0 0] 32) = W := ⟨_, rfl⟩
 have z1 : W1.heap.size = w.heap.size + 1 := by rw [← hW1]; simp
 rw [hW1] at b1 e1
 have cS := small_is name W1 hn
 obtain ⟨nb, hnb⟩ : ∃ nb : ByteArray, ⟨(small name.data.toList).toArray⟩ = nb := ⟨_, rfl⟩
 rw [hnb] at cS
 have hnl : nb.data.toList = small name.data.toList := by rw [← hnb]
 have HN : Hid (nb.data.toList = small name.data.toList) := hnl
 have HB1 : Hid (Below w.heap.size w W1) := b1
 have HE1 : Hid (W1.heap[w.heap.size]? = some (.cells #[.int .i64 0, .string ⟨#[]⟩, .string ⟨#[]⟩, .int .i64 0, .slice none 0 0, .slice none 0 0] 32 (0, 0))) := e1
 have HR : Hid (∀ W, Below w.heap.size w W → RdS W rb v c ∧ Ags W Ok B (x :: l) v) := fun W hb => ⟨hr.kept (hb.block rb hrb), hl.kept fun k hk hlt => ⟨hk, hb.block k hlt⟩⟩
 have HO : Hid (∀ k, Ok k → k ≠ rb ∧ k < w.heap.size) := hO
 clear b1 e1 hnb hnl hr hl hO
 go_enter Tryz.func68, Tryz.ntmps68
 go_wp2_with fail
 refine cS.mono ?_
 rintro e w2 ⟨rfl, hb2⟩
 have hb := HB1.out.trans (hb2.mono HB1.out.size)
 have hE2 := (hb2.block w.heap.size (by omega)).trans HE1.out
 have hz2 : w.heap.size < w2.heap.size := by have := hb2.size; omega
 have cW := word_ok rb c B x l v Ok w2 (HR.out w2 hb).1 (HR.out w2 hb).2 (fun k hk => (HO.out k hk).1) hk
 have HB : Hid (Below w.heap.size w w2) := hb
 have HE2 : Hid (w2.heap[w.heap.size]? = some (.cells #[.int .i64 0, .string ⟨#[]⟩, .string ⟨#[]⟩, .int .i64 0, .slice none 0 0, .slice none 0 0] 32 (0, 0))) := hE2
 clear hb hb2 cS hE2
 go_wp2_with fail
 refine cW.mono ?_
 rintro e w3 ⟨tb, v', htb, htz, rfl, hr3, hl3, hbut⟩
 have e3 := (hbut.block w.heap.size hz2 (by omega)).trans HE2.out
 obtain ⟨⟨r0, r1, r2, r3, r4, r5⟩, ⟨rf0, rf1, rf2, rf3, rf4, rf5⟩, v0, v1, v2, v3, v4, v5⟩ := six_facts e3 (.int .i64 3) (.string nb) (.string tb) (.int .i64 0) (.slice none 0 0) (.slice none 0 0)
 have HT : Hid (tb.data.toList = x.text) := htb
 have HX : Hid (RdS w3 rb v' c ∧ Ags w3 Ok B l v' ∧ But w2.heap.size rb w2 w3) := ⟨hr3, hl3, hbut⟩
 clear e3 htb hr3 hl3 hbut cW
 go_wp2_with fail
 refine bodyPost_ret (v := .agg #[.int .i64 3, .string nb, .string tb, .int .i64 0, .slice none 0 0, .slice none 0 0]) (by simp [results, Tryz.results68, go_sem, v0, v1, v2, v3, v4, v5]) rfl ?_
 refine ⟨_, v', rfl, ?_, HX.out.1.kept (six_other _ (by omega) _ _ _ _ _ _), HX.out.2.1.kept fun k hk _ => ⟨hk, six_other _ (by have := (HO.out k hk).2; omega) _ _ _ _ _ _⟩, six_but ((to_but HB.out).trans ⟨HX.out.2.2.os, HX.out.2.2.tape, HX.out.2.2.output, HX.out.2.2.size, fun k hk hb => HX.out.2.2.block k (by omega) hb⟩) (by omega) _ _ _ _ _ _⟩
 rw [← HT.out, ← HN.out]
 exact kx_leaf _ _ 3 0 nb tb
end Go.Proofs.YtogigccbnohjjaaGreatDoor
namespace Go.Proofs.YtogigccbnohjjaaGreatDoor
open Go.RowKit Go.Proofs.Aid Go.Proofs.Sq Go.Proofs.Hd
set_option maxHeartbeats 4000000
set_option maxRecDepth 100000
def Out (w : World) (rb B : Nat) (Ok : Nat → Prop) : Sr.Rs Sr.Ky → Ending → World → Prop
 | .bad n, e, w' => e = thrown n ∧ But w.heap.size rb w w'
 | .ok k l c, e, w' => ∃ ys v, e = .returned (.agg ys.toArray) ∧ Kx w' (fun q => w.heap.size ≤ q) k ys ∧ RdS w' rb v c ∧ Ags w' Ok B l v ∧ But w.heap.size rb w w'
theorem list_is (rb c B d : Nat) (x : Sr.Ar) (l : List Sr.Ar) (v : Value) (Ok : Nat → Prop) (w : World) (R : Sr.Rs Sr.Ky) (hd : d ≤ 1000) (hr : RdS w rb v c) (hl : Ags w Ok B (x :: l) v) (hrb : rb < w.heap.size) (hO : ∀ k, Ok k → k ≠ rb ∧ k < w.heap.size)
  (cK : ∀ W lv, RdS W rb lv c → Ags W Ok B x.list lv → But w.heap.size rb w W → Calls Tryz.prog 17 #[.pointer (some ⟨rb, 0, none⟩), .int .i64 ((d : Int) + 1)] W fun e w' => Out W rb B Ok R e w') :
  Calls Tryz.prog 63 #[.pointer (some ⟨rb, 0, none⟩), .int .i64 (d : Int)] w fun e w' => Out w rb B Ok (R.then fun k _ c => .ok k l c) e w' := by
 have b1 : Below w.heap.size w (w.alloc (.cells #[.int .i64 0, .string ⟨#[]⟩, .string ⟨#[]⟩, .int .i64 0, .slice none 0 0, .slice none 0 0] 32)) := (Below.refl _ _).alloc (Nat.le_refl _) _
 have e1 := heap_alloc_new w (.cells #[.int .i64 0, .string ⟨#[]⟩, .string ⟨#[]⟩, .int .i64 0, .slice none 0 0, .slice none 0 0] 32)
 obtain ⟨W1, hW1⟩ : ∃ W, w.alloc (.cells #[.int .i64 0, .string ⟨#[]⟩, .string ⟨#[]⟩, .int .i64 0, .slice none 0 0, .slice none 0 0] 32) = W := ⟨_, rfl⟩
 have z1 : W1.heap.size = w.heap.size + 1 := by rw [← hW1]; simp
 rw [hW1] at b1 e1
 have hr1 : RdS W1 rb v c := hr.kept (b1.block rb hrb)
 have hl1 : Ags W1 Ok B (x :: l) v := hl.kept fun k hk hlt => ⟨hk, b1.block k hlt⟩
 have p0 : W1.cell? ⟨rb, 0, none⟩ = some v := rd_cell hr1 rfl
 have f0 : W1.frozen? ⟨rb, 0, none⟩ = false := rd_free hr1 0
 obtain ⟨b, o, C, tb, lv, rfl, hC, hC2, hOb, htb, hsz, hlist, c1, c2, c3, hrest⟩ := hl1.head
 obtain ⟨la, lc, rfl⟩ := hlist.form
 obtain ⟨LN, hLN⟩ : ∃ n, x.list.length = n := ⟨_, rfl⟩
 rw [hLN] at c3 hlist
 have hset := Below.heap_setCell
 have b2 : But w.heap.size rb w (W1.setCell ⟨rb, 0, none⟩ (.slice la LN lc)) := (to_but b1).setB 0 _
 have hr2 : RdS (W1.setCell ⟨rb, 0, none⟩ (.slice la LN lc)) rb (.slice la LN lc) c := by
  show _ = _
  exact rd_set (i := 0) _ hr1
 have hk2 : ∀ k, k ≠ rb → (W1.setCell ⟨rb, 0, none⟩ (.slice la LN lc)).heap[k]? = W1.heap[k]? := fun k hk => Below.heap_setCell _ _ _ _ hk
 have hz2 : (W1.setCell ⟨rb, 0, none⟩ (.slice la LN lc)).heap.size = w.heap.size + 1 := by simp [z1]
 obtain ⟨W2, hW2⟩ : ∃ W, W1.setCell ⟨rb, 0, none⟩ (.slice la LN lc) = W := ⟨_, rfl⟩
 rw [hW2] at b2 hr2 hk2 hz2
 have cQ := cK W2 (.slice la LN lc) hr2 (hlist.kept fun k hk _ => ⟨hk, hk2 k (hO k hk).1⟩) b2
 have e2 := (hk2 w.heap.size (by omega)).trans e1
 have HA : Hid (Ags W2 Ok B l (.slice (if C = 0 then some ⟨b, o, none⟩ else some ⟨b, o + 3, none⟩) l.length C)) := hrest.kept fun k hk _ => ⟨hk, hk2 k (hO k hk).1⟩
 have HO : Hid (∀ k, Ok k → k ≠ rb ∧ k < w.heap.size) := hO
 have HB : Hid (But w.heap.size rb w W2) := b2
 have HE : Hid (W2.heap[w.heap.size]? = some (.cells #[.int .i64 0, .string ⟨#[]⟩, .string ⟨#[]⟩, .int .i64 0, .slice none 0 0, .slice none 0 0] 32 (0, 0))) := e2
 have HZ : Hid (W2.heap.size = w.heap.size + 1) := hz2
 obtain ⟨L, hL⟩ : ∃ L, l.length = L := ⟨_, rfl⟩
 rw [hL] at hC p0 HA
 have i2 : (1 : Int) ≤ (L : Int) + 1 := by omega
 have i3 : (L : Int) + 1 ≤ (C : Int) + 1 := by omega
 clear b1 e1 hr hl hr1 hl1 hO cK hlist hLN hset b2 hr2 hk2 hz2 e2 hL hrest htb hsz
 go_enter Tryz.func63, Tryz.ntmps63
 obtain ⟨BV, hBV⟩ : ∃ BV, BV = Value.slice (if C = 0 then some ⟨b, o, none⟩ else some ⟨b, o + 3, none⟩) L C := ⟨_, rfl⟩
 rw [← hBV] at HA
 have HV : Hid (BV = Value.slice (if C = 0 then some ⟨b, o, none⟩ else some ⟨b, o + 3, none⟩) L C) := hBV
 clear hBV
 rcases Nat.eq_zero_or_pos C with hC0 | hC0
 ·subst hC0
  obtain rfl : L = 0 := by omega
  go_wp2_with fail
  have hv : Value.slice (some ⟨b, o, none⟩) 0 0 = BV := by rw [HV.out]; simp
  rw [hv]
  obtain ⟨A, N, CC, hbv⟩ : ∃ A N CC, BV = Value.slice A N CC := ⟨_, _, _, HV.out⟩
  clear HV hv p0 c1 c2 c3 i2 i3 hC hC2 f0
  subst hbv
  refine cQ.mono ?_
  intro e w3 h3
  clear cQ
  cases R with
  | bad n =>
   obtain ⟨rfl, hb3⟩ := h3
   have HB3 : Hid (But W2.heap.size rb W2 w3) := hb3
   clear hb3
   unfold thrown
   go_wp2_with fail
   exact ⟨rfl, rfl, HB.out.trans (HB3.out.less (by have := HZ.out; omega))⟩
  | ok k r cn =>
   obtain ⟨ys, v3, rfl, hk3, hr3, hl3, hb3⟩ := h3
   obtain ⟨x0, x3, x1, x2, xa, xk, xc, ya, yk, yc, rfl⟩ := kx_cells hk3
   have hta : ([.int .i64 x0, .string x1, .string x2, .int .i64 x3, .slice xa xk xc, .slice ya yk yc] : List Value).toArray = #[.int .i64 x0, .string x1, .string x2, .int .i64 x3, .slice xa xk xc, .slice ya yk yc] := rfl
   rw [hta]
   have hz := HZ.out
   have hs3 := hb3.size
   have e3 := (hb3.block w.heap.size (by omega) (by omega)).trans HE.out
   have b4 : Below w3.heap.size w3 (w3.alloc (.cells #[.int .i64 0, .string ⟨#[]⟩, .string ⟨#[]⟩, .int .i64 0, .slice none 0 0, .slice none 0 0] 32)) := (Below.refl _ _).alloc (Nat.le_refl _) _
   have e4 := heap_alloc_new w3 (.cells #[.int .i64 0, .string ⟨#[]⟩, .string ⟨#[]⟩, .int .i64 0, .slice none 0 0, .slice none 0 0] 32)
   obtain ⟨Wa, hWa⟩ : ∃ W, w3.alloc (.cells #[.int .i64 0, .string ⟨#[]⟩, .string ⟨#[]⟩, .int .i64 0, .slice none 0 0, .slice none 0 0] 32) = W := ⟨_, rfl⟩
   rw [hWa] at b4 e4
   obtain ⟨⟨r0, r1, r2, r3, r4, r5⟩, ⟨rf0, rf1, rf2, rf3, rf4, rf5⟩, _⟩ := six_facts e4 (.int .i64 x0) (.string x1) (.string x2) (.int .i64 x3) (.slice xa xk xc) (.slice ya yk yc)
   have eb := six_set e4 (.int .i64 x0) (.string x1) (.string x2) (.int .i64 x3) (.slice xa xk xc) (.slice ya yk yc)
   have ob : ∀ q, q ≠ w3.heap.size → _ := fun q hq => six_other Wa (k := q) hq (.int .i64 x0) (.string x1) (.string x2) (.int .i64 x3) (.slice xa xk xc) (.slice ya yk yc)
   have bb := six_but (rb := rb) (R := w3.heap.size) (to_but b4) (Nat.le_refl _) (.int .i64 x0) (.string x1) (.string x2) (.int .i64 x3) (.slice xa xk xc) (.slice ya yk yc)
   obtain ⟨Wb, hWb⟩ : ∃ W, ((((((Wa.setCell ⟨w3.heap.size, 0, none⟩ (.int .i64 x0)).setCell ⟨w3.heap.size, 1, none⟩ (.string x1)).setCell ⟨w3.heap.size, 2, none⟩ (.string x2)).setCell ⟨w3.heap.size, 3, none⟩ (.int .i64 x3)).setCell ⟨w3.heap.size, 4, none⟩ (.slice xa xk xc)).setCell ⟨w3.heap.size, 5, none⟩ (.slice ya yk yc)) = W := ⟨_, rfl⟩
   rw [hWb] at eb bb
   have ob' : ∀ q, q ≠ w3.heap.size → Wb.heap[q]? = Wa.heap[q]? := fun q hq => by rw [← hWb]; exact ob q hq
   have hrb3 : rb < w3.heap.size := by omega
   have hrB : RdS Wb rb v3 cn := hr3.kept ((ob' rb (by omega)).trans (b4.block rb hrb3))
   have p0 : Wb.cell? ⟨rb, 0, none⟩ = some v3 := rd_cell hrB rfl
   have f0 : Wb.frozen? ⟨rb, 0, none⟩ = false := rd_free hrB 0
   have hrC : RdS (Wb.setCell ⟨rb, 0, none⟩ (.slice A N CC)) rb (.slice A N CC) cn := by
    show _ = _
    exact rd_set (i := 0) _ hrB
   have hkC : ∀ q, q ≠ rb → (Wb.setCell ⟨rb, 0, none⟩ (.slice A N CC)).heap[q]? = Wb.heap[q]? := fun q hq => Below.heap_setCell _ _ _ _ hq
   have bC := bb.setB 0 (.slice A N CC)
   obtain ⟨Wc, hWc⟩ : ∃ W, Wb.setCell ⟨rb, 0, none⟩ (.slice A N CC) = W := ⟨_, rfl⟩
   rw [hWc] at hrC hkC bC
   have eN := (hkC w3.heap.size (by omega)).trans eb
   have l0 := rd_cell (j := 0) eN rfl
   have l1 := rd_cell (j := 1) eN rfl
   have l2 := rd_cell (j := 2) eN rfl
   have l3 := rd_cell (j := 3) eN rfl
   have l4 := rd_cell (j := 4) eN rfl
   have l5 := rd_cell (j := 5) eN rfl
   have hold : ∀ q, q ≠ rb → q < w3.heap.size → Wc.heap[q]? = w3.heap[q]? := fun q hq hlt => (hkC q hq).trans ((ob' q (by omega)).trans (b4.block q hlt))
   have e5 := (hold w.heap.size (by omega) (by omega)).trans e3
   obtain ⟨⟨s0, s1, s2, s3, s4, s5⟩, ⟨sf0, sf1, sf2, sf3, sf4, sf5⟩, v0, v1, v2, v3', v4, v5⟩ := six_facts e5 (.int .i64 x0) (.string x1) (.string x2) (.int .i64 x3) (.slice xa xk xc) (.slice ya yk yc)
   have HK : Hid (Kx Wc (fun q => w.heap.size < q ∧ q < w3.heap.size) k [.int .i64 x0, .string x1, .string x2, .int .i64 x3, .slice xa xk xc, .slice ya yk yc]) := hk3.kept fun q hq hlt => ⟨⟨by omega, hlt⟩, hold q (by omega) hlt⟩
   have HA3 : Hid (Ags Wc (fun q => Ok q) B l (.slice A N CC)) := HA.out.kept fun q hq hlt => ⟨hq, (hold q (HO.out q hq).1 (by omega)).trans (hb3.block q hlt (HO.out q hq).1)⟩
   have HRC : Hid (RdS Wc rb (.slice A N CC) cn) := hrC
   have HBC : Hid (But w.heap.size rb w Wc) := (HB.out.trans (hb3.less (by omega))).trans (bC.less (by omega))
   clear hta hs3 e3 b4 e4 eb ob bb ob' hrB hrC hkC bC eN hold e5 hk3 hr3 hl3 hb3 HA
   go_wp2_with fail
   refine bodyPost_ret (v := .agg #[.int .i64 x0, .string x1, .string x2, .int .i64 x3, .slice xa xk xc, .slice ya yk yc]) (by simp [results, Tryz.results63, go_sem, v0, v1, v2, v3', v4, v5]) rfl ?_
   exact ⟨_, .slice A N CC, rfl, HK.out.kept fun q hq hlt => ⟨by omega, six_other _ (by omega) _ _ _ _ _ _⟩, HRC.out.kept (six_other _ (by omega) _ _ _ _ _ _), HA3.out.kept fun q hq _ => ⟨hq, six_other _ (by have := (HO.out q hq).2; omega) _ _ _ _ _ _⟩, six_but HBC.out (Nat.le_refl _) _ _ _ _ _ _⟩
 ·have hC1 : ¬ C = 0 := by omega
  go_wp2_with fail
  have hv : Value.slice (some ⟨b, o + 3, none⟩) L C = BV := by rw [HV.out]; simp [hC1]
  rw [hv]
  obtain ⟨A, N, CC, hbv⟩ : ∃ A N CC, BV = Value.slice A N CC := ⟨_, _, _, HV.out⟩
  clear HV hv p0 c1 c2 c3 i2 i3 hC hC2 f0 hC0 hC1
  subst hbv
  refine cQ.mono ?_
  intro e w3 h3
  clear cQ
  cases R with
  | bad n =>
   obtain ⟨rfl, hb3⟩ := h3
   have HB3 : Hid (But W2.heap.size rb W2 w3) := hb3
   clear hb3
   unfold thrown
   go_wp2_with fail
   exact ⟨rfl, rfl, HB.out.trans (HB3.out.less (by have := HZ.out; omega))⟩
  | ok k r cn =>
   obtain ⟨ys, v3, rfl, hk3, hr3, hl3, hb3⟩ := h3
   obtain ⟨x0, x3, x1, x2, xa, xk, xc, ya, yk, yc, rfl⟩ := kx_cells hk3
   have hta : ([.int .i64 x0, .string x1, .string x2, .int .i64 x3, .slice xa xk xc, .slice ya yk yc] : List Value).toArray = #[.int .i64 x0, .string x1, .string x2, .int .i64 x3, .slice xa xk xc, .slice ya yk yc] := rfl
   rw [hta]
   have hz := HZ.out
   have hs3 := hb3.size
   have e3 := (hb3.block w.heap.size (by omega) (by omega)).trans HE.out
   have b4 : Below w3.heap.size w3 (w3.alloc (.cells #[.int .i64 0, .string ⟨#[]⟩, .string ⟨#[]⟩, .int .i64 0, .slice none 0 0, .slice none 0 0] 32)) := (Below.refl _ _).alloc (Nat.le_refl _) _
   have e4 := heap_alloc_new w3 (.cells #[.int .i64 0, .string ⟨#[]⟩, .string ⟨#[]⟩, .int .i64 0, .slice none 0 0, .slice none 0 0] 32)
   obtain ⟨Wa, hWa⟩ : ∃ W, w3.alloc (.cells #[.int .i64 0, .string ⟨#[]⟩, .string ⟨#[]⟩, .int .i64 0, .slice none 0 0, .slice none 0 0] 32) = W := ⟨_, rfl⟩
   rw [hWa] at b4 e4
   obtain ⟨⟨r0, r1, r2, r3, r4, r5⟩, ⟨rf0, rf1, rf2, rf3, rf4, rf5⟩, _⟩ := six_facts e4 (.int .i64 x0) (.string x1) (.string x2) (.int .i64 x3) (.slice xa xk xc) (.slice ya yk yc)
   have eb := six_set e4 (.int .i64 x0) (.string x1) (.string x2) (.int .i64 x3) (.slice xa xk xc) (.slice ya yk yc)
   have ob : ∀ q, q ≠ w3.heap.size → _ := fun q hq => six_other Wa (k := q) hq (.int .i64 x0) (.string x1) (.string x2) (.int .i64 x3) (.slice xa xk xc) (.slice ya yk yc)
   have bb := six_but (rb := rb) (R := w3.heap.size) (to_but b4) (Nat.le_refl _) (.int .i64 x0) (.string x1) (.string x2) (.int .i64 x3) (.slice xa xk xc) (.slice ya yk yc)
   obtain ⟨Wb, hWb⟩ : ∃ W, ((((((Wa.setCell ⟨w3.heap.size, 0, none⟩ (.int .i64 x0)).setCell ⟨w3.heap.size, 1, none⟩ (.string x1)).setCell ⟨w3.heap.size, 2, none⟩ (.string x2)).setCell ⟨w3.heap.size, 3, none⟩ (.int .i64 x3)).setCell ⟨w3.heap.size, 4, none⟩ (.slice xa xk xc)).setCell ⟨w3.heap.size, 5, none⟩ (.slice ya yk yc)) = W := ⟨_, rfl⟩
   rw [hWb] at eb bb
   have ob' : ∀ q, q ≠ w3.heap.size → Wb.heap[q]? = Wa.heap[q]? := fun q hq => by rw [← hWb]; exact ob q hq
   have hrb3 : rb < w3.heap.size := by omega
   have hrB : RdS Wb rb v3 cn := hr3.kept ((ob' rb (by omega)).trans (b4.block rb hrb3))
   have p0 : Wb.cell? ⟨rb, 0, none⟩ = some v3 := rd_cell hrB rfl
   have f0 : Wb.frozen? ⟨rb, 0, none⟩ = false := rd_free hrB 0
   have hrC : RdS (Wb.setCell ⟨rb, 0, none⟩ (.slice A N CC)) rb (.slice A N CC) cn := by
    show _ = _
    exact rd_set (i := 0) _ hrB
   have hkC : ∀ q, q ≠ rb → (Wb.setCell ⟨rb, 0, none⟩ (.slice A N CC)).heap[q]? = Wb.heap[q]? := fun q hq => Below.heap_setCell _ _ _ _ hq
   have bC := bb.setB 0 (.slice A N CC)
   obtain ⟨Wc, hWc⟩ : ∃ W, Wb.setCell ⟨rb, 0, none⟩ (.slice A N CC) = W := ⟨_, rfl⟩
   rw [hWc] at hrC hkC bC
   have eN := (hkC w3.heap.size (by omega)).trans eb
   have l0 := rd_cell (j := 0) eN rfl
   have l1 := rd_cell (j := 1) eN rfl
   have l2 := rd_cell (j := 2) eN rfl
   have l3 := rd_cell (j := 3) eN rfl
   have l4 := rd_cell (j := 4) eN rfl
   have l5 := rd_cell (j := 5) eN rfl
   have hold : ∀ q, q ≠ rb → q < w3.heap.size → Wc.heap[q]? = w3.heap[q]? := fun q hq hlt => (hkC q hq).trans ((ob' q (by omega)).trans (b4.block q hlt))
   have e5 := (hold w.heap.size (by omega) (by omega)).trans e3
   obtain ⟨⟨s0, s1, s2, s3, s4, s5⟩, ⟨sf0, sf1, sf2, sf3, sf4, sf5⟩, v0, v1, v2, v3', v4, v5⟩ := six_facts e5 (.int .i64 x0) (.string x1) (.string x2) (.int .i64 x3) (.slice xa xk xc) (.slice ya yk yc)
   have HK : Hid (Kx Wc (fun q => w.heap.size < q ∧ q < w3.heap.size) k [.int .i64 x0, .string x1, .string x2, .int .i64 x3, .slice xa xk xc, .slice ya yk yc]) := hk3.kept fun q hq hlt => ⟨⟨by omega, hlt⟩, hold q (by omega) hlt⟩
   have HA3 : Hid (Ags Wc (fun q => Ok q) B l (.slice A N CC)) := HA.out.kept fun q hq hlt => ⟨hq, (hold q (HO.out q hq).1 (by omega)).trans (hb3.block q hlt (HO.out q hq).1)⟩
   have HRC : Hid (RdS Wc rb (.slice A N CC) cn) := hrC
   have HBC : Hid (But w.heap.size rb w Wc) := (HB.out.trans (hb3.less (by omega))).trans (bC.less (by omega))
   clear hta hs3 e3 b4 e4 eb ob bb ob' hrB hrC hkC bC eN hold e5 hk3 hr3 hl3 hb3 HA
   go_wp2_with fail
   refine bodyPost_ret (v := .agg #[.int .i64 x0, .string x1, .string x2, .int .i64 x3, .slice xa xk xc, .slice ya yk yc]) (by simp [results, Tryz.results63, go_sem, v0, v1, v2, v3', v4, v5]) rfl ?_
   exact ⟨_, .slice A N CC, rfl, HK.out.kept fun q hq hlt => ⟨by omega, six_other _ (by omega) _ _ _ _ _ _⟩, HRC.out.kept (six_other _ (by omega) _ _ _ _ _ _), HA3.out.kept fun q hq _ => ⟨hq, six_other _ (by have := (HO.out q hq).2; omega) _ _ _ _ _ _⟩, six_but HBC.out (Nat.le_refl _) _ _ _ _ _ _⟩
end Go.Proofs.YtogigccbnohjjaaGreatDoor
