/-
  What the method arg of letterboxref, and more.
-/
import Derived.Test.YtogigccbnohjjaaGreatDoorMRwCnt
import Derived.Recover
import Derived.Defers
namespace Go.Proofs.YtogigccbnohjjaaGreatDoor
open Go.RowKit Go.Proofs.Aid Go.Proofs.Hd
open Go.Proofs.Sr (Ar)
set_option maxHeartbeats 4000000
set_option maxRecDepth 100000
def lenOf (w : World) (b : Nat) : Nat := match w.cell? ⟨b, 2, none⟩ with
 | some v => slLen v
 | none => 0
def okOf (w : World) (cb : Nat) : Nat := match w.cell? ⟨cb, 3, none⟩ with
 | some v => if intOf v = 0 then 1 else 0
 | none => 0
theorem lenOf_is {w : World} {b N vc : Nat} {va : Option Addr} {x0 x1 : Value} {t : TypeId} (h : w.heap[b]? = some (.cells #[x0, x1, .slice va N vc] t (0, 0))) : lenOf w b = N := by
 have p1 : w.cell? ⟨b, 2, none⟩ = some (.slice va N vc) := rd_cell h rfl
 unfold lenOf
 rw [p1]
 rfl
theorem okOf_is {w : World} {cb p c : Nat} {s : ByteArray} {E q : Int} (h : CdW w cb s p c E q) : okOf w cb = if E = 0 then 1 else 0 := by
 have p1 : w.cell? ⟨cb, 3, none⟩ = some (.int .i64 E) := rd_cell h rfl
 unfold okOf
 rw [p1]
 rfl
theorem okOf_le (w : World) (cb : Nat) : okOf w cb ≤ 1 := by
 unfold okOf
 split
 ·split <;> omega
 ·omega
def RlAt (g : Nat → Nat → Wd Ar) (T : Wd (List Ar)) (cb AB : Nat) (s : ByteArray) (w wr : World) : Prop :=
 ∃ (acc : List Ar) (P c : Nat) (E q : Int) (va : Option Addr) (N vc : Nat), acc.length = N ∧ CdW wr cb s P c E q ∧ But w.heap.size cb w wr ∧ wr.heap[w.heap.size]? = some (.cells #[.int .i64 0, .string ⟨#[]⟩, .slice none 0 0] 86 (0, 0)) ∧ wr.heap[AB]? = some (.cells #[.int .i64 3, .string ⟨#[]⟩, .slice va N vc] 86 (0, 0)) ∧
  ARow (AB + 1) acc (.slice va acc.length vc) wr ∧ w.heap.size < AB ∧ AB < wr.heap.size ∧
  ((E = 0 ∧ q = -1 ∧ P ≤ s.size ∧ c ≤ 60 ∧ N ≤ c ∧ ((acc = [] ∧ P + 2 ≤ s.size ∧ T = listW g s.data.toList P c) ∨ (acc ≠ [] ∧ ∃ n, 62 ≤ c + n ∧ T = moreW g s.data.toList n acc P c))) ∨ (E ≠ 0 ∧ ∃ p0 : Nat, q = (p0 : Int) ∧ T = .bad E p0))
theorem rl_next {g : Nat → Nat → Wd Ar} {T : Wd (List Ar)} {cb AB N P c m cap g9 : Nat} {s : ByteArray} {w W6 W' : World} {acc : List Ar}
  (HR : ∃ (a : Ar) (p c' : Nat) (E q : Int), ResA (g P c) a p c' E q ∧ CdW W' cb s p c' E q ∧ But AB cb W6 W' ∧ W'.heap[AB]? = some (.cells #[.int .i64 3, .string ⟨#[]⟩, .slice (some ⟨g9, 0, none⟩) (N + 1) cap] 86 (0, 0)) ∧ ARow (AB + 1) (acc ++ [a]) (.slice (some ⟨g9, 0, none⟩) (acc ++ [a]).length cap) W')
  (hT : T = (g P c).then fun a p c => moreW g s.data.toList m (acc ++ [a]) p c) (h62 : 62 ≤ c + 1 + m) (hN : acc.length = N) (hNc : N ≤ c) (hcb : cb < w.heap.size) (hp : P + 2 ≤ s.size)
  (hG : ∀ p c a p' c', p + 2 ≤ s.size → g p c = .ok a p' c' → p' ≤ s.size ∧ c < c' ∧ c' ≤ 60)
  (hb : But w.heap.size cb w W6) (hE0 : W6.heap[w.heap.size]? = some (.cells #[.int .i64 0, .string ⟨#[]⟩, .slice none 0 0] 86 (0, 0))) (hAB : w.heap.size < AB) :
  RlAt g T cb AB s w W' ∧ lenOf W' AB = N + 1 := by
 obtain ⟨a, p, c', E, q, hres, hr, hb', hA, hrow⟩ := HR
 have hABs := (Array.getElem?_eq_some_iff.1 hA).1
 refine ⟨⟨acc ++ [a], p, c', E, q, some ⟨g9, 0, none⟩, N + 1, cap, by rw [List.length_append, hN]; rfl, hr, hb.trans (hb'.less (by omega)), (hb'.block _ hAB (by omega)).trans hE0, hA, hrow, hAB, hABs, ?_⟩, lenOf_is hA⟩
 cases hg : g P c with
 | bad n p0 =>
  rw [hg] at hres hT
  obtain ⟨rfl, rfl, hn⟩ := hres
  exact Or.inr ⟨hn, p0, rfl, hT⟩
 | ok a0 p0 c0 =>
  rw [hg] at hres hT
  obtain ⟨rfl, rfl, rfl, rfl, rfl⟩ := hres
  have h9 := hG P c a p c' hp hg
  exact Or.inl ⟨rfl, rfl, h9.1, h9.2.2, by omega, Or.inr ⟨by simp, m, by omega, hT⟩⟩
theorem rarg_list (cb p c d : Nat) (s : ByteArray) (w : World) (hr : CdW w cb s p c 0 (-1)) (hf : FineAt w) (hcf : cb ≠ 0) (hs : s.size ≤ 1000000) (hE : Ends s.data.toList) (_hp : p + 2 ≤ s.size) (g : Nat → Nat → Wd Ar) (hc : c + 1 ≤ 60) (hd : d ≤ 6) (hse : seeW s.data.toList p = some 40)
  (hG : ∀ p c a p' c', p + 2 ≤ s.size → g p c = .ok a p' c' → p' ≤ s.size ∧ c < c' ∧ c' ≤ 60)
  (cK : ∀ W p' c', CdW W cb s p' c' 0 (-1) → p' + 2 ≤ s.size → c' ≤ 60 → But w.heap.size cb w W → Calls Tryz.prog 35 #[.pointer (some ⟨cb, 0, none⟩), .int .i64 ((d + 1 : Nat) : Int)] W fun e w' => OutRA W cb s (g p' c') e w') :
  Calls Tryz.prog 35 #[.pointer (some ⟨cb, 0, none⟩), .int .i64 (d : Int)] w fun e w' => OutRA w cb s ((listW g s.data.toList (p + 1) (c + 1)).map fun l => .mk 3 [] l) e w' := by
 obtain ⟨W1, W2, hW1, hW2, p1, f1, q1, z2, hr2, hb2, hE2⟩ := rarg_begun cb p c s w hr
 have hcb := hr.lt
 have d1 : decide ((6 : Int) < (d : Int)) = false := decide_eq_false (by omega)
 have d2 : decide ((60 : Int) < (c : Int) + 1) = false := decide_eq_false (by omega)
 have cS := rsee_yes cb p (c + 1) 40 s W2 hr2 (hf.but hb2 hcf) hs hse
 rw [show ((40 : UInt8).toNat : Int) = 40 from rfl] at cS
 have HX : Hid (CdW W2 cb s p (c + 1) 0 (-1) ∧ But w.heap.size cb w W2 ∧ W2.heap[w.heap.size]? = some (.cells #[.int .i64 0, .string ⟨#[]⟩, .slice none 0 0] 86 (0, 0)) ∧ W2.heap.size = w.heap.size + 1 ∧ FineAt w) := ⟨hr2, hb2, hE2, z2, hf⟩
 have HEN : Hid (Ends s.data.toList) := hE
 have hlt := (see_some hse).1
 rw [wsize] at hlt
 obtain ⟨T, hT⟩ : ∃ T, listW g s.data.toList (p + 1) (c + 1) = T := ⟨_, rfl⟩
 rw [hT]
 have HT : Hid (listW g s.data.toList (p + 1) (c + 1) = T) := hT
 have HG : Hid (∀ p c a p' c', p + 2 ≤ s.size → g p c = .ok a p' c' → p' ≤ s.size ∧ c < c' ∧ c' ≤ 60) := hG
 obtain ⟨D1, hD1⟩ : ∃ n : Nat, n = d + 1 := ⟨_, rfl⟩
 rw [← hD1] at cK
 have hwD : IntKind.i64.wrap ((d : Int) + 1) = (D1 : Int) := by rw [IntKind.wrap_i64]; omega
 have HK : Hid (∀ W p' c', CdW W cb s p' c' 0 (-1) → p' + 2 ≤ s.size → c' ≤ 60 → But w.heap.size cb w W → Calls Tryz.prog 35 #[.pointer (some ⟨cb, 0, none⟩), .int .i64 (D1 : Int)] W fun e w' => OutRA W cb s (g p' c') e w') := cK
 have HF : Hid (FineAt w) := hf
 clear hr hr2 hb2 hE2 z2 hf hE hse hT hG cK hD1
 go_enter Tryz.func35, Tryz.ntmps35
 go_wp2_with fail
 refine cS.mono ?_
 rintro e w3 ⟨rfl, hb3⟩
 have z2 := HX.out.2.2.2.1
 have hr3 := HX.out.1.kept (hb3.block cb (by omega))
 have hb03 : But w.heap.size cb w w3 := HX.out.2.1.trans (to_but (hb3.mono (by omega)))
 have e3 := (hb3.block w.heap.size (by omega)).trans HX.out.2.2.1
 have z3 : w.heap.size + 1 ≤ w3.heap.size := by have := hb3.size; omega
 have o1 : w3.cell? ⟨cb, 1, none⟩ = some (.int .i64 (p : Int)) := rd_cell hr3 rfl
 have of1 : w3.frozen? ⟨cb, 1, none⟩ = false := rd_free hr3 1
 have hr4 : CdW (w3.setCell ⟨cb, 1, none⟩ (.int .i64 ((p : Int) + 1))) cb s (p + 1) (c + 1) 0 (-1) := rd_set (i := 1) (.int .i64 ((p : Int) + 1)) hr3
 have hb4 : But w.heap.size cb w (w3.setCell ⟨cb, 1, none⟩ (.int .i64 ((p : Int) + 1))) := hb03.setB 1 _
 have e4 : (w3.setCell ⟨cb, 1, none⟩ (.int .i64 ((p : Int) + 1))).heap[w.heap.size]? = some (.cells #[.int .i64 0, .string ⟨#[]⟩, .slice none 0 0] 86 (0, 0)) := (Below.heap_setCell _ _ _ _ (show w.heap.size ≠ cb by omega)).trans e3
 obtain ⟨W4, hW4⟩ : ∃ W, w3.setCell ⟨cb, 1, none⟩ (.int .i64 ((p : Int) + 1)) = W := ⟨_, rfl⟩
 rw [hW4] at hr4 hb4 e4
 have z4 : w.heap.size + 1 ≤ W4.heap.size := by rw [← hW4]; simpa using z3
 have b5 : Below W4.heap.size W4 (W4.alloc (.cells #[.int .i64 0, .string ⟨#[]⟩, .slice none 0 0] 86)) := (Below.refl _ _).alloc (Nat.le_refl _) _
 have e5 := heap_alloc_new W4 (.cells #[.int .i64 0, .string ⟨#[]⟩, .slice none 0 0] 86)
 obtain ⟨AB, hAB⟩ : ∃ n, W4.heap.size = n := ⟨_, rfl⟩
 obtain ⟨W5, hW5⟩ : ∃ W, W4.alloc (.cells #[.int .i64 0, .string ⟨#[]⟩, .slice none 0 0] 86) = W := ⟨_, rfl⟩
 have z5 : W5.heap.size = AB + 1 := by rw [← hW5, ← hAB]; simp
 rw [hW5, hAB] at b5 e5
 obtain ⟨⟨s0, s1, s2⟩, ⟨sf0, sf1, sf2⟩, u0, u1, u2⟩ := three_facts e5 (.int .i64 3) (.string ⟨#[]⟩) (.slice none 0 0)
 have e6 : (((W5.setCell ⟨AB, 0, none⟩ (.int .i64 3)).setCell ⟨AB, 1, none⟩ (.string ⟨#[]⟩)).setCell ⟨AB, 2, none⟩ (.slice none 0 0)).heap[AB]? = some (.cells #[.int .i64 3, .string ⟨#[]⟩, .slice none 0 0] 86 (0, 0)) := rd_set (i := 2) _ (rd_set (i := 1) _ (rd_set (i := 0) (.int .i64 3) e5))
 obtain ⟨W6, hW6⟩ : ∃ W, ((W5.setCell ⟨AB, 0, none⟩ (.int .i64 3)).setCell ⟨AB, 1, none⟩ (.string ⟨#[]⟩)).setCell ⟨AB, 2, none⟩ (.slice none 0 0) = W := ⟨_, rfl⟩
 have z6 : W6.heap.size = AB + 1 := by rw [← hW6]; simpa using z5
 have b6 : Below AB W4 W6 := by rw [← hW6]; exact (((b5.setCell (p := ⟨AB, 0, none⟩) (Nat.le_refl _) _).setCell (p := ⟨AB, 1, none⟩) (Nat.le_refl _) _).setCell (p := ⟨AB, 2, none⟩) (Nat.le_refl _) _)
 rw [hW6] at e6
 have HS : Hid (RlAt g T cb AB s w W6) := by
  refine ⟨[], p + 1, c + 1, 0, -1, none, 0, 0, rfl, hr4.kept (b6.block cb (by omega)), hb4.trans (to_but (b6.mono (by omega))), (b6.block w.heap.size (by omega)).trans e4, e6, arow_nil _ _, by omega, by omega, Or.inl ⟨rfl, rfl, by omega, by omega, by omega, Or.inl ⟨rfl, by omega, HT.out.symm⟩⟩⟩
 clear cS hb3 hr3 hb03 e3 HX z2 hr4 hb4 e4 b5 e5 e6 b6 HT
 go_wp2_with fail
 clear hW1 hW2 hW4 hW5 hW6 s0 s1 s2 sf0 sf1 sf2 u0 u1 u2 o1 of1 z3 z4 z5 z6 hAB p1 f1 q1 d1 d2
 go_loopw [] (fun wr => Hid (RlAt g T cb AB s w wr)) (fun wr => 2 * (62 - lenOf wr AB) + okOf wr cb)
 case atStart => exact HS
 case round =>
  clear HS
  obtain ⟨acc, P, k, E, q, va, N, vc, hN, hr, hb, hE0, hEA, hrow, hABl, hABs, hst⟩ := hrel.out
  clear hrel
  have HLN : Hid (lenOf wr AB = N) := lenOf_is hEA
  have HOK : Hid (okOf wr cb = if E = 0 then 1 else 0) := okOf_is hr
  rcases hst with ⟨rfl, rfl, hPs, hk60, hNk, hTT⟩ | ⟨hE9, p0, rfl, rfl⟩
  rotate_left
  ·have cO := rok_no cb P k E (p0 : Int) s wr hr hE9 (HF.out.but hb hcf)
   have HX : Hid (CdW wr cb s P k E (p0 : Int) ∧ But w.heap.size cb w wr ∧ wr.heap[w.heap.size]? = some (.cells #[.int .i64 0, .string ⟨#[]⟩, .slice none 0 0] 86 (0, 0)) ∧ wr.heap[AB]? = some (.cells #[.int .i64 3, .string ⟨#[]⟩, .slice va N vc] 86 (0, 0)) ∧ ARow (AB + 1) acc (.slice va acc.length vc) wr) := ⟨hr, hb, hE0, hEA, hrow⟩
   clear hr hb hE0 hEA hrow
   go_wp2_with fail
   refine cO.mono ?_
   rintro e w8 ⟨rfl, hb8⟩
   have hrX := HX.out.1.kept (hb8.block cb (by omega))
   have hbX : But w.heap.size cb w w8 := HX.out.2.1.trans (to_but (hb8.mono (by omega)))
   have hE0X := (hb8.block w.heap.size (by omega)).trans HX.out.2.2.1
   have hEAX := (hb8.block AB (by omega)).trans HX.out.2.2.2.1
   have hrowX := HX.out.2.2.2.2.kept fun q _ hlt => hb8.block q hlt
   clear HX hb8 cO
   have l0 : w8.cell? ⟨AB, 0, none⟩ = some (.int .i64 3) := rd_cell hEAX rfl
   have l1 : w8.cell? ⟨AB, 1, none⟩ = some (.string ⟨#[]⟩) := rd_cell hEAX rfl
   have l2 : w8.cell? ⟨AB, 2, none⟩ = some (.slice va N vc) := rd_cell hEAX rfl
   obtain ⟨⟨s0, s1, s2⟩, ⟨sf0, sf1, sf2⟩, u0, u1, u2⟩ := three_facts hE0X (.int .i64 3) (.string ⟨#[]⟩) (.slice va N vc)
   have hag := hrowX.ags
   rw [hN] at hag
   have HD : Hid (OutRA w cb s (.bad E p0) (.returned (.agg #[.int .i64 3, .string ⟨#[]⟩, .slice va N vc])) _) := rarg_done hcb (hag.kept fun q hq _ => ⟨by omega, rfl⟩) hrX hbX ⟨rfl, rfl, hE9⟩
   clear hrX hbX hE0X hEAX hrowX hag
   go_wp2_with fail
   exact bodyPost_ret (v := .agg #[.int .i64 3, .string ⟨#[]⟩, .slice va N vc]) (by simp [results, Tryz.results35, go_sem, u0, u1, u2]) rfl HD.out
  have HO1 : Hid (okOf wr cb = 1) := by show okOf wr cb = 1; rw [HOK.out]; rfl
  clear HOK
  have cO := rok_yes cb P k s wr hr (HF.out.but hb hcf)
  have HX : Hid (CdW wr cb s P k 0 (-1) ∧ But w.heap.size cb w wr ∧ wr.heap[w.heap.size]? = some (.cells #[.int .i64 0, .string ⟨#[]⟩, .slice none 0 0] 86 (0, 0)) ∧ wr.heap[AB]? = some (.cells #[.int .i64 3, .string ⟨#[]⟩, .slice va N vc] 86 (0, 0)) ∧ ARow (AB + 1) acc (.slice va acc.length vc) wr) := ⟨hr, hb, hE0, hEA, hrow⟩
  have HTT : Hid ((acc = [] ∧ P + 2 ≤ s.size ∧ T = listW g s.data.toList P k) ∨ (acc ≠ [] ∧ ∃ n, 62 ≤ k + n ∧ T = moreW g s.data.toList n acc P k)) := hTT
  have HN : Hid (acc.length = N) := hN
  clear hr hb hE0 hEA hrow hTT hN
  go_wp2_with fail
  refine cO.mono ?_
  rintro e w8 ⟨rfl, hb8⟩
  have hs8 := hb8.size
  have H8 : Hid (CdW w8 cb s P k 0 (-1) ∧ But w.heap.size cb w w8 ∧ w8.heap[w.heap.size]? = some (.cells #[.int .i64 0, .string ⟨#[]⟩, .slice none 0 0] 86 (0, 0)) ∧ w8.heap[AB]? = some (.cells #[.int .i64 3, .string ⟨#[]⟩, .slice va N vc] 86 (0, 0)) ∧ ARow (AB + 1) acc (.slice va acc.length vc) w8) := ⟨HX.out.1.kept (hb8.block cb (by omega)), HX.out.2.1.trans (to_but (hb8.mono (by omega))), (hb8.block w.heap.size (by omega)).trans HX.out.2.2.1, (hb8.block AB (by omega)).trans HX.out.2.2.2.1, HX.out.2.2.2.2.kept fun q _ hlt => hb8.block q hlt⟩
  clear HX hb8 cO
  by_cases h41 : seeW s.data.toList P = some 41
  ·have cS := rsee_yes cb P k 41 s w8 H8.out.1 (HF.out.but H8.out.2.1 hcf) hs h41
   rw [show ((41 : UInt8).toNat : Int) = 41 from rfl] at cS
   have hlt9 := (see_some h41).1
   rw [wsize] at hlt9
   have HRT : Hid (T = .ok acc (P + 1) k) := by
    have ht := took_one.2 (see_some h41).2
    rcases HTT.out with ⟨rfl, _, h⟩ | ⟨_, n, hn, h⟩
    ·show T = _
     rw [h, listW, if_pos ht]
    ·show T = _
     obtain ⟨m, rfl⟩ : ∃ m, n = m + 1 := ⟨n - 1, by omega⟩
     rw [h, moreW, if_pos ht]
   have hRT := HRT.out
   subst hRT
   clear h41 HRT HTT
   go_wp2_with fail
   refine cS.mono ?_
   rintro e w9 ⟨rfl, hb9⟩
   have hr9 := H8.out.1.kept (hb9.block cb (by omega))
   have o1 : w9.cell? ⟨cb, 1, none⟩ = some (.int .i64 (P : Int)) := rd_cell hr9 rfl
   have of1 : w9.frozen? ⟨cb, 1, none⟩ = false := rd_free hr9 1
   have hrX : CdW (w9.setCell ⟨cb, 1, none⟩ (.int .i64 ((P : Int) + 1))) cb s (P + 1) k 0 (-1) := rd_set (i := 1) (.int .i64 ((P : Int) + 1)) hr9
   have hbX : But w.heap.size cb w (w9.setCell ⟨cb, 1, none⟩ (.int .i64 ((P : Int) + 1))) := (H8.out.2.1.trans (to_but (hb9.mono (by omega)))).setB 1 _
   have hE0X : (w9.setCell ⟨cb, 1, none⟩ (.int .i64 ((P : Int) + 1))).heap[w.heap.size]? = some (.cells #[.int .i64 0, .string ⟨#[]⟩, .slice none 0 0] 86 (0, 0)) := (Below.heap_setCell _ _ _ _ (show w.heap.size ≠ cb by omega)).trans ((hb9.block w.heap.size (by omega)).trans H8.out.2.2.1)
   have hEAX : (w9.setCell ⟨cb, 1, none⟩ (.int .i64 ((P : Int) + 1))).heap[AB]? = some (.cells #[.int .i64 3, .string ⟨#[]⟩, .slice va N vc] 86 (0, 0)) := (Below.heap_setCell _ _ _ _ (show AB ≠ cb by omega)).trans ((hb9.block AB (by omega)).trans H8.out.2.2.2.1)
   have hrowX : ARow (AB + 1) acc (.slice va acc.length vc) (w9.setCell ⟨cb, 1, none⟩ (.int .i64 ((P : Int) + 1))) := H8.out.2.2.2.2.kept fun q hq hlt => (Below.heap_setCell _ _ _ _ (show q ≠ cb by omega)).trans (hb9.block q hlt)
   obtain ⟨W9, hW9⟩ : ∃ W, w9.setCell ⟨cb, 1, none⟩ (.int .i64 ((P : Int) + 1)) = W := ⟨_, rfl⟩
   rw [hW9] at hrX hbX hE0X hEAX hrowX
   have hN := HN.out
   clear H8 hb9 hr9 cS
   have l0 : W9.cell? ⟨AB, 0, none⟩ = some (.int .i64 3) := rd_cell hEAX rfl
   have l1 : W9.cell? ⟨AB, 1, none⟩ = some (.string ⟨#[]⟩) := rd_cell hEAX rfl
   have l2 : W9.cell? ⟨AB, 2, none⟩ = some (.slice va N vc) := rd_cell hEAX rfl
   obtain ⟨⟨s0, s1, s2⟩, ⟨sf0, sf1, sf2⟩, u0, u1, u2⟩ := three_facts hE0X (.int .i64 3) (.string ⟨#[]⟩) (.slice va N vc)
   have hag := hrowX.ags
   rw [hN] at hag
   have HD : Hid (OutRA w cb s (.ok (.mk 3 [] acc) (P + 1) k) (.returned (.agg #[.int .i64 3, .string ⟨#[]⟩, .slice va N vc])) _) := rarg_done hcb (hag.kept fun q hq _ => ⟨by omega, rfl⟩) hrX hbX ⟨rfl, rfl, rfl, rfl, rfl⟩
   clear hrX hbX hE0X hEAX hrowX hag hN
   go_wp2_with fail
   exact bodyPost_ret (v := .agg #[.int .i64 3, .string ⟨#[]⟩, .slice va N vc]) (by simp [results, Tryz.results35, go_sem, u0, u1, u2]) rfl HD.out
  ·have cS := rsee_any cb P k s w8 H8.out.1 (HF.out.but H8.out.2.1 hcf) hs (by omega)
   go_wp2_with fail
   refine cS.mono ?_
   rintro e w9 ⟨⟨x, o, rfl, hso⟩, hb9⟩
   have hs9 := hb9.size
   have H9 : Hid (CdW w9 cb s P k 0 (-1) ∧ But w.heap.size cb w w9 ∧ w9.heap[w.heap.size]? = some (.cells #[.int .i64 0, .string ⟨#[]⟩, .slice none 0 0] 86 (0, 0)) ∧ w9.heap[AB]? = some (.cells #[.int .i64 3, .string ⟨#[]⟩, .slice va N vc] 86 (0, 0)) ∧ ARow (AB + 1) acc (.slice va acc.length vc) w9) := ⟨H8.out.1.kept (hb9.block cb (by omega)), H8.out.2.1.trans (to_but (hb9.mono (by omega))), (hb9.block w.heap.size (by omega)).trans H8.out.2.2.1, (hb9.block AB (by omega)).trans H8.out.2.2.2.1, H8.out.2.2.2.2.kept fun q _ hlt => hb9.block q hlt⟩
   have HSO : Hid (SeeAt s.data.toList P x o) := hso
   have H41 : Hid (seeW s.data.toList P ≠ some 41) := h41
   clear cS hb9 H8 hso h41
   go_upto_region 26 with fail
   go_cut [162] (fun sv wx => sv = .bool false ∧ wx = w9)
   case first =>
    rcases HSO.out with ⟨rfl, b, hq, rfl⟩ | ⟨rfl, hq, rfl⟩
    ·have h256 := b.toNat_lt
     have m41 : ((b.toNat : Int) == 41) = false := by rw [beq_eq_false_iff_ne]; intro e; exact H41.out (by rw [hq]; exact congrArg some (UInt8.toNat_inj.1 (by show b.toNat = 41; omega)))
     clear hq HSO H41
     go_wp2_with fail
     go_meet
     case rel => exact ⟨rfl, rfl⟩
    ·clear hq HSO H41
     go_wp2_with fail
     go_meet
     case rel => exact ⟨rfl, rfl⟩
   case rest =>
    obtain ⟨rfl, hwc⟩ := hcut
    obtain rfl : w9 = wc := hwc.symm
    have HNT : Hid (tookW [41] s.data.toList P ≠ true) := fun h => H41.out (by unfold seeW; have h1 := took_one.1 h; rw [if_pos (HEN.out.ahead h1 (by decide) (by decide))]; exact h1)
    have l2 : w9.cell? ⟨AB, 2, none⟩ = some (.slice va N vc) := rd_cell H9.out.2.2.2.1 rfl
    clear HSO H41
    by_cases hN0 : N = 0
    ·subst hN0
     have hac : acc = [] := List.eq_nil_of_length_eq_zero HN.out
     have hTT : P + 2 ≤ s.size ∧ T = (g P k).then fun a p c => moreW g s.data.toList 62 (acc ++ [a]) p c := by
      rcases HTT.out with ⟨_, h1, h2⟩ | ⟨h1, _⟩
      ·refine ⟨h1, ?_⟩
       rw [h2, listW, if_neg HNT.out, hac]
       rfl
      ·exact absurd hac h1
     have HTU : Hid (T = (g P k).then fun a p c => moreW g s.data.toList 62 (acc ++ [a]) p c) := hTT.2
     have hP2 := hTT.1
     have HY := H9
     clear hac hTT H9
     go_upto_region 30 with fail
     have cO := rok_yes cb P k s w9 HY.out.1 (HF.out.but HY.out.2.1 hcf)
     go_wp2_with fail
     refine cO.mono ?_
     rintro e wD ⟨rfl, hbD⟩
     have hsD := hbD.size
     have HZ : Hid (CdW wD cb s (P) k 0 (-1) ∧ But w.heap.size cb w wD ∧ wD.heap[w.heap.size]? = some (.cells #[.int .i64 0, .string ⟨#[]⟩, .slice none 0 0] 86 (0, 0)) ∧ wD.heap[AB]? = some (.cells #[.int .i64 3, .string ⟨#[]⟩, .slice va 0 vc] 86 (0, 0)) ∧ ARow (AB + 1) acc (.slice va acc.length vc) wD) := ⟨HY.out.1.kept (hbD.block cb (by omega)), HY.out.2.1.trans (to_but (hbD.mono (by omega))), (hbD.block w.heap.size (by omega)).trans HY.out.2.2.1, (hbD.block AB (by omega)).trans HY.out.2.2.2.1, HY.out.2.2.2.2.kept fun q _ hlt => hbD.block q hlt⟩
     have hbd : But w.heap.size cb w wD.drew := HZ.out.2.1.trans (to_but (Below.refl _ _).drew)
     have cA := HK.out wD.drew (P) k HZ.out.1 (by omega) hk60 hbd
     have cA2 := rapp cb AB D1 0 vc s (g (P) k) acc va (.int .i64 3) (.string ⟨#[]⟩) 86 wD.drew cA HZ.out.2.2.2.1 (HZ.out.2.2.2.2.kept fun _ _ _ => rfl) HN.out (by omega) (by omega)
     have k2 : wD.cell? ⟨AB, 2, none⟩ = some (.slice va 0 vc) := rd_cell HZ.out.2.2.2.1 rfl
     have HNX : Hid (∀ W' g9 cap9, (∃ (a : Ar) (p c' : Nat) (E q : Int), ResA (g (P) k) a p c' E q ∧ CdW W' cb s p c' E q ∧ But AB cb wD.drew W' ∧ W'.heap[AB]? = some (.cells #[.int .i64 3, .string ⟨#[]⟩, .slice (some ⟨g9, 0, none⟩) (0 + 1) cap9] 86 (0, 0)) ∧ ARow (AB + 1) (acc ++ [a]) (.slice (some ⟨g9, 0, none⟩) (acc ++ [a]).length cap9) W') → RlAt g T cb AB s w W' ∧ lenOf W' AB = 0 + 1) :=
      fun W' g9 cap9 h => rl_next h HTU.out (by omega) HN.out hNk hcb (by omega) HG.out hbd HZ.out.2.2.1 hABl
     clear cO hbD HY cA hbd HZ HTT
     go_wp2_with fail
     refine wp_region_any (by kernel_rfl) ?_
     change wpAny _ _ _ _ _ _ _ (World.drew _)
     refine wpAny_take (i := 0) (v := ?_) rfl (by kernel_rfl) (by kernel_rfl) (by kernel_rfl) (fun _ _ _ h => h) (Or.inl ⟨by rfl, ?_⟩) ?_
     rotate_left
     ·intro w; go_simp; with_reducible rfl
     refine wpAny_take (i := 2) (v := ?_) rfl (by kernel_rfl) (by kernel_rfl) (by kernel_rfl) (fun _ _ _ h => h) (Or.inl ⟨by rfl, ?_⟩) ?_
     rotate_left
     ·intro w; go_simp; with_reducible rfl
     refine wpAny_take (i := 3) (v := ?_) rfl (by kernel_rfl) (by kernel_rfl) (by kernel_rfl) (fun _ _ _ h => h) (Or.inl ⟨by rfl, ?_⟩) ?_
     rotate_left
     ·intro w; go_simp; with_reducible rfl
     refine wpAny_take (i := 4) (v := ?_) rfl (by kernel_rfl) (by kernel_rfl) (by kernel_rfl) (fun _ _ _ h => h) (Or.inl ⟨by rfl, ?_⟩) ?_
     rotate_left
     ·intro w; go_simp; with_reducible rfl
     refine wpAny_ready (rs := [1, 5]) (by kernel_rfl) (by simp) ?_
     refine AllReady.cons rfl (fun K hK => ?_) ?_
     ·go_simp
      refine hK _ _ ?_
      refine wpAny_ready (rs := [5]) (by kernel_rfl) (by simp) ?_
      refine AllReady.cons rfl (fun K hK => ?_) AllReady.nil
      go_simp
      refine cA2.mono ?_
      rintro e w9 ⟨K7, tx, xa, xk, xc, w7, W8, g9, cap9, W9, rfl, hw9, k7, hW8, k8, hrun, k9, kf9, HS9⟩
      obtain rfl : w7 = w9 := hw9.symm
      refine hK _ _ ?_
      refine wpAny_ready (rs := [6]) (by kernel_rfl) (by simp) ?_
      refine AllReady.cons rfl (fun K hK => ?_) AllReady.nil
      go_simp
      refine hK _ _ ?_
      refine wpAny_ready (rs := [7]) (by kernel_rfl) (by simp) ?_
      refine AllReady.cons rfl (fun K hK => ?_) AllReady.nil
      refine step_append_run rfl (.tmp 179) (.tmp 184) 25 rfl _ _ _ rfl rfl hrun ?_
      refine hK _ _ ?_
      refine wpAny_take (i := 8) (v := ?_) rfl (by kernel_rfl) (by kernel_rfl) (by kernel_rfl) (fun _ _ _ h => h) (Or.inl ⟨by rfl, ?_⟩) ?_
      rotate_left
      ·intro w; go_simp; with_reducible rfl
      refine wpAny_ready (rs := [9]) (by kernel_rfl) (by simp) ?_
      refine AllReady.cons rfl (fun K hK => ?_) AllReady.nil
      go_simp
      refine hK _ _ ?_
      refine wpAny_done (by kernel_rfl) ?_ _
      go_wp2_with fail
      go_roundw
      case rel => exact (HNX.out _ _ _ HS9.out).1
      case measure =>
       have h1 := (HNX.out _ _ _ HS9.out).2
       rw [h1, HLN.out, HO1.out]
       exact Nat.lt_of_le_of_lt (Nat.add_le_add_left (okOf_le _ _) _) (by omega)
     refine AllReady.cons rfl (fun K hK => ?_) AllReady.nil
     go_simp
     refine cA2.mono ?_
     rintro e w9 ⟨K7, tx, xa, xk, xc, w7, W8, g9, cap9, W9, rfl, hw9, k7, hW8, k8, hrun, k9, kf9, HS9⟩
     obtain rfl : w7 = w9 := hw9.symm
     refine hK _ _ ?_
     refine wpAny_ready (rs := [1, 6]) (by kernel_rfl) (by simp) ?_
     refine AllReady.cons rfl (fun K hK => ?_) ?_
     ·go_simp
      refine hK _ _ ?_
      refine wpAny_ready (rs := [6]) (by kernel_rfl) (by simp) ?_
      refine AllReady.cons rfl (fun K hK => ?_) AllReady.nil
      go_simp
      refine hK _ _ ?_
      refine wpAny_ready (rs := [7]) (by kernel_rfl) (by simp) ?_
      refine AllReady.cons rfl (fun K hK => ?_) AllReady.nil
      refine step_append_run rfl (.tmp 179) (.tmp 184) 25 rfl _ _ _ rfl rfl hrun ?_
      refine hK _ _ ?_
      refine wpAny_take (i := 8) (v := ?_) rfl (by kernel_rfl) (by kernel_rfl) (by kernel_rfl) (fun _ _ _ h => h) (Or.inl ⟨by rfl, ?_⟩) ?_
      rotate_left
      ·intro w; go_simp; with_reducible rfl
      refine wpAny_ready (rs := [9]) (by kernel_rfl) (by simp) ?_
      refine AllReady.cons rfl (fun K hK => ?_) AllReady.nil
      go_simp
      refine hK _ _ ?_
      refine wpAny_done (by kernel_rfl) ?_ _
      go_wp2_with fail
      go_roundw
      case rel => exact (HNX.out _ _ _ HS9.out).1
      case measure =>
       have h1 := (HNX.out _ _ _ HS9.out).2
       rw [h1, HLN.out, HO1.out]
       exact Nat.lt_of_le_of_lt (Nat.add_le_add_left (okOf_le _ _) _) (by omega)
     refine AllReady.cons rfl (fun K hK => ?_) AllReady.nil
     go_simp
     refine hK _ _ ?_
     refine wpAny_ready (rs := [1]) (by kernel_rfl) (by simp) ?_
     refine AllReady.cons rfl (fun K hK => ?_) AllReady.nil
     go_simp
     refine hK _ _ ?_
     refine wpAny_ready (rs := [7]) (by kernel_rfl) (by simp) ?_
     refine AllReady.cons rfl (fun K hK => ?_) AllReady.nil
     refine step_append_run rfl (.tmp 179) (.tmp 184) 25 rfl _ _ _ rfl rfl hrun ?_
     refine hK _ _ ?_
     refine wpAny_take (i := 8) (v := ?_) rfl (by kernel_rfl) (by kernel_rfl) (by kernel_rfl) (fun _ _ _ h => h) (Or.inl ⟨by rfl, ?_⟩) ?_
     rotate_left
     ·intro w; go_simp; with_reducible rfl
     refine wpAny_ready (rs := [9]) (by kernel_rfl) (by simp) ?_
     refine AllReady.cons rfl (fun K hK => ?_) AllReady.nil
     go_simp
     refine hK _ _ ?_
     refine wpAny_done (by kernel_rfl) ?_ _
     go_wp2_with fail
     go_roundw
     case rel => exact (HNX.out _ _ _ HS9.out).1
     case measure =>
      have h1 := (HNX.out _ _ _ HS9.out).2
      rw [h1, HLN.out, HO1.out]
      exact Nat.lt_of_le_of_lt (Nat.add_le_add_left (okOf_le _ _) _) (by omega)
    ·have hN1 : decide ((0 : Int) < (N : Int)) = true := decide_eq_true (by omega)
     have hN2 : 0 < N := by omega
     have hTT : ∃ n, 62 ≤ k + (n + 1) ∧ T = (blankW s.data.toList P k).then fun _ p c => (g p c).then fun a p c => moreW g s.data.toList n (acc ++ [a]) p c := by
      rcases HTT.out with ⟨h1, _⟩ | ⟨_, n, h1, h2⟩
      ·exact absurd (by rw [← HN.out, h1]; rfl) hN0
      ·obtain ⟨m, rfl⟩ : ∃ m, n = m + 1 := ⟨n - 1, by omega⟩
       exact ⟨m, h1, by rw [h2, moreW, if_neg HNT.out]⟩
     obtain ⟨m, h62, hTT⟩ := hTT
     by_cases h32 : seeW s.data.toList P = some 32
     ·have cG := rgap_yes cb P k s w9 H9.out.1 (HF.out.but H9.out.2.1 hcf) hs h32
      have hP2 := (see_some h32).1
      rw [wsize] at hP2
      rw [blankW, if_pos (took_one.2 (see_some h32).2)] at hTT
      have HTU : Hid (T = (g (P + 1) k).then fun a p c => moreW g s.data.toList m (acc ++ [a]) p c) := hTT
      clear h32 hTT HNT
      go_wp2_with fail
      refine cG.mono ?_
      rintro e wG ⟨rfl, hrG, hbG⟩
      have hsG := hbG.size
      have HY : Hid (CdW wG cb s (P + 1) k 0 (-1) ∧ But w.heap.size cb w wG ∧ wG.heap[w.heap.size]? = some (.cells #[.int .i64 0, .string ⟨#[]⟩, .slice none 0 0] 86 (0, 0)) ∧ wG.heap[AB]? = some (.cells #[.int .i64 3, .string ⟨#[]⟩, .slice va N vc] 86 (0, 0)) ∧ ARow (AB + 1) acc (.slice va acc.length vc) wG) := ⟨hrG, H9.out.2.1.trans (hbG.less (by omega)), (hbG.block w.heap.size (by omega) (by omega)).trans H9.out.2.2.1, (hbG.block AB (by omega) (by omega)).trans H9.out.2.2.2.1, H9.out.2.2.2.2.kept fun q hq hlt => hbG.block q hlt (by omega)⟩
      clear cG hrG hbG H9
      have cO := rok_yes cb (P + 1) k s wG HY.out.1 (HF.out.but HY.out.2.1 hcf)
      go_wp2_with fail
      refine cO.mono ?_
      rintro e wD ⟨rfl, hbD⟩
      have hsD := hbD.size
      have HZ : Hid (CdW wD cb s ((P + 1)) k 0 (-1) ∧ But w.heap.size cb w wD ∧ wD.heap[w.heap.size]? = some (.cells #[.int .i64 0, .string ⟨#[]⟩, .slice none 0 0] 86 (0, 0)) ∧ wD.heap[AB]? = some (.cells #[.int .i64 3, .string ⟨#[]⟩, .slice va N vc] 86 (0, 0)) ∧ ARow (AB + 1) acc (.slice va acc.length vc) wD) := ⟨HY.out.1.kept (hbD.block cb (by omega)), HY.out.2.1.trans (to_but (hbD.mono (by omega))), (hbD.block w.heap.size (by omega)).trans HY.out.2.2.1, (hbD.block AB (by omega)).trans HY.out.2.2.2.1, HY.out.2.2.2.2.kept fun q _ hlt => hbD.block q hlt⟩
      have hbd : But w.heap.size cb w wD.drew := HZ.out.2.1.trans (to_but (Below.refl _ _).drew)
      have cA := HK.out wD.drew ((P + 1)) k HZ.out.1 (by omega) hk60 hbd
      have cA2 := rapp cb AB D1 N vc s (g ((P + 1)) k) acc va (.int .i64 3) (.string ⟨#[]⟩) 86 wD.drew cA HZ.out.2.2.2.1 (HZ.out.2.2.2.2.kept fun _ _ _ => rfl) HN.out (by omega) (by omega)
      have k2 : wD.cell? ⟨AB, 2, none⟩ = some (.slice va N vc) := rd_cell HZ.out.2.2.2.1 rfl
      have HNX : Hid (∀ W' g9 cap9, (∃ (a : Ar) (p c' : Nat) (E q : Int), ResA (g ((P + 1)) k) a p c' E q ∧ CdW W' cb s p c' E q ∧ But AB cb wD.drew W' ∧ W'.heap[AB]? = some (.cells #[.int .i64 3, .string ⟨#[]⟩, .slice (some ⟨g9, 0, none⟩) (N + 1) cap9] 86 (0, 0)) ∧ ARow (AB + 1) (acc ++ [a]) (.slice (some ⟨g9, 0, none⟩) (acc ++ [a]).length cap9) W') → RlAt g T cb AB s w W' ∧ lenOf W' AB = N + 1) :=
       fun W' g9 cap9 h => rl_next h HTU.out (by omega) HN.out hNk hcb (by omega) HG.out hbd HZ.out.2.2.1 hABl
      clear cO hbD HY cA hbd HZ HTT
      go_wp2_with fail
      refine wp_region_any (by kernel_rfl) ?_
      change wpAny _ _ _ _ _ _ _ (World.drew _)
      refine wpAny_take (i := 0) (v := ?_) rfl (by kernel_rfl) (by kernel_rfl) (by kernel_rfl) (fun _ _ _ h => h) (Or.inl ⟨by rfl, ?_⟩) ?_
      rotate_left
      ·intro w; go_simp; with_reducible rfl
      refine wpAny_take (i := 2) (v := ?_) rfl (by kernel_rfl) (by kernel_rfl) (by kernel_rfl) (fun _ _ _ h => h) (Or.inl ⟨by rfl, ?_⟩) ?_
      rotate_left
      ·intro w; go_simp; with_reducible rfl
      refine wpAny_take (i := 3) (v := ?_) rfl (by kernel_rfl) (by kernel_rfl) (by kernel_rfl) (fun _ _ _ h => h) (Or.inl ⟨by rfl, ?_⟩) ?_
      rotate_left
      ·intro w; go_simp; with_reducible rfl
      refine wpAny_take (i := 4) (v := ?_) rfl (by kernel_rfl) (by kernel_rfl) (by kernel_rfl) (fun _ _ _ h => h) (Or.inl ⟨by rfl, ?_⟩) ?_
      rotate_left
      ·intro w; go_simp; with_reducible rfl
      refine wpAny_ready (rs := [1, 5]) (by kernel_rfl) (by simp) ?_
      refine AllReady.cons rfl (fun K hK => ?_) ?_
      ·go_simp
       refine hK _ _ ?_
       refine wpAny_ready (rs := [5]) (by kernel_rfl) (by simp) ?_
       refine AllReady.cons rfl (fun K hK => ?_) AllReady.nil
       go_simp
       refine cA2.mono ?_
       rintro e w9 ⟨K7, tx, xa, xk, xc, w7, W8, g9, cap9, W9, rfl, hw9, k7, hW8, k8, hrun, k9, kf9, HS9⟩
       obtain rfl : w7 = w9 := hw9.symm
       refine hK _ _ ?_
       refine wpAny_ready (rs := [6]) (by kernel_rfl) (by simp) ?_
       refine AllReady.cons rfl (fun K hK => ?_) AllReady.nil
       go_simp
       refine hK _ _ ?_
       refine wpAny_ready (rs := [7]) (by kernel_rfl) (by simp) ?_
       refine AllReady.cons rfl (fun K hK => ?_) AllReady.nil
       refine step_append_run rfl (.tmp 179) (.tmp 184) 25 rfl _ _ _ rfl rfl hrun ?_
       refine hK _ _ ?_
       refine wpAny_take (i := 8) (v := ?_) rfl (by kernel_rfl) (by kernel_rfl) (by kernel_rfl) (fun _ _ _ h => h) (Or.inl ⟨by rfl, ?_⟩) ?_
       rotate_left
       ·intro w; go_simp; with_reducible rfl
       refine wpAny_ready (rs := [9]) (by kernel_rfl) (by simp) ?_
       refine AllReady.cons rfl (fun K hK => ?_) AllReady.nil
       go_simp
       refine hK _ _ ?_
       refine wpAny_done (by kernel_rfl) ?_ _
       go_wp2_with fail
       go_roundw
       case rel => exact (HNX.out _ _ _ HS9.out).1
       case measure =>
        have h1 := (HNX.out _ _ _ HS9.out).2
        rw [h1, HLN.out, HO1.out]
        exact Nat.lt_of_le_of_lt (Nat.add_le_add_left (okOf_le _ _) _) (by omega)
      refine AllReady.cons rfl (fun K hK => ?_) AllReady.nil
      go_simp
      refine cA2.mono ?_
      rintro e w9 ⟨K7, tx, xa, xk, xc, w7, W8, g9, cap9, W9, rfl, hw9, k7, hW8, k8, hrun, k9, kf9, HS9⟩
      obtain rfl : w7 = w9 := hw9.symm
      refine hK _ _ ?_
      refine wpAny_ready (rs := [1, 6]) (by kernel_rfl) (by simp) ?_
      refine AllReady.cons rfl (fun K hK => ?_) ?_
      ·go_simp
       refine hK _ _ ?_
       refine wpAny_ready (rs := [6]) (by kernel_rfl) (by simp) ?_
       refine AllReady.cons rfl (fun K hK => ?_) AllReady.nil
       go_simp
       refine hK _ _ ?_
       refine wpAny_ready (rs := [7]) (by kernel_rfl) (by simp) ?_
       refine AllReady.cons rfl (fun K hK => ?_) AllReady.nil
       refine step_append_run rfl (.tmp 179) (.tmp 184) 25 rfl _ _ _ rfl rfl hrun ?_
       refine hK _ _ ?_
       refine wpAny_take (i := 8) (v := ?_) rfl (by kernel_rfl) (by kernel_rfl) (by kernel_rfl) (fun _ _ _ h => h) (Or.inl ⟨by rfl, ?_⟩) ?_
       rotate_left
       ·intro w; go_simp; with_reducible rfl
       refine wpAny_ready (rs := [9]) (by kernel_rfl) (by simp) ?_
       refine AllReady.cons rfl (fun K hK => ?_) AllReady.nil
       go_simp
       refine hK _ _ ?_
       refine wpAny_done (by kernel_rfl) ?_ _
       go_wp2_with fail
       go_roundw
       case rel => exact (HNX.out _ _ _ HS9.out).1
       case measure =>
        have h1 := (HNX.out _ _ _ HS9.out).2
        rw [h1, HLN.out, HO1.out]
        exact Nat.lt_of_le_of_lt (Nat.add_le_add_left (okOf_le _ _) _) (by omega)
      refine AllReady.cons rfl (fun K hK => ?_) AllReady.nil
      go_simp
      refine hK _ _ ?_
      refine wpAny_ready (rs := [1]) (by kernel_rfl) (by simp) ?_
      refine AllReady.cons rfl (fun K hK => ?_) AllReady.nil
      go_simp
      refine hK _ _ ?_
      refine wpAny_ready (rs := [7]) (by kernel_rfl) (by simp) ?_
      refine AllReady.cons rfl (fun K hK => ?_) AllReady.nil
      refine step_append_run rfl (.tmp 179) (.tmp 184) 25 rfl _ _ _ rfl rfl hrun ?_
      refine hK _ _ ?_
      refine wpAny_take (i := 8) (v := ?_) rfl (by kernel_rfl) (by kernel_rfl) (by kernel_rfl) (fun _ _ _ h => h) (Or.inl ⟨by rfl, ?_⟩) ?_
      rotate_left
      ·intro w; go_simp; with_reducible rfl
      refine wpAny_ready (rs := [9]) (by kernel_rfl) (by simp) ?_
      refine AllReady.cons rfl (fun K hK => ?_) AllReady.nil
      go_simp
      refine hK _ _ ?_
      refine wpAny_done (by kernel_rfl) ?_ _
      go_wp2_with fail
      go_roundw
      case rel => exact (HNX.out _ _ _ HS9.out).1
      case measure =>
       have h1 := (HNX.out _ _ _ HS9.out).2
       rw [h1, HLN.out, HO1.out]
       exact Nat.lt_of_le_of_lt (Nat.add_le_add_left (okOf_le _ _) _) (by omega)
     ·have cG := rgap_no cb P k s w9 H9.out.1 (HF.out.but H9.out.2.1 hcf) hs (by omega) h32
      rw [blankW, if_neg (fun h => h32 ((see_took HEN.out (by decide) (by decide)).2 h))] at hTT
      have HTU : Hid (T = .bad 3 P) := hTT
      clear h32 hTT HNT
      go_wp2_with fail
      refine cG.mono ?_
      rintro e wG ⟨rfl, hrG, hbG⟩
      have hsG := hbG.size
      have cO := rok_no cb P k 3 (P : Int) s wG hrG (by decide) (HF.out.but (H9.out.2.1.trans (hbG.less (by omega))) hcf)
      have HY : Hid (CdW wG cb s P k 3 (P : Int) ∧ But w.heap.size cb w wG ∧ wG.heap[w.heap.size]? = some (.cells #[.int .i64 0, .string ⟨#[]⟩, .slice none 0 0] 86 (0, 0)) ∧ wG.heap[AB]? = some (.cells #[.int .i64 3, .string ⟨#[]⟩, .slice va N vc] 86 (0, 0)) ∧ ARow (AB + 1) acc (.slice va acc.length vc) wG) := ⟨hrG, H9.out.2.1.trans (hbG.less (by omega)), (hbG.block w.heap.size (by omega) (by omega)).trans H9.out.2.2.1, (hbG.block AB (by omega) (by omega)).trans H9.out.2.2.2.1, H9.out.2.2.2.2.kept fun q hq hlt => hbG.block q hlt (by omega)⟩
      clear cG hrG hbG H9
      go_wp2_with fail
      refine cO.mono ?_
      rintro e wD ⟨rfl, hbD⟩
      have hsD := hbD.size
      have HZ : Hid (RlAt g T cb AB s w wD ∧ lenOf wD AB = N ∧ okOf wD cb = 0) :=
       ⟨⟨acc, P, k, 3, (P : Int), va, N, vc, HN.out, HY.out.1.kept (hbD.block cb (by omega)), HY.out.2.1.trans (to_but (hbD.mono (by omega))), (hbD.block w.heap.size (by omega)).trans HY.out.2.2.1, (hbD.block AB (by omega)).trans HY.out.2.2.2.1, HY.out.2.2.2.2.kept fun q _ hlt => hbD.block q hlt, hABl, by omega, Or.inr ⟨by decide, P, rfl, HTU.out⟩⟩,
        lenOf_is ((hbD.block AB (by omega)).trans HY.out.2.2.2.1), by rw [okOf_is (HY.out.1.kept (hbD.block cb (by omega)))]; rfl⟩
      clear cO hbD HY HTT
      go_wp2_with fail
      go_roundw
      case rel => exact HZ.out.1
      case measure =>
       rw [HZ.out.2.1, HZ.out.2.2, HLN.out, HO1.out]
       omega
end Go.Proofs.YtogigccbnohjjaaGreatDoor
namespace Go.Proofs.YtogigccbnohjjaaGreatDoor
open Go.RowKit Go.Proofs.Aid Go.Proofs.Hd
open Go.Proofs.Sr (Ar)
theorem rarg_is (cb : Nat) (s : ByteArray) (hcf : cb ≠ 0) (hs : s.size ≤ 1000000) (hE : Ends s.data.toList) :
  ∀ (f d p c : Nat) (w : World), d + f = 7 → CdW w cb s p c 0 (-1) → FineAt w → c ≤ 60 → p + 2 ≤ s.size → (∀ W, But w.heap.size cb w W → NumAt W) →
   Calls Tryz.prog 35 #[.pointer (some ⟨cb, 0, none⟩), .int .i64 (d : Int)] w fun e w' => OutRA w cb s (argW s.data.toList f p c) e w'
 | 0, d, p, c, w, hd, hr, hf, hc, hp, hn => by
  rw [argW]
  exact rarg_limit cb p c d s w hr hf hcf hs hE hp (by omega) (by omega) (Or.inl (by omega))
 | f + 1, d, p, c, w, hd, hr, hf, hc, hp, hn => by
  by_cases h60 : 60 < c + 1
  ·rw [argW, if_pos h60]
   exact rarg_limit cb p c d s w hr hf hcf hs hE hp (by omega) (by omega) (Or.inr h60)
  cases hse : seeW s.data.toList p with
  | none =>
   rw [argW_end hE h60 (by rw [wsize]; exact hp) hse]
   exact rarg_end cb p c d s w hr hf hcf hs hE hp (by omega) (by omega) hse
  | some b =>
   have hb := (see_some hse).2
   rw [argW, if_neg h60]
   by_cases h1 : b = 123
   ·subst h1
    rw [if_pos (took_one.2 hb)]
    exact rarg_cnt cb p c d s w hr hf hcf hs hE hp (by omega) (by omega) hse hn
   rw [if_neg (not_took hb h1)]
   by_cases h2 : b = 34
   ·subst h2
    rw [if_pos (took_one.2 hb)]
    exact rarg_quo cb p c d s w hr hf hcf hs hE hp (by omega) (by omega) hse
   rw [if_neg (not_took hb h2)]
   by_cases h3 : b = 40
   ·subst h3
    rw [if_pos (took_one.2 hb)]
    refine rarg_list cb p c d s w hr hf hcf hs hE hp (argW s.data.toList f) (by omega) (by omega) hse (fun p c a p' c' h4 h5 => ?_) (fun W p' c' h4 h5 h6 h7 => ?_)
    ·have := arg_ok hE f p c a p' c' (by rw [wsize]; exact h4) h5
     rw [wsize] at this
     exact this
    ·exact rarg_is cb s hcf hs hE f (d + 1) p' c' W (by omega) h4 (hf.but h7 hcf) h6 h5 (fun W' h8 => hn W' (h7.trans (h8.less h7.size)))
   rw [if_neg (not_took hb h3)]
   exact rarg_word cb p c d s w hr hf hcf hs hE hp b (by omega) (by omega) hse h2 h1 h3
end Go.Proofs.YtogigccbnohjjaaGreatDoor
namespace Go.Proofs
end Go.Proofs
namespace Go.Proofs.YtogigccbnohjjaaGreatDoor
open Go.RowKit Go.Proofs.Aid Go.Proofs.Hd
theorem ends_of {s : Tx} (h : Lib.hasSuffix s [13, 10] = true) : Ends s := by
 unfold Lib.hasSuffix at h
 obtain ⟨t, ht⟩ := List.isSuffixOf_iff_suffix.1 h
 exact ⟨t, ht.symm⟩
end Go.Proofs.YtogigccbnohjjaaGreatDoor
