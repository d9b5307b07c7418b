/-
  Keys in memory; what search, and more.
-/
import Derived.Test.YtogigccbnohjjaaGreatDoorBpSearchMem
namespace Go.Proofs.YtogigccbnohjjaaGreatDoor
open Go.RowKit Go.Proofs.Aid Go.Proofs.Sq Go.Proofs.Hd
set_option maxHeartbeats 2000000
set_option maxRecDepth 100000
def StS (w : World) (Ok : Nat → Prop) (v : Value) (r : List (Nat × Nat)) : Prop :=
 ∃ a c, v = .slice a r.length c ∧ (r = [] ∨ ∃ b o, a = some ⟨b, o, none⟩ ∧ Ok b ∧ ∀ (j : Nat) x, r[j]? = some x → w.cell? ⟨b, o + j * 2, none⟩ = some (.int .i64 (x.1 : Int)) ∧ w.cell? ⟨b, o + j * 2 + 1, none⟩ = some (.int .i64 (x.2 : Int)))
theorem StS.kept {w w' : World} {Ok Ok' : Nat → Prop} {v : Value} {r : List (Nat × Nat)} (h : StS w Ok v r) (hO : ∀ k, Ok k → k < w.heap.size → Ok' k ∧ w'.heap[k]? = w.heap[k]?) : StS w' Ok' v r := by
 obtain ⟨a, c, h1, h2⟩ := h
 refine ⟨a, c, h1, ?_⟩
 rcases h2 with h2 | ⟨b, o, h2, h3, h4⟩
 ·exact Or.inl h2
 ·cases r with
  | nil => exact Or.inl rfl
  | cons x r =>
   have h9 := hO b h3 (World.block_lt_of_cell? _ _ (h4 0 x rfl).1)
   exact Or.inr ⟨b, o, h2, h9.1, fun j y hj => ⟨(World.cell?_of_block h9.2).trans (h4 j y hj).1, (World.cell?_of_block h9.2).trans (h4 j y hj).2⟩⟩
theorem StS.nil (w : World) (Ok : Nat → Prop) : StS w Ok (.slice none 0 0) [] := ⟨none, 0, rfl, Or.inl rfl⟩
inductive Kx (w : World) (Ok : Nat → Prop) : Sr.Ky → List Value → Prop
 | mk (code n : Int) (nb tb : ByteArray) (set : List (Nat × Nat)) (sv : Value) (ks : List Sr.Ky) (a : Option Addr) (c : Nat) (rows : Nat → List Value) (hs : StS w Ok sv set)
  (hk : ∀ (j : Nat) k, ks[j]? = some k → Kx w Ok k (rows j))
  (ha : ks = [] ∨ ∃ b o, a = some ⟨b, o, none⟩ ∧ Ok b ∧ ∀ (j : Nat) k, ks[j]? = some k → ∀ i x, (rows j)[i]? = some x → w.cell? ⟨b, o + j * 6 + i, none⟩ = some x) :
  Kx w Ok (.mk code nb.data.toList tb.data.toList n set ks) [.int .i64 code, .string nb, .string tb, .int .i64 n, sv, .slice a ks.length c]
theorem Kx.length {w : World} {Ok : Nat → Prop} {k : Sr.Ky} {xs : List Value} (h : Kx w Ok k xs) : xs.length = 6 := by cases h; rfl
theorem Kx.kept {w w' : World} {Ok Ok' : Nat → Prop} {k : Sr.Ky} {xs : List Value} (h : Kx w Ok k xs) (hO : ∀ k, Ok k → k < w.heap.size → Ok' k ∧ w'.heap[k]? = w.heap[k]?) : Kx w' Ok' k xs := by
 induction h with
 | mk code n nb tb set sv ks a c rows hs hk ha ih =>
  refine Kx.mk code n nb tb set sv ks a c rows (hs.kept hO) ih ?_
  rcases ha with ha | ⟨b, o, h1, h2, h3⟩
  ·exact Or.inl ha
  ·cases ks with
   | nil => exact Or.inl rfl
   | cons k ks =>
    have hl := (hk 0 k rfl).length
    have hb : b < w.heap.size := World.block_lt_of_cell? _ _ (h3 0 k rfl 0 _ (List.getElem?_eq_getElem (by omega)))
    have h9 := hO b h2 hb
    exact Or.inr ⟨b, o, h1, h9.1, fun j q hj i x hx => (World.cell?_of_block h9.2).trans (h3 j q hj i x hx)⟩
theorem Kx.under {w w' : World} {Ok : Nat → Prop} {k : Sr.Ky} {xs : List Value} (h : Kx w Ok k xs) (hb : Below w.heap.size w w') : Kx w' Ok k xs := h.kept fun k hk hlt => ⟨hk, hb.block k hlt⟩
theorem kx_cells {w : World} {Ok : Nat → Prop} {k : Sr.Ky} {xs : List Value} (h : Kx w Ok k xs) : ∃ (x0 x3 : Int) (x1 x2 : ByteArray) (xa : Option Addr) (xk xc : Nat) (ya : Option Addr) (yk yc : Nat), xs = [.int .i64 x0, .string x1, .string x2, .int .i64 x3, .slice xa xk xc, .slice ya yk yc] := by
 cases h with
 | mk code n nb tb set sv ks a c rows hs hk ha =>
  obtain ⟨a', c', rfl, _⟩ := hs
  exact ⟨_, _, _, _, _, _, _, _, _, _, rfl⟩
theorem kx_not {w : World} {Ok : Nat → Prop} {k : Sr.Ky} {xs : List Value} {b c : Nat} (h : Kx w Ok k xs) (hb : Ok b) (hc : ∀ i x, xs[i]? = some x → w.cell? ⟨b, i, none⟩ = some x) : Kx w Ok (Sr.notK k) [.int .i64 13, .string ⟨#[]⟩, .string ⟨#[]⟩, .int .i64 0, .slice none 0 0, .slice (some ⟨b, 0, none⟩) 1 c] := by
 refine Kx.mk 13 0 ⟨#[]⟩ ⟨#[]⟩ [] (.slice none 0 0) [k] (some ⟨b, 0, none⟩) c (fun _ => xs) (StS.nil _ _) (fun j q hj => ?_) (Or.inr ⟨b, 0, rfl, hb, fun j q hj i x hx => ?_⟩)
 ·cases j with
  | zero => simp at hj; subst hj; exact h
  | succ j => simp at hj
 ·cases j with
  | zero => rw [Nat.zero_mul, Nat.zero_add]; exact hc i x hx
  | succ j => simp at hj
theorem not_is (k : Sr.Ky) (xs : List Value) (Ok : Nat → Prop) (w : World) (h : Kx w Ok k xs) :
  Calls Tryz.prog 67 #[.agg xs.toArray] w fun e w' => ∃ ys, e = .returned (.agg ys.toArray) ∧ Kx w' (fun q => Ok q ∨ w.heap.size ≤ q) (Sr.notK k) ys ∧ Below w.heap.size w w' := by
 obtain ⟨x0, x3, x1, x2, xa, xk, xc, ya, yk, yc, rfl⟩ := kx_cells h
 have hta : ([.int .i64 x0, .string x1, .string x2, .int .i64 x3, .slice xa xk xc, .slice ya yk yc] : List Value).toArray = #[.int .i64 x0, .string x1, .string x2, .int .i64 x3, .slice xa xk xc, .slice ya yk yc] := rfl
 rw [hta]
 have b1 : Below w.heap.size w (w.alloc (.cells #[.int .i64 x0, .string x1, .string x2, .int .i64 x3, .slice xa xk xc, .slice ya yk yc] 32)) := (Below.refl _ _).alloc (Nat.le_refl _) _
 have e1 := heap_alloc_new w (.cells #[.int .i64 x0, .string x1, .string x2, .int .i64 x3, .slice xa xk xc, .slice ya yk yc] 32)
 have z1 : (w.alloc (.cells #[.int .i64 x0, .string x1, .string x2, .int .i64 x3, .slice xa xk xc, .slice ya yk yc] 32)).heap.size = w.heap.size + 1 := by simp
 obtain ⟨W1, hW1⟩ : ∃ W, w.alloc (.cells #[.int .i64 x0, .string x1, .string x2, .int .i64 x3, .slice xa xk xc, .slice ya yk yc] 32) = W := ⟨_, rfl⟩
 rw [hW1] at b1 e1 z1
 have b2 : Below W1.heap.size W1 (W1.alloc (.cells #[.int .i64 0, .string ⟨#[]⟩, .string ⟨#[]⟩, .int .i64 0, .slice none 0 0, .slice none 0 0] 32)) := (Below.refl _ _).alloc (Nat.le_refl _) _
 have e2 := heap_alloc_new W1 (.cells #[.int .i64 0, .string ⟨#[]⟩, .string ⟨#[]⟩, .int .i64 0, .slice none 0 0, .slice none 0 0] 32)
 have z2 : (W1.alloc (.cells #[.int .i64 0, .string ⟨#[]⟩, .string ⟨#[]⟩, .int .i64 0, .slice none 0 0, .slice none 0 0] 32)).heap.size = W1.heap.size + 1 := by simp
 obtain ⟨W2, hW2⟩ : ∃ W, W1.alloc (.cells #[.int .i64 0, .string ⟨#[]⟩, .string ⟨#[]⟩, .int .i64 0, .slice none 0 0, .slice none 0 0] 32) = W := ⟨_, rfl⟩
 rw [hW2] at b2 e2 z2
 have b02 := b1.trans (b2.mono (by omega))
 have eA := (b2.block w.heap.size (by omega)).trans e1
 rw [z1] at e2
 have t0 := rd_cell (j := 0) eA rfl
 have t1 := rd_cell (j := 1) eA rfl
 have t2 := rd_cell (j := 2) eA rfl
 have t3 := rd_cell (j := 3) eA rfl
 have t4 := rd_cell (j := 4) eA rfl
 have t5 := rd_cell (j := 5) eA rfl
 have b3 : Below W2.heap.size W2 (W2.alloc (.cells #[.int .i64 x0, .string x1, .string x2, .int .i64 x3, .slice xa xk xc, .slice ya yk yc] 32)) := (Below.refl _ _).alloc (Nat.le_refl _) _
 have e3 := heap_alloc_new W2 (.cells #[.int .i64 x0, .string x1, .string x2, .int .i64 x3, .slice xa xk xc, .slice ya yk yc] 32)
 obtain ⟨W3, hW3⟩ : ∃ W, W2.alloc (.cells #[.int .i64 x0, .string x1, .string x2, .int .i64 x3, .slice xa xk xc, .slice ya yk yc] 32) = W := ⟨_, rfl⟩
 rw [hW3] at b3 e3
 have z3 : W3.heap.size = W2.heap.size + 1 := by rw [← hW3]; simp
 have eR3 := (b3.block (w.heap.size + 1) (by omega)).trans e2
 have b03 := b02.trans (b3.mono (by omega))
 obtain ⟨⟨r0, r1, r2, r3, r4, r5⟩, ⟨rf0, rf1, rf2, rf3, rf4, rf5⟩, v0, v1, v2, v3, v4, v5⟩ := six_facts eR3 (.int .i64 13) (.string ⟨#[]⟩) (.string ⟨#[]⟩) (.int .i64 0) (.slice none 0 0) (.slice (some ⟨W2.heap.size, 0, none⟩) 1 1)
 have HK : Hid (Kx W3 (fun q => Ok q ∧ q < w.heap.size ∨ W2.heap.size ≤ q) (Sr.notK k) [.int .i64 13, .string ⟨#[]⟩, .string ⟨#[]⟩, .int .i64 0, .slice none 0 0, .slice (some ⟨W2.heap.size, 0, none⟩) 1 1]) := kx_not (h.kept fun q hq hlt => ⟨Or.inl ⟨hq, hlt⟩, b03.block q hlt⟩) (Or.inr (Nat.le_refl _)) (fun i x hx => rd_cell e3 (by simpa using hx))
 have hz2 : W2.heap.size = w.heap.size + 2 := by omega
 rw [hz2] at HK v5
 clear h hta e1 e2 e3 eA b1 b2 b3
 go_enter Tryz.func67, Tryz.ntmps67
 go_wp2_with fail
 refine bodyPost_ret (v := .agg #[.int .i64 13, .string ⟨#[]⟩, .string ⟨#[]⟩, .int .i64 0, .slice none 0 0, .slice (some ⟨w.heap.size + 2, 0, none⟩) 1 1]) (by simp [results, Tryz.results67, go_sem, v0, v1, v2, v3, v4, v5]) rfl ?_
 exact ⟨_, rfl, HK.out.kept fun q hq hlt => ⟨hq.elim (fun h => Or.inl h.1) (fun h => Or.inr (by omega)), six_other _ (hq.elim (fun h => by have := h.2; omega) (fun h => by omega)) _ _ _ _ _ _⟩, (six_but (rb := w.heap.size) (to_but b03) (by omega) _ _ _ _ _ _).below (Nat.le_refl _) (Nat.le_refl _)⟩
end Go.Proofs.YtogigccbnohjjaaGreatDoor
namespace Go.Proofs.YtogigccbnohjjaaGreatDoor
open Go.RowKit Go.Proofs.Aid Go.Proofs.Sq
set_option maxHeartbeats 2000000
set_option maxRecDepth 100000
theorem meant_any (g n : Int) (B : Nat) (w : World) (h : w.cell? ⟨B, 0, none⟩ = some (.int .i64 g)) :
  Calls Tryz.prog 80 #[.int .i64 n, .pointer (some ⟨B, 0, none⟩)] w fun e w' => e = .returned (.int .i64 (meant g n)) ∧ w' = w := by
 by_cases h0 : n = 0
 ·rw [show meant g n = g from if_pos h0]
  subst h0
  go_enter Tryz.func80, Tryz.ntmps80
  go_wp2
  go_ret
  exact ⟨rfl, rfl⟩
 ·rw [show meant g n = n from if_neg h0]
  go_enter Tryz.func80, Tryz.ntmps80
  go_wp2
  go_ret
  exact ⟨rfl, rfl⟩
theorem has_yes {p q n : Int} {r ANS : Bool} (h : Hid ((decide (min p q ≤ n ∧ n ≤ max p q) || r) = ANS)) (h1 : min p q ≤ n ∧ n ≤ max p q) : true = ANS := by
 have h2 : (decide (min p q ≤ n ∧ n ≤ max p q) || r) = ANS := h
 rw [decide_eq_true h1] at h2; simpa using h2
theorem has_no {p q n : Int} {r ANS : Bool} (h : Hid ((decide (min p q ≤ n ∧ n ≤ max p q) || r) = ANS)) (h1 : ¬ (min p q ≤ n ∧ n ≤ max p q)) : r = ANS := by
 have h2 : (decide (min p q ≤ n ∧ n ≤ max p q) || r) = ANS := h
 rw [decide_eq_false h1] at h2; simpa using h2
theorem has_any (v : Value) (l : List (Int × Int)) (n g : Int) (w : World) (h : Rg w v l) (hl : l.length ≤ 1000) :
  Calls Tryz.prog 44 #[v, .int .i64 n, .int .i64 g] w fun e w' => e = .returned (.bool (hasSet n g l)) ∧ Below w.heap.size w w' := by
 obtain ⟨a, c, rfl, ha⟩ := h
 obtain ⟨ANS, hANS⟩ : ∃ ANS, hasSet n g l = ANS := ⟨_, rfl⟩
 rw [hANS]
 obtain ⟨len, hn⟩ : ∃ n, l.length = n := ⟨_, rfl⟩
 rw [hn] at hl ⊢
 go_enter Tryz.func44, Tryz.ntmps44
 go_wp2
 go_loopw [15] (fun i wr => ∃ k : Nat, i = .int .i64 (k : Int) ∧ k ≤ len ∧ hasSet n g (l.drop k) = ANS ∧ Below w.heap.size w wr ∧ wr.cell? ⟨w.heap.size, 0, none⟩ = some (.int .i64 g)) (fun i _ => len - (intOf i).toNat)
 case atStart => exact ⟨0, rfl, by omega, by simpa using hANS, (Below.refl _ _).alloc (Nat.le_refl _) _, by simp⟩
 case round =>
  obtain ⟨k, rfl, hk, hd, hb, hg⟩ := hrel
  by_cases hlt : k < len
  ·rcases ha with rfl | ⟨b, o, rfl, hat⟩
   ·simp at hn; omega
   have hlk : l[k]? = some l[k] := List.getElem?_eq_getElem _
   obtain ⟨c1, c2⟩ := (hat.below hb (Nat.le_refl _)) k _ hlk
   rw [List.drop_eq_getElem_cons (by omega), hasSet, List.any_cons] at hd
   obtain ⟨⟨x, y⟩, hxy⟩ : ∃ p, l[k]'(by omega) = p := ⟨_, rfl⟩
   rw [hxy] at c1 c2 hd
   simp only at c1 c2
   rw [show hasR n g (x, y) = decide (min (meant g x) (meant g y) ≤ n ∧ n ≤ max (meant g x) (meant g y)) from rfl] at hd
   have hlt2 : w.heap.size < wr.heap.size := World.block_lt_of_cell? _ _ hg
   have m1 : ∀ N w', w'.cell? ⟨w.heap.size, 0, none⟩ = some (.int .i64 g) → Calls Tryz.prog 80 #[.int .i64 N, .pointer (some ⟨w.heap.size, 0, none⟩)] w' fun e w'' => e = .returned (.int .i64 (meant g N)) ∧ w'' = w' := fun N w' h => meant_any g N _ w' h
   clear hANS hlk hxy hat
   go_wp2
   have hg2 : (wr.alloc (.cells #[.int .i64 x, .int .i64 y] 96)).cell? ⟨w.heap.size, 0, none⟩ = some (.int .i64 g) := by
    rw [World.cell?_alloc_old _ _ _ (Nat.ne_of_lt hlt2)]; exact hg
   have k1 : (wr.alloc (.cells #[.int .i64 x, .int .i64 y] 96)).cell? ⟨wr.heap.size, 0, none⟩ = some (.int .i64 x) := by simp
   have k2 : (wr.alloc (.cells #[.int .i64 x, .int .i64 y] 96)).cell? ⟨wr.heap.size, 1, none⟩ = some (.int .i64 y) := by simp
   have hb2 : Below w.heap.size w (wr.alloc (.cells #[.int .i64 x, .int .i64 y] 96)) := hb.alloc hb.size _
   generalize wr.alloc (.cells #[.int .i64 x, .int .i64 y] 96) = W at hg2 k1 k2 hb2 ⊢
   go_quiet (first | (go_at_call 80; refine Calls.quiet_of_same (m1 _ _ ?_); simpa using hg2))
   generalize meant g x = p at hd ⊢
   generalize meant g y = q at hd ⊢
   have HDs : Hid ((decide (min p q ≤ n ∧ n ≤ max p q) || List.any (List.drop (k + 1) l) (hasR n g)) = ANS) := hd
   clear hd
   go_wp2
   all_goals first
    | (go_ret; exact ⟨congrArg (fun b => Ending.returned (Value.bool b)) (has_yes HDs (by omega)), below_drewN hb2 _⟩)
    | (go_roundw
       case rel => exact ⟨k + 1, by go_num, by omega, has_no HDs (by omega), below_drewN hb2 _, by simpa using hg2⟩
       case measure => simp [intOf]; omega)
  ·have HD : Hid (false = ANS) := by
    show false = ANS
    rw [List.drop_eq_nil_of_le (by omega)] at hd
    simpa [hasSet] using hd
   clear hd hANS ha
   go_wp2
   go_ret
   exact ⟨congrArg (fun b => Ending.returned (Value.bool b)) HD, hb⟩
end Go.Proofs.YtogigccbnohjjaaGreatDoor
