/-
  What (message).is of package search does at what stands for itself: numbers, days, bytes, sets.
-/
import Derived.Test.YtogigccbnohjjaaGreatDoorBpFlagsLetters
namespace Go.Proofs.YtogigccbnohjjaaGreatDoor
open Go.RowKit Go.Proofs.Aid Go.Proofs.Sq Go.Proofs.Hd
set_option maxHeartbeats 2000000
set_option maxRecDepth 100000
def Mx (m : Sr.Lt) (xs : List Value) : Prop := ∃ (tb : ByteArray) (fa : Option Addr) (fn fc : Nat), xs = [.int .i64 m.uid, .slice fa fn fc, .int .i64 m.day, .string tb, .int .i64 m.which, .int .i64 m.many, .int .i64 m.greatest] ∧ tb.data.toList = m.text
theorem sts_rg {w : World} {Ok : Nat → Prop} {v : Value} {r : List (Nat × Nat)} (h : StS w Ok v r) : Rg w v (Sr.setI r) := by
 obtain ⟨a, c, rfl, h⟩ := h
 have hl : (Sr.setI r).length = r.length := by simp [Sr.setI]
 rcases h with rfl | ⟨b, o, rfl, _, h⟩
 ·exact ⟨a, c, rfl, Or.inl rfl⟩
 ·refine ⟨_, c, by rw [hl], Or.inr ⟨b, o, rfl, fun j p hp => ?_⟩⟩
  have hp : (Sr.setI r)[j]? = some p := hp
  rw [Sr.setI, List.getElem?_map] at hp
  obtain ⟨x, hx, rfl⟩ := Option.map_eq_some_iff.1 hp
  exact h j x hx
theorem two_boxes (w : World) (cs ks : Array Value) (t1 t2 : TypeId) : ∃ W2, (w.alloc (.cells cs t1)).alloc (.cells ks t2) = W2 ∧ W2.heap.size = w.heap.size + 2 ∧ W2.heap[w.heap.size]? = some (.cells cs t1 (0, 0)) ∧ W2.heap[w.heap.size + 1]? = some (.cells ks t2 (0, 0)) ∧ Below w.heap.size w W2 := by
 refine ⟨_, rfl, by simp, ?_, ?_, ((Below.refl _ _).alloc (Nat.le_refl _) _).alloc (by simp) _⟩
 ·rw [Lib.alloc_old _ _ _ (by simp)]
  exact heap_alloc_new _ _
 ·have := heap_alloc_new (w.alloc (.cells cs t1)) (.cells ks t2)
  have hz : (w.alloc (.cells cs t1)).heap.size = w.heap.size + 1 := by simp
  rw [hz] at this
  exact this
theorem is_6 (m : Sr.Lt) (ms : List Value) (name text : Sr.Tx) (n : Int) (set : List (Nat × Nat)) (keys : List Sr.Ky) (ys : List Value) (Ok : Nat → Prop) (d : Nat) (w : World) (hm : Mx m ms) (hk : Kx w Ok (.mk 6 name text n set keys) ys) (hd : d ≤ 1000) (hs : set.length ≤ 1000) :
  Calls Tryz.prog 22 #[.agg ms.toArray, .agg ys.toArray, .int .i64 (d : Int)] w fun e w' => e = .returned (.bool (decide (n < (m.text.length : Int)))) ∧ Below w.heap.size w w' := by
 obtain ⟨tb, fa, fn, fc, rfl, htb⟩ := hm
 cases hk with
 | mk code n nb tx set sv ks a c rows hst hkk ha =>
  have hrg := sts_rg hst
  obtain ⟨sa, sc, rfl, _⟩ := hst
  rw [show ([.int .i64 m.uid, .slice fa fn fc, .int .i64 m.day, .string tb, .int .i64 m.which, .int .i64 m.many, .int .i64 m.greatest] : List Value).toArray = #[.int .i64 m.uid, .slice fa fn fc, .int .i64 m.day, .string tb, .int .i64 m.which, .int .i64 m.many, .int .i64 m.greatest] from rfl]
  obtain ⟨SN, hSN⟩ : ∃ n, set.length = n := ⟨_, rfl⟩
  obtain ⟨KN, hKN⟩ : ∃ n, keys.length = n := ⟨_, rfl⟩
  rw [hSN] at hrg
  rw [hSN, hKN, show ([.int .i64 6, .string nb, .string tx, .int .i64 n, .slice sa SN sc, .slice a KN c] : List Value).toArray = #[.int .i64 6, .string nb, .string tx, .int .i64 n, .slice sa SN sc, .slice a KN c] from rfl]
  have dd : decide ((65536 : Int) < (d : Int)) = false := decide_eq_false (by omega)
  obtain ⟨W2, hW2, hz2, e1, e2, hb2⟩ := two_boxes w #[.int .i64 m.uid, .slice fa fn fc, .int .i64 m.day, .string tb, .int .i64 m.which, .int .i64 m.many, .int .i64 m.greatest] #[.int .i64 6, .string nb, .string tx, .int .i64 n, .slice sa SN sc, .slice a KN c] 66 32
  have r0 : W2.cell? ⟨w.heap.size, 0, none⟩ = some (.int .i64 m.uid) := rd_cell e1 rfl
  have r2 : W2.cell? ⟨w.heap.size, 2, none⟩ = some (.int .i64 m.day) := rd_cell e1 rfl
  have r3 : W2.cell? ⟨w.heap.size, 3, none⟩ = some (.string tb) := rd_cell e1 rfl
  have r4 : W2.cell? ⟨w.heap.size, 4, none⟩ = some (.int .i64 m.which) := rd_cell e1 rfl
  have r5 : W2.cell? ⟨w.heap.size, 5, none⟩ = some (.int .i64 m.many) := rd_cell e1 rfl
  have r6 : W2.cell? ⟨w.heap.size, 6, none⟩ = some (.int .i64 m.greatest) := rd_cell e1 rfl
  have k0 : W2.cell? ⟨w.heap.size + 1, 0, none⟩ = some (.int .i64 6) := rd_cell e2 rfl
  have k3 : W2.cell? ⟨w.heap.size + 1, 3, none⟩ = some (.int .i64 n) := rd_cell e2 rfl
  have k4 : W2.cell? ⟨w.heap.size + 1, 4, none⟩ = some (.slice sa SN sc) := rd_cell e2 rfl
  have HB2 : Hid (Below w.heap.size w W2) := hb2
  have HTB : Hid (m.text.length = tb.size) := by rw [← htb]; exact list_size tb
  have cH : ∀ p q, Calls Tryz.prog 44 #[.slice sa SN sc, .int .i64 p, .int .i64 q] W2 fun e w' => e = .returned (.bool (hasSet p q (Sr.setI set))) ∧ Below W2.heap.size W2 w' := fun p q => has_any _ _ p q W2 (hrg.below hb2 (Nat.le_refl _)) (by rw [show (Sr.setI set).length = set.length by simp [Sr.setI]]; exact hs)
  clear hrg e1 e2 hkk ha htb hb2 hKN hSN
  go_enter Tryz.func22, Tryz.ntmps22
  go_wp2_with fail
  go_ret
  exact ⟨by rw [HTB.out]; rfl, HB2.out⟩
theorem is_7 (m : Sr.Lt) (ms : List Value) (name text : Sr.Tx) (n : Int) (set : List (Nat × Nat)) (keys : List Sr.Ky) (ys : List Value) (Ok : Nat → Prop) (d : Nat) (w : World) (hm : Mx m ms) (hk : Kx w Ok (.mk 7 name text n set keys) ys) (hd : d ≤ 1000) (hs : set.length ≤ 1000) :
  Calls Tryz.prog 22 #[.agg ms.toArray, .agg ys.toArray, .int .i64 (d : Int)] w fun e w' => e = .returned (.bool (decide ((m.text.length : Int) < n))) ∧ Below w.heap.size w w' := by
 obtain ⟨tb, fa, fn, fc, rfl, htb⟩ := hm
 cases hk with
 | mk code n nb tx set sv ks a c rows hst hkk ha =>
  have hrg := sts_rg hst
  obtain ⟨sa, sc, rfl, _⟩ := hst
  rw [show ([.int .i64 m.uid, .slice fa fn fc, .int .i64 m.day, .string tb, .int .i64 m.which, .int .i64 m.many, .int .i64 m.greatest] : List Value).toArray = #[.int .i64 m.uid, .slice fa fn fc, .int .i64 m.day, .string tb, .int .i64 m.which, .int .i64 m.many, .int .i64 m.greatest] from rfl]
  obtain ⟨SN, hSN⟩ : ∃ n, set.length = n := ⟨_, rfl⟩
  obtain ⟨KN, hKN⟩ : ∃ n, keys.length = n := ⟨_, rfl⟩
  rw [hSN] at hrg
  rw [hSN, hKN, show ([.int .i64 7, .string nb, .string tx, .int .i64 n, .slice sa SN sc, .slice a KN c] : List Value).toArray = #[.int .i64 7, .string nb, .string tx, .int .i64 n, .slice sa SN sc, .slice a KN c] from rfl]
  have dd : decide ((65536 : Int) < (d : Int)) = false := decide_eq_false (by omega)
  obtain ⟨W2, hW2, hz2, e1, e2, hb2⟩ := two_boxes w #[.int .i64 m.uid, .slice fa fn fc, .int .i64 m.day, .string tb, .int .i64 m.which, .int .i64 m.many, .int .i64 m.greatest] #[.int .i64 7, .string nb, .string tx, .int .i64 n, .slice sa SN sc, .slice a KN c] 66 32
  have r0 : W2.cell? ⟨w.heap.size, 0, none⟩ = some (.int .i64 m.uid) := rd_cell e1 rfl
  have r2 : W2.cell? ⟨w.heap.size, 2, none⟩ = some (.int .i64 m.day) := rd_cell e1 rfl
  have r3 : W2.cell? ⟨w.heap.size, 3, none⟩ = some (.string tb) := rd_cell e1 rfl
  have r4 : W2.cell? ⟨w.heap.size, 4, none⟩ = some (.int .i64 m.which) := rd_cell e1 rfl
  have r5 : W2.cell? ⟨w.heap.size, 5, none⟩ = some (.int .i64 m.many) := rd_cell e1 rfl
  have r6 : W2.cell? ⟨w.heap.size, 6, none⟩ = some (.int .i64 m.greatest) := rd_cell e1 rfl
  have k0 : W2.cell? ⟨w.heap.size + 1, 0, none⟩ = some (.int .i64 7) := rd_cell e2 rfl
  have k3 : W2.cell? ⟨w.heap.size + 1, 3, none⟩ = some (.int .i64 n) := rd_cell e2 rfl
  have k4 : W2.cell? ⟨w.heap.size + 1, 4, none⟩ = some (.slice sa SN sc) := rd_cell e2 rfl
  have HB2 : Hid (Below w.heap.size w W2) := hb2
  have HTB : Hid (m.text.length = tb.size) := by rw [← htb]; exact list_size tb
  have cH : ∀ p q, Calls Tryz.prog 44 #[.slice sa SN sc, .int .i64 p, .int .i64 q] W2 fun e w' => e = .returned (.bool (hasSet p q (Sr.setI set))) ∧ Below W2.heap.size W2 w' := fun p q => has_any _ _ p q W2 (hrg.below hb2 (Nat.le_refl _)) (by rw [show (Sr.setI set).length = set.length by simp [Sr.setI]]; exact hs)
  clear hrg e1 e2 hkk ha htb hb2 hKN hSN
  go_enter Tryz.func22, Tryz.ntmps22
  go_wp2_with fail
  go_ret
  exact ⟨by rw [HTB.out]; rfl, HB2.out⟩
theorem is_8 (m : Sr.Lt) (ms : List Value) (name text : Sr.Tx) (n : Int) (set : List (Nat × Nat)) (keys : List Sr.Ky) (ys : List Value) (Ok : Nat → Prop) (d : Nat) (w : World) (hm : Mx m ms) (hk : Kx w Ok (.mk 8 name text n set keys) ys) (hd : d ≤ 1000) (hs : set.length ≤ 1000) :
  Calls Tryz.prog 22 #[.agg ms.toArray, .agg ys.toArray, .int .i64 (d : Int)] w fun e w' => e = .returned (.bool (decide (m.day < n))) ∧ Below w.heap.size w w' := by
 obtain ⟨tb, fa, fn, fc, rfl, htb⟩ := hm
 cases hk with
 | mk code n nb tx set sv ks a c rows hst hkk ha =>
  have hrg := sts_rg hst
  obtain ⟨sa, sc, rfl, _⟩ := hst
  rw [show ([.int .i64 m.uid, .slice fa fn fc, .int .i64 m.day, .string tb, .int .i64 m.which, .int .i64 m.many, .int .i64 m.greatest] : List Value).toArray = #[.int .i64 m.uid, .slice fa fn fc, .int .i64 m.day, .string tb, .int .i64 m.which, .int .i64 m.many, .int .i64 m.greatest] from rfl]
  obtain ⟨SN, hSN⟩ : ∃ n, set.length = n := ⟨_, rfl⟩
  obtain ⟨KN, hKN⟩ : ∃ n, keys.length = n := ⟨_, rfl⟩
  rw [hSN] at hrg
  rw [hSN, hKN, show ([.int .i64 8, .string nb, .string tx, .int .i64 n, .slice sa SN sc, .slice a KN c] : List Value).toArray = #[.int .i64 8, .string nb, .string tx, .int .i64 n, .slice sa SN sc, .slice a KN c] from rfl]
  have dd : decide ((65536 : Int) < (d : Int)) = false := decide_eq_false (by omega)
  obtain ⟨W2, hW2, hz2, e1, e2, hb2⟩ := two_boxes w #[.int .i64 m.uid, .slice fa fn fc, .int .i64 m.day, .string tb, .int .i64 m.which, .int .i64 m.many, .int .i64 m.greatest] #[.int .i64 8, .string nb, .string tx, .int .i64 n, .slice sa SN sc, .slice a KN c] 66 32
  have r0 : W2.cell? ⟨w.heap.size, 0, none⟩ = some (.int .i64 m.uid) := rd_cell e1 rfl
  have r2 : W2.cell? ⟨w.heap.size, 2, none⟩ = some (.int .i64 m.day) := rd_cell e1 rfl
  have r3 : W2.cell? ⟨w.heap.size, 3, none⟩ = some (.string tb) := rd_cell e1 rfl
  have r4 : W2.cell? ⟨w.heap.size, 4, none⟩ = some (.int .i64 m.which) := rd_cell e1 rfl
  have r5 : W2.cell? ⟨w.heap.size, 5, none⟩ = some (.int .i64 m.many) := rd_cell e1 rfl
  have r6 : W2.cell? ⟨w.heap.size, 6, none⟩ = some (.int .i64 m.greatest) := rd_cell e1 rfl
  have k0 : W2.cell? ⟨w.heap.size + 1, 0, none⟩ = some (.int .i64 8) := rd_cell e2 rfl
  have k3 : W2.cell? ⟨w.heap.size + 1, 3, none⟩ = some (.int .i64 n) := rd_cell e2 rfl
  have k4 : W2.cell? ⟨w.heap.size + 1, 4, none⟩ = some (.slice sa SN sc) := rd_cell e2 rfl
  have HB2 : Hid (Below w.heap.size w W2) := hb2
  have HTB : Hid (m.text.length = tb.size) := by rw [← htb]; exact list_size tb
  have cH : ∀ p q, Calls Tryz.prog 44 #[.slice sa SN sc, .int .i64 p, .int .i64 q] W2 fun e w' => e = .returned (.bool (hasSet p q (Sr.setI set))) ∧ Below W2.heap.size W2 w' := fun p q => has_any _ _ p q W2 (hrg.below hb2 (Nat.le_refl _)) (by rw [show (Sr.setI set).length = set.length by simp [Sr.setI]]; exact hs)
  clear hrg e1 e2 hkk ha htb hb2 hKN hSN
  go_enter Tryz.func22, Tryz.ntmps22
  go_wp2_with fail
  go_ret
  exact ⟨rfl, HB2.out⟩
theorem is_9 (m : Sr.Lt) (ms : List Value) (name text : Sr.Tx) (n : Int) (set : List (Nat × Nat)) (keys : List Sr.Ky) (ys : List Value) (Ok : Nat → Prop) (d : Nat) (w : World) (hm : Mx m ms) (hk : Kx w Ok (.mk 9 name text n set keys) ys) (hd : d ≤ 1000) (hs : set.length ≤ 1000) :
  Calls Tryz.prog 22 #[.agg ms.toArray, .agg ys.toArray, .int .i64 (d : Int)] w fun e w' => e = .returned (.bool (decide (m.day = n))) ∧ Below w.heap.size w w' := by
 obtain ⟨tb, fa, fn, fc, rfl, htb⟩ := hm
 cases hk with
 | mk code n nb tx set sv ks a c rows hst hkk ha =>
  have hrg := sts_rg hst
  obtain ⟨sa, sc, rfl, _⟩ := hst
  rw [show ([.int .i64 m.uid, .slice fa fn fc, .int .i64 m.day, .string tb, .int .i64 m.which, .int .i64 m.many, .int .i64 m.greatest] : List Value).toArray = #[.int .i64 m.uid, .slice fa fn fc, .int .i64 m.day, .string tb, .int .i64 m.which, .int .i64 m.many, .int .i64 m.greatest] from rfl]
  obtain ⟨SN, hSN⟩ : ∃ n, set.length = n := ⟨_, rfl⟩
  obtain ⟨KN, hKN⟩ : ∃ n, keys.length = n := ⟨_, rfl⟩
  rw [hSN] at hrg
  rw [hSN, hKN, show ([.int .i64 9, .string nb, .string tx, .int .i64 n, .slice sa SN sc, .slice a KN c] : List Value).toArray = #[.int .i64 9, .string nb, .string tx, .int .i64 n, .slice sa SN sc, .slice a KN c] from rfl]
  have dd : decide ((65536 : Int) < (d : Int)) = false := decide_eq_false (by omega)
  obtain ⟨W2, hW2, hz2, e1, e2, hb2⟩ := two_boxes w #[.int .i64 m.uid, .slice fa fn fc, .int .i64 m.day, .string tb, .int .i64 m.which, .int .i64 m.many, .int .i64 m.greatest] #[.int .i64 9, .string nb, .string tx, .int .i64 n, .slice sa SN sc, .slice a KN c] 66 32
  have r0 : W2.cell? ⟨w.heap.size, 0, none⟩ = some (.int .i64 m.uid) := rd_cell e1 rfl
  have r2 : W2.cell? ⟨w.heap.size, 2, none⟩ = some (.int .i64 m.day) := rd_cell e1 rfl
  have r3 : W2.cell? ⟨w.heap.size, 3, none⟩ = some (.string tb) := rd_cell e1 rfl
  have r4 : W2.cell? ⟨w.heap.size, 4, none⟩ = some (.int .i64 m.which) := rd_cell e1 rfl
  have r5 : W2.cell? ⟨w.heap.size, 5, none⟩ = some (.int .i64 m.many) := rd_cell e1 rfl
  have r6 : W2.cell? ⟨w.heap.size, 6, none⟩ = some (.int .i64 m.greatest) := rd_cell e1 rfl
  have k0 : W2.cell? ⟨w.heap.size + 1, 0, none⟩ = some (.int .i64 9) := rd_cell e2 rfl
  have k3 : W2.cell? ⟨w.heap.size + 1, 3, none⟩ = some (.int .i64 n) := rd_cell e2 rfl
  have k4 : W2.cell? ⟨w.heap.size + 1, 4, none⟩ = some (.slice sa SN sc) := rd_cell e2 rfl
  have HB2 : Hid (Below w.heap.size w W2) := hb2
  have HTB : Hid (m.text.length = tb.size) := by rw [← htb]; exact list_size tb
  have cH : ∀ p q, Calls Tryz.prog 44 #[.slice sa SN sc, .int .i64 p, .int .i64 q] W2 fun e w' => e = .returned (.bool (hasSet p q (Sr.setI set))) ∧ Below W2.heap.size W2 w' := fun p q => has_any _ _ p q W2 (hrg.below hb2 (Nat.le_refl _)) (by rw [show (Sr.setI set).length = set.length by simp [Sr.setI]]; exact hs)
  clear hrg e1 e2 hkk ha htb hb2 hKN hSN
  go_enter Tryz.func22, Tryz.ntmps22
  go_wp2_with fail
  go_ret
  exact ⟨by congr 2, HB2.out⟩
theorem is_10 (m : Sr.Lt) (ms : List Value) (name text : Sr.Tx) (n : Int) (set : List (Nat × Nat)) (keys : List Sr.Ky) (ys : List Value) (Ok : Nat → Prop) (d : Nat) (w : World) (hm : Mx m ms) (hk : Kx w Ok (.mk 10 name text n set keys) ys) (hd : d ≤ 1000) (hs : set.length ≤ 1000) :
  Calls Tryz.prog 22 #[.agg ms.toArray, .agg ys.toArray, .int .i64 (d : Int)] w fun e w' => e = .returned (.bool (decide (n ≤ m.day))) ∧ Below w.heap.size w w' := by
 obtain ⟨tb, fa, fn, fc, rfl, htb⟩ := hm
 cases hk with
 | mk code n nb tx set sv ks a c rows hst hkk ha =>
  have hrg := sts_rg hst
  obtain ⟨sa, sc, rfl, _⟩ := hst
  rw [show ([.int .i64 m.uid, .slice fa fn fc, .int .i64 m.day, .string tb, .int .i64 m.which, .int .i64 m.many, .int .i64 m.greatest] : List Value).toArray = #[.int .i64 m.uid, .slice fa fn fc, .int .i64 m.day, .string tb, .int .i64 m.which, .int .i64 m.many, .int .i64 m.greatest] from rfl]
  obtain ⟨SN, hSN⟩ : ∃ n, set.length = n := ⟨_, rfl⟩
  obtain ⟨KN, hKN⟩ : ∃ n, keys.length = n := ⟨_, rfl⟩
  rw [hSN] at hrg
  rw [hSN, hKN, show ([.int .i64 10, .string nb, .string tx, .int .i64 n, .slice sa SN sc, .slice a KN c] : List Value).toArray = #[.int .i64 10, .string nb, .string tx, .int .i64 n, .slice sa SN sc, .slice a KN c] from rfl]
  have dd : decide ((65536 : Int) < (d : Int)) = false := decide_eq_false (by omega)
  obtain ⟨W2, hW2, hz2, e1, e2, hb2⟩ := two_boxes w #[.int .i64 m.uid, .slice fa fn fc, .int .i64 m.day, .string tb, .int .i64 m.which, .int .i64 m.many, .int .i64 m.greatest] #[.int .i64 10, .string nb, .string tx, .int .i64 n, .slice sa SN sc, .slice a KN c] 66 32
  have r0 : W2.cell? ⟨w.heap.size, 0, none⟩ = some (.int .i64 m.uid) := rd_cell e1 rfl
  have r2 : W2.cell? ⟨w.heap.size, 2, none⟩ = some (.int .i64 m.day) := rd_cell e1 rfl
  have r3 : W2.cell? ⟨w.heap.size, 3, none⟩ = some (.string tb) := rd_cell e1 rfl
  have r4 : W2.cell? ⟨w.heap.size, 4, none⟩ = some (.int .i64 m.which) := rd_cell e1 rfl
  have r5 : W2.cell? ⟨w.heap.size, 5, none⟩ = some (.int .i64 m.many) := rd_cell e1 rfl
  have r6 : W2.cell? ⟨w.heap.size, 6, none⟩ = some (.int .i64 m.greatest) := rd_cell e1 rfl
  have k0 : W2.cell? ⟨w.heap.size + 1, 0, none⟩ = some (.int .i64 10) := rd_cell e2 rfl
  have k3 : W2.cell? ⟨w.heap.size + 1, 3, none⟩ = some (.int .i64 n) := rd_cell e2 rfl
  have k4 : W2.cell? ⟨w.heap.size + 1, 4, none⟩ = some (.slice sa SN sc) := rd_cell e2 rfl
  have HB2 : Hid (Below w.heap.size w W2) := hb2
  have HTB : Hid (m.text.length = tb.size) := by rw [← htb]; exact list_size tb
  have cH : ∀ p q, Calls Tryz.prog 44 #[.slice sa SN sc, .int .i64 p, .int .i64 q] W2 fun e w' => e = .returned (.bool (hasSet p q (Sr.setI set))) ∧ Below W2.heap.size W2 w' := fun p q => has_any _ _ p q W2 (hrg.below hb2 (Nat.le_refl _)) (by rw [show (Sr.setI set).length = set.length by simp [Sr.setI]]; exact hs)
  clear hrg e1 e2 hkk ha htb hb2 hKN hSN
  go_enter Tryz.func22, Tryz.ntmps22
  go_wp2_with fail
  go_ret
  exact ⟨rfl, HB2.out⟩
theorem is_11 (m : Sr.Lt) (ms : List Value) (name text : Sr.Tx) (n : Int) (set : List (Nat × Nat)) (keys : List Sr.Ky) (ys : List Value) (Ok : Nat → Prop) (d : Nat) (w : World) (hm : Mx m ms) (hk : Kx w Ok (.mk 11 name text n set keys) ys) (hd : d ≤ 1000) (hs : set.length ≤ 1000) :
  Calls Tryz.prog 22 #[.agg ms.toArray, .agg ys.toArray, .int .i64 (d : Int)] w fun e w' => e = .returned (.bool (hasSet m.uid m.greatest (Sr.setI set))) ∧ Below w.heap.size w w' := by
 obtain ⟨tb, fa, fn, fc, rfl, htb⟩ := hm
 cases hk with
 | mk code n nb tx set sv ks a c rows hst hkk ha =>
  have hrg := sts_rg hst
  obtain ⟨sa, sc, rfl, _⟩ := hst
  rw [show ([.int .i64 m.uid, .slice fa fn fc, .int .i64 m.day, .string tb, .int .i64 m.which, .int .i64 m.many, .int .i64 m.greatest] : List Value).toArray = #[.int .i64 m.uid, .slice fa fn fc, .int .i64 m.day, .string tb, .int .i64 m.which, .int .i64 m.many, .int .i64 m.greatest] from rfl]
  obtain ⟨SN, hSN⟩ : ∃ n, set.length = n := ⟨_, rfl⟩
  obtain ⟨KN, hKN⟩ : ∃ n, keys.length = n := ⟨_, rfl⟩
  rw [hSN] at hrg
  rw [hSN, hKN, show ([.int .i64 11, .string nb, .string tx, .int .i64 n, .slice sa SN sc, .slice a KN c] : List Value).toArray = #[.int .i64 11, .string nb, .string tx, .int .i64 n, .slice sa SN sc, .slice a KN c] from rfl]
  have dd : decide ((65536 : Int) < (d : Int)) = false := decide_eq_false (by omega)
  obtain ⟨W2, hW2, hz2, e1, e2, hb2⟩ := two_boxes w #[.int .i64 m.uid, .slice fa fn fc, .int .i64 m.day, .string tb, .int .i64 m.which, .int .i64 m.many, .int .i64 m.greatest] #[.int .i64 11, .string nb, .string tx, .int .i64 n, .slice sa SN sc, .slice a KN c] 66 32
  have r0 : W2.cell? ⟨w.heap.size, 0, none⟩ = some (.int .i64 m.uid) := rd_cell e1 rfl
  have r2 : W2.cell? ⟨w.heap.size, 2, none⟩ = some (.int .i64 m.day) := rd_cell e1 rfl
  have r3 : W2.cell? ⟨w.heap.size, 3, none⟩ = some (.string tb) := rd_cell e1 rfl
  have r4 : W2.cell? ⟨w.heap.size, 4, none⟩ = some (.int .i64 m.which) := rd_cell e1 rfl
  have r5 : W2.cell? ⟨w.heap.size, 5, none⟩ = some (.int .i64 m.many) := rd_cell e1 rfl
  have r6 : W2.cell? ⟨w.heap.size, 6, none⟩ = some (.int .i64 m.greatest) := rd_cell e1 rfl
  have k0 : W2.cell? ⟨w.heap.size + 1, 0, none⟩ = some (.int .i64 11) := rd_cell e2 rfl
  have k3 : W2.cell? ⟨w.heap.size + 1, 3, none⟩ = some (.int .i64 n) := rd_cell e2 rfl
  have k4 : W2.cell? ⟨w.heap.size + 1, 4, none⟩ = some (.slice sa SN sc) := rd_cell e2 rfl
  have HB2 : Hid (Below w.heap.size w W2) := hb2
  have HTB : Hid (m.text.length = tb.size) := by rw [← htb]; exact list_size tb
  have cH : ∀ p q, Calls Tryz.prog 44 #[.slice sa SN sc, .int .i64 p, .int .i64 q] W2 fun e w' => e = .returned (.bool (hasSet p q (Sr.setI set))) ∧ Below W2.heap.size W2 w' := fun p q => has_any _ _ p q W2 (hrg.below hb2 (Nat.le_refl _)) (by rw [show (Sr.setI set).length = set.length by simp [Sr.setI]]; exact hs)
  clear hrg e1 e2 hkk ha htb hb2 hKN hSN
  go_enter Tryz.func22, Tryz.ntmps22
  go_wp2_with fail
  refine (cH _ _).mono ?_
  rintro e w3 ⟨rfl, hb3⟩
  have HB3 : Hid (Below w.heap.size w w3) := HB2.out.trans (hb3.mono HB2.out.size)
  clear hb3
  go_wp2_with fail
  go_ret
  exact ⟨rfl, HB3.out⟩
theorem is_12 (m : Sr.Lt) (ms : List Value) (name text : Sr.Tx) (n : Int) (set : List (Nat × Nat)) (keys : List Sr.Ky) (ys : List Value) (Ok : Nat → Prop) (d : Nat) (w : World) (hm : Mx m ms) (hk : Kx w Ok (.mk 12 name text n set keys) ys) (hd : d ≤ 1000) (hs : set.length ≤ 1000) :
  Calls Tryz.prog 22 #[.agg ms.toArray, .agg ys.toArray, .int .i64 (d : Int)] w fun e w' => e = .returned (.bool (hasSet m.which m.many (Sr.setI set))) ∧ Below w.heap.size w w' := by
 obtain ⟨tb, fa, fn, fc, rfl, htb⟩ := hm
 cases hk with
 | mk code n nb tx set sv ks a c rows hst hkk ha =>
  have hrg := sts_rg hst
  obtain ⟨sa, sc, rfl, _⟩ := hst
  rw [show ([.int .i64 m.uid, .slice fa fn fc, .int .i64 m.day, .string tb, .int .i64 m.which, .int .i64 m.many, .int .i64 m.greatest] : List Value).toArray = #[.int .i64 m.uid, .slice fa fn fc, .int .i64 m.day, .string tb, .int .i64 m.which, .int .i64 m.many, .int .i64 m.greatest] from rfl]
  obtain ⟨SN, hSN⟩ : ∃ n, set.length = n := ⟨_, rfl⟩
  obtain ⟨KN, hKN⟩ : ∃ n, keys.length = n := ⟨_, rfl⟩
  rw [hSN] at hrg
  rw [hSN, hKN, show ([.int .i64 12, .string nb, .string tx, .int .i64 n, .slice sa SN sc, .slice a KN c] : List Value).toArray = #[.int .i64 12, .string nb, .string tx, .int .i64 n, .slice sa SN sc, .slice a KN c] from rfl]
  have dd : decide ((65536 : Int) < (d : Int)) = false := decide_eq_false (by omega)
  obtain ⟨W2, hW2, hz2, e1, e2, hb2⟩ := two_boxes w #[.int .i64 m.uid, .slice fa fn fc, .int .i64 m.day, .string tb, .int .i64 m.which, .int .i64 m.many, .int .i64 m.greatest] #[.int .i64 12, .string nb, .string tx, .int .i64 n, .slice sa SN sc, .slice a KN c] 66 32
  have r0 : W2.cell? ⟨w.heap.size, 0, none⟩ = some (.int .i64 m.uid) := rd_cell e1 rfl
  have r2 : W2.cell? ⟨w.heap.size, 2, none⟩ = some (.int .i64 m.day) := rd_cell e1 rfl
  have r3 : W2.cell? ⟨w.heap.size, 3, none⟩ = some (.string tb) := rd_cell e1 rfl
  have r4 : W2.cell? ⟨w.heap.size, 4, none⟩ = some (.int .i64 m.which) := rd_cell e1 rfl
  have r5 : W2.cell? ⟨w.heap.size, 5, none⟩ = some (.int .i64 m.many) := rd_cell e1 rfl
  have r6 : W2.cell? ⟨w.heap.size, 6, none⟩ = some (.int .i64 m.greatest) := rd_cell e1 rfl
  have k0 : W2.cell? ⟨w.heap.size + 1, 0, none⟩ = some (.int .i64 12) := rd_cell e2 rfl
  have k3 : W2.cell? ⟨w.heap.size + 1, 3, none⟩ = some (.int .i64 n) := rd_cell e2 rfl
  have k4 : W2.cell? ⟨w.heap.size + 1, 4, none⟩ = some (.slice sa SN sc) := rd_cell e2 rfl
  have HB2 : Hid (Below w.heap.size w W2) := hb2
  have HTB : Hid (m.text.length = tb.size) := by rw [← htb]; exact list_size tb
  have cH : ∀ p q, Calls Tryz.prog 44 #[.slice sa SN sc, .int .i64 p, .int .i64 q] W2 fun e w' => e = .returned (.bool (hasSet p q (Sr.setI set))) ∧ Below W2.heap.size W2 w' := fun p q => has_any _ _ p q W2 (hrg.below hb2 (Nat.le_refl _)) (by rw [show (Sr.setI set).length = set.length by simp [Sr.setI]]; exact hs)
  clear hrg e1 e2 hkk ha htb hb2 hKN hSN
  go_enter Tryz.func22, Tryz.ntmps22
  go_wp2_with fail
  refine (cH _ _).mono ?_
  rintro e w3 ⟨rfl, hb3⟩
  have HB3 : Hid (Below w.heap.size w w3) := HB2.out.trans (hb3.mono HB2.out.size)
  clear hb3
  go_wp2_with fail
  go_ret
  exact ⟨rfl, HB3.out⟩
theorem is_1 (m : Sr.Lt) (ms : List Value) (name text : Sr.Tx) (n : Int) (set : List (Nat × Nat)) (keys : List Sr.Ky) (ys : List Value) (Ok : Nat → Prop) (d : Nat) (w : World) (hm : Mx m ms) (hk : Kx w Ok (.mk 1 name text n set keys) ys) (hd : d ≤ 1000) (hs : set.length ≤ 1000) :
  Calls Tryz.prog 22 #[.agg ms.toArray, .agg ys.toArray, .int .i64 (d : Int)] w fun e w' => e = .returned (.bool (true)) ∧ Below w.heap.size w w' := by
 obtain ⟨tb, fa, fn, fc, rfl, htb⟩ := hm
 cases hk with
 | mk code n nb tx set sv ks a c rows hst hkk ha =>
  have hrg := sts_rg hst
  obtain ⟨sa, sc, rfl, _⟩ := hst
  rw [show ([.int .i64 m.uid, .slice fa fn fc, .int .i64 m.day, .string tb, .int .i64 m.which, .int .i64 m.many, .int .i64 m.greatest] : List Value).toArray = #[.int .i64 m.uid, .slice fa fn fc, .int .i64 m.day, .string tb, .int .i64 m.which, .int .i64 m.many, .int .i64 m.greatest] from rfl]
  obtain ⟨SN, hSN⟩ : ∃ n, set.length = n := ⟨_, rfl⟩
  obtain ⟨KN, hKN⟩ : ∃ n, keys.length = n := ⟨_, rfl⟩
  rw [hSN] at hrg
  rw [hSN, hKN, show ([.int .i64 1, .string nb, .string tx, .int .i64 n, .slice sa SN sc, .slice a KN c] : List Value).toArray = #[.int .i64 1, .string nb, .string tx, .int .i64 n, .slice sa SN sc, .slice a KN c] from rfl]
  have dd : decide ((65536 : Int) < (d : Int)) = false := decide_eq_false (by omega)
  obtain ⟨W2, hW2, hz2, e1, e2, hb2⟩ := two_boxes w #[.int .i64 m.uid, .slice fa fn fc, .int .i64 m.day, .string tb, .int .i64 m.which, .int .i64 m.many, .int .i64 m.greatest] #[.int .i64 1, .string nb, .string tx, .int .i64 n, .slice sa SN sc, .slice a KN c] 66 32
  have r0 : W2.cell? ⟨w.heap.size, 0, none⟩ = some (.int .i64 m.uid) := rd_cell e1 rfl
  have r2 : W2.cell? ⟨w.heap.size, 2, none⟩ = some (.int .i64 m.day) := rd_cell e1 rfl
  have r3 : W2.cell? ⟨w.heap.size, 3, none⟩ = some (.string tb) := rd_cell e1 rfl
  have r4 : W2.cell? ⟨w.heap.size, 4, none⟩ = some (.int .i64 m.which) := rd_cell e1 rfl
  have r5 : W2.cell? ⟨w.heap.size, 5, none⟩ = some (.int .i64 m.many) := rd_cell e1 rfl
  have r6 : W2.cell? ⟨w.heap.size, 6, none⟩ = some (.int .i64 m.greatest) := rd_cell e1 rfl
  have k0 : W2.cell? ⟨w.heap.size + 1, 0, none⟩ = some (.int .i64 1) := rd_cell e2 rfl
  have k3 : W2.cell? ⟨w.heap.size + 1, 3, none⟩ = some (.int .i64 n) := rd_cell e2 rfl
  have k4 : W2.cell? ⟨w.heap.size + 1, 4, none⟩ = some (.slice sa SN sc) := rd_cell e2 rfl
  have HB2 : Hid (Below w.heap.size w W2) := hb2
  have HTB : Hid (m.text.length = tb.size) := by rw [← htb]; exact list_size tb
  have cH : ∀ p q, Calls Tryz.prog 44 #[.slice sa SN sc, .int .i64 p, .int .i64 q] W2 fun e w' => e = .returned (.bool (hasSet p q (Sr.setI set))) ∧ Below W2.heap.size W2 w' := fun p q => has_any _ _ p q W2 (hrg.below hb2 (Nat.le_refl _)) (by rw [show (Sr.setI set).length = set.length by simp [Sr.setI]]; exact hs)
  clear hrg e1 e2 hkk ha htb hb2 hKN hSN
  go_enter Tryz.func22, Tryz.ntmps22
  go_wp2_with fail
  go_ret
  exact ⟨rfl, HB2.out⟩
end Go.Proofs.YtogigccbnohjjaaGreatDoor
