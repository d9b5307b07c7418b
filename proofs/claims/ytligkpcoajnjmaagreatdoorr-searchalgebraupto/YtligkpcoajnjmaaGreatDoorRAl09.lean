/-
  What (message).is of package search does at what stands for itself: numbers, days, bytes, sets.
  What head.moved does: letters great and small.
  What head.Small does.
-/
import Derived.Test.YtligkpcoajnjmaaGreatDoorRAl07
import Derived.Test.YtligkpcoajnjmaaGreatDoorRAl08
import Derived.Test.YtligkpcoajnjmaaGreatDoorRProg
import Derived.Test.YtligkpcoajnjmaaGreatDoorRAl02
import Derived.Test.YtligkpcoajnjmaaGreatDoorRAl01
import Derived.Lib.ConvBytes
import Derived.WalkKit
namespace Go.Proofs.YtligkpcoajnjmaaGreatDoorR
open Go.RowKit Go.Proofs.Aid Go.Proofs.Sq Go.Proofs.Hd

/-- A letter in memory, and where it stands: seven values. -/
def Mx (m : Sr.Lt) (xs : List Value) : Prop := ∃ (tb : ByteArray) (fa : Option Addr) (fn fc : Nat), xs = [.int .i64 m.uid, .slice fa fn fc, .int .i64 m.day, .string tb, .int .i64 m.which, .int .i64 m.many, .int .i64 m.greatest] ∧ tb.data.toList = m.text
theorem sts_rg {w : World} {Ok : Nat → Prop} {v : Value} {r : List (Nat × Nat)} (h : StS w Ok v r) : Rg w v (Sr.setI r) := by
  obtain ⟨a, c, rfl, h⟩ := h
  have hl : (Sr.setI r).length = r.length := by simp [Sr.setI]
  rcases h with rfl | ⟨b, o, rfl, _, h⟩
  · exact ⟨a, c, rfl, Or.inl rfl⟩
  · refine ⟨_, c, by rw [hl], Or.inr ⟨b, o, rfl, fun j p hp => ?_⟩⟩
    have hp : (Sr.setI r)[j]? = some p := hp
    rw [Sr.setI, List.getElem?_map] at hp
    obtain ⟨x, hx, rfl⟩ := Option.map_eq_some_iff.1 hp
    exact h j x hx
/-- What stands in a world of two boxes: a message and a key. -/
theorem two_boxes (w : World) (cs ks : Array Value) (t1 t2 : TypeId) : ∃ W2, (w.alloc (.cells cs t1)).alloc (.cells ks t2) = W2 ∧ W2.heap.size = w.heap.size + 2 ∧ W2.heap[w.heap.size]? = some (.cells cs t1 (0, 0)) ∧ W2.heap[w.heap.size + 1]? = some (.cells ks t2 (0, 0)) ∧ Below w.heap.size w W2 := by
  refine ⟨_, rfl, by simp, ?_, ?_, ((Below.refl _ _).alloc (Nat.le_refl _) _).alloc (by simp) _⟩
  · rw [Lib.alloc_old _ _ _ (by simp)]
    exact heap_alloc_new _ _
  · have := heap_alloc_new (w.alloc (.cells cs t1)) (.cells ks t2)
    have hz : (w.alloc (.cells cs t1)).heap.size = w.heap.size + 1 := by simp
    rw [hz] at this
    exact this
set_option maxHeartbeats 2000000 in
set_option maxRecDepth 100000 in
theorem is_6 (m : Sr.Lt) (ms : List Value) (name text : Sr.Tx) (n : Int) (set : List (Nat × Nat)) (keys : List Sr.Ky) (ys : List Value) (Ok : Nat → Prop) (d : Nat) (w : World) (hm : Mx m ms) (hk : Kx w Ok (.mk 6 name text n set keys) ys) (hd : d ≤ 1000) (hs : set.length ≤ 1000) :
    Calls Tryz.prog 45 #[.agg ms.toArray, .agg ys.toArray, .int .i64 (d : Int)] w fun e w' => e = .returned (.bool (decide (n < (m.text.length : Int)))) ∧ Below w.heap.size w w' := by
  obtain ⟨tb, fa, fn, fc, rfl, htb⟩ := hm
  cases hk with
  | mk code n nb tx set sv ks a c rows hst hkk ha =>
    have hrg := sts_rg hst
    obtain ⟨sa, sc, rfl, _⟩ := hst
    rw [show ([.int .i64 m.uid, .slice fa fn fc, .int .i64 m.day, .string tb, .int .i64 m.which, .int .i64 m.many, .int .i64 m.greatest] : List Value).toArray = #[.int .i64 m.uid, .slice fa fn fc, .int .i64 m.day, .string tb, .int .i64 m.which, .int .i64 m.many, .int .i64 m.greatest] from rfl]
    obtain ⟨SN, hSN⟩ : ∃ n, set.length = n := ⟨_, rfl⟩
    obtain ⟨KN, hKN⟩ : ∃ n, keys.length = n := ⟨_, rfl⟩
    rw [hSN] at hrg
    rw [hSN, hKN, show ([.int .i64 6, .string nb, .string tx, .int .i64 n, .slice sa SN sc, .slice a KN c] : List Value).toArray = #[.int .i64 6, .string nb, .string tx, .int .i64 n, .slice sa SN sc, .slice a KN c] from rfl]
    have dd : decide ((65536 : Int) < (d : Int)) = false := decide_eq_false (by omega)
    obtain ⟨W2, hW2, hz2, e1, e2, hb2⟩ := two_boxes w #[.int .i64 m.uid, .slice fa fn fc, .int .i64 m.day, .string tb, .int .i64 m.which, .int .i64 m.many, .int .i64 m.greatest] #[.int .i64 6, .string nb, .string tx, .int .i64 n, .slice sa SN sc, .slice a KN c] 103 33
    have r0 : W2.cell? ⟨w.heap.size, 0, none⟩ = some (.int .i64 m.uid) := rd_cell e1 rfl
    have r2 : W2.cell? ⟨w.heap.size, 2, none⟩ = some (.int .i64 m.day) := rd_cell e1 rfl
    have r3 : W2.cell? ⟨w.heap.size, 3, none⟩ = some (.string tb) := rd_cell e1 rfl
    have r4 : W2.cell? ⟨w.heap.size, 4, none⟩ = some (.int .i64 m.which) := rd_cell e1 rfl
    have r5 : W2.cell? ⟨w.heap.size, 5, none⟩ = some (.int .i64 m.many) := rd_cell e1 rfl
    have r6 : W2.cell? ⟨w.heap.size, 6, none⟩ = some (.int .i64 m.greatest) := rd_cell e1 rfl
    have k0 : W2.cell? ⟨w.heap.size + 1, 0, none⟩ = some (.int .i64 6) := rd_cell e2 rfl
    have k3 : W2.cell? ⟨w.heap.size + 1, 3, none⟩ = some (.int .i64 n) := rd_cell e2 rfl
    have k4 : W2.cell? ⟨w.heap.size + 1, 4, none⟩ = some (.slice sa SN sc) := rd_cell e2 rfl
    have HB2 : Hid (Below w.heap.size w W2) := hb2
    have HTB : Hid (m.text.length = tb.size) := by rw [← htb]; exact list_size tb
    have cH : ∀ p q, Calls Tryz.prog 18 #[.slice sa SN sc, .int .i64 p, .int .i64 q] W2 fun e w' => e = .returned (.bool (hasSet p q (Sr.setI set))) ∧ Below W2.heap.size W2 w' := fun p q => has_any _ _ p q W2 (hrg.below hb2 (Nat.le_refl _)) (by rw [show (Sr.setI set).length = set.length by simp [Sr.setI]]; exact hs)
    clear hrg e1 e2 hkk ha htb hb2 hKN hSN
    go_enter Tryz.func45, Tryz.ntmps45
    go_wp2_with fail
    go_ret
    exact ⟨by rw [HTB.out]; rfl, HB2.out⟩
set_option maxHeartbeats 2000000 in
set_option maxRecDepth 100000 in
theorem is_7 (m : Sr.Lt) (ms : List Value) (name text : Sr.Tx) (n : Int) (set : List (Nat × Nat)) (keys : List Sr.Ky) (ys : List Value) (Ok : Nat → Prop) (d : Nat) (w : World) (hm : Mx m ms) (hk : Kx w Ok (.mk 7 name text n set keys) ys) (hd : d ≤ 1000) (hs : set.length ≤ 1000) :
    Calls Tryz.prog 45 #[.agg ms.toArray, .agg ys.toArray, .int .i64 (d : Int)] w fun e w' => e = .returned (.bool (decide ((m.text.length : Int) < n))) ∧ Below w.heap.size w w' := by
  obtain ⟨tb, fa, fn, fc, rfl, htb⟩ := hm
  cases hk with
  | mk code n nb tx set sv ks a c rows hst hkk ha =>
    have hrg := sts_rg hst
    obtain ⟨sa, sc, rfl, _⟩ := hst
    rw [show ([.int .i64 m.uid, .slice fa fn fc, .int .i64 m.day, .string tb, .int .i64 m.which, .int .i64 m.many, .int .i64 m.greatest] : List Value).toArray = #[.int .i64 m.uid, .slice fa fn fc, .int .i64 m.day, .string tb, .int .i64 m.which, .int .i64 m.many, .int .i64 m.greatest] from rfl]
    obtain ⟨SN, hSN⟩ : ∃ n, set.length = n := ⟨_, rfl⟩
    obtain ⟨KN, hKN⟩ : ∃ n, keys.length = n := ⟨_, rfl⟩
    rw [hSN] at hrg
    rw [hSN, hKN, show ([.int .i64 7, .string nb, .string tx, .int .i64 n, .slice sa SN sc, .slice a KN c] : List Value).toArray = #[.int .i64 7, .string nb, .string tx, .int .i64 n, .slice sa SN sc, .slice a KN c] from rfl]
    have dd : decide ((65536 : Int) < (d : Int)) = false := decide_eq_false (by omega)
    obtain ⟨W2, hW2, hz2, e1, e2, hb2⟩ := two_boxes w #[.int .i64 m.uid, .slice fa fn fc, .int .i64 m.day, .string tb, .int .i64 m.which, .int .i64 m.many, .int .i64 m.greatest] #[.int .i64 7, .string nb, .string tx, .int .i64 n, .slice sa SN sc, .slice a KN c] 103 33
    have r0 : W2.cell? ⟨w.heap.size, 0, none⟩ = some (.int .i64 m.uid) := rd_cell e1 rfl
    have r2 : W2.cell? ⟨w.heap.size, 2, none⟩ = some (.int .i64 m.day) := rd_cell e1 rfl
    have r3 : W2.cell? ⟨w.heap.size, 3, none⟩ = some (.string tb) := rd_cell e1 rfl
    have r4 : W2.cell? ⟨w.heap.size, 4, none⟩ = some (.int .i64 m.which) := rd_cell e1 rfl
    have r5 : W2.cell? ⟨w.heap.size, 5, none⟩ = some (.int .i64 m.many) := rd_cell e1 rfl
    have r6 : W2.cell? ⟨w.heap.size, 6, none⟩ = some (.int .i64 m.greatest) := rd_cell e1 rfl
    have k0 : W2.cell? ⟨w.heap.size + 1, 0, none⟩ = some (.int .i64 7) := rd_cell e2 rfl
    have k3 : W2.cell? ⟨w.heap.size + 1, 3, none⟩ = some (.int .i64 n) := rd_cell e2 rfl
    have k4 : W2.cell? ⟨w.heap.size + 1, 4, none⟩ = some (.slice sa SN sc) := rd_cell e2 rfl
    have HB2 : Hid (Below w.heap.size w W2) := hb2
    have HTB : Hid (m.text.length = tb.size) := by rw [← htb]; exact list_size tb
    have cH : ∀ p q, Calls Tryz.prog 18 #[.slice sa SN sc, .int .i64 p, .int .i64 q] W2 fun e w' => e = .returned (.bool (hasSet p q (Sr.setI set))) ∧ Below W2.heap.size W2 w' := fun p q => has_any _ _ p q W2 (hrg.below hb2 (Nat.le_refl _)) (by rw [show (Sr.setI set).length = set.length by simp [Sr.setI]]; exact hs)
    clear hrg e1 e2 hkk ha htb hb2 hKN hSN
    go_enter Tryz.func45, Tryz.ntmps45
    go_wp2_with fail
    go_ret
    exact ⟨by rw [HTB.out]; rfl, HB2.out⟩
set_option maxHeartbeats 2000000 in
set_option maxRecDepth 100000 in
theorem is_8 (m : Sr.Lt) (ms : List Value) (name text : Sr.Tx) (n : Int) (set : List (Nat × Nat)) (keys : List Sr.Ky) (ys : List Value) (Ok : Nat → Prop) (d : Nat) (w : World) (hm : Mx m ms) (hk : Kx w Ok (.mk 8 name text n set keys) ys) (hd : d ≤ 1000) (hs : set.length ≤ 1000) :
    Calls Tryz.prog 45 #[.agg ms.toArray, .agg ys.toArray, .int .i64 (d : Int)] w fun e w' => e = .returned (.bool (decide (m.day < n))) ∧ Below w.heap.size w w' := by
  obtain ⟨tb, fa, fn, fc, rfl, htb⟩ := hm
  cases hk with
  | mk code n nb tx set sv ks a c rows hst hkk ha =>
    have hrg := sts_rg hst
    obtain ⟨sa, sc, rfl, _⟩ := hst
    rw [show ([.int .i64 m.uid, .slice fa fn fc, .int .i64 m.day, .string tb, .int .i64 m.which, .int .i64 m.many, .int .i64 m.greatest] : List Value).toArray = #[.int .i64 m.uid, .slice fa fn fc, .int .i64 m.day, .string tb, .int .i64 m.which, .int .i64 m.many, .int .i64 m.greatest] from rfl]
    obtain ⟨SN, hSN⟩ : ∃ n, set.length = n := ⟨_, rfl⟩
    obtain ⟨KN, hKN⟩ : ∃ n, keys.length = n := ⟨_, rfl⟩
    rw [hSN] at hrg
    rw [hSN, hKN, show ([.int .i64 8, .string nb, .string tx, .int .i64 n, .slice sa SN sc, .slice a KN c] : List Value).toArray = #[.int .i64 8, .string nb, .string tx, .int .i64 n, .slice sa SN sc, .slice a KN c] from rfl]
    have dd : decide ((65536 : Int) < (d : Int)) = false := decide_eq_false (by omega)
    obtain ⟨W2, hW2, hz2, e1, e2, hb2⟩ := two_boxes w #[.int .i64 m.uid, .slice fa fn fc, .int .i64 m.day, .string tb, .int .i64 m.which, .int .i64 m.many, .int .i64 m.greatest] #[.int .i64 8, .string nb, .string tx, .int .i64 n, .slice sa SN sc, .slice a KN c] 103 33
    have r0 : W2.cell? ⟨w.heap.size, 0, none⟩ = some (.int .i64 m.uid) := rd_cell e1 rfl
    have r2 : W2.cell? ⟨w.heap.size, 2, none⟩ = some (.int .i64 m.day) := rd_cell e1 rfl
    have r3 : W2.cell? ⟨w.heap.size, 3, none⟩ = some (.string tb) := rd_cell e1 rfl
    have r4 : W2.cell? ⟨w.heap.size, 4, none⟩ = some (.int .i64 m.which) := rd_cell e1 rfl
    have r5 : W2.cell? ⟨w.heap.size, 5, none⟩ = some (.int .i64 m.many) := rd_cell e1 rfl
    have r6 : W2.cell? ⟨w.heap.size, 6, none⟩ = some (.int .i64 m.greatest) := rd_cell e1 rfl
    have k0 : W2.cell? ⟨w.heap.size + 1, 0, none⟩ = some (.int .i64 8) := rd_cell e2 rfl
    have k3 : W2.cell? ⟨w.heap.size + 1, 3, none⟩ = some (.int .i64 n) := rd_cell e2 rfl
    have k4 : W2.cell? ⟨w.heap.size + 1, 4, none⟩ = some (.slice sa SN sc) := rd_cell e2 rfl
    have HB2 : Hid (Below w.heap.size w W2) := hb2
    have HTB : Hid (m.text.length = tb.size) := by rw [← htb]; exact list_size tb
    have cH : ∀ p q, Calls Tryz.prog 18 #[.slice sa SN sc, .int .i64 p, .int .i64 q] W2 fun e w' => e = .returned (.bool (hasSet p q (Sr.setI set))) ∧ Below W2.heap.size W2 w' := fun p q => has_any _ _ p q W2 (hrg.below hb2 (Nat.le_refl _)) (by rw [show (Sr.setI set).length = set.length by simp [Sr.setI]]; exact hs)
    clear hrg e1 e2 hkk ha htb hb2 hKN hSN
    go_enter Tryz.func45, Tryz.ntmps45
    go_wp2_with fail
    go_ret
    exact ⟨rfl, HB2.out⟩
set_option maxHeartbeats 2000000 in
set_option maxRecDepth 100000 in
theorem is_9 (m : Sr.Lt) (ms : List Value) (name text : Sr.Tx) (n : Int) (set : List (Nat × Nat)) (keys : List Sr.Ky) (ys : List Value) (Ok : Nat → Prop) (d : Nat) (w : World) (hm : Mx m ms) (hk : Kx w Ok (.mk 9 name text n set keys) ys) (hd : d ≤ 1000) (hs : set.length ≤ 1000) :
    Calls Tryz.prog 45 #[.agg ms.toArray, .agg ys.toArray, .int .i64 (d : Int)] w fun e w' => e = .returned (.bool (decide (m.day = n))) ∧ Below w.heap.size w w' := by
  obtain ⟨tb, fa, fn, fc, rfl, htb⟩ := hm
  cases hk with
  | mk code n nb tx set sv ks a c rows hst hkk ha =>
    have hrg := sts_rg hst
    obtain ⟨sa, sc, rfl, _⟩ := hst
    rw [show ([.int .i64 m.uid, .slice fa fn fc, .int .i64 m.day, .string tb, .int .i64 m.which, .int .i64 m.many, .int .i64 m.greatest] : List Value).toArray = #[.int .i64 m.uid, .slice fa fn fc, .int .i64 m.day, .string tb, .int .i64 m.which, .int .i64 m.many, .int .i64 m.greatest] from rfl]
    obtain ⟨SN, hSN⟩ : ∃ n, set.length = n := ⟨_, rfl⟩
    obtain ⟨KN, hKN⟩ : ∃ n, keys.length = n := ⟨_, rfl⟩
    rw [hSN] at hrg
    rw [hSN, hKN, show ([.int .i64 9, .string nb, .string tx, .int .i64 n, .slice sa SN sc, .slice a KN c] : List Value).toArray = #[.int .i64 9, .string nb, .string tx, .int .i64 n, .slice sa SN sc, .slice a KN c] from rfl]
    have dd : decide ((65536 : Int) < (d : Int)) = false := decide_eq_false (by omega)
    obtain ⟨W2, hW2, hz2, e1, e2, hb2⟩ := two_boxes w #[.int .i64 m.uid, .slice fa fn fc, .int .i64 m.day, .string tb, .int .i64 m.which, .int .i64 m.many, .int .i64 m.greatest] #[.int .i64 9, .string nb, .string tx, .int .i64 n, .slice sa SN sc, .slice a KN c] 103 33
    have r0 : W2.cell? ⟨w.heap.size, 0, none⟩ = some (.int .i64 m.uid) := rd_cell e1 rfl
    have r2 : W2.cell? ⟨w.heap.size, 2, none⟩ = some (.int .i64 m.day) := rd_cell e1 rfl
    have r3 : W2.cell? ⟨w.heap.size, 3, none⟩ = some (.string tb) := rd_cell e1 rfl
    have r4 : W2.cell? ⟨w.heap.size, 4, none⟩ = some (.int .i64 m.which) := rd_cell e1 rfl
    have r5 : W2.cell? ⟨w.heap.size, 5, none⟩ = some (.int .i64 m.many) := rd_cell e1 rfl
    have r6 : W2.cell? ⟨w.heap.size, 6, none⟩ = some (.int .i64 m.greatest) := rd_cell e1 rfl
    have k0 : W2.cell? ⟨w.heap.size + 1, 0, none⟩ = some (.int .i64 9) := rd_cell e2 rfl
    have k3 : W2.cell? ⟨w.heap.size + 1, 3, none⟩ = some (.int .i64 n) := rd_cell e2 rfl
    have k4 : W2.cell? ⟨w.heap.size + 1, 4, none⟩ = some (.slice sa SN sc) := rd_cell e2 rfl
    have HB2 : Hid (Below w.heap.size w W2) := hb2
    have HTB : Hid (m.text.length = tb.size) := by rw [← htb]; exact list_size tb
    have cH : ∀ p q, Calls Tryz.prog 18 #[.slice sa SN sc, .int .i64 p, .int .i64 q] W2 fun e w' => e = .returned (.bool (hasSet p q (Sr.setI set))) ∧ Below W2.heap.size W2 w' := fun p q => has_any _ _ p q W2 (hrg.below hb2 (Nat.le_refl _)) (by rw [show (Sr.setI set).length = set.length by simp [Sr.setI]]; exact hs)
    clear hrg e1 e2 hkk ha htb hb2 hKN hSN
    go_enter Tryz.func45, Tryz.ntmps45
    go_wp2_with fail
    go_ret
    exact ⟨by congr 2, HB2.out⟩
set_option maxHeartbeats 2000000 in
set_option maxRecDepth 100000 in
theorem is_10 (m : Sr.Lt) (ms : List Value) (name text : Sr.Tx) (n : Int) (set : List (Nat × Nat)) (keys : List Sr.Ky) (ys : List Value) (Ok : Nat → Prop) (d : Nat) (w : World) (hm : Mx m ms) (hk : Kx w Ok (.mk 10 name text n set keys) ys) (hd : d ≤ 1000) (hs : set.length ≤ 1000) :
    Calls Tryz.prog 45 #[.agg ms.toArray, .agg ys.toArray, .int .i64 (d : Int)] w fun e w' => e = .returned (.bool (decide (n ≤ m.day))) ∧ Below w.heap.size w w' := by
  obtain ⟨tb, fa, fn, fc, rfl, htb⟩ := hm
  cases hk with
  | mk code n nb tx set sv ks a c rows hst hkk ha =>
    have hrg := sts_rg hst
    obtain ⟨sa, sc, rfl, _⟩ := hst
    rw [show ([.int .i64 m.uid, .slice fa fn fc, .int .i64 m.day, .string tb, .int .i64 m.which, .int .i64 m.many, .int .i64 m.greatest] : List Value).toArray = #[.int .i64 m.uid, .slice fa fn fc, .int .i64 m.day, .string tb, .int .i64 m.which, .int .i64 m.many, .int .i64 m.greatest] from rfl]
    obtain ⟨SN, hSN⟩ : ∃ n, set.length = n := ⟨_, rfl⟩
    obtain ⟨KN, hKN⟩ : ∃ n, keys.length = n := ⟨_, rfl⟩
    rw [hSN] at hrg
    rw [hSN, hKN, show ([.int .i64 10, .string nb, .string tx, .int .i64 n, .slice sa SN sc, .slice a KN c] : List Value).toArray = #[.int .i64 10, .string nb, .string tx, .int .i64 n, .slice sa SN sc, .slice a KN c] from rfl]
    have dd : decide ((65536 : Int) < (d : Int)) = false := decide_eq_false (by omega)
    obtain ⟨W2, hW2, hz2, e1, e2, hb2⟩ := two_boxes w #[.int .i64 m.uid, .slice fa fn fc, .int .i64 m.day, .string tb, .int .i64 m.which, .int .i64 m.many, .int .i64 m.greatest] #[.int .i64 10, .string nb, .string tx, .int .i64 n, .slice sa SN sc, .slice a KN c] 103 33
    have r0 : W2.cell? ⟨w.heap.size, 0, none⟩ = some (.int .i64 m.uid) := rd_cell e1 rfl
    have r2 : W2.cell? ⟨w.heap.size, 2, none⟩ = some (.int .i64 m.day) := rd_cell e1 rfl
    have r3 : W2.cell? ⟨w.heap.size, 3, none⟩ = some (.string tb) := rd_cell e1 rfl
    have r4 : W2.cell? ⟨w.heap.size, 4, none⟩ = some (.int .i64 m.which) := rd_cell e1 rfl
    have r5 : W2.cell? ⟨w.heap.size, 5, none⟩ = some (.int .i64 m.many) := rd_cell e1 rfl
    have r6 : W2.cell? ⟨w.heap.size, 6, none⟩ = some (.int .i64 m.greatest) := rd_cell e1 rfl
    have k0 : W2.cell? ⟨w.heap.size + 1, 0, none⟩ = some (.int .i64 10) := rd_cell e2 rfl
    have k3 : W2.cell? ⟨w.heap.size + 1, 3, none⟩ = some (.int .i64 n) := rd_cell e2 rfl
    have k4 : W2.cell? ⟨w.heap.size + 1, 4, none⟩ = some (.slice sa SN sc) := rd_cell e2 rfl
    have HB2 : Hid (Below w.heap.size w W2) := hb2
    have HTB : Hid (m.text.length = tb.size) := by rw [← htb]; exact list_size tb
    have cH : ∀ p q, Calls Tryz.prog 18 #[.slice sa SN sc, .int .i64 p, .int .i64 q] W2 fun e w' => e = .returned (.bool (hasSet p q (Sr.setI set))) ∧ Below W2.heap.size W2 w' := fun p q => has_any _ _ p q W2 (hrg.below hb2 (Nat.le_refl _)) (by rw [show (Sr.setI set).length = set.length by simp [Sr.setI]]; exact hs)
    clear hrg e1 e2 hkk ha htb hb2 hKN hSN
    go_enter Tryz.func45, Tryz.ntmps45
    go_wp2_with fail
    go_ret
    exact ⟨rfl, HB2.out⟩
set_option maxHeartbeats 2000000 in
set_option maxRecDepth 100000 in
theorem is_11 (m : Sr.Lt) (ms : List Value) (name text : Sr.Tx) (n : Int) (set : List (Nat × Nat)) (keys : List Sr.Ky) (ys : List Value) (Ok : Nat → Prop) (d : Nat) (w : World) (hm : Mx m ms) (hk : Kx w Ok (.mk 11 name text n set keys) ys) (hd : d ≤ 1000) (hs : set.length ≤ 1000) :
    Calls Tryz.prog 45 #[.agg ms.toArray, .agg ys.toArray, .int .i64 (d : Int)] w fun e w' => e = .returned (.bool (hasSet m.uid m.greatest (Sr.setI set))) ∧ Below w.heap.size w w' := by
  obtain ⟨tb, fa, fn, fc, rfl, htb⟩ := hm
  cases hk with
  | mk code n nb tx set sv ks a c rows hst hkk ha =>
    have hrg := sts_rg hst
    obtain ⟨sa, sc, rfl, _⟩ := hst
    rw [show ([.int .i64 m.uid, .slice fa fn fc, .int .i64 m.day, .string tb, .int .i64 m.which, .int .i64 m.many, .int .i64 m.greatest] : List Value).toArray = #[.int .i64 m.uid, .slice fa fn fc, .int .i64 m.day, .string tb, .int .i64 m.which, .int .i64 m.many, .int .i64 m.greatest] from rfl]
    obtain ⟨SN, hSN⟩ : ∃ n, set.length = n := ⟨_, rfl⟩
    obtain ⟨KN, hKN⟩ : ∃ n, keys.length = n := ⟨_, rfl⟩
    rw [hSN] at hrg
    rw [hSN, hKN, show ([.int .i64 11, .string nb, .string tx, .int .i64 n, .slice sa SN sc, .slice a KN c] : List Value).toArray = #[.int .i64 11, .string nb, .string tx, .int .i64 n, .slice sa SN sc, .slice a KN c] from rfl]
    have dd : decide ((65536 : Int) < (d : Int)) = false := decide_eq_false (by omega)
    obtain ⟨W2, hW2, hz2, e1, e2, hb2⟩ := two_boxes w #[.int .i64 m.uid, .slice fa fn fc, .int .i64 m.day, .string tb, .int .i64 m.which, .int .i64 m.many, .int .i64 m.greatest] #[.int .i64 11, .string nb, .string tx, .int .i64 n, .slice sa SN sc, .slice a KN c] 103 33
    have r0 : W2.cell? ⟨w.heap.size, 0, none⟩ = some (.int .i64 m.uid) := rd_cell e1 rfl
    have r2 : W2.cell? ⟨w.heap.size, 2, none⟩ = some (.int .i64 m.day) := rd_cell e1 rfl
    have r3 : W2.cell? ⟨w.heap.size, 3, none⟩ = some (.string tb) := rd_cell e1 rfl
    have r4 : W2.cell? ⟨w.heap.size, 4, none⟩ = some (.int .i64 m.which) := rd_cell e1 rfl
    have r5 : W2.cell? ⟨w.heap.size, 5, none⟩ = some (.int .i64 m.many) := rd_cell e1 rfl
    have r6 : W2.cell? ⟨w.heap.size, 6, none⟩ = some (.int .i64 m.greatest) := rd_cell e1 rfl
    have k0 : W2.cell? ⟨w.heap.size + 1, 0, none⟩ = some (.int .i64 11) := rd_cell e2 rfl
    have k3 : W2.cell? ⟨w.heap.size + 1, 3, none⟩ = some (.int .i64 n) := rd_cell e2 rfl
    have k4 : W2.cell? ⟨w.heap.size + 1, 4, none⟩ = some (.slice sa SN sc) := rd_cell e2 rfl
    have HB2 : Hid (Below w.heap.size w W2) := hb2
    have HTB : Hid (m.text.length = tb.size) := by rw [← htb]; exact list_size tb
    have cH : ∀ p q, Calls Tryz.prog 18 #[.slice sa SN sc, .int .i64 p, .int .i64 q] W2 fun e w' => e = .returned (.bool (hasSet p q (Sr.setI set))) ∧ Below W2.heap.size W2 w' := fun p q => has_any _ _ p q W2 (hrg.below hb2 (Nat.le_refl _)) (by rw [show (Sr.setI set).length = set.length by simp [Sr.setI]]; exact hs)
    clear hrg e1 e2 hkk ha htb hb2 hKN hSN
    go_enter Tryz.func45, Tryz.ntmps45
    go_wp2_with fail
    refine (cH _ _).mono ?_
    rintro e w3 ⟨rfl, hb3⟩
    have HB3 : Hid (Below w.heap.size w w3) := HB2.out.trans (hb3.mono HB2.out.size)
    clear hb3
    go_wp2_with fail
    go_ret
    exact ⟨rfl, HB3.out⟩
set_option maxHeartbeats 2000000 in
set_option maxRecDepth 100000 in
theorem is_12 (m : Sr.Lt) (ms : List Value) (name text : Sr.Tx) (n : Int) (set : List (Nat × Nat)) (keys : List Sr.Ky) (ys : List Value) (Ok : Nat → Prop) (d : Nat) (w : World) (hm : Mx m ms) (hk : Kx w Ok (.mk 12 name text n set keys) ys) (hd : d ≤ 1000) (hs : set.length ≤ 1000) :
    Calls Tryz.prog 45 #[.agg ms.toArray, .agg ys.toArray, .int .i64 (d : Int)] w fun e w' => e = .returned (.bool (hasSet m.which m.many (Sr.setI set))) ∧ Below w.heap.size w w' := by
  obtain ⟨tb, fa, fn, fc, rfl, htb⟩ := hm
  cases hk with
  | mk code n nb tx set sv ks a c rows hst hkk ha =>
    have hrg := sts_rg hst
    obtain ⟨sa, sc, rfl, _⟩ := hst
    rw [show ([.int .i64 m.uid, .slice fa fn fc, .int .i64 m.day, .string tb, .int .i64 m.which, .int .i64 m.many, .int .i64 m.greatest] : List Value).toArray = #[.int .i64 m.uid, .slice fa fn fc, .int .i64 m.day, .string tb, .int .i64 m.which, .int .i64 m.many, .int .i64 m.greatest] from rfl]
    obtain ⟨SN, hSN⟩ : ∃ n, set.length = n := ⟨_, rfl⟩
    obtain ⟨KN, hKN⟩ : ∃ n, keys.length = n := ⟨_, rfl⟩
    rw [hSN] at hrg
    rw [hSN, hKN, show ([.int .i64 12, .string nb, .string tx, .int .i64 n, .slice sa SN sc, .slice a KN c] : List Value).toArray = #[.int .i64 12, .string nb, .string tx, .int .i64 n, .slice sa SN sc, .slice a KN c] from rfl]
    have dd : decide ((65536 : Int) < (d : Int)) = false := decide_eq_false (by omega)
    obtain ⟨W2, hW2, hz2, e1, e2, hb2⟩ := two_boxes w #[.int .i64 m.uid, .slice fa fn fc, .int .i64 m.day, .string tb, .int .i64 m.which, .int .i64 m.many, .int .i64 m.greatest] #[.int .i64 12, .string nb, .string tx, .int .i64 n, .slice sa SN sc, .slice a KN c] 103 33
    have r0 : W2.cell? ⟨w.heap.size, 0, none⟩ = some (.int .i64 m.uid) := rd_cell e1 rfl
    have r2 : W2.cell? ⟨w.heap.size, 2, none⟩ = some (.int .i64 m.day) := rd_cell e1 rfl
    have r3 : W2.cell? ⟨w.heap.size, 3, none⟩ = some (.string tb) := rd_cell e1 rfl
    have r4 : W2.cell? ⟨w.heap.size, 4, none⟩ = some (.int .i64 m.which) := rd_cell e1 rfl
    have r5 : W2.cell? ⟨w.heap.size, 5, none⟩ = some (.int .i64 m.many) := rd_cell e1 rfl
    have r6 : W2.cell? ⟨w.heap.size, 6, none⟩ = some (.int .i64 m.greatest) := rd_cell e1 rfl
    have k0 : W2.cell? ⟨w.heap.size + 1, 0, none⟩ = some (.int .i64 12) := rd_cell e2 rfl
    have k3 : W2.cell? ⟨w.heap.size + 1, 3, none⟩ = some (.int .i64 n) := rd_cell e2 rfl
    have k4 : W2.cell? ⟨w.heap.size + 1, 4, none⟩ = some (.slice sa SN sc) := rd_cell e2 rfl
    have HB2 : Hid (Below w.heap.size w W2) := hb2
    have HTB : Hid (m.text.length = tb.size) := by rw [← htb]; exact list_size tb
    have cH : ∀ p q, Calls Tryz.prog 18 #[.slice sa SN sc, .int .i64 p, .int .i64 q] W2 fun e w' => e = .returned (.bool (hasSet p q (Sr.setI set))) ∧ Below W2.heap.size W2 w' := fun p q => has_any _ _ p q W2 (hrg.below hb2 (Nat.le_refl _)) (by rw [show (Sr.setI set).length = set.length by simp [Sr.setI]]; exact hs)
    clear hrg e1 e2 hkk ha htb hb2 hKN hSN
    go_enter Tryz.func45, Tryz.ntmps45
    go_wp2_with fail
    refine (cH _ _).mono ?_
    rintro e w3 ⟨rfl, hb3⟩
    have HB3 : Hid (Below w.heap.size w w3) := HB2.out.trans (hb3.mono HB2.out.size)
    clear hb3
    go_wp2_with fail
    go_ret
    exact ⟨rfl, HB3.out⟩
set_option maxHeartbeats 2000000 in
set_option maxRecDepth 100000 in
theorem is_1 (m : Sr.Lt) (ms : List Value) (name text : Sr.Tx) (n : Int) (set : List (Nat × Nat)) (keys : List Sr.Ky) (ys : List Value) (Ok : Nat → Prop) (d : Nat) (w : World) (hm : Mx m ms) (hk : Kx w Ok (.mk 1 name text n set keys) ys) (hd : d ≤ 1000) (hs : set.length ≤ 1000) :
    Calls Tryz.prog 45 #[.agg ms.toArray, .agg ys.toArray, .int .i64 (d : Int)] w fun e w' => e = .returned (.bool (true)) ∧ Below w.heap.size w w' := by
  obtain ⟨tb, fa, fn, fc, rfl, htb⟩ := hm
  cases hk with
  | mk code n nb tx set sv ks a c rows hst hkk ha =>
    have hrg := sts_rg hst
    obtain ⟨sa, sc, rfl, _⟩ := hst
    rw [show ([.int .i64 m.uid, .slice fa fn fc, .int .i64 m.day, .string tb, .int .i64 m.which, .int .i64 m.many, .int .i64 m.greatest] : List Value).toArray = #[.int .i64 m.uid, .slice fa fn fc, .int .i64 m.day, .string tb, .int .i64 m.which, .int .i64 m.many, .int .i64 m.greatest] from rfl]
    obtain ⟨SN, hSN⟩ : ∃ n, set.length = n := ⟨_, rfl⟩
    obtain ⟨KN, hKN⟩ : ∃ n, keys.length = n := ⟨_, rfl⟩
    rw [hSN] at hrg
    rw [hSN, hKN, show ([.int .i64 1, .string nb, .string tx, .int .i64 n, .slice sa SN sc, .slice a KN c] : List Value).toArray = #[.int .i64 1, .string nb, .string tx, .int .i64 n, .slice sa SN sc, .slice a KN c] from rfl]
    have dd : decide ((65536 : Int) < (d : Int)) = false := decide_eq_false (by omega)
    obtain ⟨W2, hW2, hz2, e1, e2, hb2⟩ := two_boxes w #[.int .i64 m.uid, .slice fa fn fc, .int .i64 m.day, .string tb, .int .i64 m.which, .int .i64 m.many, .int .i64 m.greatest] #[.int .i64 1, .string nb, .string tx, .int .i64 n, .slice sa SN sc, .slice a KN c] 103 33
    have r0 : W2.cell? ⟨w.heap.size, 0, none⟩ = some (.int .i64 m.uid) := rd_cell e1 rfl
    have r2 : W2.cell? ⟨w.heap.size, 2, none⟩ = some (.int .i64 m.day) := rd_cell e1 rfl
    have r3 : W2.cell? ⟨w.heap.size, 3, none⟩ = some (.string tb) := rd_cell e1 rfl
    have r4 : W2.cell? ⟨w.heap.size, 4, none⟩ = some (.int .i64 m.which) := rd_cell e1 rfl
    have r5 : W2.cell? ⟨w.heap.size, 5, none⟩ = some (.int .i64 m.many) := rd_cell e1 rfl
    have r6 : W2.cell? ⟨w.heap.size, 6, none⟩ = some (.int .i64 m.greatest) := rd_cell e1 rfl
    have k0 : W2.cell? ⟨w.heap.size + 1, 0, none⟩ = some (.int .i64 1) := rd_cell e2 rfl
    have k3 : W2.cell? ⟨w.heap.size + 1, 3, none⟩ = some (.int .i64 n) := rd_cell e2 rfl
    have k4 : W2.cell? ⟨w.heap.size + 1, 4, none⟩ = some (.slice sa SN sc) := rd_cell e2 rfl
    have HB2 : Hid (Below w.heap.size w W2) := hb2
    have HTB : Hid (m.text.length = tb.size) := by rw [← htb]; exact list_size tb
    have cH : ∀ p q, Calls Tryz.prog 18 #[.slice sa SN sc, .int .i64 p, .int .i64 q] W2 fun e w' => e = .returned (.bool (hasSet p q (Sr.setI set))) ∧ Below W2.heap.size W2 w' := fun p q => has_any _ _ p q W2 (hrg.below hb2 (Nat.le_refl _)) (by rw [show (Sr.setI set).length = set.length by simp [Sr.setI]]; exact hs)
    clear hrg e1 e2 hkk ha htb hb2 hKN hSN
    go_enter Tryz.func45, Tryz.ntmps45
    go_wp2_with fail
    go_ret
    exact ⟨rfl, HB2.out⟩
end Go.Proofs.YtligkpcoajnjmaaGreatDoorR
namespace Go.Proofs.YtligkpcoajnjmaaGreatDoorR
open Go.RowKit Go.Proofs.Aid Go.Proofs.Hd

def mv (f t : Nat) (c : UInt8) : UInt8 := if f ≤ c.toNat ∧ c.toNat < f + 26 then UInt8.ofNat (c.toNat - f + t) else c
theorem mv_sm (c : UInt8) : mv 65 97 c = sm c := by
  have h : ∀ n : Fin 256, mv 65 97 (UInt8.ofNat n.val) = sm (UInt8.ofNat n.val) := by decide +kernel
  have := h ⟨c.toNat, c.toNat_lt⟩
  simpa using this
theorem mv_gr (c : UInt8) : mv 97 65 c = gr c := by
  have h : ∀ n : Fin 256, mv 97 65 (UInt8.ofNat n.val) = gr (UInt8.ofNat n.val) := by decide +kernel
  have := h ⟨c.toNat, c.toNat_lt⟩
  simpa using this
theorem head_bytes (w : World) (s : ByteArray) : Below w.heap.size w (Lib.bytesWorld w 5 s) := ⟨rfl, rfl, rfl, by rw [Lib.bytesWorld_size]; omega, fun j hj => Lib.bytesWorld_at_old w 5 s j hj⟩
theorem bytes_free (w : World) (s : ByteArray) {j : Nat} (hj : j < s.size) : (Lib.bytesWorld w 5 s).frozen? ⟨w.heap.size, j, none⟩ = false := by
  have h := Lib.bytesWorld_at_new w 5 s
  have hc := Lib.bytesWorld_cell w 5 s j hj
  generalize Lib.bytesWorld w 5 s = W at h hc
  generalize Lib.bytesCells w 5 s = cs at h
  have : j < cs.size := by
    simp [World.cell?, h] at hc
    obtain ⟨h1, _⟩ := Array.getElem?_eq_some_iff.1 hc
    exact h1
  simp [World.frozen?, h]
  omega
set_option maxHeartbeats 2000000 in
set_option maxRecDepth 100000 in
theorem moved_any (f t : Nat) (hf : f + 26 ≤ 255) (ht : t + 26 ≤ 255) (s : ByteArray) (w : World) (hs : s.size ≤ 2000000) :
    Calls Tryz.prog 184 #[.string s, .int .u8 (f : Int), .int .u8 (t : Int)] w fun e w' => e = .returned (.string ⟨(s.data.toList.map (mv f t)).toArray⟩) ∧ Below w.heap.size w w' := by
  have hlen : s.data.toList.length = s.size := by show s.data.toList.length = s.data.size; simp
  have hcw := Lib.run_convert_string_bytes (P := Tryz.prog) w 9 106 5 s Tryz.underlying9 Tryz.underlying106 Tryz.underlying5
  have hb0 := head_bytes w s
  have hc0 : ∀ j, j < s.size → (Lib.bytesWorld w 5 s).cell? ⟨w.heap.size, j, none⟩ = some (.int .u8 (((s.data.toList.getD j 0).toNat : Nat) : Int)) ∧ (Lib.bytesWorld w 5 s).frozen? ⟨w.heap.size, j, none⟩ = false := fun j hj => ⟨Lib.bytesWorld_cell w 5 s j hj, bytes_free w s hj⟩
  obtain ⟨cap, hcap⟩ : ∃ c, grownCap w s.size 0 5 = c := ⟨_, rfl⟩
  rw [hcap] at hcw
  clear hcap
  generalize Lib.bytesWorld w 5 s = W0 at hcw hb0 hc0
  obtain ⟨B, hB⟩ : ∃ B, w.heap.size = B := ⟨_, rfl⟩
  rw [hB] at hcw hc0
  have hbB : w.heap.size ≤ B := by omega
  go_enter Tryz.func184, Tryz.ntmps184
  go_wp2_with fail
  go_loopw [13] (fun i wr => ∃ k : Nat, i = .int .i64 (k : Int) ∧ k ≤ s.size ∧ Hid (∀ j, j < s.size → wr.cell? ⟨B, j, none⟩ = some (.int .u8 (((if j < k then mv f t (s.data.toList.getD j 0) else s.data.toList.getD j 0).toNat : Nat) : Int)) ∧ wr.frozen? ⟨B, j, none⟩ = false) ∧ Below w.heap.size w wr) (fun i _ => s.size - (intOf i).toNat)
  case atStart => exact ⟨0, rfl, by omega, by show ∀ j, _; simpa using hc0, hb0⟩
  case round =>
    obtain ⟨k, rfl, hk, HC, hbW⟩ := hrel
    by_cases hlt : k < s.size
    · obtain ⟨c1, f1⟩ := HC.out k hlt
      rw [if_neg (by omega)] at c1
      obtain ⟨c, hc⟩ : ∃ c, s.data.toList.getD k 0 = c := ⟨_, rfl⟩
      rw [hc] at c1
      have h256 := c.toNat_lt
      have HK : Hid (s.data.toList.getD k 0 = c) := hc
      clear hc hc0
      by_cases hq : f ≤ c.toNat ∧ c.toNat < f + 26
      · have q1 : decide ((f : Int) ≤ (c.toNat : Int)) = true := decide_eq_true (by omega)
        have q2 : decide ((c.toNat : Int) < (f : Int) + 26) = true := decide_eq_true (by omega)
        have hmv : ((mv f t c).toNat : Int) = (c.toNat : Int) - f + t := by
          unfold mv
          rw [if_pos hq, UInt8.toNat_ofNat']
          omega
        have HM : Hid (((mv f t c).toNat : Int) = (c.toNat : Int) - f + t) := hmv
        clear hmv
        go_wp2_with fail
        go_roundw
        case rel =>
          refine ⟨k + 1, by go_num, by omega, ?_, hbW.setCell hbB _⟩
          intro j hj
          obtain ⟨x1, x2⟩ := HC.out j hj
          refine ⟨?_, by simpa using x2⟩
          by_cases hjk : j = k
          · subst hjk
            rw [World.cell?_setCell_same _ _ _ c1, if_pos (by omega), HK.out, HM.out]
          · rw [World.cell?_setCell_other _ _ _ _ (fun e => hjk (by have := congrArg Addr.off e; simpa using this.symm)), x1]
            congr 4
            by_cases h : j < k
            · rw [if_pos h, if_pos (by omega)]
            · rw [if_neg h, if_neg (by omega)]
        case measure => simp [intOf]; omega
      · have HM : Hid (mv f t c = c) := by show _ = _; unfold mv; rw [if_neg hq]
        have HN : ∀ j, j < s.size → wr.cell? ⟨B, j, none⟩ = some (.int .u8 (((if j < k + 1 then mv f t (s.data.toList.getD j 0) else s.data.toList.getD j 0).toNat : Nat) : Int)) ∧ wr.frozen? ⟨B, j, none⟩ = false := fun j hj => by
          obtain ⟨x1, x2⟩ := HC.out j hj
          refine ⟨?_, x2⟩
          by_cases hjk : j = k
          · subst hjk
            rw [c1, if_pos (by omega), HK.out, HM.out]
          · rw [x1]
            congr 4
            by_cases h : j < k
            · rw [if_pos h, if_pos (by omega)]
            · rw [if_neg h, if_neg (by omega)]
        have HNN : Hid (∀ j, j < s.size → wr.cell? ⟨B, j, none⟩ = some (.int .u8 (((if j < k + 1 then mv f t (s.data.toList.getD j 0) else s.data.toList.getD j 0).toNat : Nat) : Int)) ∧ wr.frozen? ⟨B, j, none⟩ = false) := HN
        clear HN
        by_cases q : f ≤ c.toNat
        · have q1 : decide ((f : Int) ≤ (c.toNat : Int)) = true := decide_eq_true (by omega)
          have q2 : decide ((c.toNat : Int) < (f : Int) + 26) = false := decide_eq_false (by omega)
          go_wp2_with fail
          go_roundw
          case rel => exact ⟨k + 1, by go_num, by omega, HNN.out, hbW⟩
          case measure => simp [intOf]; omega
        · have q1 : decide ((f : Int) ≤ (c.toNat : Int)) = false := decide_eq_false (by omega)
          go_wp2_with fail
          go_roundw
          case rel => exact ⟨k + 1, by go_num, by omega, HNN.out, hbW⟩
          case measure => simp [intOf]; omega
    · obtain rfl : k = s.size := by omega
      have hcv := run_convert_bytes_back wr 106 9 5 ⟨B, 0, none⟩ cap (s.data.toList.map (mv f t)) Tryz.underlying106 Tryz.underlying5 Tryz.underlying9 (fun j hj => by
        have hjs : j < s.size := by rw [List.length_map, hlen] at hj; exact hj
        rw [Addr.add_lit, Nat.zero_add, (HC.out j hjs).1, if_pos hjs, List.getElem_map, List.getD_eq_getElem?_getD, List.getElem?_eq_getElem (by rw [hlen]; exact hjs)]
        rfl)
      rw [List.length_map, hlen] at hcv
      clear hc0
      go_wp2_with fail
      go_ret
      exact ⟨rfl, hbW⟩
end Go.Proofs.YtligkpcoajnjmaaGreatDoorR
namespace Go.Proofs.YtligkpcoajnjmaaGreatDoorR
open Go.RowKit Go.Proofs.Aid Go.Proofs.Hd

theorem small_is (s : ByteArray) (w : World) (hs : s.size ≤ 2000000) :
    Calls Tryz.prog 165 #[.string s] w fun e w' => e = .returned (.string ⟨(small s.data.toList).toArray⟩) ∧ Below w.heap.size w w' := by
  have c := moved_any 65 97 (by decide) (by decide) s w hs
  rw [show s.data.toList.map (mv 65 97) = small s.data.toList from List.map_congr_left fun c _ => mv_sm c] at c
  go_enter Tryz.func165, Tryz.ntmps165
  go_wp2_with fail
  refine c.mono ?_
  rintro e w1 ⟨rfl, hb⟩
  go_wp2_with fail
  go_ret
  exact ⟨rfl, hb⟩
end Go.Proofs.YtligkpcoajnjmaaGreatDoorR
