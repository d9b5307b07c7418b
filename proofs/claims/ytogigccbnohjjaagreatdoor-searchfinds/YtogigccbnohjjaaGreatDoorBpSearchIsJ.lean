/-
  What (message), and more.
-/
import Derived.Test.YtogigccbnohjjaaGreatDoorBpSearchHas
namespace Go.Proofs.YtogigccbnohjjaaGreatDoor
open Go.RowKit Go.Proofs.Aid Go.Proofs.Sq Go.Proofs.Hd
set_option maxHeartbeats 2000000
set_option maxRecDepth 100000
theorem is_13 (m : Sr.Lt) (ms : List Value) (name text : Sr.Tx) (n : Int) (set : List (Nat × Nat)) (keys : List Sr.Ky) (ys : List Value) (Ok : Nat → Prop) (d : Nat) (A : Bool) (w : World) (hm : Mx m ms) (hk : Kx w Ok (.mk 13 name text n set keys) ys) (hd : d ≤ 1000)
  (cJ : ∀ W, Below w.heap.size w W → Calls Tryz.prog 45 #[.agg ms.toArray, .agg ys.toArray, .int .i64 (d : Int)] W fun e w' => e = .returned (.bool A) ∧ Below W.heap.size W w') :
  Calls Tryz.prog 22 #[.agg ms.toArray, .agg ys.toArray, .int .i64 (d : Int)] w fun e w' => e = .returned (.bool A) ∧ Below w.heap.size w w' := by
 obtain ⟨tb, fa, fn, fc, rfl, htb⟩ := hm
 cases hk with
 | mk code n nb tx set sv ks a c rows hst hkk ha =>
  obtain ⟨sa, sc, rfl, _⟩ := hst
  obtain ⟨SN, hSN⟩ : ∃ n, set.length = n := ⟨_, rfl⟩
  obtain ⟨KN, hKN⟩ : ∃ n, keys.length = n := ⟨_, rfl⟩
  rw [hSN, hKN, show ([.int .i64 13, .string nb, .string tx, .int .i64 n, .slice sa SN sc, .slice a KN c] : List Value).toArray = #[.int .i64 13, .string nb, .string tx, .int .i64 n, .slice sa SN sc, .slice a KN c] from rfl, show ([.int .i64 m.uid, .slice fa fn fc, .int .i64 m.day, .string tb, .int .i64 m.which, .int .i64 m.many, .int .i64 m.greatest] : List Value).toArray = #[.int .i64 m.uid, .slice fa fn fc, .int .i64 m.day, .string tb, .int .i64 m.which, .int .i64 m.many, .int .i64 m.greatest] from rfl] at cJ ⊢
  have dd : decide ((65536 : Int) < (d : Int)) = false := decide_eq_false (by omega)
  obtain ⟨W2, hW2, hz2, e1, e2, hb2⟩ := two_boxes w #[.int .i64 m.uid, .slice fa fn fc, .int .i64 m.day, .string tb, .int .i64 m.which, .int .i64 m.many, .int .i64 m.greatest] #[.int .i64 13, .string nb, .string tx, .int .i64 n, .slice sa SN sc, .slice a KN c] 66 32
  have r0 : W2.cell? ⟨w.heap.size, 0, none⟩ = some (.int .i64 m.uid) := rd_cell e1 rfl
  have r1 : W2.cell? ⟨w.heap.size, 1, none⟩ = some (.slice fa fn fc) := rd_cell e1 rfl
  have r2 : W2.cell? ⟨w.heap.size, 2, none⟩ = some (.int .i64 m.day) := rd_cell e1 rfl
  have r3 : W2.cell? ⟨w.heap.size, 3, none⟩ = some (.string tb) := rd_cell e1 rfl
  have r4 : W2.cell? ⟨w.heap.size, 4, none⟩ = some (.int .i64 m.which) := rd_cell e1 rfl
  have r5 : W2.cell? ⟨w.heap.size, 5, none⟩ = some (.int .i64 m.many) := rd_cell e1 rfl
  have r6 : W2.cell? ⟨w.heap.size, 6, none⟩ = some (.int .i64 m.greatest) := rd_cell e1 rfl
  have k0 : W2.cell? ⟨w.heap.size + 1, 0, none⟩ = some (.int .i64 13) := rd_cell e2 rfl
  have k1 : W2.cell? ⟨w.heap.size + 1, 1, none⟩ = some (.string nb) := rd_cell e2 rfl
  have k2 : W2.cell? ⟨w.heap.size + 1, 2, none⟩ = some (.string tx) := rd_cell e2 rfl
  have k3 : W2.cell? ⟨w.heap.size + 1, 3, none⟩ = some (.int .i64 n) := rd_cell e2 rfl
  have k4 : W2.cell? ⟨w.heap.size + 1, 4, none⟩ = some (.slice sa SN sc) := rd_cell e2 rfl
  have k5 : W2.cell? ⟨w.heap.size + 1, 5, none⟩ = some (.slice a KN c) := rd_cell e2 rfl
  have HB2 : Hid (Below w.heap.size w W2) := hb2
  have cC := cJ W2 hb2
  clear cJ e1 e2 hkk ha htb hb2 hKN hSN
  go_enter Tryz.func22, Tryz.ntmps22
  go_wp2_with fail
  refine cC.mono ?_
  rintro e w3 ⟨rfl, hb3⟩
  have HB3 : Hid (Below w.heap.size w w3) := HB2.out.trans (hb3.mono HB2.out.size)
  clear hb3 cC
  go_wp2_with fail
  go_ret
  exact ⟨rfl, HB3.out⟩
theorem is_14 (m : Sr.Lt) (ms : List Value) (name text : Sr.Tx) (n : Int) (set : List (Nat × Nat)) (keys : List Sr.Ky) (ys : List Value) (Ok : Nat → Prop) (d : Nat) (A : Bool) (w : World) (hm : Mx m ms) (hk : Kx w Ok (.mk 14 name text n set keys) ys) (hd : d ≤ 1000)
  (cJ : ∀ W, Below w.heap.size w W → Calls Tryz.prog 45 #[.agg ms.toArray, .agg ys.toArray, .int .i64 (d : Int)] W fun e w' => e = .returned (.bool A) ∧ Below W.heap.size W w') :
  Calls Tryz.prog 22 #[.agg ms.toArray, .agg ys.toArray, .int .i64 (d : Int)] w fun e w' => e = .returned (.bool A) ∧ Below w.heap.size w w' := by
 obtain ⟨tb, fa, fn, fc, rfl, htb⟩ := hm
 cases hk with
 | mk code n nb tx set sv ks a c rows hst hkk ha =>
  obtain ⟨sa, sc, rfl, _⟩ := hst
  obtain ⟨SN, hSN⟩ : ∃ n, set.length = n := ⟨_, rfl⟩
  obtain ⟨KN, hKN⟩ : ∃ n, keys.length = n := ⟨_, rfl⟩
  rw [hSN, hKN, show ([.int .i64 14, .string nb, .string tx, .int .i64 n, .slice sa SN sc, .slice a KN c] : List Value).toArray = #[.int .i64 14, .string nb, .string tx, .int .i64 n, .slice sa SN sc, .slice a KN c] from rfl, show ([.int .i64 m.uid, .slice fa fn fc, .int .i64 m.day, .string tb, .int .i64 m.which, .int .i64 m.many, .int .i64 m.greatest] : List Value).toArray = #[.int .i64 m.uid, .slice fa fn fc, .int .i64 m.day, .string tb, .int .i64 m.which, .int .i64 m.many, .int .i64 m.greatest] from rfl] at cJ ⊢
  have dd : decide ((65536 : Int) < (d : Int)) = false := decide_eq_false (by omega)
  obtain ⟨W2, hW2, hz2, e1, e2, hb2⟩ := two_boxes w #[.int .i64 m.uid, .slice fa fn fc, .int .i64 m.day, .string tb, .int .i64 m.which, .int .i64 m.many, .int .i64 m.greatest] #[.int .i64 14, .string nb, .string tx, .int .i64 n, .slice sa SN sc, .slice a KN c] 66 32
  have r0 : W2.cell? ⟨w.heap.size, 0, none⟩ = some (.int .i64 m.uid) := rd_cell e1 rfl
  have r1 : W2.cell? ⟨w.heap.size, 1, none⟩ = some (.slice fa fn fc) := rd_cell e1 rfl
  have r2 : W2.cell? ⟨w.heap.size, 2, none⟩ = some (.int .i64 m.day) := rd_cell e1 rfl
  have r3 : W2.cell? ⟨w.heap.size, 3, none⟩ = some (.string tb) := rd_cell e1 rfl
  have r4 : W2.cell? ⟨w.heap.size, 4, none⟩ = some (.int .i64 m.which) := rd_cell e1 rfl
  have r5 : W2.cell? ⟨w.heap.size, 5, none⟩ = some (.int .i64 m.many) := rd_cell e1 rfl
  have r6 : W2.cell? ⟨w.heap.size, 6, none⟩ = some (.int .i64 m.greatest) := rd_cell e1 rfl
  have k0 : W2.cell? ⟨w.heap.size + 1, 0, none⟩ = some (.int .i64 14) := rd_cell e2 rfl
  have k1 : W2.cell? ⟨w.heap.size + 1, 1, none⟩ = some (.string nb) := rd_cell e2 rfl
  have k2 : W2.cell? ⟨w.heap.size + 1, 2, none⟩ = some (.string tx) := rd_cell e2 rfl
  have k3 : W2.cell? ⟨w.heap.size + 1, 3, none⟩ = some (.int .i64 n) := rd_cell e2 rfl
  have k4 : W2.cell? ⟨w.heap.size + 1, 4, none⟩ = some (.slice sa SN sc) := rd_cell e2 rfl
  have k5 : W2.cell? ⟨w.heap.size + 1, 5, none⟩ = some (.slice a KN c) := rd_cell e2 rfl
  have HB2 : Hid (Below w.heap.size w W2) := hb2
  have cC := cJ W2 hb2
  clear cJ e1 e2 hkk ha htb hb2 hKN hSN
  go_enter Tryz.func22, Tryz.ntmps22
  go_wp2_with fail
  refine cC.mono ?_
  rintro e w3 ⟨rfl, hb3⟩
  have HB3 : Hid (Below w.heap.size w w3) := HB2.out.trans (hb3.mono HB2.out.size)
  clear hb3 cC
  go_wp2_with fail
  go_ret
  exact ⟨rfl, HB3.out⟩
theorem is_15 (m : Sr.Lt) (ms : List Value) (name text : Sr.Tx) (n : Int) (set : List (Nat × Nat)) (keys : List Sr.Ky) (ys : List Value) (Ok : Nat → Prop) (d : Nat) (A : Bool) (w : World) (hm : Mx m ms) (hk : Kx w Ok (.mk 15 name text n set keys) ys) (hd : d ≤ 1000)
  (cJ : ∀ W, Below w.heap.size w W → Calls Tryz.prog 45 #[.agg ms.toArray, .agg ys.toArray, .int .i64 (d : Int)] W fun e w' => e = .returned (.bool A) ∧ Below W.heap.size W w') :
  Calls Tryz.prog 22 #[.agg ms.toArray, .agg ys.toArray, .int .i64 (d : Int)] w fun e w' => e = .returned (.bool A) ∧ Below w.heap.size w w' := by
 obtain ⟨tb, fa, fn, fc, rfl, htb⟩ := hm
 cases hk with
 | mk code n nb tx set sv ks a c rows hst hkk ha =>
  obtain ⟨sa, sc, rfl, _⟩ := hst
  obtain ⟨SN, hSN⟩ : ∃ n, set.length = n := ⟨_, rfl⟩
  obtain ⟨KN, hKN⟩ : ∃ n, keys.length = n := ⟨_, rfl⟩
  rw [hSN, hKN, show ([.int .i64 15, .string nb, .string tx, .int .i64 n, .slice sa SN sc, .slice a KN c] : List Value).toArray = #[.int .i64 15, .string nb, .string tx, .int .i64 n, .slice sa SN sc, .slice a KN c] from rfl, show ([.int .i64 m.uid, .slice fa fn fc, .int .i64 m.day, .string tb, .int .i64 m.which, .int .i64 m.many, .int .i64 m.greatest] : List Value).toArray = #[.int .i64 m.uid, .slice fa fn fc, .int .i64 m.day, .string tb, .int .i64 m.which, .int .i64 m.many, .int .i64 m.greatest] from rfl] at cJ ⊢
  have dd : decide ((65536 : Int) < (d : Int)) = false := decide_eq_false (by omega)
  obtain ⟨W2, hW2, hz2, e1, e2, hb2⟩ := two_boxes w #[.int .i64 m.uid, .slice fa fn fc, .int .i64 m.day, .string tb, .int .i64 m.which, .int .i64 m.many, .int .i64 m.greatest] #[.int .i64 15, .string nb, .string tx, .int .i64 n, .slice sa SN sc, .slice a KN c] 66 32
  have r0 : W2.cell? ⟨w.heap.size, 0, none⟩ = some (.int .i64 m.uid) := rd_cell e1 rfl
  have r1 : W2.cell? ⟨w.heap.size, 1, none⟩ = some (.slice fa fn fc) := rd_cell e1 rfl
  have r2 : W2.cell? ⟨w.heap.size, 2, none⟩ = some (.int .i64 m.day) := rd_cell e1 rfl
  have r3 : W2.cell? ⟨w.heap.size, 3, none⟩ = some (.string tb) := rd_cell e1 rfl
  have r4 : W2.cell? ⟨w.heap.size, 4, none⟩ = some (.int .i64 m.which) := rd_cell e1 rfl
  have r5 : W2.cell? ⟨w.heap.size, 5, none⟩ = some (.int .i64 m.many) := rd_cell e1 rfl
  have r6 : W2.cell? ⟨w.heap.size, 6, none⟩ = some (.int .i64 m.greatest) := rd_cell e1 rfl
  have k0 : W2.cell? ⟨w.heap.size + 1, 0, none⟩ = some (.int .i64 15) := rd_cell e2 rfl
  have k1 : W2.cell? ⟨w.heap.size + 1, 1, none⟩ = some (.string nb) := rd_cell e2 rfl
  have k2 : W2.cell? ⟨w.heap.size + 1, 2, none⟩ = some (.string tx) := rd_cell e2 rfl
  have k3 : W2.cell? ⟨w.heap.size + 1, 3, none⟩ = some (.int .i64 n) := rd_cell e2 rfl
  have k4 : W2.cell? ⟨w.heap.size + 1, 4, none⟩ = some (.slice sa SN sc) := rd_cell e2 rfl
  have k5 : W2.cell? ⟨w.heap.size + 1, 5, none⟩ = some (.slice a KN c) := rd_cell e2 rfl
  have HB2 : Hid (Below w.heap.size w W2) := hb2
  have cC := cJ W2 hb2
  clear cJ e1 e2 hkk ha htb hb2 hKN hSN
  go_enter Tryz.func22, Tryz.ntmps22
  go_wp2_with fail
  refine cC.mono ?_
  rintro e w3 ⟨rfl, hb3⟩
  have HB3 : Hid (Below w.heap.size w w3) := HB2.out.trans (hb3.mono HB2.out.size)
  clear hb3 cC
  go_wp2_with fail
  go_ret
  exact ⟨rfl, HB3.out⟩
end Go.Proofs.YtogigccbnohjjaaGreatDoor
namespace Go.Proofs.YtogigccbnohjjaaGreatDoor
open Go.RowKit Go.Proofs.Aid Go.Proofs.Sq Go.Proofs.Hd
set_option maxHeartbeats 4000000
set_option maxRecDepth 100000
theorem joins_13 (m : Sr.Lt) (ms : List Value) (name text : Sr.Tx) (n : Int) (set : List (Nat × Nat)) (q : Sr.Ky) (rest : List Sr.Ky) (ys : List Value) (Ok : Nat → Prop) (d : Nat) (w : World) (hm : Mx m ms) (hk : Kx w Ok (.mk 13 name text n set (q :: rest)) ys) (hd : d ≤ 1000)
  (cI : ∀ k ∈ q :: rest, ∀ xs W, Below w.heap.size w W → Kx W Ok k xs → Calls Tryz.prog 22 #[.agg ms.toArray, .agg xs.toArray, .int .i64 ((d : Int) + 1)] W fun e w' => e = .returned (.bool (Sr.holdsK m k)) ∧ Below W.heap.size W w') :
  Calls Tryz.prog 45 #[.agg ms.toArray, .agg ys.toArray, .int .i64 (d : Int)] w fun e w' => e = .returned (.bool (!Sr.holdsK m q)) ∧ Below w.heap.size w w' := by
 have hmf : ∀ (fn : Fn) (first cap : Array Value) (w : World), (Instr.makeFunc fn first cap).run Tryz.prog w = .ok (.func fn first cap) w := fun _ _ _ _ => rfl
 have hmm := hm
 obtain ⟨tb, fa, fn, fc, rfl, htb⟩ := hm
 cases hk with
 | mk code n nb tx set sv ks a c rows hst hkk ha =>
  obtain ⟨sa, sc, rfl, _⟩ := hst
  obtain ⟨SN, hSN⟩ : ∃ n, set.length = n := ⟨_, rfl⟩
  obtain ⟨KN, hKN⟩ : ∃ n, (q :: rest).length = n := ⟨_, rfl⟩
  rw [hSN, hKN, show ([.int .i64 13, .string nb, .string tx, .int .i64 n, .slice sa SN sc, .slice a KN c] : List Value).toArray = #[.int .i64 13, .string nb, .string tx, .int .i64 n, .slice sa SN sc, .slice a KN c] from rfl]
  obtain ⟨W3, hW3⟩ : ∃ W, ((w.alloc (.cells #[.int .i64 m.uid, .slice fa fn fc, .int .i64 m.day, .string tb, .int .i64 m.which, .int .i64 m.many, .int .i64 m.greatest] 66)).alloc (.cells #[.int .i64 13, .string nb, .string tx, .int .i64 n, .slice sa SN sc, .slice a KN c] 32)).alloc (.cells #[.int .i64 (d : Int)] 3) = W := ⟨_, rfl⟩
  obtain ⟨W2, hW2, hz2, e1, e2, hb2⟩ := two_boxes w #[.int .i64 m.uid, .slice fa fn fc, .int .i64 m.day, .string tb, .int .i64 m.which, .int .i64 m.many, .int .i64 m.greatest] #[.int .i64 13, .string nb, .string tx, .int .i64 n, .slice sa SN sc, .slice a KN c] 66 32
  rw [hW2] at hW3
  have hz3 : W3.heap.size = w.heap.size + 3 := by rw [← hW3]; simp [hz2]
  have b3 : Below W2.heap.size W2 W3 := by rw [← hW3]; exact (Below.refl _ _).alloc (Nat.le_refl _) _
  have e3 : W3.heap[w.heap.size + 2]? = some (.cells #[.int .i64 (d : Int)] 3 (0, 0)) := by
   rw [← hW3, show w.heap.size + 2 = W2.heap.size from hz2.symm]; exact heap_alloc_new _ _
  have z4 := heap_alloc_new W3 (.cells #[.nilFunc] 129)
  rw [hz3] at z4
  have n0 : (W3.alloc (.cells #[.nilFunc] 129)).cell? ⟨w.heap.size + 3, 0, none⟩ = some .nilFunc := rd_cell z4 rfl
  have n1 : (W3.alloc (.cells #[.nilFunc] 129)).frozen? ⟨w.heap.size + 3, 0, none⟩ = false := rd_free z4 0
  have hst := run_store_func Tryz.prog (W3.alloc (.cells #[.nilFunc] 129)) ⟨w.heap.size + 3, 0, none⟩ 81 #[.pointer (some ⟨w.heap.size, 0, none⟩), .pointer (some ⟨w.heap.size + 2, 0, none⟩)] .nilFunc n0 n1
  have b4 : Below W3.heap.size W3 (W3.alloc (.cells #[.func (.func 81) #[] #[.pointer (some ⟨w.heap.size, 0, none⟩), .pointer (some ⟨w.heap.size + 2, 0, none⟩)]] 129)) := (Below.refl _ _).alloc (Nat.le_refl _) _
  have e4 := heap_alloc_new W3 (.cells #[.func (.func 81) #[] #[.pointer (some ⟨w.heap.size, 0, none⟩), .pointer (some ⟨w.heap.size + 2, 0, none⟩)]] 129)
  rw [hz3] at e4
  have b24 := b3.trans (b4.mono (by omega))
  have hb4 : Below w.heap.size w (W3.alloc (.cells #[.func (.func 81) #[] #[.pointer (some ⟨w.heap.size, 0, none⟩), .pointer (some ⟨w.heap.size + 2, 0, none⟩)]] 129)) := hb2.trans (b24.mono (by omega))
  have eM := (b24.block w.heap.size (by omega)).trans e1
  have eK := (b24.block (w.heap.size + 1) (by omega)).trans e2
  have eD := (b4.block (w.heap.size + 2) (by omega)).trans e3
  have hJ : Jb (W3.alloc (.cells #[.func (.func 81) #[] #[.pointer (some ⟨w.heap.size, 0, none⟩), .pointer (some ⟨w.heap.size + 2, 0, none⟩)]] 129)) [.int .i64 m.uid, .slice fa fn fc, .int .i64 m.day, .string tb, .int .i64 m.which, .int .i64 m.many, .int .i64 m.greatest] d w.heap.size (w.heap.size + 2) := ⟨eM, eD⟩
  have k0 : (W3.alloc (.cells #[.func (.func 81) #[] #[.pointer (some ⟨w.heap.size, 0, none⟩), .pointer (some ⟨w.heap.size + 2, 0, none⟩)]] 129)).cell? ⟨w.heap.size + 1, 0, none⟩ = some (.int .i64 13) := rd_cell eK rfl
  have k5 : (W3.alloc (.cells #[.func (.func 81) #[] #[.pointer (some ⟨w.heap.size, 0, none⟩), .pointer (some ⟨w.heap.size + 2, 0, none⟩)]] 129)).cell? ⟨w.heap.size + 1, 5, none⟩ = some (.slice a KN c) := rd_cell eK rfl
  have f0 : (W3.alloc (.cells #[.func (.func 81) #[] #[.pointer (some ⟨w.heap.size, 0, none⟩), .pointer (some ⟨w.heap.size + 2, 0, none⟩)]] 129)).cell? ⟨w.heap.size + 3, 0, none⟩ = some (.func (.func 81) #[] #[.pointer (some ⟨w.heap.size, 0, none⟩), .pointer (some ⟨w.heap.size + 2, 0, none⟩)]) := rd_cell e4 rfl
  have hkg : Kg (W3.alloc (.cells #[.func (.func 81) #[] #[.pointer (some ⟨w.heap.size, 0, none⟩), .pointer (some ⟨w.heap.size + 2, 0, none⟩)]] 129)) Ok (.slice a KN c) (q :: rest) := by
   refine ⟨a, c, by rw [hKN], fun j k hj => ?_⟩
   rcases ha with h0 | ⟨b, o, rfl, hO, hc⟩
   ·cases h0
   ·exact ⟨b, o, rows j, rfl, hO, (hkk j k hj).under hb4, fun i x hx => (hb4.cell (World.block_lt_of_cell? _ _ (hc j k hj i x hx))).trans (hc j k hj i x hx)⟩
  have cAsk : ∀ k ∈ q :: rest, ∀ xs W, Below (W3.alloc (.cells #[.func (.func 81) #[] #[.pointer (some ⟨w.heap.size, 0, none⟩), .pointer (some ⟨w.heap.size + 2, 0, none⟩)]] 129)).heap.size (W3.alloc (.cells #[.func (.func 81) #[] #[.pointer (some ⟨w.heap.size, 0, none⟩), .pointer (some ⟨w.heap.size + 2, 0, none⟩)]] 129)) W → Kx W Ok k xs → Calls Tryz.prog 81 (#[.agg xs.toArray] ++ #[.pointer (some ⟨w.heap.size, 0, none⟩), .pointer (some ⟨w.heap.size + 2, 0, none⟩)]) W fun e w' => e = .returned (.bool (Sr.holdsK m k)) ∧ Below W.heap.size W w' := fun k hk xs W hW hx =>
   asks_is m _ k xs Ok d w.heap.size (w.heap.size + 2) (Sr.holdsK m k) W hmm hx (hJ.below hW) hd fun W' hW' => cI k hk xs W' (hb4.trans ((hW.trans (hW'.mono hW.size)).mono hb4.size)) (hx.under hW')
  have HB4 : Hid (Below w.heap.size w (W3.alloc (.cells #[.func (.func 81) #[] #[.pointer (some ⟨w.heap.size, 0, none⟩), .pointer (some ⟨w.heap.size + 2, 0, none⟩)]] 129))) := hb4
  have HASK : Hid (∀ k ∈ q :: rest, ∀ xs W, Below (W3.alloc (.cells #[.func (.func 81) #[] #[.pointer (some ⟨w.heap.size, 0, none⟩), .pointer (some ⟨w.heap.size + 2, 0, none⟩)]] 129)).heap.size (W3.alloc (.cells #[.func (.func 81) #[] #[.pointer (some ⟨w.heap.size, 0, none⟩), .pointer (some ⟨w.heap.size + 2, 0, none⟩)]] 129)) W → Kx W Ok k xs → Calls Tryz.prog 81 (#[.agg xs.toArray] ++ #[.pointer (some ⟨w.heap.size, 0, none⟩), .pointer (some ⟨w.heap.size + 2, 0, none⟩)]) W fun e w' => e = .returned (.bool (Sr.holdsK m k)) ∧ Below W.heap.size W w') := cAsk
  have HKG : Hid (Kg (W3.alloc (.cells #[.func (.func 81) #[] #[.pointer (some ⟨w.heap.size, 0, none⟩), .pointer (some ⟨w.heap.size + 2, 0, none⟩)]] 129)) Ok (.slice a KN c) (q :: rest)) := hkg
  have HE4 : Hid ((W3.alloc (.cells #[.func (.func 81) #[] #[.pointer (some ⟨w.heap.size, 0, none⟩), .pointer (some ⟨w.heap.size + 2, 0, none⟩)]] 129)).heap[w.heap.size + 3]? = some (.cells #[.func (.func 81) #[] #[.pointer (some ⟨w.heap.size, 0, none⟩), .pointer (some ⟨w.heap.size + 2, 0, none⟩)]] 129 (0, 0))) := e4
  clear cI cAsk hkg e1 e2 e3 e4 z4 eM eK eD hJ hkk ha hb2 hb4 b3 b4 b24 htb hmm hSN
  obtain ⟨a', c', hv, hat⟩ := HKG.out
  injection hv with hv1 hv2 hv3
  subst hv1
  obtain ⟨b, o, xs, rfl, _, hkx, hcells⟩ := hat 0 q rfl
  have cC := fails_is q xs Ok (w.heap.size + 3) w.heap.size (w.heap.size + 2) (Sr.holdsK m q) (W3.alloc (.cells #[.func (.func 81) #[] #[.pointer (some ⟨w.heap.size, 0, none⟩), .pointer (some ⟨w.heap.size + 2, 0, none⟩)]] 129)) hkx HE4.out fun W' hW' => HASK.out q List.mem_cons_self xs W' hW' (hkx.under hW')
  obtain ⟨x0, x3, x1, x2, xa, xk, xc, ya, yk, yc, rfl⟩ := kx_cells hkx
  have c0 : (W3.alloc (.cells #[.func (.func 81) #[] #[.pointer (some ⟨w.heap.size, 0, none⟩), .pointer (some ⟨w.heap.size + 2, 0, none⟩)]] 129)).cell? ⟨b, o, none⟩ = some (.int .i64 x0) := hcells 0 _ rfl
  have c1 : (W3.alloc (.cells #[.func (.func 81) #[] #[.pointer (some ⟨w.heap.size, 0, none⟩), .pointer (some ⟨w.heap.size + 2, 0, none⟩)]] 129)).cell? ⟨b, o + 1, none⟩ = some (.string x1) := hcells 1 _ rfl
  have c2 : (W3.alloc (.cells #[.func (.func 81) #[] #[.pointer (some ⟨w.heap.size, 0, none⟩), .pointer (some ⟨w.heap.size + 2, 0, none⟩)]] 129)).cell? ⟨b, o + 2, none⟩ = some (.string x2) := hcells 2 _ rfl
  have c3 : (W3.alloc (.cells #[.func (.func 81) #[] #[.pointer (some ⟨w.heap.size, 0, none⟩), .pointer (some ⟨w.heap.size + 2, 0, none⟩)]] 129)).cell? ⟨b, o + 3, none⟩ = some (.int .i64 x3) := hcells 3 _ rfl
  have c4 : (W3.alloc (.cells #[.func (.func 81) #[] #[.pointer (some ⟨w.heap.size, 0, none⟩), .pointer (some ⟨w.heap.size + 2, 0, none⟩)]] 129)).cell? ⟨b, o + 4, none⟩ = some (.slice xa xk xc) := hcells 4 _ rfl
  have c5 : (W3.alloc (.cells #[.func (.func 81) #[] #[.pointer (some ⟨w.heap.size, 0, none⟩), .pointer (some ⟨w.heap.size + 2, 0, none⟩)]] 129)).cell? ⟨b, o + 5, none⟩ = some (.slice ya yk yc) := hcells 5 _ rfl
  rw [show ([.int .i64 x0, .string x1, .string x2, .int .i64 x3, .slice xa xk xc, .slice ya yk yc] : List Value).toArray = #[.int .i64 x0, .string x1, .string x2, .int .i64 x3, .slice xa xk xc, .slice ya yk yc] from rfl] at cC
  have hpos : decide ((0 : Int) < (KN : Int)) = true := decide_eq_true (by rw [← hKN]; simp)
  have hpn : 0 < KN := by rw [← hKN]; simp
  obtain ⟨B, hB⟩ : ∃ B, Sr.holdsK m q = B := ⟨_, rfl⟩
  have eg := fails_enter
  rw [hB] at cC ⊢
  clear hat hcells hkx hB hv2 hv3 HASK HKG HE4 hKN
  go_enter Tryz.func45, Tryz.ntmps45
  go_wp2_with fail
  refine cC.mono ?_
  rintro e w5 ⟨rfl, hb5⟩
  have HB5 : Hid (Below w.heap.size w w5) := HB4.out.trans (hb5.mono HB4.out.size)
  clear cC hb5
  go_wp2_with fail
  go_ret
  exact ⟨rfl, HB5.out⟩
end Go.Proofs.YtogigccbnohjjaaGreatDoor
