/-
  A function that is stored. Of no program.
  What (message).joins of package search does.
  What (message).is of package search does at a key made of others.
-/
import Derived.Test.YtligkpcoajnjmaaGreatDoorRAl02
import Derived.Test.YtligkpcoajnjmaaGreatDoorRAl10
namespace Go.Proofs.YtligkpcoajnjmaaGreatDoorR
open Go.RowKit Go.Proofs.Aid

theorem run_store_func (P : Program) (w : World) (a : Addr) (f : Nat) (bs : Array Value) (old : Value) (h : w.cell? a = some old) (hf : w.frozen? a = false) : (store a (.func (.func f) #[] bs)).run P w = .ok () (w.setCell a (.func (.func f) #[] bs)) := by
  rw [run_store P w a _ _ rfl, h, hf]
  rfl
end Go.Proofs.YtligkpcoajnjmaaGreatDoorR
namespace Go.Proofs.YtligkpcoajnjmaaGreatDoorR
open Go.RowKit Go.Proofs.Aid Go.Proofs.Sq Go.Proofs.Hd

set_option maxHeartbeats 4000000 in
set_option maxRecDepth 100000 in
theorem joins_14 (m : Sr.Lt) (ms : List Value) (name text : Sr.Tx) (n : Int) (set : List (Nat × Nat)) (keys : List Sr.Ky) (ys : List Value) (Ok : Nat → Prop) (d : Nat) (w : World) (hm : Mx m ms) (hk : Kx w Ok (.mk 14 name text n set keys) ys) (hd : d ≤ 1000) (hkl : keys.length ≤ 1000)
    (cI : ∀ k ∈ keys, ∀ xs W, Below w.heap.size w W → Kx W Ok k xs → Calls Tryz.prog 45 #[.agg ms.toArray, .agg xs.toArray, .int .i64 ((d : Int) + 1)] W fun e w' => e = .returned (.bool (Sr.holdsK m k)) ∧ Below W.heap.size W w') :
    Calls Tryz.prog 106 #[.agg ms.toArray, .agg ys.toArray, .int .i64 (d : Int)] w fun e w' => e = .returned (.bool (keys.any (Sr.holdsK m))) ∧ Below w.heap.size w w' := by
  have hmf : ∀ (fn : Fn) (first cap : Array Value) (w : World), (Instr.makeFunc fn first cap).run Tryz.prog w = .ok (.func fn first cap) w := fun _ _ _ _ => rfl
  have hmm := hm
  obtain ⟨tb, fa, fn, fc, rfl, htb⟩ := hm
  cases hk with
  | mk code n nb tx set sv ks a c rows hst hkk ha =>
    obtain ⟨sa, sc, rfl, _⟩ := hst
    obtain ⟨SN, hSN⟩ : ∃ n, set.length = n := ⟨_, rfl⟩
    obtain ⟨KN, hKN⟩ : ∃ n, keys.length = n := ⟨_, rfl⟩
    rw [hSN, hKN, show ([.int .i64 14, .string nb, .string tx, .int .i64 n, .slice sa SN sc, .slice a KN c] : List Value).toArray = #[.int .i64 14, .string nb, .string tx, .int .i64 n, .slice sa SN sc, .slice a KN c] from rfl]
    obtain ⟨W3, hW3⟩ : ∃ W, ((w.alloc (.cells #[.int .i64 m.uid, .slice fa fn fc, .int .i64 m.day, .string tb, .int .i64 m.which, .int .i64 m.many, .int .i64 m.greatest] 103)).alloc (.cells #[.int .i64 14, .string nb, .string tx, .int .i64 n, .slice sa SN sc, .slice a KN c] 33)).alloc (.cells #[.int .i64 (d : Int)] 3) = W := ⟨_, rfl⟩
    obtain ⟨W2, hW2, hz2, e1, e2, hb2⟩ := two_boxes w #[.int .i64 m.uid, .slice fa fn fc, .int .i64 m.day, .string tb, .int .i64 m.which, .int .i64 m.many, .int .i64 m.greatest] #[.int .i64 14, .string nb, .string tx, .int .i64 n, .slice sa SN sc, .slice a KN c] 103 33
    rw [hW2] at hW3
    have hz3 : W3.heap.size = w.heap.size + 3 := by rw [← hW3]; simp [hz2]
    have b3 : Below W2.heap.size W2 W3 := by rw [← hW3]; exact (Below.refl _ _).alloc (Nat.le_refl _) _
    have e3 : W3.heap[w.heap.size + 2]? = some (.cells #[.int .i64 (d : Int)] 3 (0, 0)) := by
      rw [← hW3, show w.heap.size + 2 = W2.heap.size from hz2.symm]; exact heap_alloc_new _ _
    have z4 := heap_alloc_new W3 (.cells #[.nilFunc] 219)
    rw [hz3] at z4
    have n0 : (W3.alloc (.cells #[.nilFunc] 219)).cell? ⟨w.heap.size + 3, 0, none⟩ = some .nilFunc := rd_cell z4 rfl
    have n1 : (W3.alloc (.cells #[.nilFunc] 219)).frozen? ⟨w.heap.size + 3, 0, none⟩ = false := rd_free z4 0
    have hst := run_store_func Tryz.prog (W3.alloc (.cells #[.nilFunc] 219)) ⟨w.heap.size + 3, 0, none⟩ 166 #[.pointer (some ⟨w.heap.size, 0, none⟩), .pointer (some ⟨w.heap.size + 2, 0, none⟩)] .nilFunc n0 n1
    have b4 : Below W3.heap.size W3 (W3.alloc (.cells #[.func (.func 166) #[] #[.pointer (some ⟨w.heap.size, 0, none⟩), .pointer (some ⟨w.heap.size + 2, 0, none⟩)]] 219)) := (Below.refl _ _).alloc (Nat.le_refl _) _
    have e4 := heap_alloc_new W3 (.cells #[.func (.func 166) #[] #[.pointer (some ⟨w.heap.size, 0, none⟩), .pointer (some ⟨w.heap.size + 2, 0, none⟩)]] 219)
    rw [hz3] at e4
    have b24 := b3.trans (b4.mono (by omega))
    have hb4 : Below w.heap.size w (W3.alloc (.cells #[.func (.func 166) #[] #[.pointer (some ⟨w.heap.size, 0, none⟩), .pointer (some ⟨w.heap.size + 2, 0, none⟩)]] 219)) := hb2.trans (b24.mono (by omega))
    have eM := (b24.block w.heap.size (by omega)).trans e1
    have eK := (b24.block (w.heap.size + 1) (by omega)).trans e2
    have eD := (b4.block (w.heap.size + 2) (by omega)).trans e3
    have hJ : Jb (W3.alloc (.cells #[.func (.func 166) #[] #[.pointer (some ⟨w.heap.size, 0, none⟩), .pointer (some ⟨w.heap.size + 2, 0, none⟩)]] 219)) [.int .i64 m.uid, .slice fa fn fc, .int .i64 m.day, .string tb, .int .i64 m.which, .int .i64 m.many, .int .i64 m.greatest] d w.heap.size (w.heap.size + 2) := ⟨eM, eD⟩
    have k0 : (W3.alloc (.cells #[.func (.func 166) #[] #[.pointer (some ⟨w.heap.size, 0, none⟩), .pointer (some ⟨w.heap.size + 2, 0, none⟩)]] 219)).cell? ⟨w.heap.size + 1, 0, none⟩ = some (.int .i64 14) := rd_cell eK rfl
    have k5 : (W3.alloc (.cells #[.func (.func 166) #[] #[.pointer (some ⟨w.heap.size, 0, none⟩), .pointer (some ⟨w.heap.size + 2, 0, none⟩)]] 219)).cell? ⟨w.heap.size + 1, 5, none⟩ = some (.slice a KN c) := rd_cell eK rfl
    have f0 : (W3.alloc (.cells #[.func (.func 166) #[] #[.pointer (some ⟨w.heap.size, 0, none⟩), .pointer (some ⟨w.heap.size + 2, 0, none⟩)]] 219)).cell? ⟨w.heap.size + 3, 0, none⟩ = some (.func (.func 166) #[] #[.pointer (some ⟨w.heap.size, 0, none⟩), .pointer (some ⟨w.heap.size + 2, 0, none⟩)]) := rd_cell e4 rfl
    have hkg : Kg (W3.alloc (.cells #[.func (.func 166) #[] #[.pointer (some ⟨w.heap.size, 0, none⟩), .pointer (some ⟨w.heap.size + 2, 0, none⟩)]] 219)) Ok (.slice a KN c) keys := by
      refine ⟨a, c, by rw [hKN], fun j k hj => ?_⟩
      rcases ha with rfl | ⟨b, o, rfl, hO, hc⟩
      · simp at hj
      · exact ⟨b, o, rows j, rfl, hO, (hkk j k hj).under hb4, fun i x hx => (hb4.cell (World.block_lt_of_cell? _ _ (hc j k hj i x hx))).trans (hc j k hj i x hx)⟩
    have cAsk : ∀ k ∈ keys, ∀ xs W, Below (W3.alloc (.cells #[.func (.func 166) #[] #[.pointer (some ⟨w.heap.size, 0, none⟩), .pointer (some ⟨w.heap.size + 2, 0, none⟩)]] 219)).heap.size (W3.alloc (.cells #[.func (.func 166) #[] #[.pointer (some ⟨w.heap.size, 0, none⟩), .pointer (some ⟨w.heap.size + 2, 0, none⟩)]] 219)) W → Kx W Ok k xs → Calls Tryz.prog 166 (#[.agg xs.toArray] ++ #[.pointer (some ⟨w.heap.size, 0, none⟩), .pointer (some ⟨w.heap.size + 2, 0, none⟩)]) W fun e w' => e = .returned (.bool (Sr.holdsK m k)) ∧ Below W.heap.size W w' := fun k hk xs W hW hx =>
      asks_is m _ k xs Ok d w.heap.size (w.heap.size + 2) (Sr.holdsK m k) W hmm hx (hJ.below hW) hd fun W' hW' => cI k hk xs W' (hb4.trans ((hW.trans (hW'.mono hW.size)).mono hb4.size)) (hx.under hW')
    have HB4 : Hid (Below w.heap.size w (W3.alloc (.cells #[.func (.func 166) #[] #[.pointer (some ⟨w.heap.size, 0, none⟩), .pointer (some ⟨w.heap.size + 2, 0, none⟩)]] 219))) := hb4
    have HASK : Hid (∀ k ∈ keys, ∀ xs W, Below (W3.alloc (.cells #[.func (.func 166) #[] #[.pointer (some ⟨w.heap.size, 0, none⟩), .pointer (some ⟨w.heap.size + 2, 0, none⟩)]] 219)).heap.size (W3.alloc (.cells #[.func (.func 166) #[] #[.pointer (some ⟨w.heap.size, 0, none⟩), .pointer (some ⟨w.heap.size + 2, 0, none⟩)]] 219)) W → Kx W Ok k xs → Calls Tryz.prog 166 (#[.agg xs.toArray] ++ #[.pointer (some ⟨w.heap.size, 0, none⟩), .pointer (some ⟨w.heap.size + 2, 0, none⟩)]) W fun e w' => e = .returned (.bool (Sr.holdsK m k)) ∧ Below W.heap.size W w') := cAsk
    have HKG : Hid (Kg (W3.alloc (.cells #[.func (.func 166) #[] #[.pointer (some ⟨w.heap.size, 0, none⟩), .pointer (some ⟨w.heap.size + 2, 0, none⟩)]] 219)) Ok (.slice a KN c) keys) := hkg
    have HE4 : Hid ((W3.alloc (.cells #[.func (.func 166) #[] #[.pointer (some ⟨w.heap.size, 0, none⟩), .pointer (some ⟨w.heap.size + 2, 0, none⟩)]] 219)).heap[w.heap.size + 3]? = some (.cells #[.func (.func 166) #[] #[.pointer (some ⟨w.heap.size, 0, none⟩), .pointer (some ⟨w.heap.size + 2, 0, none⟩)]] 219 (0, 0))) := e4
    clear cI cAsk hkg e1 e2 e3 e4 z4 eM eK eD hJ hkk ha hb2 hb4 b3 b4 b24 htb hmm hSN
    have cC := any_keys 166 asks_enter #[.pointer (some ⟨w.heap.size, 0, none⟩), .pointer (some ⟨w.heap.size + 2, 0, none⟩)] (Sr.holdsK m) (.slice a KN c) keys Ok (W3.alloc (.cells #[.func (.func 166) #[] #[.pointer (some ⟨w.heap.size, 0, none⟩), .pointer (some ⟨w.heap.size + 2, 0, none⟩)]] 219)) HKG.out hkl (fun j k xs W hj hW hx => HASK.out k (List.mem_of_getElem? hj) xs W hW hx)
    go_enter Tryz.func106, Tryz.ntmps106
    go_wp2_with fail
    refine cC.mono ?_
    rintro e w5 ⟨rfl, hb5⟩
    have HB5 : Hid (Below w.heap.size w w5) := HB4.out.trans (hb5.mono HB4.out.size)
    clear cC hb5
    go_wp2_with fail
    go_ret
    exact ⟨rfl, HB5.out⟩
set_option maxHeartbeats 4000000 in
set_option maxRecDepth 100000 in
theorem joins_15 (m : Sr.Lt) (ms : List Value) (name text : Sr.Tx) (n : Int) (set : List (Nat × Nat)) (keys : List Sr.Ky) (ys : List Value) (Ok : Nat → Prop) (d : Nat) (w : World) (hm : Mx m ms) (hk : Kx w Ok (.mk 15 name text n set keys) ys) (hd : d ≤ 1000) (hkl : keys.length ≤ 1000)
    (cI : ∀ k ∈ keys, ∀ xs W, Below w.heap.size w W → Kx W Ok k xs → Calls Tryz.prog 45 #[.agg ms.toArray, .agg xs.toArray, .int .i64 ((d : Int) + 1)] W fun e w' => e = .returned (.bool (Sr.holdsK m k)) ∧ Below W.heap.size W w') :
    Calls Tryz.prog 106 #[.agg ms.toArray, .agg ys.toArray, .int .i64 (d : Int)] w fun e w' => e = .returned (.bool (!keys.any fun k => !Sr.holdsK m k)) ∧ Below w.heap.size w w' := by
  have hmf : ∀ (fn : Fn) (first cap : Array Value) (w : World), (Instr.makeFunc fn first cap).run Tryz.prog w = .ok (.func fn first cap) w := fun _ _ _ _ => rfl
  have hmm := hm
  obtain ⟨tb, fa, fn, fc, rfl, htb⟩ := hm
  cases hk with
  | mk code n nb tx set sv ks a c rows hst hkk ha =>
    obtain ⟨sa, sc, rfl, _⟩ := hst
    obtain ⟨SN, hSN⟩ : ∃ n, set.length = n := ⟨_, rfl⟩
    obtain ⟨KN, hKN⟩ : ∃ n, keys.length = n := ⟨_, rfl⟩
    rw [hSN, hKN, show ([.int .i64 15, .string nb, .string tx, .int .i64 n, .slice sa SN sc, .slice a KN c] : List Value).toArray = #[.int .i64 15, .string nb, .string tx, .int .i64 n, .slice sa SN sc, .slice a KN c] from rfl]
    obtain ⟨W3, hW3⟩ : ∃ W, ((w.alloc (.cells #[.int .i64 m.uid, .slice fa fn fc, .int .i64 m.day, .string tb, .int .i64 m.which, .int .i64 m.many, .int .i64 m.greatest] 103)).alloc (.cells #[.int .i64 15, .string nb, .string tx, .int .i64 n, .slice sa SN sc, .slice a KN c] 33)).alloc (.cells #[.int .i64 (d : Int)] 3) = W := ⟨_, rfl⟩
    obtain ⟨W2, hW2, hz2, e1, e2, hb2⟩ := two_boxes w #[.int .i64 m.uid, .slice fa fn fc, .int .i64 m.day, .string tb, .int .i64 m.which, .int .i64 m.many, .int .i64 m.greatest] #[.int .i64 15, .string nb, .string tx, .int .i64 n, .slice sa SN sc, .slice a KN c] 103 33
    rw [hW2] at hW3
    have hz3 : W3.heap.size = w.heap.size + 3 := by rw [← hW3]; simp [hz2]
    have b3 : Below W2.heap.size W2 W3 := by rw [← hW3]; exact (Below.refl _ _).alloc (Nat.le_refl _) _
    have e3 : W3.heap[w.heap.size + 2]? = some (.cells #[.int .i64 (d : Int)] 3 (0, 0)) := by
      rw [← hW3, show w.heap.size + 2 = W2.heap.size from hz2.symm]; exact heap_alloc_new _ _
    have z4 := heap_alloc_new W3 (.cells #[.nilFunc] 219)
    rw [hz3] at z4
    have n0 : (W3.alloc (.cells #[.nilFunc] 219)).cell? ⟨w.heap.size + 3, 0, none⟩ = some .nilFunc := rd_cell z4 rfl
    have n1 : (W3.alloc (.cells #[.nilFunc] 219)).frozen? ⟨w.heap.size + 3, 0, none⟩ = false := rd_free z4 0
    have hst := run_store_func Tryz.prog (W3.alloc (.cells #[.nilFunc] 219)) ⟨w.heap.size + 3, 0, none⟩ 166 #[.pointer (some ⟨w.heap.size, 0, none⟩), .pointer (some ⟨w.heap.size + 2, 0, none⟩)] .nilFunc n0 n1
    have b4 : Below W3.heap.size W3 (W3.alloc (.cells #[.func (.func 166) #[] #[.pointer (some ⟨w.heap.size, 0, none⟩), .pointer (some ⟨w.heap.size + 2, 0, none⟩)]] 219)) := (Below.refl _ _).alloc (Nat.le_refl _) _
    have e4 := heap_alloc_new W3 (.cells #[.func (.func 166) #[] #[.pointer (some ⟨w.heap.size, 0, none⟩), .pointer (some ⟨w.heap.size + 2, 0, none⟩)]] 219)
    rw [hz3] at e4
    have b24 := b3.trans (b4.mono (by omega))
    have hb4 : Below w.heap.size w (W3.alloc (.cells #[.func (.func 166) #[] #[.pointer (some ⟨w.heap.size, 0, none⟩), .pointer (some ⟨w.heap.size + 2, 0, none⟩)]] 219)) := hb2.trans (b24.mono (by omega))
    have eM := (b24.block w.heap.size (by omega)).trans e1
    have eK := (b24.block (w.heap.size + 1) (by omega)).trans e2
    have eD := (b4.block (w.heap.size + 2) (by omega)).trans e3
    have hJ : Jb (W3.alloc (.cells #[.func (.func 166) #[] #[.pointer (some ⟨w.heap.size, 0, none⟩), .pointer (some ⟨w.heap.size + 2, 0, none⟩)]] 219)) [.int .i64 m.uid, .slice fa fn fc, .int .i64 m.day, .string tb, .int .i64 m.which, .int .i64 m.many, .int .i64 m.greatest] d w.heap.size (w.heap.size + 2) := ⟨eM, eD⟩
    have k0 : (W3.alloc (.cells #[.func (.func 166) #[] #[.pointer (some ⟨w.heap.size, 0, none⟩), .pointer (some ⟨w.heap.size + 2, 0, none⟩)]] 219)).cell? ⟨w.heap.size + 1, 0, none⟩ = some (.int .i64 15) := rd_cell eK rfl
    have k5 : (W3.alloc (.cells #[.func (.func 166) #[] #[.pointer (some ⟨w.heap.size, 0, none⟩), .pointer (some ⟨w.heap.size + 2, 0, none⟩)]] 219)).cell? ⟨w.heap.size + 1, 5, none⟩ = some (.slice a KN c) := rd_cell eK rfl
    have f0 : (W3.alloc (.cells #[.func (.func 166) #[] #[.pointer (some ⟨w.heap.size, 0, none⟩), .pointer (some ⟨w.heap.size + 2, 0, none⟩)]] 219)).cell? ⟨w.heap.size + 3, 0, none⟩ = some (.func (.func 166) #[] #[.pointer (some ⟨w.heap.size, 0, none⟩), .pointer (some ⟨w.heap.size + 2, 0, none⟩)]) := rd_cell e4 rfl
    have hkg : Kg (W3.alloc (.cells #[.func (.func 166) #[] #[.pointer (some ⟨w.heap.size, 0, none⟩), .pointer (some ⟨w.heap.size + 2, 0, none⟩)]] 219)) Ok (.slice a KN c) keys := by
      refine ⟨a, c, by rw [hKN], fun j k hj => ?_⟩
      rcases ha with rfl | ⟨b, o, rfl, hO, hc⟩
      · simp at hj
      · exact ⟨b, o, rows j, rfl, hO, (hkk j k hj).under hb4, fun i x hx => (hb4.cell (World.block_lt_of_cell? _ _ (hc j k hj i x hx))).trans (hc j k hj i x hx)⟩
    have cAsk : ∀ k ∈ keys, ∀ xs W, Below (W3.alloc (.cells #[.func (.func 166) #[] #[.pointer (some ⟨w.heap.size, 0, none⟩), .pointer (some ⟨w.heap.size + 2, 0, none⟩)]] 219)).heap.size (W3.alloc (.cells #[.func (.func 166) #[] #[.pointer (some ⟨w.heap.size, 0, none⟩), .pointer (some ⟨w.heap.size + 2, 0, none⟩)]] 219)) W → Kx W Ok k xs → Calls Tryz.prog 166 (#[.agg xs.toArray] ++ #[.pointer (some ⟨w.heap.size, 0, none⟩), .pointer (some ⟨w.heap.size + 2, 0, none⟩)]) W fun e w' => e = .returned (.bool (Sr.holdsK m k)) ∧ Below W.heap.size W w' := fun k hk xs W hW hx =>
      asks_is m _ k xs Ok d w.heap.size (w.heap.size + 2) (Sr.holdsK m k) W hmm hx (hJ.below hW) hd fun W' hW' => cI k hk xs W' (hb4.trans ((hW.trans (hW'.mono hW.size)).mono hb4.size)) (hx.under hW')
    have HB4 : Hid (Below w.heap.size w (W3.alloc (.cells #[.func (.func 166) #[] #[.pointer (some ⟨w.heap.size, 0, none⟩), .pointer (some ⟨w.heap.size + 2, 0, none⟩)]] 219))) := hb4
    have HASK : Hid (∀ k ∈ keys, ∀ xs W, Below (W3.alloc (.cells #[.func (.func 166) #[] #[.pointer (some ⟨w.heap.size, 0, none⟩), .pointer (some ⟨w.heap.size + 2, 0, none⟩)]] 219)).heap.size (W3.alloc (.cells #[.func (.func 166) #[] #[.pointer (some ⟨w.heap.size, 0, none⟩), .pointer (some ⟨w.heap.size + 2, 0, none⟩)]] 219)) W → Kx W Ok k xs → Calls Tryz.prog 166 (#[.agg xs.toArray] ++ #[.pointer (some ⟨w.heap.size, 0, none⟩), .pointer (some ⟨w.heap.size + 2, 0, none⟩)]) W fun e w' => e = .returned (.bool (Sr.holdsK m k)) ∧ Below W.heap.size W w') := cAsk
    have HKG : Hid (Kg (W3.alloc (.cells #[.func (.func 166) #[] #[.pointer (some ⟨w.heap.size, 0, none⟩), .pointer (some ⟨w.heap.size + 2, 0, none⟩)]] 219)) Ok (.slice a KN c) keys) := hkg
    have HE4 : Hid ((W3.alloc (.cells #[.func (.func 166) #[] #[.pointer (some ⟨w.heap.size, 0, none⟩), .pointer (some ⟨w.heap.size + 2, 0, none⟩)]] 219)).heap[w.heap.size + 3]? = some (.cells #[.func (.func 166) #[] #[.pointer (some ⟨w.heap.size, 0, none⟩), .pointer (some ⟨w.heap.size + 2, 0, none⟩)]] 219 (0, 0))) := e4
    clear cI cAsk hkg e1 e2 e3 e4 z4 eM eK eD hJ hkk ha hb2 hb4 b3 b4 b24 htb hmm hSN
    have cC := any_keys 167 fails_enter #[.pointer (some ⟨w.heap.size + 3, 0, none⟩)] (fun k => !Sr.holdsK m k) (.slice a KN c) keys Ok (W3.alloc (.cells #[.func (.func 166) #[] #[.pointer (some ⟨w.heap.size, 0, none⟩), .pointer (some ⟨w.heap.size + 2, 0, none⟩)]] 219)) HKG.out hkl (fun j k xs W hj hW hx => fails_is k xs Ok (w.heap.size + 3) w.heap.size (w.heap.size + 2) (Sr.holdsK m k) W hx ((hW.block _ (Array.getElem?_eq_some_iff.1 HE4.out).1).trans HE4.out) fun W' hW' => HASK.out k (List.mem_of_getElem? hj) xs W' (hW.trans (hW'.mono hW.size)) (hx.under hW'))
    go_enter Tryz.func106, Tryz.ntmps106
    go_wp2_with fail
    refine cC.mono ?_
    rintro e w5 ⟨rfl, hb5⟩
    have HB5 : Hid (Below w.heap.size w w5) := HB4.out.trans (hb5.mono HB4.out.size)
    clear cC hb5
    go_wp2_with fail
    go_ret
    exact ⟨rfl, HB5.out⟩
end Go.Proofs.YtligkpcoajnjmaaGreatDoorR
namespace Go.Proofs.YtligkpcoajnjmaaGreatDoorR
open Go.RowKit Go.Proofs.Aid Go.Proofs.Sq Go.Proofs.Hd

set_option maxHeartbeats 2000000 in
set_option maxRecDepth 100000 in
theorem is_13 (m : Sr.Lt) (ms : List Value) (name text : Sr.Tx) (n : Int) (set : List (Nat × Nat)) (keys : List Sr.Ky) (ys : List Value) (Ok : Nat → Prop) (d : Nat) (A : Bool) (w : World) (hm : Mx m ms) (hk : Kx w Ok (.mk 13 name text n set keys) ys) (hd : d ≤ 1000)
    (cJ : ∀ W, Below w.heap.size w W → Calls Tryz.prog 106 #[.agg ms.toArray, .agg ys.toArray, .int .i64 (d : Int)] W fun e w' => e = .returned (.bool A) ∧ Below W.heap.size W w') :
    Calls Tryz.prog 45 #[.agg ms.toArray, .agg ys.toArray, .int .i64 (d : Int)] w fun e w' => e = .returned (.bool A) ∧ Below w.heap.size w w' := by
  obtain ⟨tb, fa, fn, fc, rfl, htb⟩ := hm
  cases hk with
  | mk code n nb tx set sv ks a c rows hst hkk ha =>
    obtain ⟨sa, sc, rfl, _⟩ := hst
    obtain ⟨SN, hSN⟩ : ∃ n, set.length = n := ⟨_, rfl⟩
    obtain ⟨KN, hKN⟩ : ∃ n, keys.length = n := ⟨_, rfl⟩
    rw [hSN, hKN, show ([.int .i64 13, .string nb, .string tx, .int .i64 n, .slice sa SN sc, .slice a KN c] : List Value).toArray = #[.int .i64 13, .string nb, .string tx, .int .i64 n, .slice sa SN sc, .slice a KN c] from rfl, show ([.int .i64 m.uid, .slice fa fn fc, .int .i64 m.day, .string tb, .int .i64 m.which, .int .i64 m.many, .int .i64 m.greatest] : List Value).toArray = #[.int .i64 m.uid, .slice fa fn fc, .int .i64 m.day, .string tb, .int .i64 m.which, .int .i64 m.many, .int .i64 m.greatest] from rfl] at cJ ⊢
    have dd : decide ((65536 : Int) < (d : Int)) = false := decide_eq_false (by omega)
    obtain ⟨W2, hW2, hz2, e1, e2, hb2⟩ := two_boxes w #[.int .i64 m.uid, .slice fa fn fc, .int .i64 m.day, .string tb, .int .i64 m.which, .int .i64 m.many, .int .i64 m.greatest] #[.int .i64 13, .string nb, .string tx, .int .i64 n, .slice sa SN sc, .slice a KN c] 103 33
    have r0 : W2.cell? ⟨w.heap.size, 0, none⟩ = some (.int .i64 m.uid) := rd_cell e1 rfl
    have r1 : W2.cell? ⟨w.heap.size, 1, none⟩ = some (.slice fa fn fc) := rd_cell e1 rfl
    have r2 : W2.cell? ⟨w.heap.size, 2, none⟩ = some (.int .i64 m.day) := rd_cell e1 rfl
    have r3 : W2.cell? ⟨w.heap.size, 3, none⟩ = some (.string tb) := rd_cell e1 rfl
    have r4 : W2.cell? ⟨w.heap.size, 4, none⟩ = some (.int .i64 m.which) := rd_cell e1 rfl
    have r5 : W2.cell? ⟨w.heap.size, 5, none⟩ = some (.int .i64 m.many) := rd_cell e1 rfl
    have r6 : W2.cell? ⟨w.heap.size, 6, none⟩ = some (.int .i64 m.greatest) := rd_cell e1 rfl
    have k0 : W2.cell? ⟨w.heap.size + 1, 0, none⟩ = some (.int .i64 13) := rd_cell e2 rfl
    have k1 : W2.cell? ⟨w.heap.size + 1, 1, none⟩ = some (.string nb) := rd_cell e2 rfl
    have k2 : W2.cell? ⟨w.heap.size + 1, 2, none⟩ = some (.string tx) := rd_cell e2 rfl
    have k3 : W2.cell? ⟨w.heap.size + 1, 3, none⟩ = some (.int .i64 n) := rd_cell e2 rfl
    have k4 : W2.cell? ⟨w.heap.size + 1, 4, none⟩ = some (.slice sa SN sc) := rd_cell e2 rfl
    have k5 : W2.cell? ⟨w.heap.size + 1, 5, none⟩ = some (.slice a KN c) := rd_cell e2 rfl
    have HB2 : Hid (Below w.heap.size w W2) := hb2
    have cC := cJ W2 hb2
    clear cJ e1 e2 hkk ha htb hb2 hKN hSN
    go_enter Tryz.func45, Tryz.ntmps45
    go_wp2_with fail
    refine cC.mono ?_
    rintro e w3 ⟨rfl, hb3⟩
    have HB3 : Hid (Below w.heap.size w w3) := HB2.out.trans (hb3.mono HB2.out.size)
    clear hb3 cC
    go_wp2_with fail
    go_ret
    exact ⟨rfl, HB3.out⟩
set_option maxHeartbeats 2000000 in
set_option maxRecDepth 100000 in
theorem is_14 (m : Sr.Lt) (ms : List Value) (name text : Sr.Tx) (n : Int) (set : List (Nat × Nat)) (keys : List Sr.Ky) (ys : List Value) (Ok : Nat → Prop) (d : Nat) (A : Bool) (w : World) (hm : Mx m ms) (hk : Kx w Ok (.mk 14 name text n set keys) ys) (hd : d ≤ 1000)
    (cJ : ∀ W, Below w.heap.size w W → Calls Tryz.prog 106 #[.agg ms.toArray, .agg ys.toArray, .int .i64 (d : Int)] W fun e w' => e = .returned (.bool A) ∧ Below W.heap.size W w') :
    Calls Tryz.prog 45 #[.agg ms.toArray, .agg ys.toArray, .int .i64 (d : Int)] w fun e w' => e = .returned (.bool A) ∧ Below w.heap.size w w' := by
  obtain ⟨tb, fa, fn, fc, rfl, htb⟩ := hm
  cases hk with
  | mk code n nb tx set sv ks a c rows hst hkk ha =>
    obtain ⟨sa, sc, rfl, _⟩ := hst
    obtain ⟨SN, hSN⟩ : ∃ n, set.length = n := ⟨_, rfl⟩
    obtain ⟨KN, hKN⟩ : ∃ n, keys.length = n := ⟨_, rfl⟩
    rw [hSN, hKN, show ([.int .i64 14, .string nb, .string tx, .int .i64 n, .slice sa SN sc, .slice a KN c] : List Value).toArray = #[.int .i64 14, .string nb, .string tx, .int .i64 n, .slice sa SN sc, .slice a KN c] from rfl, show ([.int .i64 m.uid, .slice fa fn fc, .int .i64 m.day, .string tb, .int .i64 m.which, .int .i64 m.many, .int .i64 m.greatest] : List Value).toArray = #[.int .i64 m.uid, .slice fa fn fc, .int .i64 m.day, .string tb, .int .i64 m.which, .int .i64 m.many, .int .i64 m.greatest] from rfl] at cJ ⊢
    have dd : decide ((65536 : Int) < (d : Int)) = false := decide_eq_false (by omega)
    obtain ⟨W2, hW2, hz2, e1, e2, hb2⟩ := two_boxes w #[.int .i64 m.uid, .slice fa fn fc, .int .i64 m.day, .string tb, .int .i64 m.which, .int .i64 m.many, .int .i64 m.greatest] #[.int .i64 14, .string nb, .string tx, .int .i64 n, .slice sa SN sc, .slice a KN c] 103 33
    have r0 : W2.cell? ⟨w.heap.size, 0, none⟩ = some (.int .i64 m.uid) := rd_cell e1 rfl
    have r1 : W2.cell? ⟨w.heap.size, 1, none⟩ = some (.slice fa fn fc) := rd_cell e1 rfl
    have r2 : W2.cell? ⟨w.heap.size, 2, none⟩ = some (.int .i64 m.day) := rd_cell e1 rfl
    have r3 : W2.cell? ⟨w.heap.size, 3, none⟩ = some (.string tb) := rd_cell e1 rfl
    have r4 : W2.cell? ⟨w.heap.size, 4, none⟩ = some (.int .i64 m.which) := rd_cell e1 rfl
    have r5 : W2.cell? ⟨w.heap.size, 5, none⟩ = some (.int .i64 m.many) := rd_cell e1 rfl
    have r6 : W2.cell? ⟨w.heap.size, 6, none⟩ = some (.int .i64 m.greatest) := rd_cell e1 rfl
    have k0 : W2.cell? ⟨w.heap.size + 1, 0, none⟩ = some (.int .i64 14) := rd_cell e2 rfl
    have k1 : W2.cell? ⟨w.heap.size + 1, 1, none⟩ = some (.string nb) := rd_cell e2 rfl
    have k2 : W2.cell? ⟨w.heap.size + 1, 2, none⟩ = some (.string tx) := rd_cell e2 rfl
    have k3 : W2.cell? ⟨w.heap.size + 1, 3, none⟩ = some (.int .i64 n) := rd_cell e2 rfl
    have k4 : W2.cell? ⟨w.heap.size + 1, 4, none⟩ = some (.slice sa SN sc) := rd_cell e2 rfl
    have k5 : W2.cell? ⟨w.heap.size + 1, 5, none⟩ = some (.slice a KN c) := rd_cell e2 rfl
    have HB2 : Hid (Below w.heap.size w W2) := hb2
    have cC := cJ W2 hb2
    clear cJ e1 e2 hkk ha htb hb2 hKN hSN
    go_enter Tryz.func45, Tryz.ntmps45
    go_wp2_with fail
    refine cC.mono ?_
    rintro e w3 ⟨rfl, hb3⟩
    have HB3 : Hid (Below w.heap.size w w3) := HB2.out.trans (hb3.mono HB2.out.size)
    clear hb3 cC
    go_wp2_with fail
    go_ret
    exact ⟨rfl, HB3.out⟩
set_option maxHeartbeats 2000000 in
set_option maxRecDepth 100000 in
theorem is_15 (m : Sr.Lt) (ms : List Value) (name text : Sr.Tx) (n : Int) (set : List (Nat × Nat)) (keys : List Sr.Ky) (ys : List Value) (Ok : Nat → Prop) (d : Nat) (A : Bool) (w : World) (hm : Mx m ms) (hk : Kx w Ok (.mk 15 name text n set keys) ys) (hd : d ≤ 1000)
    (cJ : ∀ W, Below w.heap.size w W → Calls Tryz.prog 106 #[.agg ms.toArray, .agg ys.toArray, .int .i64 (d : Int)] W fun e w' => e = .returned (.bool A) ∧ Below W.heap.size W w') :
    Calls Tryz.prog 45 #[.agg ms.toArray, .agg ys.toArray, .int .i64 (d : Int)] w fun e w' => e = .returned (.bool A) ∧ Below w.heap.size w w' := by
  obtain ⟨tb, fa, fn, fc, rfl, htb⟩ := hm
  cases hk with
  | mk code n nb tx set sv ks a c rows hst hkk ha =>
    obtain ⟨sa, sc, rfl, _⟩ := hst
    obtain ⟨SN, hSN⟩ : ∃ n, set.length = n := ⟨_, rfl⟩
    obtain ⟨KN, hKN⟩ : ∃ n, keys.length = n := ⟨_, rfl⟩
    rw [hSN, hKN, show ([.int .i64 15, .string nb, .string tx, .int .i64 n, .slice sa SN sc, .slice a KN c] : List Value).toArray = #[.int .i64 15, .string nb, .string tx, .int .i64 n, .slice sa SN sc, .slice a KN c] from rfl, show ([.int .i64 m.uid, .slice fa fn fc, .int .i64 m.day, .string tb, .int .i64 m.which, .int .i64 m.many, .int .i64 m.greatest] : List Value).toArray = #[.int .i64 m.uid, .slice fa fn fc, .int .i64 m.day, .string tb, .int .i64 m.which, .int .i64 m.many, .int .i64 m.greatest] from rfl] at cJ ⊢
    have dd : decide ((65536 : Int) < (d : Int)) = false := decide_eq_false (by omega)
    obtain ⟨W2, hW2, hz2, e1, e2, hb2⟩ := two_boxes w #[.int .i64 m.uid, .slice fa fn fc, .int .i64 m.day, .string tb, .int .i64 m.which, .int .i64 m.many, .int .i64 m.greatest] #[.int .i64 15, .string nb, .string tx, .int .i64 n, .slice sa SN sc, .slice a KN c] 103 33
    have r0 : W2.cell? ⟨w.heap.size, 0, none⟩ = some (.int .i64 m.uid) := rd_cell e1 rfl
    have r1 : W2.cell? ⟨w.heap.size, 1, none⟩ = some (.slice fa fn fc) := rd_cell e1 rfl
    have r2 : W2.cell? ⟨w.heap.size, 2, none⟩ = some (.int .i64 m.day) := rd_cell e1 rfl
    have r3 : W2.cell? ⟨w.heap.size, 3, none⟩ = some (.string tb) := rd_cell e1 rfl
    have r4 : W2.cell? ⟨w.heap.size, 4, none⟩ = some (.int .i64 m.which) := rd_cell e1 rfl
    have r5 : W2.cell? ⟨w.heap.size, 5, none⟩ = some (.int .i64 m.many) := rd_cell e1 rfl
    have r6 : W2.cell? ⟨w.heap.size, 6, none⟩ = some (.int .i64 m.greatest) := rd_cell e1 rfl
    have k0 : W2.cell? ⟨w.heap.size + 1, 0, none⟩ = some (.int .i64 15) := rd_cell e2 rfl
    have k1 : W2.cell? ⟨w.heap.size + 1, 1, none⟩ = some (.string nb) := rd_cell e2 rfl
    have k2 : W2.cell? ⟨w.heap.size + 1, 2, none⟩ = some (.string tx) := rd_cell e2 rfl
    have k3 : W2.cell? ⟨w.heap.size + 1, 3, none⟩ = some (.int .i64 n) := rd_cell e2 rfl
    have k4 : W2.cell? ⟨w.heap.size + 1, 4, none⟩ = some (.slice sa SN sc) := rd_cell e2 rfl
    have k5 : W2.cell? ⟨w.heap.size + 1, 5, none⟩ = some (.slice a KN c) := rd_cell e2 rfl
    have HB2 : Hid (Below w.heap.size w W2) := hb2
    have cC := cJ W2 hb2
    clear cJ e1 e2 hkk ha htb hb2 hKN hSN
    go_enter Tryz.func45, Tryz.ntmps45
    go_wp2_with fail
    refine cC.mono ?_
    rintro e w3 ⟨rfl, hb3⟩
    have HB3 : Hid (Below w.heap.size w w3) := HB2.out.trans (hb3.mono HB2.out.size)
    clear hb3 cC
    go_wp2_with fail
    go_ret
    exact ⟨rfl, HB3.out⟩
end Go.Proofs.YtligkpcoajnjmaaGreatDoorR
