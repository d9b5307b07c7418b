/-
  What search, and more.
-/
import Derived.Test.YtogigccbnohjjaaGreatDoorBpSfOne
namespace Go.Proofs.YtogigccbnohjjaaGreatDoor
open Go.RowKit Go.Proofs.Aid Go.Proofs.Sq Go.Proofs.Hd
set_option maxHeartbeats 2000000
set_option maxRecDepth 100000
theorem has_is (t p : ByteArray) (m : Int) (w : World) (ht : t.size ≤ 2000000) (hp : p.size ≤ 2000000) (hm : w.cell? ⟨1, 0, none⟩ = some (.int .i64 m)) :
  Calls Tryz.prog 43 #[.string t, .string p] w fun e w' => e = .returned (.bool (Sr.hasT t.data.toList p.data.toList)) ∧ Below w.heap.size w w' := by
 have K0 : Hid (∀ W, Below w.heap.size w W → W.cell? ⟨1, 0, none⟩ = some (.int .i64 m)) := fun W h => (h.cell (World.block_lt_of_cell? _ _ hm)).trans hm
 have c1 := small_is t w ht
 obtain ⟨st, hst⟩ : ∃ x : ByteArray, ⟨(small t.data.toList).toArray⟩ = x := ⟨_, rfl⟩
 obtain ⟨sp, hsp⟩ : ∃ x : ByteArray, ⟨(small p.data.toList).toArray⟩ = x := ⟨_, rfl⟩
 have hsz : st.size = t.size := by rw [← list_size, ← hst]; show (small t.data.toList).length = _; rw [small_length, list_size]
 have c2 := fun W => small_is p W hp
 rw [hst] at c1
 rw [hsp] at c2
 obtain ⟨R, hR⟩ : ∃ b, Sr.hasT t.data.toList p.data.toList = b := ⟨_, rfl⟩
 have HR : Hid (Lib.contains st.data.toList sp.data.toList = R) := by show _ = _; rw [← hR, Sr.hasT, ← hst, ← hsp]
 rw [hR]
 have hz2 : st.size < 4294967281 := by omega
 clear hst hsp hR hm hsz
 go_enter Tryz.func43, Tryz.ntmps43
 go_wp2_with fail
 refine c1.mono ?_
 rintro e w1 ⟨rfl, hb1⟩
 go_wp2_with fail
 refine (c2 w1).mono ?_
 rintro e w2 ⟨rfl, hb2⟩
 have hb02 := hb1.trans (hb2.mono hb1.size)
 have c3 := Tryz.strings_Contains st sp m w2 hz2 (K0.out w2 hb02)
 rw [HR.out] at c3
 clear c1 c2
 go_wp2_with fail
 refine c3.mono ?_
 rintro e w3 ⟨rfl, rfl⟩
 go_wp2_with fail
 go_ret
 exact ⟨rfl, hb02⟩
end Go.Proofs.YtogigccbnohjjaaGreatDoor
namespace Go.Proofs.YtogigccbnohjjaaGreatDoor
open Go.RowKit Go.Proofs.Aid Go.Proofs.Sq Go.Proofs.Hd
set_option maxHeartbeats 2000000
set_option maxRecDepth 100000
def Kg (w : World) (Ok : Nat → Prop) (v : Value) (ks : List Sr.Ky) : Prop :=
 ∃ a c, v = .slice a ks.length c ∧ ∀ (j : Nat) k, ks[j]? = some k → ∃ b o xs, a = some ⟨b, o, none⟩ ∧ Ok b ∧ Kx w Ok k xs ∧ ∀ i x, xs[i]? = some x → w.cell? ⟨b, o + j * 6 + i, none⟩ = some x
theorem Kg.below {w w' : World} {Ok : Nat → Prop} {v : Value} {ks : List Sr.Ky} (h : Kg w Ok v ks) (hb : Below w.heap.size w w') : Kg w' Ok v ks := by
 obtain ⟨a, c, h1, h2⟩ := h
 refine ⟨a, c, h1, fun j k hj => ?_⟩
 obtain ⟨b, o, xs, g1, g2, g3, g4⟩ := h2 j k hj
 exact ⟨b, o, xs, g1, g2, g3.under hb, fun i x hx => (hb.cell (World.block_lt_of_cell? _ _ (g4 i x hx))).trans (g4 i x hx)⟩
theorem index_keys (F : Nat) (eg : ∀ args w, (callFunc F args).run Tryz.prog w = .ok (.enter F args) w) (caps : Array Value) (P : Sr.Ky → Bool) (v : Value) (ks : List Sr.Ky) (Ok : Nat → Prop) (w : World) (h : Kg w Ok v ks) (hl : ks.length ≤ 1000)
  (hF : ∀ (j : Nat) k xs W, ks[j]? = some k → Below w.heap.size w W → Kx W Ok k xs → Calls Tryz.prog F (#[.agg xs.toArray] ++ caps) W fun e w' => e = .returned (.bool (P k)) ∧ Below W.heap.size W w') :
  Calls Tryz.prog 100 #[v, .func (.func F) #[] caps] w fun e w' => ∃ z : Int, e = .returned (.int .i64 z) ∧ decide (0 ≤ z) = ks.any P ∧ Below w.heap.size w w' := by
 have HF : Hid (∀ (j : Nat) k xs W, ks[j]? = some k → Below w.heap.size w W → Kx W Ok k xs → Calls Tryz.prog F (#[.agg xs.toArray] ++ caps) W fun e w' => e = .returned (.bool (P k)) ∧ Below W.heap.size W w') := hF
 have HK : Hid (∀ W, Below w.heap.size w W → Kg W Ok v ks) := fun W hW => h.below hW
 obtain ⟨a, c, rfl, _⟩ := h
 obtain ⟨N, hN⟩ : ∃ N, ks.length = N := ⟨_, rfl⟩
 have HN : Hid (ks.length = N) := hN
 rw [hN] at hl HK ⊢
 clear hF hN
 go_enter Tryz.func100, Tryz.ntmps100
 go_wp2_with fail
 go_loopw [8] (fun i wr => ∃ k : Nat, i = .int .i64 (k : Int) ∧ k ≤ N ∧ Hid (∀ j q, j < k → ks[j]? = some q → P q = false) ∧ Below w.heap.size w wr) (fun i _ => N - (intOf i).toNat)
 case atStart => exact ⟨0, rfl, by omega, fun j q h => absurd h (by omega), Below.refl _ _⟩
 case round =>
  obtain ⟨k, rfl, hk, HA, hbW⟩ := hrel
  by_cases hlt : k < N
  ·have hkp : k < ks.length := by rw [HN.out]; exact hlt
   obtain ⟨q, hq⟩ : ∃ q, ks[k] = q := ⟨_, rfl⟩
   have hpk : ks[k]? = some q := by rw [List.getElem?_eq_getElem hkp, hq]
   obtain ⟨a', c', hv, hat⟩ := HK.out wr hbW
   injection hv with hv1 hv2 hv3
   subst hv1
   obtain ⟨b, o, xs, rfl, _, hkx, hcells⟩ := hat k q hpk
   have cF := HF.out k q xs wr hpk hbW hkx
   obtain ⟨x0, x3, x1, x2, xa, xk, xc, ya, yk, yc, rfl⟩ := kx_cells hkx
   have c0 := hcells 0 _ rfl
   have c1 := hcells 1 _ rfl
   have c2 := hcells 2 _ rfl
   have c3 := hcells 3 _ rfl
   have c4 := hcells 4 _ rfl
   have c5 := hcells 5 _ rfl
   rw [Nat.add_zero] at c0
   rw [show ([.int .i64 x0, .string x1, .string x2, .int .i64 x3, .slice xa xk xc, .slice ya yk yc] : List Value).toArray = #[.int .i64 x0, .string x1, .string x2, .int .i64 x3, .slice xa xk xc, .slice ya yk yc] from rfl] at cF
   have HPK : Hid (ks[k]? = some q) := hpk
   obtain ⟨B, hB⟩ : ∃ B, P q = B := ⟨_, rfl⟩
   have HB : Hid (P q = B) := hB
   rw [hB] at cF
   clear hat hcells hkx hpk hq hB hv2 hv3
   go_wp2_with fail
   refine cF.mono ?_
   clear cF
   rintro e w1 ⟨rfl, hb1⟩
   have hb01 := hbW.trans (hb1.mono hbW.size)
   cases B
   ·go_wp2_with fail
    go_roundw
    case rel =>
     refine ⟨k + 1, by go_num, by omega, fun j q' hj hj' => ?_, hb01⟩
     by_cases hjk : j < k
     ·exact HA.out j q' hjk hj'
     ·obtain rfl : j = k := by omega
      obtain rfl : q = q' := Option.some.inj (HPK.out.symm.trans hj')
      exact HB.out
    case measure => simp [intOf]; omega
   ·go_wp2_with fail
    go_ret
    refine ⟨(k : Int), rfl, ?_, hb01⟩
    rw [decide_eq_true (by omega)]
    exact (List.any_eq_true.2 ⟨q, List.mem_of_getElem? HPK.out, HB.out⟩).symm
  ·obtain rfl : k = N := by omega
   go_wp2_with fail
   go_ret
   refine ⟨-1, rfl, ?_, hbW⟩
   rw [decide_eq_false (by omega)]
   refine (List.any_eq_false.2 fun x hx => ?_).symm
   obtain ⟨j, hj, hjx⟩ := List.getElem_of_mem hx
   have := HA.out j x (by rw [HN.out] at hj; exact hj) (by rw [List.getElem?_eq_getElem hj, hjx])
   simp [this]
theorem any_keys (F : Nat) (eg : ∀ args w, (callFunc F args).run Tryz.prog w = .ok (.enter F args) w) (caps : Array Value) (P : Sr.Ky → Bool) (v : Value) (ks : List Sr.Ky) (Ok : Nat → Prop) (w : World) (h : Kg w Ok v ks) (hl : ks.length ≤ 1000)
  (hF : ∀ (j : Nat) k xs W, ks[j]? = some k → Below w.heap.size w W → Kx W Ok k xs → Calls Tryz.prog F (#[.agg xs.toArray] ++ caps) W fun e w' => e = .returned (.bool (P k)) ∧ Below W.heap.size W w') :
  Calls Tryz.prog 83 #[v, .func (.func F) #[] caps] w fun e w' => e = .returned (.bool (ks.any P)) ∧ Below w.heap.size w w' := by
 have c := index_keys F eg caps P v ks Ok w h hl hF
 go_enter Tryz.func83, Tryz.ntmps83
 go_wp2_with fail
 refine c.mono ?_
 rintro e w1 ⟨z, rfl, hz, hb⟩
 go_wp2_with fail
 go_ret
 exact ⟨by rw [← hz]; rfl, hb⟩
end Go.Proofs.YtogigccbnohjjaaGreatDoor
namespace Go.Proofs.YtogigccbnohjjaaGreatDoor
open Go.RowKit Go.Proofs.Aid Go.Proofs.Sq Go.Proofs.Hd
set_option maxHeartbeats 2000000
set_option maxRecDepth 100000
def Jb (w : World) (ms : List Value) (d mb db : Nat) : Prop := w.heap[mb]? = some (.cells ms.toArray 66 (0, 0)) ∧ w.heap[db]? = some (.cells #[.int .i64 (d : Int)] 3 (0, 0))
theorem Jb.below {w w' : World} {ms : List Value} {d mb db : Nat} (h : Jb w ms d mb db) (hb : Below w.heap.size w w') : Jb w' ms d mb db :=
 ⟨(hb.block mb (Array.getElem?_eq_some_iff.1 h.1).1).trans h.1, (hb.block db (Array.getElem?_eq_some_iff.1 h.2).1).trans h.2⟩
theorem asks_is (m : Sr.Lt) (ms : List Value) (k : Sr.Ky) (xs : List Value) (Ok : Nat → Prop) (d mb db : Nat) (A : Bool) (w : World) (hm : Mx m ms) (hk : Kx w Ok k xs) (hj : Jb w ms d mb db) (hd : d ≤ 1000)
  (cI : ∀ W, Below w.heap.size w W → Calls Tryz.prog 22 #[.agg ms.toArray, .agg xs.toArray, .int .i64 ((d : Int) + 1)] W fun e w' => e = .returned (.bool A) ∧ Below W.heap.size W w') :
  Calls Tryz.prog 81 (#[.agg xs.toArray] ++ #[.pointer (some ⟨mb, 0, none⟩), .pointer (some ⟨db, 0, none⟩)]) w fun e w' => e = .returned (.bool A) ∧ Below w.heap.size w w' := by
 obtain ⟨tb, fa, fn, fc, rfl, htb⟩ := hm
 obtain ⟨x0, x3, x1, x2, xa, xk, xc, ya, yk, yc, rfl⟩ := kx_cells hk
 rw [show ([.int .i64 x0, .string x1, .string x2, .int .i64 x3, .slice xa xk xc, .slice ya yk yc] : List Value).toArray = #[.int .i64 x0, .string x1, .string x2, .int .i64 x3, .slice xa xk xc, .slice ya yk yc] from rfl] at cI ⊢
 rw [show ([.int .i64 m.uid, .slice fa fn fc, .int .i64 m.day, .string tb, .int .i64 m.which, .int .i64 m.many, .int .i64 m.greatest] : List Value).toArray = #[.int .i64 m.uid, .slice fa fn fc, .int .i64 m.day, .string tb, .int .i64 m.which, .int .i64 m.many, .int .i64 m.greatest] from rfl] at cI
 have hb1 : Below w.heap.size w (w.alloc (.cells #[.int .i64 x0, .string x1, .string x2, .int .i64 x3, .slice xa xk xc, .slice ya yk yc] 32)) := (Below.refl _ _).alloc (Nat.le_refl _) _
 have e1 := heap_alloc_new w (.cells #[.int .i64 x0, .string x1, .string x2, .int .i64 x3, .slice xa xk xc, .slice ya yk yc] 32)
 obtain ⟨W1, hW1⟩ : ∃ W, w.alloc (.cells #[.int .i64 x0, .string x1, .string x2, .int .i64 x3, .slice xa xk xc, .slice ya yk yc] 32) = W := ⟨_, rfl⟩
 rw [hW1] at hb1 e1
 have hj1 := hj.below hb1
 have em : W1.heap[mb]? = some (.cells #[.int .i64 m.uid, .slice fa fn fc, .int .i64 m.day, .string tb, .int .i64 m.which, .int .i64 m.many, .int .i64 m.greatest] 66 (0, 0)) := hj1.1
 have r0 : W1.cell? ⟨mb, 0, none⟩ = some (.int .i64 m.uid) := rd_cell em rfl
 have r1 : W1.cell? ⟨mb, 1, none⟩ = some (.slice fa fn fc) := rd_cell em rfl
 have r2 : W1.cell? ⟨mb, 2, none⟩ = some (.int .i64 m.day) := rd_cell em rfl
 have r3 : W1.cell? ⟨mb, 3, none⟩ = some (.string tb) := rd_cell em rfl
 have r4 : W1.cell? ⟨mb, 4, none⟩ = some (.int .i64 m.which) := rd_cell em rfl
 have r5 : W1.cell? ⟨mb, 5, none⟩ = some (.int .i64 m.many) := rd_cell em rfl
 have r6 : W1.cell? ⟨mb, 6, none⟩ = some (.int .i64 m.greatest) := rd_cell em rfl
 have k0 : W1.cell? ⟨w.heap.size, 0, none⟩ = some (.int .i64 x0) := rd_cell e1 rfl
 have k1 : W1.cell? ⟨w.heap.size, 1, none⟩ = some (.string x1) := rd_cell e1 rfl
 have k2 : W1.cell? ⟨w.heap.size, 2, none⟩ = some (.string x2) := rd_cell e1 rfl
 have k3 : W1.cell? ⟨w.heap.size, 3, none⟩ = some (.int .i64 x3) := rd_cell e1 rfl
 have k4 : W1.cell? ⟨w.heap.size, 4, none⟩ = some (.slice xa xk xc) := rd_cell e1 rfl
 have k5 : W1.cell? ⟨w.heap.size, 5, none⟩ = some (.slice ya yk yc) := rd_cell e1 rfl
 have dd : W1.cell? ⟨db, 0, none⟩ = some (.int .i64 (d : Int)) := rd_cell hj1.2 rfl
 have c := cI W1 hb1
 have HB1 : Hid (Below w.heap.size w W1) := hb1
 clear cI hb1 e1 em hj hj1 hk htb
 show Calls Tryz.prog 81 #[.agg #[.int .i64 x0, .string x1, .string x2, .int .i64 x3, .slice xa xk xc, .slice ya yk yc], .pointer (some ⟨mb, 0, none⟩), .pointer (some ⟨db, 0, none⟩)] w _
 go_enter Tryz.func81, Tryz.ntmps81
 go_wp2_with fail
 refine c.mono ?_
 rintro e w3 ⟨rfl, hb3⟩
 have HB3 : Hid (Below w.heap.size w w3) := HB1.out.trans (hb3.mono HB1.out.size)
 clear hb3 c
 go_wp2_with fail
 go_ret
 exact ⟨rfl, HB3.out⟩
theorem asks_enter : ∀ args w, (callFunc 81 args).run Tryz.prog w = .ok (.enter 81 args) w := enters_of Tryz.func81 (by kernel_rfl) rfl
theorem fails_enter : ∀ args w, (callFunc 82 args).run Tryz.prog w = .ok (.enter 82 args) w := enters_of Tryz.func82 (by kernel_rfl) rfl
theorem fails_is (k : Sr.Ky) (xs : List Value) (Ok : Nat → Prop) (hb mb db : Nat) (A : Bool) (w : World) (hk : Kx w Ok k xs) (hf : w.heap[hb]? = some (.cells #[.func (.func 81) #[] #[.pointer (some ⟨mb, 0, none⟩), .pointer (some ⟨db, 0, none⟩)]] 129 (0, 0)))
  (cI : ∀ W, Below w.heap.size w W → Calls Tryz.prog 81 (#[.agg xs.toArray] ++ #[.pointer (some ⟨mb, 0, none⟩), .pointer (some ⟨db, 0, none⟩)]) W fun e w' => e = .returned (.bool A) ∧ Below W.heap.size W w') :
  Calls Tryz.prog 82 (#[.agg xs.toArray] ++ #[.pointer (some ⟨hb, 0, none⟩)]) w fun e w' => e = .returned (.bool (!A)) ∧ Below w.heap.size w w' := by
 obtain ⟨x0, x3, x1, x2, xa, xk, xc, ya, yk, yc, rfl⟩ := kx_cells hk
 rw [show ([.int .i64 x0, .string x1, .string x2, .int .i64 x3, .slice xa xk xc, .slice ya yk yc] : List Value).toArray = #[.int .i64 x0, .string x1, .string x2, .int .i64 x3, .slice xa xk xc, .slice ya yk yc] from rfl] at cI ⊢
 have hb1 : Below w.heap.size w (w.alloc (.cells #[.int .i64 x0, .string x1, .string x2, .int .i64 x3, .slice xa xk xc, .slice ya yk yc] 32)) := (Below.refl _ _).alloc (Nat.le_refl _) _
 have e1 := heap_alloc_new w (.cells #[.int .i64 x0, .string x1, .string x2, .int .i64 x3, .slice xa xk xc, .slice ya yk yc] 32)
 obtain ⟨W1, hW1⟩ : ∃ W, w.alloc (.cells #[.int .i64 x0, .string x1, .string x2, .int .i64 x3, .slice xa xk xc, .slice ya yk yc] 32) = W := ⟨_, rfl⟩
 rw [hW1] at hb1 e1
 have ef := (hb1.block hb (Array.getElem?_eq_some_iff.1 hf).1).trans hf
 have r0 : W1.cell? ⟨hb, 0, none⟩ = some (.func (.func 81) #[] #[.pointer (some ⟨mb, 0, none⟩), .pointer (some ⟨db, 0, none⟩)]) := rd_cell ef rfl
 have k0 : W1.cell? ⟨w.heap.size, 0, none⟩ = some (.int .i64 x0) := rd_cell e1 rfl
 have k1 : W1.cell? ⟨w.heap.size, 1, none⟩ = some (.string x1) := rd_cell e1 rfl
 have k2 : W1.cell? ⟨w.heap.size, 2, none⟩ = some (.string x2) := rd_cell e1 rfl
 have k3 : W1.cell? ⟨w.heap.size, 3, none⟩ = some (.int .i64 x3) := rd_cell e1 rfl
 have k4 : W1.cell? ⟨w.heap.size, 4, none⟩ = some (.slice xa xk xc) := rd_cell e1 rfl
 have k5 : W1.cell? ⟨w.heap.size, 5, none⟩ = some (.slice ya yk yc) := rd_cell e1 rfl
 have c : Calls Tryz.prog 81 #[.agg #[.int .i64 x0, .string x1, .string x2, .int .i64 x3, .slice xa xk xc, .slice ya yk yc], .pointer (some ⟨mb, 0, none⟩), .pointer (some ⟨db, 0, none⟩)] W1 fun e w' => e = .returned (.bool A) ∧ Below W1.heap.size W1 w' := cI W1 hb1
 have eg := asks_enter
 have HB1 : Hid (Below w.heap.size w W1) := hb1
 clear cI hb1 e1 ef hf hk
 show Calls Tryz.prog 82 #[.agg #[.int .i64 x0, .string x1, .string x2, .int .i64 x3, .slice xa xk xc, .slice ya yk yc], .pointer (some ⟨hb, 0, none⟩)] w _
 go_enter Tryz.func82, Tryz.ntmps82
 go_wp2_with fail
 refine c.mono ?_
 rintro e w3 ⟨rfl, hb3⟩
 have HB3 : Hid (Below w.heap.size w w3) := HB1.out.trans (hb3.mono HB1.out.size)
 clear hb3 c
 go_wp2_with fail
 go_ret
 exact ⟨rfl, HB3.out⟩
end Go.Proofs.YtogigccbnohjjaaGreatDoor
namespace Go.Proofs.YtogigccbnohjjaaGreatDoor
open Go.RowKit Go.Proofs.Aid
theorem run_store_func (P : Program) (w : World) (a : Addr) (f : Nat) (bs : Array Value) (old : Value) (h : w.cell? a = some old) (hf : w.frozen? a = false) : (store a (.func (.func f) #[] bs)).run P w = .ok () (w.setCell a (.func (.func f) #[] bs)) := by
 rw [run_store P w a _ _ rfl, h, hf]
 rfl
end Go.Proofs.YtogigccbnohjjaaGreatDoor
namespace Go.Proofs.YtogigccbnohjjaaGreatDoor
open Go.RowKit Go.Proofs.Aid Go.Proofs.Sq Go.Proofs.Hd
set_option maxHeartbeats 4000000
set_option maxRecDepth 100000
theorem joins_14 (m : Sr.Lt) (ms : List Value) (name text : Sr.Tx) (n : Int) (set : List (Nat × Nat)) (keys : List Sr.Ky) (ys : List Value) (Ok : Nat → Prop) (d : Nat) (w : World) (hm : Mx m ms) (hk : Kx w Ok (.mk 14 name text n set keys) ys) (hd : d ≤ 1000) (hkl : keys.length ≤ 1000)
  (cI : ∀ k ∈ keys, ∀ xs W, Below w.heap.size w W → Kx W Ok k xs → Calls Tryz.prog 22 #[.agg ms.toArray, .agg xs.toArray, .int .i64 ((d : Int) + 1)] W fun e w' => e = .returned (.bool (Sr.holdsK m k)) ∧ Below W.heap.size W w') :
  Calls Tryz.prog 45 #[.agg ms.toArray, .agg ys.toArray, .int .i64 (d : Int)] w fun e w' => e = .returned (.bool (keys.any (Sr.holdsK m))) ∧ Below w.heap.size w w' := by
 have hmf : ∀ (fn : Fn) (first cap : Array Value) (w : World), (Instr.makeFunc fn first cap).run Tryz.prog w = .ok (.func fn first cap) w := fun _ _ _ _ => rfl
 have hmm := hm
 obtain ⟨tb, fa, fn, fc, rfl, htb⟩ := hm
 cases hk with
 | mk code n nb tx set sv ks a c rows hst hkk ha =>
  obtain ⟨sa, sc, rfl, _⟩ := hst
  obtain ⟨SN, hSN⟩ : ∃ n, set.length = n := ⟨_, rfl⟩
  obtain ⟨KN, hKN⟩ : ∃ n, keys.length = n := ⟨_, rfl⟩
  rw [hSN, hKN, show ([.int .i64 14, .string nb, .string tx, .int .i64 n, .slice sa SN sc, .slice a KN c] : List Value).toArray = #[.int .i64 14, .string nb, .string tx, .int .i64 n, .slice sa SN sc, .slice a KN c] from rfl]
  obtain ⟨W3, hW3⟩ : ∃ W, ((w.alloc (.cells #[.int .i64 m.uid, .slice fa fn fc, .int .i64 m.day, .string tb, .int .i64 m.which, .int .i64 m.many, .int .i64 m.greatest] 66)).alloc (.cells #[.int .i64 14, .string nb, .string tx, .int .i64 n, .slice sa SN sc, .slice a KN c] 32)).alloc (.cells #[.int .i64 (d : Int)] 3) = W := ⟨_, rfl⟩
  obtain ⟨W2, hW2, hz2, e1, e2, hb2⟩ := two_boxes w #[.int .i64 m.uid, .slice fa fn fc, .int .i64 m.day, .string tb, .int .i64 m.which, .int .i64 m.many, .int .i64 m.greatest] #[.int .i64 14, .string nb, .string tx, .int .i64 n, .slice sa SN sc, .slice a KN c] 66 32
  rw [hW2] at hW3
  have hz3 : W3.heap.size = w.heap.size + 3 := by rw [← hW3]; simp [hz2]
  have b3 : Below W2.heap.size W2 W3 := by rw [← hW3]; exact (Below.refl _ _).alloc (Nat.le_refl _) _
  have e3 : W3.heap[w.heap.size + 2]? = some (.cells #[.int .i64 (d : Int)] 3 (0, 0)) := by
   rw [← hW3, show w.heap.size + 2 = W2.heap.size from hz2.symm]; exact heap_alloc_new _ _
  have z4 := heap_alloc_new W3 (.cells #[.nilFunc] 129)
  rw [hz3] at z4
  have n0 : (W3.alloc (.cells #[.nilFunc] 129)).cell? ⟨w.heap.size + 3, 0, none⟩ = some .nilFunc := rd_cell z4 rfl
  have n1 : (W3.alloc (.cells #[.nilFunc] 129)).frozen? ⟨w.heap.size + 3, 0, none⟩ = false := rd_free z4 0
  have hst := run_store_func Tryz.prog (W3.alloc (.cells #[.nilFunc] 129)) ⟨w.heap.size + 3, 0, none⟩ 81 #[.pointer (some ⟨w.heap.size, 0, none⟩), .pointer (some ⟨w.heap.size + 2, 0, none⟩)] .nilFunc n0 n1
  have b4 : Below W3.heap.size W3 (W3.alloc (.cells #[.func (.func 81) #[] #[.pointer (some ⟨w.heap.size, 0, none⟩), .pointer (some ⟨w.heap.size + 2, 0, none⟩)]] 129)) := (Below.refl _ _).alloc (Nat.le_refl _) _
  have e4 := heap_alloc_new W3 (.cells #[.func (.func 81) #[] #[.pointer (some ⟨w.heap.size, 0, none⟩), .pointer (some ⟨w.heap.size + 2, 0, none⟩)]] 129)
  rw [hz3] at e4
  have b24 := b3.trans (b4.mono (by omega))
  have hb4 : Below w.heap.size w (W3.alloc (.cells #[.func (.func 81) #[] #[.pointer (some ⟨w.heap.size, 0, none⟩), .pointer (some ⟨w.heap.size + 2, 0, none⟩)]] 129)) := hb2.trans (b24.mono (by omega))
  have eM := (b24.block w.heap.size (by omega)).trans e1
  have eK := (b24.block (w.heap.size + 1) (by omega)).trans e2
  have eD := (b4.block (w.heap.size + 2) (by omega)).trans e3
  have hJ : Jb (W3.alloc (.cells #[.func (.func 81) #[] #[.pointer (some ⟨w.heap.size, 0, none⟩), .pointer (some ⟨w.heap.size + 2, 0, none⟩)]] 129)) [.int .i64 m.uid, .slice fa fn fc, .int .i64 m.day, .string tb, .int .i64 m.which, .int .i64 m.many, .int .i64 m.greatest] d w.heap.size (w.heap.size + 2) := ⟨eM, eD⟩
  have k0 : (W3.alloc (.cells #[.func (.func 81) #[] #[.pointer (some ⟨w.heap.size, 0, none⟩), .pointer (some ⟨w.heap.size + 2, 0, none⟩)]] 129)).cell? ⟨w.heap.size + 1, 0, none⟩ = some (.int .i64 14) := rd_cell eK rfl
  have k5 : (W3.alloc (.cells #[.func (.func 81) #[] #[.pointer (some ⟨w.heap.size, 0, none⟩), .pointer (some ⟨w.heap.size + 2, 0, none⟩)]] 129)).cell? ⟨w.heap.size + 1, 5, none⟩ = some (.slice a KN c) := rd_cell eK rfl
  have f0 : (W3.alloc (.cells #[.func (.func 81) #[] #[.pointer (some ⟨w.heap.size, 0, none⟩), .pointer (some ⟨w.heap.size + 2, 0, none⟩)]] 129)).cell? ⟨w.heap.size + 3, 0, none⟩ = some (.func (.func 81) #[] #[.pointer (some ⟨w.heap.size, 0, none⟩), .pointer (some ⟨w.heap.size + 2, 0, none⟩)]) := rd_cell e4 rfl
  have hkg : Kg (W3.alloc (.cells #[.func (.func 81) #[] #[.pointer (some ⟨w.heap.size, 0, none⟩), .pointer (some ⟨w.heap.size + 2, 0, none⟩)]] 129)) Ok (.slice a KN c) keys := by
   refine ⟨a, c, by rw [hKN], fun j k hj => ?_⟩
   rcases ha with rfl | ⟨b, o, rfl, hO, hc⟩
   ·simp at hj
   ·exact ⟨b, o, rows j, rfl, hO, (hkk j k hj).under hb4, fun i x hx => (hb4.cell (World.block_lt_of_cell? _ _ (hc j k hj i x hx))).trans (hc j k hj i x hx)⟩
  have cAsk : ∀ k ∈ keys, ∀ xs W, Below (W3.alloc (.cells #[.func (.func 81) #[] #[.pointer (some ⟨w.heap.size, 0, none⟩), .pointer (some ⟨w.heap.size + 2, 0, none⟩)]] 129)).heap.size (W3.alloc (.cells #[.func (.func 81) #[] #[.pointer (some ⟨w.heap.size, 0, none⟩), .pointer (some ⟨w.heap.size + 2, 0, none⟩)]] 129)) W → Kx W Ok k xs → Calls Tryz.prog 81 (#[.agg xs.toArray] ++ #[.pointer (some ⟨w.heap.size, 0, none⟩), .pointer (some ⟨w.heap.size + 2, 0, none⟩)]) W fun e w' => e = .returned (.bool (Sr.holdsK m k)) ∧ Below W.heap.size W w' := fun k hk xs W hW hx =>
   asks_is m _ k xs Ok d w.heap.size (w.heap.size + 2) (Sr.holdsK m k) W hmm hx (hJ.below hW) hd fun W' hW' => cI k hk xs W' (hb4.trans ((hW.trans (hW'.mono hW.size)).mono hb4.size)) (hx.under hW')
  have HB4 : Hid (Below w.heap.size w (W3.alloc (.cells #[.func (.func 81) #[] #[.pointer (some ⟨w.heap.size, 0, none⟩), .pointer (some ⟨w.heap.size + 2, 0, none⟩)]] 129))) := hb4
  have HASK : Hid (∀ k ∈ keys, ∀ xs W, Below (W3.alloc (.cells #[.func (.func 81) #[] #[.pointer (some ⟨w.heap.size, 0, none⟩), .pointer (some ⟨w.heap.size + 2, 0, none⟩)]] 129)).heap.size (W3.alloc (.cells #[.func (.func 81) #[] #[.pointer (some ⟨w.heap.size, 0, none⟩), .pointer (some ⟨w.heap.size + 2, 0, none⟩)]] 129)) W → Kx W Ok k xs → Calls Tryz.prog 81 (#[.agg xs.toArray] ++ #[.pointer (some ⟨w.heap.size, 0, none⟩), .pointer (some ⟨w.heap.size + 2, 0, none⟩)]) W fun e w' => e = .returned (.bool (Sr.holdsK m k)) ∧ Below W.heap.size W w') := cAsk
  have HKG : Hid (Kg (W3.alloc (.cells #[.func (.func 81) #[] #[.pointer (some ⟨w.heap.size, 0, none⟩), .pointer (some ⟨w.heap.size + 2, 0, none⟩)]] 129)) Ok (.slice a KN c) keys) := hkg
  have HE4 : Hid ((W3.alloc (.cells #[.func (.func 81) #[] #[.pointer (some ⟨w.heap.size, 0, none⟩), .pointer (some ⟨w.heap.size + 2, 0, none⟩)]] 129)).heap[w.heap.size + 3]? = some (.cells #[.func (.func 81) #[] #[.pointer (some ⟨w.heap.size, 0, none⟩), .pointer (some ⟨w.heap.size + 2, 0, none⟩)]] 129 (0, 0))) := e4
  clear cI cAsk hkg e1 e2 e3 e4 z4 eM eK eD hJ hkk ha hb2 hb4 b3 b4 b24 htb hmm hSN
  have cC := any_keys 81 asks_enter #[.pointer (some ⟨w.heap.size, 0, none⟩), .pointer (some ⟨w.heap.size + 2, 0, none⟩)] (Sr.holdsK m) (.slice a KN c) keys Ok (W3.alloc (.cells #[.func (.func 81) #[] #[.pointer (some ⟨w.heap.size, 0, none⟩), .pointer (some ⟨w.heap.size + 2, 0, none⟩)]] 129)) HKG.out hkl (fun j k xs W hj hW hx => HASK.out k (List.mem_of_getElem? hj) xs W hW hx)
  go_enter Tryz.func45, Tryz.ntmps45
  go_wp2_with fail
  refine cC.mono ?_
  rintro e w5 ⟨rfl, hb5⟩
  have HB5 : Hid (Below w.heap.size w w5) := HB4.out.trans (hb5.mono HB4.out.size)
  clear cC hb5
  go_wp2_with fail
  go_ret
  exact ⟨rfl, HB5.out⟩
theorem joins_15 (m : Sr.Lt) (ms : List Value) (name text : Sr.Tx) (n : Int) (set : List (Nat × Nat)) (keys : List Sr.Ky) (ys : List Value) (Ok : Nat → Prop) (d : Nat) (w : World) (hm : Mx m ms) (hk : Kx w Ok (.mk 15 name text n set keys) ys) (hd : d ≤ 1000) (hkl : keys.length ≤ 1000)
  (cI : ∀ k ∈ keys, ∀ xs W, Below w.heap.size w W → Kx W Ok k xs → Calls Tryz.prog 22 #[.agg ms.toArray, .agg xs.toArray, .int .i64 ((d : Int) + 1)] W fun e w' => e = .returned (.bool (Sr.holdsK m k)) ∧ Below W.heap.size W w') :
  Calls Tryz.prog 45 #[.agg ms.toArray, .agg ys.toArray, .int .i64 (d : Int)] w fun e w' => e = .returned (.bool (!keys.any fun k => !Sr.holdsK m k)) ∧ Below w.heap.size w w' := by
 have hmf : ∀ (fn : Fn) (first cap : Array Value) (w : World), (Instr.makeFunc fn first cap).run Tryz.prog w = .ok (.func fn first cap) w := fun _ _ _ _ => rfl
 have hmm := hm
 obtain ⟨tb, fa, fn, fc, rfl, htb⟩ := hm
 cases hk with
 | mk code n nb tx set sv ks a c rows hst hkk ha =>
  obtain ⟨sa, sc, rfl, _⟩ := hst
  obtain ⟨SN, hSN⟩ : ∃ n, set.length = n := ⟨_, rfl⟩
  obtain ⟨KN, hKN⟩ : ∃ n, keys.length = n := ⟨_, rfl⟩
  rw [hSN, hKN, show ([.int .i64 15, .string nb, .string tx, .int .i64 n, .slice sa SN sc, .slice a KN c] : List Value).toArray = #[.int .i64 15, .string nb, .string tx, .int .i64 n, .slice sa SN sc, .slice a KN c] from rfl]
  obtain ⟨W3, hW3⟩ : ∃ W, ((w.alloc (.cells #[.int .i64 m.uid, .slice fa fn fc, .int .i64 m.day, .string tb, .int .i64 m.which, .int .i64 m.many, .int .i64 m.greatest] 66)).alloc (.cells #[.int .i64 15, .string nb, .string tx, .int .i64 n, .slice sa SN sc, .slice a KN c] 32)).alloc (.cells #[.int .i64 (d : Int)] 3) = W := ⟨_, rfl⟩
  obtain ⟨W2, hW2, hz2, e1, e2, hb2⟩ := two_boxes w #[.int .i64 m.uid, .slice fa fn fc, .int .i64 m.day, .string tb, .int .i64 m.which, .int .i64 m.many, .int .i64 m.greatest] #[.int .i64 15, .string nb, .string tx, .int .i64 n, .slice sa SN sc, .slice a KN c] 66 32
  rw [hW2] at hW3
  have hz3 : W3.heap.size = w.heap.size + 3 := by rw [← hW3]; simp [hz2]
  have b3 : Below W2.heap.size W2 W3 := by rw [← hW3]; exact (Below.refl _ _).alloc (Nat.le_refl _) _
  have e3 : W3.heap[w.heap.size + 2]? = some (.cells #[.int .i64 (d : Int)] 3 (0, 0)) := by
   rw [← hW3, show w.heap.size + 2 = W2.heap.size from hz2.symm]; exact heap_alloc_new _ _
  have z4 := heap_alloc_new W3 (.cells #[.nilFunc] 129)
  rw [hz3] at z4
  have n0 : (W3.alloc (.cells #[.nilFunc] 129)).cell? ⟨w.heap.size + 3, 0, none⟩ = some .nilFunc := rd_cell z4 rfl
  have n1 : (W3.alloc (.cells #[.nilFunc] 129)).frozen? ⟨w.heap.size + 3, 0, none⟩ = false := rd_free z4 0
  have hst := run_store_func Tryz.prog (W3.alloc (.cells #[.nilFunc] 129)) ⟨w.heap.size + 3, 0, none⟩ 81 #[.pointer (some ⟨w.heap.size, 0, none⟩), .pointer (some ⟨w.heap.size + 2, 0, none⟩)] .nilFunc n0 n1
  have b4 : Below W3.heap.size W3 (W3.alloc (.cells #[.func (.func 81) #[] #[.pointer (some ⟨w.heap.size, 0, none⟩), .pointer (some ⟨w.heap.size + 2, 0, none⟩)]] 129)) := (Below.refl _ _).alloc (Nat.le_refl _) _
  have e4 := heap_alloc_new W3 (.cells #[.func (.func 81) #[] #[.pointer (some ⟨w.heap.size, 0, none⟩), .pointer (some ⟨w.heap.size + 2, 0, none⟩)]] 129)
  rw [hz3] at e4
  have b24 := b3.trans (b4.mono (by omega))
  have hb4 : Below w.heap.size w (W3.alloc (.cells #[.func (.func 81) #[] #[.pointer (some ⟨w.heap.size, 0, none⟩), .pointer (some ⟨w.heap.size + 2, 0, none⟩)]] 129)) := hb2.trans (b24.mono (by omega))
  have eM := (b24.block w.heap.size (by omega)).trans e1
  have eK := (b24.block (w.heap.size + 1) (by omega)).trans e2
  have eD := (b4.block (w.heap.size + 2) (by omega)).trans e3
  have hJ : Jb (W3.alloc (.cells #[.func (.func 81) #[] #[.pointer (some ⟨w.heap.size, 0, none⟩), .pointer (some ⟨w.heap.size + 2, 0, none⟩)]] 129)) [.int .i64 m.uid, .slice fa fn fc, .int .i64 m.day, .string tb, .int .i64 m.which, .int .i64 m.many, .int .i64 m.greatest] d w.heap.size (w.heap.size + 2) := ⟨eM, eD⟩
  have k0 : (W3.alloc (.cells #[.func (.func 81) #[] #[.pointer (some ⟨w.heap.size, 0, none⟩), .pointer (some ⟨w.heap.size + 2, 0, none⟩)]] 129)).cell? ⟨w.heap.size + 1, 0, none⟩ = some (.int .i64 15) := rd_cell eK rfl
  have k5 : (W3.alloc (.cells #[.func (.func 81) #[] #[.pointer (some ⟨w.heap.size, 0, none⟩), .pointer (some ⟨w.heap.size + 2, 0, none⟩)]] 129)).cell? ⟨w.heap.size + 1, 5, none⟩ = some (.slice a KN c) := rd_cell eK rfl
  have f0 : (W3.alloc (.cells #[.func (.func 81) #[] #[.pointer (some ⟨w.heap.size, 0, none⟩), .pointer (some ⟨w.heap.size + 2, 0, none⟩)]] 129)).cell? ⟨w.heap.size + 3, 0, none⟩ = some (.func (.func 81) #[] #[.pointer (some ⟨w.heap.size, 0, none⟩), .pointer (some ⟨w.heap.size + 2, 0, none⟩)]) := rd_cell e4 rfl
  have hkg : Kg (W3.alloc (.cells #[.func (.func 81) #[] #[.pointer (some ⟨w.heap.size, 0, none⟩), .pointer (some ⟨w.heap.size + 2, 0, none⟩)]] 129)) Ok (.slice a KN c) keys := by
   refine ⟨a, c, by rw [hKN], fun j k hj => ?_⟩
   rcases ha with rfl | ⟨b, o, rfl, hO, hc⟩
   ·simp at hj
   ·exact ⟨b, o, rows j, rfl, hO, (hkk j k hj).under hb4, fun i x hx => (hb4.cell (World.block_lt_of_cell? _ _ (hc j k hj i x hx))).trans (hc j k hj i x hx)⟩
  have cAsk : ∀ k ∈ keys, ∀ xs W, Below (W3.alloc (.cells #[.func (.func 81) #[] #[.pointer (some ⟨w.heap.size, 0, none⟩), .pointer (some ⟨w.heap.size + 2, 0, none⟩)]] 129)).heap.size (W3.alloc (.cells #[.func (.func 81) #[] #[.pointer (some ⟨w.heap.size, 0, none⟩), .pointer (some ⟨w.heap.size + 2, 0, none⟩)]] 129)) W → Kx W Ok k xs → Calls Tryz.prog 81 (#[.agg xs.toArray] ++ #[.pointer (some ⟨w.heap.size, 0, none⟩), .pointer (some ⟨w.heap.size + 2, 0, none⟩)]) W fun e w' => e = .returned (.bool (Sr.holdsK m k)) ∧ Below W.heap.size W w' := fun k hk xs W hW hx =>
   asks_is m _ k xs Ok d w.heap.size (w.heap.size + 2) (Sr.holdsK m k) W hmm hx (hJ.below hW) hd fun W' hW' => cI k hk xs W' (hb4.trans ((hW.trans (hW'.mono hW.size)).mono hb4.size)) (hx.under hW')
  have HB4 : Hid (Below w.heap.size w (W3.alloc (.cells #[.func (.func 81) #[] #[.pointer (some ⟨w.heap.size, 0, none⟩), .pointer (some ⟨w.heap.size + 2, 0, none⟩)]] 129))) := hb4
  have HASK : Hid (∀ k ∈ keys, ∀ xs W, Below (W3.alloc (.cells #[.func (.func 81) #[] #[.pointer (some ⟨w.heap.size, 0, none⟩), .pointer (some ⟨w.heap.size + 2, 0, none⟩)]] 129)).heap.size (W3.alloc (.cells #[.func (.func 81) #[] #[.pointer (some ⟨w.heap.size, 0, none⟩), .pointer (some ⟨w.heap.size + 2, 0, none⟩)]] 129)) W → Kx W Ok k xs → Calls Tryz.prog 81 (#[.agg xs.toArray] ++ #[.pointer (some ⟨w.heap.size, 0, none⟩), .pointer (some ⟨w.heap.size + 2, 0, none⟩)]) W fun e w' => e = .returned (.bool (Sr.holdsK m k)) ∧ Below W.heap.size W w') := cAsk
  have HKG : Hid (Kg (W3.alloc (.cells #[.func (.func 81) #[] #[.pointer (some ⟨w.heap.size, 0, none⟩), .pointer (some ⟨w.heap.size + 2, 0, none⟩)]] 129)) Ok (.slice a KN c) keys) := hkg
  have HE4 : Hid ((W3.alloc (.cells #[.func (.func 81) #[] #[.pointer (some ⟨w.heap.size, 0, none⟩), .pointer (some ⟨w.heap.size + 2, 0, none⟩)]] 129)).heap[w.heap.size + 3]? = some (.cells #[.func (.func 81) #[] #[.pointer (some ⟨w.heap.size, 0, none⟩), .pointer (some ⟨w.heap.size + 2, 0, none⟩)]] 129 (0, 0))) := e4
  clear cI cAsk hkg e1 e2 e3 e4 z4 eM eK eD hJ hkk ha hb2 hb4 b3 b4 b24 htb hmm hSN
  have cC := any_keys 82 fails_enter #[.pointer (some ⟨w.heap.size + 3, 0, none⟩)] (fun k => !Sr.holdsK m k) (.slice a KN c) keys Ok (W3.alloc (.cells #[.func (.func 81) #[] #[.pointer (some ⟨w.heap.size, 0, none⟩), .pointer (some ⟨w.heap.size + 2, 0, none⟩)]] 129)) HKG.out hkl (fun j k xs W hj hW hx => fails_is k xs Ok (w.heap.size + 3) w.heap.size (w.heap.size + 2) (Sr.holdsK m k) W hx ((hW.block _ (Array.getElem?_eq_some_iff.1 HE4.out).1).trans HE4.out) fun W' hW' => HASK.out k (List.mem_of_getElem? hj) xs W' (hW.trans (hW'.mono hW.size)) (hx.under hW'))
  go_enter Tryz.func45, Tryz.ntmps45
  go_wp2_with fail
  refine cC.mono ?_
  rintro e w5 ⟨rfl, hb5⟩
  have HB5 : Hid (Below w.heap.size w w5) := HB4.out.trans (hb5.mono HB4.out.size)
  clear cC hb5
  go_wp2_with fail
  go_ret
  exact ⟨rfl, HB5.out⟩
end Go.Proofs.YtogigccbnohjjaaGreatDoor
