/-
  What search.has does.
  What slices.ContainsFunc does of keys, by what the function that it is handed does.
  What the closures within (message).joins of package search do.
-/
import Derived.Test.YtligkpcoajnjmaaGreatDoorRAl07
import Derived.Test.YtligkpcoajnjmaaGreatDoorRAl03
import Derived.Test.YtligkpcoajnjmaaGreatDoorRAl09
namespace Go.Proofs.YtligkpcoajnjmaaGreatDoorR
open Go.RowKit Go.Proofs.Aid Go.Proofs.Sq Go.Proofs.Hd

set_option maxHeartbeats 2000000 in
theorem has_is (t p : ByteArray) (m : Int) (w : World) (ht : t.size ≤ 2000000) (hp : p.size ≤ 2000000) (hm : w.cell? ⟨1, 0, none⟩ = some (.int .i64 m)) :
    Calls Tryz.prog 105 #[.string t, .string p] w fun e w' => e = .returned (.bool (Sr.hasT t.data.toList p.data.toList)) ∧ Below w.heap.size w w' := by
  have K0 : Hid (∀ W, Below w.heap.size w W → W.cell? ⟨1, 0, none⟩ = some (.int .i64 m)) := fun W h => (h.cell (World.block_lt_of_cell? _ _ hm)).trans hm
  have c1 := small_is t w ht
  obtain ⟨st, hst⟩ : ∃ x : ByteArray, ⟨(small t.data.toList).toArray⟩ = x := ⟨_, rfl⟩
  obtain ⟨sp, hsp⟩ : ∃ x : ByteArray, ⟨(small p.data.toList).toArray⟩ = x := ⟨_, rfl⟩
  have hsz : st.size = t.size := by rw [← list_size, ← hst]; show (small t.data.toList).length = _; rw [small_length, list_size]
  have c2 := fun W => small_is p W hp
  rw [hst] at c1
  rw [hsp] at c2
  obtain ⟨R, hR⟩ : ∃ b, Sr.hasT t.data.toList p.data.toList = b := ⟨_, rfl⟩
  have HR : Hid (Lib.contains st.data.toList sp.data.toList = R) := by show _ = _; rw [← hR, Sr.hasT, ← hst, ← hsp]
  rw [hR]
  have hz2 : st.size < 4294967281 := by omega
  clear hst hsp hR hm hsz
  go_enter Tryz.func105, Tryz.ntmps105
  go_wp2_with fail
  refine c1.mono ?_
  rintro e w1 ⟨rfl, hb1⟩
  go_wp2_with fail
  refine (c2 w1).mono ?_
  rintro e w2 ⟨rfl, hb2⟩
  have hb02 := hb1.trans (hb2.mono hb1.size)
  have c3 := Tryz.strings_Contains st sp m w2 hz2 (K0.out w2 hb02)
  rw [HR.out] at c3
  clear c1 c2
  go_wp2_with fail
  refine c3.mono ?_
  rintro e w3 ⟨rfl, rfl⟩
  go_wp2_with fail
  go_ret
  exact ⟨rfl, hb02⟩
end Go.Proofs.YtligkpcoajnjmaaGreatDoorR
namespace Go.Proofs.YtligkpcoajnjmaaGreatDoorR
open Go.RowKit Go.Proofs.Aid Go.Proofs.Sq Go.Proofs.Hd

/-- A slice of keys. -/
def Kg (w : World) (Ok : Nat → Prop) (v : Value) (ks : List Sr.Ky) : Prop :=
  ∃ a c, v = .slice a ks.length c ∧ ∀ (j : Nat) k, ks[j]? = some k → ∃ b o xs, a = some ⟨b, o, none⟩ ∧ Ok b ∧ Kx w Ok k xs ∧ ∀ i x, xs[i]? = some x → w.cell? ⟨b, o + j * 6 + i, none⟩ = some x
theorem Kg.below {w w' : World} {Ok : Nat → Prop} {v : Value} {ks : List Sr.Ky} (h : Kg w Ok v ks) (hb : Below w.heap.size w w') : Kg w' Ok v ks := by
  obtain ⟨a, c, h1, h2⟩ := h
  refine ⟨a, c, h1, fun j k hj => ?_⟩
  obtain ⟨b, o, xs, g1, g2, g3, g4⟩ := h2 j k hj
  exact ⟨b, o, xs, g1, g2, g3.under hb, fun i x hx => (hb.cell (World.block_lt_of_cell? _ _ (g4 i x hx))).trans (g4 i x hx)⟩
set_option maxHeartbeats 2000000 in
set_option maxRecDepth 100000 in
theorem index_keys (F : Nat) (eg : ∀ args w, (callFunc F args).run Tryz.prog w = .ok (.enter F args) w) (caps : Array Value) (P : Sr.Ky → Bool) (v : Value) (ks : List Sr.Ky) (Ok : Nat → Prop) (w : World) (h : Kg w Ok v ks) (hl : ks.length ≤ 1000)
    (hF : ∀ (j : Nat) k xs W, ks[j]? = some k → Below w.heap.size w W → Kx W Ok k xs → Calls Tryz.prog F (#[.agg xs.toArray] ++ caps) W fun e w' => e = .returned (.bool (P k)) ∧ Below W.heap.size W w') :
    Calls Tryz.prog 207 #[v, .func (.func F) #[] caps] w fun e w' => ∃ z : Int, e = .returned (.int .i64 z) ∧ decide (0 ≤ z) = ks.any P ∧ Below w.heap.size w w' := by
  have HF : Hid (∀ (j : Nat) k xs W, ks[j]? = some k → Below w.heap.size w W → Kx W Ok k xs → Calls Tryz.prog F (#[.agg xs.toArray] ++ caps) W fun e w' => e = .returned (.bool (P k)) ∧ Below W.heap.size W w') := hF
  have HK : Hid (∀ W, Below w.heap.size w W → Kg W Ok v ks) := fun W hW => h.below hW
  obtain ⟨a, c, rfl, _⟩ := h
  obtain ⟨N, hN⟩ : ∃ N, ks.length = N := ⟨_, rfl⟩
  have HN : Hid (ks.length = N) := hN
  rw [hN] at hl HK ⊢
  clear hF hN
  go_enter Tryz.func207, Tryz.ntmps207
  go_wp2_with fail
  go_loopw [8] (fun i wr => ∃ k : Nat, i = .int .i64 (k : Int) ∧ k ≤ N ∧ Hid (∀ j q, j < k → ks[j]? = some q → P q = false) ∧ Below w.heap.size w wr) (fun i _ => N - (intOf i).toNat)
  case atStart => exact ⟨0, rfl, by omega, fun j q h => absurd h (by omega), Below.refl _ _⟩
  case round =>
    obtain ⟨k, rfl, hk, HA, hbW⟩ := hrel
    by_cases hlt : k < N
    · have hkp : k < ks.length := by rw [HN.out]; exact hlt
      obtain ⟨q, hq⟩ : ∃ q, ks[k] = q := ⟨_, rfl⟩
      have hpk : ks[k]? = some q := by rw [List.getElem?_eq_getElem hkp, hq]
      obtain ⟨a', c', hv, hat⟩ := HK.out wr hbW
      injection hv with hv1 hv2 hv3
      subst hv1
      obtain ⟨b, o, xs, rfl, _, hkx, hcells⟩ := hat k q hpk
      have cF := HF.out k q xs wr hpk hbW hkx
      obtain ⟨x0, x3, x1, x2, xa, xk, xc, ya, yk, yc, rfl⟩ := kx_cells hkx
      have c0 := hcells 0 _ rfl
      have c1 := hcells 1 _ rfl
      have c2 := hcells 2 _ rfl
      have c3 := hcells 3 _ rfl
      have c4 := hcells 4 _ rfl
      have c5 := hcells 5 _ rfl
      rw [Nat.add_zero] at c0
      rw [show ([.int .i64 x0, .string x1, .string x2, .int .i64 x3, .slice xa xk xc, .slice ya yk yc] : List Value).toArray = #[.int .i64 x0, .string x1, .string x2, .int .i64 x3, .slice xa xk xc, .slice ya yk yc] from rfl] at cF
      have HPK : Hid (ks[k]? = some q) := hpk
      obtain ⟨B, hB⟩ : ∃ B, P q = B := ⟨_, rfl⟩
      have HB : Hid (P q = B) := hB
      rw [hB] at cF
      clear hat hcells hkx hpk hq hB hv2 hv3
      go_wp2_with fail
      refine cF.mono ?_
      clear cF
      rintro e w1 ⟨rfl, hb1⟩
      have hb01 := hbW.trans (hb1.mono hbW.size)
      cases B
      · go_wp2_with fail
        go_roundw
        case rel =>
          refine ⟨k + 1, by go_num, by omega, fun j q' hj hj' => ?_, hb01⟩
          by_cases hjk : j < k
          · exact HA.out j q' hjk hj'
          · obtain rfl : j = k := by omega
            obtain rfl : q = q' := Option.some.inj (HPK.out.symm.trans hj')
            exact HB.out
        case measure => simp [intOf]; omega
      · go_wp2_with fail
        go_ret
        refine ⟨(k : Int), rfl, ?_, hb01⟩
        rw [decide_eq_true (by omega)]
        exact (List.any_eq_true.2 ⟨q, List.mem_of_getElem? HPK.out, HB.out⟩).symm
    · obtain rfl : k = N := by omega
      go_wp2_with fail
      go_ret
      refine ⟨-1, rfl, ?_, hbW⟩
      rw [decide_eq_false (by omega)]
      refine (List.any_eq_false.2 fun x hx => ?_).symm
      obtain ⟨j, hj, hjx⟩ := List.getElem_of_mem hx
      have := HA.out j x (by rw [HN.out] at hj; exact hj) (by rw [List.getElem?_eq_getElem hj, hjx])
      simp [this]
set_option maxHeartbeats 2000000 in
theorem any_keys (F : Nat) (eg : ∀ args w, (callFunc F args).run Tryz.prog w = .ok (.enter F args) w) (caps : Array Value) (P : Sr.Ky → Bool) (v : Value) (ks : List Sr.Ky) (Ok : Nat → Prop) (w : World) (h : Kg w Ok v ks) (hl : ks.length ≤ 1000)
    (hF : ∀ (j : Nat) k xs W, ks[j]? = some k → Below w.heap.size w W → Kx W Ok k xs → Calls Tryz.prog F (#[.agg xs.toArray] ++ caps) W fun e w' => e = .returned (.bool (P k)) ∧ Below W.heap.size W w') :
    Calls Tryz.prog 168 #[v, .func (.func F) #[] caps] w fun e w' => e = .returned (.bool (ks.any P)) ∧ Below w.heap.size w w' := by
  have c := index_keys F eg caps P v ks Ok w h hl hF
  go_enter Tryz.func168, Tryz.ntmps168
  go_wp2_with fail
  refine c.mono ?_
  rintro e w1 ⟨z, rfl, hz, hb⟩
  go_wp2_with fail
  go_ret
  exact ⟨by rw [← hz]; rfl, hb⟩
end Go.Proofs.YtligkpcoajnjmaaGreatDoorR
namespace Go.Proofs.YtligkpcoajnjmaaGreatDoorR
open Go.RowKit Go.Proofs.Aid Go.Proofs.Sq Go.Proofs.Hd

/-- What lies in joins' boxes: the message, how deep, and the function that asks. -/
def Jb (w : World) (ms : List Value) (d mb db : Nat) : Prop := w.heap[mb]? = some (.cells ms.toArray 103 (0, 0)) ∧ w.heap[db]? = some (.cells #[.int .i64 (d : Int)] 3 (0, 0))
theorem Jb.below {w w' : World} {ms : List Value} {d mb db : Nat} (h : Jb w ms d mb db) (hb : Below w.heap.size w w') : Jb w' ms d mb db :=
  ⟨(hb.block mb (Array.getElem?_eq_some_iff.1 h.1).1).trans h.1, (hb.block db (Array.getElem?_eq_some_iff.1 h.2).1).trans h.2⟩
set_option maxHeartbeats 2000000 in
set_option maxRecDepth 100000 in
theorem asks_is (m : Sr.Lt) (ms : List Value) (k : Sr.Ky) (xs : List Value) (Ok : Nat → Prop) (d mb db : Nat) (A : Bool) (w : World) (hm : Mx m ms) (hk : Kx w Ok k xs) (hj : Jb w ms d mb db) (hd : d ≤ 1000)
    (cI : ∀ W, Below w.heap.size w W → Calls Tryz.prog 45 #[.agg ms.toArray, .agg xs.toArray, .int .i64 ((d : Int) + 1)] W fun e w' => e = .returned (.bool A) ∧ Below W.heap.size W w') :
    Calls Tryz.prog 166 (#[.agg xs.toArray] ++ #[.pointer (some ⟨mb, 0, none⟩), .pointer (some ⟨db, 0, none⟩)]) w fun e w' => e = .returned (.bool A) ∧ Below w.heap.size w w' := by
  obtain ⟨tb, fa, fn, fc, rfl, htb⟩ := hm
  obtain ⟨x0, x3, x1, x2, xa, xk, xc, ya, yk, yc, rfl⟩ := kx_cells hk
  rw [show ([.int .i64 x0, .string x1, .string x2, .int .i64 x3, .slice xa xk xc, .slice ya yk yc] : List Value).toArray = #[.int .i64 x0, .string x1, .string x2, .int .i64 x3, .slice xa xk xc, .slice ya yk yc] from rfl] at cI ⊢
  rw [show ([.int .i64 m.uid, .slice fa fn fc, .int .i64 m.day, .string tb, .int .i64 m.which, .int .i64 m.many, .int .i64 m.greatest] : List Value).toArray = #[.int .i64 m.uid, .slice fa fn fc, .int .i64 m.day, .string tb, .int .i64 m.which, .int .i64 m.many, .int .i64 m.greatest] from rfl] at cI
  have hb1 : Below w.heap.size w (w.alloc (.cells #[.int .i64 x0, .string x1, .string x2, .int .i64 x3, .slice xa xk xc, .slice ya yk yc] 33)) := (Below.refl _ _).alloc (Nat.le_refl _) _
  have e1 := heap_alloc_new w (.cells #[.int .i64 x0, .string x1, .string x2, .int .i64 x3, .slice xa xk xc, .slice ya yk yc] 33)
  obtain ⟨W1, hW1⟩ : ∃ W, w.alloc (.cells #[.int .i64 x0, .string x1, .string x2, .int .i64 x3, .slice xa xk xc, .slice ya yk yc] 33) = W := ⟨_, rfl⟩
  rw [hW1] at hb1 e1
  have hj1 := hj.below hb1
  have em : W1.heap[mb]? = some (.cells #[.int .i64 m.uid, .slice fa fn fc, .int .i64 m.day, .string tb, .int .i64 m.which, .int .i64 m.many, .int .i64 m.greatest] 103 (0, 0)) := hj1.1
  have r0 : W1.cell? ⟨mb, 0, none⟩ = some (.int .i64 m.uid) := rd_cell em rfl
  have r1 : W1.cell? ⟨mb, 1, none⟩ = some (.slice fa fn fc) := rd_cell em rfl
  have r2 : W1.cell? ⟨mb, 2, none⟩ = some (.int .i64 m.day) := rd_cell em rfl
  have r3 : W1.cell? ⟨mb, 3, none⟩ = some (.string tb) := rd_cell em rfl
  have r4 : W1.cell? ⟨mb, 4, none⟩ = some (.int .i64 m.which) := rd_cell em rfl
  have r5 : W1.cell? ⟨mb, 5, none⟩ = some (.int .i64 m.many) := rd_cell em rfl
  have r6 : W1.cell? ⟨mb, 6, none⟩ = some (.int .i64 m.greatest) := rd_cell em rfl
  have k0 : W1.cell? ⟨w.heap.size, 0, none⟩ = some (.int .i64 x0) := rd_cell e1 rfl
  have k1 : W1.cell? ⟨w.heap.size, 1, none⟩ = some (.string x1) := rd_cell e1 rfl
  have k2 : W1.cell? ⟨w.heap.size, 2, none⟩ = some (.string x2) := rd_cell e1 rfl
  have k3 : W1.cell? ⟨w.heap.size, 3, none⟩ = some (.int .i64 x3) := rd_cell e1 rfl
  have k4 : W1.cell? ⟨w.heap.size, 4, none⟩ = some (.slice xa xk xc) := rd_cell e1 rfl
  have k5 : W1.cell? ⟨w.heap.size, 5, none⟩ = some (.slice ya yk yc) := rd_cell e1 rfl
  have dd : W1.cell? ⟨db, 0, none⟩ = some (.int .i64 (d : Int)) := rd_cell hj1.2 rfl
  have c := cI W1 hb1
  have HB1 : Hid (Below w.heap.size w W1) := hb1
  clear cI hb1 e1 em hj hj1 hk htb
  show Calls Tryz.prog 166 #[.agg #[.int .i64 x0, .string x1, .string x2, .int .i64 x3, .slice xa xk xc, .slice ya yk yc], .pointer (some ⟨mb, 0, none⟩), .pointer (some ⟨db, 0, none⟩)] w _
  go_enter Tryz.func166, Tryz.ntmps166
  go_wp2_with fail
  refine c.mono ?_
  rintro e w3 ⟨rfl, hb3⟩
  have HB3 : Hid (Below w.heap.size w w3) := HB1.out.trans (hb3.mono HB1.out.size)
  clear hb3 c
  go_wp2_with fail
  go_ret
  exact ⟨rfl, HB3.out⟩
theorem asks_enter : ∀ args w, (callFunc 166 args).run Tryz.prog w = .ok (.enter 166 args) w := enters_of Tryz.func166 (by kernel_rfl) rfl
theorem fails_enter : ∀ args w, (callFunc 167 args).run Tryz.prog w = .ok (.enter 167 args) w := enters_of Tryz.func167 (by kernel_rfl) rfl
set_option maxHeartbeats 2000000 in
set_option maxRecDepth 100000 in
theorem fails_is (k : Sr.Ky) (xs : List Value) (Ok : Nat → Prop) (hb mb db : Nat) (A : Bool) (w : World) (hk : Kx w Ok k xs) (hf : w.heap[hb]? = some (.cells #[.func (.func 166) #[] #[.pointer (some ⟨mb, 0, none⟩), .pointer (some ⟨db, 0, none⟩)]] 219 (0, 0)))
    (cI : ∀ W, Below w.heap.size w W → Calls Tryz.prog 166 (#[.agg xs.toArray] ++ #[.pointer (some ⟨mb, 0, none⟩), .pointer (some ⟨db, 0, none⟩)]) W fun e w' => e = .returned (.bool A) ∧ Below W.heap.size W w') :
    Calls Tryz.prog 167 (#[.agg xs.toArray] ++ #[.pointer (some ⟨hb, 0, none⟩)]) w fun e w' => e = .returned (.bool (!A)) ∧ Below w.heap.size w w' := by
  obtain ⟨x0, x3, x1, x2, xa, xk, xc, ya, yk, yc, rfl⟩ := kx_cells hk
  rw [show ([.int .i64 x0, .string x1, .string x2, .int .i64 x3, .slice xa xk xc, .slice ya yk yc] : List Value).toArray = #[.int .i64 x0, .string x1, .string x2, .int .i64 x3, .slice xa xk xc, .slice ya yk yc] from rfl] at cI ⊢
  have hb1 : Below w.heap.size w (w.alloc (.cells #[.int .i64 x0, .string x1, .string x2, .int .i64 x3, .slice xa xk xc, .slice ya yk yc] 33)) := (Below.refl _ _).alloc (Nat.le_refl _) _
  have e1 := heap_alloc_new w (.cells #[.int .i64 x0, .string x1, .string x2, .int .i64 x3, .slice xa xk xc, .slice ya yk yc] 33)
  obtain ⟨W1, hW1⟩ : ∃ W, w.alloc (.cells #[.int .i64 x0, .string x1, .string x2, .int .i64 x3, .slice xa xk xc, .slice ya yk yc] 33) = W := ⟨_, rfl⟩
  rw [hW1] at hb1 e1
  have ef := (hb1.block hb (Array.getElem?_eq_some_iff.1 hf).1).trans hf
  have r0 : W1.cell? ⟨hb, 0, none⟩ = some (.func (.func 166) #[] #[.pointer (some ⟨mb, 0, none⟩), .pointer (some ⟨db, 0, none⟩)]) := rd_cell ef rfl
  have k0 : W1.cell? ⟨w.heap.size, 0, none⟩ = some (.int .i64 x0) := rd_cell e1 rfl
  have k1 : W1.cell? ⟨w.heap.size, 1, none⟩ = some (.string x1) := rd_cell e1 rfl
  have k2 : W1.cell? ⟨w.heap.size, 2, none⟩ = some (.string x2) := rd_cell e1 rfl
  have k3 : W1.cell? ⟨w.heap.size, 3, none⟩ = some (.int .i64 x3) := rd_cell e1 rfl
  have k4 : W1.cell? ⟨w.heap.size, 4, none⟩ = some (.slice xa xk xc) := rd_cell e1 rfl
  have k5 : W1.cell? ⟨w.heap.size, 5, none⟩ = some (.slice ya yk yc) := rd_cell e1 rfl
  have c : Calls Tryz.prog 166 #[.agg #[.int .i64 x0, .string x1, .string x2, .int .i64 x3, .slice xa xk xc, .slice ya yk yc], .pointer (some ⟨mb, 0, none⟩), .pointer (some ⟨db, 0, none⟩)] W1 fun e w' => e = .returned (.bool A) ∧ Below W1.heap.size W1 w' := cI W1 hb1
  have eg := asks_enter
  have HB1 : Hid (Below w.heap.size w W1) := hb1
  clear cI hb1 e1 ef hf hk
  show Calls Tryz.prog 167 #[.agg #[.int .i64 x0, .string x1, .string x2, .int .i64 x3, .slice xa xk xc, .slice ya yk yc], .pointer (some ⟨hb, 0, none⟩)] w _
  go_enter Tryz.func167, Tryz.ntmps167
  go_wp2_with fail
  refine c.mono ?_
  rintro e w3 ⟨rfl, hb3⟩
  have HB3 : Hid (Below w.heap.size w w3) := HB1.out.trans (hb3.mono HB1.out.size)
  clear hb3 c
  go_wp2_with fail
  go_ret
  exact ⟨rfl, HB3.out⟩
end Go.Proofs.YtligkpcoajnjmaaGreatDoorR
