/-
  What (message).joins of package search does at Not.
  What (message).is of package search does at a key, if it does so at leaves.
  How many KEYS a reading counts. Plain mathematics.
-/
import Derived.Test.YtligkpcoajnjmaaGreatDoorRAl11
import Derived.Test.YtligkpcoajnjmaaGreatDoorRAl01
namespace Go.Proofs.YtligkpcoajnjmaaGreatDoorR
open Go.RowKit Go.Proofs.Aid Go.Proofs.Sq Go.Proofs.Hd

set_option maxHeartbeats 4000000 in
set_option maxRecDepth 100000 in
theorem joins_13 (m : Sr.Lt) (ms : List Value) (name text : Sr.Tx) (n : Int) (set : List (Nat × Nat)) (q : Sr.Ky) (rest : List Sr.Ky) (ys : List Value) (Ok : Nat → Prop) (d : Nat) (w : World) (hm : Mx m ms) (hk : Kx w Ok (.mk 13 name text n set (q :: rest)) ys) (hd : d ≤ 1000)
    (cI : ∀ k ∈ q :: rest, ∀ xs W, Below w.heap.size w W → Kx W Ok k xs → Calls Tryz.prog 45 #[.agg ms.toArray, .agg xs.toArray, .int .i64 ((d : Int) + 1)] W fun e w' => e = .returned (.bool (Sr.holdsK m k)) ∧ Below W.heap.size W w') :
    Calls Tryz.prog 106 #[.agg ms.toArray, .agg ys.toArray, .int .i64 (d : Int)] w fun e w' => e = .returned (.bool (!Sr.holdsK m q)) ∧ Below w.heap.size w w' := by
  have hmf : ∀ (fn : Fn) (first cap : Array Value) (w : World), (Instr.makeFunc fn first cap).run Tryz.prog w = .ok (.func fn first cap) w := fun _ _ _ _ => rfl
  have hmm := hm
  obtain ⟨tb, fa, fn, fc, rfl, htb⟩ := hm
  cases hk with
  | mk code n nb tx set sv ks a c rows hst hkk ha =>
    obtain ⟨sa, sc, rfl, _⟩ := hst
    obtain ⟨SN, hSN⟩ : ∃ n, set.length = n := ⟨_, rfl⟩
    obtain ⟨KN, hKN⟩ : ∃ n, (q :: rest).length = n := ⟨_, rfl⟩
    rw [hSN, hKN, show ([.int .i64 13, .string nb, .string tx, .int .i64 n, .slice sa SN sc, .slice a KN c] : List Value).toArray = #[.int .i64 13, .string nb, .string tx, .int .i64 n, .slice sa SN sc, .slice a KN c] from rfl]
    obtain ⟨W3, hW3⟩ : ∃ W, ((w.alloc (.cells #[.int .i64 m.uid, .slice fa fn fc, .int .i64 m.day, .string tb, .int .i64 m.which, .int .i64 m.many, .int .i64 m.greatest] 103)).alloc (.cells #[.int .i64 13, .string nb, .string tx, .int .i64 n, .slice sa SN sc, .slice a KN c] 33)).alloc (.cells #[.int .i64 (d : Int)] 3) = W := ⟨_, rfl⟩
    obtain ⟨W2, hW2, hz2, e1, e2, hb2⟩ := two_boxes w #[.int .i64 m.uid, .slice fa fn fc, .int .i64 m.day, .string tb, .int .i64 m.which, .int .i64 m.many, .int .i64 m.greatest] #[.int .i64 13, .string nb, .string tx, .int .i64 n, .slice sa SN sc, .slice a KN c] 103 33
    rw [hW2] at hW3
    have hz3 : W3.heap.size = w.heap.size + 3 := by rw [← hW3]; simp [hz2]
    have b3 : Below W2.heap.size W2 W3 := by rw [← hW3]; exact (Below.refl _ _).alloc (Nat.le_refl _) _
    have e3 : W3.heap[w.heap.size + 2]? = some (.cells #[.int .i64 (d : Int)] 3 (0, 0)) := by
      rw [← hW3, show w.heap.size + 2 = W2.heap.size from hz2.symm]; exact heap_alloc_new _ _
    have z4 := heap_alloc_new W3 (.cells #[.nilFunc] 219)
    rw [hz3] at z4
    have n0 : (W3.alloc (.cells #[.nilFunc] 219)).cell? ⟨w.heap.size + 3, 0, none⟩ = some .nilFunc := rd_cell z4 rfl
    have n1 : (W3.alloc (.cells #[.nilFunc] 219)).frozen? ⟨w.heap.size + 3, 0, none⟩ = false := rd_free z4 0
    have hst := run_store_func Tryz.prog (W3.alloc (.cells #[.nilFunc] 219)) ⟨w.heap.size + 3, 0, none⟩ 166 #[.pointer (some ⟨w.heap.size, 0, none⟩), .pointer (some ⟨w.heap.size + 2, 0, none⟩)] .nilFunc n0 n1
    have b4 : Below W3.heap.size W3 (W3.alloc (.cells #[.func (.func 166) #[] #[.pointer (some ⟨w.heap.size, 0, none⟩), .pointer (some ⟨w.heap.size + 2, 0, none⟩)]] 219)) := (Below.refl _ _).alloc (Nat.le_refl _) _
    have e4 := heap_alloc_new W3 (.cells #[.func (.func 166) #[] #[.pointer (some ⟨w.heap.size, 0, none⟩), .pointer (some ⟨w.heap.size + 2, 0, none⟩)]] 219)
    rw [hz3] at e4
    have b24 := b3.trans (b4.mono (by omega))
    have hb4 : Below w.heap.size w (W3.alloc (.cells #[.func (.func 166) #[] #[.pointer (some ⟨w.heap.size, 0, none⟩), .pointer (some ⟨w.heap.size + 2, 0, none⟩)]] 219)) := hb2.trans (b24.mono (by omega))
    have eM := (b24.block w.heap.size (by omega)).trans e1
    have eK := (b24.block (w.heap.size + 1) (by omega)).trans e2
    have eD := (b4.block (w.heap.size + 2) (by omega)).trans e3
    have hJ : Jb (W3.alloc (.cells #[.func (.func 166) #[] #[.pointer (some ⟨w.heap.size, 0, none⟩), .pointer (some ⟨w.heap.size + 2, 0, none⟩)]] 219)) [.int .i64 m.uid, .slice fa fn fc, .int .i64 m.day, .string tb, .int .i64 m.which, .int .i64 m.many, .int .i64 m.greatest] d w.heap.size (w.heap.size + 2) := ⟨eM, eD⟩
    have k0 : (W3.alloc (.cells #[.func (.func 166) #[] #[.pointer (some ⟨w.heap.size, 0, none⟩), .pointer (some ⟨w.heap.size + 2, 0, none⟩)]] 219)).cell? ⟨w.heap.size + 1, 0, none⟩ = some (.int .i64 13) := rd_cell eK rfl
    have k5 : (W3.alloc (.cells #[.func (.func 166) #[] #[.pointer (some ⟨w.heap.size, 0, none⟩), .pointer (some ⟨w.heap.size + 2, 0, none⟩)]] 219)).cell? ⟨w.heap.size + 1, 5, none⟩ = some (.slice a KN c) := rd_cell eK rfl
    have f0 : (W3.alloc (.cells #[.func (.func 166) #[] #[.pointer (some ⟨w.heap.size, 0, none⟩), .pointer (some ⟨w.heap.size + 2, 0, none⟩)]] 219)).cell? ⟨w.heap.size + 3, 0, none⟩ = some (.func (.func 166) #[] #[.pointer (some ⟨w.heap.size, 0, none⟩), .pointer (some ⟨w.heap.size + 2, 0, none⟩)]) := rd_cell e4 rfl
    have hkg : Kg (W3.alloc (.cells #[.func (.func 166) #[] #[.pointer (some ⟨w.heap.size, 0, none⟩), .pointer (some ⟨w.heap.size + 2, 0, none⟩)]] 219)) Ok (.slice a KN c) (q :: rest) := by
      refine ⟨a, c, by rw [hKN], fun j k hj => ?_⟩
      rcases ha with h0 | ⟨b, o, rfl, hO, hc⟩
      · cases h0
      · exact ⟨b, o, rows j, rfl, hO, (hkk j k hj).under hb4, fun i x hx => (hb4.cell (World.block_lt_of_cell? _ _ (hc j k hj i x hx))).trans (hc j k hj i x hx)⟩
    have cAsk : ∀ k ∈ q :: rest, ∀ xs W, Below (W3.alloc (.cells #[.func (.func 166) #[] #[.pointer (some ⟨w.heap.size, 0, none⟩), .pointer (some ⟨w.heap.size + 2, 0, none⟩)]] 219)).heap.size (W3.alloc (.cells #[.func (.func 166) #[] #[.pointer (some ⟨w.heap.size, 0, none⟩), .pointer (some ⟨w.heap.size + 2, 0, none⟩)]] 219)) W → Kx W Ok k xs → Calls Tryz.prog 166 (#[.agg xs.toArray] ++ #[.pointer (some ⟨w.heap.size, 0, none⟩), .pointer (some ⟨w.heap.size + 2, 0, none⟩)]) W fun e w' => e = .returned (.bool (Sr.holdsK m k)) ∧ Below W.heap.size W w' := fun k hk xs W hW hx =>
      asks_is m _ k xs Ok d w.heap.size (w.heap.size + 2) (Sr.holdsK m k) W hmm hx (hJ.below hW) hd fun W' hW' => cI k hk xs W' (hb4.trans ((hW.trans (hW'.mono hW.size)).mono hb4.size)) (hx.under hW')
    have HB4 : Hid (Below w.heap.size w (W3.alloc (.cells #[.func (.func 166) #[] #[.pointer (some ⟨w.heap.size, 0, none⟩), .pointer (some ⟨w.heap.size + 2, 0, none⟩)]] 219))) := hb4
    have HASK : Hid (∀ k ∈ q :: rest, ∀ xs W, Below (W3.alloc (.cells #[.func (.func 166) #[] #[.pointer (some ⟨w.heap.size, 0, none⟩), .pointer (some ⟨w.heap.size + 2, 0, none⟩)]] 219)).heap.size (W3.alloc (.cells #[.func (.func 166) #[] #[.pointer (some ⟨w.heap.size, 0, none⟩), .pointer (some ⟨w.heap.size + 2, 0, none⟩)]] 219)) W → Kx W Ok k xs → Calls Tryz.prog 166 (#[.agg xs.toArray] ++ #[.pointer (some ⟨w.heap.size, 0, none⟩), .pointer (some ⟨w.heap.size + 2, 0, none⟩)]) W fun e w' => e = .returned (.bool (Sr.holdsK m k)) ∧ Below W.heap.size W w') := cAsk
    have HKG : Hid (Kg (W3.alloc (.cells #[.func (.func 166) #[] #[.pointer (some ⟨w.heap.size, 0, none⟩), .pointer (some ⟨w.heap.size + 2, 0, none⟩)]] 219)) Ok (.slice a KN c) (q :: rest)) := hkg
    have HE4 : Hid ((W3.alloc (.cells #[.func (.func 166) #[] #[.pointer (some ⟨w.heap.size, 0, none⟩), .pointer (some ⟨w.heap.size + 2, 0, none⟩)]] 219)).heap[w.heap.size + 3]? = some (.cells #[.func (.func 166) #[] #[.pointer (some ⟨w.heap.size, 0, none⟩), .pointer (some ⟨w.heap.size + 2, 0, none⟩)]] 219 (0, 0))) := e4
    clear cI cAsk hkg e1 e2 e3 e4 z4 eM eK eD hJ hkk ha hb2 hb4 b3 b4 b24 htb hmm hSN
    obtain ⟨a', c', hv, hat⟩ := HKG.out
    injection hv with hv1 hv2 hv3
    subst hv1
    obtain ⟨b, o, xs, rfl, _, hkx, hcells⟩ := hat 0 q rfl
    have cC := fails_is q xs Ok (w.heap.size + 3) w.heap.size (w.heap.size + 2) (Sr.holdsK m q) (W3.alloc (.cells #[.func (.func 166) #[] #[.pointer (some ⟨w.heap.size, 0, none⟩), .pointer (some ⟨w.heap.size + 2, 0, none⟩)]] 219)) hkx HE4.out fun W' hW' => HASK.out q List.mem_cons_self xs W' hW' (hkx.under hW')
    obtain ⟨x0, x3, x1, x2, xa, xk, xc, ya, yk, yc, rfl⟩ := kx_cells hkx
    have c0 : (W3.alloc (.cells #[.func (.func 166) #[] #[.pointer (some ⟨w.heap.size, 0, none⟩), .pointer (some ⟨w.heap.size + 2, 0, none⟩)]] 219)).cell? ⟨b, o, none⟩ = some (.int .i64 x0) := hcells 0 _ rfl
    have c1 : (W3.alloc (.cells #[.func (.func 166) #[] #[.pointer (some ⟨w.heap.size, 0, none⟩), .pointer (some ⟨w.heap.size + 2, 0, none⟩)]] 219)).cell? ⟨b, o + 1, none⟩ = some (.string x1) := hcells 1 _ rfl
    have c2 : (W3.alloc (.cells #[.func (.func 166) #[] #[.pointer (some ⟨w.heap.size, 0, none⟩), .pointer (some ⟨w.heap.size + 2, 0, none⟩)]] 219)).cell? ⟨b, o + 2, none⟩ = some (.string x2) := hcells 2 _ rfl
    have c3 : (W3.alloc (.cells #[.func (.func 166) #[] #[.pointer (some ⟨w.heap.size, 0, none⟩), .pointer (some ⟨w.heap.size + 2, 0, none⟩)]] 219)).cell? ⟨b, o + 3, none⟩ = some (.int .i64 x3) := hcells 3 _ rfl
    have c4 : (W3.alloc (.cells #[.func (.func 166) #[] #[.pointer (some ⟨w.heap.size, 0, none⟩), .pointer (some ⟨w.heap.size + 2, 0, none⟩)]] 219)).cell? ⟨b, o + 4, none⟩ = some (.slice xa xk xc) := hcells 4 _ rfl
    have c5 : (W3.alloc (.cells #[.func (.func 166) #[] #[.pointer (some ⟨w.heap.size, 0, none⟩), .pointer (some ⟨w.heap.size + 2, 0, none⟩)]] 219)).cell? ⟨b, o + 5, none⟩ = some (.slice ya yk yc) := hcells 5 _ rfl
    rw [show ([.int .i64 x0, .string x1, .string x2, .int .i64 x3, .slice xa xk xc, .slice ya yk yc] : List Value).toArray = #[.int .i64 x0, .string x1, .string x2, .int .i64 x3, .slice xa xk xc, .slice ya yk yc] from rfl] at cC
    have hpos : decide ((0 : Int) < (KN : Int)) = true := decide_eq_true (by rw [← hKN]; simp)
    have hpn : 0 < KN := by rw [← hKN]; simp
    obtain ⟨B, hB⟩ : ∃ B, Sr.holdsK m q = B := ⟨_, rfl⟩
    have eg := fails_enter
    rw [hB] at cC ⊢
    clear hat hcells hkx hB hv2 hv3 HASK HKG HE4 hKN
    go_enter Tryz.func106, Tryz.ntmps106
    go_wp2_with fail
    refine cC.mono ?_
    rintro e w5 ⟨rfl, hb5⟩
    have HB5 : Hid (Below w.heap.size w w5) := HB4.out.trans (hb5.mono HB4.out.size)
    clear cC hb5
    go_wp2_with fail
    go_ret
    exact ⟨rfl, HB5.out⟩
end Go.Proofs.YtligkpcoajnjmaaGreatDoorR
namespace Go.Proofs.YtligkpcoajnjmaaGreatDoorR
open Go.RowKit Go.Proofs.Aid Go.Proofs.Sq Go.Proofs.Hd

/-- A key that lies in no more than so many others, of leaves as they are named. -/
def Fit (Ls : Int → Sr.Tx → Sr.Tx → Prop) : Nat → Sr.Ky → Prop
  | 0, _ => False
  | f + 1, .mk code name text _ set keys => set.length ≤ 1000 ∧ keys.length ≤ 1000 ∧ (Ls code name text ∨ ((code = 13 ∧ keys ≠ []) ∨ code = 14 ∨ code = 15) ∧ ∀ k ∈ keys, Fit Ls f k)
theorem Fit.step {Ls : Int → Sr.Tx → Sr.Tx → Prop} : ∀ {f : Nat} {k : Sr.Ky}, Fit Ls f k → Fit Ls (f + 1) k
  | 0, _, h => h.elim
  | _ + 1, .mk _ _ _ _ _ _, h => ⟨h.1, h.2.1, h.2.2.imp id fun h => ⟨h.1, fun k hk => (h.2 k hk).step⟩⟩
theorem Fit.le {Ls : Int → Sr.Tx → Sr.Tx → Prop} {f g : Nat} {k : Sr.Ky} (h : Fit Ls f k) (hl : f ≤ g) : Fit Ls g k := by
  induction hl with
  | refl => exact h
  | step _ ih => exact ih.step
theorem any_holds (m : Sr.Lt) : ∀ ks : List Sr.Ky, Sr.anyK m ks = ks.any (Sr.holdsK m)
  | [] => by rw [Sr.anyK]; rfl
  | k :: ks => by rw [Sr.anyK, any_holds m ks]; rfl
theorem all_holds (m : Sr.Lt) : ∀ ks : List Sr.Ky, Sr.allK m ks = !ks.any fun k => !Sr.holdsK m k
  | [] => by rw [Sr.allK]; rfl
  | k :: ks => by rw [Sr.allK, all_holds m ks, List.any_cons, Bool.not_or, Bool.not_not]
/-- What is asked of the leaves. -/
def Leafs (m : Sr.Lt) (ms : List Value) (Ls : Int → Sr.Tx → Sr.Tx → Prop) (Ok : Nat → Prop) (w0 : World) : Prop :=
  ∀ (code : Int) (name text : Sr.Tx) (n : Int) (set : List (Nat × Nat)) (keys : List Sr.Ky) (ys : List Value) (d : Nat) (W : World), Ls code name text → Below w0.heap.size w0 W → Kx W Ok (.mk code name text n set keys) ys → d ≤ 1000 → set.length ≤ 1000 →
    Calls Tryz.prog 45 #[.agg ms.toArray, .agg ys.toArray, .int .i64 (d : Int)] W fun e w' => e = .returned (.bool (Sr.holdsK m (.mk code name text n set keys))) ∧ Below W.heap.size W w'
theorem is_is (m : Sr.Lt) (ms : List Value) (Ls : Int → Sr.Tx → Sr.Tx → Prop) (Ok : Nat → Prop) (w0 : World) (hm : Mx m ms) (hL : Leafs m ms Ls Ok w0) :
    ∀ (f d : Nat) (k : Sr.Ky) (ys : List Value) (w : World), d + f ≤ 1000 → Fit Ls f k → Below w0.heap.size w0 w → Kx w Ok k ys →
    Calls Tryz.prog 45 #[.agg ms.toArray, .agg ys.toArray, .int .i64 (d : Int)] w fun e w' => e = .returned (.bool (Sr.holdsK m k)) ∧ Below w.heap.size w w'
  | 0, _, _, _, _, _, h, _, _ => h.elim
  | f + 1, d, .mk code name text n set keys, ys, w, hd, ⟨hs, hkl, h⟩, h0, hk => by
    rcases h with h | ⟨hc, hi⟩
    · exact hL code name text n set keys ys d w h h0 hk (by omega) hs
    · have cI : ∀ W0, Below w.heap.size w W0 → ∀ k ∈ keys, ∀ xs W, Below W0.heap.size W0 W → Kx W Ok k xs → Calls Tryz.prog 45 #[.agg ms.toArray, .agg xs.toArray, .int .i64 ((d : Int) + 1)] W fun e w' => e = .returned (.bool (Sr.holdsK m k)) ∧ Below W.heap.size W w' := fun W0 hW0 k hk xs W hW hx =>
        is_is m ms Ls Ok w0 hm hL f (d + 1) k xs W (by omega) (hi k hk) (h0.trans ((hW0.trans (hW.mono hW0.size)).mono h0.size)) hx
      rcases hc with ⟨rfl, hn⟩ | rfl | rfl
      · cases keys with
        | nil => exact absurd rfl hn
        | cons q rest =>
          rw [show Sr.holdsK m (.mk 13 name text n set (q :: rest)) = !Sr.holdsK m q by rw [Sr.holdsK]; simp [Sr.notFirst]]
          exact is_13 m ms name text n set (q :: rest) ys Ok d _ w hm hk (by omega) fun W hW => joins_13 m ms name text n set q rest ys Ok d W hm (hk.under hW) (by omega) (cI W hW)
      · rw [show Sr.holdsK m (.mk 14 name text n set keys) = keys.any (Sr.holdsK m) by rw [Sr.holdsK]; simp [any_holds]]
        exact is_14 m ms name text n set keys ys Ok d _ w hm hk (by omega) fun W hW => joins_14 m ms name text n set keys ys Ok d W hm (hk.under hW) (by omega) hkl (cI W hW)
      · rw [show Sr.holdsK m (.mk 15 name text n set keys) = !keys.any fun k => !Sr.holdsK m k by rw [Sr.holdsK]; simp [all_holds]]
        exact is_15 m ms name text n set keys ys Ok d _ w hm hk (by omega) fun W hW => joins_15 m ms name text n set keys ys Ok d W hm (hk.under hW) (by omega) hkl (cI W hW)
/-- The leaves that look at numbers alone. -/
def NumL (code : Int) (_ _ : Sr.Tx) : Prop := code = 1 ∨ code = 6 ∨ code = 7 ∨ code = 8 ∨ code = 9 ∨ code = 10 ∨ code = 11 ∨ code = 12
theorem num_leafs (m : Sr.Lt) (ms : List Value) (Ok : Nat → Prop) (w0 : World) (hm : Mx m ms) : Leafs m ms NumL Ok w0 := by
  intro code name text n set keys ys d W hc _ hk hd hs
  rcases hc with rfl | rfl | rfl | rfl | rfl | rfl | rfl | rfl <;> rw [show Sr.holdsK m _ = _ from by rw [Sr.holdsK]]
  · exact is_1 m ms name text n set keys ys Ok d W hm hk hd hs
  · exact is_6 m ms name text n set keys ys Ok d W hm hk hd hs
  · exact is_7 m ms name text n set keys ys Ok d W hm hk hd hs
  · exact is_8 m ms name text n set keys ys Ok d W hm hk hd hs
  · exact is_9 m ms name text n set keys ys Ok d W hm hk hd hs
  · exact is_10 m ms name text n set keys ys Ok d W hm hk hd hs
  · exact is_11 m ms name text n set keys ys Ok d W hm hk hd hs
  · exact is_12 m ms name text n set keys ys Ok d W hm hk hd hs
end Go.Proofs.YtligkpcoajnjmaaGreatDoorR
namespace Go.Proofs.Sr
open Go.Proofs.Sq

theorem rs_then {α β : Type} {R : Rs α} {k : α → List Ar → Nat → Rs β} {b : β} {l : List Ar} {c : Nat} (h : R.then k = .ok b l c) : ∃ a l1 c1, R = .ok a l1 c1 ∧ k a l1 c1 = .ok b l c := by
  cases R with
  | bad e => cases h
  | ok a l1 c1 => exact ⟨a, l1, c1, rfl, h⟩
theorem rs_map {α β : Type} {R : Rs α} {f : α → β} {b : β} {l : List Ar} {c : Nat} (h : R.map f = .ok b l c) : ∃ a, R = .ok a l c ∧ f a = b := by
  cases R with
  | bad e => cases h
  | ok a l1 c1 =>
    injection h with h1 h2 h3
    subst h2; subst h3
    exact ⟨a, rfl, h1⟩
theorem word_c {l l' : List Ar} {c c' : Nat} {t : Tx} (h : wordF l c = .ok t l' c') : c' = c := by
  cases l with
  | nil => cases h
  | cons a r =>
    rw [wordF] at h
    split at h
    · cases h
    · cases h; rfl
theorem flag_c {s : Tx} {l l' : List Ar} {c c' : Nat} {k : Ky} (h : flagF s l c = .ok k l' c') : c' = c := by
  unfold flagF at h
  split at h
  · cases h; rfl
  · cases h
theorem num_c {s : Tx} {l l' : List Ar} {c c' : Nat} {k : Nat} (h : numF s l c = .ok k l' c') : c' = c := by
  unfold numF at h
  split at h
  · cases h
  · cases h; rfl
theorem set_c {s : Tx} {l l' : List Ar} {c c' : Nat} {k : List (Nat × Nat)} (h : setF s l c = .ok k l' c') : c' = c := by
  unfold setF at h
  split at h
  · cases h
  · cases h
  · cases h; rfl
def Cnt (g : List Ar → Nat → Rs Ky) : Prop := ∀ l c k l' c', g l c = .ok k l' c' → c < c' ∧ c' ≤ 60
theorem more_c {g : List Ar → Nat → Rs Ky} (hG : Cnt g) : ∀ (n : Nat) (acc : List Ky) (l : List Ar) (c : Nat) (ks : List Ky) (l' : List Ar) (c' : Nat), c ≤ 60 → moreF g n acc l c = .ok ks l' c' → c ≤ c' ∧ c' ≤ 60
  | n, acc, [], c, ks, l', c', hc, h => by
    have h : Rs.ok acc [] c = .ok ks l' c' := by cases n <;> exact h
    cases h
    exact ⟨Nat.le_refl _, hc⟩
  | 0, acc, a :: r, c, ks, l', c', hc, h => by cases h
  | n + 1, acc, a :: r, c, ks, l', c', hc, h => by
    rw [moreF] at h
    obtain ⟨k, l1, c1, h1, h2⟩ := rs_then h
    obtain ⟨i1, i2⟩ := hG _ _ _ _ _ h1
    obtain ⟨j1, j2⟩ := more_c hG n _ _ _ _ _ _ i2 h2
    exact ⟨by omega, j2⟩
theorem keys_c {g : List Ar → Nat → Rs Ky} (hG : Cnt g) {l l' : List Ar} {c c' : Nat} {k : Ky} (h : keysF g l c = .ok k l' c') : c < c' ∧ c' ≤ 60 := by
  unfold keysF at h
  obtain ⟨ks, h, _⟩ := rs_map h
  obtain ⟨k1, l1, c1, h1, h2⟩ := rs_then h
  obtain ⟨i1, i2⟩ := hG _ _ _ _ _ h1
  obtain ⟨j1, j2⟩ := more_c hG _ _ _ _ _ _ _ i2 h2
  exact ⟨by omega, j2⟩
theorem wordK_c {g : List Ar → Nat → Rs Ky} (hG : Cnt g) {w : Tx} {l l' : List Ar} {c c' : Nat} {k : Ky} (hc : c ≤ 60) (h : wordK g w l c = .ok k l' c') : c ≤ c' ∧ c' ≤ 60 := by
  have fin : c' = c → c ≤ c' ∧ c' ≤ 60 := fun e => by omega
  rw [wordK] at h
  by_cases p0 : Hd.great w = wAll
  · rw [if_pos p0] at h; cases h; exact fin rfl
  rw [if_neg p0] at h
  by_cases p1 : wSys.contains (Hd.great w) = true
  · rw [if_pos p1] at h; exact fin (flag_c h)
  rw [if_neg p1] at h
  by_cases p2 : wUn.contains (Hd.great w) = true
  · rw [if_pos p2] at h; obtain ⟨_, h, _⟩ := rs_map h; exact fin (flag_c h)
  rw [if_neg p2] at h
  by_cases p3 : Hd.great w = wKeyword
  · rw [if_pos p3] at h; obtain ⟨_, _, _, h1, h2⟩ := rs_then h; have := word_c h1; have := flag_c h2; exact fin (by omega)
  rw [if_neg p3] at h
  by_cases p4 : Hd.great w = 85 :: 78 :: wKeyword
  · rw [if_pos p4] at h; obtain ⟨_, h, _⟩ := rs_map h; obtain ⟨_, _, _, h1, h2⟩ := rs_then h; have := word_c h1; have := flag_c h2; exact fin (by omega)
  rw [if_neg p4] at h
  by_cases p5 : wFields.contains (Hd.great w) = true
  · rw [if_pos p5] at h; obtain ⟨_, h, _⟩ := rs_map h; exact fin (word_c h)
  rw [if_neg p5] at h
  by_cases p6 : Hd.great w = wHeader
  · rw [if_pos p6] at h; obtain ⟨_, _, _, h1, h2⟩ := rs_then h; obtain ⟨_, h2, _⟩ := rs_map h2; have := word_c h1; have := word_c h2; exact fin (by omega)
  rw [if_neg p6] at h
  by_cases p7 : Hd.great w = wBody
  · rw [if_pos p7] at h; obtain ⟨_, h, _⟩ := rs_map h; exact fin (word_c h)
  rw [if_neg p7] at h
  by_cases p8 : Hd.great w = wText
  · rw [if_pos p8] at h; obtain ⟨_, h, _⟩ := rs_map h; exact fin (word_c h)
  rw [if_neg p8] at h
  by_cases p9 : wMeas.contains (Hd.great w) = true
  · rw [if_pos p9] at h; obtain ⟨_, _, _, h1, h2⟩ := rs_then h; obtain ⟨_, h2, _⟩ := rs_map h2; have := word_c h1; have := num_c h2; exact fin (by omega)
  rw [if_neg p9] at h
  by_cases p10 : Hd.great w = wUid
  · rw [if_pos p10] at h; obtain ⟨_, _, _, h1, h2⟩ := rs_then h; obtain ⟨_, h2, _⟩ := rs_map h2; have := word_c h1; have := set_c h2; exact fin (by omega)
  rw [if_neg p10] at h
  by_cases p11 : Hd.great w = wNot
  · rw [if_pos p11] at h; obtain ⟨_, h, _⟩ := rs_map h; have := hG _ _ _ _ _ h; omega
  rw [if_neg p11] at h
  by_cases p12 : Hd.great w = wOr
  · rw [if_pos p12] at h; obtain ⟨_, _, _, h1, h2⟩ := rs_then h; obtain ⟨_, h2, _⟩ := rs_map h2; have := hG _ _ _ _ _ h1; have := hG _ _ _ _ _ h2; omega
  rw [if_neg p12] at h
  obtain ⟨_, h, _⟩ := rs_map h
  exact fin (set_c h)
theorem keyF_c : ∀ (f : Nat), Cnt (keyF f)
  | 0, l, c, k, l', c', h => by cases h
  | f + 1, l, c, k, l', c', h => by
    have h : (if 60 < c + 1 then Rs.bad 4 else match l with | [] => Rs.bad 3 | a :: r => if a.kind = 3 then (keysF (keyF f) a.list (c + 1)).then fun k _ c => .ok k r c else wordK (keyF f) a.text r (c + 1)) = .ok k l' c' := h
    split at h
    · cases h
    · next h60 =>
      cases l with
      | nil => cases h
      | cons a r =>
        simp only at h
        split at h
        · obtain ⟨k1, l1, c1, h1, h2⟩ := rs_then h
          obtain ⟨i1, i2⟩ := keys_c (keyF_c f) h1
          cases h2
          exact ⟨by omega, i2⟩
        · obtain ⟨i1, i2⟩ := wordK_c (keyF_c f) (by omega) h
          exact ⟨by omega, i2⟩
theorem keyF_def (f : Nat) (l : List Ar) (c : Nat) : keyF (f + 1) l c = if 60 < c + 1 then Rs.bad 4 else match l with | [] => Rs.bad 3 | a :: r => if a.kind = 3 then (keysF (keyF f) a.list (c + 1)).then fun k _ c => .ok k r c else wordK (keyF f) a.text r (c + 1) := rfl
theorem keyF_lim {f : Nat} {l : List Ar} {c : Nat} (h : 60 < c + 1) : keyF (f + 1) l c = .bad 4 := by rw [keyF_def, if_pos h]
theorem keyF_nil {f c : Nat} (h : ¬ 60 < c + 1) : keyF (f + 1) [] c = .bad 3 := by rw [keyF_def, if_neg h]
theorem keyF_list {f c : Nat} {a : Ar} {r : List Ar} (h : ¬ 60 < c + 1) (h3 : a.kind = 3) : keyF (f + 1) (a :: r) c = (keysF (keyF f) a.list (c + 1)).then fun k _ c => .ok k r c := by rw [keyF_def, if_neg h]; exact if_pos h3
theorem keyF_word {f c : Nat} {a : Ar} {r : List Ar} (h : ¬ 60 < c + 1) (h3 : ¬ a.kind = 3) : keyF (f + 1) (a :: r) c = wordK (keyF f) a.text r (c + 1) := by rw [keyF_def, if_neg h]; exact if_neg h3
end Go.Proofs.Sr
