/-
  What (message), and more.
-/
import Derived.Test.YtogigccbnohjjaaGreatDoorBpSearchIsJ
namespace Go.Proofs.YtogigccbnohjjaaGreatDoor
open Go.RowKit Go.Proofs.Aid Go.Proofs.Sq Go.Proofs.Hd
def Fit (Ls : Int → Sr.Tx → Sr.Tx → Prop) : Nat → Sr.Ky → Prop
 | 0, _ => False
 | f + 1, .mk code name text _ set keys => set.length ≤ 1000 ∧ keys.length ≤ 1000 ∧ (Ls code name text ∨ ((code = 13 ∧ keys ≠ []) ∨ code = 14 ∨ code = 15) ∧ ∀ k ∈ keys, Fit Ls f k)
theorem Fit.step {Ls : Int → Sr.Tx → Sr.Tx → Prop} : ∀ {f : Nat} {k : Sr.Ky}, Fit Ls f k → Fit Ls (f + 1) k
 | 0, _, h => h.elim
 | _ + 1, .mk _ _ _ _ _ _, h => ⟨h.1, h.2.1, h.2.2.imp id fun h => ⟨h.1, fun k hk => (h.2 k hk).step⟩⟩
theorem Fit.le {Ls : Int → Sr.Tx → Sr.Tx → Prop} {f g : Nat} {k : Sr.Ky} (h : Fit Ls f k) (hl : f ≤ g) : Fit Ls g k := by
 induction hl with
 | refl => exact h
 | step _ ih => exact ih.step
theorem any_holds (m : Sr.Lt) : ∀ ks : List Sr.Ky, Sr.anyK m ks = ks.any (Sr.holdsK m)
 | [] => by rw [Sr.anyK]; rfl
 | k :: ks => by rw [Sr.anyK, any_holds m ks]; rfl
theorem all_holds (m : Sr.Lt) : ∀ ks : List Sr.Ky, Sr.allK m ks = !ks.any fun k => !Sr.holdsK m k
 | [] => by rw [Sr.allK]; rfl
 | k :: ks => by rw [Sr.allK, all_holds m ks, List.any_cons, Bool.not_or, Bool.not_not]
def Leafs (m : Sr.Lt) (ms : List Value) (Ls : Int → Sr.Tx → Sr.Tx → Prop) (Ok : Nat → Prop) (w0 : World) : Prop :=
 ∀ (code : Int) (name text : Sr.Tx) (n : Int) (set : List (Nat × Nat)) (keys : List Sr.Ky) (ys : List Value) (d : Nat) (W : World), Ls code name text → Below w0.heap.size w0 W → Kx W Ok (.mk code name text n set keys) ys → d ≤ 1000 → set.length ≤ 1000 →
  Calls Tryz.prog 22 #[.agg ms.toArray, .agg ys.toArray, .int .i64 (d : Int)] W fun e w' => e = .returned (.bool (Sr.holdsK m (.mk code name text n set keys))) ∧ Below W.heap.size W w'
theorem is_is (m : Sr.Lt) (ms : List Value) (Ls : Int → Sr.Tx → Sr.Tx → Prop) (Ok : Nat → Prop) (w0 : World) (hm : Mx m ms) (hL : Leafs m ms Ls Ok w0) :
  ∀ (f d : Nat) (k : Sr.Ky) (ys : List Value) (w : World), d + f ≤ 1000 → Fit Ls f k → Below w0.heap.size w0 w → Kx w Ok k ys →
  Calls Tryz.prog 22 #[.agg ms.toArray, .agg ys.toArray, .int .i64 (d : Int)] w fun e w' => e = .returned (.bool (Sr.holdsK m k)) ∧ Below w.heap.size w w'
 | 0, _, _, _, _, _, h, _, _ => h.elim
 | f + 1, d, .mk code name text n set keys, ys, w, hd, ⟨hs, hkl, h⟩, h0, hk => by
  rcases h with h | ⟨hc, hi⟩
  ·exact hL code name text n set keys ys d w h h0 hk (by omega) hs
  ·have cI : ∀ W0, Below w.heap.size w W0 → ∀ k ∈ keys, ∀ xs W, Below W0.heap.size W0 W → Kx W Ok k xs → Calls Tryz.prog 22 #[.agg ms.toArray, .agg xs.toArray, .int .i64 ((d : Int) + 1)] W fun e w' => e = .returned (.bool (Sr.holdsK m k)) ∧ Below W.heap.size W w' := fun W0 hW0 k hk xs W hW hx =>
    is_is m ms Ls Ok w0 hm hL f (d + 1) k xs W (by omega) (hi k hk) (h0.trans ((hW0.trans (hW.mono hW0.size)).mono h0.size)) hx
   rcases hc with ⟨rfl, hn⟩ | rfl | rfl
   ·cases keys with
    | nil => exact absurd rfl hn
    | cons q rest =>
     rw [show Sr.holdsK m (.mk 13 name text n set (q :: rest)) = !Sr.holdsK m q by rw [Sr.holdsK]; simp [Sr.notFirst]]
     exact is_13 m ms name text n set (q :: rest) ys Ok d _ w hm hk (by omega) fun W hW => joins_13 m ms name text n set q rest ys Ok d W hm (hk.under hW) (by omega) (cI W hW)
   ·rw [show Sr.holdsK m (.mk 14 name text n set keys) = keys.any (Sr.holdsK m) by rw [Sr.holdsK]; simp [any_holds]]
    exact is_14 m ms name text n set keys ys Ok d _ w hm hk (by omega) fun W hW => joins_14 m ms name text n set keys ys Ok d W hm (hk.under hW) (by omega) hkl (cI W hW)
   ·rw [show Sr.holdsK m (.mk 15 name text n set keys) = !keys.any fun k => !Sr.holdsK m k by rw [Sr.holdsK]; simp [all_holds]]
    exact is_15 m ms name text n set keys ys Ok d _ w hm hk (by omega) fun W hW => joins_15 m ms name text n set keys ys Ok d W hm (hk.under hW) (by omega) hkl (cI W hW)
def NumL (code : Int) (_ _ : Sr.Tx) : Prop := code = 1 ∨ code = 6 ∨ code = 7 ∨ code = 8 ∨ code = 9 ∨ code = 10 ∨ code = 11 ∨ code = 12
theorem num_leafs (m : Sr.Lt) (ms : List Value) (Ok : Nat → Prop) (w0 : World) (hm : Mx m ms) : Leafs m ms NumL Ok w0 := by
 intro code name text n set keys ys d W hc _ hk hd hs
 rcases hc with rfl | rfl | rfl | rfl | rfl | rfl | rfl | rfl <;> rw [show Sr.holdsK m _ = _ from by rw [Sr.holdsK]]
 ·exact is_1 m ms name text n set keys ys Ok d W hm hk hd hs
 ·exact is_6 m ms name text n set keys ys Ok d W hm hk hd hs
 ·exact is_7 m ms name text n set keys ys Ok d W hm hk hd hs
 ·exact is_8 m ms name text n set keys ys Ok d W hm hk hd hs
 ·exact is_9 m ms name text n set keys ys Ok d W hm hk hd hs
 ·exact is_10 m ms name text n set keys ys Ok d W hm hk hd hs
 ·exact is_11 m ms name text n set keys ys Ok d W hm hk hd hs
 ·exact is_12 m ms name text n set keys ys Ok d W hm hk hd hs
end Go.Proofs.YtogigccbnohjjaaGreatDoor
namespace Go.Proofs.YtogigccbnohjjaaGreatDoor
open Go.RowKit Go.Proofs.Aid Go.Proofs.Sq Go.Proofs.Hd
set_option maxHeartbeats 2000000
set_option maxRecDepth 100000
def Trow (w : World) (fa : Option Addr) (fn : Nat) (l : List Sr.Tx) : Prop := fn = l.length ∧ (l = [] ∨ ∃ b o, fa = some ⟨b, o, none⟩ ∧ ∀ (j : Nat) t, l[j]? = some t → w.cell? ⟨b, o + j, none⟩ = some (.string ⟨t.toArray⟩))
theorem Trow.below {w w' : World} {fa : Option Addr} {fn : Nat} {l : List Sr.Tx} (h : Trow w fa fn l) (hb : Below w.heap.size w w') : Trow w' fa fn l := by
 obtain ⟨h1, h2⟩ := h
 refine ⟨h1, h2.imp id ?_⟩
 rintro ⟨b, o, h3, h4⟩
 exact ⟨b, o, h3, fun j t hj => (hb.cell (World.block_lt_of_cell? _ _ (h4 j t hj))).trans (h4 j t hj)⟩
theorem trow_has (l : List Sr.Tx) (x : ByteArray) : Lib.containsS (l.map fun t => (⟨t.toArray⟩ : ByteArray)) x = l.contains x.data.toList := by
 rw [Bool.eq_iff_iff, Lib.containsS_iff, List.contains_iff_mem, List.mem_map]
 constructor
 ·rintro ⟨t, ht, h⟩
  have : t = x.data.toList := by simpa using congrArg (fun s : ByteArray => s.data.toList) h
  rw [← this]; exact ht
 ·intro h; exact ⟨_, h, rfl⟩
theorem has_trow (fa : Option Addr) (fn fc : Nat) (l : List Sr.Tx) (x : ByteArray) (w : World) (h : Trow w fa fn l) (hl : l.length ≤ 1000) :
  Calls Tryz.prog 40 #[.slice fa fn fc, .string x] w fun e w' => e = .returned (.bool (l.contains x.data.toList)) ∧ w' = w := by
 obtain ⟨rfl, h⟩ := h
 rcases h with rfl | ⟨b, o, rfl, hat⟩
 ·exact Tryz.slices_Contains_string_empty fa fc x w
 ·have := Tryz.slices_Contains_string b o l.length fc (l.map fun t => (⟨t.toArray⟩ : ByteArray)) x w (by rw [List.length_map]; exact Nat.le_refl _) (by omega) (fun j hj => by
   rw [List.length_map] at hj
   rw [hat j _ (List.getElem?_eq_getElem hj), List.getD_eq_getElem?_getD, List.getElem?_map, List.getElem?_eq_getElem hj]
   rfl)
  rw [List.take_of_length_le (by rw [List.length_map]; exact Nat.le_refl _), trow_has] at this
  exact this
theorem is_2 (m : Sr.Lt) (name text : Sr.Tx) (n : Int) (set : List (Nat × Nat)) (keys : List Sr.Ky) (ys : List Value) (Ok : Nat → Prop) (d : Nat) (tb : ByteArray) (fa : Option Addr) (fn fc : Nat) (w : World) (hk : Kx w Ok (.mk 2 name text n set keys) ys) (hd : d ≤ 1000) (hF : Trow w fa fn m.flags) (hFl : m.flags.length ≤ 1000) :
  Calls Tryz.prog 22 #[.agg #[.int .i64 m.uid, .slice fa fn fc, .int .i64 m.day, .string tb, .int .i64 m.which, .int .i64 m.many, .int .i64 m.greatest], .agg ys.toArray, .int .i64 (d : Int)] w fun e w' => e = .returned (.bool (m.flags.contains name)) ∧ Below w.heap.size w w' := by
 cases hk with
 | mk code n nb tx set sv ks a c rows hst hkk ha =>
  obtain ⟨sa, sc, rfl, _⟩ := hst
  obtain ⟨SN, hSN⟩ : ∃ n, set.length = n := ⟨_, rfl⟩
  obtain ⟨KN, hKN⟩ : ∃ n, keys.length = n := ⟨_, rfl⟩
  rw [hSN, hKN, show ([.int .i64 2, .string nb, .string tx, .int .i64 n, .slice sa SN sc, .slice a KN c] : List Value).toArray = #[.int .i64 2, .string nb, .string tx, .int .i64 n, .slice sa SN sc, .slice a KN c] from rfl]
  have dd : decide ((65536 : Int) < (d : Int)) = false := decide_eq_false (by omega)
  obtain ⟨W2, hW2, hz2, e1, e2, hb2⟩ := two_boxes w #[.int .i64 m.uid, .slice fa fn fc, .int .i64 m.day, .string tb, .int .i64 m.which, .int .i64 m.many, .int .i64 m.greatest] #[.int .i64 2, .string nb, .string tx, .int .i64 n, .slice sa SN sc, .slice a KN c] 66 32
  have r1 : W2.cell? ⟨w.heap.size, 1, none⟩ = some (.slice fa fn fc) := rd_cell e1 rfl
  have r3 : W2.cell? ⟨w.heap.size, 3, none⟩ = some (.string tb) := rd_cell e1 rfl
  have k0 : W2.cell? ⟨w.heap.size + 1, 0, none⟩ = some (.int .i64 2) := rd_cell e2 rfl
  have k1 : W2.cell? ⟨w.heap.size + 1, 1, none⟩ = some (.string nb) := rd_cell e2 rfl
  have HB2 : Hid (Below w.heap.size w W2) := hb2
  have cH := has_trow fa fn fc m.flags nb W2 (hF.below hb2) hFl
  obtain ⟨A, hA⟩ : ∃ A, m.flags.contains nb.data.toList = A := ⟨_, rfl⟩
  rw [hA] at cH ⊢
  clear e1 e2 hkk ha hb2 hKN hSN hF hFl hA
  go_enter Tryz.func22, Tryz.ntmps22
  go_wp2_with fail
  refine cH.mono ?_
  rintro e w3 ⟨rfl, rfl⟩
  clear cH
  go_wp2_with fail
  go_ret
  exact ⟨rfl, HB2.out⟩
def FlagL (code : Int) (name text : Sr.Tx) : Prop := code = 2 ∨ NumL code name text
theorem flag_leafs (m : Sr.Lt) (Ok : Nat → Prop) (tb : ByteArray) (fa : Option Addr) (fn fc : Nat) (w0 : World) (htb : tb.data.toList = m.text) (hF : Trow w0 fa fn m.flags) (hFl : m.flags.length ≤ 1000) : Leafs m [.int .i64 m.uid, .slice fa fn fc, .int .i64 m.day, .string tb, .int .i64 m.which, .int .i64 m.many, .int .i64 m.greatest] FlagL Ok w0 := by
 intro code name text n set keys ys d W hc h0 hk hd hs
 rcases hc with rfl | hc
 ·rw [show Sr.holdsK m (.mk 2 name text n set keys) = m.flags.contains name by rw [Sr.holdsK]; simp]
  exact is_2 m name text n set keys ys Ok d tb fa fn fc W hk hd (hF.below h0) hFl
 ·exact num_leafs m _ Ok w0 ⟨tb, fa, fn, fc, rfl, htb⟩ code name text n set keys ys d W hc h0 hk hd hs
end Go.Proofs.YtogigccbnohjjaaGreatDoor
namespace Go.Proofs.YtogigccbnohjjaaGreatDoor
open Go.RowKit Go.Proofs.Aid Go.Proofs.Hd
set_option maxHeartbeats 4000000
set_option maxRecDepth 100000
def joinB (S : List ByteArray) : ByteArray := ⟨(Lib.join (S.map (·.data.toList)) [32]).toArray⟩
theorem row_slice {w : World} {base e size n : Nat} {v : Value} {xs : List Value} (h : w.ownsRow base e size v n xs) : ∃ a cap, v = .slice a n cap := by
 rcases h.2 with ⟨h1, h2⟩ | ⟨g, cap, cur, hv, _⟩
 ·exact ⟨none, 0, by rw [h1, h2]⟩
 ·exact ⟨_, cap, hv⟩
theorem join_call (S : List ByteArray) (vs : Value) (base : Nat) (w : World) (h : w.ownsRow base 9 1 vs S.length (S.map Value.string)) (hS : S.length ≤ 100000) (hl : (Lib.join (S.map (·.data.toList)) [32]).length ≤ 140737488355328) :
  Calls Tryz.prog 146 #[vs, .string ⟨#[32]⟩] w fun e w' => e = .returned (.string (joinB S)) ∧ Below w.heap.size w w' := by
 by_cases h0 : S = []
 ·subst h0
  obtain ⟨a, cap, rfl⟩ := row_slice h
  refine (Tryz.strings_Join_none a cap ⟨#[32]⟩ w).mono ?_
  rintro e w' ⟨rfl, rfl⟩
  exact ⟨rfl, Below.refl _ _⟩
 ·have hn : S.length ≠ 0 := fun e => h0 (List.eq_nil_of_length_eq_zero e)
  obtain ⟨g, cap, rfl⟩ := row_some h hn
  have hlt := h.lt g rfl
  have hcap : S.length ≤ cap := by
   rcases h.2 with ⟨h1, h2⟩ | ⟨g', cap', cur, hv, _, _, hnc, _⟩
   ·exact absurd h2 hn
   ·injection hv with _ _ hv
    subst hv
    exact hnc
  refine (Tryz.strings_Join g 0 cap S ⟨#[32]⟩ w (fun j x hj => ?_) hlt.2 (by omega) hcap hl).mono ?_
  ·rw [Nat.zero_add, h.cellAt j (by have := (List.getElem?_eq_some_iff.1 hj).1; omega), List.getElem?_map, hj]
   rfl
  ·rintro e w' ⟨rfl, hb⟩
   exact ⟨rfl, hb⟩
theorem cellsF_last (P : List Fb) (n v : ByteArray) : (cellsF (P ++ [(n, v)]))[P.length * 2 + 1]? = some (.string v) := by
 rw [cellsF_append, List.getElem?_append_right (by rw [cellsF_length]; omega), cellsF_length]
 rw [show P.length * 2 + 1 - P.length * 2 = 1 by omega]
 rfl
theorem cellsF_setlast (P : List Fb) (n v u : ByteArray) : (cellsF (P ++ [(n, v)])).set (P.length * 2 + 1) (.string u) = cellsF (P ++ [(n, u)]) := by
 rw [cellsF_append, cellsF_append, List.set_append_right _ _ (by rw [cellsF_length]; omega), cellsF_length]
 rw [show P.length * 2 + 1 - P.length * 2 = 1 by omega]
 rfl
theorem join_some (base b : Nat) (P : List Fb) (n v : ByteArray) (S : List ByteArray) (w : World) (h : Rd base b (P ++ [(n, v)]) S w) (hP : P.length ≤ 100) (hS : S.length ≤ 100000) (hl : (Lib.join (S.map (·.data.toList)) [32]).length ≤ 140737488355328) (hbw : base ≤ w.heap.size) :
  Calls Tryz.prog 124 #[.pointer (some ⟨b, 0, none⟩)] w fun e w' => e = .returned (.tuple #[]) ∧ Rd base b (P ++ [(n, joinB S)]) [] w' ∧ But base b w w' := by
 obtain ⟨vf, vs, hh, hrf, hrs⟩ := h.st
 obtain ⟨K, hK⟩ : ∃ K, P.length = K := ⟨_, rfl⟩
 have hRl : (P ++ [(n, v)]).length = K + 1 := by rw [List.length_append, hK]; rfl
 rw [hRl] at hrf
 obtain ⟨g, cap, rfl⟩ := row_some hrf (by omega)
 have hgl := hrf.lt g rfl
 have hgb : g ≠ b := fun e => row_off hrf hh (by decide) (by rw [e]; rfl)
 have cJ : Calls Tryz.prog 146 #[vs, .string ⟨#[32]⟩] w.drew fun e w' => e = .returned (.string (joinB S)) ∧ Below w.heap.size w w' := (join_call S vs base w.drew ⟨hrs.1, hrs.2⟩ hS hl).mono (by
  rintro e w' ⟨rfl, hb⟩
  exact ⟨rfl, (Below.refl _ _).drew.trans hb⟩)
 obtain ⟨J, hJ⟩ : ∃ J, joinB S = J := ⟨_, rfl⟩
 rw [hJ] at cJ ⊢
 have c0 : w.cell? ⟨b, 0, none⟩ = some (.slice (some ⟨g, 0, none⟩) (K + 1) cap) := rd_cell hh rfl
 have c1 : w.cell? ⟨b, 1, none⟩ = some vs := rd_cell hh rfl
 have hbl : b < w.heap.size := (Array.getElem?_eq_some_iff.1 hh).1
 have cv := hrf.cellAt (K * 2 + 1) (by omega)
 rw [← hK, cellsF_last, hK] at cv
 have fv := hrf.frozenAt (K * 2 + 1)
 have hk0 : (0 : Int) < (K : Int) + 1 := by omega
 have hwr : IntKind.i64.wrap (K : Int) = (K : Int) := by rw [IntKind.wrap_i64]; omega
 have hK1 : (K : Int) < (K : Int) + 1 := by omega
 have HK : Hid (P.length = K) := hK
 have HRF : Hid (w.ownsRow base 78 2 (.slice (some ⟨g, 0, none⟩) (K + 1) cap) (K + 1) (cellsF (P ++ [(n, v)]))) := hrf
 have HRS : Hid (w.ownsRow base 9 1 vs S.length (S.map Value.string)) := hrs
 clear hrf hrs h hK hJ hRl
 go_enter Tryz.func124, Tryz.ntmps124
 go_upto_region 1 with fail
 go_cut [] (fun wx => ∃ W, Below w.heap.size w W ∧ wx = W.setCell ⟨g, K * 2 + 1, none⟩ (.string J))
 case first =>
  go_region_with (go_at_call 146; refine cJ.mono ?_; rintro e w2 ⟨rfl, hb2⟩; have d0 : w2.cell? ⟨b, 0, none⟩ = some (.slice (some ⟨g, 0, none⟩) (K + 1) cap) := (hb2.cell (p := ⟨b, 0, none⟩) hbl).trans c0; have dv : w2.cell? ⟨g, K * 2 + 1, none⟩ = some (.string v) := (hb2.cell (p := ⟨g, K * 2 + 1, none⟩) hgl.2).trans cv; have dz : w2.frozen? ⟨g, K * 2 + 1, none⟩ = false := (hb2.frozen (p := ⟨g, K * 2 + 1, none⟩) hgl.2).trans fv)
  all_goals
   go_wp2_with fail
   go_meet
   exact ⟨_, hb2, rfl⟩
 case rest =>
  obtain ⟨W, hbW, rfl⟩ := hcut
  have hrf := row_below hbW (Nat.le_refl _) HRF.out
  have hrs := row_below hbW (Nat.le_refl _) HRS.out
  have hhW := (hbW.block b hbl).trans hh
  have hh2 : (W.setCell ⟨g, K * 2 + 1, none⟩ (.string J)).heap[b]? = some (.cells #[.slice (some ⟨g, 0, none⟩) (K + 1) cap, vs] 148 (0, 0)) := (Below.heap_setCell _ _ _ _ (Ne.symm hgb)).trans hhW
  have hrf2 := (hrf.stored (K * 2 + 1) (.string J)).1
  rw [show K * 2 + 1 = P.length * 2 + 1 by rw [HK.out], cellsF_setlast, HK.out] at hrf2
  have hb2 : Below base w (W.setCell ⟨g, K * 2 + 1, none⟩ (.string J)) := (hbW.mono hbw).setCell hgl.1 _
  generalize W.setCell ⟨g, K * 2 + 1, none⟩ (.string J) = W2 at hh2 hrf2 hb2 ⊢
  have d1 : W2.cell? ⟨b, 1, none⟩ = some vs := rd_cell hh2 rfl
  have dz := rd_free hh2 1
  have hh3 := rd_set (i := 1) (.slice none 0 0) hh2
  have hrf3 := ownsRow_setCell_other hrf2 (a := ⟨b, 1, none⟩) (row_off hrf2 hh2 (by decide)) (.slice none 0 0)
  clear hrf hrs hhW hbW HRF HRS cJ
  go_wp2_with fail
  go_end0
  refine ⟨rfl, ⟨_, _, hh3, ?_, World.ownsRow_nil _ _ _ _⟩, (to_but hb2).setB _ _⟩
  rw [List.length_append, HK.out]
  exact hrf3
theorem join_none (base b : Nat) (S : List ByteArray) (w : World) (h : Rd base b [] S w) (_ : base ≤ w.heap.size) :
  Calls Tryz.prog 124 #[.pointer (some ⟨b, 0, none⟩)] w fun e w' => e = .returned (.tuple #[]) ∧ Rd base b [] [] w' ∧ But base b w w' := by
 obtain ⟨vf, vs, hh, hrf, hrs⟩ := h.st
 obtain ⟨a, cap, rfl⟩ := row_slice hrf
 have c0 : w.cell? ⟨b, 0, none⟩ = some (.slice a 0 cap) := rd_cell hh rfl
 have c1 : w.cell? ⟨b, 1, none⟩ = some vs := rd_cell hh rfl
 have dz := rd_free hh 1
 have hh3 := rd_set (i := 1) (.slice none 0 0) hh
 have hrf3 := ownsRow_setCell_other hrf (a := ⟨b, 1, none⟩) (row_off hrf hh (by decide)) (.slice none 0 0)
 clear h hrf hrs
 go_enter Tryz.func124, Tryz.ntmps124
 go_wp2_with fail
 go_end0
 exact ⟨rfl, ⟨_, _, hh3, hrf3, World.ownsRow_nil _ _ _ _⟩, (to_but (Below.refl _ _)).setB _ _⟩
end Go.Proofs.YtogigccbnohjjaaGreatDoor
namespace Go.Proofs.YtogigccbnohjjaaGreatDoor
open Go.RowKit Go.Proofs.Aid Go.Proofs.Hd Go.Proofs.Sq
set_option maxHeartbeats 2000000
set_option maxRecDepth 100000
def tx (f : Fb) : Hd.Fd := (f.1.data.toList, f.2.data.toList)
theorem join_snoc (S : List Tx) (x : Tx) : Lib.join (S ++ [x]) [32] = if S = [] then x else Lib.join S [32] ++ 32 :: x := by
 induction S with
 | nil => simp [Lib.join, List.intercalate]
 | cons a S ih =>
  rw [if_neg (by simp)]
  cases S with
  | nil => simp [Lib.join, List.intercalate]
  | cons c S =>
   rw [if_neg (by simp)] at ih
   have e : ∀ (y : Tx) (ys : List Tx), Lib.join (a :: y :: ys) [32] = a ++ 32 :: Lib.join (y :: ys) [32] := fun y ys => by simp [Lib.join, List.intercalate]
   rw [List.cons_append, List.cons_append, e, e, ← List.cons_append, ih]
   simp
theorem join_ne {S : List Tx} (h : ∀ x ∈ S, x ≠ []) (hS : S ≠ []) : Lib.join S [32] ≠ [] := by
 cases S with
 | nil => exact absurd rfl hS
 | cons a S =>
  have ha := h a List.mem_cons_self
  cases S with
  | nil => simpa [Lib.join, List.intercalate] using ha
  | cons c S => simp [Lib.join, List.intercalate]
theorem join_len (M : Nat) : ∀ (S : List Tx), (∀ x ∈ S, x.length ≤ M) → (Lib.join S [32]).length ≤ S.length * (M + 1)
 | [], _ => by simp [Lib.join, List.intercalate]
 | [a], h => by have := h a List.mem_cons_self; simp [Lib.join, List.intercalate]; omega
 | a :: c :: S, h => by
  have ih := join_len M (c :: S) (fun x hx => h x (List.mem_cons_of_mem _ hx))
  have ha := h a List.mem_cons_self
  rw [show Lib.join (a :: c :: S) [32] = a ++ 32 :: Lib.join (c :: S) [32] by simp [Lib.join, List.intercalate], List.length_append, List.length_cons]
  simp only [List.length_cons] at ih ⊢
  rw [Nat.add_mul _ 1]
  omega
theorem cutAt_len (c : UInt8) : ∀ s : Tx, (cutAt c s).1.length ≤ s.length ∧ (cutAt c s).2.1.length ≤ s.length
 | [] => by simp [cutAt]
 | b :: r => by
  have ih := cutAt_len c r
  rw [cutAt]
  split
  ·simp
  ·simp only [List.length_cons]
   omega
def Tells (R : List Fb) (S : List ByteArray) (l : List Hd.Fd) : Prop := (R = [] ∧ S = [] ∧ l = []) ∨ ∃ P n v, R = P ++ [(n, v)] ∧ l = P.map tx ++ [(n.data.toList, Lib.join (S.map (·.data.toList)) [32])]
structure St (base b : Nat) (l : List Hd.Fd) (k : Nat) (w : World) : Prop where
 st : ∃ R S, Rd base b R S w ∧ S.length ≤ k ∧ (∀ x ∈ S, x.size ≤ 2000000 ∧ x.data.toList ≠ []) ∧ Tells R S l
theorem St.below {base b k : Nat} {l : List Hd.Fd} {w w' : World} (h : St base b l k w) (hb : Below w.heap.size w w') : St base b l k w' := by
 obtain ⟨R, S, h1, h2⟩ := h.st
 exact ⟨R, S, h1.below hb, h2⟩
theorem St.more {base b k : Nat} {l : List Hd.Fd} {w : World} (h : St base b l k w) : St base b l (k + 1) w := by
 obtain ⟨R, S, h1, h2, h3⟩ := h.st
 exact ⟨R, S, h1, by omega, h3⟩
theorem onto_snoc (P : List Hd.Fd) (n v b : Tx) : onto (P ++ [(n, v)]) b = P ++ [(n, joinV v b)] := by
 induction P with
 | nil => rfl
 | cons f P ih =>
  cases P with
  | nil => rfl
  | cons g P => rw [List.cons_append, List.cons_append, onto, ← List.cons_append, ih]; rfl
theorem tells_say {R : List Fb} {S : List ByteArray} {l : List Hd.Fd} {p : Tx} (h : Tells R S l) (hl : l ≠ []) (hS : ∀ x ∈ S, x.size ≤ 2000000 ∧ x.data.toList ≠ []) : Tells R (if bare p = [] then S else S ++ [⟨(bare p).toArray⟩]) (onto l (bare p)) := by
 rcases h with ⟨_, _, h⟩ | ⟨P, n, v, rfl, rfl⟩
 ·exact absurd h hl
 ·refine Or.inr ⟨P, n, v, rfl, ?_⟩
  rw [onto_snoc]
  congr 3
  unfold joinV
  by_cases hb : bare p = []
  ·rw [if_pos hb, if_pos hb]
  ·rw [if_neg hb, if_neg hb, List.map_append, List.map_cons, List.map_nil, join_snoc]
   by_cases hs : S = []
   ·subst hs
    rfl
   ·rw [if_neg (join_ne (fun x hx => by obtain ⟨y, hy, rfl⟩ := List.mem_map.1 hx; exact (hS y hy).2) (by simpa using hs)), if_neg (by simpa using hs)]
theorem said_ok {S : List ByteArray} {p : ByteArray} (hp : p.size ≤ 2000000) (hS : ∀ x ∈ S, x.size ≤ 2000000 ∧ x.data.toList ≠ []) : ∀ x ∈ (if bare p.data.toList = [] then S else S ++ [⟨(bare p.data.toList).toArray⟩]), x.size ≤ 2000000 ∧ x.data.toList ≠ [] := by
 intro x hx
 split at hx
 ·exact hS x hx
 ·next hb =>
  rcases List.mem_append.1 hx with hx | hx
  ·exact hS x hx
  ·obtain rfl := List.mem_singleton.1 hx
   refine ⟨?_, hb⟩
   have := bare_length p.data.toList
   rw [list_size] at this
   rw [Lib.size_eq]
   show (bare p.data.toList).length ≤ _
   omega
theorem said_len {S : List ByteArray} {p : Tx} {k : Nat} (h : S.length ≤ k) : (if bare p = [] then S else S ++ [⟨(bare p).toArray⟩]).length ≤ k + 1 := by
 split
 ·omega
 ·simp; omega
theorem goOn_is (base b k : Nat) (l : List Hd.Fd) (p : ByteArray) (w : World) (h : St base b l k w) (hp : p.size ≤ 2000000) (hk : k ≤ 100000) (hbw : base ≤ w.heap.size) (hn : l.length ≤ 40) :
  Calls Tryz.prog 122 #[.pointer (some ⟨b, 0, none⟩), .string p] w fun e w' => But base b w w' ∧ ((l = [] ∧ e = .returned (.int .i64 3)) ∨ (l ≠ [] ∧ e = .returned (.int .i64 0) ∧ St base b (onto l (bare p.data.toList)) (k + 1) w')) := by
 obtain ⟨R, S, hR, hSk, hS, hT⟩ := h.st
 obtain ⟨vf, vs, hh, hrf, _⟩ := hR.st
 obtain ⟨a, cap, rfl⟩ := row_slice hrf
 have c0 : w.cell? ⟨b, 0, none⟩ = some (.slice a R.length cap) := rd_cell hh rfl
 by_cases hl : l = []
 ·have hR0 : R.length = 0 := by
   rcases hT with ⟨rfl, _⟩ | ⟨P, n, v, rfl, rfl⟩
   ·rfl
   ·simp at hl
  rw [hR0] at c0
  clear hrf hh hR
  go_enter Tryz.func122, Tryz.ntmps122
  go_wp2_with fail
  go_ret
  exact ⟨to_but (Below.refl _ _), Or.inl ⟨hl, rfl⟩⟩
 ·obtain ⟨N, hN⟩ : ∃ N, R.length = N + 1 := by
   rcases hT with ⟨_, _, h⟩ | ⟨P, n, v, rfl, _⟩
   ·exact absurd h hl
   ·exact ⟨P.length, by simp⟩
  have cS := say_is base b R S p w hR hp (by omega) hbw
  have HT : Hid (Tells R (if bare p.data.toList = [] then S else S ++ [⟨(bare p.data.toList).toArray⟩]) (onto l (bare p.data.toList))) := tells_say hT hl hS
  have HS : Hid (∀ x ∈ (if bare p.data.toList = [] then S else S ++ [⟨(bare p.data.toList).toArray⟩]), x.size ≤ 2000000 ∧ x.data.toList ≠ []) := said_ok hp hS
  have HK : Hid ((if bare p.data.toList = [] then S else S ++ [⟨(bare p.data.toList).toArray⟩]).length ≤ k + 1) := said_len hSk
  obtain ⟨S', hS'⟩ : ∃ S', (if bare p.data.toList = [] then S else S ++ [⟨(bare p.data.toList).toArray⟩]) = S' := ⟨_, rfl⟩
  rw [hS'] at cS HT HS HK
  obtain ⟨L', hL'⟩ : ∃ L', onto l (bare p.data.toList) = L' := ⟨_, rfl⟩
  rw [hL'] at HT ⊢
  rw [hN] at c0
  have hne : (((N : Int) + 1) == 0) = false := by rw [beq_eq_false_iff_ne]; omega
  clear hrf hh hR hT hS hS' hL'
  go_enter Tryz.func122, Tryz.ntmps122
  go_wp2_with fail
  refine cS.mono ?_
  rintro e w1 ⟨rfl, hR1, hb1⟩
  go_wp2_with fail
  go_ret
  exact ⟨hb1, Or.inr ⟨hl, rfl, R, S', hR1, HK.out, HS.out, HT.out⟩⟩
theorem row_grown {e e' : TypeId} {base size size' : Nat} {w w' : World} {v v' : Value} {n n' : Nat} {xs xs' : List Value} (hg : w.grownBy w' v.ownBlock) (hv : w.ownsRow base e size v n xs) (h : w.ownsRow base e' size' v' n' xs') (hne : e ≠ e') : w'.ownsRow base e' size' v' n' xs' := by
 refine ⟨h.1, ?_⟩
 rcases h.2 with h2 | ⟨g, cap, cur, h3, h4, hh, r⟩
 ·exact Or.inl h2
 ·exact Or.inr ⟨g, cap, cur, h3, h4, (hg.block g (Array.getElem?_eq_some_iff.1 hh).1 (fun e1 => row_off hv hh hne e1.symm)).trans hh, r⟩
theorem join_is (base b k : Nat) (l : List Hd.Fd) (w : World) (h : St base b l k w) (hk : k ≤ 100000) (hbw : base ≤ w.heap.size) (hn : l.length ≤ 40) :
  Calls Tryz.prog 124 #[.pointer (some ⟨b, 0, none⟩)] w fun e w' => e = .returned (.tuple #[]) ∧ (∃ R, Rd base b R [] w' ∧ R.map tx = l) ∧ But base b w w' := by
 obtain ⟨R, S, hR, hSk, hS, hT⟩ := h.st
 rcases hT with ⟨rfl, rfl, rfl⟩ | ⟨P, n, v, rfl, rfl⟩
 ·refine (join_none base b [] w hR hbw).mono ?_
  rintro e w' ⟨rfl, h1, h2⟩
  exact ⟨rfl, ⟨[], h1, rfl⟩, h2⟩
 ·have hl : (Lib.join (S.map (·.data.toList)) [32]).length ≤ 140737488355328 := by
   have := join_len 2000000 (S.map (·.data.toList)) (fun x hx => by
    obtain ⟨y, hy, rfl⟩ := List.mem_map.1 hx
    rw [list_size]
    exact (hS y hy).1)
   rw [List.length_map] at this
   have h2 : S.length * (2000000 + 1) ≤ 100000 * (2000000 + 1) := Nat.mul_le_mul_right _ (by omega)
   omega
  refine (join_some base b P n v S w hR (by simp at hn; omega) (by omega) hl hbw).mono ?_
  rintro e w' ⟨rfl, h1, h2⟩
  exact ⟨rfl, ⟨_, h1, by simp [tx, joinB]⟩, h2⟩
theorem begin_is (base b k : Nat) (l : List Hd.Fd) (p : ByteArray) (m : Int) (w : World) (h : St base b l k w) (hp : p.size ≤ 2000000) (hk : k ≤ 100000) (hbw : base ≤ w.heap.size) (hn : l.length ≤ 40) (hm : w.cell? ⟨1, 0, none⟩ = some (.int .i64 m)) :
  Calls Tryz.prog 123 #[.pointer (some ⟨b, 0, none⟩), .string p] w fun e w' => But base b w w' ∧
   (((cutAt 58 p.data.toList).2.2 = false ∨ nameOk (cutAt 58 p.data.toList).1 = false) ∧ e = .returned (.int .i64 3) ∨
   ¬ ((cutAt 58 p.data.toList).2.2 = false ∨ nameOk (cutAt 58 p.data.toList).1 = false) ∧ (l.length = 40 ∧ e = .returned (.int .i64 4) ∨ l.length ≠ 40 ∧ e = .returned (.int .i64 0) ∧ St base b (l ++ [((cutAt 58 p.data.toList).1, bare (cutAt 58 p.data.toList).2.1)]) (k + 1) w')) := by
 have cC := Tryz.strings_Cut p ⟨#[58]⟩ m w (by omega) hm
 have hce : Lib.cut p.data.toList (⟨#[58]⟩ : ByteArray).data.toList = cutAt 58 p.data.toList := cut_eq 58 p.data.toList
 rw [hce] at cC
 obtain ⟨nm, hnm⟩ : ∃ n : ByteArray, ⟨(cutAt 58 p.data.toList).1.toArray⟩ = n := ⟨_, rfl⟩
 obtain ⟨vl, hvl⟩ : ∃ n : ByteArray, ⟨(cutAt 58 p.data.toList).2.1.toArray⟩ = n := ⟨_, rfl⟩
 have hnl : (cutAt 58 p.data.toList).1 = nm.data.toList := by rw [← hnm]
 have hvl' : (cutAt 58 p.data.toList).2.1 = vl.data.toList := by rw [← hvl]
 have hsz : nm.size ≤ 2000000 ∧ vl.size ≤ 2000000 := by
  have hc := cutAt_len 58 p.data.toList
  rw [hnl, hvl', list_size, list_size, list_size] at hc
  omega
 obtain ⟨told, htold⟩ : ∃ b, (cutAt 58 p.data.toList).2.2 = b := ⟨_, rfl⟩
 rw [hnm, hvl, htold] at cC
 rw [hnl, hvl', htold]
 have hns := hsz.1
 have hvs := hsz.2
 clear hce hnm hvl hnl hvl' htold hsz hm
 obtain ⟨R0, S0, hR0, hSk, hS, hT⟩ := h.st
 obtain ⟨vf, vs, hh, hrf, _⟩ := hR0.st
 obtain ⟨a, cap, rfl⟩ := row_slice hrf
 have hlen : R0.length = l.length := by
  rcases hT with ⟨rfl, _, rfl⟩ | ⟨P, n, v, rfl, rfl⟩
  ·rfl
  ·simp
 rw [hlen] at hh hrf
 have HH : Hid (w.heap[b]? = some (.cells #[.slice a l.length cap, vs] 148 (0, 0))) := hh
 have c0 : w.cell? ⟨b, 0, none⟩ = some (.slice a l.length cap) := rd_cell hh rfl
 obtain ⟨len, hln⟩ : ∃ n, l.length = n := ⟨_, rfl⟩
 rw [hln] at c0 hn ⊢
 have HLN : Hid (l.length = len) := hln
 have HST : Hid (St base b l k w) := h
 clear hR0 hT hS hrf hh h HH hlen hln hSk
 cases told with
 | false =>
  go_enter Tryz.func123, Tryz.ntmps123
  go_wp2_with fail
  refine cC.mono ?_
  rintro e w1 ⟨rfl, q, rfl⟩
  go_wp2_with fail
  go_ret
  exact ⟨to_but (below_drewN (Below.refl _ _) q), Or.inl ⟨Or.inl trivial, rfl⟩⟩
 | true =>
  have cN := fun W => isName_is nm W hns
  obtain ⟨ok, hok⟩ : ∃ b, nameOk nm.data.toList = b := ⟨_, rfl⟩
  rw [hok] at cN ⊢
  clear hok
  cases ok with
  | false =>
   go_enter Tryz.func123, Tryz.ntmps123
   go_wp2_with fail
   refine cC.mono ?_
   rintro e w1 ⟨rfl, q, rfl⟩
   go_wp2_with fail
   refine (cN _).mono ?_
   rintro e w2 ⟨rfl, hw⟩
   subst hw
   go_wp2_with fail
   go_ret
   exact ⟨to_but (below_drewN (Below.refl _ _) q), Or.inl ⟨Or.inr trivial, rfl⟩⟩
  | true =>
   by_cases h40 : len = 40
   ·subst h40
    go_enter Tryz.func123, Tryz.ntmps123
    go_wp2_with fail
    refine cC.mono ?_
    rintro e w1 ⟨rfl, q, rfl⟩
    go_wp2_with fail
    refine (cN _).mono ?_
    rintro e w2 ⟨rfl, hw⟩
    subst hw
    go_wp2_with fail
    go_ret
    exact ⟨to_but (below_drewN (Below.refl _ _) q), Or.inr ⟨by simp, Or.inl ⟨trivial, rfl⟩⟩⟩
   ·have hq : ((len : Int) == 40) = false := by rw [beq_eq_false_iff_ne]; omega
    obtain ⟨i0, hi, hz0, hz1, hz2⟩ := info_parts Tryz.infoField
    go_enter Tryz.func123, Tryz.ntmps123
    go_wp2_with fail
    refine cC.mono ?_
    rintro e w1 ⟨rfl, q, rfl⟩
    go_wp2_with fail
    refine (cN _).mono ?_
    rintro e w2 ⟨rfl, hw⟩
    subst hw
    have hbq : Below w.heap.size w (w.drewN q) := below_drewN (Below.refl _ _) q
    have cJ := join_is base b k l (w.drewN q) (HST.out.below hbq) hk hbw (by have := HLN.out; omega)
    have hbq' : Below base w (w.drewN q) := below_drewN (Below.refl _ _) q
    clear cC cN hbq
    go_wp2_with fail
    refine cJ.mono ?_
    clear cJ
    rintro e w3 ⟨rfl, ⟨R, hR, hRl⟩, hb3⟩
    have hb03 := (to_but hbq').trans hb3
    have hbs3 : base ≤ w3.heap.size := Nat.le_trans hbw hb03.size
    obtain ⟨vf, vs, hh, hrf, hrs⟩ := hR.st
    obtain ⟨ra, rc, rfl⟩ := row_slice hrf
    have hRlen : R.length = len := by rw [← HLN.out, ← hRl, List.length_map]
    rw [hRlen] at hh hrf
    have d0 : w3.cell? ⟨b, 0, none⟩ = some (.slice ra len rc) := rd_cell hh rfl
    have hnews : ∀ (j : Nat) (u : Value), [Value.string nm, Value.string ⟨#[]⟩][j]? = some u → (w3.alloc (.cells #[.string nm, .string ⟨#[]⟩] 78)).cell? (Addr.add ⟨w3.heap.size, 0, none⟩ j) = some u := World.news_of_block (heap_alloc_new w3 (.cells #[.string nm, .string ⟨#[]⟩] 78))
    have HRL : Hid (R.map tx = l) := hRl
    clear hR hRl hb3 hbq'
    go_wp2_with (at_builtin; go_must (refine wpList_append_lies _ rfl (.tmp 33) (.tmp 36) 74 rfl base 78 i0 (.agg #[.string ⟨#[]⟩, .string ⟨#[]⟩]) 2 32 Tryz.underlying74 hi hz0 hz1 hz2 rfl (by decide) _ _ _ (by rfl) (hrf.alloc _) ⟨w3.heap.size, 0, none⟩ 1 1 [.string nm, .string ⟨#[]⟩] (by rfl) rfl hnews (by simp [Value.oneCell']) (by decide) (by unfold maxLen; omega) (by omega) (by simp; omega) _ rfl ?_); intro g4 cap4 w4 hown4 hg4 _ hlt4; have hg4' := grownBy_of_alloc hg4; have hh4 : w4.heap[b]? = some (.cells #[.slice ra len rc, vs] 148 (0, 0)) := (hg4'.block b (Array.getElem?_eq_some_iff.1 hh).1 (fun e => row_off hrf hh (by decide) e.symm)).trans hh; have c4 := rd_cell (j := 0) hh4 rfl; have f4 := rd_free hh4 0)
    have hb4 : But base b w w4 := hb03.trans (to_but ((Below.refl base w3).grown hg4' hbs3 (fun j e => (hrf.lt j e).1)))
    have hrs4 := row_grown hg4' hrf hrs (by decide)
    have hh5 := rd_set (i := 0) (.slice (some ⟨g4, 0, none⟩) (len + 1) cap4) hh4
    have hrf5 := ownsRow_setCell_other hown4 (a := ⟨b, 0, none⟩) (row_off hown4 hh4 (by decide)) (.slice (some ⟨g4, 0, none⟩) (len + 1) cap4)
    have hrs5 := ownsRow_setCell_other hrs4 (a := ⟨b, 0, none⟩) (row_off hrs4 hh4 (by decide)) (.slice (some ⟨g4, 0, none⟩) (len + 1) cap4)
    have hb5 := hb4.setB 0 (.slice (some ⟨g4, 0, none⟩) (len + 1) cap4)
    have hR5 : Rd base b (R ++ [(nm, ⟨#[]⟩)]) [] (w4.setCell ⟨b, 0, none⟩ (.slice (some ⟨g4, 0, none⟩) (len + 1) cap4)) := by
     refine ⟨_, _, hh5, ?_, hrs5⟩
     rw [List.length_append, hRlen, cellsF_append]
     exact hrf5
    have cS := say_is base b _ [] vl _ hR5 hvs (by simp) (Nat.le_trans hbw hb5.size)
    have HT : Hid (Tells (R ++ [(nm, ⟨#[]⟩)]) (if bare vl.data.toList = [] then [] else [] ++ [⟨(bare vl.data.toList).toArray⟩]) (l ++ [(nm.data.toList, bare vl.data.toList)])) := by
     refine Or.inr ⟨R, nm, ⟨#[]⟩, rfl, ?_⟩
     rw [HRL.out]
     congr 3
     by_cases hv : bare vl.data.toList = []
     ·rw [if_pos hv, hv]; rfl
     ·rw [if_neg hv]; simp [Lib.join, List.intercalate]
    have HS : Hid (∀ x ∈ (if bare vl.data.toList = [] then ([] : List ByteArray) else [] ++ [⟨(bare vl.data.toList).toArray⟩]), x.size ≤ 2000000 ∧ x.data.toList ≠ []) := said_ok hvs (by simp)
    have HK : Hid ((if bare vl.data.toList = [] then ([] : List ByteArray) else [] ++ [⟨(bare vl.data.toList).toArray⟩]).length ≤ k + 1) := said_len (Nat.zero_le _)
    obtain ⟨S', hS'⟩ : ∃ S', (if bare vl.data.toList = [] then ([] : List ByteArray) else [] ++ [⟨(bare vl.data.toList).toArray⟩]) = S' := ⟨_, rfl⟩
    rw [hS'] at cS HT HS HK
    clear hR5 hh5 hrf5 hrs5 hrs4 hown4 hg4 hg4' hrf hrs hh hh4 c4 f4 d0 hS'
    refine cS.mono ?_
    rintro e w6 ⟨rfl, hR6, hb6⟩
    go_wp2_with fail
    go_ret
    exact ⟨hb5.trans hb6, Or.inr ⟨by simp, Or.inr ⟨h40, rfl, _, S', hR6, HK.out, HS.out, HT.out⟩⟩⟩
end Go.Proofs.YtogigccbnohjjaaGreatDoor
