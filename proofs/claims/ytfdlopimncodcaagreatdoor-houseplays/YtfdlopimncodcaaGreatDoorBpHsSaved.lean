/-
  What a house has, saved: in memory; Right says true of what a house ma, and more.
-/
import Derived.Test.YtfdlopimncodcaaGreatDoorBpBoxRight
import Derived.Maps.AppendAt
namespace Go.Proofs.YtfdlopimncodcaaGreatDoor
open Go.RowKit Go.Proofs.Aid Go.Proofs.Bx
structure Svd where
  names : List Nm
  boxes : List Bxd
  wants : List Nm
  next : Int
def SvAt (w : World) (nv bv wv : Value) (S : Svd) : Prop := Sl w nv S.names ∧ Bxr w bv S.boxes ∧ Sl w wv S.wants
theorem SvAt.below {w w' : World} {nv bv wv : Value} {S : Svd} {B : Nat} (h : SvAt w nv bv wv S) (hb : Below B w w') (hB : w.heap.size ≤ B) : SvAt w' nv bv wv S := ⟨h.1.below hb hB, h.2.1.below hb hB, h.2.2.below hb hB⟩
structure SvOk (S : Svd) : Prop where
  len : S.names.length = S.boxes.length
  most : S.names.length ≤ 30
  wmost : S.wants.length ≤ 60
  nsorted : S.names.Pairwise (· < ·)
  wsorted : S.wants.Pairwise (· < ·)
  nname : ∀ n ∈ S.names, nameB n = some n
  wname : ∀ n ∈ S.wants, nameB n = some n
  inbox : inboxN ∈ S.names
  whole : ∀ n ∈ S.names, hangB S.names ⟨n.toArray⟩ = false
  next : 1 ≤ S.next ∧ S.next ≤ 2147483647
  boxes : ∀ x ∈ S.boxes, rightB x.v x.n x.ls = true ∧ x.v < S.next ∧ FitB x
  once : (S.boxes.map Bxd.v).Nodup
set_option maxHeartbeats 8000000 in
set_option maxRecDepth 100000 in
theorem right_true (nv bv wv : Value) (S : Svd) (w : World) (h : SvAt w nv bv wv S) (hO : SvOk S) (hE : NEnv w) (hg : SysAt w) :
    Calls Tryz.prog 13 #[.agg #[nv, bv, wv, .int .i64 S.next]] w fun e w' => e = .returned (.bool true) ∧ Below w.heap.size w w' := by
  obtain ⟨na, nc, rfl, _⟩ := id h.1
  obtain ⟨ba, bc, rfl, _⟩ := id h.2.1
  obtain ⟨wa, wc, rfl, _⟩ := id h.2.2
  obtain ⟨N, hN⟩ : ∃ m, S.names.length = m := ⟨_, rfl⟩
  obtain ⟨M, hM⟩ : ∃ m, S.wants.length = m := ⟨_, rfl⟩
  obtain ⟨X, hX⟩ : ∃ m, S.next = m := ⟨_, rfl⟩
  have hBn : S.boxes.length = N := by rw [← hN, hO.len]
  have e0 : N ≤ 30 := by rw [← hN]; exact hO.most
  have e00 : M ≤ 60 := by rw [← hM]; exact hO.wmost
  have e01 : 1 ≤ X ∧ X ≤ 2147483647 := by rw [← hX]; exact hO.next
  have HC : Hid (∀ W, Below w.heap.size w W → (Calls Tryz.prog 53 #[.slice na N nc] W fun e w' => e = .returned (.bool true) ∧ Below W.heap.size W w') ∧ (Calls Tryz.prog 53 #[.slice wa M wc] W fun e w' => e = .returned (.bool true) ∧ Below W.heap.size W w') ∧
      (Calls Tryz.prog 54 #[.slice na N nc] W fun e w' => e = .returned (.bool true) ∧ Below W.heap.size W w') ∧ (Calls Tryz.prog 55 #[.slice ba N bc, .int .i64 X] W fun e w' => e = .returned (.bool true) ∧ Below W.heap.size W w')) := fun W hW => by
    have hS := h.below hW (Nat.le_refl _)
    have hl1 : S.names.length ≤ 1000 := by have := hO.most; omega
    have hl2 : S.wants.length ≤ 1000 := by have := hO.wmost; omega
    have hl3 : S.boxes.length ≤ 1000 := by omega
    have hxs : ∀ n ∈ S.names, n.length ≤ 1000 := fun n hn => by have := nameB_len (hO.nname n hn); omega
    refine ⟨?_, ?_, ?_, ?_⟩
    · have := rnames_true _ S.names W (hE.below hW) hS.1 hl1 hO.nname hO.nsorted
      rw [hN] at this
      exact this
    · have := rnames_true _ S.wants W (hE.below hW) hS.2.2 hl2 hO.wname hO.wsorted
      rw [hM] at this
      exact this
    · have := whole_true _ S.names W hS.1 hO.nsorted hl1 hxs hO.inbox hO.whole
      rw [hN] at this
      exact this
    · have := rboxes_true _ S.boxes S.next W hS.2.1 (hg.below hW hg.lt) hl3 hO.boxes hO.once
      rw [hBn, hX] at this
      exact this
  rw [hN, hBn, hM, hX]
  have b1 : Below w.heap.size w (w.alloc (.cells #[.slice na N nc, .slice ba N bc, .slice wa M wc, .int .i64 X] 35)) := (Below.refl _ _).alloc (Nat.le_refl _) _
  have e1 := heap_alloc_new w (.cells #[.slice na N nc, .slice ba N bc, .slice wa M wc, .int .i64 X] 35)
  obtain ⟨W1, hW1⟩ : ∃ W, w.alloc (.cells #[.slice na N nc, .slice ba N bc, .slice wa M wc, .int .i64 X] 35) = W := ⟨_, rfl⟩
  rw [hW1] at b1 e1
  have hlt1 : w.heap.size < W1.heap.size := (Array.getElem?_eq_some_iff.1 e1).1
  have HRD : Hid (∀ W, Below W1.heap.size W1 W → W.cell? ⟨w.heap.size, 0, none⟩ = some (.slice na N nc) ∧ W.cell? ⟨w.heap.size, 1, none⟩ = some (.slice ba N bc) ∧ W.cell? ⟨w.heap.size, 2, none⟩ = some (.slice wa M wc) ∧ W.cell? ⟨w.heap.size, 3, none⟩ = some (.int .i64 X)) := fun W hW => by
    have e2 := (hW.block _ hlt1).trans e1
    exact ⟨rd_cell e2 rfl, rd_cell e2 rfl, rd_cell e2 rfl, rd_cell e2 rfl⟩
  obtain ⟨s0, s1, s2, s3⟩ := HRD.out W1 (Below.refl _ _)
  obtain ⟨c1, _⟩ := HC.out W1 b1
  have HB1 : Hid (Below w.heap.size w W1) := b1
  have d1 : decide ((N : Int) ≤ 30) = true := decide_eq_true (by omega)
  have d2 : decide ((M : Int) ≤ 60) = true := decide_eq_true (by omega)
  have d3 : decide ((1 : Int) ≤ X) = true := decide_eq_true e01.1
  have d4 : decide (X ≤ 2147483647) = true := decide_eq_true e01.2
  clear h hO hE hg hN hM hX hBn b1 e1
  go_enter Tryz.func13, Tryz.ntmps13
  go_wp2_with fail
  refine c1.mono ?_
  rintro e w2 ⟨rfl, hb2⟩
  have hz2 := hb2.size
  have hB2 : Below w.heap.size w w2 := HB1.out.trans (hb2.mono HB1.out.size)
  obtain ⟨t0, t1, t2, t3⟩ := HRD.out w2 hb2
  obtain ⟨_, c2, _⟩ := HC.out w2 hB2
  have HB2 : Hid (Below w.heap.size w w2 ∧ Below W1.heap.size W1 w2) := ⟨hB2, hb2⟩
  clear c1 hb2 hB2 s0 s1 s2 s3
  go_wp2_with fail
  refine c2.mono ?_
  rintro e w3 ⟨rfl, hb3⟩
  have hB3 : Below w.heap.size w w3 := HB2.out.1.trans (hb3.mono HB2.out.1.size)
  have hA3 : Below W1.heap.size W1 w3 := HB2.out.2.trans (hb3.mono hz2)
  obtain ⟨t0', t1', t2', t3'⟩ := HRD.out w3 hA3
  obtain ⟨_, _, c3, _⟩ := HC.out w3 hB3
  have HB3 : Hid (Below w.heap.size w w3 ∧ Below W1.heap.size W1 w3) := ⟨hB3, hA3⟩
  have hz3 := hA3.size
  clear c2 hb3 hB3 hA3 t0 t1 t2 t3
  go_wp2_with fail
  refine c3.mono ?_
  rintro e w4 ⟨rfl, hb4⟩
  have hB4 : Below w.heap.size w w4 := HB3.out.1.trans (hb4.mono HB3.out.1.size)
  have hA4 : Below W1.heap.size W1 w4 := HB3.out.2.trans (hb4.mono hz3)
  obtain ⟨r0, r1, r2, r3⟩ := HRD.out w4 hA4
  obtain ⟨_, _, _, c4⟩ := HC.out w4 hB4
  have HB4 : Hid (Below w.heap.size w w4) := hB4
  clear c3 hb4 hB4 hA4 t0' t1' t2' t3'
  go_wp2_with fail
  refine c4.mono ?_
  rintro e w5 ⟨rfl, hb5⟩
  have HB5 : Hid (Below w.heap.size w w5) := HB4.out.trans (hb5.mono HB4.out.size)
  clear c4 hb5
  go_wp2_with fail
  go_ret
  exact ⟨rfl, HB5.out⟩
end Go.Proofs.YtfdlopimncodcaaGreatDoor
namespace Go.Proofs.Aid
open Go.RowKit
def AllC (F : Value → Prop) (w : World) (g : Nat) : Prop := ∀ i u, w.cell? ⟨g, i, none⟩ = some u → F u
theorem AllC.same {F : Value → Prop} {w w' : World} {g : Nat} (h : AllC F w g) (e : w'.heap[g]? = w.heap[g]?) : AllC F w' g := fun i u hu => h i u (by rw [← hu]; exact (World.cell?_of_block (w := w) (a := ⟨g, i, none⟩) e).symm)
theorem allC_of {F : Value → Prop} {w : World} {g : Nat} {cs : Array Value} {t : TypeId} {fz : Nat × Nat} (h : w.heap[g]? = some (.cells cs t fz)) (hc : ∀ u ∈ cs.toList, F u) : AllC F w g := fun i u hu => by
  simp only [World.cell?, h] at hu
  have h1 : cs.toList[i]? = some u := by simpa using hu
  exact hc u (List.mem_of_getElem? h1)
theorem allC_all {F : Value → Prop} {w : World} {g : Nat} {cs : Array Value} {t : TypeId} {fz : Nat × Nat} (h : w.heap[g]? = some (.cells cs t fz)) (hc : AllC F w g) : ∀ u ∈ cs.toList, F u := fun u hu => by
  obtain ⟨i, hi⟩ := List.getElem?_of_mem hu
  exact hc i u (by simp only [World.cell?, h]; simpa using hi)
theorem zeroCells_all {F : Value → Prop} {z : Array Value} (hz : ∀ u ∈ z.toList, F u) (k : Nat) : ∀ u ∈ (Builtin.zeroCells z k).toList, F u := fun u hu => by
  unfold Builtin.zeroCells at hu
  simp only [Array.toList_map, Array.toList_range, List.mem_map, List.mem_range] at hu
  obtain ⟨a, ha, rfl⟩ := hu
  have h0 : 0 < z.size := by
    rcases Nat.eq_zero_or_pos z.size with h | h
    · rw [h, Nat.mul_zero] at ha; omega
    · exact h
  have hm := Nat.mod_lt a h0
  rw [getElem!_pos z (a % z.size) hm]
  exact hz _ (by simp)
variable {P : Program} (w : World)
theorem run_append_clean (F : Value → Prop) (t ty : TypeId) (base : Nat) (e : TypeId) (i : TypeInfo) (z : Value) (size bytes : Nat) (ht : P.underlying t = some (.slice e)) (hi : P.info? e = some i) (hz : i.zero = some z)
    (hsize : i.size = size) (hby : i.bytes = bytes) (hzs : z.cells.size = size) (hsz : 0 < size)
    (v : Value) (n : Nat) (xs : List Value) (hown : w.ownsRow base e size v n xs) (hF : ∀ g, v.ownBlock = some g → AllC F w g) (hFz : ∀ u ∈ z.cells.toList, F u)
    (ad : Addr) (m c : Nat) (news : List Value) (hl : news.length = m * size) (hnews : ∀ j u, news[j]? = some u → w.cell? (ad.add j) = some u) (h1 : ∀ u ∈ news, u.oneCell' = true) (hFn : ∀ u ∈ news, F u)
    (hm : 0 < m) (h63 : n + m ≤ maxLen) (hbytes : (n + m) * bytes ≤ 140737488355328) (hbase : base ≤ w.heap.size) :
    ∃ g cap w', (Builtin.append_ #[t, t] ty #[v, .slice (some ad) m c]).run P w = .ok (.slice (some ⟨g, 0, none⟩) (n + m) cap) w' ∧
      w'.ownsRow base e size (.slice (some ⟨g, 0, none⟩) (n + m) cap) (n + m) (xs ++ news) ∧ w.grownBy w' v.ownBlock ∧ (v.ownBlock = some g ∨ g = w.heap.size) ∧ g < w'.heap.size ∧ AllC F w' g := by
  obtain ⟨g, cap, w', hr, h2, h3, h4, h5⟩ := run_append_lies (P := P) w t ty base e i z size bytes ht hi hz hsize hby hzs hsz v n xs hown ad m c news hl hnews h1 hm h63 hbytes hbase _ rfl
  refine ⟨g, cap, w', hr, h2, h3, h4, h5, ?_⟩
  subst hsize
  subst hby
  have hsmall : n + m ≤ 9223372036854775807 := by simp only [maxLen] at h63; omega
  rcases hown.2 with ⟨rfl, rfl⟩ | ⟨g0, cap0, cur, rfl, hbg, hg, hnc, hcm, hcs, htake⟩
  · have hr2 := run_append_nil (P := P) w t ty e i z ht hi hz ad m c news hl hnews (by omega) (by omega) (by have hb := hbytes; simp only [Nat.zero_add] at hb; omega)
    rw [hr2] at hr
    injection hr with e1 e2
    injection e1 with e1 _ _
    injection e1 with e1
    injection e1 with e1 _ _
    subst e1
    subst e2
    refine allC_of (heap_alloc_new w.drew _) fun u hu => ?_
    rw [Array.toList_append] at hu
    rcases List.mem_append.1 hu with h | h
    · exact hFn u (by simpa using h)
    · exact zeroCells_all hFz _ u h
  · have hall := allC_all hg (hF g0 rfl)
    by_cases hroom : n + m ≤ cap0
    · have hfit : n * i.size + news.length ≤ cur.size := by rw [hl, hcs, ← Nat.add_mul]; exact Nat.mul_le_mul_right _ hroom
      have hr2 := run_append_room (P := P) w t ty e i ht hi g0 n cap0 cur hg ad m c news hl hnews h1 hroom hfit
      rw [hr2] at hr
      injection hr with e1 e2
      injection e1 with e1 _ _
      injection e1 with e1
      injection e1 with e1 _ _
      subst e1
      subst e2
      refine allC_of (setRow_heap w g0 cur _ e _ hg) fun u hu => ?_
      simp only [List.mem_append] at hu
      rcases hu with (h | h) | h
      · exact hall u (List.mem_of_mem_take h)
      · exact hFn u h
      · exact hall u (List.mem_of_mem_drop h)
    · have holds : ∀ j u, xs[j]? = some u → w.cell? ((⟨g0, 0, none⟩ : Addr).add j) = some u := hown.cells (g := g0) rfl
      have hr2 := run_append_grow (P := P) w t ty e i z ht hi hz ⟨g0, 0, none⟩ n cap0 xs hown.1 holds ad m c news hl hnews (by omega) (by omega) (growslice_fits (by omega) hbytes)
      rw [hr2] at hr
      injection hr with e1 e2
      injection e1 with e1 _ _
      injection e1 with e1
      injection e1 with e1 _ _
      subst e1
      subst e2
      refine allC_of (heap_alloc_new w.drew _) fun u hu => ?_
      rw [Array.toList_append, Array.toList_append] at hu
      rcases List.mem_append.1 hu with h | h
      · rcases List.mem_append.1 h with h | h
        · exact hall u (List.mem_of_mem_take (by rw [htake]; simpa using h))
        · exact hFn u (by simpa using h)
      · exact zeroCells_all hFz _ u h
end Go.Proofs.Aid
namespace Go.Proofs
theorem Tryz.infoBx : (Tryz.prog.info? 72).map (fun i => (i.zero, i.size, i.bytes)) = some (some (.agg #[.int .i64 0, .int .i64 0, .slice none 0 0]), 3, 40) := by kernel_rfl
end Go.Proofs
namespace Go.Proofs.YtfdlopimncodcaaGreatDoor
open Go.RowKit Go.Proofs.Aid Go.Proofs.Bx
theorem bflat3_get : ∀ {rows : List (List Value)} {j i : Nat} {xs : List Value}, (∀ ys ∈ rows, ys.length = 3) → rows[j]? = some xs → i < 3 → rows.flatten[j * 3 + i]? = xs[i]?
  | [], j, i, xs, _, h, _ => by simp at h
  | r :: rs, 0, i, xs, h6, h, hi => by
    obtain rfl : r = xs := by simpa using h
    have := h6 r List.mem_cons_self
    rw [List.flatten_cons, Nat.zero_mul, Nat.zero_add, List.getElem?_append_left (by omega)]
  | r :: rs, j + 1, i, xs, h6, h, hi => by
    have h1 := h6 r List.mem_cons_self
    rw [List.flatten_cons, List.getElem?_append_right (by omega), h1, show (j + 1) * 3 + i - 3 = j * 3 + i by omega]
    exact bflat3_get (fun ys hy => h6 ys (List.mem_cons_of_mem _ hy)) (by simpa using h) hi
def NoTx (u : Value) : Prop := ∀ s, u ≠ .string s
def BxRow (w : World) (x : Bxd) (xs : List Value) : Prop := ∃ lv, xs = [.int .i64 x.v, .int .i64 x.n, lv] ∧ Lts w lv x.ls
def BOwn (w : World) (base : Nat) (v : Value) (L : List Bxd) : Prop := ∃ rows : List (List Value), w.ownsRow base 72 3 v L.length rows.flatten ∧ rows.length = L.length ∧ (∀ (j : Nat) x xs, L[j]? = some x → rows[j]? = some xs → BxRow w x xs) ∧ (∀ xs ∈ rows, xs.length = 3) ∧ ∀ g, v.ownBlock = some g → AllC NoTx w g
theorem BOwn.nil (w : World) (base : Nat) : BOwn w base (.slice none 0 0) [] := ⟨[], World.ownsRow_nil _ _ _ _, rfl, fun j x xs h => (by simp at h), fun xs h => (by cases h), fun g h => (by cases h)⟩
theorem BOwn.keep {w w' : World} {base : Nat} {v : Value} {L : List Bxd} (h : BOwn w base v L) (hk : ∀ q, v.ownBlock = some q → w'.heap[q]? = w.heap[q]?) (ht : TxKeep w w') : BOwn w' base v L := by
  obtain ⟨rows, h1, h2, h3, h4, h5⟩ := h
  refine ⟨rows, own_same h1 fun q hq => hk q hq, h2, fun j x xs hj hx => ?_, h4, fun g hg => (h5 g hg).same (hk g hg)⟩
  obtain ⟨lv, e1, e2⟩ := h3 j x xs hj hx
  exact ⟨lv, e1, e2.tx ht⟩
theorem BOwn.below {w w' : World} {base : Nat} {v : Value} {L : List Bxd} (h : BOwn w base v L) (hb : Below w.heap.size w w') : BOwn w' base v L := by
  obtain ⟨rows, h1, _⟩ := id h
  exact h.keep (fun q hq => hb.block q (h1.lt q hq).2) (TxKeep.of hb)
theorem BOwn.lt {w : World} {base : Nat} {v : Value} {L : List Bxd} (h : BOwn w base v L) {q : Nat} (hq : v.ownBlock = some q) : base ≤ q ∧ q < w.heap.size := by
  obtain ⟨rows, h1, _⟩ := h
  exact h1.lt q hq
theorem bxr_of_own {w : World} {base : Nat} {v : Value} {L : List Bxd} (h : BOwn w base v L) : Bxr w v L := by
  obtain ⟨rows, h1, h2, h3, h4, h5⟩ := h
  rcases h1.2 with ⟨e1, e2⟩ | ⟨g, cap, cur, rfl, hg, hh, _⟩
  · exact ⟨none, 0, by rw [e1, e2], Or.inl (List.eq_nil_of_length_eq_zero e2)⟩
  · refine ⟨_, cap, rfl, Or.inr ⟨g, 0, rfl, fun j x hj => ?_⟩⟩
    have hjl : j < L.length := (List.getElem?_eq_some_iff.1 hj).1
    have hjr : rows[j]? = some (rows[j]'(by omega)) := List.getElem?_eq_getElem (by omega)
    obtain ⟨lv, hx, hs⟩ := h3 j x _ hj hjr
    have hc : ∀ i u, i < 3 → (rows[j]'(by omega))[i]? = some u → w.cell? ⟨g, j * 3 + i, none⟩ = some u := fun i u hi hu => by
      rw [h1.cellAt (j * 3 + i) (by omega), bflat3_get h4 hjr hi]
      exact hu
    rw [Nat.zero_add]
    refine ⟨?_, hc 1 (.int .i64 x.n) (by omega) (by rw [hx]; rfl), lv, hc 2 lv (by omega) (by rw [hx]; rfl), hs⟩
    have := hc 0 (.int .i64 x.v) (by omega) (by rw [hx]; rfl)
    rwa [Nat.add_zero] at this
theorem bown_push {w : World} {base : Nat} {va : Option Addr} {ca : Nat} {L : List Bxd} (h : BOwn w base (.slice va L.length ca) L) (hb : base ≤ w.heap.size) (hL : L.length ≤ 1000) (x : Bxd) (lv : Value) (hf : Lts w lv x.ls) :
    ∃ g cap W, (Builtin.append_ #[33, 33] 33 #[.slice va L.length ca, .slice (some ⟨w.heap.size, 0, none⟩) 1 1]).run Tryz.prog (w.alloc (.cells #[.int .i64 x.v, .int .i64 x.n, lv] 72)) = .ok (.slice (some ⟨g, 0, none⟩) (L.length + 1) cap) W ∧
      BOwn W base (.slice (some ⟨g, 0, none⟩) (L.length + 1) cap) (L ++ [x]) ∧ (W.os = w.os ∧ W.tape = w.tape ∧ W.output = w.output ∧ w.heap.size ≤ W.heap.size ∧ ∀ q, q < w.heap.size → (Value.slice va L.length ca).ownBlock ≠ some q → W.heap[q]? = w.heap[q]?) ∧ TxKeep w W := by
  obtain ⟨rows, h1, h2, h3, h4, h5⟩ := id h
  obtain ⟨j0, hj, hz, hs, hby⟩ := info_parts Tryz.infoBx
  have b8 : Below w.heap.size w (w.alloc (.cells #[.int .i64 x.v, .int .i64 x.n, lv] 72)) := (Below.refl _ _).alloc (Nat.le_refl _) _
  have hnews := World.news_of_block (heap_alloc_new w (.cells #[.int .i64 x.v, .int .i64 x.n, lv] 72))
  obtain ⟨fa, fc, hfv, _⟩ := id hf
  have hcell : ∀ u ∈ [Value.int .i64 x.v, Value.int .i64 x.n, lv], u.oneCell' = true := by
    rw [hfv]
    simp [Value.oneCell']
  have hnt : ∀ u ∈ [Value.int .i64 x.v, Value.int .i64 x.n, lv], NoTx u := by
    rw [hfv]
    intro u hu s
    rcases List.mem_cons.1 hu with rfl | hu
    · exact fun e => by cases e
    rcases List.mem_cons.1 hu with rfl | hu
    · exact fun e => by cases e
    · rw [List.mem_singleton.1 hu]; exact fun e => by cases e
  obtain ⟨g9, cap9, W9, hrun, hown9, hg9, hor9, hlt9, hnt9⟩ := run_append_clean (P := Tryz.prog) (w.alloc (.cells #[.int .i64 x.v, .int .i64 x.n, lv] 72)) NoTx 33 33 base 72 j0 (.agg #[.int .i64 0, .int .i64 0, .slice none 0 0]) 3 40 Tryz.underlying33 hj hz hs hby rfl (by decide) (.slice va L.length ca) L.length _ (h1.alloc _) (fun g hg => (h5 g hg).same (b8.block g (h1.lt g hg).2)) (fun u hu s => by
    have : u = .int .i64 0 ∨ u = .slice none 0 0 := by simpa [Value.cells] using hu
    rcases this with rfl | rfl <;> (intro e; cases e)) ⟨w.heap.size, 0, none⟩ 1 1 [.int .i64 x.v, .int .i64 x.n, lv] rfl hnews hcell hnt (by decide) (by unfold maxLen; omega) (by omega) (by simp; omega)
  have hz9 : (w.alloc (.cells #[.int .i64 x.v, .int .i64 x.n, lv] 72)).heap.size = w.heap.size + 1 := by simp
  have hkeep : ∀ q, q < w.heap.size → (Value.slice va L.length ca).ownBlock ≠ some q → W9.heap[q]? = w.heap[q]? := fun q hq hne => (hg9.block q (by omega) (fun e => hne e.symm)).trans (b8.block q hq)
  have htx : TxKeep w W9 := fun g i s hc => hkeep g (World.block_lt_of_cell? _ _ hc) fun e => h5 g e i _ hc s rfl
  refine ⟨g9, cap9, W9, hrun, ⟨rows ++ [[.int .i64 x.v, .int .i64 x.n, lv]], ?_, by simp [h2], fun j y ys hj hy => ?_, fun ys hy => ?_, fun g hg => ?_⟩, ⟨hg9.os.trans b8.os, hg9.tape.trans b8.tape, hg9.output.trans b8.output, Nat.le_trans b8.size hg9.size, hkeep⟩, htx⟩
  · rw [List.length_append, List.flatten_append, List.flatten_cons, List.flatten_nil, List.append_nil]
    exact hown9
  · by_cases hjl : j < L.length
    · rw [List.getElem?_append_left hjl] at hj
      rw [List.getElem?_append_left (by omega)] at hy
      obtain ⟨fu, e1, e2⟩ := h3 j y ys hj hy
      exact ⟨fu, e1, e2.tx htx⟩
    · have : j < (L ++ [x]).length := (List.getElem?_eq_some_iff.1 hj).1
      obtain rfl : j = L.length := by simp at this; omega
      rw [List.getElem?_append_right (Nat.le_refl _), Nat.sub_self] at hj
      rw [List.getElem?_append_right (by omega), h2, Nat.sub_self] at hy
      obtain rfl : x = y := by simpa using hj
      obtain rfl := Option.some.inj hy
      exact ⟨lv, rfl, hf.tx htx⟩
  · rcases List.mem_append.1 hy with h | h
    · exact h4 ys h
    · rw [List.mem_singleton.1 h]; rfl
  · obtain rfl : g9 = g := by simpa [Value.ownBlock] using hg
    exact hnt9
structure Hse (w : World) (hb mb : Nat) (l : Bxs) (nx : Int) (wv : Value) (W : List Nm) (C : Nat → Bxd) : Prop where
  hs : HsAt w hb mb l nx wv
  ws : Sl w wv W
  bx : ∀ p ∈ l, BoxAt w p.2 (C p.2).v (C p.2).n (C p.2).ls
theorem Hse.below {w w' : World} {hb mb : Nat} {l : Bxs} {nx : Int} {wv : Value} {W : List Nm} {C : Nat → Bxd} (h : Hse w hb mb l nx wv W C) (hb' : Below w.heap.size w w') : Hse w' hb mb l nx wv W C :=
  ⟨h.hs.below hb' (Nat.le_refl _), h.ws.below hb' (Nat.le_refl _), fun p hp => (h.bx p hp).below hb' (Nat.le_refl _)⟩
def svOf (l : Bxs) (W : List Nm) (nx : Int) (C : Nat → Bxd) : Svd := ⟨namesB l, l.map fun p => C p.2, W, nx⟩
structure Sml (l : Bxs) (W : List Nm) (C : Nat → Bxd) : Prop where
  len : l.length ≤ 30
  wlen : W.length ≤ 60
  nm : ∀ p ∈ l, p.1.length ≤ 60
  ls : ∀ p ∈ l, (C p.2).ls.length ≤ 900
  fl : ∀ p ∈ l, ∀ y ∈ (C p.2).ls, y.flags.length ≤ 400
end Go.Proofs.YtfdlopimncodcaaGreatDoor
