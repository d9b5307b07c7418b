/-
  What a house has, saved: in memory; Right says true of what a house ma, and more.
-/
import Derived.Test.YtfdlopimncodcaaGreatDoorBpCiShelf
import Derived.Maps.AppendAt
namespace Go.Proofs.YtfdlopimncodcaaGreatDoor
open Go.RowKit Go.Proofs.Aid Go.Proofs.Bx

/-- All that a house has. -/
structure Svd where
  names : List Nm
  boxes : List Bxd
  wants : List Nm
  next : Int
/-- It lies there. -/
def SvAt (w : World) (nv bv wv : Value) (S : Svd) : Prop := Sl w nv S.names ∧ Bxr w bv S.boxes ∧ Sl w wv S.wants
theorem SvAt.below {w w' : World} {nv bv wv : Value} {S : Svd} {B : Nat} (h : SvAt w nv bv wv S) (hb : Below B w w') (hB : w.heap.size ≤ B) : SvAt w' nv bv wv S := ⟨h.1.below hb hB, h.2.1.below hb hB, h.2.2.below hb hB⟩
/-- A house may have it. -/
structure SvOk (S : Svd) : Prop where
  len : S.names.length = S.boxes.length
  most : S.names.length ≤ 30
  wmost : S.wants.length ≤ 60
  nsorted : S.names.Pairwise (· < ·)
  wsorted : S.wants.Pairwise (· < ·)
  nname : ∀ n ∈ S.names, nameB n = some n
  wname : ∀ n ∈ S.wants, nameB n = some n
  inbox : inboxN ∈ S.names
  whole : ∀ n ∈ S.names, hangB S.names ⟨n.toArray⟩ = false
  next : 1 ≤ S.next ∧ S.next ≤ 2147483647
  boxes : ∀ x ∈ S.boxes, rightB x.v x.n x.ls = true ∧ x.v < S.next ∧ FitB x
  once : (S.boxes.map Bxd.v).Nodup
set_option maxHeartbeats 8000000 in
set_option maxRecDepth 100000 in
theorem right_true (nv bv wv : Value) (S : Svd) (w : World) (h : SvAt w nv bv wv S) (hO : SvOk S) (hE : NEnv w) (hg : SysAt w) :
    Calls Tryz.prog 13 #[.agg #[nv, bv, wv, .int .i64 S.next]] w fun e w' => e = .returned (.bool true) ∧ Below w.heap.size w w' := by
  obtain ⟨na, nc, rfl, _⟩ := id h.1
  obtain ⟨ba, bc, rfl, _⟩ := id h.2.1
  obtain ⟨wa, wc, rfl, _⟩ := id h.2.2
  obtain ⟨N, hN⟩ : ∃ m, S.names.length = m := ⟨_, rfl⟩
  obtain ⟨M, hM⟩ : ∃ m, S.wants.length = m := ⟨_, rfl⟩
  obtain ⟨X, hX⟩ : ∃ m, S.next = m := ⟨_, rfl⟩
  have hBn : S.boxes.length = N := by rw [← hN, hO.len]
  have e0 : N ≤ 30 := by rw [← hN]; exact hO.most
  have e00 : M ≤ 60 := by rw [← hM]; exact hO.wmost
  have e01 : 1 ≤ X ∧ X ≤ 2147483647 := by rw [← hX]; exact hO.next
  have HC : Hid (∀ W, Below w.heap.size w W → (Calls Tryz.prog 53 #[.slice na N nc] W fun e w' => e = .returned (.bool true) ∧ Below W.heap.size W w') ∧ (Calls Tryz.prog 53 #[.slice wa M wc] W fun e w' => e = .returned (.bool true) ∧ Below W.heap.size W w') ∧
      (Calls Tryz.prog 54 #[.slice na N nc] W fun e w' => e = .returned (.bool true) ∧ Below W.heap.size W w') ∧ (Calls Tryz.prog 55 #[.slice ba N bc, .int .i64 X] W fun e w' => e = .returned (.bool true) ∧ Below W.heap.size W w')) := fun W hW => by
    have hS := h.below hW (Nat.le_refl _)
    have hl1 : S.names.length ≤ 1000 := by have := hO.most; omega
    have hl2 : S.wants.length ≤ 1000 := by have := hO.wmost; omega
    have hl3 : S.boxes.length ≤ 1000 := by omega
    have hxs : ∀ n ∈ S.names, n.length ≤ 1000 := fun n hn => by have := nameB_len (hO.nname n hn); omega
    refine ⟨?_, ?_, ?_, ?_⟩
    · have := rnames_true _ S.names W (hE.below hW) hS.1 hl1 hO.nname hO.nsorted
      rw [hN] at this
      exact this
    · have := rnames_true _ S.wants W (hE.below hW) hS.2.2 hl2 hO.wname hO.wsorted
      rw [hM] at this
      exact this
    · have := whole_true _ S.names W hS.1 hO.nsorted hl1 hxs hO.inbox hO.whole
      rw [hN] at this
      exact this
    · have := rboxes_true _ S.boxes S.next W hS.2.1 (hg.below hW hg.lt) hl3 hO.boxes hO.once
      rw [hBn, hX] at this
      exact this
  rw [hN, hBn, hM, hX]
  have b1 : Below w.heap.size w (w.alloc (.cells #[.slice na N nc, .slice ba N bc, .slice wa M wc, .int .i64 X] 35)) := (Below.refl _ _).alloc (Nat.le_refl _) _
  have e1 := heap_alloc_new w (.cells #[.slice na N nc, .slice ba N bc, .slice wa M wc, .int .i64 X] 35)
  obtain ⟨W1, hW1⟩ : ∃ W, w.alloc (.cells #[.slice na N nc, .slice ba N bc, .slice wa M wc, .int .i64 X] 35) = W := ⟨_, rfl⟩
  rw [hW1] at b1 e1
  have hlt1 : w.heap.size < W1.heap.size := (Array.getElem?_eq_some_iff.1 e1).1
  have HRD : Hid (∀ W, Below W1.heap.size W1 W → W.cell? ⟨w.heap.size, 0, none⟩ = some (.slice na N nc) ∧ W.cell? ⟨w.heap.size, 1, none⟩ = some (.slice ba N bc) ∧ W.cell? ⟨w.heap.size, 2, none⟩ = some (.slice wa M wc) ∧ W.cell? ⟨w.heap.size, 3, none⟩ = some (.int .i64 X)) := fun W hW => by
    have e2 := (hW.block _ hlt1).trans e1
    exact ⟨rd_cell e2 rfl, rd_cell e2 rfl, rd_cell e2 rfl, rd_cell e2 rfl⟩
  obtain ⟨s0, s1, s2, s3⟩ := HRD.out W1 (Below.refl _ _)
  obtain ⟨c1, _⟩ := HC.out W1 b1
  have HB1 : Hid (Below w.heap.size w W1) := b1
  have d1 : decide ((N : Int) ≤ 30) = true := decide_eq_true (by omega)
  have d2 : decide ((M : Int) ≤ 60) = true := decide_eq_true (by omega)
  have d3 : decide ((1 : Int) ≤ X) = true := decide_eq_true e01.1
  have d4 : decide (X ≤ 2147483647) = true := decide_eq_true e01.2
  clear h hO hE hg hN hM hX hBn b1 e1
  go_enter Tryz.func13, Tryz.ntmps13
  go_wp2_with fail
  refine c1.mono ?_
  rintro e w2 ⟨rfl, hb2⟩
  have hz2 := hb2.size
  have hB2 : Below w.heap.size w w2 := HB1.out.trans (hb2.mono HB1.out.size)
  obtain ⟨t0, t1, t2, t3⟩ := HRD.out w2 hb2
  obtain ⟨_, c2, _⟩ := HC.out w2 hB2
  have HB2 : Hid (Below w.heap.size w w2 ∧ Below W1.heap.size W1 w2) := ⟨hB2, hb2⟩
  clear c1 hb2 hB2 s0 s1 s2 s3
  go_wp2_with fail
  refine c2.mono ?_
  rintro e w3 ⟨rfl, hb3⟩
  have hB3 : Below w.heap.size w w3 := HB2.out.1.trans (hb3.mono HB2.out.1.size)
  have hA3 : Below W1.heap.size W1 w3 := HB2.out.2.trans (hb3.mono hz2)
  obtain ⟨t0', t1', t2', t3'⟩ := HRD.out w3 hA3
  obtain ⟨_, _, c3, _⟩ := HC.out w3 hB3
  have HB3 : Hid (Below w.heap.size w w3 ∧ Below W1.heap.size W1 w3) := ⟨hB3, hA3⟩
  have hz3 := hA3.size
  clear c2 hb3 hB3 hA3 t0 t1 t2 t3
  go_wp2_with fail
  refine c3.mono ?_
  rintro e w4 ⟨rfl, hb4⟩
  have hB4 : Below w.heap.size w w4 := HB3.out.1.trans (hb4.mono HB3.out.1.size)
  have hA4 : Below W1.heap.size W1 w4 := HB3.out.2.trans (hb4.mono hz3)
  obtain ⟨r0, r1, r2, r3⟩ := HRD.out w4 hA4
  obtain ⟨_, _, _, c4⟩ := HC.out w4 hB4
  have HB4 : Hid (Below w.heap.size w w4) := hB4
  clear c3 hb4 hB4 hA4 t0' t1' t2' t3'
  go_wp2_with fail
  refine c4.mono ?_
  rintro e w5 ⟨rfl, hb5⟩
  have HB5 : Hid (Below w.heap.size w w5) := HB4.out.trans (hb5.mono HB4.out.size)
  clear c4 hb5
  go_wp2_with fail
  go_ret
  exact ⟨rfl, HB5.out⟩
end Go.Proofs.YtfdlopimncodcaaGreatDoor
namespace Go.Proofs.Aid
open Go.RowKit

/-- All cells of a block are of a kind. -/
def AllC (F : Value → Prop) (w : World) (g : Nat) : Prop := ∀ i u, w.cell? ⟨g, i, none⟩ = some u → F u
theorem AllC.same {F : Value → Prop} {w w' : World} {g : Nat} (h : AllC F w g) (e : w'.heap[g]? = w.heap[g]?) : AllC F w' g := fun i u hu => h i u (by rw [← hu]; exact (World.cell?_of_block (w := w) (a := ⟨g, i, none⟩) e).symm)
theorem allC_of {F : Value → Prop} {w : World} {g : Nat} {cs : Array Value} {t : TypeId} {fz : Nat × Nat} (h : w.heap[g]? = some (.cells cs t fz)) (hc : ∀ u ∈ cs.toList, F u) : AllC F w g := fun i u hu => by
  simp only [World.cell?, h] at hu
  have h1 : cs.toList[i]? = some u := by simpa using hu
  exact hc u (List.mem_of_getElem? h1)
theorem allC_all {F : Value → Prop} {w : World} {g : Nat} {cs : Array Value} {t : TypeId} {fz : Nat × Nat} (h : w.heap[g]? = some (.cells cs t fz)) (hc : AllC F w g) : ∀ u ∈ cs.toList, F u := fun u hu => by
  obtain ⟨i, hi⟩ := List.getElem?_of_mem hu
  exact hc i u (by simp only [World.cell?, h]; simpa using hi)
theorem zeroCells_all {F : Value → Prop} {z : Array Value} (hz : ∀ u ∈ z.toList, F u) (k : Nat) : ∀ u ∈ (Builtin.zeroCells z k).toList, F u := fun u hu => by
  unfold Builtin.zeroCells at hu
  simp only [Array.toList_map, Array.toList_range, List.mem_map, List.mem_range] at hu
  obtain ⟨a, ha, rfl⟩ := hu
  have h0 : 0 < z.size := by
    rcases Nat.eq_zero_or_pos z.size with h | h
    · rw [h, Nat.mul_zero] at ha; omega
    · exact h
  have hm := Nat.mod_lt a h0
  rw [getElem!_pos z (a % z.size) hm]
  exact hz _ (by simp)
variable {P : Program} (w : World)
theorem run_append_clean (F : Value → Prop) (t ty : TypeId) (base : Nat) (e : TypeId) (i : TypeInfo) (z : Value) (size bytes : Nat) (ht : P.underlying t = some (.slice e)) (hi : P.info? e = some i) (hz : i.zero = some z)
    (hsize : i.size = size) (hby : i.bytes = bytes) (hzs : z.cells.size = size) (hsz : 0 < size)
    (v : Value) (n : Nat) (xs : List Value) (hown : w.ownsRow base e size v n xs) (hF : ∀ g, v.ownBlock = some g → AllC F w g) (hFz : ∀ u ∈ z.cells.toList, F u)
    (ad : Addr) (m c : Nat) (news : List Value) (hl : news.length = m * size) (hnews : ∀ j u, news[j]? = some u → w.cell? (ad.add j) = some u) (h1 : ∀ u ∈ news, u.oneCell' = true) (hFn : ∀ u ∈ news, F u)
    (hm : 0 < m) (h63 : n + m ≤ maxLen) (hbytes : (n + m) * bytes ≤ 140737488355328) (hbase : base ≤ w.heap.size) :
    ∃ g cap w', (Builtin.append_ #[t, t] ty #[v, .slice (some ad) m c]).run P w = .ok (.slice (some ⟨g, 0, none⟩) (n + m) cap) w' ∧
      w'.ownsRow base e size (.slice (some ⟨g, 0, none⟩) (n + m) cap) (n + m) (xs ++ news) ∧ w.grownBy w' v.ownBlock ∧ (v.ownBlock = some g ∨ g = w.heap.size) ∧ g < w'.heap.size ∧ AllC F w' g := by
  obtain ⟨g, cap, w', hr, h2, h3, h4, h5⟩ := run_append_lies (P := P) w t ty base e i z size bytes ht hi hz hsize hby hzs hsz v n xs hown ad m c news hl hnews h1 hm h63 hbytes hbase _ rfl
  refine ⟨g, cap, w', hr, h2, h3, h4, h5, ?_⟩
  subst hsize
  subst hby
  have hsmall : n + m ≤ 9223372036854775807 := by simp only [maxLen] at h63; omega
  rcases hown.2 with ⟨rfl, rfl⟩ | ⟨g0, cap0, cur, rfl, hbg, hg, hnc, hcm, hcs, htake⟩
  · have hr2 := run_append_nil (P := P) w t ty e i z ht hi hz ad m c news hl hnews (by omega) (by omega) (by have hb := hbytes; simp only [Nat.zero_add] at hb; omega)
    rw [hr2] at hr
    injection hr with e1 e2
    injection e1 with e1 _ _
    injection e1 with e1
    injection e1 with e1 _ _
    subst e1
    subst e2
    refine allC_of (heap_alloc_new w.drew _) fun u hu => ?_
    rw [Array.toList_append] at hu
    rcases List.mem_append.1 hu with h | h
    · exact hFn u (by simpa using h)
    · exact zeroCells_all hFz _ u h
  · have hall := allC_all hg (hF g0 rfl)
    by_cases hroom : n + m ≤ cap0
    · have hfit : n * i.size + news.length ≤ cur.size := by rw [hl, hcs, ← Nat.add_mul]; exact Nat.mul_le_mul_right _ hroom
      have hr2 := run_append_room (P := P) w t ty e i ht hi g0 n cap0 cur hg ad m c news hl hnews h1 hroom hfit
      rw [hr2] at hr
      injection hr with e1 e2
      injection e1 with e1 _ _
      injection e1 with e1
      injection e1 with e1 _ _
      subst e1
      subst e2
      refine allC_of (setRow_heap w g0 cur _ e _ hg) fun u hu => ?_
      simp only [List.mem_append] at hu
      rcases hu with (h | h) | h
      · exact hall u (List.mem_of_mem_take h)
      · exact hFn u h
      · exact hall u (List.mem_of_mem_drop h)
    · have holds : ∀ j u, xs[j]? = some u → w.cell? ((⟨g0, 0, none⟩ : Addr).add j) = some u := hown.cells (g := g0) rfl
      have hr2 := run_append_grow (P := P) w t ty e i z ht hi hz ⟨g0, 0, none⟩ n cap0 xs hown.1 holds ad m c news hl hnews (by omega) (by omega) (growslice_fits (by omega) hbytes)
      rw [hr2] at hr
      injection hr with e1 e2
      injection e1 with e1 _ _
      injection e1 with e1
      injection e1 with e1 _ _
      subst e1
      subst e2
      refine allC_of (heap_alloc_new w.drew _) fun u hu => ?_
      rw [Array.toList_append, Array.toList_append] at hu
      rcases List.mem_append.1 hu with h | h
      · rcases List.mem_append.1 h with h | h
        · exact hall u (List.mem_of_mem_take (by rw [htake]; simpa using h))
        · exact hFn u (by simpa using h)
      · exact zeroCells_all hFz _ u h
end Go.Proofs.Aid
