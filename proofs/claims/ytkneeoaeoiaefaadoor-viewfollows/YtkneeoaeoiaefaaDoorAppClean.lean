/-
  append to a row of the call's own, whose cells are all of a kind (F): so are the new row's, also those behind its length. Of no program.
-/
import Derived.Test.YtkneeoaeoiaefaaDoorAid
import Derived.Maps.AppendAt
namespace Go.Proofs.Aid
open Go.RowKit

/-- All cells of a block are of a kind. -/
def AllC (F : Value → Prop) (w : World) (g : Nat) : Prop := ∀ i u, w.cell? ⟨g, i, none⟩ = some u → F u
theorem AllC.same {F : Value → Prop} {w w' : World} {g : Nat} (h : AllC F w g) (e : w'.heap[g]? = w.heap[g]?) : AllC F w' g := fun i u hu => h i u (by rw [← hu]; exact (World.cell?_of_block (w := w) (a := ⟨g, i, none⟩) e).symm)
theorem allC_of {F : Value → Prop} {w : World} {g : Nat} {cs : Array Value} {t : TypeId} {fz : Nat × Nat} (h : w.heap[g]? = some (.cells cs t fz)) (hc : ∀ u ∈ cs.toList, F u) : AllC F w g := fun i u hu => by
  simp only [World.cell?, h] at hu
  have h1 : cs.toList[i]? = some u := by simpa using hu
  exact hc u (List.mem_of_getElem? h1)
theorem allC_all {F : Value → Prop} {w : World} {g : Nat} {cs : Array Value} {t : TypeId} {fz : Nat × Nat} (h : w.heap[g]? = some (.cells cs t fz)) (hc : AllC F w g) : ∀ u ∈ cs.toList, F u := fun u hu => by
  obtain ⟨i, hi⟩ := List.getElem?_of_mem hu
  exact hc i u (by simp only [World.cell?, h]; simpa using hi)
theorem zeroCells_all {F : Value → Prop} {z : Array Value} (hz : ∀ u ∈ z.toList, F u) (k : Nat) : ∀ u ∈ (Builtin.zeroCells z k).toList, F u := fun u hu => by
  unfold Builtin.zeroCells at hu
  simp only [Array.toList_map, Array.toList_range, List.mem_map, List.mem_range] at hu
  obtain ⟨a, ha, rfl⟩ := hu
  have h0 : 0 < z.size := by
    rcases Nat.eq_zero_or_pos z.size with h | h
    · rw [h, Nat.mul_zero] at ha; omega
    · exact h
  have hm := Nat.mod_lt a h0
  rw [getElem!_pos z (a % z.size) hm]
  exact hz _ (by simp)
variable {P : Program} (w : World)
theorem run_append_clean (F : Value → Prop) (t ty : TypeId) (base : Nat) (e : TypeId) (i : TypeInfo) (z : Value) (size bytes : Nat) (ht : P.underlying t = some (.slice e)) (hi : P.info? e = some i) (hz : i.zero = some z)
    (hsize : i.size = size) (hby : i.bytes = bytes) (hzs : z.cells.size = size) (hsz : 0 < size)
    (v : Value) (n : Nat) (xs : List Value) (hown : w.ownsRow base e size v n xs) (hF : ∀ g, v.ownBlock = some g → AllC F w g) (hFz : ∀ u ∈ z.cells.toList, F u)
    (ad : Addr) (m c : Nat) (news : List Value) (hl : news.length = m * size) (hnews : ∀ j u, news[j]? = some u → w.cell? (ad.add j) = some u) (h1 : ∀ u ∈ news, u.oneCell' = true) (hFn : ∀ u ∈ news, F u)
    (hm : 0 < m) (h63 : n + m ≤ maxLen) (hbytes : (n + m) * bytes ≤ 140737488355328) (hbase : base ≤ w.heap.size) :
    ∃ g cap w', (Builtin.append_ #[t, t] ty #[v, .slice (some ad) m c]).run P w = .ok (.slice (some ⟨g, 0, none⟩) (n + m) cap) w' ∧
      w'.ownsRow base e size (.slice (some ⟨g, 0, none⟩) (n + m) cap) (n + m) (xs ++ news) ∧ w.grownBy w' v.ownBlock ∧ (v.ownBlock = some g ∨ g = w.heap.size) ∧ g < w'.heap.size ∧ AllC F w' g := by
  obtain ⟨g, cap, w', hr, h2, h3, h4, h5⟩ := run_append_lies (P := P) w t ty base e i z size bytes ht hi hz hsize hby hzs hsz v n xs hown ad m c news hl hnews h1 hm h63 hbytes hbase _ rfl
  refine ⟨g, cap, w', hr, h2, h3, h4, h5, ?_⟩
  subst hsize
  subst hby
  have hsmall : n + m ≤ 9223372036854775807 := by simp only [maxLen] at h63; omega
  rcases hown.2 with ⟨rfl, rfl⟩ | ⟨g0, cap0, cur, rfl, hbg, hg, hnc, hcm, hcs, htake⟩
  · have hr2 := run_append_nil (P := P) w t ty e i z ht hi hz ad m c news hl hnews (by omega) (by omega) (by have hb := hbytes; simp only [Nat.zero_add] at hb; omega)
    rw [hr2] at hr
    injection hr with e1 e2
    injection e1 with e1 _ _
    injection e1 with e1
    injection e1 with e1 _ _
    subst e1
    subst e2
    refine allC_of (heap_alloc_new w.drew _) fun u hu => ?_
    rw [Array.toList_append] at hu
    rcases List.mem_append.1 hu with h | h
    · exact hFn u (by simpa using h)
    · exact zeroCells_all hFz _ u h
  · have hall := allC_all hg (hF g0 rfl)
    by_cases hroom : n + m ≤ cap0
    · have hfit : n * i.size + news.length ≤ cur.size := by rw [hl, hcs, ← Nat.add_mul]; exact Nat.mul_le_mul_right _ hroom
      have hr2 := run_append_room (P := P) w t ty e i ht hi g0 n cap0 cur hg ad m c news hl hnews h1 hroom hfit
      rw [hr2] at hr
      injection hr with e1 e2
      injection e1 with e1 _ _
      injection e1 with e1
      injection e1 with e1 _ _
      subst e1
      subst e2
      refine allC_of (setRow_heap w g0 cur _ e _ hg) fun u hu => ?_
      simp only [List.mem_append] at hu
      rcases hu with (h | h) | h
      · exact hall u (List.mem_of_mem_take h)
      · exact hFn u h
      · exact hall u (List.mem_of_mem_drop h)
    · have holds : ∀ j u, xs[j]? = some u → w.cell? ((⟨g0, 0, none⟩ : Addr).add j) = some u := hown.cells (g := g0) rfl
      have hr2 := run_append_grow (P := P) w t ty e i z ht hi hz ⟨g0, 0, none⟩ n cap0 xs hown.1 holds ad m c news hl hnews (by omega) (by omega) (growslice_fits (by omega) hbytes)
      rw [hr2] at hr
      injection hr with e1 e2
      injection e1 with e1 _ _
      injection e1 with e1
      injection e1 with e1 _ _
      subst e1
      subst e2
      refine allC_of (heap_alloc_new w.drew _) fun u hu => ?_
      rw [Array.toList_append, Array.toList_append] at hu
      rcases List.mem_append.1 hu with h | h
      · rcases List.mem_append.1 h with h | h
        · exact hall u (List.mem_of_mem_take (by rw [htake]; simpa using h))
        · exact hFn u (by simpa using h)
      · exact zeroCells_all hFz _ u h
end Go.Proofs.Aid
