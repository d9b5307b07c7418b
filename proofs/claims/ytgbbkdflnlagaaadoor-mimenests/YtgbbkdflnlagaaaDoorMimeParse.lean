/-
  What mime.Parse does.
-/
import Derived.Test.YtgbbkdflnlagaaaDoorMimePart
namespace Go.Proofs.YtgbbkdflnlagaaaDoor
open Go.RowKit Go.Proofs.Aid Go.Proofs.Sq Go.Proofs.Hd Go.Proofs.Mm

def ParsePost (s : ByteArray) (w : World) (e : Ending) (w' : World) : Prop :=
  Below w.heap.size w w' ∧ ((parseP s.data.toList = none ∧ e = .returned (.tuple #[.agg zeroSix.toArray, .iface 44 (.int .i64 4)])) ∨
    ∃ p xs, parseP s.data.toList = some p ∧ e = .returned (.tuple #[.agg xs.toArray, .nilIface]) ∧ Six w' (fun k => w.heap.size ≤ k) p xs)
set_option maxHeartbeats 4000000 in
set_option maxRecDepth 100000 in
theorem parse_is (s : ByteArray) (m : Int) (w : World) (hs : s.size ≤ 90000) (hm : w.cell? ⟨0, 0, none⟩ = some (.int .i64 m)) :
    Calls Tryd.prog 5 #[.string s] w (ParsePost s w) := by
  have hgl : 0 < w.heap.size := World.block_lt_of_cell? _ _ hm
  have hb1 : Below w.heap.size w (w.alloc (.cells #[.string ⟨#[]⟩, .string ⟨#[]⟩, .int .i64 0, .int .i64 0, .int .i64 0, .slice none 0 0] 26)) := (Below.refl _ _).alloc (Nat.le_refl _) _
  have e1 := heap_alloc_new w (.cells #[.string ⟨#[]⟩, .string ⟨#[]⟩, .int .i64 0, .int .i64 0, .int .i64 0, .slice none 0 0] 26)
  have z1 : (w.alloc (.cells #[.string ⟨#[]⟩, .string ⟨#[]⟩, .int .i64 0, .int .i64 0, .int .i64 0, .slice none 0 0] 26)).heap.size = w.heap.size + 1 := by simp
  have e2 := heap_alloc_new (w.alloc (.cells #[.string ⟨#[]⟩, .string ⟨#[]⟩, .int .i64 0, .int .i64 0, .int .i64 0, .slice none 0 0] 26)) (.cells #[.string s, .int .i64 0] 40)
  have hb2 : Below (w.heap.size + 1) (w.alloc (.cells #[.string ⟨#[]⟩, .string ⟨#[]⟩, .int .i64 0, .int .i64 0, .int .i64 0, .slice none 0 0] 26)) ((w.alloc (.cells #[.string ⟨#[]⟩, .string ⟨#[]⟩, .int .i64 0, .int .i64 0, .int .i64 0, .slice none 0 0] 26)).alloc (.cells #[.string s, .int .i64 0] 40)) := (Below.refl _ _).alloc (by rw [z1]; exact Nat.le_refl _) _
  have z2 : ((w.alloc (.cells #[.string ⟨#[]⟩, .string ⟨#[]⟩, .int .i64 0, .int .i64 0, .int .i64 0, .slice none 0 0] 26)).alloc (.cells #[.string s, .int .i64 0] 40)).heap.size = w.heap.size + 1 + 1 := by simp
  rw [z1] at e2
  have hb02 := hb1.trans (hb2.mono (Nat.le_succ _))
  have cP := part_is s hs (w.heap.size + 1) m 7 0 s.size 0 0 ((w.alloc (.cells #[.string ⟨#[]⟩, .string ⟨#[]⟩, .int .i64 0, .int .i64 0, .int .i64 0, .slice none 0 0] 26)).alloc (.cells #[.string s, .int .i64 0] 40)) rfl (Nat.zero_le _) (Nat.le_refl _) (by omega) e2 ((hb02.cell (p := ⟨0, 0, none⟩) hgl).trans hm)
  have eR2 := (hb2.block w.heap.size (Nat.lt_succ_self _)).trans e1
  obtain ⟨Z, hZ⟩ : ∃ Z, partF s.data.toList 7 0 s.size 0 = Z := ⟨_, rfl⟩
  have HZ : Hid (parseP s.data.toList = Z.2) := by show _ = _; unfold parseP; rw [list_size, hZ]
  rw [hZ] at cP
  clear hZ hb1 e1 e2 hb2 hm
  go_enter Tryd.func5, Tryd.ntmps5
  go_wp2_with fail
  refine cP.mono ?_
  clear cP
  rintro e w3 ⟨hR3, B3, hcase⟩
  have z3 := B3.size
  rw [z2] at z3
  have hb03 : Below w.heap.size w w3 := hb02.trans (B3.below (by omega) (by omega))
  have eR3 := (B3.block w.heap.size (by omega) (by omega)).trans eR2
  clear hR3 hb02 eR2
  rcases hcase with ⟨hn, rfl⟩ | ⟨p, xs, hp, rfl, hsix⟩
  · have HGN : Hid (parseP s.data.toList = none) := HZ.out.trans hn
    rw [show zeroSix.toArray = #[.string ⟨#[]⟩, .string ⟨#[]⟩, .int .i64 0, .int .i64 0, .int .i64 0, .slice none 0 0] from rfl]
    have hbA : Below w3.heap.size w3 (w3.alloc (.cells #[.string ⟨#[]⟩, .string ⟨#[]⟩, .int .i64 0, .int .i64 0, .int .i64 0, .slice none 0 0] 26)) := (Below.refl _ _).alloc (Nat.le_refl _) _
    have eR4 := (hbA.block w.heap.size (by omega)).trans eR3
    have hb04 := hb03.trans (hbA.mono (by omega))
    have r0 := rd_cell (j := 0) eR4 rfl
    have r1 := rd_cell (j := 1) eR4 rfl
    have r2 := rd_cell (j := 2) eR4 rfl
    have r3 := rd_cell (j := 3) eR4 rfl
    have r4 := rd_cell (j := 4) eR4 rfl
    have r5 := rd_cell (j := 5) eR4 rfl
    have rf0 := rd_free eR4 0
    have rf1 := rd_free eR4 1
    have rf2 := rd_free eR4 2
    have rf3 := rd_free eR4 3
    have rf4 := rd_free eR4 4
    have rf5 := rd_free eR4 5
    have v0 := setm_read (i := 0) eR4 (by simp) (.string ⟨#[]⟩)
    have v1 := setm_read (i := 1) (rd_set (i := 0) (.string ⟨#[]⟩) eR4) (by simp) (.string ⟨#[]⟩)
    have v2 := setm_read (i := 2) (rd_set (i := 1) (.string ⟨#[]⟩) (rd_set (i := 0) (.string ⟨#[]⟩) eR4)) (by simp) (.int .i64 0)
    have v3 := setm_read (i := 3) (rd_set (i := 2) (.int .i64 0) (rd_set (i := 1) (.string ⟨#[]⟩) (rd_set (i := 0) (.string ⟨#[]⟩) eR4))) (by simp) (.int .i64 0)
    have v4 := setm_read (i := 4) (rd_set (i := 3) (.int .i64 0) (rd_set (i := 2) (.int .i64 0) (rd_set (i := 1) (.string ⟨#[]⟩) (rd_set (i := 0) (.string ⟨#[]⟩) eR4)))) (by simp) (.int .i64 0)
    have v5 := setm_read (i := 5) (rd_set (i := 4) (.int .i64 0) (rd_set (i := 3) (.int .i64 0) (rd_set (i := 2) (.int .i64 0) (rd_set (i := 1) (.string ⟨#[]⟩) (rd_set (i := 0) (.string ⟨#[]⟩) eR4))))) (by simp) (.slice none 0 0)
    clear hbA
    go_wp2_with fail
    refine bodyPost_ret (v := .tuple #[.agg #[.string ⟨#[]⟩, .string ⟨#[]⟩, .int .i64 0, .int .i64 0, .int .i64 0, .slice none 0 0], .iface 44 (.int .i64 4)]) (by simp [results, Tryd.results5, go_sem, v0, v1, v2, v3, v4, v5]) rfl ?_
    exact ⟨(six_but (rb := w.heap.size) (to_but hb04) (Nat.le_refl _) _ _ _ _ _ _).below (Nat.le_refl _) (Nat.le_refl _), Or.inl ⟨HGN.out, rfl⟩⟩
  · obtain ⟨tb1, bb1, l1, h1, n1, a1, k1, c1, rfl⟩ := six_cells hsix
    rw [show ([.string tb1, .string bb1, .int .i64 (l1 : Int), .int .i64 (h1 : Int), .int .i64 (n1 : Int), .slice a1 k1 c1] : List Value).toArray = #[.string tb1, .string bb1, .int .i64 (l1 : Int), .int .i64 (h1 : Int), .int .i64 (n1 : Int), .slice a1 k1 c1] from rfl]
    have HGS : Hid (parseP s.data.toList = some p) := HZ.out.trans hp
    have hbA : Below w3.heap.size w3 (w3.alloc (.cells #[.string tb1, .string bb1, .int .i64 (l1 : Int), .int .i64 (h1 : Int), .int .i64 (n1 : Int), .slice a1 k1 c1] 26)) := (Below.refl _ _).alloc (Nat.le_refl _) _
    have eA := heap_alloc_new w3 (.cells #[.string tb1, .string bb1, .int .i64 (l1 : Int), .int .i64 (h1 : Int), .int .i64 (n1 : Int), .slice a1 k1 c1] 26)
    have eR4 := (hbA.block w.heap.size (by omega)).trans eR3
    have hb04 := hb03.trans (hbA.mono (by omega))
    have hs4 := hsix.under hbA
    have t0 := rd_cell (j := 0) eA rfl
    have t1 := rd_cell (j := 1) eA rfl
    have t2 := rd_cell (j := 2) eA rfl
    have t3 := rd_cell (j := 3) eA rfl
    have t4 := rd_cell (j := 4) eA rfl
    have t5 := rd_cell (j := 5) eA rfl
    have r0 := rd_cell (j := 0) eR4 rfl
    have r1 := rd_cell (j := 1) eR4 rfl
    have r2 := rd_cell (j := 2) eR4 rfl
    have r3 := rd_cell (j := 3) eR4 rfl
    have r4 := rd_cell (j := 4) eR4 rfl
    have r5 := rd_cell (j := 5) eR4 rfl
    have rf0 := rd_free eR4 0
    have rf1 := rd_free eR4 1
    have rf2 := rd_free eR4 2
    have rf3 := rd_free eR4 3
    have rf4 := rd_free eR4 4
    have rf5 := rd_free eR4 5
    have v0 := setm_read (i := 0) eR4 (by simp) (.string tb1)
    have v1 := setm_read (i := 1) (rd_set (i := 0) (.string tb1) eR4) (by simp) (.string bb1)
    have v2 := setm_read (i := 2) (rd_set (i := 1) (.string bb1) (rd_set (i := 0) (.string tb1) eR4)) (by simp) (.int .i64 (l1 : Int))
    have v3 := setm_read (i := 3) (rd_set (i := 2) (.int .i64 (l1 : Int)) (rd_set (i := 1) (.string bb1) (rd_set (i := 0) (.string tb1) eR4))) (by simp) (.int .i64 (h1 : Int))
    have v4 := setm_read (i := 4) (rd_set (i := 3) (.int .i64 (h1 : Int)) (rd_set (i := 2) (.int .i64 (l1 : Int)) (rd_set (i := 1) (.string bb1) (rd_set (i := 0) (.string tb1) eR4)))) (by simp) (.int .i64 (n1 : Int))
    have v5 := setm_read (i := 5) (rd_set (i := 4) (.int .i64 (n1 : Int)) (rd_set (i := 3) (.int .i64 (h1 : Int)) (rd_set (i := 2) (.int .i64 (l1 : Int)) (rd_set (i := 1) (.string bb1) (rd_set (i := 0) (.string tb1) eR4))))) (by simp) (.slice a1 k1 c1)
    have HS4 : Hid (Six (w3.alloc (.cells #[.string tb1, .string bb1, .int .i64 (l1 : Int), .int .i64 (h1 : Int), .int .i64 (n1 : Int), .slice a1 k1 c1] 26)) (fun k => w.heap.size + 1 + 1 ≤ k) p [.string tb1, .string bb1, .int .i64 (l1 : Int), .int .i64 (h1 : Int), .int .i64 (n1 : Int), .slice a1 k1 c1]) := hs4.kept fun k hk _ => ⟨by rw [z2] at hk; exact hk, rfl⟩
    clear hbA hs4 hsix eA
    go_wp2_with fail
    refine bodyPost_ret (v := .tuple #[.agg #[.string tb1, .string bb1, .int .i64 (l1 : Int), .int .i64 (h1 : Int), .int .i64 (n1 : Int), .slice a1 k1 c1], .nilIface]) (by simp [results, Tryd.results5, go_sem, v0, v1, v2, v3, v4, v5]) rfl ?_
    exact ⟨(six_but (rb := w.heap.size) (to_but hb04) (Nat.le_refl _) _ _ _ _ _ _).below (Nat.le_refl _) (Nat.le_refl _), Or.inr ⟨p, [.string tb1, .string bb1, .int .i64 (l1 : Int), .int .i64 (h1 : Int), .int .i64 (n1 : Int), .slice a1 k1 c1], HGS.out, rfl, HS4.out.kept fun k hk _ => ⟨by omega, six_other _ (by omega) _ _ _ _ _ _⟩⟩⟩
end Go.Proofs.YtgbbkdflnlagaaaDoor
