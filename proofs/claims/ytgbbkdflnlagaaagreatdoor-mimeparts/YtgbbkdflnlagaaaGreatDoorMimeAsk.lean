/-
  What mime.Parse does.
  What mime.Find does: the part that numbers lead to.
-/
import Derived.Test.YtgbbkdflnlagaaaGreatDoorMimePart
import Derived.Test.YtgbbkdflnlagaaaGreatDoorMimeFresh
namespace Go.Proofs.YtgbbkdflnlagaaaGreatDoor
open Go.RowKit Go.Proofs.Aid Go.Proofs.Sq Go.Proofs.Hd Go.Proofs.Mm

def ParsePost (s : ByteArray) (w : World) (e : Ending) (w' : World) : Prop :=
  Below w.heap.size w w' ∧ ((parseP s.data.toList = none ∧ e = .returned (.tuple #[.agg zeroSix.toArray, .iface 26 (.int .i64 4)])) ∨
    ∃ p xs, parseP s.data.toList = some p ∧ e = .returned (.tuple #[.agg xs.toArray, .nilIface]) ∧ Six w' (fun k => w.heap.size ≤ k) p xs)
set_option maxHeartbeats 4000000 in
set_option maxRecDepth 100000 in
theorem parse_is (s : ByteArray) (m : Int) (w : World) (hs : s.size ≤ 90000) (hm : w.cell? ⟨1, 0, none⟩ = some (.int .i64 m)) :
    Calls Tryz.prog 8 #[.string s] w (ParsePost s w) := by
  have hgl : 1 < w.heap.size := World.block_lt_of_cell? _ _ hm
  have hb1 : Below w.heap.size w (w.alloc (.cells #[.string ⟨#[]⟩, .string ⟨#[]⟩, .int .i64 0, .int .i64 0, .int .i64 0, .slice none 0 0] 25)) := (Below.refl _ _).alloc (Nat.le_refl _) _
  have e1 := heap_alloc_new w (.cells #[.string ⟨#[]⟩, .string ⟨#[]⟩, .int .i64 0, .int .i64 0, .int .i64 0, .slice none 0 0] 25)
  have z1 : (w.alloc (.cells #[.string ⟨#[]⟩, .string ⟨#[]⟩, .int .i64 0, .int .i64 0, .int .i64 0, .slice none 0 0] 25)).heap.size = w.heap.size + 1 := by simp
  have e2 := heap_alloc_new (w.alloc (.cells #[.string ⟨#[]⟩, .string ⟨#[]⟩, .int .i64 0, .int .i64 0, .int .i64 0, .slice none 0 0] 25)) (.cells #[.string s, .int .i64 0] 81)
  have hb2 : Below (w.heap.size + 1) (w.alloc (.cells #[.string ⟨#[]⟩, .string ⟨#[]⟩, .int .i64 0, .int .i64 0, .int .i64 0, .slice none 0 0] 25)) ((w.alloc (.cells #[.string ⟨#[]⟩, .string ⟨#[]⟩, .int .i64 0, .int .i64 0, .int .i64 0, .slice none 0 0] 25)).alloc (.cells #[.string s, .int .i64 0] 81)) := (Below.refl _ _).alloc (by rw [z1]; exact Nat.le_refl _) _
  have z2 : ((w.alloc (.cells #[.string ⟨#[]⟩, .string ⟨#[]⟩, .int .i64 0, .int .i64 0, .int .i64 0, .slice none 0 0] 25)).alloc (.cells #[.string s, .int .i64 0] 81)).heap.size = w.heap.size + 1 + 1 := by simp
  rw [z1] at e2
  have hb02 := hb1.trans (hb2.mono (Nat.le_succ _))
  have cP := part_is s hs (w.heap.size + 1) m 7 0 s.size 0 0 ((w.alloc (.cells #[.string ⟨#[]⟩, .string ⟨#[]⟩, .int .i64 0, .int .i64 0, .int .i64 0, .slice none 0 0] 25)).alloc (.cells #[.string s, .int .i64 0] 81)) rfl (Nat.zero_le _) (Nat.le_refl _) (by omega) e2 ((hb02.cell (p := ⟨1, 0, none⟩) hgl).trans hm)
  have eR2 := (hb2.block w.heap.size (Nat.lt_succ_self _)).trans e1
  obtain ⟨Z, hZ⟩ : ∃ Z, partF s.data.toList 7 0 s.size 0 = Z := ⟨_, rfl⟩
  have HZ : Hid (parseP s.data.toList = Z.2) := by show _ = _; unfold parseP; rw [list_size, hZ]
  rw [hZ] at cP
  clear hZ hb1 e1 e2 hb2 hm
  go_enter Tryz.func8, Tryz.ntmps8
  go_wp2_with fail
  refine cP.mono ?_
  clear cP
  rintro e w3 ⟨hR3, B3, hcase⟩
  have z3 := B3.size
  rw [z2] at z3
  have hb03 : Below w.heap.size w w3 := hb02.trans (B3.below (by omega) (by omega))
  have eR3 := (B3.block w.heap.size (by omega) (by omega)).trans eR2
  clear hR3 hb02 eR2
  rcases hcase with ⟨hn, rfl⟩ | ⟨p, xs, hp, rfl, hsix⟩
  · have HGN : Hid (parseP s.data.toList = none) := HZ.out.trans hn
    rw [show zeroSix.toArray = #[.string ⟨#[]⟩, .string ⟨#[]⟩, .int .i64 0, .int .i64 0, .int .i64 0, .slice none 0 0] from rfl]
    have hbA : Below w3.heap.size w3 (w3.alloc (.cells #[.string ⟨#[]⟩, .string ⟨#[]⟩, .int .i64 0, .int .i64 0, .int .i64 0, .slice none 0 0] 25)) := (Below.refl _ _).alloc (Nat.le_refl _) _
    have eR4 := (hbA.block w.heap.size (by omega)).trans eR3
    have hb04 := hb03.trans (hbA.mono (by omega))
    have r0 := rd_cell (j := 0) eR4 rfl
    have r1 := rd_cell (j := 1) eR4 rfl
    have r2 := rd_cell (j := 2) eR4 rfl
    have r3 := rd_cell (j := 3) eR4 rfl
    have r4 := rd_cell (j := 4) eR4 rfl
    have r5 := rd_cell (j := 5) eR4 rfl
    have rf0 := rd_free eR4 0
    have rf1 := rd_free eR4 1
    have rf2 := rd_free eR4 2
    have rf3 := rd_free eR4 3
    have rf4 := rd_free eR4 4
    have rf5 := rd_free eR4 5
    have v0 := setm_read (i := 0) eR4 (by simp) (.string ⟨#[]⟩)
    have v1 := setm_read (i := 1) (rd_set (i := 0) (.string ⟨#[]⟩) eR4) (by simp) (.string ⟨#[]⟩)
    have v2 := setm_read (i := 2) (rd_set (i := 1) (.string ⟨#[]⟩) (rd_set (i := 0) (.string ⟨#[]⟩) eR4)) (by simp) (.int .i64 0)
    have v3 := setm_read (i := 3) (rd_set (i := 2) (.int .i64 0) (rd_set (i := 1) (.string ⟨#[]⟩) (rd_set (i := 0) (.string ⟨#[]⟩) eR4))) (by simp) (.int .i64 0)
    have v4 := setm_read (i := 4) (rd_set (i := 3) (.int .i64 0) (rd_set (i := 2) (.int .i64 0) (rd_set (i := 1) (.string ⟨#[]⟩) (rd_set (i := 0) (.string ⟨#[]⟩) eR4)))) (by simp) (.int .i64 0)
    have v5 := setm_read (i := 5) (rd_set (i := 4) (.int .i64 0) (rd_set (i := 3) (.int .i64 0) (rd_set (i := 2) (.int .i64 0) (rd_set (i := 1) (.string ⟨#[]⟩) (rd_set (i := 0) (.string ⟨#[]⟩) eR4))))) (by simp) (.slice none 0 0)
    clear hbA
    go_wp2_with fail
    refine bodyPost_ret (v := .tuple #[.agg #[.string ⟨#[]⟩, .string ⟨#[]⟩, .int .i64 0, .int .i64 0, .int .i64 0, .slice none 0 0], .iface 26 (.int .i64 4)]) (by simp [results, Tryz.results8, go_sem, v0, v1, v2, v3, v4, v5]) rfl ?_
    exact ⟨(six_but (rb := w.heap.size) (to_but hb04) (Nat.le_refl _) _ _ _ _ _ _).below (Nat.le_refl _) (Nat.le_refl _), Or.inl ⟨HGN.out, rfl⟩⟩
  · obtain ⟨tb1, bb1, l1, h1, n1, a1, k1, c1, rfl⟩ := six_cells hsix
    rw [show ([.string tb1, .string bb1, .int .i64 (l1 : Int), .int .i64 (h1 : Int), .int .i64 (n1 : Int), .slice a1 k1 c1] : List Value).toArray = #[.string tb1, .string bb1, .int .i64 (l1 : Int), .int .i64 (h1 : Int), .int .i64 (n1 : Int), .slice a1 k1 c1] from rfl]
    have HGS : Hid (parseP s.data.toList = some p) := HZ.out.trans hp
    have hbA : Below w3.heap.size w3 (w3.alloc (.cells #[.string tb1, .string bb1, .int .i64 (l1 : Int), .int .i64 (h1 : Int), .int .i64 (n1 : Int), .slice a1 k1 c1] 25)) := (Below.refl _ _).alloc (Nat.le_refl _) _
    have eA := heap_alloc_new w3 (.cells #[.string tb1, .string bb1, .int .i64 (l1 : Int), .int .i64 (h1 : Int), .int .i64 (n1 : Int), .slice a1 k1 c1] 25)
    have eR4 := (hbA.block w.heap.size (by omega)).trans eR3
    have hb04 := hb03.trans (hbA.mono (by omega))
    have hs4 := hsix.under hbA
    have t0 := rd_cell (j := 0) eA rfl
    have t1 := rd_cell (j := 1) eA rfl
    have t2 := rd_cell (j := 2) eA rfl
    have t3 := rd_cell (j := 3) eA rfl
    have t4 := rd_cell (j := 4) eA rfl
    have t5 := rd_cell (j := 5) eA rfl
    have r0 := rd_cell (j := 0) eR4 rfl
    have r1 := rd_cell (j := 1) eR4 rfl
    have r2 := rd_cell (j := 2) eR4 rfl
    have r3 := rd_cell (j := 3) eR4 rfl
    have r4 := rd_cell (j := 4) eR4 rfl
    have r5 := rd_cell (j := 5) eR4 rfl
    have rf0 := rd_free eR4 0
    have rf1 := rd_free eR4 1
    have rf2 := rd_free eR4 2
    have rf3 := rd_free eR4 3
    have rf4 := rd_free eR4 4
    have rf5 := rd_free eR4 5
    have v0 := setm_read (i := 0) eR4 (by simp) (.string tb1)
    have v1 := setm_read (i := 1) (rd_set (i := 0) (.string tb1) eR4) (by simp) (.string bb1)
    have v2 := setm_read (i := 2) (rd_set (i := 1) (.string bb1) (rd_set (i := 0) (.string tb1) eR4)) (by simp) (.int .i64 (l1 : Int))
    have v3 := setm_read (i := 3) (rd_set (i := 2) (.int .i64 (l1 : Int)) (rd_set (i := 1) (.string bb1) (rd_set (i := 0) (.string tb1) eR4))) (by simp) (.int .i64 (h1 : Int))
    have v4 := setm_read (i := 4) (rd_set (i := 3) (.int .i64 (h1 : Int)) (rd_set (i := 2) (.int .i64 (l1 : Int)) (rd_set (i := 1) (.string bb1) (rd_set (i := 0) (.string tb1) eR4)))) (by simp) (.int .i64 (n1 : Int))
    have v5 := setm_read (i := 5) (rd_set (i := 4) (.int .i64 (n1 : Int)) (rd_set (i := 3) (.int .i64 (h1 : Int)) (rd_set (i := 2) (.int .i64 (l1 : Int)) (rd_set (i := 1) (.string bb1) (rd_set (i := 0) (.string tb1) eR4))))) (by simp) (.slice a1 k1 c1)
    have HS4 : Hid (Six (w3.alloc (.cells #[.string tb1, .string bb1, .int .i64 (l1 : Int), .int .i64 (h1 : Int), .int .i64 (n1 : Int), .slice a1 k1 c1] 25)) (fun k => w.heap.size + 1 + 1 ≤ k) p [.string tb1, .string bb1, .int .i64 (l1 : Int), .int .i64 (h1 : Int), .int .i64 (n1 : Int), .slice a1 k1 c1]) := hs4.kept fun k hk _ => ⟨by rw [z2] at hk; exact hk, rfl⟩
    clear hbA hs4 hsix eA
    go_wp2_with fail
    refine bodyPost_ret (v := .tuple #[.agg #[.string tb1, .string bb1, .int .i64 (l1 : Int), .int .i64 (h1 : Int), .int .i64 (n1 : Int), .slice a1 k1 c1], .nilIface]) (by simp [results, Tryz.results8, go_sem, v0, v1, v2, v3, v4, v5]) rfl ?_
    exact ⟨(six_but (rb := w.heap.size) (to_but hb04) (Nat.le_refl _) _ _ _ _ _ _).below (Nat.le_refl _) (Nat.le_refl _), Or.inr ⟨p, [.string tb1, .string bb1, .int .i64 (l1 : Int), .int .i64 (h1 : Int), .int .i64 (n1 : Int), .slice a1 k1 c1], HGS.out, rfl, HS4.out.kept fun k hk _ => ⟨by omega, six_other _ (by omega) _ _ _ _ _ _⟩⟩⟩
end Go.Proofs.YtgbbkdflnlagaaaGreatDoor
namespace Go.Proofs.YtgbbkdflnlagaaaGreatDoor
open Go.RowKit Go.Proofs.Aid Go.Proofs.Sq Go.Proofs.Hd Go.Proofs.Mm

/-- A slice of numbers. -/
def Ng (w : World) (v : Value) (zs : List Int) : Prop :=
  ∃ a c, v = .slice a zs.length c ∧ (zs = [] ∨ ∃ b o, a = some ⟨b, o, none⟩ ∧ ∀ (j : Nat) z, zs[j]? = some z → w.cell? ⟨b, o + j, none⟩ = some (.int .i64 z))
theorem Ng.below {w w' : World} {v : Value} {B : Nat} {zs : List Int} (h : Ng w v zs) (hb : Below B w w') (hB : w.heap.size ≤ B) : Ng w' v zs := by
  obtain ⟨a, c, h1, h2⟩ := h
  refine ⟨a, c, h1, ?_⟩
  rcases h2 with h2 | ⟨b, o, h2, h3⟩
  · exact Or.inl h2
  · exact Or.inr ⟨b, o, h2, fun j s hj => (hb.cell (Nat.lt_of_lt_of_le (World.block_lt_of_cell? _ _ (h3 j s hj)) hB)).trans (h3 j s hj)⟩
def FindPost (w : World) (G : Option Mm.Pt) (e : Ending) (w' : World) : Prop :=
  Below w.heap.size w w' ∧ ((G = none ∧ e = .returned (.tuple #[.agg zeroSix.toArray, .bool false])) ∨
    ∃ q ys, G = some q ∧ e = .returned (.tuple #[.agg ys.toArray, .bool true]) ∧ Six w' (fun k => w.heap.size ≤ k) q ys ∧ countP q ≤ 30)
theorem findP_cons (t b : Tx) (lo hi n : Nat) (ps : List Mm.Pt) (z : Int) (r : List Int) : findP (.mk t b lo hi n ps) (z :: r) = if ps = [] ∧ z = 1 ∧ r = [] then some (.mk t b lo hi n ps) else if z < 1 ∨ (ps.length : Int) < z then none else match ps[(z - 1).toNat]? with
    | none => none
    | some q => findP q r := by rw [findP]; rfl
set_option maxHeartbeats 8000000 in
set_option maxRecDepth 100000 in
theorem find_is (p : Mm.Pt) (xs : List Value) (Ok : Nat → Prop) (vp : Value) (path : List Int) (w : World) (hc : countP p ≤ 30) (h : Six w Ok p xs) (hp : Ng w vp path) (hpl : path.length ≤ 1000000) :
    Calls Tryz.prog 12 #[.agg xs.toArray, vp] w (FindPost w (findP p path)) := by
  obtain ⟨G, hG⟩ : ∃ G, findP p path = G := ⟨_, rfl⟩
  have HG : Hid (findP p path = G) := hG
  rw [hG]
  have K0 : Hid (∀ W, Below w.heap.size w W → Ng W vp path) := fun W hW => hp.below hW (Nat.le_refl _)
  obtain ⟨pa, pc, rfl, _⟩ := hp
  obtain ⟨N, hN⟩ : ∃ N, path.length = N := ⟨_, rfl⟩
  have HN : Hid (path.length = N) := hN
  rw [hN] at hpl K0 ⊢
  obtain ⟨tb, bb, l0, h0, n0, a0, k0, c0, rfl⟩ := six_cells h
  rw [show ([.string tb, .string bb, .int .i64 (l0 : Int), .int .i64 (h0 : Int), .int .i64 (n0 : Int), .slice a0 k0 c0] : List Value).toArray = #[.string tb, .string bb, .int .i64 (l0 : Int), .int .i64 (h0 : Int), .int .i64 (n0 : Int), .slice a0 k0 c0] from rfl]
  have HS : Hid (Six w Ok p [.string tb, .string bb, .int .i64 (l0 : Int), .int .i64 (h0 : Int), .int .i64 (n0 : Int), .slice a0 k0 c0]) := h
  have HC : Hid (countP p ≤ 30) := hc
  clear hG hN h hc
  go_enter Tryz.func12, Tryz.ntmps12
  go_wp2_with fail
  have e1 := heap_alloc_new w (.cells #[.string tb, .string bb, .int .i64 (l0 : Int), .int .i64 (h0 : Int), .int .i64 (n0 : Int), .slice a0 k0 c0] 25)
  have b1 : Below w.heap.size w (w.alloc (.cells #[.string tb, .string bb, .int .i64 (l0 : Int), .int .i64 (h0 : Int), .int .i64 (n0 : Int), .slice a0 k0 c0] 25)) := (Below.refl _ _).alloc (Nat.le_refl _) _
  have z1 : (w.alloc (.cells #[.string tb, .string bb, .int .i64 (l0 : Int), .int .i64 (h0 : Int), .int .i64 (n0 : Int), .slice a0 k0 c0] 25)).heap.size = w.heap.size + 1 := by simp
  generalize w.alloc (.cells #[.string tb, .string bb, .int .i64 (l0 : Int), .int .i64 (h0 : Int), .int .i64 (n0 : Int), .slice a0 k0 c0] 25) = W1 at e1 b1 z1 ⊢
  have e2 := heap_alloc_new W1 (.cells #[.string ⟨#[]⟩, .string ⟨#[]⟩, .int .i64 0, .int .i64 0, .int .i64 0, .slice none 0 0] 25)
  have b2 : Below W1.heap.size W1 (W1.alloc (.cells #[.string ⟨#[]⟩, .string ⟨#[]⟩, .int .i64 0, .int .i64 0, .int .i64 0, .slice none 0 0] 25)) := (Below.refl _ _).alloc (Nat.le_refl _) _
  have z2 : (W1.alloc (.cells #[.string ⟨#[]⟩, .string ⟨#[]⟩, .int .i64 0, .int .i64 0, .int .i64 0, .slice none 0 0] 25)).heap.size = W1.heap.size + 1 := by simp
  generalize W1.alloc (.cells #[.string ⟨#[]⟩, .string ⟨#[]⟩, .int .i64 0, .int .i64 0, .int .i64 0, .slice none 0 0] 25) = W2 at e2 b2 z2 ⊢
  have b02 := b1.trans (b2.mono (by omega))
  have eB := (b2.block _ (by omega)).trans e1
  have eR : W2.heap[w.heap.size + 1]? = some (.cells #[.string ⟨#[]⟩, .string ⟨#[]⟩, .int .i64 0, .int .i64 0, .int .i64 0, .slice none 0 0] 25 (0, 0)) := by rw [← z1]; exact e2
  have HSW : Hid (Six W2 (fun k => k < w.heap.size) p [.string tb, .string bb, .int .i64 (l0 : Int), .int .i64 (h0 : Int), .int .i64 (n0 : Int), .slice a0 k0 c0]) := HS.out.kept fun k _ hk => ⟨hk, b02.block k hk⟩
  clear e1 b1 e2 b2
  -- the end: what was found is given in memory of its own
  have TAIL : Hid (∀ (q : Mm.Pt) (tb bb : ByteArray) (l0 h0 n0 k0 c0 : Nat) (a0 : Option Addr) (W : World), Below w.heap.size w W → W.heap[w.heap.size + 1]? = some (.cells #[.string ⟨#[]⟩, .string ⟨#[]⟩, .int .i64 0, .int .i64 0, .int .i64 0, .slice none 0 0] 25 (0, 0)) → countP q ≤ 30 → Six W (fun k => k < w.heap.size) q [.string tb, .string bb, .int .i64 (l0 : Int), .int .i64 (h0 : Int), .int .i64 (n0 : Int), .slice a0 k0 c0] →
      Calls Tryz.prog 37 #[.agg #[.string tb, .string bb, .int .i64 (l0 : Int), .int .i64 (h0 : Int), .int .i64 (n0 : Int), .slice a0 k0 c0]] W fun e w' => Below w.heap.size w w' ∧ w'.heap[w.heap.size + 1]? = some (.cells #[.string ⟨#[]⟩, .string ⟨#[]⟩, .int .i64 0, .int .i64 0, .int .i64 0, .slice none 0 0] 25 (0, 0)) ∧ ∃ (tb bb : ByteArray) (l0 h0 n0 k0 c0 : Nat) (a0 : Option Addr), e = .returned (.agg #[.string tb, .string bb, .int .i64 (l0 : Int), .int .i64 (h0 : Int), .int .i64 (n0 : Int), .slice a0 k0 c0]) ∧ Six w' (fun k => w.heap.size + 1 + 1 ≤ k) q [.string tb, .string bb, .int .i64 (l0 : Int), .int .i64 (h0 : Int), .int .i64 (n0 : Int), .slice a0 k0 c0]) := by
    intro q tb bb l0 h0 n0 k0 c0 a0 W hW eRW hcq hsix
    have hlR : w.heap.size + 1 < W.heap.size := (Array.getElem?_eq_some_iff.1 eRW).1
    refine (fresh_is (countP q) q _ _ W (Nat.le_refl _) hcq hsix).mono ?_
    rintro e w' ⟨hb, ys, rfl, hy⟩
    obtain ⟨tb, bb, l0, h0, n0, a0, k0, c0, rfl⟩ := six_cells hy
    exact ⟨hW.trans (hb.mono (by omega)), (hb.block _ hlR).trans eRW, tb, bb, l0, h0, n0, k0, c0, a0, rfl, hy.kept fun k hk _ => ⟨by omega, rfl⟩⟩
  go_loopw [10] (fun i wr => ∃ (k : Nat) (q : Mm.Pt) (tb bb : ByteArray) (l0 h0 n0 k0 c0 : Nat) (a0 : Option Addr), i = .int .i64 (k : Int) ∧ k ≤ N ∧ Hid (findP q (path.drop k) = G) ∧ Hid (countP q ≤ 30) ∧ wr.heap[w.heap.size]? = some (.cells #[.string tb, .string bb, .int .i64 (l0 : Int), .int .i64 (h0 : Int), .int .i64 (n0 : Int), .slice a0 k0 c0] 25 (0, 0)) ∧
      wr.heap[w.heap.size + 1]? = some (.cells #[.string ⟨#[]⟩, .string ⟨#[]⟩, .int .i64 0, .int .i64 0, .int .i64 0, .slice none 0 0] 25 (0, 0)) ∧ Hid (Six wr (fun k => k < w.heap.size) q [.string tb, .string bb, .int .i64 (l0 : Int), .int .i64 (h0 : Int), .int .i64 (n0 : Int), .slice a0 k0 c0]) ∧ Below w.heap.size w wr) (fun i _ => N - (intOf i).toNat)
  case atStart => exact ⟨0, p, tb, bb, l0, h0, n0, k0, c0, a0, rfl, by omega, by show _ = _; simpa using HG.out, HC.out, eB, eR, HSW.out, b02⟩
  case round =>
    clear eB eR HSW HS HC HG
    obtain ⟨k, q, tb, bb, l0, h0, n0, k0, c0, a0, rfl, hk, HF, HCQ, eBr, eRr, HSQ, hbW⟩ := hrel
    have x5 := rd_cell (j := 5) eBr rfl
    by_cases hlt : k < N
    · obtain ⟨t, b, lo, hi, ln, ps⟩ := q
      have hkp : k < path.length := by rw [HN.out]; exact hlt
      obtain ⟨z, hz⟩ : ∃ z, path[k] = z := ⟨_, rfl⟩
      have hpk : path[k]? = some z := by rw [List.getElem?_eq_getElem hkp, hz]
      have HF2 : Hid (findP (.mk t b lo hi ln ps) (z :: path.drop (k + 1)) = G) := by
        have := HF.out
        rw [List.drop_eq_getElem_cons hkp, hz] at this
        exact this
      obtain ⟨a', c', hv, hd⟩ := K0.out wr hbW
      injection hv with hv1 hv2 hv3
      subst hv1
      rcases hd with hd | ⟨pb, po, rfl, hat⟩
      · rw [hd] at hkp; simp at hkp
      have cz := hat k z hpk
      obtain ⟨tb', bb', a'', c'', heq, _, _, hkids⟩ := six_kids HSQ.out
      simp only [List.cons.injEq, Value.string.injEq, Value.int.injEq, Value.slice.injEq, true_and, and_true] at heq
      obtain ⟨rfl, rfl, hl0, hh0, hn0, rfl, rfl, rfl⟩ := heq
      obtain rfl : l0 = lo := by omega
      obtain rfl : h0 = hi := by omega
      obtain rfl : n0 = ln := by omega
      clear hl0 hh0 hn0
      have HKI : Hid (∀ j q, ps[j]? = some q → ∃ b o ys, a0 = some ⟨b, o, none⟩ ∧ b < w.heap.size ∧ Six wr (fun k => k < w.heap.size) q ys ∧ ∀ i x, ys[i]? = some x → wr.cell? ⟨b, o + j * 6 + i, none⟩ = some x) := hkids
      have hplen : ps.length ≤ 29 := by have := HCQ.out; rw [countP] at this; have := parts_few ps; omega
      obtain ⟨M, hM⟩ : ∃ M, ps.length = M := ⟨_, rfl⟩
      have HM : Hid (ps.length = M) := hM
      rw [hM] at eBr x5 hplen
      have HFC : Hid ((if ps = [] ∧ z = 1 ∧ path.drop (k + 1) = [] then some (.mk t b l0 h0 n0 ps) else if z < 1 ∨ (M : Int) < z then none else match ps[(z - 1).toNat]? with
        | none => none
        | some q => findP q (path.drop (k + 1))) = G) := by
        show _ = _
        rw [← HF2.out, findP_cons, hM]
      have HDR : Hid (path.drop (k + 1) = [] ↔ k + 1 = N) := by
        show _ ↔ _
        rw [List.drop_eq_nil_iff, HN.out]
        omega
      have HSM : Hid (Six wr (fun k => k < w.heap.size) (.mk t b l0 h0 n0 ps) [.string tb, .string bb, .int .i64 (l0 : Int), .int .i64 (h0 : Int), .int .i64 (n0 : Int), .slice a0 M c0]) := by
        have := HSQ.out
        rw [HM.out] at this
        exact this
      clear hkids hat hv2 hv3 hz hM HF2
      by_cases m0 : M = 0
      · have hp0 : ps = [] := List.eq_nil_of_length_eq_zero (by rw [HM.out]; exact m0)
        subst m0
        by_cases z1' : z = 1
        · subst z1'
          by_cases kN : k + 1 = N
          · have HGQ : Hid (G = some (.mk t b l0 h0 n0 ps)) := by
              show _ = _
              rw [← HFC.out, if_pos ⟨hp0, rfl, HDR.out.2 kN⟩]
            have qk : ((k : Int) == (N : Int) - 1) = true := by rw [beq_iff_eq]; omega
            have cF := TAIL.out (.mk t b l0 h0 n0 ps) tb bb l0 h0 n0 0 c0 a0 wr hbW eRr HCQ.out HSM.out
            have u0 := rd_cell (j := 0) eBr rfl
            have u1 := rd_cell (j := 1) eBr rfl
            have u2 := rd_cell (j := 2) eBr rfl
            have u3 := rd_cell (j := 3) eBr rfl
            have u4 := rd_cell (j := 4) eBr rfl
            clear HF HFC HSQ TAIL HKI
            go_wp2_with fail
            refine cF.mono ?_
            clear cF
            rintro e w5 ⟨hb5, eR5, tb5, bb5, l5, h5, n5, k5, c5, a5, rfl, hs5⟩
            have r0 := rd_cell (j := 0) eR5 rfl
            have r1 := rd_cell (j := 1) eR5 rfl
            have r2 := rd_cell (j := 2) eR5 rfl
            have r3 := rd_cell (j := 3) eR5 rfl
            have r4 := rd_cell (j := 4) eR5 rfl
            have r5 := rd_cell (j := 5) eR5 rfl
            have rf0 := rd_free eR5 0
            have rf1 := rd_free eR5 1
            have rf2 := rd_free eR5 2
            have rf3 := rd_free eR5 3
            have rf4 := rd_free eR5 4
            have rf5 := rd_free eR5 5
            have v0 := setm_read (i := 0) eR5 (by simp) (.string tb5)
            have v1 := setm_read (i := 1) (rd_set (i := 0) (.string tb5) eR5) (by simp) (.string bb5)
            have v2 := setm_read (i := 2) (rd_set (i := 1) (.string bb5) (rd_set (i := 0) (.string tb5) eR5)) (by simp) (.int .i64 (l5 : Int))
            have v3 := setm_read (i := 3) (rd_set (i := 2) (.int .i64 (l5 : Int)) (rd_set (i := 1) (.string bb5) (rd_set (i := 0) (.string tb5) eR5))) (by simp) (.int .i64 (h5 : Int))
            have v4 := setm_read (i := 4) (rd_set (i := 3) (.int .i64 (h5 : Int)) (rd_set (i := 2) (.int .i64 (l5 : Int)) (rd_set (i := 1) (.string bb5) (rd_set (i := 0) (.string tb5) eR5)))) (by simp) (.int .i64 (n5 : Int))
            have v5 := setm_read (i := 5) (rd_set (i := 4) (.int .i64 (n5 : Int)) (rd_set (i := 3) (.int .i64 (h5 : Int)) (rd_set (i := 2) (.int .i64 (l5 : Int)) (rd_set (i := 1) (.string bb5) (rd_set (i := 0) (.string tb5) eR5))))) (by simp) (.slice a5 k5 c5)
            go_wp2_with fail
            refine bodyPost_ret (v := .tuple #[.agg #[.string tb5, .string bb5, .int .i64 (l5 : Int), .int .i64 (h5 : Int), .int .i64 (n5 : Int), .slice a5 k5 c5], .bool true]) (by simp [results, Tryz.results12, go_sem, v0, v1, v2, v3, v4, v5]) rfl ?_
            exact ⟨(six_but (rb := w.heap.size) (to_but hb5) (by omega) _ _ _ _ _ _).below (Nat.le_refl _) (Nat.le_refl _), Or.inr ⟨_, [.string tb5, .string bb5, .int .i64 (l5 : Int), .int .i64 (h5 : Int), .int .i64 (n5 : Int), .slice a5 k5 c5], HGQ.out, rfl, hs5.kept fun k hk _ => ⟨by omega, six_other w5 (by omega) _ _ _ _ _ _⟩, HCQ.out⟩⟩
          · have qk : ((k : Int) == (N : Int) - 1) = false := by rw [beq_eq_false_iff_ne]; omega
            have HGN : Hid (G = none) := by
              show _ = _
              rw [← HFC.out, if_neg (by rintro ⟨_, _, h⟩; exact kN (HDR.out.1 h)), if_pos (by omega)]
            have r0 := rd_cell (j := 0) eRr rfl
            have r1 := rd_cell (j := 1) eRr rfl
            have r2 := rd_cell (j := 2) eRr rfl
            have r3 := rd_cell (j := 3) eRr rfl
            have r4 := rd_cell (j := 4) eRr rfl
            have r5 := rd_cell (j := 5) eRr rfl
            have rf0 := rd_free eRr 0
            have rf1 := rd_free eRr 1
            have rf2 := rd_free eRr 2
            have rf3 := rd_free eRr 3
            have rf4 := rd_free eRr 4
            have rf5 := rd_free eRr 5
            have v0 := setm_read (i := 0) eRr (by simp) (.string ⟨#[]⟩)
            have v1 := setm_read (i := 1) (rd_set (i := 0) (.string ⟨#[]⟩) eRr) (by simp) (.string ⟨#[]⟩)
            have v2 := setm_read (i := 2) (rd_set (i := 1) (.string ⟨#[]⟩) (rd_set (i := 0) (.string ⟨#[]⟩) eRr)) (by simp) (.int .i64 0)
            have v3 := setm_read (i := 3) (rd_set (i := 2) (.int .i64 0) (rd_set (i := 1) (.string ⟨#[]⟩) (rd_set (i := 0) (.string ⟨#[]⟩) eRr))) (by simp) (.int .i64 0)
            have v4 := setm_read (i := 4) (rd_set (i := 3) (.int .i64 0) (rd_set (i := 2) (.int .i64 0) (rd_set (i := 1) (.string ⟨#[]⟩) (rd_set (i := 0) (.string ⟨#[]⟩) eRr)))) (by simp) (.int .i64 0)
            have v5 := setm_read (i := 5) (rd_set (i := 4) (.int .i64 0) (rd_set (i := 3) (.int .i64 0) (rd_set (i := 2) (.int .i64 0) (rd_set (i := 1) (.string ⟨#[]⟩) (rd_set (i := 0) (.string ⟨#[]⟩) eRr))))) (by simp) (.slice none 0 0)
            clear HF HFC TAIL HKI HSQ
            go_wp2_with fail
            refine bodyPost_ret (v := .tuple #[.agg #[.string ⟨#[]⟩, .string ⟨#[]⟩, .int .i64 0, .int .i64 0, .int .i64 0, .slice none 0 0], .bool false]) (by simp [results, Tryz.results12, go_sem, v0, v1, v2, v3, v4, v5]) rfl ?_
            exact ⟨(six_but (rb := w.heap.size) (to_but hbW) (by omega) _ _ _ _ _ _).below (Nat.le_refl _) (Nat.le_refl _), Or.inl ⟨HGN.out, rfl⟩⟩
        · have qz : (z == 1) = false := by rw [beq_eq_false_iff_ne]; exact z1'
          by_cases zs : z < 1
          · have qs : decide (z < 1) = true := decide_eq_true zs
            have HGN : Hid (G = none) := by
              show _ = _
              rw [← HFC.out, if_neg (by rintro ⟨_, h, _⟩; exact z1' h), if_pos (by omega)]
            have r0 := rd_cell (j := 0) eRr rfl
            have r1 := rd_cell (j := 1) eRr rfl
            have r2 := rd_cell (j := 2) eRr rfl
            have r3 := rd_cell (j := 3) eRr rfl
            have r4 := rd_cell (j := 4) eRr rfl
            have r5 := rd_cell (j := 5) eRr rfl
            have rf0 := rd_free eRr 0
            have rf1 := rd_free eRr 1
            have rf2 := rd_free eRr 2
            have rf3 := rd_free eRr 3
            have rf4 := rd_free eRr 4
            have rf5 := rd_free eRr 5
            have v0 := setm_read (i := 0) eRr (by simp) (.string ⟨#[]⟩)
            have v1 := setm_read (i := 1) (rd_set (i := 0) (.string ⟨#[]⟩) eRr) (by simp) (.string ⟨#[]⟩)
            have v2 := setm_read (i := 2) (rd_set (i := 1) (.string ⟨#[]⟩) (rd_set (i := 0) (.string ⟨#[]⟩) eRr)) (by simp) (.int .i64 0)
            have v3 := setm_read (i := 3) (rd_set (i := 2) (.int .i64 0) (rd_set (i := 1) (.string ⟨#[]⟩) (rd_set (i := 0) (.string ⟨#[]⟩) eRr))) (by simp) (.int .i64 0)
            have v4 := setm_read (i := 4) (rd_set (i := 3) (.int .i64 0) (rd_set (i := 2) (.int .i64 0) (rd_set (i := 1) (.string ⟨#[]⟩) (rd_set (i := 0) (.string ⟨#[]⟩) eRr)))) (by simp) (.int .i64 0)
            have v5 := setm_read (i := 5) (rd_set (i := 4) (.int .i64 0) (rd_set (i := 3) (.int .i64 0) (rd_set (i := 2) (.int .i64 0) (rd_set (i := 1) (.string ⟨#[]⟩) (rd_set (i := 0) (.string ⟨#[]⟩) eRr))))) (by simp) (.slice none 0 0)
            clear HF HFC TAIL HKI HSQ
            go_wp2_with fail
            refine bodyPost_ret (v := .tuple #[.agg #[.string ⟨#[]⟩, .string ⟨#[]⟩, .int .i64 0, .int .i64 0, .int .i64 0, .slice none 0 0], .bool false]) (by simp [results, Tryz.results12, go_sem, v0, v1, v2, v3, v4, v5]) rfl ?_
            exact ⟨(six_but (rb := w.heap.size) (to_but hbW) (by omega) _ _ _ _ _ _).below (Nat.le_refl _) (Nat.le_refl _), Or.inl ⟨HGN.out, rfl⟩⟩
          · have qs : decide (z < 1) = false := decide_eq_false zs
            have qg : (0 : Int) < z := by omega
            have HGN : Hid (G = none) := by
              show _ = _
              rw [← HFC.out, if_neg (by rintro ⟨_, h, _⟩; exact z1' h), if_pos (by omega)]
            have r0 := rd_cell (j := 0) eRr rfl
            have r1 := rd_cell (j := 1) eRr rfl
            have r2 := rd_cell (j := 2) eRr rfl
            have r3 := rd_cell (j := 3) eRr rfl
            have r4 := rd_cell (j := 4) eRr rfl
            have r5 := rd_cell (j := 5) eRr rfl
            have rf0 := rd_free eRr 0
            have rf1 := rd_free eRr 1
            have rf2 := rd_free eRr 2
            have rf3 := rd_free eRr 3
            have rf4 := rd_free eRr 4
            have rf5 := rd_free eRr 5
            have v0 := setm_read (i := 0) eRr (by simp) (.string ⟨#[]⟩)
            have v1 := setm_read (i := 1) (rd_set (i := 0) (.string ⟨#[]⟩) eRr) (by simp) (.string ⟨#[]⟩)
            have v2 := setm_read (i := 2) (rd_set (i := 1) (.string ⟨#[]⟩) (rd_set (i := 0) (.string ⟨#[]⟩) eRr)) (by simp) (.int .i64 0)
            have v3 := setm_read (i := 3) (rd_set (i := 2) (.int .i64 0) (rd_set (i := 1) (.string ⟨#[]⟩) (rd_set (i := 0) (.string ⟨#[]⟩) eRr))) (by simp) (.int .i64 0)
            have v4 := setm_read (i := 4) (rd_set (i := 3) (.int .i64 0) (rd_set (i := 2) (.int .i64 0) (rd_set (i := 1) (.string ⟨#[]⟩) (rd_set (i := 0) (.string ⟨#[]⟩) eRr)))) (by simp) (.int .i64 0)
            have v5 := setm_read (i := 5) (rd_set (i := 4) (.int .i64 0) (rd_set (i := 3) (.int .i64 0) (rd_set (i := 2) (.int .i64 0) (rd_set (i := 1) (.string ⟨#[]⟩) (rd_set (i := 0) (.string ⟨#[]⟩) eRr))))) (by simp) (.slice none 0 0)
            clear HF HFC TAIL HKI HSQ
            go_wp2_with fail
            refine bodyPost_ret (v := .tuple #[.agg #[.string ⟨#[]⟩, .string ⟨#[]⟩, .int .i64 0, .int .i64 0, .int .i64 0, .slice none 0 0], .bool false]) (by simp [results, Tryz.results12, go_sem, v0, v1, v2, v3, v4, v5]) rfl ?_
            exact ⟨(six_but (rb := w.heap.size) (to_but hbW) (by omega) _ _ _ _ _ _).below (Nat.le_refl _) (Nat.le_refl _), Or.inl ⟨HGN.out, rfl⟩⟩
      · have qm : ((M : Int) == 0) = false := by rw [beq_eq_false_iff_ne]; omega
        have hpn : ps ≠ [] := fun e => m0 (by rw [← HM.out, e]; rfl)
        by_cases zs : z < 1
        · have qs : decide (z < 1) = true := decide_eq_true zs
          have HGN : Hid (G = none) := by
            show _ = _
            rw [← HFC.out, if_neg (by rintro ⟨h, _⟩; exact hpn h), if_pos (by omega)]
          have r0 := rd_cell (j := 0) eRr rfl
          have r1 := rd_cell (j := 1) eRr rfl
          have r2 := rd_cell (j := 2) eRr rfl
          have r3 := rd_cell (j := 3) eRr rfl
          have r4 := rd_cell (j := 4) eRr rfl
          have r5 := rd_cell (j := 5) eRr rfl
          have rf0 := rd_free eRr 0
          have rf1 := rd_free eRr 1
          have rf2 := rd_free eRr 2
          have rf3 := rd_free eRr 3
          have rf4 := rd_free eRr 4
          have rf5 := rd_free eRr 5
          have v0 := setm_read (i := 0) eRr (by simp) (.string ⟨#[]⟩)
          have v1 := setm_read (i := 1) (rd_set (i := 0) (.string ⟨#[]⟩) eRr) (by simp) (.string ⟨#[]⟩)
          have v2 := setm_read (i := 2) (rd_set (i := 1) (.string ⟨#[]⟩) (rd_set (i := 0) (.string ⟨#[]⟩) eRr)) (by simp) (.int .i64 0)
          have v3 := setm_read (i := 3) (rd_set (i := 2) (.int .i64 0) (rd_set (i := 1) (.string ⟨#[]⟩) (rd_set (i := 0) (.string ⟨#[]⟩) eRr))) (by simp) (.int .i64 0)
          have v4 := setm_read (i := 4) (rd_set (i := 3) (.int .i64 0) (rd_set (i := 2) (.int .i64 0) (rd_set (i := 1) (.string ⟨#[]⟩) (rd_set (i := 0) (.string ⟨#[]⟩) eRr)))) (by simp) (.int .i64 0)
          have v5 := setm_read (i := 5) (rd_set (i := 4) (.int .i64 0) (rd_set (i := 3) (.int .i64 0) (rd_set (i := 2) (.int .i64 0) (rd_set (i := 1) (.string ⟨#[]⟩) (rd_set (i := 0) (.string ⟨#[]⟩) eRr))))) (by simp) (.slice none 0 0)
          clear HF HFC TAIL HKI HSQ
          go_wp2_with fail
          refine bodyPost_ret (v := .tuple #[.agg #[.string ⟨#[]⟩, .string ⟨#[]⟩, .int .i64 0, .int .i64 0, .int .i64 0, .slice none 0 0], .bool false]) (by simp [results, Tryz.results12, go_sem, v0, v1, v2, v3, v4, v5]) rfl ?_
          exact ⟨(six_but (rb := w.heap.size) (to_but hbW) (by omega) _ _ _ _ _ _).below (Nat.le_refl _) (Nat.le_refl _), Or.inl ⟨HGN.out, rfl⟩⟩
        · have qs : decide (z < 1) = false := decide_eq_false zs
          by_cases zg : (M : Int) < z
          · have HGN : Hid (G = none) := by
              show _ = _
              rw [← HFC.out, if_neg (by rintro ⟨h, _⟩; exact hpn h), if_pos (by omega)]
            have r0 := rd_cell (j := 0) eRr rfl
            have r1 := rd_cell (j := 1) eRr rfl
            have r2 := rd_cell (j := 2) eRr rfl
            have r3 := rd_cell (j := 3) eRr rfl
            have r4 := rd_cell (j := 4) eRr rfl
            have r5 := rd_cell (j := 5) eRr rfl
            have rf0 := rd_free eRr 0
            have rf1 := rd_free eRr 1
            have rf2 := rd_free eRr 2
            have rf3 := rd_free eRr 3
            have rf4 := rd_free eRr 4
            have rf5 := rd_free eRr 5
            have v0 := setm_read (i := 0) eRr (by simp) (.string ⟨#[]⟩)
            have v1 := setm_read (i := 1) (rd_set (i := 0) (.string ⟨#[]⟩) eRr) (by simp) (.string ⟨#[]⟩)
            have v2 := setm_read (i := 2) (rd_set (i := 1) (.string ⟨#[]⟩) (rd_set (i := 0) (.string ⟨#[]⟩) eRr)) (by simp) (.int .i64 0)
            have v3 := setm_read (i := 3) (rd_set (i := 2) (.int .i64 0) (rd_set (i := 1) (.string ⟨#[]⟩) (rd_set (i := 0) (.string ⟨#[]⟩) eRr))) (by simp) (.int .i64 0)
            have v4 := setm_read (i := 4) (rd_set (i := 3) (.int .i64 0) (rd_set (i := 2) (.int .i64 0) (rd_set (i := 1) (.string ⟨#[]⟩) (rd_set (i := 0) (.string ⟨#[]⟩) eRr)))) (by simp) (.int .i64 0)
            have v5 := setm_read (i := 5) (rd_set (i := 4) (.int .i64 0) (rd_set (i := 3) (.int .i64 0) (rd_set (i := 2) (.int .i64 0) (rd_set (i := 1) (.string ⟨#[]⟩) (rd_set (i := 0) (.string ⟨#[]⟩) eRr))))) (by simp) (.slice none 0 0)
            clear HF HFC TAIL HKI HSQ
            go_wp2_with fail
            refine bodyPost_ret (v := .tuple #[.agg #[.string ⟨#[]⟩, .string ⟨#[]⟩, .int .i64 0, .int .i64 0, .int .i64 0, .slice none 0 0], .bool false]) (by simp [results, Tryz.results12, go_sem, v0, v1, v2, v3, v4, v5]) rfl ?_
            exact ⟨(six_but (rb := w.heap.size) (to_but hbW) (by omega) _ _ _ _ _ _).below (Nat.le_refl _) (Nat.le_refl _), Or.inl ⟨HGN.out, rfl⟩⟩
          · obtain ⟨j, rfl⟩ : ∃ j : Nat, z = (j : Int) + 1 := ⟨(z - 1).toNat, by omega⟩
            have hjM : j < M := by omega
            have hjp : j < ps.length := by rw [HM.out]; exact hjM
            obtain ⟨q, hq⟩ : ∃ q, ps[j] = q := ⟨_, rfl⟩
            have hpj : ps[j]? = some q := by rw [List.getElem?_eq_getElem hjp, hq]
            obtain ⟨b', o', ys, rfl, hbl, hsx, hcells⟩ := HKI.out j q hpj
            obtain ⟨tb1, bb1, l1, h1, n1, a1, k1, c1, rfl⟩ := six_cells hsx
            have y0 := hcells 0 _ rfl
            have y1 := hcells 1 _ rfl
            have y2 := hcells 2 _ rfl
            have y3 := hcells 3 _ rfl
            have y4 := hcells 4 _ rfl
            have y5 := hcells 5 _ rfl
            rw [Nat.add_zero] at y0
            have HNX : Hid (findP q (path.drop (k + 1)) = G) := by
              show _ = _
              rw [← HFC.out, if_neg (by rintro ⟨h, _⟩; exact hpn h), if_neg (by omega), show ((j : Int) + 1 - 1).toNat = j by omega, hpj]
            have HCN : Hid (countP q ≤ 30) := by
              have h1 := HCQ.out
              rw [countP] at h1
              have h2 := part_few (List.mem_of_getElem? hpj)
              show _ ≤ _
              omega
            have g0 := rd_cell (j := 0) eBr rfl
            have g1 := rd_cell (j := 1) eBr rfl
            have g2 := rd_cell (j := 2) eBr rfl
            have g3 := rd_cell (j := 3) eBr rfl
            have g4 := rd_cell (j := 4) eBr rfl
            have f0 := rd_free eBr 0
            have f1 := rd_free eBr 1
            have f2 := rd_free eBr 2
            have f3 := rd_free eBr 3
            have f4 := rd_free eBr 4
            have f5 := rd_free eBr 5
            have e6 := six_set eBr (.string tb1) (.string bb1) (.int .i64 (l1 : Int)) (.int .i64 (h1 : Int)) (.int .i64 (n1 : Int)) (.slice a1 k1 c1)
            have eR6 := (six_other wr (R := w.heap.size) (k := w.heap.size + 1) (by omega) (.string tb1) (.string bb1) (.int .i64 (l1 : Int)) (.int .i64 (h1 : Int)) (.int .i64 (n1 : Int)) (.slice a1 k1 c1)).trans eRr
            have hb6 := (six_but (rb := w.heap.size) (R := w.heap.size) (to_but hbW) (Nat.le_refl _) (.string tb1) (.string bb1) (.int .i64 (l1 : Int)) (.int .i64 (h1 : Int)) (.int .i64 (n1 : Int)) (.slice a1 k1 c1)).below (Nat.le_refl _) (Nat.le_refl _)
            have HS6 : Hid (Six ((((((wr.setCell ⟨w.heap.size, 0, none⟩ (.string tb1)).setCell ⟨w.heap.size, 1, none⟩ (.string bb1)).setCell ⟨w.heap.size, 2, none⟩ (.int .i64 (l1 : Int))).setCell ⟨w.heap.size, 3, none⟩ (.int .i64 (h1 : Int))).setCell ⟨w.heap.size, 4, none⟩ (.int .i64 (n1 : Int))).setCell ⟨w.heap.size, 5, none⟩ (.slice a1 k1 c1)) (fun k => k < w.heap.size) q [.string tb1, .string bb1, .int .i64 (l1 : Int), .int .i64 (h1 : Int), .int .i64 (n1 : Int), .slice a1 k1 c1]) := hsx.kept fun k hk _ => ⟨hk, six_other wr (by omega) _ _ _ _ _ _⟩
            clear HF HFC HKI HSQ HSM HCQ hcells hsx hq hpj TAIL
            go_wp2_with fail
            go_roundw
            case rel => exact ⟨k + 1, q, tb1, bb1, l1, h1, n1, k1, c1, a1, by go_num, by omega, HNX.out, HCN.out, e6, eR6, HS6.out, hb6⟩
            case measure => simp [intOf]; omega
    · have HGQ : Hid (G = some q) := by
        have := HF.out
        rw [List.drop_eq_nil_of_le (by rw [HN.out]; omega), findP] at this
        exact this.symm
      have cF := TAIL.out q tb bb l0 h0 n0 k0 c0 a0 wr hbW eRr HCQ.out HSQ.out
      have u0 := rd_cell (j := 0) eBr rfl
      have u1 := rd_cell (j := 1) eBr rfl
      have u2 := rd_cell (j := 2) eBr rfl
      have u3 := rd_cell (j := 3) eBr rfl
      have u4 := rd_cell (j := 4) eBr rfl
      clear HF HSQ TAIL
      go_wp2_with fail
      refine cF.mono ?_
      clear cF
      rintro e w5 ⟨hb5, eR5, tb5, bb5, l5, h5, n5, k5, c5, a5, rfl, hs5⟩
      have r0 := rd_cell (j := 0) eR5 rfl
      have r1 := rd_cell (j := 1) eR5 rfl
      have r2 := rd_cell (j := 2) eR5 rfl
      have r3 := rd_cell (j := 3) eR5 rfl
      have r4 := rd_cell (j := 4) eR5 rfl
      have r5 := rd_cell (j := 5) eR5 rfl
      have rf0 := rd_free eR5 0
      have rf1 := rd_free eR5 1
      have rf2 := rd_free eR5 2
      have rf3 := rd_free eR5 3
      have rf4 := rd_free eR5 4
      have rf5 := rd_free eR5 5
      have v0 := setm_read (i := 0) eR5 (by simp) (.string tb5)
      have v1 := setm_read (i := 1) (rd_set (i := 0) (.string tb5) eR5) (by simp) (.string bb5)
      have v2 := setm_read (i := 2) (rd_set (i := 1) (.string bb5) (rd_set (i := 0) (.string tb5) eR5)) (by simp) (.int .i64 (l5 : Int))
      have v3 := setm_read (i := 3) (rd_set (i := 2) (.int .i64 (l5 : Int)) (rd_set (i := 1) (.string bb5) (rd_set (i := 0) (.string tb5) eR5))) (by simp) (.int .i64 (h5 : Int))
      have v4 := setm_read (i := 4) (rd_set (i := 3) (.int .i64 (h5 : Int)) (rd_set (i := 2) (.int .i64 (l5 : Int)) (rd_set (i := 1) (.string bb5) (rd_set (i := 0) (.string tb5) eR5)))) (by simp) (.int .i64 (n5 : Int))
      have v5 := setm_read (i := 5) (rd_set (i := 4) (.int .i64 (n5 : Int)) (rd_set (i := 3) (.int .i64 (h5 : Int)) (rd_set (i := 2) (.int .i64 (l5 : Int)) (rd_set (i := 1) (.string bb5) (rd_set (i := 0) (.string tb5) eR5))))) (by simp) (.slice a5 k5 c5)
      go_wp2_with fail
      refine bodyPost_ret (v := .tuple #[.agg #[.string tb5, .string bb5, .int .i64 (l5 : Int), .int .i64 (h5 : Int), .int .i64 (n5 : Int), .slice a5 k5 c5], .bool true]) (by simp [results, Tryz.results12, go_sem, v0, v1, v2, v3, v4, v5]) rfl ?_
      exact ⟨(six_but (rb := w.heap.size) (to_but hb5) (by omega) _ _ _ _ _ _).below (Nat.le_refl _) (Nat.le_refl _), Or.inr ⟨q, [.string tb5, .string bb5, .int .i64 (l5 : Int), .int .i64 (h5 : Int), .int .i64 (n5 : Int), .slice a5 k5 c5], HGQ.out, rfl, hs5.kept fun k hk _ => ⟨by omega, six_other w5 (by omega) _ _ _ _ _ _⟩, HCQ.out⟩⟩
end Go.Proofs.YtgbbkdflnlagaaaGreatDoor
