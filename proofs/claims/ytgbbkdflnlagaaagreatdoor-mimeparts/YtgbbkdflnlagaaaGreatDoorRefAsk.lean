/-
  What letterboxref.ParseParts does.
  What letterboxref.FindPart does.
  What letterboxref.PrintPart does.
  What letterboxlaw.samePart does: two that are the same part in memory are the same.
-/
import Derived.Test.YtgbbkdflnlagaaaGreatDoorRefParts
import Derived.Test.YtgbbkdflnlagaaaGreatDoorMimeAsk
import Derived.Test.YtgbbkdflnlagaaaGreatDoorRefIn
import Derived.Deep.RegionHeld3
import Derived.Deep.DeepCutAuto
import Derived.Test.YtgbbkdflnlagaaaGreatDoorMimeSay
import Derived.Test.YtgbbkdflnlagaaaGreatDoorMimeFresh
namespace Go.Proofs.YtgbbkdflnlagaaaGreatDoor
open Go.RowKit Go.Proofs.Aid Go.Proofs.Sq Go.Proofs.Hd Go.Proofs.Mm

theorem rpart_is (s : ByteArray) (hs : s.size ≤ 90000) (rb : Nat) (m : Int) : ∀ f, f ≤ 7 → RPartIs s rb f m
  | 0, _ => fun lo hi c depth w hd _ _ hc hr _ => rpart_fail s rb lo hi c depth w hr hc (by omega) (Or.inr (by omega)) 0 rfl
  | f + 1, hf => fun lo hi c depth w hd hlo hhi hc hr hm => by
    by_cases h : 30 < c + 1
    · exact rpart_fail s rb lo hi c depth w hr hc (by omega) (Or.inl h) (f + 1) (by rw [partF, if_pos h])
    · exact rpart_step s hs rb f m (rpart_is s hs rb m f (by omega)) lo hi c depth w hd hlo hhi (by omega) hr hm
def RParsePost (s : ByteArray) (w : World) (e : Ending) (w' : World) : Prop :=
  Below w.heap.size w w' ∧ ((parseP s.data.toList = none ∧ e = .returned (.tuple #[.agg zeroSix.toArray, .int .i64 4])) ∨
    ∃ p xs, parseP s.data.toList = some p ∧ e = .returned (.tuple #[.agg xs.toArray, .int .i64 0]) ∧ Six w' (fun k => w.heap.size ≤ k) p xs)
set_option maxHeartbeats 4000000 in
set_option maxRecDepth 100000 in
theorem rparse_is (s : ByteArray) (m : Int) (w : World) (hs : s.size ≤ 90000) (hm : Vars m w) :
    Calls Tryz.prog 7 #[.string s] w (RParsePost s w) := by
  have hb1 : Below w.heap.size w (w.alloc (.cells #[.string ⟨#[]⟩, .string ⟨#[]⟩, .int .i64 0, .int .i64 0, .int .i64 0, .slice none 0 0] 25)) := (Below.refl _ _).alloc (Nat.le_refl _) _
  have e1 := heap_alloc_new w (.cells #[.string ⟨#[]⟩, .string ⟨#[]⟩, .int .i64 0, .int .i64 0, .int .i64 0, .slice none 0 0] 25)
  have z1 : (w.alloc (.cells #[.string ⟨#[]⟩, .string ⟨#[]⟩, .int .i64 0, .int .i64 0, .int .i64 0, .slice none 0 0] 25)).heap.size = w.heap.size + 1 := by simp
  obtain ⟨W1, hW1⟩ : ∃ W, w.alloc (.cells #[.string ⟨#[]⟩, .string ⟨#[]⟩, .int .i64 0, .int .i64 0, .int .i64 0, .slice none 0 0] 25) = W := ⟨_, rfl⟩
  rw [hW1] at hb1 e1 z1
  have hb2 : Below W1.heap.size W1 (W1.alloc (.cells #[.string s, .int .i64 0] 78)) := (Below.refl _ _).alloc (Nat.le_refl _) _
  have e2 := heap_alloc_new W1 (.cells #[.string s, .int .i64 0] 78)
  have z2 : (W1.alloc (.cells #[.string s, .int .i64 0] 78)).heap.size = W1.heap.size + 1 := by simp
  obtain ⟨W2, hW2⟩ : ∃ W, W1.alloc (.cells #[.string s, .int .i64 0] 78) = W := ⟨_, rfl⟩
  rw [hW2] at hb2 e2 z2
  have hb02 := hb1.trans (hb2.mono (by omega))
  have eR2 := (hb2.block w.heap.size (by omega)).trans e1
  have hv2 := hm.below hb02
  have hR2 : RdP W2 (w.heap.size + 1) s 0 := by
    show _ = _
    rw [← z1, e2]
    rfl
  have cP := rpart_is s hs (w.heap.size + 1) m 7 (Nat.le_refl _) 0 s.size 0 0 W2 rfl (Nat.zero_le _) (Nat.le_refl _) (by omega) hR2 hv2
  rw [show ((0 : Nat) : Int) = 0 from rfl] at cP
  obtain ⟨P, hP⟩ : ∃ P, partF s.data.toList 7 0 s.size 0 = P := ⟨_, rfl⟩
  have HPP : Hid (parseP s.data.toList = P.2) := by show _ = _; rw [← hP, parseP, list_size]
  rw [hP] at cP
  clear hP e1 e2 hb1 hb2 hR2 hv2 hm
  go_enter Tryz.func7, Tryz.ntmps7
  go_wp2_with fail
  refine cP.mono ?_
  clear cP hW1 hW2
  rintro e w3 ⟨_, B3, hcase⟩
  have z3 := B3.size
  have eR3 := (B3.block w.heap.size (by omega) (by omega)).trans eR2
  have hb3 : Below w.heap.size w w3 := ⟨B3.os.trans hb02.os, B3.tape.trans hb02.tape, B3.output.trans hb02.output, Nat.le_trans hb02.size B3.size, fun q hq => (B3.block q (by omega) (by omega)).trans (hb02.block q hq)⟩
  rcases hcase with ⟨hn, rfl⟩ | ⟨p, xs, hp, rfl, hsix⟩
  · rw [show zeroSix.toArray = #[.string ⟨#[]⟩, .string ⟨#[]⟩, .int .i64 0, .int .i64 0, .int .i64 0, .slice none 0 0] from rfl]
    have hbA : Below w3.heap.size w3 (w3.alloc (.cells #[.string ⟨#[]⟩, .string ⟨#[]⟩, .int .i64 0, .int .i64 0, .int .i64 0, .slice none 0 0] 25)) := (Below.refl _ _).alloc (Nat.le_refl _) _
    have eR4 := (hbA.block w.heap.size (by omega)).trans eR3
    obtain ⟨⟨r0, r1, r2, r3, r4, r5⟩, ⟨rf0, rf1, rf2, rf3, rf4, rf5⟩, v0, v1, v2, v3, v4, v5⟩ := six_facts eR4 (.string ⟨#[]⟩) (.string ⟨#[]⟩) (.int .i64 0) (.int .i64 0) (.int .i64 0) (.slice none 0 0)
    go_wp2_with fail
    refine bodyPost_ret (v := .tuple #[.agg #[.string ⟨#[]⟩, .string ⟨#[]⟩, .int .i64 0, .int .i64 0, .int .i64 0, .slice none 0 0], .int .i64 4]) (by simp [results, Tryz.results7, go_sem, v0, v1, v2, v3, v4, v5]) rfl ?_
    exact ⟨(six_but (rb := w.heap.size) (to_but (hb3.trans (hbA.mono hb3.size))) (Nat.le_refl _) _ _ _ _ _ _).below (Nat.le_refl _) (Nat.le_refl _), Or.inl ⟨by rw [HPP.out]; exact hn, rfl⟩⟩
  · obtain ⟨tb, bb, l1, h1, n1, a1, k1, cc1, rfl⟩ := six_cells hsix
    rw [show ([.string tb, .string bb, .int .i64 (l1 : Int), .int .i64 (h1 : Int), .int .i64 (n1 : Int), .slice a1 k1 cc1] : List Value).toArray = #[.string tb, .string bb, .int .i64 (l1 : Int), .int .i64 (h1 : Int), .int .i64 (n1 : Int), .slice a1 k1 cc1] from rfl]
    have hbA : Below w3.heap.size w3 (w3.alloc (.cells #[.string tb, .string bb, .int .i64 (l1 : Int), .int .i64 (h1 : Int), .int .i64 (n1 : Int), .slice a1 k1 cc1] 25)) := (Below.refl _ _).alloc (Nat.le_refl _) _
    have e4 := heap_alloc_new w3 (.cells #[.string tb, .string bb, .int .i64 (l1 : Int), .int .i64 (h1 : Int), .int .i64 (n1 : Int), .slice a1 k1 cc1] 25)
    have eR4 := (hbA.block w.heap.size (by omega)).trans eR3
    have t0 := rd_cell (j := 0) e4 rfl
    have t1 := rd_cell (j := 1) e4 rfl
    have t2 := rd_cell (j := 2) e4 rfl
    have t3 := rd_cell (j := 3) e4 rfl
    have t4 := rd_cell (j := 4) e4 rfl
    have t5 := rd_cell (j := 5) e4 rfl
    obtain ⟨⟨r0, r1, r2, r3, r4, r5⟩, ⟨rf0, rf1, rf2, rf3, rf4, rf5⟩, v0, v1, v2, v3, v4, v5⟩ := six_facts eR4 (.string tb) (.string bb) (.int .i64 (l1 : Int)) (.int .i64 (h1 : Int)) (.int .i64 (n1 : Int)) (.slice a1 k1 cc1)
    have HSX : Hid (Six w3 (fun k => W2.heap.size ≤ k) p [.string tb, .string bb, .int .i64 (l1 : Int), .int .i64 (h1 : Int), .int .i64 (n1 : Int), .slice a1 k1 cc1]) := hsix
    clear hsix
    go_wp2_with fail
    refine bodyPost_ret (v := .tuple #[.agg #[.string tb, .string bb, .int .i64 (l1 : Int), .int .i64 (h1 : Int), .int .i64 (n1 : Int), .slice a1 k1 cc1], .int .i64 0]) (by simp [results, Tryz.results7, go_sem, v0, v1, v2, v3, v4, v5]) rfl ?_
    refine ⟨(six_but (rb := w.heap.size) (to_but (hb3.trans (hbA.mono hb3.size))) (Nat.le_refl _) _ _ _ _ _ _).below (Nat.le_refl _) (Nat.le_refl _), Or.inr ⟨p, _, by rw [HPP.out]; exact hp, rfl, HSX.out.kept fun q hq hlt => ⟨by omega, (six_other _ (by omega) _ _ _ _ _ _).trans (hbA.block q hlt)⟩⟩⟩
end Go.Proofs.YtgbbkdflnlagaaaGreatDoor
namespace Go.Proofs.YtgbbkdflnlagaaaGreatDoor
open Go.RowKit Go.Proofs.Aid Go.Proofs.Sq Go.Proofs.Hd Go.Proofs.Mm

/-- A slice of numbers, with room. -/
def Nq (w : World) (v : Value) (zs : List Int) : Prop :=
  ∃ a c, v = .slice a zs.length c ∧ zs.length ≤ c ∧ (zs = [] ∨ ∃ b o, a = some ⟨b, o, none⟩ ∧ ∀ (j : Nat) z, zs[j]? = some z → w.cell? ⟨b, o + j, none⟩ = some (.int .i64 z))
theorem Nq.ng {w : World} {v : Value} {zs : List Int} (h : Nq w v zs) : Ng w v zs := by
  obtain ⟨a, c, h1, _, h2⟩ := h
  exact ⟨a, c, h1, h2⟩
theorem Nq.below {w w' : World} {v : Value} {zs : List Int} (h : Nq w v zs) (hb : Below w.heap.size w w') : Nq w' v zs := by
  obtain ⟨a, c, h1, h2, h3⟩ := h
  refine ⟨a, c, h1, h2, ?_⟩
  rcases h3 with h3 | ⟨b, o, h3, h4⟩
  · exact Or.inl h3
  · exact Or.inr ⟨b, o, h3, fun j z hj => (hb.cell (World.block_lt_of_cell? _ _ (h4 j z hj))).trans (h4 j z hj)⟩
def RFindPost (w : World) (Ok : Nat → Prop) (G : Option Mm.Pt) (e : Ending) (w' : World) : Prop :=
  Below w.heap.size w w' ∧ ((G = none ∧ e = .returned (.tuple #[.agg zeroSix.toArray, .bool false])) ∨
    ∃ q ys, G = some q ∧ e = .returned (.tuple #[.agg ys.toArray, .bool true]) ∧ Six w' (fun k => Ok k ∧ k < w.heap.size) q ys ∧ countP q ≤ 30)
def RFindIs (path : List Int) : Prop := ∀ (p : Mm.Pt) (xs : List Value) (Ok : Nat → Prop) (vp : Value) (w : World), countP p ≤ 30 → Six w Ok p xs → Nq w vp path → path.length ≤ 1000 → (∀ z ∈ path, -9223372036854775808 ≤ z ∧ z ≤ 9223372036854775807) → Calls Tryz.prog 11 #[.agg xs.toArray, vp] w (RFindPost w Ok (findP p path))
set_option maxHeartbeats 4000000 in
set_option maxRecDepth 100000 in
theorem rfind_nil : RFindIs [] := by
  intro p xs Ok vp w hc h hp hl hz
  obtain ⟨tb, bb, l1, h1, n1, a1, k1, cc1, rfl⟩ := six_cells h
  obtain ⟨a, c, rfl, _, _⟩ := hp
  rw [show ([] : List Int).length = 0 from rfl]
  rw [show ([.string tb, .string bb, .int .i64 (l1 : Int), .int .i64 (h1 : Int), .int .i64 (n1 : Int), .slice a1 k1 cc1] : List Value).toArray = #[.string tb, .string bb, .int .i64 (l1 : Int), .int .i64 (h1 : Int), .int .i64 (n1 : Int), .slice a1 k1 cc1] from rfl]
  have b1 : Below w.heap.size w (w.alloc (.cells #[.string tb, .string bb, .int .i64 (l1 : Int), .int .i64 (h1 : Int), .int .i64 (n1 : Int), .slice a1 k1 cc1] 25)) := (Below.refl _ _).alloc (Nat.le_refl _) _
  have e1 := heap_alloc_new w (.cells #[.string tb, .string bb, .int .i64 (l1 : Int), .int .i64 (h1 : Int), .int .i64 (n1 : Int), .slice a1 k1 cc1] 25)
  have z1 : (w.alloc (.cells #[.string tb, .string bb, .int .i64 (l1 : Int), .int .i64 (h1 : Int), .int .i64 (n1 : Int), .slice a1 k1 cc1] 25)).heap.size = w.heap.size + 1 := by simp
  obtain ⟨W1, hW1⟩ : ∃ W, w.alloc (.cells #[.string tb, .string bb, .int .i64 (l1 : Int), .int .i64 (h1 : Int), .int .i64 (n1 : Int), .slice a1 k1 cc1] 25) = W := ⟨_, rfl⟩
  rw [hW1] at b1 e1 z1
  have b2 : Below W1.heap.size W1 (W1.alloc (.cells #[.string ⟨#[]⟩, .string ⟨#[]⟩, .int .i64 0, .int .i64 0, .int .i64 0, .slice none 0 0] 25)) := (Below.refl _ _).alloc (Nat.le_refl _) _
  have e2 := heap_alloc_new W1 (.cells #[.string ⟨#[]⟩, .string ⟨#[]⟩, .int .i64 0, .int .i64 0, .int .i64 0, .slice none 0 0] 25)
  obtain ⟨W2, hW2⟩ : ∃ W, W1.alloc (.cells #[.string ⟨#[]⟩, .string ⟨#[]⟩, .int .i64 0, .int .i64 0, .int .i64 0, .slice none 0 0] 25) = W := ⟨_, rfl⟩
  rw [hW2] at b2 e2
  have b02 := b1.trans (b2.mono (by omega))
  have eA := (b2.block w.heap.size (by omega)).trans e1
  rw [z1] at e2
  have t0 := rd_cell (j := 0) eA rfl
  have t1 := rd_cell (j := 1) eA rfl
  have t2 := rd_cell (j := 2) eA rfl
  have t3 := rd_cell (j := 3) eA rfl
  have t4 := rd_cell (j := 4) eA rfl
  have t5 := rd_cell (j := 5) eA rfl
  obtain ⟨⟨r0, r1, r2, r3, r4, r5⟩, ⟨rf0, rf1, rf2, rf3, rf4, rf5⟩, v0, v1, v2, v3, v4, v5⟩ := six_facts e2 (.string tb) (.string bb) (.int .i64 (l1 : Int)) (.int .i64 (h1 : Int)) (.int .i64 (n1 : Int)) (.slice a1 k1 cc1)
  have HS : Hid (Six w Ok p [.string tb, .string bb, .int .i64 (l1 : Int), .int .i64 (h1 : Int), .int .i64 (n1 : Int), .slice a1 k1 cc1]) := h
  have HC : Hid (countP p ≤ 30) := hc
  clear h hc e1 e2 eA b1 b2 hz hl
  go_enter Tryz.func11, Tryz.ntmps11
  go_wp2_with fail
  refine bodyPost_ret (v := .tuple #[.agg #[.string tb, .string bb, .int .i64 (l1 : Int), .int .i64 (h1 : Int), .int .i64 (n1 : Int), .slice a1 k1 cc1], .bool true]) (by simp [results, Tryz.results11, go_sem, v0, v1, v2, v3, v4, v5]) rfl ?_
  refine ⟨(six_but (rb := w.heap.size) (to_but b02) (by omega) _ _ _ _ _ _).below (Nat.le_refl _) (Nat.le_refl _), Or.inr ⟨p, _, rfl, rfl, HS.out.kept fun q hq hlt => ⟨⟨hq, hlt⟩, (six_other _ (by omega) _ _ _ _ _ _).trans (b02.block q hlt)⟩, HC.out⟩⟩
set_option maxHeartbeats 4000000 in
set_option maxRecDepth 100000 in
theorem rfind_cons (z : Int) (r : List Int) (IH : RFindIs r) : RFindIs (z :: r) := by
  intro p xs Ok vp w hc h hp hl hz
  obtain ⟨t, bn, lo, hi, ln, ps⟩ := p
  have hfc := findP_cons t bn lo hi ln ps z r
  obtain ⟨N, hN⟩ : ∃ N, ps.length = N := ⟨_, rfl⟩
  have HN : Hid (ps.length = N) := hN
  have hps : N ≤ 29 := by rw [countP] at hc; have := parts_few ps; omega
  have HCH : Hid (∀ (j : Nat) q, ps[j]? = some q → countP q ≤ 30) := by
    intro j q hj
    have h2 := part_few (List.mem_of_getElem? hj)
    rw [countP] at hc
    omega
  have HS : Hid (Six w Ok (.mk t bn lo hi ln ps) xs) := h
  have HC : Hid (countP (.mk t bn lo hi ln ps) ≤ 30) := hc
  obtain ⟨tb, bb, a, c, rfl, rfl, rfl, hkids⟩ := six_kids h
  have hta : ([.string tb, .string bb, .int .i64 (lo : Int), .int .i64 (hi : Int), .int .i64 (ln : Int), .slice a ps.length c] : List Value).toArray = #[.string tb, .string bb, .int .i64 (lo : Int), .int .i64 (hi : Int), .int .i64 (ln : Int), .slice a N c] := by rw [hN]
  rw [hta]
  rw [hN] at HS
  have hz0 := hz z List.mem_cons_self
  have HZR : Hid (∀ z ∈ r, -9223372036854775808 ≤ z ∧ z ≤ 9223372036854775807) := fun x hx => hz x (List.mem_cons_of_mem _ hx)
  obtain ⟨ap, cp, rfl, hcp, hd⟩ := hp
  obtain ⟨L, hL⟩ : ∃ L, r.length = L := ⟨_, rfl⟩
  have HL : Hid (r.length = L) := hL
  rw [List.length_cons, hL] at hcp hl ⊢
  obtain ⟨C, rfl⟩ : ∃ C, cp = C + 1 := ⟨cp - 1, by omega⟩
  obtain ⟨pb, po, rfl, hat⟩ : ∃ b o, ap = some ⟨b, o, none⟩ ∧ ∀ (j : Nat) x, (z :: r)[j]? = some x → w.cell? ⟨b, o + j, none⟩ = some (.int .i64 x) := by
    rcases hd with hd | hd
    · cases hd
    · exact hd
  obtain ⟨G, hG⟩ : ∃ G, findP (.mk tb.data.toList bb.data.toList lo hi ln ps) (z :: r) = G := ⟨_, rfl⟩
  have HG : Hid (G = if ps = [] ∧ z = 1 ∧ r = [] then some (.mk tb.data.toList bb.data.toList lo hi ln ps) else if z < 1 ∨ (ps.length : Int) < z then none else match ps[(z - 1).toNat]? with
    | none => none
    | some q => findP q r) := by show _ = _; rw [← hG]; exact hfc
  rw [hG]
  have b1 : Below w.heap.size w (w.alloc (.cells #[.string tb, .string bb, .int .i64 (lo : Int), .int .i64 (hi : Int), .int .i64 (ln : Int), .slice a N c] 25)) := (Below.refl _ _).alloc (Nat.le_refl _) _
  have e1 := heap_alloc_new w (.cells #[.string tb, .string bb, .int .i64 (lo : Int), .int .i64 (hi : Int), .int .i64 (ln : Int), .slice a N c] 25)
  have z1 : (w.alloc (.cells #[.string tb, .string bb, .int .i64 (lo : Int), .int .i64 (hi : Int), .int .i64 (ln : Int), .slice a N c] 25)).heap.size = w.heap.size + 1 := by simp
  obtain ⟨W1, hW1⟩ : ∃ W, w.alloc (.cells #[.string tb, .string bb, .int .i64 (lo : Int), .int .i64 (hi : Int), .int .i64 (ln : Int), .slice a N c] 25) = W := ⟨_, rfl⟩
  rw [hW1] at b1 e1 z1
  have b2 : Below W1.heap.size W1 (W1.alloc (.cells #[.string ⟨#[]⟩, .string ⟨#[]⟩, .int .i64 0, .int .i64 0, .int .i64 0, .slice none 0 0] 25)) := (Below.refl _ _).alloc (Nat.le_refl _) _
  have e2 := heap_alloc_new W1 (.cells #[.string ⟨#[]⟩, .string ⟨#[]⟩, .int .i64 0, .int .i64 0, .int .i64 0, .slice none 0 0] 25)
  have z2 : (W1.alloc (.cells #[.string ⟨#[]⟩, .string ⟨#[]⟩, .int .i64 0, .int .i64 0, .int .i64 0, .slice none 0 0] 25)).heap.size = W1.heap.size + 1 := by simp
  obtain ⟨W2, hW2⟩ : ∃ W, W1.alloc (.cells #[.string ⟨#[]⟩, .string ⟨#[]⟩, .int .i64 0, .int .i64 0, .int .i64 0, .slice none 0 0] 25) = W := ⟨_, rfl⟩
  rw [hW2] at b2 e2 z2
  have b02 := b1.trans (b2.mono (by omega))
  have eA := (b2.block w.heap.size (by omega)).trans e1
  rw [z1] at e2
  have t0 := rd_cell (j := 0) eA rfl
  have t1 := rd_cell (j := 1) eA rfl
  have t2 := rd_cell (j := 2) eA rfl
  have t3 := rd_cell (j := 3) eA rfl
  have t4 := rd_cell (j := 4) eA rfl
  have t5 := rd_cell (j := 5) eA rfl
  have pc := (b02.cell (World.block_lt_of_cell? _ _ (hat 0 z rfl))).trans (hat 0 z rfl)
  rw [Nat.add_zero] at pc
  have HNQ : Hid (∀ W, Below w.heap.size w W → Nq W (.slice (if C = 0 then some ⟨pb, po, none⟩ else some ⟨pb, po + 1, none⟩) L C) r) := by
    intro W hW
    refine ⟨_, C, by rw [HL.out], by rw [HL.out]; omega, ?_⟩
    by_cases hC : C = 0
    · exact Or.inl (List.eq_nil_of_length_eq_zero (by rw [HL.out]; omega))
    · refine Or.inr ⟨pb, po + 1, if_neg hC, fun j x hj => ?_⟩
      have h9 := hat (j + 1) x (by simpa using hj)
      rw [show po + 1 + j = po + (j + 1) by omega]
      exact (hW.cell (World.block_lt_of_cell? _ _ h9)).trans h9
  have HKD : Hid (∀ (j : Nat) q, ps[j]? = some q → ∃ b o ys, a = some ⟨b, o, none⟩ ∧ Six w Ok q ys ∧ ∀ i x, ys[i]? = some x → w.cell? ⟨b, o + j * 6 + i, none⟩ = some x) := by
    intro j q hj
    obtain ⟨b, o, ys, h1, _, h3, h4⟩ := hkids j q hj
    exact ⟨b, o, ys, h1, h3, h4⟩
  have HIH : Hid (RFindIs r) := IH
  have iL : (((L : Int) + 1) == 0) = false := by simp; omega
  have iL1 : ((((L + 1 : Nat) : Int)) == 0) = false := by simp; omega
  obtain ⟨hit, hhit⟩ : ∃ b, decide (ps = [] ∧ z = 1 ∧ r = []) = b := ⟨_, rfl⟩
  have HH : Hid (decide (ps = [] ∧ z = 1 ∧ r = []) = hit) := hhit
  have HPE : Hid ((ps = [] ↔ N = 0) ∧ (r = [] ↔ L = 0)) := by
    refine ⟨⟨fun h => by rw [← HN.out, h]; rfl, fun h => List.eq_nil_of_length_eq_zero (by rw [HN.out]; exact h)⟩, ⟨fun h => by rw [← HL.out, h]; rfl, fun h => List.eq_nil_of_length_eq_zero (by rw [HL.out]; exact h)⟩⟩
  clear h hc hkids hta hfc hN hL hG hat hd hz IH hhit e1 b1 b2
  go_enter Tryz.func11, Tryz.ntmps11
  go_upto_region 4 with fail
  go_cut [26] (fun v wx => v = .bool hit ∧ wx = W2)
  case first =>
    by_cases h0 : N = 0
    · subst h0
      by_cases h1 : z = 1
      · subst h1
        by_cases h2 : L = 0
        · subst h2
          obtain rfl : hit = true := by rw [← HH.out, decide_eq_true ⟨HPE.out.1.2 rfl, rfl, HPE.out.2.2 rfl⟩]
          go_wp2_with fail
          go_meet
          case rel => exact ⟨rfl, rfl⟩
        · obtain rfl : hit = false := by rw [← HH.out, decide_eq_false (fun h => h2 (HPE.out.2.1 h.2.2))]
          have j1 : (((L : Int) + 1) == 1) = false := by simp; omega
          have j2 : ((((L + 1 : Nat) : Int)) == 1) = false := by simp; omega
          go_wp2_with fail
          go_meet
          case rel => exact ⟨rfl, rfl⟩
      · obtain rfl : hit = false := by rw [← HH.out, decide_eq_false (fun h => h1 h.2.1)]
        have j1 : (z == 1) = false := by simpa using h1
        go_wp2_with fail
        go_meet
        case rel => exact ⟨rfl, rfl⟩
    · obtain rfl : hit = false := by rw [← HH.out, decide_eq_false (fun h => h0 (HPE.out.1.1 h.1))]
      have j1 : ((N : Int) == 0) = false := by simpa using h0
      go_wp2_with fail
      go_meet
      case rel => exact ⟨rfl, rfl⟩
  case rest =>
    obtain ⟨rfl, hwx⟩ := hcut
    rename World => Wc
    obtain rfl : W2 = Wc := hwx.symm
    clear hwx
    cases hit
    · have HG2 : Hid (G = if z < 1 ∨ (N : Int) < z then none else match ps[(z - 1).toNat]? with
        | none => none
        | some q => findP q r) := by
        have := HG.out
        rw [if_neg (of_decide_eq_false HH.out), HN.out] at this
        exact this
      have cN := ref_in z 1 (N : Int) W2
      clear HG HH
      go_wp2_with fail
      refine cN.mono ?_
      clear cN
      rintro e w3 ⟨rfl, hw3⟩
      obtain rfl : W2 = w3 := hw3.symm
      by_cases hin : 1 ≤ z ∧ z ≤ (N : Int)
      · obtain ⟨k, hk⟩ : ∃ k : Nat, z = (k : Int) + 1 := ⟨(z - 1).toNat, by omega⟩
        have hkN : k < N := by omega
        have hkp : k < ps.length := by rw [HN.out]; exact hkN
        obtain ⟨q, hq⟩ : ∃ q, ps[k] = q := ⟨_, rfl⟩
        have hpk : ps[k]? = some q := by rw [List.getElem?_eq_getElem hkp, hq]
        have HG3 : Hid (findP q r = G) := by
          show _ = _
          rw [HG2.out, if_neg (by omega), show (z - 1).toNat = k by omega, hpk]
        obtain ⟨b', o', ys, ha', hsix, hcells⟩ := HKD.out k q hpk
        obtain ⟨xb, yb, l1, h1, n1, a1, m1, cc1, rfl⟩ := six_cells hsix
        subst ha'
        have HKS : Hid (∀ W : World, (∀ q, q < W2.heap.size → q ≠ w.heap.size + 1 → W.heap[q]? = W2.heap[q]?) → W.cell? ⟨w.heap.size, 5, none⟩ = some (.slice (some ⟨b', o', none⟩) N c) ∧ W.cell? ⟨b', o' + k * 6, none⟩ = some (.string xb) ∧ W.cell? ⟨b', o' + k * 6 + 1, none⟩ = some (.string yb) ∧ W.cell? ⟨b', o' + k * 6 + 2, none⟩ = some (.int .i64 (l1 : Int)) ∧ W.cell? ⟨b', o' + k * 6 + 3, none⟩ = some (.int .i64 (h1 : Int)) ∧ W.cell? ⟨b', o' + k * 6 + 4, none⟩ = some (.int .i64 (n1 : Int)) ∧ W.cell? ⟨b', o' + k * 6 + 5, none⟩ = some (.slice a1 m1 cc1)) := by
          intro W hW
          have kc : ∀ {p : Addr} {v : Value}, w.cell? p = some v → W.cell? p = some v := fun {p v} h9 => by
            have h8 := World.block_lt_of_cell? _ _ h9
            have h7 := (b02.cell h8).trans h9
            exact (World.cell?_of_block (hW p.block (by omega) (by omega))).trans h7
          refine ⟨(World.cell?_of_block (a := ⟨w.heap.size, 5, none⟩) (hW w.heap.size (by omega) (by omega))).trans t5, kc (hcells 0 _ rfl), kc (hcells 1 _ rfl), kc (hcells 2 _ rfl), kc (hcells 3 _ rfl), kc (hcells 4 _ rfl), kc (hcells 5 _ rfl)⟩
        have l2 : Below w.heap.size w W2.drew := b02.drew
        have cF := HIH.out q _ (fun k => Ok k ∧ k < w.heap.size) (.slice (if C = 0 then some ⟨pb, po, none⟩ else some ⟨pb, po + 1, none⟩) L C) W2.drew (HCH.out k q hpk) (hsix.kept fun q hq hlt => ⟨⟨hq, hlt⟩, l2.block q hlt⟩) (HNQ.out _ l2) (by rw [HL.out]; omega) HZR.out
        rw [HG3.out, show ([.string xb, .string yb, .int .i64 (l1 : Int), .int .i64 (h1 : Int), .int .i64 (n1 : Int), .slice a1 m1 cc1] : List Value).toArray = #[.string xb, .string yb, .int .i64 (l1 : Int), .int .i64 (h1 : Int), .int .i64 (n1 : Int), .slice a1 m1 cc1] from rfl] at cF
        have cF2 : Calls Tryz.prog 11 #[.agg #[.string xb, .string yb, .int .i64 (l1 : Int), .int .i64 (h1 : Int), .int .i64 (n1 : Int), .slice a1 m1 cc1], .slice (if C = 0 then some ⟨pb, po, none⟩ else some ⟨pb, po + 1, none⟩) L C] W2.drew fun e w' => ∃ (r0 r1 : ByteArray) (r2 r3 r4 : Int) (ra : Option Addr) (rk rc : Nat) (ok : Bool), e = .returned (.tuple #[.agg #[.string r0, .string r1, .int .i64 r2, .int .i64 r3, .int .i64 r4, .slice ra rk rc], .bool ok]) ∧ Below W2.heap.size W2 w' ∧ Hid ((G = none ∧ ok = false ∧ #[.string r0, .string r1, .int .i64 r2, .int .i64 r3, .int .i64 r4, .slice ra rk rc] = zeroSix.toArray) ∨ ∃ q, G = some q ∧ ok = true ∧ Six w' (fun k => Ok k ∧ k < w.heap.size) q [.string r0, .string r1, .int .i64 r2, .int .i64 r3, .int .i64 r4, .slice ra rk rc] ∧ countP q ≤ 30) := by
          refine cF.mono ?_
          rintro e w' ⟨hb, ⟨h8, rfl⟩ | ⟨q, ys, h8, rfl, h9, h10⟩⟩
          · exact ⟨⟨#[]⟩, ⟨#[]⟩, 0, 0, 0, none, 0, 0, false, rfl, (Below.refl _ _).drew.trans hb, Or.inl ⟨h8, rfl, rfl⟩⟩
          · obtain ⟨tb', bb', l1', h1', n1', a1', k1', cc1', rfl⟩ := six_cells h9
            exact ⟨tb', bb', l1', h1', n1', a1', k1', cc1', true, rfl, (Below.refl _ _).drew.trans hb, Or.inr ⟨q, h8, rfl, h9.kept fun q hq _ => ⟨hq.1, rfl⟩, h10⟩⟩
        have i0 : (0 : Int) ≤ (k : Int) := by omega
        have i1 : (k : Int) < (N : Int) := by omega
        have i2 : (1 : Int) ≤ (L : Int) + 1 := by omega
        have i3 : (L : Int) + 1 ≤ (C : Int) + 1 := by omega
        have i4 : ((1 : Int) ≤ ((L + 1 : Nat) : Int)) := by omega
        have i5 : (((L + 1 : Nat) : Int)) ≤ ((C + 1 : Nat) : Int) := by omega
        have hwz : IntKind.i64.wrap (z - 1) = (k : Int) := by rw [IntKind.wrap_i64]; omega
        have hdc : decide (1 ≤ z ∧ z ≤ (N : Int)) = true := decide_eq_true hin
        have eR2 := e2
        have hzz : Hid (w.heap.size + 1 < W2.heap.size) := by show _ < _; omega
        clear hcells hsix hpk hq HKD HG2 t0 t1 t2 t3 t4 pc hk hW1 hW2 z1 z2 HIH HNQ HCH hin cF
        rcases Nat.eq_zero_or_pos C with hC0 | hC0
        all_goals
          first
            | (subst hC0; obtain rfl : L = 0 := by omega
               rw [if_pos rfl] at cF2)
            | (have hC1 : ¬ C = 0 := by omega
               rw [if_neg hC1] at cF2)
          go_upto_region 8 with fail
          go_region_held3 (fun W => W.cell? ⟨w.heap.size, 5, none⟩ = some (.slice (some ⟨b', o', none⟩) N c) ∧ W.cell? ⟨b', o' + k * 6, none⟩ = some (.string xb) ∧ W.cell? ⟨b', o' + k * 6 + 1, none⟩ = some (.string yb) ∧ W.cell? ⟨b', o' + k * 6 + 2, none⟩ = some (.int .i64 (l1 : Int)) ∧ W.cell? ⟨b', o' + k * 6 + 3, none⟩ = some (.int .i64 (h1 : Int)) ∧ W.cell? ⟨b', o' + k * 6 + 4, none⟩ = some (.int .i64 (n1 : Int)) ∧ W.cell? ⟨b', o' + k * 6 + 5, none⟩ = some (.slice a1 m1 cc1))
            (first
              | (with_reducible exact HKS.out _ (fun q hq hn => (six_other _ hn _ _ _ _ _ _).trans (hb7.block q hq)))
              | (with_reducible exact HKS.out _ (fun q hq _ => hb7.block q hq))
              | exact HKS.out _ (fun q _ _ => rfl))
            ((go_at_call 11; refine cF2.mono ?_; rintro e w7 ⟨r0, r1, r2, r3, r4, ra, rk, rc, ok, rfl, hb7, HRF⟩; obtain ⟨⟨c0, c1, c2, c3, c4, c5⟩, ⟨cf0, cf1, cf2, cf3, cf4, cf5⟩, v0, v1, v2, v3, v4, v5⟩ := six_facts ((hb7.block _ hzz.out).trans eR2) (.string r0) (.string r1) (.int .i64 r2) (.int .i64 r3) (.int .i64 r4) (.slice ra rk rc)))
          all_goals
            go_wp2_with fail
            refine bodyPost_ret (v := .tuple #[.agg #[.string r0, .string r1, .int .i64 r2, .int .i64 r3, .int .i64 r4, .slice ra rk rc], .bool ok]) (by simp [results, Tryz.results11, go_sem, v0, v1, v2, v3, v4, v5]) rfl ?_
            have hb07 := b02.trans (hb7.mono b02.size)
            have hz7 := hb7.size
            refine ⟨(six_but (rb := w.heap.size) (to_but hb07) (by omega) _ _ _ _ _ _).below (Nat.le_refl _) (Nat.le_refl _), ?_⟩
            rcases HRF.out with ⟨g1, rfl, g2⟩ | ⟨q', g1, rfl, g2, g3⟩
            · exact Or.inl ⟨g1, by rw [g2]⟩
            · exact Or.inr ⟨q', _, g1, rfl, g2.kept fun q hq hlt => ⟨hq, six_other _ (by have := hq.2; omega) _ _ _ _ _ _⟩, g3⟩
      · have hdc : decide (1 ≤ z ∧ z ≤ (N : Int)) = false := decide_eq_false hin
        have HG3 : Hid (G = none) := by
          show _ = _
          rw [HG2.out, if_pos (by omega)]
        obtain ⟨⟨c0, c1, c2, c3, c4, c5⟩, ⟨cf0, cf1, cf2, cf3, cf4, cf5⟩, v0, v1, v2, v3, v4, v5⟩ := six_facts e2 (.string ⟨#[]⟩) (.string ⟨#[]⟩) (.int .i64 0) (.int .i64 0) (.int .i64 0) (.slice none 0 0)
        clear HG2 HKD HIH HNQ HCH
        go_wp2_with fail
        refine bodyPost_ret (v := .tuple #[.agg #[.string ⟨#[]⟩, .string ⟨#[]⟩, .int .i64 0, .int .i64 0, .int .i64 0, .slice none 0 0], .bool false]) (by simp [results, Tryz.results11, go_sem, v0, v1, v2, v3, v4, v5]) rfl ?_
        exact ⟨(six_but (rb := w.heap.size) (to_but b02) (by omega) _ _ _ _ _ _).below (Nat.le_refl _) (Nat.le_refl _), Or.inl ⟨HG3.out, rfl⟩⟩
    · have HG3 : Hid (G = some (.mk tb.data.toList bb.data.toList lo hi ln ps)) := by
        have := HG.out
        rw [if_pos (of_decide_eq_true HH.out)] at this
        exact this
      obtain ⟨⟨c0, c1, c2, c3, c4, c5⟩, ⟨cf0, cf1, cf2, cf3, cf4, cf5⟩, v0, v1, v2, v3, v4, v5⟩ := six_facts e2 (.string tb) (.string bb) (.int .i64 (lo : Int)) (.int .i64 (hi : Int)) (.int .i64 (ln : Int)) (.slice a N c)
      clear HG HKD HIH HNQ HCH HH
      go_wp2_with fail
      refine bodyPost_ret (v := .tuple #[.agg #[.string tb, .string bb, .int .i64 (lo : Int), .int .i64 (hi : Int), .int .i64 (ln : Int), .slice a N c], .bool true]) (by simp [results, Tryz.results11, go_sem, v0, v1, v2, v3, v4, v5]) rfl ?_
      exact ⟨(six_but (rb := w.heap.size) (to_but b02) (by omega) _ _ _ _ _ _).below (Nat.le_refl _) (Nat.le_refl _), Or.inr ⟨_, _, HG3.out, rfl, HS.out.kept fun q hq hlt => ⟨⟨hq, hlt⟩, (six_other _ (by omega) _ _ _ _ _ _).trans (b02.block q hlt)⟩, HC.out⟩⟩
theorem rfind_is : ∀ path, RFindIs path
  | [] => rfind_nil
  | z :: r => rfind_cons z r (rfind_is r)
end Go.Proofs.YtgbbkdflnlagaaaGreatDoor
namespace Go.Proofs.YtgbbkdflnlagaaaGreatDoor
open Go.RowKit Go.Proofs.Aid Go.Proofs.Sq Go.Proofs.Hd Go.Proofs.Mm

/-- The part's own box, where nothing that lay is turned. -/
def KX (bx : Nat) (box : Array Value) (w W : World) : Prop := W.heap[bx]? = some (.cells box 25 (0, 0)) ∧ Below w.heap.size w W
theorem KX.below {bx : Nat} {box : Array Value} {w W W' : World} (h : KX bx box w W) (hb : Below W.heap.size W W') : KX bx box w W' :=
  ⟨(hb.block bx (Array.getElem?_eq_some_iff.1 h.1).1).trans h.1, h.2.trans (hb.mono h.2.size)⟩
theorem KX.cell {bx j : Nat} {box : Array Value} {w W : World} {v : Value} (h : KX bx box w W) (hv : box[j]? = some v) : W.cell? ⟨bx, j, none⟩ = some v := rd_cell h.1 hv
def RPrintIs (n : Nat) : Prop := ∀ (p : Mm.Pt) (xs : List Value) (Ok : Nat → Prop) (w : World), countP p ≤ n → countP p ≤ 30 → Six w Ok p xs → Fits 100000 p → TabB w.heap.size w → Calls Tryz.prog 14 #[.agg xs.toArray] w fun e w' => e = .returned (.string ⟨(printP p).toArray⟩) ∧ Below w.heap.size w w'
theorem TabB.at {w W : World} (h : TabB w.heap.size w) (hb : Below w.heap.size w W) : TabB W.heap.size W := fun W' h' => h W' (hb.trans (h'.mono hb.size))
set_option maxHeartbeats 4000000 in
set_option maxRecDepth 100000 in
theorem rprint_leaf (t bn : Tx) (lo hi ln : Nat) (xs : List Value) (Ok : Nat → Prop) (w : World) (h : Six w Ok (.mk t bn lo hi ln []) xs) (hf : Fits 100000 (.mk t bn lo hi ln [])) (htab : TabB w.heap.size w) :
    Calls Tryz.prog 14 #[.agg xs.toArray] w fun e w' => e = .returned (.string ⟨(printP (.mk t bn lo hi ln [])).toArray⟩) ∧ Below w.heap.size w w' := by
  obtain ⟨f1, f2, f3, f4, _⟩ := hf
  obtain ⟨tb, bb, a, c, rfl, rfl, rfl, _⟩ := six_kids h
  have ht : ([.string tb, .string bb, .int .i64 (lo : Int), .int .i64 (hi : Int), .int .i64 (ln : Int), .slice a 0 c] : List Value).toArray = #[.string tb, .string bb, .int .i64 (lo : Int), .int .i64 (hi : Int), .int .i64 (ln : Int), .slice a 0 c] := rfl
  rw [show ([] : List Mm.Pt).length = 0 from rfl, ht]
  rw [list_size] at f1
  obtain ⟨d, hd⟩ : ∃ d, hi - lo = d := ⟨_, rfl⟩
  have hwd : IntKind.i64.wrap ((hi : Int) - (lo : Int)) = (d : Int) := by rw [IntKind.wrap_i64]; omega
  have hpr : printP (.mk tb.data.toList bb.data.toList lo hi ln []) = 40 :: 34 :: (tb.data.toList ++ 34 :: 32 :: (Lib.itoa (ln : Int) ++ 32 :: (Lib.itoa (d : Int) ++ [41]))) := by
    rw [printP, if_pos (by rfl), show (hi : Int) - (lo : Int) = (d : Int) by omega]
  obtain ⟨I1, hI1⟩ : ∃ t : ByteArray, ⟨(Lib.itoa (ln : Int)).toArray⟩ = t := ⟨_, rfl⟩
  obtain ⟨I2, hI2⟩ : ∃ t : ByteArray, ⟨(Lib.itoa (d : Int)).toArray⟩ = t := ⟨_, rfl⟩
  have hl1 : Lib.itoa (ln : Int) = I1.data.toList := by rw [← hI1]
  have hl2 : Lib.itoa (d : Int) = I2.data.toList := by rw [← hI2]
  have s1 : I1.size ≤ 21 := by have := Lib.itoa_length_le (ln : Int) (by omega) (by omega); rw [hl1, list_size] at this; exact this
  have s2 : I2.size ≤ 21 := by have := Lib.itoa_length_le (d : Int) (by omega) (by omega); rw [hl2, list_size] at this; exact this
  have HRES : Hid ((⟨(printP (.mk tb.data.toList bb.data.toList lo hi ln [])).toArray⟩ : ByteArray) = ⟨#[40, 34]⟩ ++ tb ++ ⟨#[34, 32]⟩ ++ I1 ++ ⟨#[32]⟩ ++ I2 ++ ⟨#[41]⟩) := by
    show _ = _
    refine text_ext ?_
    rw [cat_list, cat_list, cat_list, cat_list, cat_list, cat_list, hpr, hl1, hl2]
    simp
  have hb1 : Below w.heap.size w (w.alloc (.cells #[.string tb, .string bb, .int .i64 (lo : Int), .int .i64 (hi : Int), .int .i64 (ln : Int), .slice a 0 c] 25)) := (Below.refl _ _).alloc (Nat.le_refl _) _
  have e1 := heap_alloc_new w (.cells #[.string tb, .string bb, .int .i64 (lo : Int), .int .i64 (hi : Int), .int .i64 (ln : Int), .slice a 0 c] 25)
  have HT : Hid (TabB w.heap.size w) := htab
  have c1 : ∀ W, Below w.heap.size w W → Calls Tryz.prog 30 #[.int .i64 (ln : Int)] W fun e w' => e = .returned (.string I1) ∧ Below W.heap.size W w' := fun W hW => by
    rw [← hI1]; exact itoa_is (ln : Int) W (by omega) (by omega) (HT.out W hW)
  have c2 : ∀ W, Below w.heap.size w W → Calls Tryz.prog 30 #[.int .i64 (d : Int)] W fun e w' => e = .returned (.string I2) ∧ Below W.heap.size W w' := fun W hW => by
    rw [← hI2]; exact itoa_is (d : Int) W (by omega) (by omega) (HT.out W hW)
  have q1 : (9223372036854775807 < 2 + tb.size) = False := eq_false (by omega)
  have q2 : (9223372036854775807 < 2 + tb.size + 2) = False := eq_false (by omega)
  have q3 : (9223372036854775807 < 2 + tb.size + 2 + I1.size) = False := eq_false (by omega)
  have q4 : (9223372036854775807 < 2 + tb.size + 2 + I1.size + 1) = False := eq_false (by omega)
  have q5 : (9223372036854775807 < 2 + tb.size + 2 + I1.size + 1 + I2.size) = False := eq_false (by omega)
  have q6 : (9223372036854775807 < 2 + tb.size + 2 + I1.size + 1 + I2.size + 1) = False := eq_false (by omega)
  clear hpr h htab hl1 hl2 ht hI1 hI2
  go_enter Tryz.func14, Tryz.ntmps14
  go_upto_region 2 with fail
  generalize w.alloc (.cells #[.string tb, .string bb, .int .i64 (lo : Int), .int .i64 (hi : Int), .int .i64 (ln : Int), .slice a 0 c] 25) = W1 at e1 hb1 ⊢
  have l1 : Below W1.heap.size W1 W1.drew := (Below.refl _ _).drew
  have kw : KX w.heap.size #[.string tb, .string bb, .int .i64 (lo : Int), .int .i64 (hi : Int), .int .i64 (ln : Int), .slice a 0 c] w W1.drew := ⟨e1, hb1.drew⟩
  clear e1 hb1 l1 HT
  go_region_held3 (fun W => W.cell? ⟨w.heap.size, 0, none⟩ = some (.string tb) ∧ W.cell? ⟨w.heap.size, 2, none⟩ = some (.int .i64 (lo : Int)) ∧ W.cell? ⟨w.heap.size, 3, none⟩ = some (.int .i64 (hi : Int)) ∧ W.cell? ⟨w.heap.size, 4, none⟩ = some (.int .i64 (ln : Int)) ∧ KX w.heap.size #[.string tb, .string bb, .int .i64 (lo : Int), .int .i64 (hi : Int), .int .i64 (ln : Int), .slice a 0 c] w W)
    (first
      | exact ⟨kw.cell rfl, kw.cell rfl, kw.cell rfl, kw.cell rfl, kw⟩
      | exact ⟨k2.cell rfl, k2.cell rfl, k2.cell rfl, k2.cell rfl, k2⟩
      | exact ⟨k3.cell rfl, k3.cell rfl, k3.cell rfl, k3.cell rfl, k3⟩)
    (first
      | (go_at_call_of 30 (Value.int IntKind.i64 (ln : Int)); refine (c1 _ ?_).mono ?_; (focus (first | exact kw.2 | exact k3.2)); rintro e w2 ⟨rfl, hb2⟩; (first | have k2 := kw.below hb2 | have k2 := k3.below hb2))
      | (go_at_call_of 30 (Value.int IntKind.i64 (d : Int)); refine (c2 _ ?_).mono ?_; (focus (first | exact kw.2 | exact k2.2)); rintro e w3 ⟨rfl, hb3⟩; (first | have k3 := kw.below hb3 | have k3 := k2.below hb3)))
  all_goals
    go_wp2_with fail
    go_ret
    rw [HRES.out]
    first
      | exact ⟨rfl, k3.2⟩
      | exact ⟨rfl, k2.2⟩
set_option maxHeartbeats 4000000 in
set_option maxRecDepth 100000 in
theorem rprint_node (n : Nat) (IH : RPrintIs n) (t bn : Tx) (lo hi ln : Nat) (ps : List Mm.Pt) (xs : List Value) (Ok : Nat → Prop) (w : World) (hne : ps ≠ []) (hn : countP (.mk t bn lo hi ln ps) ≤ n + 1) (hc : countP (.mk t bn lo hi ln ps) ≤ 30) (h : Six w Ok (.mk t bn lo hi ln ps) xs) (hf : Fits 100000 (.mk t bn lo hi ln ps)) (htab : TabB w.heap.size w) :
    Calls Tryz.prog 14 #[.agg xs.toArray] w fun e w' => e = .returned (.string ⟨(printP (.mk t bn lo hi ln ps)).toArray⟩) ∧ Below w.heap.size w w' := by
  have hsh := print_short (by omega) _ hf
  obtain ⟨f1, f2, f3, f4, f5⟩ := hf
  obtain ⟨N, hN⟩ : ∃ N, ps.length = N := ⟨_, rfl⟩
  have HN : Hid (ps.length = N) := hN
  have hps : N ≤ 29 := by rw [countP] at hc; have := parts_few ps; omega
  have hN0 : 1 ≤ N := by cases ps with
    | nil => exact absurd rfl hne
    | cons _ _ => rw [← hN, List.length_cons]; omega
  have HCH : Hid (∀ (j : Nat) q, ps[j]? = some q → countP q ≤ n ∧ countP q ≤ 30 ∧ Fits 100000 q) := by
    intro j q hj
    have hm := List.mem_of_getElem? hj
    have h2 := part_few hm
    rw [countP] at hc hn
    exact ⟨by omega, by omega, fitsAll_get f5 hj⟩
  obtain ⟨tb, bb, a, c, rfl, rfl, rfl, hkids⟩ := six_kids h
  have HIH : Hid (RPrintIs n) := IH
  have HK : Hid (∀ W, Below w.heap.size w W → ∀ j q, ps[j]? = some q → ∃ b o ys, a = some ⟨b, o, none⟩ ∧ Six W Ok q ys ∧ ∀ i x, ys[i]? = some x → W.cell? ⟨b, o + j * 6 + i, none⟩ = some x) := by
    intro W hW j q hj
    obtain ⟨b, o, ys, h1, _, h3, h4⟩ := hkids j q hj
    exact ⟨b, o, ys, h1, h3.under hW, fun i x hx => (hW.cell (World.block_lt_of_cell? _ _ (h4 i x hx))).trans (h4 i x hx)⟩
  rw [list_size] at f1
  have hpr : printP (.mk tb.data.toList bb.data.toList lo hi ln ps) = 40 :: (printPs ps ++ 34 :: (tb.data.toList ++ [34, 41])) := by
    rw [printP, if_neg (by cases ps with
      | nil => exact absurd rfl hne
      | cons _ _ => simp)]
  have hlen2 : (printPs ps).length + (tb.size + 4) ≤ 100000000 := by
    have h9 : countP (.mk tb.data.toList bb.data.toList lo hi ln ps) * (100000 + 70) ≤ 30 * (100000 + 70) := Nat.mul_le_mul_right _ hc
    rw [hpr] at hsh
    simp only [List.length_cons, List.length_append, List.length_nil, list_size] at hsh
    omega
  have HP : Hid (printP (.mk tb.data.toList bb.data.toList lo hi ln ps) = 40 :: (printPs ps ++ 34 :: (tb.data.toList ++ [34, 41]))) := hpr
  have hb1 : Below w.heap.size w (w.alloc (.cells #[.string tb, .string bb, .int .i64 (lo : Int), .int .i64 (hi : Int), .int .i64 (ln : Int), .slice a N c] 25)) := (Below.refl _ _).alloc (Nat.le_refl _) _
  have e1 := heap_alloc_new w (.cells #[.string tb, .string bb, .int .i64 (lo : Int), .int .i64 (hi : Int), .int .i64 (ln : Int), .slice a N c] 25)
  have HT : Hid (TabB w.heap.size w) := htab
  have ht : ([.string tb, .string bb, .int .i64 (lo : Int), .int .i64 (hi : Int), .int .i64 (ln : Int), .slice a ps.length c] : List Value).toArray = #[.string tb, .string bb, .int .i64 (lo : Int), .int .i64 (hi : Int), .int .i64 (ln : Int), .slice a N c] := by rw [hN]
  rw [ht]
  obtain ⟨RES, hRES⟩ : ∃ t : ByteArray, (⟨(printP (.mk tb.data.toList bb.data.toList lo hi ln ps)).toArray⟩ : ByteArray) = t := ⟨_, rfl⟩
  have HRES : Hid (RES.data.toList = 40 :: (printPs ps ++ 34 :: (tb.data.toList ++ [34, 41]))) := by show _ = _; rw [← hRES, ← hpr]
  rw [hRES]
  have hN1 : ((N : Int) == 0) = false := by simp; omega
  have kw : KX w.heap.size #[.string tb, .string bb, .int .i64 (lo : Int), .int .i64 (hi : Int), .int .i64 (ln : Int), .slice a N c] w (w.alloc (.cells #[.string tb, .string bb, .int .i64 (lo : Int), .int .i64 (hi : Int), .int .i64 (ln : Int), .slice a N c] 25)) := ⟨e1, hb1⟩
  clear hpr h htab ht IH hn hc hkids hN hne f5 hb1 hRES hsh HP
  go_enter Tryz.func14, Tryz.ntmps14
  go_wp2_with fail
  generalize w.alloc (.cells #[.string tb, .string bb, .int .i64 (lo : Int), .int .i64 (hi : Int), .int .i64 (ln : Int), .slice a N c] 25) = W1 at e1 kw ⊢
  have HKW : Hid (∀ W, Below W1.heap.size W1 W → KX w.heap.size #[.string tb, .string bb, .int .i64 (lo : Int), .int .i64 (hi : Int), .int .i64 (ln : Int), .slice a N c] w W) := fun W h => kw.below h
  clear e1 kw
  go_loopw [3, 30] (fun sv i wr => ∃ (k : Nat) (S : ByteArray), sv = .string S ∧ i = .int .i64 (k : Int) ∧ k ≤ N ∧ S.size ≤ 100000000 ∧ Hid (S.data.toList = 40 :: printPs (ps.take k)) ∧ Below W1.heap.size W1 wr) (fun _ i _ => N - (intOf i).toNat)
  case atStart => exact ⟨0, _, rfl, rfl, by omega, by decide, rfl, Below.refl _ _⟩
  case round =>
    obtain ⟨k, S, rfl, rfl, hk, hSz, HS, hbW⟩ := hrel
    have kwr := HKW.out wr hbW
    have hb0 := kwr.2
    by_cases hlt : k < N
    · have hkp : k < ps.length := by rw [HN.out]; exact hlt
      obtain ⟨q, hq⟩ : ∃ q, ps[k] = q := ⟨_, rfl⟩
      have hpk : ps[k]? = some q := by rw [List.getElem?_eq_getElem hkp, hq]
      obtain ⟨b, o, ys, ha, hsix, hcells⟩ := HK.out wr hb0 k q hpk
      obtain ⟨xb, yb, l1, h1, n1, a1, k1, cc1, rfl⟩ := six_cells hsix
      subst ha
      have c0 := hcells 0 _ rfl
      have c1 := hcells 1 _ rfl
      have c2 := hcells 2 _ rfl
      have c3 := hcells 3 _ rfl
      have c4 := hcells 4 _ rfl
      have c5 := hcells 5 _ rfl
      rw [Nat.add_zero] at c0
      have hbA : Below wr.heap.size wr (wr.alloc (.cells #[.string xb, .string yb, .int .i64 (l1 : Int), .int .i64 (h1 : Int), .int .i64 (n1 : Int), .slice a1 k1 cc1] 25)) := (Below.refl _ _).alloc (Nat.le_refl _) _
      have eA := heap_alloc_new wr (.cells #[.string xb, .string yb, .int .i64 (l1 : Int), .int .i64 (h1 : Int), .int .i64 (n1 : Int), .slice a1 k1 cc1] 25)
      have t0 := rd_cell (j := 0) eA rfl
      have t1 := rd_cell (j := 1) eA rfl
      have t2 := rd_cell (j := 2) eA rfl
      have t3 := rd_cell (j := 3) eA rfl
      have t4 := rd_cell (j := 4) eA rfl
      have t5 := rd_cell (j := 5) eA rfl
      have hbWA := hb0.trans (hbA.mono hb0.size)
      have hsn := printPs_snoc hpk
      have htk := printPs_take ps (k + 1)
      rw [hsn] at htk
      simp only [List.length_append, List.length_cons, List.length_nil] at htk
      have cF := HIH.out q _ Ok (wr.alloc (.cells #[.string xb, .string yb, .int .i64 (l1 : Int), .int .i64 (h1 : Int), .int .i64 (n1 : Int), .slice a1 k1 cc1] 25)) (HCH.out k q hpk).1 (HCH.out k q hpk).2.1 (hsix.under hbA) (HCH.out k q hpk).2.2 (HT.out.at hbWA)
      rw [show ([.string xb, .string yb, .int .i64 (l1 : Int), .int .i64 (h1 : Int), .int .i64 (n1 : Int), .slice a1 k1 cc1] : List Value).toArray = #[.string xb, .string yb, .int .i64 (l1 : Int), .int .i64 (h1 : Int), .int .i64 (n1 : Int), .slice a1 k1 cc1] from rfl] at cF
      obtain ⟨PQ, hPQ⟩ : ∃ t : ByteArray, (⟨(printP q).toArray⟩ : ByteArray) = t := ⟨_, rfl⟩
      have hPQl : PQ.data.toList = printP q := by rw [← hPQ]
      rw [hPQ] at cF
      have hPz : (printP q).length = PQ.size := by rw [← hPQl, list_size]
      have hSe : S.size = 1 + (printPs (ps.take k)).length := by rw [← list_size, HS.out, List.length_cons]; omega
      have y1 : (9223372036854775807 < PQ.size + 1) = False := eq_false (by omega)
      have y2 : (9223372036854775807 < S.size + (PQ.size + 1)) = False := eq_false (by omega)
      have HSN : Hid ((S ++ (PQ ++ ⟨#[32]⟩) : ByteArray).data.toList = 40 :: printPs (ps.take (k + 1)) ∧ (S ++ (PQ ++ ⟨#[32]⟩) : ByteArray).size ≤ 100000000) := by
        refine ⟨?_, ?_⟩
        · rw [cat_list, cat_list, HS.out, hPQl, hsn]; rfl
        · rw [cat_size, cat_size]; show S.size + (PQ.size + 1) ≤ _; omega
      clear hcells hq hsix eA hsn htk HS hPQ hPQl hPz hSe
      go_wp2_with fail
      refine cF.mono ?_
      clear cF
      rintro e w5 ⟨rfl, hb5⟩
      have hbr5 := (hbW.trans (hbA.mono hbW.size)).trans (hb5.mono (hbW.trans (hbA.mono hbW.size)).size)
      go_wp2_with fail
      go_roundw
      case rel => exact ⟨k + 1, _, rfl, by go_num, by omega, HSN.out.2, HSN.out.1, hbr5⟩
      case measure => simp [intOf]; omega
    · obtain rfl : k = N := by omega
      have x0 := kwr.cell (j := 0) rfl
      have HSE : Hid (S.data.toList = 40 :: printPs ps) := by
        have := HS.out
        rw [List.take_of_length_le (by rw [HN.out]; omega)] at this
        exact this
      have hSe : S.size = 1 + (printPs ps).length := by rw [← list_size, HSE.out, List.length_cons]; omega
      have HFIN : Hid ((S ++ ⟨#[34]⟩ ++ tb ++ ⟨#[34, 41]⟩ : ByteArray) = RES) := by
        show _ = _
        refine text_ext ?_
        rw [cat_list, cat_list, cat_list, HSE.out, HRES.out]
        simp
      have y1 : (9223372036854775807 < S.size + 1) = False := eq_false (by omega)
      have y2 : (9223372036854775807 < S.size + 1 + tb.size) = False := eq_false (by omega)
      have y3 : (9223372036854775807 < S.size + 1 + tb.size + 2) = False := eq_false (by omega)
      clear HS hSe kwr
      go_wp2_with fail
      go_ret
      exact ⟨by rw [HFIN.out]; rfl, hb0⟩
theorem rprint_is : ∀ n, RPrintIs n
  | 0 => fun p _ _ _ h => absurd h (by have := countP_pos p; omega)
  | n + 1 => fun p xs Ok w hn hc h hf htab => by
    obtain ⟨t, bn, lo, hi, ln, ps⟩ := p
    by_cases hne : ps = []
    · subst hne
      exact rprint_leaf t bn lo hi ln xs Ok w h hf htab
    · exact rprint_node n (rprint_is n) t bn lo hi ln ps xs Ok w hne hn hc h hf htab
end Go.Proofs.YtgbbkdflnlagaaaGreatDoor
namespace Go.Proofs.YtgbbkdflnlagaaaGreatDoor
open Go.RowKit Go.Proofs.Aid Go.Proofs.Sq Go.Proofs.Hd Go.Proofs.Mm

def SameIs (n : Nat) : Prop := ∀ (p : Mm.Pt) (xs ys : List Value) (Ok Ok' : Nat → Prop) (w : World), countP p ≤ n → countP p ≤ 30 → Six w Ok p xs → Six w Ok' p ys → Calls Tryz.prog 10 #[.agg xs.toArray, .agg ys.toArray] w fun e w' => e = .returned (.bool true) ∧ Below w.heap.size w w'
set_option maxHeartbeats 4000000 in
set_option maxRecDepth 100000 in
theorem same_step (n : Nat) (IH : SameIs n) : SameIs (n + 1) := by
  intro p xs ys Ok Ok' w hn hc h h'
  obtain ⟨t, bn, lo, hi, ln, ps⟩ := p
  obtain ⟨N, hN⟩ : ∃ N, ps.length = N := ⟨_, rfl⟩
  have HN : Hid (ps.length = N) := hN
  have hps : N ≤ 29 := by rw [countP] at hc; have := parts_few ps; omega
  have HCH : Hid (∀ (j : Nat) q, ps[j]? = some q → countP q ≤ n ∧ countP q ≤ 30) := by
    intro j q hj
    have hm := List.mem_of_getElem? hj
    have h2 := part_few hm
    rw [countP] at hc hn
    exact ⟨by omega, by omega⟩
  obtain ⟨tb, bb, a, c, rfl, rfl, rfl, hkids⟩ := six_kids h
  obtain ⟨tb', bb', a', c', rfl, ht', hb', hkids'⟩ := six_kids h'
  obtain rfl := text_ext ht'
  obtain rfl := text_ext hb'
  have HIH : Hid (SameIs n) := IH
  have HK : Hid (∀ W, Below w.heap.size w W → ∀ j q, ps[j]? = some q → ∃ b o ys, a = some ⟨b, o, none⟩ ∧ Six W Ok q ys ∧ ∀ i x, ys[i]? = some x → W.cell? ⟨b, o + j * 6 + i, none⟩ = some x) := by
    intro W hW j q hj
    obtain ⟨b, o, ys, h1, _, h3, h4⟩ := hkids j q hj
    exact ⟨b, o, ys, h1, h3.under hW, fun i x hx => (hW.cell (World.block_lt_of_cell? _ _ (h4 i x hx))).trans (h4 i x hx)⟩
  have HK' : Hid (∀ W, Below w.heap.size w W → ∀ j q, ps[j]? = some q → ∃ b o ys, a' = some ⟨b, o, none⟩ ∧ Six W Ok' q ys ∧ ∀ i x, ys[i]? = some x → W.cell? ⟨b, o + j * 6 + i, none⟩ = some x) := by
    intro W hW j q hj
    obtain ⟨b, o, ys, h1, _, h3, h4⟩ := hkids' j q hj
    exact ⟨b, o, ys, h1, h3.under hW, fun i x hx => (hW.cell (World.block_lt_of_cell? _ _ (h4 i x hx))).trans (h4 i x hx)⟩
  have hta : ([.string tb', .string bb', .int .i64 (lo : Int), .int .i64 (hi : Int), .int .i64 (ln : Int), .slice a ps.length c] : List Value).toArray = #[.string tb', .string bb', .int .i64 (lo : Int), .int .i64 (hi : Int), .int .i64 (ln : Int), .slice a N c] := by rw [hN]
  have hta' : ([.string tb', .string bb', .int .i64 (lo : Int), .int .i64 (hi : Int), .int .i64 (ln : Int), .slice a' ps.length c'] : List Value).toArray = #[.string tb', .string bb', .int .i64 (lo : Int), .int .i64 (hi : Int), .int .i64 (ln : Int), .slice a' N c'] := by rw [hN]
  rw [hta, hta']
  have e1 := heap_alloc_new w (.cells #[.string tb', .string bb', .int .i64 (lo : Int), .int .i64 (hi : Int), .int .i64 (ln : Int), .slice a N c] 25)
  have b1 : Below w.heap.size w (w.alloc (.cells #[.string tb', .string bb', .int .i64 (lo : Int), .int .i64 (hi : Int), .int .i64 (ln : Int), .slice a N c] 25)) := (Below.refl _ _).alloc (Nat.le_refl _) _
  have z1 : (w.alloc (.cells #[.string tb', .string bb', .int .i64 (lo : Int), .int .i64 (hi : Int), .int .i64 (ln : Int), .slice a N c] 25)).heap.size = w.heap.size + 1 := by simp
  obtain ⟨W1, hW1⟩ : ∃ W, w.alloc (.cells #[.string tb', .string bb', .int .i64 (lo : Int), .int .i64 (hi : Int), .int .i64 (ln : Int), .slice a N c] 25) = W := ⟨_, rfl⟩
  rw [hW1] at e1 b1 z1
  have e2 := heap_alloc_new W1 (.cells #[.string tb', .string bb', .int .i64 (lo : Int), .int .i64 (hi : Int), .int .i64 (ln : Int), .slice a' N c'] 25)
  have b2 : Below W1.heap.size W1 (W1.alloc (.cells #[.string tb', .string bb', .int .i64 (lo : Int), .int .i64 (hi : Int), .int .i64 (ln : Int), .slice a' N c'] 25)) := (Below.refl _ _).alloc (Nat.le_refl _) _
  obtain ⟨W2, hW2⟩ : ∃ W, W1.alloc (.cells #[.string tb', .string bb', .int .i64 (lo : Int), .int .i64 (hi : Int), .int .i64 (ln : Int), .slice a' N c'] 25) = W := ⟨_, rfl⟩
  rw [hW2] at e2 b2
  have zW2 : w.heap.size + 1 < W2.heap.size := by rw [← hW2]; simp; omega
  have b02 := b1.trans (b2.mono (by omega))
  have eA : W2.heap[w.heap.size]? = some (.cells #[.string tb', .string bb', .int .i64 (lo : Int), .int .i64 (hi : Int), .int .i64 (ln : Int), .slice a N c] 25 (0, 0)) := (b2.block _ (by omega)).trans e1
  have eB : W2.heap[w.heap.size + 1]? = some (.cells #[.string tb', .string bb', .int .i64 (lo : Int), .int .i64 (hi : Int), .int .i64 (ln : Int), .slice a' N c'] 25 (0, 0)) := by rw [← z1]; exact e2
  have p0 := rd_cell (j := 0) eA rfl
  have p1 := rd_cell (j := 1) eA rfl
  have p2 := rd_cell (j := 2) eA rfl
  have p3 := rd_cell (j := 3) eA rfl
  have p4 := rd_cell (j := 4) eA rfl
  have p5 := rd_cell (j := 5) eA rfl
  have q0 := rd_cell (j := 0) eB rfl
  have q1 := rd_cell (j := 1) eB rfl
  have q2 := rd_cell (j := 2) eB rfl
  have q3 := rd_cell (j := 3) eB rfl
  have q4 := rd_cell (j := 4) eB rfl
  have q5 := rd_cell (j := 5) eB rfl
  have HP : Hid (∀ W, Below W2.heap.size W2 W → W.cell? ⟨w.heap.size, 5, none⟩ = some (.slice a N c) ∧ W.cell? ⟨w.heap.size + 1, 5, none⟩ = some (.slice a' N c')) := fun W h => ⟨(h.cell (p := ⟨w.heap.size, 5, none⟩) (by show w.heap.size < _; omega)).trans p5, (h.cell (p := ⟨w.heap.size + 1, 5, none⟩) zW2).trans q5⟩
  clear h h' hn hc hkids hkids' hta hta' e1 e2 b1 b2 IH hN eA eB ht' hb'
  go_enter Tryz.func10, Tryz.ntmps10
  go_wp2_with fail
  clear hW1 hW2 p0 p1 p2 p3 p4 p5 q0 q1 q2 q3 q4 q5
  go_loopw [5] (fun i wr => ∃ (k : Nat), i = .int .i64 (k : Int) ∧ k ≤ N ∧ Below W2.heap.size W2 wr) (fun i _ => N - (intOf i).toNat)
  case atStart => exact ⟨0, rfl, by omega, Below.refl _ _⟩
  case round =>
    obtain ⟨k, rfl, hk, hbW⟩ := hrel
    have hb0 := b02.trans (hbW.mono b02.size)
    obtain ⟨p5, q5⟩ := HP.out wr hbW
    by_cases hlt : k < N
    · have hkp : k < ps.length := by rw [HN.out]; exact hlt
      obtain ⟨q, hq⟩ : ∃ q, ps[k] = q := ⟨_, rfl⟩
      have hpk : ps[k]? = some q := by rw [List.getElem?_eq_getElem hkp, hq]
      have k0 : (0 : Int) ≤ (k : Int) := by omega
      have k1 : (k : Int) < (N : Int) := by omega
      obtain ⟨b, o, ys, ha, hsix, hcells⟩ := HK.out wr hb0 k q hpk
      obtain ⟨b', o', ys', ha', hsix', hcells'⟩ := HK'.out wr hb0 k q hpk
      obtain ⟨xb, yb, l1, h1, n1, a1, m1, cc1, rfl⟩ := six_cells hsix
      obtain ⟨xb', yb', l1', h1', n1', a1', m1', cc1', rfl⟩ := six_cells hsix'
      subst ha ha'
      have KS : ∀ W, Below wr.heap.size wr W → W.cell? ⟨w.heap.size, 5, none⟩ = some (.slice (some ⟨b, o, none⟩) N c) ∧ W.cell? ⟨w.heap.size + 1, 5, none⟩ = some (.slice (some ⟨b', o', none⟩) N c') ∧
          W.cell? ⟨b, o + k * 6, none⟩ = some (.string xb) ∧ W.cell? ⟨b, o + k * 6 + 1, none⟩ = some (.string yb) ∧ W.cell? ⟨b, o + k * 6 + 2, none⟩ = some (.int .i64 (l1 : Int)) ∧ W.cell? ⟨b, o + k * 6 + 3, none⟩ = some (.int .i64 (h1 : Int)) ∧ W.cell? ⟨b, o + k * 6 + 4, none⟩ = some (.int .i64 (n1 : Int)) ∧ W.cell? ⟨b, o + k * 6 + 5, none⟩ = some (.slice a1 m1 cc1) ∧
          W.cell? ⟨b', o' + k * 6, none⟩ = some (.string xb') ∧ W.cell? ⟨b', o' + k * 6 + 1, none⟩ = some (.string yb') ∧ W.cell? ⟨b', o' + k * 6 + 2, none⟩ = some (.int .i64 (l1' : Int)) ∧ W.cell? ⟨b', o' + k * 6 + 3, none⟩ = some (.int .i64 (h1' : Int)) ∧ W.cell? ⟨b', o' + k * 6 + 4, none⟩ = some (.int .i64 (n1' : Int)) ∧ W.cell? ⟨b', o' + k * 6 + 5, none⟩ = some (.slice a1' m1' cc1') := by
        intro W hW
        have kc : ∀ {p : Addr} {v : Value}, wr.cell? p = some v → W.cell? p = some v := fun {p v} h => (hW.cell (World.block_lt_of_cell? _ _ h)).trans h
        exact ⟨kc p5, kc q5, kc (hcells 0 _ rfl), kc (hcells 1 _ rfl), kc (hcells 2 _ rfl), kc (hcells 3 _ rfl), kc (hcells 4 _ rfl), kc (hcells 5 _ rfl), kc (hcells' 0 _ rfl), kc (hcells' 1 _ rfl), kc (hcells' 2 _ rfl), kc (hcells' 3 _ rfl), kc (hcells' 4 _ rfl), kc (hcells' 5 _ rfl)⟩
      have HKS : Hid (∀ W, Below wr.heap.size wr W → W.cell? ⟨w.heap.size, 5, none⟩ = some (.slice (some ⟨b, o, none⟩) N c) ∧ W.cell? ⟨w.heap.size + 1, 5, none⟩ = some (.slice (some ⟨b', o', none⟩) N c') ∧
          W.cell? ⟨b, o + k * 6, none⟩ = some (.string xb) ∧ W.cell? ⟨b, o + k * 6 + 1, none⟩ = some (.string yb) ∧ W.cell? ⟨b, o + k * 6 + 2, none⟩ = some (.int .i64 (l1 : Int)) ∧ W.cell? ⟨b, o + k * 6 + 3, none⟩ = some (.int .i64 (h1 : Int)) ∧ W.cell? ⟨b, o + k * 6 + 4, none⟩ = some (.int .i64 (n1 : Int)) ∧ W.cell? ⟨b, o + k * 6 + 5, none⟩ = some (.slice a1 m1 cc1) ∧
          W.cell? ⟨b', o' + k * 6, none⟩ = some (.string xb') ∧ W.cell? ⟨b', o' + k * 6 + 1, none⟩ = some (.string yb') ∧ W.cell? ⟨b', o' + k * 6 + 2, none⟩ = some (.int .i64 (l1' : Int)) ∧ W.cell? ⟨b', o' + k * 6 + 3, none⟩ = some (.int .i64 (h1' : Int)) ∧ W.cell? ⟨b', o' + k * 6 + 4, none⟩ = some (.int .i64 (n1' : Int)) ∧ W.cell? ⟨b', o' + k * 6 + 5, none⟩ = some (.slice a1' m1' cc1')) := KS
      have l1r : Below wr.heap.size wr wr.drew := (Below.refl _ _).drew
      have cF : Calls Tryz.prog 10 #[.agg #[.string xb, .string yb, .int .i64 (l1 : Int), .int .i64 (h1 : Int), .int .i64 (n1 : Int), .slice a1 m1 cc1], .agg #[.string xb', .string yb', .int .i64 (l1' : Int), .int .i64 (h1' : Int), .int .i64 (n1' : Int), .slice a1' m1' cc1']] wr.drew fun e w' => e = .returned (.bool true) ∧ Below wr.heap.size wr w' :=
        (HIH.out q _ _ Ok Ok' wr.drew (HCH.out k q hpk).1 (HCH.out k q hpk).2 (hsix.under l1r) (hsix'.under l1r)).mono (by
          rintro e w' ⟨rfl, hb⟩
          exact ⟨rfl, l1r.trans hb⟩)
      clear KS hcells hcells' hsix hsix' hq hpk
      go_wp2_with fail
      go_region_held3 (fun W => W.cell? ⟨w.heap.size, 5, none⟩ = some (.slice (some ⟨b, o, none⟩) N c) ∧ W.cell? ⟨w.heap.size + 1, 5, none⟩ = some (.slice (some ⟨b', o', none⟩) N c') ∧
          W.cell? ⟨b, o + k * 6, none⟩ = some (.string xb) ∧ W.cell? ⟨b, o + k * 6 + 1, none⟩ = some (.string yb) ∧ W.cell? ⟨b, o + k * 6 + 2, none⟩ = some (.int .i64 (l1 : Int)) ∧ W.cell? ⟨b, o + k * 6 + 3, none⟩ = some (.int .i64 (h1 : Int)) ∧ W.cell? ⟨b, o + k * 6 + 4, none⟩ = some (.int .i64 (n1 : Int)) ∧ W.cell? ⟨b, o + k * 6 + 5, none⟩ = some (.slice a1 m1 cc1) ∧
          W.cell? ⟨b', o' + k * 6, none⟩ = some (.string xb') ∧ W.cell? ⟨b', o' + k * 6 + 1, none⟩ = some (.string yb') ∧ W.cell? ⟨b', o' + k * 6 + 2, none⟩ = some (.int .i64 (l1' : Int)) ∧ W.cell? ⟨b', o' + k * 6 + 3, none⟩ = some (.int .i64 (h1' : Int)) ∧ W.cell? ⟨b', o' + k * 6 + 4, none⟩ = some (.int .i64 (n1' : Int)) ∧ W.cell? ⟨b', o' + k * 6 + 5, none⟩ = some (.slice a1' m1' cc1'))
        (first | exact HKS.out _ l1r | exact HKS.out _ hb7)
        ((go_at_call 10; refine cF.mono ?_; rintro e w7 ⟨rfl, hb7⟩))
      all_goals
        go_wp2_with fail
        go_roundw
        case rel => exact ⟨k + 1, by go_num, by omega, hbW.trans (hb7.mono hbW.size)⟩
        case measure => simp [intOf]; omega
    · obtain rfl : k = N := by omega
      go_wp2_with fail
      go_ret
      exact ⟨rfl, hb0⟩
theorem same_is : ∀ n, SameIs n
  | 0 => fun p _ _ _ _ _ h => absurd h (by have := countP_pos p; omega)
  | n + 1 => same_step n (same_is n)
end Go.Proofs.YtgbbkdflnlagaaaGreatDoor
