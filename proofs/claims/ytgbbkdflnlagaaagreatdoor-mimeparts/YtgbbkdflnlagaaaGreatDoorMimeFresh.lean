/-
  What mime.fresh does: a part in memory of its own.
-/
import Derived.Test.YtgbbkdflnlagaaaGreatDoorMimeAid
namespace Go.Proofs.YtgbbkdflnlagaaaGreatDoor
open Go.RowKit Go.Proofs.Aid Go.Proofs.Sq Go.Proofs.Hd Go.Proofs.Mm

theorem countP_pos : ∀ p : Mm.Pt, 1 ≤ countP p
  | .mk _ _ _ _ _ ps => by rw [countP]; omega
theorem parts_few : ∀ ps : List Mm.Pt, ps.length ≤ countPs ps
  | [] => Nat.zero_le _
  | p :: ps => by have := parts_few ps; have := countP_pos p; rw [countPs, List.length_cons]; omega
theorem part_few : ∀ {ps : List Mm.Pt} {p : Mm.Pt}, p ∈ ps → countP p ≤ countPs ps
  | q :: ps, p, h => by
    rw [countPs]
    rcases List.mem_cons.1 h with rfl | h
    · omega
    · have := part_few h; omega
/-- Six values are a part: those in it, one by one. -/
theorem six_kids {w : World} {Ok : Nat → Prop} {t b : Tx} {lo hi n : Nat} {ps : List Mm.Pt} {xs : List Value} (h : Six w Ok (.mk t b lo hi n ps) xs) :
    ∃ (tb bb : ByteArray) (a : Option Addr) (c : Nat), xs = [.string tb, .string bb, .int .i64 (lo : Int), .int .i64 (hi : Int), .int .i64 (n : Int), .slice a ps.length c] ∧ tb.data.toList = t ∧ bb.data.toList = b ∧
      ∀ j p, ps[j]? = some p → ∃ b o ys, a = some ⟨b, o, none⟩ ∧ Ok b ∧ Six w Ok p ys ∧ ∀ i x, ys[i]? = some x → w.cell? ⟨b, o + j * 6 + i, none⟩ = some x := by
  cases h with
  | mk tb bb _ _ _ _ a c rows hk ha =>
    refine ⟨tb, bb, a, c, rfl, rfl, rfl, fun j p hj => ?_⟩
    rcases ha with ha | ⟨b, o, h1, h2, h3⟩
    · subst ha; simp at hj
    · exact ⟨b, o, rows j, h1, h2, hk j p hj, h3 j p hj⟩
set_option maxHeartbeats 8000000 in
set_option maxRecDepth 100000 in
theorem fresh_step (n : Nat)
    (IH : ∀ (p : Mm.Pt) (xs : List Value) (Ok : Nat → Prop) (w : World), countP p ≤ n → countP p ≤ 30 → Six w Ok p xs → Calls Tryz.prog 37 #[.agg xs.toArray] w fun e w' => Below w.heap.size w w' ∧ ∃ ys, e = .returned (.agg ys.toArray) ∧ Six w' (fun k => w.heap.size ≤ k) p ys)
    (p : Mm.Pt) (xs : List Value) (Ok : Nat → Prop) (w : World) (hn : countP p ≤ n + 1) (hc : countP p ≤ 30) (h : Six w Ok p xs) :
    Calls Tryz.prog 37 #[.agg xs.toArray] w fun e w' => Below w.heap.size w w' ∧ ∃ ys, e = .returned (.agg ys.toArray) ∧ Six w' (fun k => w.heap.size ≤ k) p ys := by
  obtain ⟨t, b, lo, hi, ln, ps⟩ := p
  have hps : ps.length ≤ 29 := by rw [countP] at hc; have := parts_few ps; omega
  have HCH : Hid (∀ (j : Nat) q, ps[j]? = some q → countP q ≤ n ∧ countP q ≤ 30) := by
    intro j q hj
    have hm := List.mem_of_getElem? hj
    have h2 := part_few hm
    rw [countP] at hc hn
    exact ⟨by omega, by omega⟩
  obtain ⟨tb, bb, a, c, rfl, rfl, rfl, hkids⟩ := six_kids h
  obtain ⟨j0, hj, hjz0, hjz1, hjz2⟩ := info_parts Tryz.infoPart
  have HIH : Hid (∀ (p : Mm.Pt) (xs : List Value) (Ok : Nat → Prop) (w : World), countP p ≤ n → countP p ≤ 30 → Six w Ok p xs → Calls Tryz.prog 37 #[.agg xs.toArray] w fun e w' => Below w.heap.size w w' ∧ ∃ ys, e = .returned (.agg ys.toArray) ∧ Six w' (fun k => w.heap.size ≤ k) p ys) := IH
  have HK : Hid (∀ W, Below w.heap.size w W → ∀ j q, ps[j]? = some q → ∃ b o ys, a = some ⟨b, o, none⟩ ∧ Six W Ok q ys ∧ ∀ i x, ys[i]? = some x → W.cell? ⟨b, o + j * 6 + i, none⟩ = some x) := by
    intro W hW j q hj
    obtain ⟨b, o, ys, h1, _, h3, h4⟩ := hkids j q hj
    exact ⟨b, o, ys, h1, h3.under hW, fun i x hx => (hW.cell (World.block_lt_of_cell? _ _ (h4 i x hx))).trans (h4 i x hx)⟩
  obtain ⟨N, hN⟩ : ∃ N, ps.length = N := ⟨_, rfl⟩
  have HN : Hid (ps.length = N) := hN
  rw [hN] at hps ⊢
  have ht : ([.string tb, .string bb, .int .i64 (lo : Int), .int .i64 (hi : Int), .int .i64 (ln : Int), .slice a N c] : List Value).toArray = #[.string tb, .string bb, .int .i64 (lo : Int), .int .i64 (hi : Int), .int .i64 (ln : Int), .slice a N c] := rfl
  rw [ht]
  clear IH h hkids hn hc hN ht
  go_enter Tryz.func37, Tryz.ntmps37
  go_wp2_with fail
  have e1 := heap_alloc_new w (.cells #[.string tb, .string bb, .int .i64 (lo : Int), .int .i64 (hi : Int), .int .i64 (ln : Int), .slice a N c] 25)
  have b1 : Below w.heap.size w (w.alloc (.cells #[.string tb, .string bb, .int .i64 (lo : Int), .int .i64 (hi : Int), .int .i64 (ln : Int), .slice a N c] 25)) := (Below.refl _ _).alloc (Nat.le_refl _) _
  have z1 : (w.alloc (.cells #[.string tb, .string bb, .int .i64 (lo : Int), .int .i64 (hi : Int), .int .i64 (ln : Int), .slice a N c] 25)).heap.size = w.heap.size + 1 := by simp
  generalize w.alloc (.cells #[.string tb, .string bb, .int .i64 (lo : Int), .int .i64 (hi : Int), .int .i64 (ln : Int), .slice a N c] 25) = W1 at e1 b1 z1 ⊢
  have e2 := heap_alloc_new W1 (.cells #[.string ⟨#[]⟩, .string ⟨#[]⟩, .int .i64 0, .int .i64 0, .int .i64 0, .slice none 0 0] 25)
  have b2 : Below W1.heap.size W1 (W1.alloc (.cells #[.string ⟨#[]⟩, .string ⟨#[]⟩, .int .i64 0, .int .i64 0, .int .i64 0, .slice none 0 0] 25)) := (Below.refl _ _).alloc (Nat.le_refl _) _
  have z2 : (W1.alloc (.cells #[.string ⟨#[]⟩, .string ⟨#[]⟩, .int .i64 0, .int .i64 0, .int .i64 0, .slice none 0 0] 25)).heap.size = W1.heap.size + 1 := by simp
  generalize W1.alloc (.cells #[.string ⟨#[]⟩, .string ⟨#[]⟩, .int .i64 0, .int .i64 0, .int .i64 0, .slice none 0 0] 25) = W2 at e2 b2 z2 ⊢
  have b02 := b1.trans (b2.mono (by omega))
  have eB : W2.heap[w.heap.size]? = some (.cells #[.string tb, .string bb, .int .i64 (lo : Int), .int .i64 (hi : Int), .int .i64 (ln : Int), .slice a N c] 25 (0, 0)) := (b2.block _ (by omega)).trans e1
  have eR : W2.heap[w.heap.size + 1]? = some (.cells #[.string ⟨#[]⟩, .string ⟨#[]⟩, .int .i64 0, .int .i64 0, .int .i64 0, .slice none 0 0] 25 (0, 0)) := by rw [← z1]; exact e2
  clear e1 b1 e2 b2
  go_loopw [3, 9] (fun pv i wr => ∃ (k : Nat) (rows : List (List Value)), i = .int .i64 (k : Int) ∧ k ≤ N ∧ Hid (rows.length = k) ∧ wr.ownsRow W2.heap.size 25 6 pv k rows.flatten ∧
      Hid (∀ (j : Nat) p xs, ps[j]? = some p → rows[j]? = some xs → Six wr (fun q => W2.heap.size ≤ q ∧ pv.ownBlock ≠ some q) p xs) ∧ Hid (∀ xs ∈ rows, xs.length = 6) ∧ Below W2.heap.size W2 wr) (fun _ i _ => N - (intOf i).toNat)
  case atStart => exact ⟨0, [], rfl, by omega, rfl, World.ownsRow_nil _ _ _ _, by intro j p xs _ h; simp at h, by intro xs h; simp at h, Below.refl _ _⟩
  case round =>
    obtain ⟨k, rows, rfl, hk, HLL, hrow, HSX, H6, hbW⟩ := hrel
    have zwr := hbW.size
    have hb0 := b02.trans (hbW.mono (by omega))
    by_cases hlt : k < N
    · have hkp : k < ps.length := by rw [HN.out]; exact hlt
      obtain ⟨q, hq⟩ : ∃ q, ps[k] = q := ⟨_, rfl⟩
      have hpk : ps[k]? = some q := by rw [List.getElem?_eq_getElem hkp, hq]
      obtain ⟨b, o, ys, ha, hsix, hcells⟩ := HK.out wr hb0 k q hpk
      obtain ⟨xb, yb, l1, h1, n1, a1, k1, cc1, rfl⟩ := six_cells hsix
      subst ha
      have c0 := hcells 0 _ rfl
      have c1 := hcells 1 _ rfl
      have c2 := hcells 2 _ rfl
      have c3 := hcells 3 _ rfl
      have c4 := hcells 4 _ rfl
      have c5 := hcells 5 _ rfl
      rw [Nat.add_zero] at c0
      have hbA : Below wr.heap.size wr (wr.alloc (.cells #[.string xb, .string yb, .int .i64 (l1 : Int), .int .i64 (h1 : Int), .int .i64 (n1 : Int), .slice a1 k1 cc1] 25)) := (Below.refl _ _).alloc (Nat.le_refl _) _
      have eA := heap_alloc_new wr (.cells #[.string xb, .string yb, .int .i64 (l1 : Int), .int .i64 (h1 : Int), .int .i64 (n1 : Int), .slice a1 k1 cc1] 25)
      have t0 := rd_cell (j := 0) eA rfl
      have t1 := rd_cell (j := 1) eA rfl
      have t2 := rd_cell (j := 2) eA rfl
      have t3 := rd_cell (j := 3) eA rfl
      have t4 := rd_cell (j := 4) eA rfl
      have t5 := rd_cell (j := 5) eA rfl
      have cF := HIH.out q [.string xb, .string yb, .int .i64 (l1 : Int), .int .i64 (h1 : Int), .int .i64 (n1 : Int), .slice a1 k1 cc1] Ok (wr.alloc (.cells #[.string xb, .string yb, .int .i64 (l1 : Int), .int .i64 (h1 : Int), .int .i64 (n1 : Int), .slice a1 k1 cc1] 25)) (HCH.out k q hpk).1 (HCH.out k q hpk).2 (hsix.under hbA)
      rw [show ([.string xb, .string yb, .int .i64 (l1 : Int), .int .i64 (h1 : Int), .int .i64 (n1 : Int), .slice a1 k1 cc1] : List Value).toArray = #[.string xb, .string yb, .int .i64 (l1 : Int), .int .i64 (h1 : Int), .int .i64 (n1 : Int), .slice a1 k1 cc1] from rfl] at cF
      clear hcells hq hsix eA
      go_wp2_with fail
      refine cF.mono ?_
      clear cF
      rintro e w5 ⟨hb5, zs, rfl, hsz⟩
      obtain ⟨tb2, bb2, l2, h2, n2, a2, k2, cc2, rfl⟩ := six_cells hsz
      rw [show ([.string tb2, .string bb2, .int .i64 (l2 : Int), .int .i64 (h2 : Int), .int .i64 (n2 : Int), .slice a2 k2 cc2] : List Value).toArray = #[.string tb2, .string bb2, .int .i64 (l2 : Int), .int .i64 (h2 : Int), .int .i64 (n2 : Int), .slice a2 k2 cc2] from rfl]
      have hb05 := hbA.trans (hb5.mono hbA.size)
      have z5 := hb05.size
      have hrow5 := row_below hb05 (Nat.le_refl _) hrow
      obtain ⟨va2, vc2, rfl⟩ := row_slice hrow
      have hvl : ∀ g, (Value.slice va2 k vc2).ownBlock = some g → W2.heap.size ≤ g ∧ g < wr.heap.size := fun g hg => hrow.lt g hg
      have hnews : ∀ (i : Nat) (u : Value), [Value.string tb2, .string bb2, .int .i64 (l2 : Int), .int .i64 (h2 : Int), .int .i64 (n2 : Int), .slice a2 k2 cc2][i]? = some u → (w5.alloc (.cells #[.string tb2, .string bb2, .int .i64 (l2 : Int), .int .i64 (h2 : Int), .int .i64 (n2 : Int), .slice a2 k2 cc2] 25)).cell? (Addr.add ⟨w5.heap.size, 0, none⟩ i) = some u := World.news_of_block (heap_alloc_new w5 (.cells #[.string tb2, .string bb2, .int .i64 (l2 : Int), .int .i64 (h2 : Int), .int .i64 (n2 : Int), .slice a2 k2 cc2] 25))
      have hbC : Below w5.heap.size w5 (w5.alloc (.cells #[.string tb2, .string bb2, .int .i64 (l2 : Int), .int .i64 (h2 : Int), .int .i64 (n2 : Int), .slice a2 k2 cc2] 25)) := (Below.refl _ _).alloc (Nat.le_refl _) _
      clear t0 t1 t2 t3 t4 t5 c0 c1 c2 c3 c4 c5
      go_wp2_with (at_builtin; go_must (refine wpList_append_lies _ rfl (.tmp 13) (.tmp 16) 23 rfl W2.heap.size 25 j0 (.agg #[.string ⟨#[]⟩, .string ⟨#[]⟩, .int .i64 0, .int .i64 0, .int .i64 0, .slice none 0 0]) 6 80 Tryz.underlying23 hj hjz0 hjz1 hjz2 rfl (by decide) _ _ _ (by rfl) (hrow5.alloc _) ⟨w5.heap.size, 0, none⟩ 1 1 [.string tb2, .string bb2, .int .i64 (l2 : Int), .int .i64 (h2 : Int), .int .i64 (n2 : Int), .slice a2 k2 cc2] (by rfl) rfl hnews (by simp [Value.oneCell']) (by decide) (by unfold maxLen; omega) (by omega) (by simp; omega) _ rfl ?_); intro g13 cap13 w13 hown13 hg13 hor13 hlt13)
      have far13 : ∀ q, q < w5.heap.size → some q ≠ (Value.slice va2 k vc2).ownBlock → w13.heap[q]? = w5.heap[q]? := fun q hq h1 => (hg13.block q (by simp; omega) h1).trans (hbC.block q hq)
      have hog : ∀ q, q < w5.heap.size → some q ≠ (Value.slice va2 k vc2).ownBlock → q ≠ g13 := fun q hq h1 e => by
        subst e
        rcases hor13 with h | h
        · exact h1 h.symm
        · simp at h; omega
      have hsz13 := hg13.size
      simp only [World.size_alloc] at hsz13
      have hzA : (wr.alloc (.cells #[.string xb, .string yb, .int .i64 (l1 : Int), .int .i64 (h1 : Int), .int .i64 (n1 : Int), .slice a1 k1 cc1] 25)).heap.size = wr.heap.size + 1 := by simp
      rw [hzA] at hsz
      go_roundw
      case rel =>
        refine ⟨k + 1, rows ++ [[.string tb2, .string bb2, .int .i64 (l2 : Int), .int .i64 (h2 : Int), .int .i64 (n2 : Int), .slice a2 k2 cc2]], by go_num, by omega, by show _ = _; rw [List.length_append, HLL.out]; rfl, ?_, ?_, ?_, ?_⟩
        · rw [List.flatten_append]
          exact hown13
        · intro j p' xs' hjp hjx
          by_cases hjk : j < k
          · rw [List.getElem?_append_left (by rw [HLL.out]; exact hjk)] at hjx
            refine (HSX.out j p' xs' hjp hjx).kept fun q hq hlt9 => ⟨⟨hq.1, fun e => ?_⟩, ?_⟩
            · injection e with e
              exact hog q (by omega) (Ne.symm hq.2) e.symm
            · exact (far13 q (by omega) (Ne.symm hq.2)).trans (hb05.block q hlt9)
          · have hjl : j < (rows ++ [([.string tb2, .string bb2, .int .i64 (l2 : Int), .int .i64 (h2 : Int), .int .i64 (n2 : Int), .slice a2 k2 cc2] : List Value)]).length := (List.getElem?_eq_some_iff.1 hjx).1
            obtain rfl : j = k := by rw [List.length_append, HLL.out] at hjl; simp at hjl; omega
            rw [List.getElem?_append_right (by rw [HLL.out]; omega), HLL.out, Nat.sub_self] at hjx
            obtain rfl : q = p' := Option.some.inj (hpk.symm.trans hjp)
            obtain rfl := Option.some.inj hjx
            have hown9 : ∀ q, wr.heap.size + 1 ≤ q → some q ≠ (Value.slice va2 j vc2).ownBlock := fun q hq e => by have := (hvl q e.symm).2; omega
            refine hsz.kept fun q hq hlt9 => ⟨⟨by omega, fun e => ?_⟩, far13 q hlt9 (hown9 q hq)⟩
            injection e with e
            exact hog q hlt9 (hown9 q hq) e.symm
        · intro xs' hxs
          rcases List.mem_append.1 hxs with h | h
          · exact H6.out xs' h
          · rw [List.mem_singleton.1 h]; rfl
        · exact (hbW.trans ((hb05.trans (hbC.mono z5)).mono (by omega))).grown hg13 (by simp; omega) (fun i e => (hvl i e).1)
      case measure => simp [intOf]; omega
    · obtain rfl : k = N := by omega
      have hrowK := hrow
      obtain ⟨va2, vc2, rfl⟩ := row_slice hrow
      have eBr := (hbW.block w.heap.size (by omega)).trans eB
      have eRr := (hbW.block (w.heap.size + 1) (by omega)).trans eR
      have x5 := rd_cell (j := 5) eBr rfl
      have xf5 := rd_free eBr 5
      have eB3 := rd_set (i := 5) (.slice va2 k vc2) eBr
      have eR3 := (Below.heap_setCell wr ⟨w.heap.size, 5, none⟩ (.slice va2 k vc2) (w.heap.size + 1) (by show w.heap.size + 1 ≠ w.heap.size; omega)).trans eRr
      have HSIX : Hid (Six wr (fun q => W2.heap.size ≤ q) (.mk tb.data.toList bb.data.toList lo hi ln ps) [.string tb, .string bb, .int .i64 (lo : Int), .int .i64 (hi : Int), .int .i64 (ln : Int), .slice va2 k vc2]) := by
        show Six _ _ _ _
        have hpk := HN.out
        have hmk := Six.mk (w := wr) (Ok := fun q => W2.heap.size ≤ q) tb bb lo hi ln ps va2 vc2 (fun j => rows.getD j []) (fun j p hjp => by
          have hjk : j < k := by have := (List.getElem?_eq_some_iff.1 hjp).1; omega
          have hjr : rows[j]? = some (rows.getD j []) := by
            rw [List.getD_eq_getElem?_getD, List.getElem?_eq_getElem (by rw [HLL.out]; exact hjk)]; rfl
          exact (HSX.out j p _ hjp hjr).kept fun q hq _ => ⟨hq.1, rfl⟩) (by
          by_cases hpe : ps = []
          · exact Or.inl hpe
          · right
            have hk0 : k ≠ 0 := fun e => hpe (List.eq_nil_of_length_eq_zero (by omega))
            obtain ⟨g2, cap2, hv2⟩ := row_some hrowK hk0
            injection hv2 with hva _ _
            subst hva
            have hl2 := (hrowK.lt g2 rfl).1
            refine ⟨g2, 0, rfl, hl2, fun j p hjp i x hx => ?_⟩
            have hjk : j < k := by have := (List.getElem?_eq_some_iff.1 hjp).1; omega
            have hjr : rows[j]? = some (rows.getD j []) := by
              rw [List.getD_eq_getElem?_getD, List.getElem?_eq_getElem (by rw [HLL.out]; exact hjk)]; rfl
            have hx6 : i < 6 := by
              have h6 := H6.out _ (List.mem_of_getElem? hjr)
              have := (List.getElem?_eq_some_iff.1 hx).1
              omega
            rw [Nat.zero_add, hrowK.cellAt (j * 6 + i) (by omega), flat_get H6.out hjr hx6]
            exact hx)
        rw [hpk] at hmk
        exact hmk
      have hb3 : Below w.heap.size w (wr.setCell ⟨w.heap.size, 5, none⟩ (.slice va2 k vc2)) := hb0.setCell (p := ⟨w.heap.size, 5, none⟩) (Nat.le_refl _) _
      have hfar3 : ∀ q, q ≠ w.heap.size → (wr.setCell ⟨w.heap.size, 5, none⟩ (.slice va2 k vc2)).heap[q]? = wr.heap[q]? := fun q hq => Below.heap_setCell _ _ _ _ hq
      have u0 := rd_cell (j := 0) eB3 rfl
      have u1 := rd_cell (j := 1) eB3 rfl
      have u2 := rd_cell (j := 2) eB3 rfl
      have u3' := rd_cell (j := 3) eB3 rfl
      have u4 := rd_cell (j := 4) eB3 rfl
      have u5 := rd_cell (j := 5) eB3 rfl
      have r0 := rd_cell (j := 0) eR3 rfl
      have r1 := rd_cell (j := 1) eR3 rfl
      have r2 := rd_cell (j := 2) eR3 rfl
      have r3 := rd_cell (j := 3) eR3 rfl
      have r4 := rd_cell (j := 4) eR3 rfl
      have r5 := rd_cell (j := 5) eR3 rfl
      have rf0 := rd_free eR3 0
      have rf1 := rd_free eR3 1
      have rf2 := rd_free eR3 2
      have rf3 := rd_free eR3 3
      have rf4 := rd_free eR3 4
      have rf5 := rd_free eR3 5
      have v0 := setm_read (i := 0) eR3 (by simp) (.string tb)
      have v1 := setm_read (i := 1) (rd_set (i := 0) (.string tb) eR3) (by simp) (.string bb)
      have v2 := setm_read (i := 2) (rd_set (i := 1) (.string bb) (rd_set (i := 0) (.string tb) eR3)) (by simp) (.int .i64 (lo : Int))
      have v3 := setm_read (i := 3) (rd_set (i := 2) (.int .i64 (lo : Int)) (rd_set (i := 1) (.string bb) (rd_set (i := 0) (.string tb) eR3))) (by simp) (.int .i64 (hi : Int))
      have v4 := setm_read (i := 4) (rd_set (i := 3) (.int .i64 (hi : Int)) (rd_set (i := 2) (.int .i64 (lo : Int)) (rd_set (i := 1) (.string bb) (rd_set (i := 0) (.string tb) eR3)))) (by simp) (.int .i64 (ln : Int))
      have v5 := setm_read (i := 5) (rd_set (i := 4) (.int .i64 (ln : Int)) (rd_set (i := 3) (.int .i64 (hi : Int)) (rd_set (i := 2) (.int .i64 (lo : Int)) (rd_set (i := 1) (.string bb) (rd_set (i := 0) (.string tb) eR3))))) (by simp) (.slice va2 k vc2)
      obtain ⟨W3, hW3⟩ : ∃ W, wr.setCell ⟨w.heap.size, 5, none⟩ (.slice va2 k vc2) = W := ⟨_, rfl⟩
      rw [hW3] at u0 u1 u2 u3' u4 u5 r0 r1 r2 r3 r4 r5 rf0 rf1 rf2 rf3 rf4 rf5 v0 v1 v2 v3 v4 v5 hb3 hfar3
      clear HSX H6 HLL hrow HK HCH HIH eB3 eR3
      go_wp2_with fail
      refine bodyPost_ret (v := .agg #[.string tb, .string bb, .int .i64 (lo : Int), .int .i64 (hi : Int), .int .i64 (ln : Int), .slice va2 k vc2]) (by simp [results, Tryz.results37, go_sem, v0, v1, v2, v3, v4, v5]) rfl ?_
      refine ⟨(six_but (rb := w.heap.size) (to_but hb3) (by omega) _ _ _ _ _ _).below (Nat.le_refl _) (Nat.le_refl _), [.string tb, .string bb, .int .i64 (lo : Int), .int .i64 (hi : Int), .int .i64 (ln : Int), .slice va2 k vc2], rfl, HSIX.out.kept fun q hq hlt9 => ⟨by omega, (six_other W3 (by omega) _ _ _ _ _ _).trans (hfar3 q (by omega))⟩⟩
theorem fresh_is : ∀ (n : Nat) (p : Mm.Pt) (xs : List Value) (Ok : Nat → Prop) (w : World), countP p ≤ n → countP p ≤ 30 → Six w Ok p xs → Calls Tryz.prog 37 #[.agg xs.toArray] w fun e w' => Below w.heap.size w w' ∧ ∃ ys, e = .returned (.agg ys.toArray) ∧ Six w' (fun k => w.heap.size ≤ k) p ys
  | 0, p, _, _, _, h, _, _ => absurd h (by have := countP_pos p; omega)
  | n + 1, p, xs, Ok, w, h, hc, hs => fresh_step n (fresh_is n) p xs Ok w h hc hs
end Go.Proofs.YtgbbkdflnlagaaaGreatDoor
