/-
  The document makes boxes, one by one, and more.
-/
import Derived.Test.YtfdlopimncodcaaGreatDoorBpRhName
namespace Go.Proofs.YtfdlopimncodcaaGreatDoor
open Go.RowKit Go.Proofs.Aid
def RNew (w : World) (b : Nat) (v : Int) : Prop := w.heap[b]? = some (.cells #[.int .i64 v, .int .i64 1, .slice none 0 0] 84 (0, 0))
def RBuilt (B : Nat) (w : World) (nx : Int) (ns : List Nm) (ps : Bxs) : Prop := ps.map Prod.fst = ns ∧ (∀ (j : Nat) (p : Nm × Nat), ps[j]? = some p → B ≤ p.2 ∧ RNew w p.2 (nx + (j : Int))) ∧ (ps.map Prod.snd).Pairwise (· < ·)
theorem rhs_kind {W : World} {hb mb wb g : Nat} {l : Bxs} {nx : Int} {cs : Array Value} {ty : TypeId} {fz : Nat × Nat} (hH : RHs W hb mb wb l nx) (hg : W.heap[g]? = some (.cells cs ty fz)) (hty : ty ≠ 88) : g ≠ hb ∧ g ≠ mb := by
  refine ⟨fun e => ?_, fun e => ?_⟩
  · rw [e, hH.1] at hg
    injection hg with hg
    injection hg with _ e2 _
    exact hty e2.symm
  · obtain ⟨_, _, D, ⟨es, clock, h2, _⟩, _⟩ := hH
    rw [e, h2] at hg
    cases hg
theorem radd_mem {w WD : World} {hb mb wb : Nat} {l : Bxs} {nx : Int} (h : RHs w hb mb wb l nx) (bD : Below w.heap.size w WD) (hB : WD.heap.size = w.heap.size) (s : ByteArray) (hs : s.size ≤ 1000000) (hl : l.length ≤ 1000) :
    ∃ W8, WD.alloc (.cells #[.int .i64 nx, .int .i64 1, .slice none 0 0] 84) = W8 ∧ (W8.cell? ⟨hb, 0, none⟩ = some (.map (some mb)) ∧ W8.cell? ⟨hb, 2, none⟩ = some (.int .i64 nx)) ∧
      ∃ W9, (Instr.mapUpdate 85 (.map (some mb)) (.string s) (.pointer (some ⟨WD.heap.size, 0, none⟩))).run Tryz.prog W8 = .ok () W9 ∧ (W9.cell? ⟨hb, 0, none⟩ = some (.map (some mb)) ∧ W9.cell? ⟨hb, 2, none⟩ = some (.int .i64 nx)) ∧ W9.frozen? ⟨hb, 2, none⟩ = false ∧
        Hid (RHs (W9.setCell ⟨hb, 2, none⟩ (.int .i64 (nx + 1))) hb mb wb (putB s.data.toList w.heap.size l) (nx + 1) ∧ RNew (W9.setCell ⟨hb, 2, none⟩ (.int .i64 (nx + 1))) w.heap.size nx ∧ HK hb mb w (W9.setCell ⟨hb, 2, none⟩ (.int .i64 (nx + 1)))) := by
  have hD : RHs WD hb mb wb l nx := h.below bD (Nat.le_refl _)
  have b8 : Below WD.heap.size WD (WD.alloc (.cells #[.int .i64 nx, .int .i64 1, .slice none 0 0] 84)) := (Below.refl _ _).alloc (Nat.le_refl _) _
  have e8 := heap_alloc_new WD (.cells #[.int .i64 nx, .int .i64 1, .slice none 0 0] 84)
  obtain ⟨W8, hW8⟩ : ∃ W, WD.alloc (.cells #[.int .i64 nx, .int .i64 1, .slice none 0 0] 84) = W := ⟨_, rfl⟩
  rw [hW8] at b8 e8
  have h8 := hD.below b8 (Nat.le_refl _)
  obtain ⟨W9, hp, hm9, ht⟩ := rmp_put h8.2 s hs (by omega) WD.heap.size
  have hbl := hD.lt
  have hml := hD.2.lt
  have hne : hb ≠ mb := fun e => by
    obtain ⟨h1, _, D, ⟨es, clock, h2, _⟩, _⟩ := h
    rw [e, h2] at h1
    cases h1
  have z8 := b8.size
  have hh9 := ((turned_but ht).block hb (by omega) hne).trans h8.1
  have e9 := ((turned_but ht).block WD.heap.size (Array.getElem?_eq_some_iff.1 e8).1 (by omega)).trans e8
  have hh10 := rd_set (i := 2) (.int .i64 (nx + 1)) hh9
  have hk : HK hb mb w W9 := (HK.of (bD.trans (b8.mono (by omega)))).trans (HK.turned ht)
  refine ⟨W8, hW8, ⟨h8.cell.1, h8.cell.2.2⟩, W9, hp, ⟨rd_cell hh9 rfl, rd_cell hh9 rfl⟩, rd_free hh9 2, ⟨⟨by simpa using hh10, ?_⟩, ?_, ⟨hk.os, hk.tape, hk.output, by simpa using hk.size, fun k h1 h2 h3 => (Below.heap_setCell _ _ _ _ h2).trans (hk.block k h1 h2 h3)⟩⟩⟩
  · rw [← hB]
    exact hm9.same (Below.heap_setCell _ _ _ _ (fun e => hne e.symm))
  · rw [← hB]
    exact (Below.heap_setCell _ _ _ _ (by show WD.heap.size ≠ hb; omega)).trans e9
set_option maxHeartbeats 4000000 in
set_option maxRecDepth 100000 in
theorem radd_is (hb mb wb base : Nat) (l : Bxs) (nx : Int) (v : Value) (ns : List Nm) (w : World) (h : RHs w hb mb wb l nx) (hv : NRow w base v ns) (hns : ∀ n ∈ ns, n.length ≤ 1000) (hl : l.length ≤ 100) (hnl : ns.length ≤ 100) (hn : 0 ≤ nx ∧ nx ≤ 900000) :
    Calls Tryz.prog 95 #[.pointer (some ⟨hb, 0, none⟩), v] w fun e w' => e = .returned (.tuple #[]) ∧ HK hb mb w w' ∧ ∃ ps, RBuilt w.heap.size w' nx ns ps ∧ RHs w' hb mb wb (putAll l ps) (nx + (ns.length : Int)) := by
  obtain ⟨va, vc, rfl⟩ := row_form hv
  obtain ⟨M, hM⟩ : ∃ n, ns.length = n := ⟨_, rfl⟩
  have HM : Hid (ns.length = M ∧ l.length ≤ 100) := ⟨hM, hl⟩
  have HV : Hid (NRow w base (.slice va M vc) ns) := by rw [← hM]; exact hv
  have HH : Hid (RHs w hb mb wb l nx) := h
  have HNS : Hid (∀ n ∈ ns, n.length ≤ 1000) := hns
  rw [hM] at hnl ⊢
  clear h hv hns hM hl
  go_enter Tryz.func95, Tryz.ntmps95
  go_wp2_with fail
  go_loopw [8] (fun iv wr => ∃ k : Nat, iv = .int .i64 (k : Int) ∧ k ≤ M ∧ Hid (HK hb mb w wr ∧ ∃ ps, RBuilt w.heap.size wr nx (ns.take k) ps ∧ RHs wr hb mb wb (putAll l ps) (nx + (k : Int)))) (fun iv _ => M - (intOf iv).toNat)
  case atStart => exact ⟨0, rfl, Nat.zero_le _, HK.refl _ _ _, [], ⟨rfl, fun j p hj => by simp at hj, List.Pairwise.nil⟩, by rw [Int.natCast_zero, Int.add_zero]; exact HH.out⟩
  case round =>
    obtain ⟨k, rfl, hk, HI⟩ := hrel
    by_cases hlt : k < M
    · have d1 : decide ((k : Int) < (M : Int)) = true := decide_eq_true (by omega)
      have i1 : (0 : Int) ≤ (k : Int) := by omega
      have i2 : (k : Int) < (M : Int) := by omega
      obtain ⟨n, hnk⟩ : ∃ n, ns[k]? = some n := ⟨_, List.getElem?_eq_getElem (by have := HM.out.1; omega)⟩
      obtain ⟨hk0, ps, hB, hS⟩ := HI.out
      have hrw : NRow wr base (.slice va M vc) ns := by
        refine own_same HV.out fun g hg => ?_
        obtain ⟨c, fz, hc⟩ := row_kind HV.out g hg
        exact hk0.block g (Array.getElem?_eq_some_iff.1 hc).1 (rhs_kind HH.out hc (by decide)).1 (rhs_kind HH.out hc (by decide)).2
      obtain ⟨g, cap, hvg, hcg0⟩ := nrow_at hrw hnk
      injection hvg with hva hvb hvc
      subst hva
      clear hvb
      have hnl2 := HNS.out n (List.mem_of_getElem? hnk)
      have hps : ps.length = k := by rw [← List.length_map (f := Prod.fst), hB.1, List.length_take]; have := HM.out.1; omega
      have hpl := putAll_len l k ps hps
      obtain ⟨nms, hnms⟩ : ∃ s : ByteArray, (⟨n.toArray⟩ : ByteArray) = s := ⟨_, rfl⟩
      have hnml : nms.data.toList = n := by rw [← hnms]
      have hcg : wr.cell? ⟨g, k, none⟩ = some (.string nms) := by rw [← hnms]; exact hcg0
      have hnz : nms.size ≤ 1000 := by rw [← hnms]; show n.toArray.size ≤ _; rw [List.size_toArray]; exact hnl2
      obtain ⟨WD, hWD⟩ : ∃ W, wr.drew = W := ⟨_, rfl⟩
      have bD : Below wr.heap.size wr WD := by rw [← hWD]; exact (Below.refl _ _).drew
      have zD : WD.heap.size = wr.heap.size := by rw [← hWD]; rfl
      obtain ⟨W8, hW8, ⟨d0, d2⟩, W9, hput, ⟨f0, f2⟩, ff, HR⟩ := radd_mem hS bD zD nms (by omega) (by have := HM.out.2; omega)
      obtain ⟨c0, _, c2⟩ := hS.cell
      have hsum : wrap64 (nx + (k : Int) + 1) = nx + (k : Int) + 1 := by unfold wrap64; omega
      have HN : Hid (HK hb mb w (W9.setCell ⟨hb, 2, none⟩ (.int .i64 (nx + (k : Int) + 1))) ∧ ∃ ps, RBuilt w.heap.size (W9.setCell ⟨hb, 2, none⟩ (.int .i64 (nx + (k : Int) + 1))) nx (ns.take (k + 1)) ps ∧ RHs (W9.setCell ⟨hb, 2, none⟩ (.int .i64 (nx + (k : Int) + 1))) hb mb wb (putAll l ps) (nx + ((k + 1 : Nat) : Int))) := by
        obtain ⟨q1, q2, q3⟩ := HR.out
        refine ⟨hk0.trans q3, ps ++ [(n, wr.heap.size)], ?_, ?_⟩
        · obtain ⟨h1, h2, h3⟩ := hB
          refine ⟨by rw [List.map_append, h1, List.take_add_one, hnk]; rfl, fun j p hj => ?_, ?_⟩
          · by_cases hjl : j < ps.length
            · rw [List.getElem?_append_left hjl] at hj
              obtain ⟨g1, g2⟩ := h2 j p hj
              exact ⟨g1, (q3.block _ (Array.getElem?_eq_some_iff.1 g2).1 (rhs_kind hS g2 (by decide)).1 (rhs_kind hS g2 (by decide)).2).trans g2⟩
            · have hj2 := (List.getElem?_eq_some_iff.1 hj).1
              rw [List.length_append, List.length_singleton] at hj2
              obtain rfl : j = ps.length := by omega
              rw [List.getElem?_append_right (Nat.le_refl _), Nat.sub_self] at hj
              obtain rfl : (n, wr.heap.size) = p := by simpa using hj
              refine ⟨hk0.size, ?_⟩
              rw [hps]
              exact q2
          · rw [List.map_append, List.pairwise_append]
            refine ⟨h3, by simp, fun a ha b hb2 => ?_⟩
            obtain ⟨p, hp, rfl⟩ := List.mem_map.1 ha
            obtain ⟨j, hj⟩ := List.getElem?_of_mem hp
            have := (Array.getElem?_eq_some_iff.1 (h2 j p hj).2).1
            have e : b = wr.heap.size := by simpa using hb2
            omega
        · rw [putAll_snoc, show nx + ((k + 1 : Nat) : Int) = nx + (k : Int) + 1 by omega, ← hnml]
          exact q1
      clear hcg0 hB hS hps hpl hk0 hvc hnk HI hrw hnl2 hnms hnml bD zD HR
      go_upto_region 3 with fail
      refine wp_region_held_drew (S := fun W => W.cell? ⟨hb, 0, none⟩ = some (.map (some mb)) ∧ W.cell? ⟨hb, 2, none⟩ = some (.int .i64 (nx + (k : Int)))) (by kernel_rfl) ?_ (fun hHeld => ?_)
      · exact ⟨by simpa using c0, by simpa using c2⟩
      rw [hWD] at hHeld ⊢
      refine wpAnyH_take (i := 0) (v := ?_) rfl (by kernel_rfl) (by kernel_rfl) (by kernel_rfl) (fun _ _ _ h => h) (Or.inl ⟨by rfl, ?_⟩) (by first | assumption | trivial) ?_
      rotate_left
      · intro w hSw; go_simp; (try with_reducible rfl)
      change wpAnyH _ _ _ _ _ _ _ (Act.put _ (some 12) _) _; simp only [Act.put, List.setIfInBounds_toArray, List.set_cons_zero, List.set_cons_succ]
      refine wpAnyH_take (i := 1) (v := ?_) rfl (by kernel_rfl) (by kernel_rfl) (by kernel_rfl) (fun _ _ _ h => h) (Or.inl ⟨by rfl, ?_⟩) (by first | assumption | trivial) ?_
      rotate_left
      · intro w hSw; go_simp; (try with_reducible rfl)
      change wpAnyH _ _ _ _ _ _ _ (Act.put _ (some 13) _) _; simp only [Act.put, List.setIfInBounds_toArray, List.set_cons_zero, List.set_cons_succ]
      refine wpAnyH_take (i := 2) (v := ?_) rfl (by kernel_rfl) (by kernel_rfl) (by kernel_rfl) (fun _ _ _ h => h) (Or.inl ⟨by rfl, ?_⟩) (by first | assumption | trivial) ?_
      rotate_left
      · intro w hSw; go_simp; (try with_reducible rfl)
      change wpAnyH _ _ _ _ _ _ _ (Act.put _ (some 14) _) _; simp only [Act.put, List.setIfInBounds_toArray, List.set_cons_zero, List.set_cons_succ]
      refine wpAnyH_take (i := 3) (v := ?_) rfl (by kernel_rfl) (by kernel_rfl) (by kernel_rfl) (fun _ _ _ h => h) (Or.inl ⟨by rfl, ?_⟩) (by first | assumption | trivial) ?_
      rotate_left
      · intro w hSw; go_simp; (try with_reducible rfl)
      change wpAnyH _ _ _ _ _ _ _ (Act.put _ (some 15) _) _; simp only [Act.put, List.setIfInBounds_toArray, List.set_cons_zero, List.set_cons_succ]
      refine wpAnyH_take (i := 4) (v := ?_) rfl (by kernel_rfl) (by kernel_rfl) (by kernel_rfl) (fun _ _ _ h => h) (Or.inl ⟨by rfl, ?_⟩) (by first | assumption | trivial) ?_
      rotate_left
      · intro w hSw; go_simp; (try with_reducible rfl)
      change wpAnyH _ _ _ _ _ _ _ (Act.put _ (some 16) _) _; simp only [Act.put, List.setIfInBounds_toArray, List.set_cons_zero, List.set_cons_succ]
      refine wpAnyH_take (i := 5) (v := ?_) rfl (by kernel_rfl) (by kernel_rfl) (by kernel_rfl) (fun _ _ _ h => h) (Or.inl ⟨by rfl, ?_⟩) (by first | assumption | trivial) ?_
      rotate_left
      · intro w hSw; go_simp; (try with_reducible rfl)
      change wpAnyH _ _ _ _ _ _ _ (Act.put _ (some 17) _) _; simp only [Act.put, List.setIfInBounds_toArray, List.set_cons_zero, List.set_cons_succ]
      refine wpAnyH_take (i := 6) (v := ?_) rfl (by kernel_rfl) (by kernel_rfl) (by kernel_rfl) (fun _ _ _ h => h) (Or.inl ⟨by rfl, ?_⟩) (by first | assumption | trivial) ?_
      rotate_left
      · intro w hSw; go_simp; (try with_reducible rfl)
      change wpAnyH _ _ _ _ _ _ _ (Act.put _ (some 18) _) _; simp only [Act.put, List.setIfInBounds_toArray, List.set_cons_zero, List.set_cons_succ]
      refine wpAnyH_take (i := 7) (v := ?_) rfl (by kernel_rfl) (by kernel_rfl) (by kernel_rfl) (fun _ _ _ h => h) (Or.inl ⟨by rfl, ?_⟩) (by first | assumption | trivial) ?_
      rotate_left
      · intro w hSw; go_simp; (try with_reducible rfl)
      change wpAnyH _ _ _ _ _ _ _ (Act.put _ (some 19) _) _; simp only [Act.put, List.setIfInBounds_toArray, List.set_cons_zero, List.set_cons_succ]
      refine wpAnyH_take (i := 8) (v := ?_) rfl (by kernel_rfl) (by kernel_rfl) (by kernel_rfl) (fun _ _ _ h => h) (Or.inl ⟨by rfl, ?_⟩) (by first | assumption | trivial) ?_
      rotate_left
      · intro w hSw; go_simp; (try with_reducible rfl)
      change wpAnyH _ _ _ _ _ _ _ (Act.put _ (some 20) _) _; simp only [Act.put, List.setIfInBounds_toArray, List.set_cons_zero, List.set_cons_succ]
      refine wpAnyH_take (i := 9) (v := ?_) rfl (by kernel_rfl) (by kernel_rfl) (by kernel_rfl) (fun _ _ _ h => h) (Or.inl ⟨by rfl, ?_⟩) (by first | assumption | trivial) ?_
      rotate_left
      · intro w hSw; go_simp; (try with_reducible rfl)
      change wpAnyH _ _ _ _ _ _ _ (Act.put _ (some 21) _) _; simp only [Act.put, List.setIfInBounds_toArray, List.set_cons_zero, List.set_cons_succ]
      refine wpAnyH_ready (rs := [10]) (by kernel_rfl) (by simp) ?_
      refine AllReadyH.cons rfl (fun K hK => ?_) AllReadyH.nil
      go_simp
      refine hK.out _ _ ?_ (fun hHeld => ?_)
      · exact ⟨d0, d2⟩
      clear hK K
      refine wpAnyH_ready (rs := [11]) (by kernel_rfl) (by simp) ?_
      refine AllReadyH.cons rfl (fun K hK => ?_) AllReadyH.nil
      go_simp
      refine hK.out _ _ ?_ (fun hHeld => ?_)
      · exact ⟨f0, f2⟩
      clear hK K
      refine wpAnyH_done (by kernel_rfl) ?_ _
      clear hHeld d0 d2
      go_wp2_with fail
      go_roundw
      case rel => exact ⟨k + 1, by go_num, by omega, HN⟩
      case measure => simp [intOf]; omega
    · have d1 : decide ((k : Int) < (M : Int)) = false := decide_eq_false (by omega)
      obtain rfl : k = M := by omega
      have HF : Hid (HK hb mb w wr ∧ ∃ ps, RBuilt w.heap.size wr nx ns ps ∧ RHs wr hb mb wb (putAll l ps) (nx + (k : Int))) := by
        obtain ⟨h1, ps, h2, h3⟩ := HI.out
        rw [List.take_of_length_le (by have := HM.out.1; omega)] at h2
        exact ⟨h1, ps, h2, h3⟩
      clear HI
      go_wp2_with fail
      go_end0
      exact ⟨rfl, HF.out⟩
end Go.Proofs.YtfdlopimncodcaaGreatDoor
namespace Go.Proofs.YtfdlopimncodcaaGreatDoor
open Go.RowKit Go.Proofs.Aid
theorem row_lower {w : World} {base base' : Nat} {e : TypeId} {size n : Nat} {v : Value} {xs : List Value} (h : w.ownsRow base e size v n xs) (hb : base' ≤ base) : w.ownsRow base' e size v n xs :=
  ⟨h.1, h.2.imp id fun ⟨g, cap, cur, h1, h2, h3⟩ => ⟨g, cap, cur, h1, Nat.le_trans hb h2, h3⟩⟩
set_option maxHeartbeats 4000000 in
set_option maxRecDepth 100000 in
theorem rcreate_is (hb mb wb : Nat) (l : Bxs) (nx : Int) (s : ByteArray) (w : World) (hE : NEnv w) (h : RHs w hb mb wb l nx) (hs : s.size ≤ 1000) (hl : l.length ≤ 30) (hn : 0 ≤ nx ∧ nx ≤ 900000) :
    Calls Tryz.prog 42 #[.pointer (some ⟨hb, 0, none⟩), .string s] w fun e w' =>
      (nameB s.data.toList = none ∧ e = .returned (.int .i64 1) ∧ Below w.heap.size w w') ∨
      (∃ r, nameB s.data.toList = some r ∧ hasB l r = true ∧ e = .returned (.int .i64 9) ∧ Below w.heap.size w w') ∨
      (∃ r, nameB s.data.toList = some r ∧ hasB l r = false ∧ 30 < l.length + (lackB l r ++ [r]).length ∧ e = .returned (.int .i64 12) ∧ Below w.heap.size w w') ∨
      (∃ r ps, nameB s.data.toList = some r ∧ hasB l r = false ∧ l.length + (lackB l r ++ [r]).length ≤ 30 ∧ e = .returned (.int .i64 0) ∧ HK hb mb w w' ∧ RBuilt w.heap.size w' nx (lackB l r ++ [r]) ps ∧ RHs w' hb mb wb (putAll l ps) (nx + ((lackB l r ++ [r]).length : Int))) := by
  have cN := rname_is s w hE hs
  have HH : Hid (RHs w hb mb wb l nx ∧ NEnv w) := ⟨h, hE⟩
  clear hE h
  go_enter Tryz.func42, Tryz.ntmps42
  go_wp2_with fail
  refine cN.mono ?_
  rintro e w1 ⟨hb1, ⟨r, hr, hr2, rfl⟩ | ⟨hr, rfl⟩⟩
  · have h1 := HH.out.1.below hb1 (Nat.le_refl _)
    have c0 := h1.cell.1
    cases hhas : hasB l r.data.toList with
    | true =>
      obtain ⟨b, hm⟩ := hasB_true.1 hhas
      have hlk := rmp_look h1.2 r (by omega) (b := b) hm
      have HF : Hid (Below w.heap.size w w1 ∧ nameB s.data.toList = some r.data.toList ∧ hasB l r.data.toList = true) := ⟨hb1, hr, hhas⟩
      clear cN hb1 hr h1 hhas hm
      go_wp2_with fail
      go_ret
      exact Or.inr (Or.inl ⟨_, HF.out.2.1, HF.out.2.2, rfl, HF.out.1⟩)
    | false =>
      have hlk := rmp_none h1.2 r (by omega) hhas
      have cO := rover_is hb mb wb l nx r w1 (HH.out.2.below hb1) h1 (by omega)
      have HX1 : Hid (Below w.heap.size w w1 ∧ nameB s.data.toList = some r.data.toList ∧ hasB l r.data.toList = false ∧ RHs w1 hb mb wb l nx) := ⟨hb1, hr, hhas, h1⟩
      clear cN hb1 hr h1 hhas
      go_wp2_with fail
      refine cO.mono ?_
      rintro e w2 ⟨⟨v2, rfl, hrow⟩, hb2⟩
      have hlk2 : (lackB l r.data.toList).length ≤ 60 := by
        have := lackTo_len l r.data.toList r.data.toList.length
        have h2 : r.data.toList.length = r.size := by rw [Array.length_toList]; rfl
        unfold lackB
        omega
      have hsh : ∀ n ∈ lackB l r.data.toList ++ [r.data.toList], n.length ≤ 1000 := fun n hn => by
        have h2 : r.data.toList.length = r.size := by rw [Array.length_toList]; rfl
        rcases List.mem_append.1 hn with hn | hn
        · have := lack_short hn; omega
        · rw [List.mem_singleton.1 hn]; omega
      obtain ⟨XS, hXS⟩ : ∃ x, lackB l r.data.toList = x := ⟨_, rfl⟩
      unfold NRow at hrow
      rw [hXS] at hrow hlk2 hsh
      obtain ⟨LL, hLL⟩ : ∃ n, XS.length = n := ⟨_, rfl⟩
      obtain ⟨VS, hVS⟩ : ∃ n, XS.map encStr = n := ⟨_, rfl⟩
      rw [hLL, hVS] at hrow
      rw [hLL] at hlk2
      have HXS : Hid (lackB l r.data.toList = XS ∧ XS.length = LL ∧ XS.map encStr = VS ∧ ∀ n ∈ XS ++ [r.data.toList], n.length ≤ 1000) := ⟨hXS, hLL, hVS, hsh⟩
      clear hXS hLL hVS hsh cO
      obtain ⟨oa, oc, rfl⟩ := row_form hrow
      have hbs := hb2.size
      replace hrow := row_lower hrow (Nat.le_succ w1.heap.size)
      have HL : Hid (Below w1.heap.size w1 w2) := hb2
      have c2 := (HX1.out.2.2.2.below hb2 (Nat.le_refl _)).cell.1
      clear hb2
      have HLN : Hid ((lackB l r.data.toList ++ [r.data.toList]).length = LL + 1) := by
        unfold Hid
        rw [HXS.out.1, List.length_append, HXS.out.2.1]
        rfl
      by_cases hfull : 30 < l.length + (LL + 1)
      · have dF : decide (30 < (l.length : Int) + ((LL : Int) + 1)) = true := decide_eq_true (by omega)
        go_wp2_with (at_builtin; go_must (refine wpList_push rfl (.tmp 25) (.tmp 27) 32 rfl _ w1.heap.size 9 (.string ⟨#[]⟩) 16 Tryz.underlying32 Tryz.infoNm rfl _ _ _ (by rfl) hrow [.string r] _ (by rfl) (by simp) (by simp [Value.oneCell']) (by simp) (by rfl) (by decide) (by simp; omega) hbs ?_); intro g3 cap3 w3 hown3 hg3 hlt3; have hb3 : Below w1.heap.size w1 w3 := HL.out.grown hg3 hbs (fun j e => (hrow.lt j e).1); have h3 := HX1.out.2.2.2.below hb3 (Nat.le_refl _); have c3 := h3.cell.1; have hln := rmp_len h3.2 3)
        have HF : Hid (Below w.heap.size w w3 ∧ 30 < l.length + (lackB l r.data.toList ++ [r.data.toList]).length) := ⟨HX1.out.1.trans (hb3.mono HX1.out.1.size), by rw [HLN.out]; exact hfull⟩
        clear hown3 hg3 hb3 h3 hrow
        go_wp2_with fail
        go_ret
        exact Or.inr (Or.inr (Or.inl ⟨_, HX1.out.2.1, HX1.out.2.2.1, HF.out.2, rfl, HF.out.1⟩))
      · have dF : decide (30 < (l.length : Int) + ((LL : Int) + 1)) = false := decide_eq_false (by omega)
        go_wp2_with (at_builtin; go_must (refine wpList_push rfl (.tmp 25) (.tmp 27) 32 rfl _ w1.heap.size 9 (.string ⟨#[]⟩) 16 Tryz.underlying32 Tryz.infoNm rfl _ _ _ (by rfl) hrow [.string r] _ (by rfl) (by simp) (by simp [Value.oneCell']) (by simp) (by rfl) (by decide) (by simp; omega) hbs ?_); intro g3 cap3 w3 hown3 hg3 hlt3; have hb3 : Below w1.heap.size w1 w3 := HL.out.grown hg3 hbs (fun j e => (hrow.lt j e).1); have h3 := HX1.out.2.2.2.below hb3 (Nat.le_refl _); have c3 := h3.cell.1; have hln := rmp_len h3.2 3)
        have hrow3 : NRow w3 w1.heap.size (.slice (some ⟨g3, 0, none⟩) (LL + 1) cap3) (XS ++ [r.data.toList]) := by
          unfold NRow
          rw [List.length_append, List.map_append, HXS.out.2.1, HXS.out.2.2.1, List.map_cons, enc_ba]
          exact hown3
        have cA := radd_is hb mb wb w1.heap.size l nx (.slice (some ⟨g3, 0, none⟩) (LL + 1) cap3) (XS ++ [r.data.toList]) w3 h3 hrow3 HXS.out.2.2.2 (by omega) (by rw [List.length_append, HXS.out.2.1]; simp; omega) hn
        have HB3 : Hid (Below w.heap.size w w3 ∧ l.length + (lackB l r.data.toList ++ [r.data.toList]).length ≤ 30) := ⟨HX1.out.1.trans (hb3.mono HX1.out.1.size), by rw [HLN.out]; omega⟩
        clear hown3 hg3 hb3 h3 hrow3 hrow
        go_wp2_with fail
        refine cA.mono ?_
        rintro e w4 ⟨rfl, q2, ps, q3, q4⟩
        have HQ : Hid (HK hb mb w w4 ∧ RBuilt w.heap.size w4 nx (lackB l r.data.toList ++ [r.data.toList]) ps ∧ RHs w4 hb mb wb (putAll l ps) (nx + ((lackB l r.data.toList ++ [r.data.toList]).length : Int))) := ⟨(HK.of HB3.out.1).trans q2, by rw [HXS.out.1]; exact ⟨q3.1, fun j p hj => ⟨Nat.le_trans HB3.out.1.size (q3.2.1 j p hj).1, (q3.2.1 j p hj).2⟩, q3.2.2⟩, by rw [HXS.out.1]; exact q4⟩
        clear cA q2 q3 q4
        go_wp2_with fail
        go_ret
        exact Or.inr (Or.inr (Or.inr ⟨_, ps, HX1.out.2.1, HX1.out.2.2.1, HB3.out.2, rfl, HQ.out.1, HQ.out.2.1, HQ.out.2.2⟩))
  · have HF : Hid (Below w.heap.size w w1 ∧ nameB s.data.toList = none) := ⟨hb1, hr⟩
    clear cN hb1 hr
    go_wp2_with fail
    go_ret
    exact Or.inl ⟨HF.out.2, rfl, HF.out.1⟩
end Go.Proofs.YtfdlopimncodcaaGreatDoor
namespace Go.Proofs.YtfdlopimncodcaaGreatDoor
open Go.RowKit Go.Proofs.Aid
theorem RHs.ne {w : World} {hb mb wb : Nat} {l : Bxs} {nx : Int} (h : RHs w hb mb wb l nx) : hb ≠ mb := fun e => by
  obtain ⟨h1, _, D, ⟨es, clock, h2, _⟩, _⟩ := h
  rw [e, h2] at h1
  cases h1
set_option maxHeartbeats 4000000 in
set_option maxRecDepth 100000 in
theorem rdelete_is (hb mb wb : Nat) (l : Bxs) (nx : Int) (s : ByteArray) (w : World) (hE : NEnv w) (h : RHs w hb mb wb l nx) (hs : s.size ≤ 1000) (hl : l.length ≤ 1000) (hsm : ∀ p ∈ l, p.1.length ≤ 1000) :
    Calls Tryz.prog 44 #[.pointer (some ⟨hb, 0, none⟩), .string s] w fun e w' =>
      (nameB s.data.toList = none ∧ e = .returned (.int .i64 1) ∧ Below w.heap.size w w') ∨
      (∃ r, nameB s.data.toList = some r ∧ hasB l r = false ∧ e = .returned (.int .i64 7) ∧ Below w.heap.size w w') ∨
      (∃ r, nameB s.data.toList = some r ∧ hasB l r = true ∧ (r = inboxN ∨ withinB l r ≠ []) ∧ e = .returned (.int .i64 6) ∧ Below w.heap.size w w') ∨
      (∃ r, nameB s.data.toList = some r ∧ hasB l r = true ∧ r ≠ inboxN ∧ withinB l r = [] ∧ e = .returned (.int .i64 0) ∧ HK hb mb w w' ∧ RHs w' hb mb wb (delB l r) nx) := by
  have cN := rname_is s w hE hs
  have HH : Hid (RHs w hb mb wb l nx ∧ ∀ p ∈ l, p.1.length ≤ 1000) := ⟨h, hsm⟩
  clear hE h hsm
  go_enter Tryz.func44, Tryz.ntmps44
  go_wp2_with fail
  refine cN.mono ?_
  rintro e w1 ⟨hb1, ⟨r, hr, hr2, rfl⟩ | ⟨hr, rfl⟩⟩
  · have h1 := HH.out.1.below hb1 (Nat.le_refl _)
    have c0 := h1.cell.1
    cases hhas : hasB l r.data.toList with
    | false =>
      have hlk := rmp_none h1.2 r (by omega) hhas
      have HF : Hid (Below w.heap.size w w1 ∧ nameB s.data.toList = some r.data.toList ∧ hasB l r.data.toList = false) := ⟨hb1, hr, hhas⟩
      clear cN hb1 hr h1 hhas
      go_wp2_with fail
      go_ret
      exact Or.inr (Or.inl ⟨_, HF.out.2.1, HF.out.2.2, rfl, HF.out.1⟩)
    | true =>
      obtain ⟨b, hm⟩ := hasB_true.1 hhas
      have hlk := rmp_look h1.2 r (by omega) (b := b) hm
      by_cases hin : r.data.toList = inboxN
      · have hE : r.toList = [73, 78, 66, 79, 88] := by rw [Lib.toList_data]; exact hin
        have HF : Hid (Below w.heap.size w w1 ∧ nameB s.data.toList = some r.data.toList ∧ hasB l r.data.toList = true ∧ r.data.toList = inboxN) := ⟨hb1, hr, hhas, hin⟩
        clear cN hb1 hr h1 hhas hm hin
        go_wp2_with fail
        go_ret
        exact Or.inr (Or.inr (Or.inl ⟨_, HF.out.2.1, HF.out.2.2.1, Or.inl HF.out.2.2.2, rfl, HF.out.1⟩))
      · have hE : ¬ r.toList = [73, 78, 66, 79, 88] := by rw [Lib.toList_data]; exact hin
        have hE2 : (r.toList == [73, 78, 66, 79, 88]) = false := beq_eq_false_iff_ne.2 hE
        have cW := rlies_is hb mb wb l nx r w1 h1 hl HH.out.2 (by omega)
        have HR : Hid (nameB s.data.toList = some r.data.toList ∧ hasB l r.data.toList = true ∧ r.data.toList ≠ inboxN ∧ Below w.heap.size w w1 ∧ RHs w1 hb mb wb l nx) := ⟨hr, hhas, hin, hb1, h1⟩
        clear cN hb1 hr h1 hhas hm hin
        go_wp2_with fail
        refine cW.mono ?_
        rintro e w2 ⟨⟨v, rfl, hrow⟩, hb2⟩
        obtain ⟨LL, hLL⟩ : ∃ n, (withinB l r.data.toList).length = n := ⟨_, rfl⟩
        unfold NRow at hrow
        rw [hLL] at hrow
        obtain ⟨oa, oc, rfl⟩ := row_form hrow
        have hB2 : Below w.heap.size w w2 := HR.out.2.2.2.1.trans (hb2.mono HR.out.2.2.2.1.size)
        have h2 := HR.out.2.2.2.2.below hb2 (Nat.le_refl _)
        have c2 := h2.cell.1
        by_cases h0 : LL = 0
        · have d0 : decide ((0 : Int) < (LL : Int)) = false := decide_eq_false (by omega)
          obtain ⟨W3, hp, hm3, ht⟩ := rmp_del h2.2 r (by omega) 0
          have HQ : Hid (withinB l r.data.toList = [] ∧ HK hb mb w W3 ∧ RHs W3 hb mb wb (delB l r.data.toList) nx) := ⟨List.eq_nil_of_length_eq_zero (by omega), (HK.of hB2).trans (HK.turned ht), ((turned_but ht).block hb h2.lt h2.ne).trans h2.1, hm3⟩
          clear hrow hb2 hB2 h2 hm3 ht hLL cW
          go_wp2_with fail
          go_ret
          exact Or.inr (Or.inr (Or.inr ⟨_, HR.out.1, HR.out.2.1, HR.out.2.2.1, HQ.out.1, rfl, HQ.out.2.1, HQ.out.2.2⟩))
        · have d0 : decide ((0 : Int) < (LL : Int)) = true := decide_eq_true (by omega)
          have HQ : Hid (withinB l r.data.toList ≠ [] ∧ Below w.heap.size w w2) := ⟨fun e => by rw [e] at hLL; exact h0 hLL.symm, hB2⟩
          clear hrow hb2 hB2 h2 hLL cW
          go_wp2_with fail
          go_ret
          exact Or.inr (Or.inr (Or.inl ⟨_, HR.out.1, HR.out.2.1, Or.inr HQ.out.1, rfl, HQ.out.2⟩))
  · have HF : Hid (Below w.heap.size w w1 ∧ nameB s.data.toList = none) := ⟨hb1, hr⟩
    clear cN hb1 hr
    go_wp2_with fail
    go_ret
    exact Or.inl ⟨HF.out.2, rfl, HF.out.1⟩
end Go.Proofs.YtfdlopimncodcaaGreatDoor
namespace Go.Proofs.YtfdlopimncodcaaGreatDoor
open Go.Proofs.Bx
open Go.Proofs.Fl (Own Ord setOf namesOf order fname)
def SetOk (F : List Fl.Tx) : Prop := (∀ s ∈ F, Own s) ∧ Ord F ∧ F.length ≤ 12
theorem namesOf_self : ∀ {x : List Fl.Tx}, (∀ s ∈ x, Own s) → namesOf x = (x, 0)
  | [], _ => rfl
  | s :: x, h => by
    have h1 : fname s = (s, 0) := h s List.mem_cons_self
    have h2 := namesOf_self (x := x) fun t ht => h t (List.mem_cons_of_mem _ ht)
    rw [Fl.namesOf, h1, h2]
    simp
theorem setOk_setOf {F : List Fl.Tx} (h : SetOk F) : setOf F = (F, 0) := by
  unfold Fl.setOf
  rw [namesOf_self h.1, if_neg (by simp), Fl.order_of_ord h.2.1, if_neg (by have := h.2.2; omega)]
def LtOk (x : Lt) : Prop := SetOk x.flags ∧ (0 ≤ x.day ∧ x.day < 1000) ∧ x.text.length ≤ 300
structure BInv (n : Int) (l : List Lt) : Prop where
  rise : Rise l
  uid : ∀ x ∈ l, 1 ≤ x.uid ∧ x.uid < n
  ok : ∀ x ∈ l, LtOk x
  next : 1 ≤ n
theorem okLt_of {x : Lt} (h : LtOk x) : okLt x = true := by
  unfold okLt
  rw [setOk_setOf h.1]
  have h1 := h.2.1
  have h2 := h.2.2
  simp
  exact ⟨⟨h1.1, by omega⟩, by omega⟩
theorem riseB_of {n : Int} : ∀ {l : List Lt} {last : Int}, Rise l → (∀ x ∈ l, last < x.uid ∧ x.uid < n) → (∀ x ∈ l, LtOk x) → riseB n last l = true
  | [], _, _, _, _ => rfl
  | x :: r, last, hr, hu, ho => by
    have h1 := hu x List.mem_cons_self
    unfold Rise at hr
    rw [List.pairwise_cons] at hr
    have h2 := riseB_of (n := n) (l := r) (last := x.uid) hr.2 (fun y hy => ⟨hr.1 y hy, (hu y (List.mem_cons_of_mem _ hy)).2⟩) fun y hy => ho y (List.mem_cons_of_mem _ hy)
    rw [riseB, h2, okLt_of (ho x List.mem_cons_self)]
    simp [h1.1, h1.2]
theorem BInv.right {n : Int} {l : List Lt} (h : BInv n l) (hn : n ≤ 2147483647) (hl : l.length ≤ 60) : rightB 1 n l = true := by
  unfold rightB mayB
  rw [riseB_of h.rise (fun x hx => ⟨by have := (h.uid x hx).1; omega, (h.uid x hx).2⟩) h.ok]
  have := h.next
  simp [this, hn, hl]
structure BStep (n : Int) (l : List Lt) (n' : Int) (l' : List Lt) : Prop where
  inv : BInv n' l'
  up : n ≤ n' ∧ n' ≤ n + 1
  old : ∀ y ∈ l', (∃ x ∈ l, x.uid = y.uid ∧ x.text = y.text) ∨ (y.uid = n ∧ n' = n + 1)
  len : l'.length ≤ l.length + 1
theorem step_append {n : Int} {l : List Lt} (h : BInv n l) {F : List Fl.Tx} {day : Int} {t : Fl.Tx} (hF : SetOk F) (hd : 0 ≤ day ∧ day < 1000) (ht : t.length ≤ 300) : BStep n l (n + 1) (l ++ [⟨n, F, day, t⟩]) := by
  refine ⟨⟨?_, fun x hx => ?_, fun x hx => ?_, by have := h.next; omega⟩, ⟨by omega, by omega⟩, fun y hy => ?_, by simp⟩
  · unfold Rise
    rw [List.pairwise_append]
    refine ⟨h.rise, by simp, fun a ha b hb => ?_⟩
    rw [List.mem_singleton.1 hb]
    exact (h.uid a ha).2
  · rcases List.mem_append.1 hx with h1 | h1
    · have := h.uid x h1; omega
    · rw [List.mem_singleton.1 h1]; have := h.next; exact ⟨this, by show n < n + 1; omega⟩
  · rcases List.mem_append.1 hx with h1 | h1
    · exact h.ok x h1
    · rw [List.mem_singleton.1 h1]; exact ⟨hF, hd, ht⟩
  · rcases List.mem_append.1 hy with h1 | h1
    · exact Or.inl ⟨y, h1, rfl, rfl⟩
    · rw [List.mem_singleton.1 h1]; exact Or.inr ⟨rfl, rfl⟩
end Go.Proofs.YtfdlopimncodcaaGreatDoor
