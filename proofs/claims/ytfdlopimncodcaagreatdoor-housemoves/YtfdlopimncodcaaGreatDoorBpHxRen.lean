/-
  Rename, whatever it is asked: all that a house has behind it, and more.
-/
import Derived.Test.YtfdlopimncodcaaGreatDoorMHxPour
namespace Go.Proofs.YtfdlopimncodcaaGreatDoor
open Go.RowKit Go.Proofs.Aid Go.Proofs.Bx

set_option maxHeartbeats 4000000 in
set_option maxRecDepth 100000 in
theorem rename_x (H hb mb K : Nat) (l : Bxs) (nx : Int) (W : List Nm) (C : Nat → Bxd) (a : Option Addr) (wn wc : Nat) (s u : ByteArray) (w : World) (hE : NEnv w) (h : Hst H hb mb l nx W C (.slice a wn wc) w) (hI : HI H K l nx W C) (hK : K ≤ 45) (hs : s.size ≤ 1000) (hu : u.size ≤ 1000) :
    Calls Tryz.prog 32 #[.pointer (some ⟨hb, 0, none⟩), .string s, .string u] w fun e w' => OutX H hb mb K l nx W C w e w' := by
  have cT := there_is nameB hb mb l nx (.slice a wn wc) s w (nameC hE) h.hse.hs hs
  have HH : Hid (Hst H hb mb l nx W C (.slice a wn wc) w ∧ HI H K l nx W C ∧ NEnv w) := ⟨h, hI, hE⟩
  clear hE h hI
  go_enter Tryz.func32, Tryz.ntmps32
  go_wp2_with fail
  refine cT.mono ?_
  rintro e w1 ⟨hb1, ⟨r, hr, hr2, hr3, rfl⟩ | ⟨r, hr, hr3, rfl⟩ | ⟨hr, rfl⟩⟩
  · have h1 := HH.out.1.below hb1
    have hz1 := hb1.size
    have cF := free_is nameB hb mb l nx (.slice a wn wc) u w1 (nameC (HH.out.2.2.below hb1)) h1.hse.hs hu
    have HR : Hid (hasB l r.data.toList = true ∧ r.size ≤ 60 ∧ Hst H hb mb l nx W C (.slice a wn wc) w1 ∧ Below w.heap.size w w1 ∧ NEnv w1) := ⟨hr3, hr2, h1, hb1, HH.out.2.2.below hb1⟩
    clear cT hr hr3 h1 hb1
    go_wp2_with fail
    refine cF.mono ?_
    rintro e w2 ⟨hb2, ⟨q, hq, hq2, hq3, rfl⟩ | ⟨q, hq, hq3, rfl⟩ | ⟨hq, rfl⟩⟩
    · have h2 := HR.out.2.2.1.below hb2
      have hB2 : Below w.heap.size w w2 := HR.out.2.2.2.1.trans (hb2.mono hz1)
      have hE2 := HR.out.2.2.2.2.below hb2
      have HL : Hid (∀ e w3, OutX H hb mb K l nx W C w2 e w3 → OutX H hb mb K l nx W C w e w3) := fun e w3 h3 => h3.before hB2 HH.out.1.h0
      by_cases hin : r.data.toList = inboxN
      · have hT : r.toList = [73, 78, 66, 79, 88] := by rw [Lib.toList_data]; exact hin
        have cP := pour_x H hb mb K l nx W C a wn wc q w2 nameB (nameC hE2) h2 HH.out.2.1 hK hq2 (nameB_idem hq) hq3 (by rw [← hin]; exact HR.out.1) (nameB_idem hq)
        clear cF hq hq3 h2 hB2 hE2 hin hb2
        go_wp2_with fail
        refine cP.mono ?_
        rintro e w3 hO
        have HF : Hid (OutX H hb mb K l nx W C w e w3) := HL.out e w3 hO
        obtain ⟨v, rfl⟩ := hO.ret
        clear cP hO
        go_wp2_with fail
        go_ret
        exact HF.out
      · have hT : ¬ r.toList = [73, 78, 66, 79, 88] := by rw [Lib.toList_data]; exact hin
        have hT2 : (r.toList == [73, 78, 66, 79, 88]) = false := beq_eq_false_iff_ne.2 hT
        have hsh := HH.out.2.1.short
        have hln := HH.out.2.1.len
        have hnx := HH.out.2.1.nxt
        have cM := move_is hb mb l nx (.slice a wn wc) r q w2 h2.hse.hs (by omega) hq2 (by omega) (fun p hp => by have := hsh p hp; omega) HR.out.1 (by omega)
        have HX : Hid (Hst H hb mb l nx W C (.slice a wn wc) w2 ∧ nameB q.data.toList = some q.data.toList ∧ hasB l q.data.toList = false ∧ r.data.toList ≠ inboxN) := ⟨h2, nameB_idem hq, hq3, hin⟩
        clear cF hq hq3 h2 hB2 hE2 hin hb2 hsh hln hnx
        go_wp2_with fail
        refine cM.mono ?_
        rintro e w3 hc
        have HC : Hid (OutX H hb mb K l nx W C w e w3) := by
          refine HL.out e w3 ?_
          rcases hc with ⟨_, c2, c3⟩ | ⟨_, _, c3, c4⟩ | ⟨_, _, _, c4, c5⟩ | ⟨c1, c2, c3, c4, c5, ps, c6, c7⟩
          · rw [c2]; exact .err HX.out.1 c3
          · rw [c3]; exact .err HX.out.1 c4
          · rw [c4]; exact .err HX.out.1 c5
          · have hs2 := HX.out.1
            have hbx := hs2.built c5 c6
            refine ⟨c5.below hs2.h0 hs2.h1 hs2.h2, Or.inr ⟨_, _, _, W, _, c4, hs2.turn c5 c7 (C' := withNew w2.heap.size nx ps C) fun p hp => ?_, HH.out.2.1.move c6 hs2.old hs2.h0 c3 HX.out.2.1 HR.out.1 HX.out.2.2.1 c1 c2 HX.out.2.2.2⟩⟩
            obtain ⟨p', hp', e1, _⟩ := mem_mvAll _ _ (putAll_sorted ps l HH.out.2.1.sorted) hp
            rw [e1]
            exact hbx p' hp'
        obtain ⟨v, rfl⟩ := HC.out.ret
        clear hc cM
        go_wp2_with fail
        go_ret
        exact HC.out
    · have HF : Hid (OutX H hb mb K l nx W C w (.returned (errN 9)) w2) := (OutX.err HR.out.2.2.1 hb2).before HR.out.2.2.2.1 HH.out.1.h0
      clear cF hq hq3 hb2
      go_wp2_with fail
      go_ret
      exact HF.out
    · have HF : Hid (OutX H hb mb K l nx W C w (.returned (errN 1)) w2) := (OutX.err HR.out.2.2.1 hb2).before HR.out.2.2.2.1 HH.out.1.h0
      clear cF hq hb2
      go_wp2_with fail
      go_ret
      exact HF.out
  · have HF : Hid (OutX H hb mb K l nx W C w (.returned (errN 7)) w1) := .err HH.out.1 hb1
    clear cT hr hr3 hb1
    go_wp2_with fail
    go_ret
    exact HF.out
  · have HF : Hid (OutX H hb mb K l nx W C w (.returned (errN 1)) w1) := .err HH.out.1 hb1
    clear cT hr hb1
    go_wp2_with fail
    go_ret
    exact HF.out
end Go.Proofs.YtfdlopimncodcaaGreatDoor
namespace Go.Proofs.YtfdlopimncodcaaGreatDoor
open Go.RowKit Go.Proofs.Aid Go.Proofs.Bx

theorem del_is (v : Value) (W : List Nm) (k : Nat) (w : World) (h : WRow w v W) (hk : k < W.length) (hl : W.length ≤ 1000) :
    Calls Tryz.prog 88 #[v, .int .i64 (k : Int), .int .i64 ((k : Int) + 1)] w fun e w' => (∃ v', e = .returned v' ∧ WRow w' v' (W.take k ++ W.drop (k + 1)) ∧ v'.ownBlock = v.ownBlock) ∧ Only v.ownBlock w w' := by
  rcases h with ⟨rfl, rfl⟩ | ⟨g, cap, rfl, ht, hc, hle, hmax⟩
  · simp at hk
  have hm63 : cap ≤ 9223372036854775807 := by unfold maxLen at hmax; omega
  have hH : «Sort».Holds encStr w g 0 W.toArray := fun j hj => by
    have hj : j < W.length := by simpa using hj
    rw [Nat.zero_add]
    refine ⟨?_, ht.free j⟩
    rw [hc j _ (List.getElem?_eq_getElem hj)]
    congr 1
    simp [hj]
  have := Tryz.slices_Delete_string g 0 cap k (k + 1) W w hH hle hm63 (Nat.le_succ k) hk
  refine this.mono ?_
  rintro e w' ⟨rfl, q, rfl⟩
  have hlen : (W.take k ++ W.drop (k + 1) ++ List.replicate (k + 1 - k) []).length = W.length := by simp; omega
  have hnew : (W.take k ++ W.drop (k + 1)).length = W.length - (k + 1 - k) := by simp; omega
  rw [Lib.putRow_eq_setCells encStr w g 0 W.toArray _ q hH (by rw [hlen]; simp)]
  have ht1 : TBlk (w.drewN q) g cap := ht.same rfl
  refine ⟨⟨_, rfl, Or.inr ⟨g, cap, by rw [hnew], TBlk.set _ _ _ ht1 encs_txt, fun j x hj => ?_, by rw [hnew]; omega, hmax⟩, rfl⟩, (Only.of (below_drewN (Below.refl _ _) q)).trans (only_set g _ _ _)⟩
  have h2 : (W.take k ++ W.drop (k + 1) ++ List.replicate (k + 1 - k) [])[j]? = some x := by
    rw [List.getElem?_append_left (List.getElem?_eq_some_iff.1 hj).1]
    exact hj
  have := in_txt ht1 (W.take k ++ W.drop (k + 1) ++ List.replicate (k + 1 - k) []) (o := 0) (by rw [hlen]; omega) h2
  rw [Nat.zero_add] at this
  exact this
/-- A text is put in where it belongs. -/
theorem put_sorted {W : List Nm} {x : Nm} {k : Nat} (hs : W.Pairwise (· < ·)) (_hk : k ≤ W.length) (h1 : ∀ t (h : t < W.length), t < k → W[t] < x) (h2 : ∀ t (h : t < W.length), k ≤ t → ¬ W[t] < x) (hn : x ∉ W) : (W.take k ++ x :: W.drop k).Pairwise (· < ·) := by
  have ha : ∀ a ∈ W.take k, a < x := fun a ha => by
    obtain ⟨t, ht⟩ := List.getElem?_of_mem ha
    rw [List.getElem?_take] at ht
    split at ht
    · rename_i hlt
      obtain ⟨h3, rfl⟩ := List.getElem?_eq_some_iff.1 ht
      exact h1 t h3 hlt
    · cases ht
  have hb : ∀ b ∈ W.drop k, x < b := fun b hb => by
    obtain ⟨t, ht⟩ := List.getElem?_of_mem hb
    rw [List.getElem?_drop] at ht
    obtain ⟨h3, e⟩ := List.getElem?_eq_some_iff.1 ht
    have h4 := h2 (k + t) h3 (by omega)
    rw [e] at h4
    exact nm_lt_of h4 fun e2 => hn (by rw [← e2]; exact List.mem_of_mem_drop hb)
  rw [List.pairwise_append]
  refine ⟨hs.sublist (List.take_sublist k W), List.pairwise_cons.2 ⟨hb, hs.sublist (List.drop_sublist k W)⟩, fun a ha' b hb' => ?_⟩
  rcases List.mem_cons.1 hb' with rfl | hb'
  · exact ha a ha'
  · exact List.lt_trans (ha a ha') (hb b hb')
/-- The names that are wanted are others, and lie elsewhere. -/
theorem Hst.wants {H hb mb : Nat} {l : Bxs} {nx : Int} {W W' : List Nm} {C : Nat → Bxd} {wv wv' : Value} {w w3 : World} (h : Hst H hb mb l nx W C wv w) (hpl : ∀ p ∈ l, ∀ y ∈ (C p.2).ls, y.flags = []) (ho : Only wv.ownBlock w w3) (hr : WRow w3 wv' W') (hown : ∀ g, wv'.ownBlock = some g → H ≤ g) :
    HsAt w3 hb mb l nx wv ∧ Hst H hb mb l nx W' C wv' (w3.setCell ⟨hb, 1, none⟩ wv') ∧ Below H w (w3.setCell ⟨hb, 1, none⟩ wv') := by
  obtain ⟨a, c, hform⟩ := h.form
  have hlow : ∀ g, wv.ownBlock = some g → ∃ cap, TBlk w g cap := fun g hg => h.row.tblk hg
  have hnb : ∀ (b : Nat) (cs : Array Value) (ty : TypeId), w.heap[b]? = some (.cells cs ty (0, 0)) → ty ≠ 9 → w3.heap[b]? = w.heap[b]? := fun b cs ty hh hty => by
    refine ho.block b (Array.getElem?_eq_some_iff.1 hh).1 fun e => ?_
    obtain ⟨cap, cur, h1, _⟩ := hlow b e
    rw [h1] at hh
    injection hh with hh
    injection hh with _ hh _
    exact hty hh.symm
  have hmbk : w3.heap[mb]? = w.heap[mb]? := ho.block mb h.hse.hs.2.lt fun e => by
    obtain ⟨cap, cur, h1, _⟩ := hlow mb e
    obtain ⟨_, D, ⟨es, clock, h2, _⟩, _⟩ := h.hse.hs.2
    rw [h1] at h2
    cases h2
  have hS3 : HsAt w3 hb mb l nx wv := ⟨(hnb hb _ _ h.hse.hs.1 (by decide)).trans h.hse.hs.1, h.hse.hs.2.same hmbk⟩
  have hS4 : HsAt (w3.setCell ⟨hb, 1, none⟩ wv') hb mb l nx wv' := house_set hS3 wv'
  have hk4 : ∀ k, k ≠ hb → (w3.setCell ⟨hb, 1, none⟩ wv').heap[k]? = w3.heap[k]? := fun k hk => Below.heap_setCell _ _ _ _ hk
  have hr4 : WRow (w3.setCell ⟨hb, 1, none⟩ wv') wv' W' := hr.same fun g hg => hk4 g fun e => by
    obtain ⟨cap, cur, h1, _⟩ := hr.tblk hg
    rw [e, hS3.1] at h1
    injection h1 with h1
    injection h1 with _ h1 _
    exact absurd h1 (by decide)
  refine ⟨hS3, ⟨⟨hS4, hr4.sl, fun p hp => ?_⟩, hr4, hown, Nat.le_trans h.h0 (by simpa using ho.size), h.h1, h.h2⟩, ⟨ho.os, ho.tape, ho.output, by simpa using Nat.le_trans (Nat.le_refl _) ho.size, fun k hk => ?_⟩⟩
  · obtain ⟨lv, e1, e2⟩ := h.hse.bx p hp
    have hne := (ne_of_kind h.hse.hs e1 (by decide)).1
    have e3 := (hk4 p.2 hne).trans ((hnb p.2 _ _ e1 (by decide)).trans e1)
    refine ⟨lv, e3, ?_⟩
    obtain ⟨la, lc, rfl, h0, h1⟩ := e2
    refine ⟨la, lc, rfl, h0, ?_⟩
    rcases h1 with h1 | ⟨b, o, h1, h2⟩
    · exact Or.inl h1
    · by_cases hl : (C p.2).ls = []
      · exact Or.inl hl
      · refine Or.inr ⟨b, o, h1, fun j x hj => ?_⟩
        obtain ⟨q1, ⟨fv, q2, q3⟩, q4, q5⟩ := h2 j x hj
        have hbk : (w3.setCell ⟨hb, 1, none⟩ wv').heap[b]? = w.heap[b]? := by
          have hbh : b ≠ hb := fun e => by
            rw [hform] at h
            exact noStr_house h.hse.hs _ _ (by rw [← e]; exact q5)
          refine (hk4 b hbh).trans (ho.block b (World.block_lt_of_cell? _ _ q1) fun e => ?_)
          obtain ⟨cap, ht⟩ := hlow b e
          obtain ⟨s, hs⟩ := ht.one q1
          cases hs
        have hcell : ∀ i, (w3.setCell ⟨hb, 1, none⟩ wv').cell? ⟨b, i, none⟩ = w.cell? ⟨b, i, none⟩ := fun i => World.cell?_of_block (a := ⟨b, i, none⟩) hbk
        have hf := hpl p hp x (List.mem_of_getElem? hj)
        refine ⟨(hcell _).trans q1, ⟨fv, (hcell _).trans q2, ?_⟩, (hcell _).trans q4, (hcell _).trans q5⟩
        rw [hf] at q3 ⊢
        obtain ⟨fa, fc, r1, r2, _⟩ := q3
        exact ⟨fa, fc, r1, r2, Or.inl rfl⟩
  · have hkw : k < w.heap.size := Nat.lt_of_lt_of_le hk h.h0
    refine (hk4 k (by have := h.h1; omega)).trans (ho.block k hkw fun e => ?_)
    have := h.own k e
    omega
set_option maxHeartbeats 4000000 in
set_option maxRecDepth 100000 in
theorem want_x (H hb mb K : Nat) (l : Bxs) (nx : Int) (W : List Nm) (C : Nat → Bxd) (wv : Value) (s : ByteArray) (y : Bool) (w : World) (hE : NEnv w) (h : Hst H hb mb l nx W C wv w) (hI : HI H K l nx W C) (hs : s.size ≤ 1000) :
    Calls Tryz.prog 36 #[.pointer (some ⟨hb, 0, none⟩), .string s, .bool y] w fun e w' => OutX H hb mb K l nx W C w e w' := by
  have cN := nameC hE s w (Below.refl _ _ |>.mono (Nat.le_refl _)) hs
  have HH : Hid (Hst H hb mb l nx W C wv w ∧ HI H K l nx W C ∧ NEnv w) := ⟨h, hI, hE⟩
  obtain ⟨a, c, hwv⟩ := h.form
  obtain ⟨M, hM⟩ : ∃ m, W.length = m := ⟨_, rfl⟩
  have hM60 : M ≤ 60 := by rw [← hM]; exact hI.wlen
  rw [hM] at hwv
  subst hwv
  clear hE h hI
  go_enter Tryz.func36, Tryz.ntmps36
  go_wp2_with fail
  refine cN.mono ?_
  rintro e w1 ⟨hb1, ⟨r, hr, hr2, rfl⟩ | ⟨hr, rfl⟩⟩
  · have h1 := HH.out.1.below hb1
    have c1 := h1.hse.hs.cell.2.1
    have cB := bs_is (.slice a M c) W r w1 h1.hse.ws HH.out.2.1.wsorted (by have := HH.out.2.1.wlen; omega)
    have HX : Hid (Hst H hb mb l nx W C (.slice a M c) w1 ∧ Below w.heap.size w w1 ∧ nameB r.data.toList = some r.data.toList ∧ W.length = M) := ⟨h1, hb1, nameB_idem hr, hM⟩
    clear cN hr h1 hb1
    go_wp2_with fail
    refine cB.mono ?_
    rintro e w2 ⟨⟨k, rfl, k1, k2, k3⟩, q, rfl⟩
    have hb2 : Below w1.heap.size w1 (w1.drewN q) := below_drewN (Below.refl _ _) q
    obtain ⟨w2, hw2⟩ : ∃ W, w1.drewN q = W := ⟨_, rfl⟩
    rw [hw2] at hb2 ⊢
    have h2 := HX.out.1.below hb2
    have c2 := h2.hse.hs.cell.2.1
    have HY : Hid (Hst H hb mb l nx W C (.slice a M c) w2 ∧ Below w.heap.size w w2 ∧ (∀ t (h : t < W.length), t < k → W[t] < r.data.toList) ∧ (∀ t (h : t < W.length), k ≤ t → ¬ W[t] < r.data.toList) ∧ k ≤ W.length) := ⟨h2, HX.out.2.1.trans (hb2.mono HX.out.2.1.size), k2, k3, k1⟩
    rw [hM] at k1
    by_cases hin : r.data.toList ∈ W
    · rw [decide_eq_true hin]
      cases y with
      | true =>
        have HF : Hid (OutX H hb mb K l nx W C w (.returned .nilIface) w2) := (OutX.ok HX.out.1 HH.out.2.1 hb2).before HX.out.2.1 HH.out.1.h0
        clear cB k2 k3 h2 hb2 hw2 c2 c1
        go_wp2_with fail
        go_ret
        exact HF.out
      | false =>
        have hkl : k < W.length := by
          obtain ⟨t, ht⟩ := List.getElem?_of_mem hin
          obtain ⟨h4, h5⟩ := List.getElem?_eq_some_iff.1 ht
          rcases Nat.lt_or_ge t k with h6 | h6
          · have := k2 t h4 h6
            rw [h5] at this
            exact absurd this (List.lt_irrefl _)
          · omega
        have cD := del_is (.slice a M c) W k w2 h2.row hkl (by omega)
        have hsum : wrap64 ((k : Int) + 1) = (k : Int) + 1 := by unfold wrap64; omega
        clear cB k2 k3 h2 hb2 hw2 c1
        go_wp2_with fail
        refine cD.mono ?_
        rintro e w3 ⟨⟨v', rfl, hr3, ho3⟩, hon⟩
        obtain ⟨hS3, hst, hlow⟩ := HY.out.1.wants (fun p hp y hy => ((HH.out.2.1.bx p hp).plain y hy).1) hon hr3 (fun g hg => HY.out.1.own g (by rw [← ho3]; exact hg))
        obtain ⟨a', n', c', rfl⟩ : ∃ a n c, v' = .slice a n c := by obtain ⟨a, c, e, _⟩ := hr3.sl; exact ⟨a, _, c, e⟩
        have cc := hS3.cell.2.1
        have ff := rd_free hS3.1 1
        have HF : Hid (OutX H hb mb K l nx W C w (.returned .nilIface) (w3.setCell ⟨hb, 1, none⟩ (.slice a' n' c'))) := by
          have hsub : (W.take k ++ W.drop (k + 1)).Sublist W := by
            have : (W.take k ++ W.drop (k + 1)).Sublist (W.take k ++ W.drop k) := List.Sublist.append (List.Sublist.refl _) (by rw [show W.drop (k + 1) = (W.drop k).drop 1 by rw [List.drop_drop]]; exact List.drop_sublist 1 _)
            rwa [List.take_append_drop] at this
          refine ⟨(HY.out.2.1.mono HH.out.1.h0).trans hlow, Or.inr ⟨_, l, nx, _, C, rfl, hst, (HH.out.2.1.wants ?_ ?_ ?_).more (by omega)⟩⟩
          · exact Nat.le_trans hsub.length_le HH.out.2.1.wlen
          · exact HH.out.2.1.wsorted.sublist hsub
          · exact fun n hn => HH.out.2.1.wnm n (hsub.subset hn)
        clear cD hr3 ho3 hon hst hlow hS3
        go_wp2_with fail
        go_ret
        exact HF.out
    · rw [decide_eq_false hin]
      cases y with
      | false =>
        have HF : Hid (OutX H hb mb K l nx W C w (.returned (errN 7)) w2) := (OutX.err HX.out.1 hb2).before HX.out.2.1 HH.out.1.h0
        clear cB k2 k3 h2 hb2 hw2 c2 c1
        go_wp2_with fail
        go_ret
        exact HF.out
      | true =>
        by_cases hful : 60 ≤ M
        · have d1 : decide ((60 : Int) ≤ (M : Int)) = true := decide_eq_true (by omega)
          have HF : Hid (OutX H hb mb K l nx W C w (.returned (errN 12)) w2) := (OutX.err HX.out.1 hb2).before HX.out.2.1 HH.out.1.h0
          clear cB k2 k3 h2 hb2 hw2 c1
          go_wp2_with fail
          go_ret
          exact HF.out
        · have d1 : decide ((60 : Int) ≤ (M : Int)) = false := decide_eq_false (by omega)
          have b3 : Below w2.heap.size w2 (w2.alloc (.cells #[.string r] 9)) := (Below.refl _ _).alloc (Nat.le_refl _) _
          have e3 := heap_alloc_new w2 (.cells #[.string r] 9)
          obtain ⟨W3, hW3⟩ : ∃ W, w2.alloc (.cells #[.string r] 9) = W := ⟨_, rfl⟩
          rw [hW3] at b3 e3
          have h3 := h2.below b3
          have cI := ins_is (.slice a M c) W r w2.heap.size k W3 h3.row (by omega) (by omega) e3 (fun e => by
            obtain ⟨cap, ht⟩ := h2.row.tblk e
            have := ht.lt
            omega)
          have c3 := h3.hse.hs.cell.2.1
          have HZ : Hid (Hst H hb mb l nx W C (.slice a M c) W3 ∧ Below w.heap.size w W3) := ⟨h3, HY.out.2.1.trans (b3.mono HY.out.2.1.size)⟩
          clear cB k2 k3 h2 hb2 hw2 c1 b3 e3 h3
          go_wp2_with fail
          refine cI.mono ?_
          rintro e w4 ⟨⟨v', rfl, hr3, ho3⟩, hon⟩
          obtain ⟨hS3, hst, hlow⟩ := HZ.out.1.wants (fun p hp y hy => ((HH.out.2.1.bx p hp).plain y hy).1) hon hr3 (fun g hg => by
            rcases ho3 g hg with h5 | h5
            · exact HZ.out.1.own g h5
            · exact Nat.le_trans HZ.out.1.h0 h5)
          obtain ⟨a', n', c', rfl⟩ : ∃ a n c, v' = .slice a n c := by obtain ⟨a, c, e, _⟩ := hr3.sl; exact ⟨a, _, c, e⟩
          have cc := hS3.cell.2.1
          have ff := rd_free hS3.1 1
          have HF : Hid (OutX H hb mb K l nx W C w (.returned .nilIface) (w4.setCell ⟨hb, 1, none⟩ (.slice a' n' c'))) := by
            refine ⟨(HZ.out.2.mono HH.out.1.h0).trans hlow, Or.inr ⟨_, l, nx, _, C, rfl, hst, (HH.out.2.1.wants ?_ ?_ ?_).more (by omega)⟩⟩
            · rw [put_len HY.out.2.2.2.2]
              omega
            · exact put_sorted HH.out.2.1.wsorted HY.out.2.2.2.2 HY.out.2.2.1 HY.out.2.2.2.1 hin
            · intro n hn
              rcases List.mem_append.1 hn with hn | hn
              · exact HH.out.2.1.wnm n (List.mem_of_mem_take hn)
              · rcases List.mem_cons.1 hn with rfl | hn
                · exact HX.out.2.2.1
                · exact HH.out.2.1.wnm n (List.mem_of_mem_drop hn)
          clear cI hr3 ho3 hon hst hlow hS3
          go_wp2_with fail
          go_ret
          exact HF.out
  · have HF : Hid (OutX H hb mb K l nx W C w (.returned (errN 1)) w1) := .err HH.out.1 hb1
    clear cN hr hb1
    go_wp2_with fail
    go_ret
    exact HF.out
end Go.Proofs.YtfdlopimncodcaaGreatDoor
namespace Go.Proofs.YtfdlopimncodcaaGreatDoor
open Go.RowKit Go.Proofs.Aid Go.Proofs.Bx

theorem get_x (hb mb : Nat) (l : Bxs) (nx : Int) (wv : Value) (s : ByteArray) (w : World) (hE : NEnv w) (h : HsAt w hb mb l nx wv) (hs : s.size ≤ 1000) :
    Calls Tryz.prog 31 #[.pointer (some ⟨hb, 0, none⟩), .string s] w fun e w' => Below w.heap.size w w' ∧
      ((∃ r b, (r, b) ∈ l ∧ e = .returned (.tuple #[.pointer (some ⟨b, 0, none⟩), .nilIface])) ∨ ∃ E, e = .returned (.tuple #[.pointer none, errN E])) :=
  (get_is nameB hb mb l nx wv s w (nameC hE) h hs).mono fun _ _ ⟨h1, h2⟩ => ⟨h1, h2.imp (fun ⟨r, b, _, q2, q3⟩ => ⟨r, b, q2, q3⟩) fun ⟨E, _, q⟩ => ⟨E, q⟩⟩
set_option maxHeartbeats 4000000 in
set_option maxRecDepth 100000 in
theorem deed_x (H hb mb K : Nat) (l : Bxs) (nx : Int) (W : List Nm) (C : Nat → Bxd) (wv : Value) (k : Int) (s t : ByteArray) (y : Bool) (w : World) (hE : NEnv w) (h : Hst H hb mb l nx W C wv w) (hI : HI H K l nx W C) (hK : K ≤ 45) (hs : s.size ≤ 100) (ht : t.size ≤ 100) :
    Calls Tryz.prog 27 #[.pointer (some ⟨hb, 0, none⟩), .agg #[.int .i64 k, .string s, .string t, .bool y]] w fun e w' => OutX H hb mb K l nx W C w e w' := by
  have b1 : Below w.heap.size w (w.alloc (.cells #[.int .i64 k, .string s, .string t, .bool y] 62)) := (Below.refl _ _).alloc (Nat.le_refl _) _
  have e1 := heap_alloc_new w (.cells #[.int .i64 k, .string s, .string t, .bool y] 62)
  obtain ⟨W1, hW1⟩ : ∃ W, w.alloc (.cells #[.int .i64 k, .string s, .string t, .bool y] 62) = W := ⟨_, rfl⟩
  rw [hW1] at b1 e1
  have HL : Hid (∀ e w3, OutX H hb mb K l nx W C W1 e w3 → OutX H hb mb K l nx W C w e w3) := fun e w3 h3 => h3.before b1 h.h0
  have hX := h.below b1
  have hE1 := hE.below b1
  have r0 : W1.cell? ⟨w.heap.size, 0, none⟩ = some (.int .i64 k) := rd_cell e1 rfl
  have r1 : W1.cell? ⟨w.heap.size, 1, none⟩ = some (.string s) := rd_cell e1 rfl
  have r2 : W1.cell? ⟨w.heap.size, 2, none⟩ = some (.string t) := rd_cell e1 rfl
  have r3 : W1.cell? ⟨w.heap.size, 3, none⟩ = some (.bool y) := rd_cell e1 rfl
  have e1' : Hid (W1.heap[w.heap.size]? = some (.cells #[.int .i64 k, .string s, .string t, .bool y] 62 (0, 0))) := e1
  obtain ⟨a, c, hwv⟩ := h.form
  obtain ⟨M, hM⟩ : ∃ m, W.length = m := ⟨_, rfl⟩
  rw [hM] at hwv
  subst hwv
  clear h hE b1 e1
  by_cases k0 : k = 0
  · subst k0
    have cC := create_x H hb mb K l nx W C _ s W1 hE1 hX hI hK (by omega)
    clear hX hE1
    go_enter Tryz.func27, Tryz.ntmps27
    go_wp2_with fail
    refine cC.mono ?_
    rintro e w2 hO
    have HF : Hid (OutX H hb mb K l nx W C w e w2) := HL.out e w2 hO
    obtain ⟨v, rfl⟩ := hO.ret
    clear cC hO
    go_wp2_with fail
    go_ret
    exact HF.out
  · have d0 : (k == 0) = false := beq_eq_false_iff_ne.2 k0
    by_cases k1 : k = 1
    · subst k1
      have cC := delete_x H hb mb K l nx W C _ s W1 hE1 hX hI (by omega)
      clear hX hE1
      go_enter Tryz.func27, Tryz.ntmps27
      go_wp2_with fail
      refine cC.mono ?_
      rintro e w2 hO
      have HF : Hid (OutX H hb mb K l nx W C w e w2) := HL.out e w2 hO
      obtain ⟨v, rfl⟩ := hO.ret
      clear cC hO
      go_wp2_with fail
      go_ret
      exact HF.out
    · have d1 : (k == 1) = false := beq_eq_false_iff_ne.2 k1
      by_cases k2 : k = 2
      · subst k2
        have cC := rename_x H hb mb K l nx W C a M c s t W1 hE1 hX hI hK (by omega) (by omega)
        clear hX hE1
        go_enter Tryz.func27, Tryz.ntmps27
        go_wp2_with fail
        refine cC.mono ?_
        rintro e w2 hO
        have HF : Hid (OutX H hb mb K l nx W C w e w2) := HL.out e w2 hO
        obtain ⟨v, rfl⟩ := hO.ret
        clear cC hO
        go_wp2_with fail
        go_ret
        exact HF.out
      · have d2 : (k == 2) = false := beq_eq_false_iff_ne.2 k2
        by_cases k3 : k = 3
        · subst k3
          have cC := want_x H hb mb K l nx W C _ s y W1 hE1 hX hI (by omega)
          clear hX hE1
          go_enter Tryz.func27, Tryz.ntmps27
          go_wp2_with fail
          refine cC.mono ?_
          rintro e w2 hO
          have HF : Hid (OutX H hb mb K l nx W C w e w2) := HL.out e w2 hO
          obtain ⟨v, rfl⟩ := hO.ret
          clear cC hO
          go_wp2_with fail
          go_ret
          exact HF.out
        · have d3 : (k == 3) = false := beq_eq_false_iff_ne.2 k3
          by_cases k4 : k = 4
          · subst k4
            have cG := get_x hb mb l nx _ s W1 hE1 hX.hse.hs (by omega)
            have HX : Hid (Hst H hb mb l nx W C (.slice a M c) W1) := hX
            clear hX hE1
            go_enter Tryz.func27, Tryz.ntmps27
            go_wp2_with fail
            refine cG.mono ?_
            rintro e w2 ⟨hb2, ⟨n, b, hp, rfl⟩ | ⟨E, rfl⟩⟩
            · have r2' : w2.cell? ⟨w.heap.size, 2, none⟩ = some (.string t) := (hb2.cell (p := ⟨w.heap.size, 2, none⟩) (Array.getElem?_eq_some_iff.1 e1'.out).1).trans r2
              have cA := append_x H hb mb K l nx W C _ b n t w2 (HX.out.below hb2) hI hK ht hp
              have HB : Hid (∀ e w3, OutX H hb mb K l nx W C w2 e w3 → OutX H hb mb K l nx W C w e w3) := fun e w3 h3 => HL.out e w3 (h3.before hb2 HX.out.h0)
              clear cG hb2
              go_wp2_with fail
              refine cA.mono ?_
              rintro e w3 ⟨x, v, rfl, hO⟩
              have HF : Hid (OutX H hb mb K l nx W C w (.returned v) w3) := HB.out _ w3 hO
              clear cA hO
              go_wp2_with fail
              go_ret
              exact HF.out
            · have HF : Hid (OutX H hb mb K l nx W C w (.returned (errN E)) w2) := HL.out _ w2 (.err HX.out hb2)
              clear cG hb2
              go_wp2_with fail
              go_ret
              exact HF.out
          · have d4 : (k == 4) = false := beq_eq_false_iff_ne.2 k4
            have HF : Hid (OutX H hb mb K l nx W C w (.returned .nilIface) W1) := HL.out _ W1 (.ok hX hI (Below.refl _ _))
            clear hX hE1
            go_enter Tryz.func27, Tryz.ntmps27
            go_wp2_with fail
            go_ret
            exact HF.out
end Go.Proofs.YtfdlopimncodcaaGreatDoor
