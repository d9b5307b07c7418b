/-
  Want: just what it answers, and leaves, and more.
-/
import Derived.Test.YtfdlopimncodcaaGreatDoorBpHpRen
namespace Go.Proofs.YtfdlopimncodcaaGreatDoor
open Go.RowKit Go.Proofs.Aid
def WantO (H hb mb K : Nat) (l : Bxs) (nx : Int) (W : List Nm) (C : Nat → Bxd) (wv : Value) (s : Nm) (y : Bool) (w : World) (e : Ending) (w' : World) : Prop :=
  ErrP H K hb mb l nx W C wv w (cWant W s y) e w' ∨
  (cWant W s y = 0 ∧ e = .returned .nilIface ∧ Tn (PS hb mb wv l) w w' ∧ Below H w w' ∧ ∃ r W' wv', nameB s = some r ∧ (∀ x, x ∈ W' ↔ if y = true then x = r ∨ x ∈ W else x ≠ r ∧ x ∈ W) ∧ PH H (K + 1) hb mb l nx W' C wv' w')
theorem Tn.only {S : Nat → Prop} {g : Option Nat} {w w' : World} (h : Only g w w') (hs : ∀ b, g = some b → S b) : Tn S w w' := ⟨h.os, h.tape, h.output, h.size, fun k hk hn => h.block k hk (fun e => hn (hs k e))⟩
theorem put_mem {W : List Nm} {r : Nm} (k : Nat) (x : Nm) : x ∈ W.take k ++ r :: W.drop k ↔ x = r ∨ x ∈ W := by
  rw [List.mem_append, List.mem_cons]
  constructor
  · rintro (h | h | h)
    · exact Or.inr (List.mem_of_mem_take h)
    · exact Or.inl h
    · exact Or.inr (List.mem_of_mem_drop h)
  · rintro (h | h)
    · exact Or.inr (Or.inl h)
    · rw [← List.take_append_drop k W] at h
      rcases List.mem_append.1 h with h | h
      · exact Or.inl h
      · exact Or.inr (Or.inr h)
theorem cut_mem {W : List Nm} {r : Nm} {k : Nat} (hs : W.Pairwise (· < ·)) (hk : ∃ h : k < W.length, W[k] = r) (x : Nm) : x ∈ W.take k ++ W.drop (k + 1) ↔ x ≠ r ∧ x ∈ W := by
  obtain ⟨hk, rfl⟩ := hk
  have e : W = W.take k ++ W[k] :: W.drop (k + 1) := by
    rw [← List.drop_eq_getElem_cons hk, List.take_append_drop]
  have h1 := hs
  rw [e, List.pairwise_append] at h1
  obtain ⟨_, h2, h3⟩ := h1
  have h4 := (List.pairwise_cons.1 h2).1
  constructor
  · intro h
    rcases List.mem_append.1 h with h | h
    · refine ⟨fun e2 => ?_, List.mem_of_mem_take h⟩
      exact List.lt_irrefl _ (e2 ▸ h3 x h _ List.mem_cons_self)
    · refine ⟨fun e2 => ?_, List.mem_of_mem_drop h⟩
      exact List.lt_irrefl _ (e2 ▸ h4 x h)
  · rintro ⟨hne, h⟩
    rw [e] at h
    rcases List.mem_append.1 h with h | h
    · exact List.mem_append_left _ h
    · rcases List.mem_cons.1 h with h | h
      · exact absurd h hne
      · exact List.mem_append_right _ h
set_option maxHeartbeats 4000000 in
set_option maxRecDepth 100000 in
theorem want_p (H hb mb K : Nat) (l : Bxs) (nx : Int) (W : List Nm) (C : Nat → Bxd) (wv : Value) (s : ByteArray) (y : Bool) (w : World) (hE : NEnv w) (h : PH H K hb mb l nx W C wv w) (hs : s.size ≤ 1000) :
    Calls Tryz.prog 36 #[.pointer (some ⟨hb, 0, none⟩), .string s, .bool y] w fun e w' => WantO H hb mb K l nx W C wv s.data.toList y w e w' := by
  have cN := nameC hE s w (Below.refl _ _ |>.mono (Nat.le_refl _)) hs
  have HH : Hid (Hst H hb mb l nx W C wv w ∧ HI H K l nx W C ∧ NEnv w) := ⟨h.st, h.hi, hE⟩
  obtain ⟨a, c, hwv⟩ := h.st.form
  obtain ⟨M, hM⟩ : ∃ m, W.length = m := ⟨_, rfl⟩
  have hM60 : M ≤ 60 := by rw [← hM]; exact h.hi.wlen
  rw [hM] at hwv
  subst hwv
  clear hE h
  go_enter Tryz.func36, Tryz.ntmps36
  go_wp2_with fail
  refine cN.mono ?_
  rintro e w1 ⟨hb1, ⟨r, hr, hr2, rfl⟩ | ⟨hr, rfl⟩⟩
  · have h1 := HH.out.1.below hb1
    have c1 := h1.hse.hs.cell.2.1
    have cB := bs_is (.slice a M c) W r w1 h1.hse.ws HH.out.2.1.wsorted (by have := HH.out.2.1.wlen; omega)
    have HX : Hid (Hst H hb mb l nx W C (.slice a M c) w1 ∧ Below w.heap.size w w1 ∧ nameB r.data.toList = some r.data.toList ∧ W.length = M ∧ nameB s.data.toList = some r.data.toList) := ⟨h1, hb1, nameB_idem hr, hM, hr⟩
    clear cN hr h1 hb1
    go_wp2_with fail
    refine cB.mono ?_
    rintro e w2 ⟨⟨k, rfl, k1, k2, k3⟩, q, rfl⟩
    have hb2 : Below w1.heap.size w1 (w1.drewN q) := below_drewN (Below.refl _ _) q
    obtain ⟨w2, hw2⟩ : ∃ W, w1.drewN q = W := ⟨_, rfl⟩
    rw [hw2] at hb2 ⊢
    have h2 := HX.out.1.below hb2
    have c2 := h2.hse.hs.cell.2.1
    have HY : Hid (Hst H hb mb l nx W C (.slice a M c) w2 ∧ Below w.heap.size w w2 ∧ (∀ t (h : t < W.length), t < k → W[t] < r.data.toList) ∧ (∀ t (h : t < W.length), k ≤ t → ¬ W[t] < r.data.toList) ∧ k ≤ W.length) := ⟨h2, HX.out.2.1.trans (hb2.mono HX.out.2.1.size), k2, k3, k1⟩
    rw [hM] at k1
    by_cases hin : r.data.toList ∈ W
    · rw [decide_eq_true hin]
      cases y with
      | true =>
        have HF : Hid (WantO H hb mb K l nx W C (.slice a M c) s.data.toList true w (.returned .nilIface) w2) := by
          refine Or.inr ⟨?_, rfl, Tn.of HY.out.2.1, HY.out.2.1.mono HH.out.1.h0, _, W, _, HX.out.2.2.2.2, fun x => ?_, ⟨HY.out.1, HH.out.2.1.more (by omega)⟩⟩
          · unfold cWant
            simp only [HX.out.2.2.2.2]
            rw [if_pos trivial, if_pos hin]
          · rw [if_pos rfl]
            exact ⟨Or.inr, fun h => h.elim (fun e => by rw [e]; exact hin) id⟩
        clear cB k2 k3 h2 hb2 hw2 c2 c1
        go_wp2_with fail
        go_ret
        exact HF.out
      | false =>
        have hkl : k < W.length := by
          obtain ⟨t, ht⟩ := List.getElem?_of_mem hin
          obtain ⟨h4, h5⟩ := List.getElem?_eq_some_iff.1 ht
          rcases Nat.lt_or_ge t k with h6 | h6
          · have := k2 t h4 h6
            rw [h5] at this
            exact absurd this (List.lt_irrefl _)
          · omega
        have cD := del_is (.slice a M c) W k w2 h2.row hkl (by omega)
        have hsum : wrap64 ((k : Int) + 1) = (k : Int) + 1 := by unfold wrap64; omega
        clear cB k2 k3 h2 hb2 hw2 c1
        go_wp2_with fail
        refine cD.mono ?_
        rintro e w3 ⟨⟨v', rfl, hr3, ho3⟩, hon⟩
        obtain ⟨hS3, hst, hlow⟩ := HY.out.1.wants (fun p hp y hy => ((HH.out.2.1.bx p hp).plain y hy).1) hon hr3 (fun g hg => HY.out.1.own g (by rw [← ho3]; exact hg))
        obtain ⟨a', n', c', rfl⟩ : ∃ a n c, v' = .slice a n c := by obtain ⟨a, c, e, _⟩ := hr3.sl; exact ⟨a, _, c, e⟩
        have cc := hS3.cell.2.1
        have ff := rd_free hS3.1 1
        have HF : Hid (WantO H hb mb K l nx W C (.slice a M c) s.data.toList false w (.returned .nilIface) (w3.setCell ⟨hb, 1, none⟩ (.slice a' n' c'))) := by
          have hsub : (W.take k ++ W.drop (k + 1)).Sublist W := by
            have : (W.take k ++ W.drop (k + 1)).Sublist (W.take k ++ W.drop k) := List.Sublist.append (List.Sublist.refl _) (by rw [show W.drop (k + 1) = (W.drop k).drop 1 by rw [List.drop_drop]]; exact List.drop_sublist 1 _)
            rwa [List.take_append_drop] at this
          have hWk : ∃ h, W[k] = r.data.toList := by
            refine ⟨hkl, ?_⟩
            obtain ⟨t, ht⟩ := List.getElem?_of_mem hin
            obtain ⟨h4, h5⟩ := List.getElem?_eq_some_iff.1 ht
            rcases Nat.lt_trichotomy t k with h6 | h6 | h6
            · have := HY.out.2.2.1 t h4 h6
              rw [h5] at this
              exact absurd this (List.lt_irrefl _)
            · subst h6
              exact h5
            · have h7 := List.pairwise_iff_getElem.1 HH.out.2.1.wsorted k t hkl h4 h6
              rw [h5] at h7
              exact absurd h7 (HY.out.2.2.2.1 k hkl (Nat.le_refl _))
          refine Or.inr ⟨?_, rfl, ((Tn.of HY.out.2.1).trans (Tn.only hon fun b e => Or.inr (Or.inr (Or.inl e)))).trans (Tn.but ((to_but (Below.refl _ _)).setB 1 _) (Or.inl rfl)), (HY.out.2.1.mono HH.out.1.h0).trans hlow, _, _, _, HX.out.2.2.2.2, fun x => ?_, ⟨hst, (HH.out.2.1.wants ?_ ?_ ?_).more (by omega)⟩⟩
          · unfold cWant
            simp only [HX.out.2.2.2.2]
            rw [if_neg (by decide), if_pos hin]
          · rw [if_neg (by decide)]
            exact cut_mem HH.out.2.1.wsorted hWk x
          · exact Nat.le_trans hsub.length_le HH.out.2.1.wlen
          · exact HH.out.2.1.wsorted.sublist hsub
          · exact fun n hn => HH.out.2.1.wnm n (hsub.subset hn)
        clear cD hr3 ho3 hon hst hlow hS3
        go_wp2_with fail
        go_ret
        exact HF.out
    · rw [decide_eq_false hin]
      cases y with
      | false =>
        have HF : Hid (WantO H hb mb K l nx W C (.slice a M c) s.data.toList false w (.returned (errN 7)) w2) := by
          have hc : cWant W s.data.toList false = 7 := by
            unfold cWant
            simp only [HX.out.2.2.2.2]
            rw [if_neg (by decide), if_neg hin]
          unfold WantO
          rw [hc]
          exact Or.inl ⟨by decide, rfl, HY.out.2.1, HY.out.1, HH.out.2.1.more (by omega)⟩
        clear cB k2 k3 h2 hb2 hw2 c2 c1
        go_wp2_with fail
        go_ret
        exact HF.out
      | true =>
        by_cases hful : 60 ≤ M
        · have d1 : decide ((60 : Int) ≤ (M : Int)) = true := decide_eq_true (by omega)
          have HF : Hid (WantO H hb mb K l nx W C (.slice a M c) s.data.toList true w (.returned (errN 12)) w2) := by
            have hc : cWant W s.data.toList true = 12 := by
              unfold cWant
              simp only [HX.out.2.2.2.2]
              rw [if_pos trivial, if_neg hin, if_pos (by omega)]
            unfold WantO
            rw [hc]
            exact Or.inl ⟨by decide, rfl, HY.out.2.1, HY.out.1, HH.out.2.1.more (by omega)⟩
          clear cB k2 k3 h2 hb2 hw2 c1
          go_wp2_with fail
          go_ret
          exact HF.out
        · have d1 : decide ((60 : Int) ≤ (M : Int)) = false := decide_eq_false (by omega)
          have b3 : Below w2.heap.size w2 (w2.alloc (.cells #[.string r] 9)) := (Below.refl _ _).alloc (Nat.le_refl _) _
          have e3 := heap_alloc_new w2 (.cells #[.string r] 9)
          obtain ⟨W3, hW3⟩ : ∃ W, w2.alloc (.cells #[.string r] 9) = W := ⟨_, rfl⟩
          rw [hW3] at b3 e3
          have h3 := h2.below b3
          have cI := ins_is (.slice a M c) W r w2.heap.size k W3 h3.row (by omega) (by omega) e3 (fun e => by
            obtain ⟨cap, ht⟩ := h2.row.tblk e
            have := ht.lt
            omega)
          have c3 := h3.hse.hs.cell.2.1
          have HZ : Hid (Hst H hb mb l nx W C (.slice a M c) W3 ∧ Below w.heap.size w W3) := ⟨h3, HY.out.2.1.trans (b3.mono HY.out.2.1.size)⟩
          clear cB k2 k3 h2 hb2 hw2 c1 b3 e3 h3
          go_wp2_with fail
          refine cI.mono ?_
          rintro e w4 ⟨⟨v', rfl, hr3, ho3⟩, hon⟩
          obtain ⟨hS3, hst, hlow⟩ := HZ.out.1.wants (fun p hp y hy => ((HH.out.2.1.bx p hp).plain y hy).1) hon hr3 (fun g hg => by
            rcases ho3 g hg with h5 | h5
            · exact HZ.out.1.own g h5
            · exact Nat.le_trans HZ.out.1.h0 h5)
          obtain ⟨a', n', c', rfl⟩ : ∃ a n c, v' = .slice a n c := by obtain ⟨a, c, e, _⟩ := hr3.sl; exact ⟨a, _, c, e⟩
          have cc := hS3.cell.2.1
          have ff := rd_free hS3.1 1
          have HF : Hid (WantO H hb mb K l nx W C (.slice a M c) s.data.toList true w (.returned .nilIface) (w4.setCell ⟨hb, 1, none⟩ (.slice a' n' c'))) := by
            refine Or.inr ⟨?_, rfl, ((Tn.of HZ.out.2).trans (Tn.only hon fun b e => Or.inr (Or.inr (Or.inl e)))).trans (Tn.but ((to_but (Below.refl _ _)).setB 1 _) (Or.inl rfl)), (HZ.out.2.mono HH.out.1.h0).trans hlow, _, _, _, HX.out.2.2.2.2, fun x => ?_, ⟨hst, (HH.out.2.1.wants ?_ ?_ ?_).more (by omega)⟩⟩
            · unfold cWant
              simp only [HX.out.2.2.2.2]
              rw [if_pos trivial, if_neg hin, if_neg (by omega)]
            · rw [if_pos rfl]
              exact put_mem k x
            · rw [put_len HY.out.2.2.2.2]
              omega
            · exact put_sorted HH.out.2.1.wsorted HY.out.2.2.2.2 HY.out.2.2.1 HY.out.2.2.2.1 hin
            · intro n hn
              rcases List.mem_append.1 hn with hn | hn
              · exact HH.out.2.1.wnm n (List.mem_of_mem_take hn)
              · rcases List.mem_cons.1 hn with rfl | hn
                · exact HX.out.2.2.1
                · exact HH.out.2.1.wnm n (List.mem_of_mem_drop hn)
          clear cI hr3 ho3 hon hst hlow hS3
          go_wp2_with fail
          go_ret
          exact HF.out
  · have HF : Hid (WantO H hb mb K l nx W C (.slice a M c) s.data.toList y w (.returned (errN 1)) w1) := by
      have hc : cWant W s.data.toList y = 1 := by
        unfold cWant
        simp only [hr]
      unfold WantO
      rw [hc]
      exact Or.inl ⟨by decide, rfl, hb1, HH.out.1.below hb1, HH.out.2.1.more (by omega)⟩
    clear cN hr hb1
    go_wp2_with fail
    go_ret
    exact HF.out
end Go.Proofs.YtfdlopimncodcaaGreatDoor
namespace Go.Proofs.YtfdlopimncodcaaGreatDoor
open Go.RowKit Go.Proofs.Aid
def RWantOut (hb mb wb : Nat) (l Wl : Bxs) (nx : Int) (s : ByteArray) (y : Bool) (w : World) (e : Ending) (w' : World) : Prop :=
      (nameB s.data.toList = none ∧ e = .returned (.int .i64 1) ∧ Below w.heap.size w w') ∨
      (∃ r, nameB s.data.toList = some r ∧ y = false ∧ hasB Wl r = false ∧ e = .returned (.int .i64 7) ∧ Below w.heap.size w w') ∨
      (∃ r, nameB s.data.toList = some r ∧ y = false ∧ hasB Wl r = true ∧ e = .returned (.int .i64 0) ∧ HK wb wb w w' ∧ RHs w' hb mb wb l nx ∧ RNm w' wb (delB Wl r)) ∨
      (∃ r, nameB s.data.toList = some r ∧ y = true ∧ hasB Wl r = false ∧ 60 ≤ Wl.length ∧ e = .returned (.int .i64 12) ∧ Below w.heap.size w w') ∨
      (∃ r, nameB s.data.toList = some r ∧ y = true ∧ (hasB Wl r = true ∨ Wl.length < 60) ∧ e = .returned (.int .i64 0) ∧ HK wb wb w w' ∧ RHs w' hb mb wb l nx ∧ RNm w' wb (putB r 1 Wl))
set_option maxHeartbeats 4000000 in
set_option maxRecDepth 100000 in
theorem rwant_is (hb mb wb : Nat) (l Wl : Bxs) (nx : Int) (s : ByteArray) (y : Bool) (w : World) (hE : NEnv w) (h : RHs w hb mb wb l nx) (hW : RNm w wb Wl) (hone : ∀ p ∈ Wl, p.2 = 1) (hs : s.size ≤ 1000) (hl : Wl.length ≤ 1000) (hne : mb ≠ wb) :
    Calls Tryz.prog 46 #[.pointer (some ⟨hb, 0, none⟩), .string s, .bool y] w fun e w' => RWantOut hb mb wb l Wl nx s y w e w' := by
  have cN := rname_is s w hE hs
  have HH : Hid (RHs w hb mb wb l nx ∧ RNm w wb Wl ∧ mb ≠ wb ∧ ∀ p ∈ Wl, p.2 = 1) := ⟨h, hW, hne, hone⟩
  have HT : Hid (∀ (W W' : World), Below w.heap.size w W → W.mapTurned W' wb → HK wb wb w W' ∧ RHs W' hb mb wb l nx) := fun W W' hb1 ht => by
    have h1 := h.below hb1 (Nat.le_refl _)
    have hwk : hb ≠ wb := fun e => by
      obtain ⟨_, D, ⟨es, clock, q, _⟩, _⟩ := hW.same (hb1.block wb (by obtain ⟨_, D, q, _⟩ := hW; exact q.lt))
      have := h1.1
      rw [e, q] at this
      cases this
    exact ⟨(HK.of hb1).trans (HK.turned ht), ((turned_but ht).block hb h1.lt hwk).trans h1.1, h1.2.same ((turned_but ht).block mb h1.2.lt hne)⟩
  clear hE h hW hne hone
  go_enter Tryz.func46, Tryz.ntmps46
  go_wp2_with fail
  refine cN.mono ?_
  rintro e w1 ⟨hb1, ⟨r, hr, hr2, rfl⟩ | ⟨hr, rfl⟩⟩
  · have h1 := HH.out.1.below hb1 (Nat.le_refl _)
    have c0 := h1.cell.2.1
    have hw1 : RNm w1 wb Wl := HH.out.2.1.same (hb1.block wb (by obtain ⟨_, D, q, _⟩ := HH.out.2.1; exact q.lt))
    have hlen := rnm_len hw1 3
    cases y with
    | false =>
      cases hhas : hasB Wl r.data.toList with
      | false =>
        have hlk := rnm_none hw1 r (by omega) hhas
        have HF : Hid (Below w.heap.size w w1 ∧ nameB s.data.toList = some r.data.toList ∧ hasB Wl r.data.toList = false) := ⟨hb1, hr, hhas⟩
        clear cN hb1 hr h1 hhas hw1
        go_wp2_with fail
        go_ret
        exact Or.inr (Or.inl ⟨_, HF.out.2.1, rfl, HF.out.2.2, rfl, HF.out.1⟩)
      | true =>
        obtain ⟨b, hm⟩ := hasB_true.1 hhas
        have hlk := rnm_look hw1 r (by omega) (b := b) hm
        rw [show b = 1 from HH.out.2.2.2 _ hm] at hlk
        have hlk : (Instr.lookup 86 (.map (some wb)) (.string r) false).run Tryz.prog w1 = .ok (.int .i64 1) w1 := hlk
        obtain ⟨W3, hp, hm3, ht⟩ := rnm_del hw1 r (by omega) 0
        obtain ⟨q1, q2⟩ := HT.out w1 W3 hb1 ht
        have HF : Hid (nameB s.data.toList = some r.data.toList ∧ hasB Wl r.data.toList = true ∧ HK wb wb w W3 ∧ RHs W3 hb mb wb l nx ∧ RNm W3 wb (delB Wl r.data.toList)) := ⟨hr, hhas, q1, q2, hm3⟩
        clear cN hb1 hr h1 hhas hw1 hm q1 q2 hm3 ht
        go_wp2_with fail
        go_ret
        exact Or.inr (Or.inr (Or.inl ⟨_, HF.out.1, rfl, HF.out.2.1, rfl, HF.out.2.2⟩))
    | true =>
      cases hhas : hasB Wl r.data.toList with
      | true =>
        obtain ⟨b, hm⟩ := hasB_true.1 hhas
        have hlk := rnm_look hw1 r (by omega) (b := b) hm
        rw [show b = 1 from HH.out.2.2.2 _ hm] at hlk
        have hlk : (Instr.lookup 86 (.map (some wb)) (.string r) false).run Tryz.prog w1 = .ok (.int .i64 1) w1 := hlk
        obtain ⟨W3, hp, hm3, ht⟩ := rnm_put hw1 r (by omega) (by omega) 1 (by decide)
        have hp : (Instr.mapUpdate 86 (.map (some wb)) (.string r) (.int .i64 1)).run Tryz.prog w1 = .ok () W3 := hp
        obtain ⟨q1, q2⟩ := HT.out w1 W3 hb1 ht
        have HF : Hid (nameB s.data.toList = some r.data.toList ∧ hasB Wl r.data.toList = true ∧ HK wb wb w W3 ∧ RHs W3 hb mb wb l nx ∧ RNm W3 wb (putB r.data.toList 1 Wl)) := ⟨hr, hhas, q1, q2, hm3⟩
        clear cN hb1 hr h1 hhas hw1 hm q1 q2 hm3 ht
        go_wp2_with fail
        go_ret
        exact Or.inr (Or.inr (Or.inr (Or.inr ⟨_, HF.out.1, rfl, Or.inl HF.out.2.1, rfl, HF.out.2.2⟩)))
      | false =>
        have hlk := rnm_none hw1 r (by omega) hhas
        by_cases hful : 60 ≤ Wl.length
        · have d1 : decide ((60 : Int) ≤ (Wl.length : Int)) = true := decide_eq_true (by omega)
          have HF : Hid (Below w.heap.size w w1 ∧ nameB s.data.toList = some r.data.toList ∧ hasB Wl r.data.toList = false) := ⟨hb1, hr, hhas⟩
          clear cN hb1 hr h1 hhas hw1
          go_wp2_with fail
          go_ret
          exact Or.inr (Or.inr (Or.inr (Or.inl ⟨_, HF.out.2.1, rfl, HF.out.2.2, hful, rfl, HF.out.1⟩)))
        · have d1 : decide ((60 : Int) ≤ (Wl.length : Int)) = false := decide_eq_false (by omega)
          obtain ⟨W3, hp, hm3, ht⟩ := rnm_put hw1 r (by omega) (by omega) 1 (by decide)
          have hp : (Instr.mapUpdate 86 (.map (some wb)) (.string r) (.int .i64 1)).run Tryz.prog w1 = .ok () W3 := hp
          obtain ⟨q1, q2⟩ := HT.out w1 W3 hb1 ht
          have HF : Hid (nameB s.data.toList = some r.data.toList ∧ Wl.length < 60 ∧ HK wb wb w W3 ∧ RHs W3 hb mb wb l nx ∧ RNm W3 wb (putB r.data.toList 1 Wl)) := ⟨hr, by omega, q1, q2, hm3⟩
          clear cN hb1 hr h1 hhas hw1 q1 q2 hm3 ht hful
          go_wp2_with fail
          go_ret
          exact Or.inr (Or.inr (Or.inr (Or.inr ⟨_, HF.out.1, rfl, Or.inr HF.out.2.1, rfl, HF.out.2.2⟩)))
  · have HF : Hid (Below w.heap.size w w1 ∧ nameB s.data.toList = none) := ⟨hb1, hr⟩
    clear cN hb1 hr
    go_wp2_with fail
    go_ret
    exact Or.inl ⟨HF.out.2, rfl, HF.out.1⟩
end Go.Proofs.YtfdlopimncodcaaGreatDoor
