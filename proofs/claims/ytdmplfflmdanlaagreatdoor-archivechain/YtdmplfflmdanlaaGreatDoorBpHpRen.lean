/-
  Rename: just what it answers, and leaves, and more.
-/
import Derived.Test.YtdmplfflmdanlaaGreatDoorMHpPour
namespace Go.Proofs.YtdmplfflmdanlaaGreatDoor
open Go.RowKit Go.Proofs.Aid Go.Proofs.Bx

/-- What Rename leaves, where it is not refused. -/
def RenP (H hb mb K : Nat) (l : Bxs) (nx : Int) (W : List Nm) (C : Nat → Bxd) (wv : Value) (s u : Nm) (w w' : World) : Prop :=
  (∃ T, nameB s = some inboxN ∧ nameB u = some T ∧ hasB l T = false ∧ ∃ ps fb tb, Made w.heap.size (lackB l T ++ [T]) ps ∧ (inboxN, fb) ∈ l ∧ (T, tb) ∈ putAll l ps ∧
    PH H (K + 1) hb mb (putAll l ps) (nx + ((lackB l T ++ [T]).length : Int)) W (setC (setC (withNew w.heap.size nx ps C) tb ⟨(withNew w.heap.size nx ps C tb).v, (C fb).n, (C fb).ls⟩) fb ⟨(C fb).v, (C fb).n, []⟩) wv w') ∨
  (∃ N T, nameB s = some N ∧ N ≠ inboxN ∧ hasB l N = true ∧ nameB u = some T ∧ hasB l T = false ∧ inB T N = false ∧ ∃ ps, Made w.heap.size (lackB l T) ps ∧
    PH H (K + 1) hb mb (mvAll T N (mvNames l N) (putAll l ps)) (nx + ((lackB l T).length : Int)) W (withNew w.heap.size nx ps C) wv w')
def RenO (H hb mb K : Nat) (l : Bxs) (nx : Int) (W : List Nm) (C : Nat → Bxd) (wv : Value) (s u : Nm) (w : World) (e : Ending) (w' : World) : Prop :=
  ErrP H K hb mb l nx W C wv w (cRename l s u) e w' ∨
  (cRename l s u = 0 ∧ e = .returned .nilIface ∧ Tn (PS hb mb wv l) w w' ∧ Below H w w' ∧ RenP H hb mb K l nx W C wv s u w w')
theorem made_less {B B' : Nat} {ns : List Nm} {ps : Bxs} (h : Made B' ns ps) (hb : B ≤ B') : Made B ns ps := ⟨h.1, fun j p hj => Nat.le_trans hb (h.2.1 j p hj), h.2.2⟩
/-- What lies in boxes, counted from a lower block. -/
theorem withNew_less {B B' : Nat} {ns : List Nm} {l ps : Bxs} {nx : Int} {C : Nat → Bxd} (hs : SortedB l) (h : Made B' ns ps) (hb : B ≤ B') (ho : ∀ p ∈ l, p.2 < B) : ∀ p ∈ putAll l ps, withNew B nx ps C p.2 = withNew B' nx ps C p.2 := fun p hp => by
  rcases mem_putAll ps l hs hp with h1 | h1
  · rw [withNew_old (ho p h1), withNew_old (Nat.lt_of_lt_of_le (ho p h1) hb)]
  · obtain ⟨j, hj⟩ := List.getElem?_of_mem h1
    rw [made_new (made_less h hb) hj, made_new h hj]
/-- What lies in boxes may be said otherwise, where it is the same. -/
theorem Hst.cong {H hb mb : Nat} {l : Bxs} {nx : Int} {W : List Nm} {C C' : Nat → Bxd} {wv : Value} {w : World} (h : Hst H hb mb l nx W C wv w) (hc : ∀ p ∈ l, C' p.2 = C p.2) : Hst H hb mb l nx W C' wv w :=
  ⟨⟨h.hse.hs, h.hse.ws, fun p hp => by rw [hc p hp]; exact h.hse.bx p hp⟩, h.row, h.own, h.h0, h.h1, h.h2⟩
theorem HI.cong {H K : Nat} {l : Bxs} {nx : Int} {W : List Nm} {C C' : Nat → Bxd} (h : HI H K l nx W C) (hc : ∀ p ∈ l, C' p.2 = C p.2) : HI H K l nx W C' :=
  ⟨h.sorted, h.len, h.wh, h.nms, h.inbox, h.wlen, h.wsorted, h.wnm, h.nxt, h.low, h.blk, fun p hp q hq e => h.num p hp q hq (by rw [← hc p hp, ← hc q hq]; exact e), fun p hp => by rw [hc p hp]; exact h.bx p hp⟩
theorem PH.cong {H K hb mb : Nat} {l : Bxs} {nx : Int} {W : List Nm} {C C' : Nat → Bxd} {wv : Value} {w : World} (h : PH H K hb mb l nx W C wv w) (hc : ∀ p ∈ l, C' p.2 = C p.2) : PH H K hb mb l nx W C' wv w := ⟨h.st.cong hc, h.hi.cong hc⟩
theorem ErrP.before {H K hb mb : Nat} {l : Bxs} {nx : Int} {W : List Nm} {C : Nat → Bxd} {wv : Value} {w w1 w' : World} {c : Int} {e : Ending} (h : ErrP H K hb mb l nx W C wv w1 c e w') (hb' : Below w.heap.size w w1) : ErrP H K hb mb l nx W C wv w c e w' := ⟨h.1, h.2.1, hb'.trans (h.2.2.1.mono hb'.size), h.2.2.2⟩
set_option maxHeartbeats 8000000 in
set_option maxRecDepth 100000 in
theorem rename_p (H hb mb K : Nat) (l : Bxs) (nx : Int) (W : List Nm) (C : Nat → Bxd) (a : Option Addr) (wn wc : Nat) (s u : ByteArray) (w : World) (hE : NEnv w) (h : PH H K hb mb l nx W C (.slice a wn wc) w) (hK : K ≤ 400) (hs : s.size ≤ 1000) (hu : u.size ≤ 1000) :
    Calls Tryz.prog 75 #[.pointer (some ⟨hb, 0, none⟩), .string s, .string u] w fun e w' => RenO H hb mb K l nx W C (.slice a wn wc) s.data.toList u.data.toList w e w' := by
  have cT := there_is nameB hb mb l nx (.slice a wn wc) s w (nameC hE) h.st.hse.hs hs
  have HH : Hid (PH H K hb mb l nx W C (.slice a wn wc) w ∧ NEnv w) := ⟨h, hE⟩
  clear hE h
  go_enter Tryz.func75, Tryz.ntmps75
  go_wp2_with fail
  refine cT.mono ?_
  rintro e w1 ⟨hb1, ⟨r, hr, hr2, hr3, rfl⟩ | ⟨r, hr, hr3, rfl⟩ | ⟨hr, rfl⟩⟩
  · have h1 := HH.out.1.below hb1
    have hz1 := hb1.size
    have cF := free_is nameB hb mb l nx (.slice a wn wc) u w1 (nameC (HH.out.2.below hb1)) h1.st.hse.hs hu
    have HR : Hid (nameB s.data.toList = some r.data.toList ∧ hasB l r.data.toList = true ∧ r.size ≤ 60 ∧ PH H K hb mb l nx W C (.slice a wn wc) w1 ∧ Below w.heap.size w w1 ∧ NEnv w1) := ⟨hr, hr3, hr2, h1, hb1, HH.out.2.below hb1⟩
    clear cT hr hr3 h1 hb1
    go_wp2_with fail
    refine cF.mono ?_
    rintro e w2 ⟨hb2, ⟨q, hq, hq2, hq3, rfl⟩ | ⟨q, hq, hq3, rfl⟩ | ⟨hq, rfl⟩⟩
    · have h2 := HR.out.2.2.2.1.below hb2
      have hB2 : Below w.heap.size w w2 := HR.out.2.2.2.2.1.trans (hb2.mono hz1)
      have hE2 := HR.out.2.2.2.2.2.below hb2
      have hz2 := hB2.size
      by_cases hin : r.data.toList = inboxN
      · have hT : r.toList = [73, 78, 66, 79, 88] := by rw [Lib.toList_data]; exact hin
        have cP := pour_p H hb mb K l nx W C a wn wc q w2 nameB (nameC hE2) h2.st h2.hi hK hq2 (nameB_idem hq) hq3 (by rw [← hin]; exact HR.out.2.1) (nameB_idem hq)
        have HX : Hid (PH H K hb mb l nx W C (.slice a wn wc) w2 ∧ Below w.heap.size w w2 ∧ nameB u.data.toList = some q.data.toList ∧ hasB l q.data.toList = false ∧ r.data.toList = inboxN) := ⟨h2, hB2, hq, hq3, hin⟩
        clear cF hq hq3 h2 hB2 hE2 hin hb2
        go_wp2_with fail
        refine cP.mono ?_
        rintro e w3 hO
        have HF : Hid (RenO H hb mb K l nx W C (.slice a wn wc) s.data.toList u.data.toList w e w3) := by
          have hcr : cRename l s.data.toList u.data.toList = if 30 < l.length + (lackB l q.data.toList ++ [q.data.toList]).length then 12 else 0 := by
            unfold cRename
            simp only [HR.out.1, HX.out.2.2.1]
            rw [if_pos HR.out.2.1, if_neg (by rw [HX.out.2.2.2.1]; simp), if_pos HX.out.2.2.2.2]
          unfold RenO
          rw [hcr]
          rcases hO with ⟨c1, rfl, c3⟩ | ⟨c1, rfl, c3, c4, ps, fb, tb, c5, c6, c7, c8, c9⟩
          · rw [if_pos c1]
            exact Or.inl ((ErrP.of HX.out.1 (by decide) c3).before HX.out.2.1)
          · rw [if_neg (by omega)]
            refine Or.inr ⟨rfl, rfl, (Tn.of HX.out.2.1).trans c3, (HX.out.2.1.mono HH.out.1.st.h0).trans c4, Or.inl ⟨_, by rw [HR.out.1, HX.out.2.2.2.2], HX.out.2.2.1, HX.out.2.2.2.1, ps, fb, tb, made_less c5 hz2, c6, c7, ?_⟩⟩
            refine PH.cong ⟨c8, c9⟩ fun p hp => ?_
            have hwl := withNew_less (nx := nx) (C := C) HH.out.1.hi.sorted c5 hz2 HH.out.1.st.old
            have ht : withNew w.heap.size nx ps C tb = withNew w2.heap.size nx ps C tb := hwl _ c7
            rw [ht]
            by_cases g1 : p.2 = fb
            · rw [g1, setC_same, setC_same]
            · rw [setC_other g1, setC_other g1]
              by_cases g2 : p.2 = tb
              · rw [g2, setC_same, setC_same]
              · rw [setC_other g2, setC_other g2]
                exact hwl p hp
        obtain ⟨v, rfl⟩ : ∃ v, e = .returned v := by
          rcases hO with ⟨_, rfl, _⟩ | ⟨_, rfl, _⟩
          · exact ⟨_, rfl⟩
          · exact ⟨_, rfl⟩
        clear cP hO
        go_wp2_with fail
        go_ret
        exact HF.out
      · have hT : ¬ r.toList = [73, 78, 66, 79, 88] := by rw [Lib.toList_data]; exact hin
        have hT2 : (r.toList == [73, 78, 66, 79, 88]) = false := beq_eq_false_iff_ne.2 hT
        have hsh := HH.out.1.hi.short
        have hln := HH.out.1.hi.len
        have hnx := HH.out.1.hi.nxt
        have cM := move_is hb mb l nx (.slice a wn wc) r q w2 h2.st.hse.hs (by omega) hq2 (by omega) (fun p hp => by have := hsh p hp; omega) HR.out.2.1 (by omega)
        have HX : Hid (PH H K hb mb l nx W C (.slice a wn wc) w2 ∧ Below w.heap.size w w2 ∧ nameB u.data.toList = some q.data.toList ∧ hasB l q.data.toList = false ∧ r.data.toList ≠ inboxN) := ⟨h2, hB2, hq, hq3, hin⟩
        clear cF hq hq3 h2 hB2 hE2 hin hb2 hsh hln hnx
        go_wp2_with fail
        refine cM.mono ?_
        rintro e w3 hc
        have HC : Hid (RenO H hb mb K l nx W C (.slice a wn wc) s.data.toList u.data.toList w e w3) := by
          have hcr : cRename l s.data.toList u.data.toList = if inB q.data.toList r.data.toList = true then 6 else if longB l r.data.toList q.data.toList = true then 4 else if 30 < l.length + (lackB l q.data.toList).length then 12 else 0 := by
            unfold cRename
            simp only [HR.out.1, HX.out.2.2.1]
            rw [if_pos HR.out.2.1, if_neg (by rw [HX.out.2.2.2.1]; simp), if_neg HX.out.2.2.2.2]
          unfold RenO
          rw [hcr]
          rcases hc with ⟨c1, rfl, c3⟩ | ⟨c1, c2, rfl, c4⟩ | ⟨c1, c2, c3, rfl, c5⟩ | ⟨c1, c2, c3, rfl, c5, ps, c6, c7⟩
          · rw [if_pos c1]
            exact Or.inl ((ErrP.of HX.out.1 (by decide) c3).before HX.out.2.1)
          · have c2 : longB l r.data.toList q.data.toList = true := c2
            rw [if_neg (by rw [c1]; simp), if_pos c2]
            exact Or.inl ((ErrP.of HX.out.1 (by decide) c4).before HX.out.2.1)
          · have c2 : longB l r.data.toList q.data.toList = false := c2
            rw [if_neg (by rw [c1]; simp), if_neg (by rw [c2]; simp), if_pos c3]
            exact Or.inl ((ErrP.of HX.out.1 (by decide) c5).before HX.out.2.1)
          · have c2' : longB l r.data.toList q.data.toList = false := c2
            rw [if_neg (by rw [c1]; simp), if_neg (by rw [c2']; simp), if_neg (by omega)]
            have hs2 := HX.out.1.st
            have hbx := hs2.built c5 c6
            refine Or.inr ⟨rfl, rfl, (Tn.of HX.out.2.1).trans (Tn.hk c5 (Or.inl rfl) (Or.inr (Or.inl rfl))), (HX.out.2.1.mono HH.out.1.st.h0).trans (c5.below hs2.h0 hs2.h1 hs2.h2), Or.inr ⟨_, _, HR.out.1, HX.out.2.2.2.2, HR.out.2.1, HX.out.2.2.1, HX.out.2.2.2.1, c1, ps, made_less c6.made hz2, ?_⟩⟩
            have hph : PH H (K + 1) hb mb (mvAll q.data.toList r.data.toList (mvNames l r.data.toList) (putAll l ps)) (nx + ((lackB l q.data.toList).length : Int)) W (withNew w2.heap.size nx ps C) (.slice a wn wc) w3 := by
              refine ⟨hs2.turn c5 c7 (C' := withNew w2.heap.size nx ps C) fun p hp => ?_, HH.out.1.hi.move c6 hs2.old hs2.h0 c3 (nameB_idem HX.out.2.2.1) HR.out.2.1 HX.out.2.2.2.1 c1 c2 HX.out.2.2.2.2⟩
              obtain ⟨p', hp', e1, _⟩ := mem_mvAll _ _ (putAll_sorted ps l HH.out.1.hi.sorted) hp
              rw [e1]
              exact hbx p' hp'
            refine hph.cong fun p hp => ?_
            obtain ⟨p', hp', e1, _⟩ := mem_mvAll _ _ (putAll_sorted ps l HH.out.1.hi.sorted) hp
            rw [e1]
            exact withNew_less (nx := nx) (C := C) HH.out.1.hi.sorted c6.made hz2 HH.out.1.st.old p' hp'
        obtain ⟨v, rfl⟩ : ∃ v, e = .returned v := by
          rcases hc with ⟨_, rfl, _⟩ | ⟨_, _, rfl, _⟩ | ⟨_, _, _, rfl, _⟩ | ⟨_, _, _, rfl, _⟩
          · exact ⟨_, rfl⟩
          · exact ⟨_, rfl⟩
          · exact ⟨_, rfl⟩
          · exact ⟨_, rfl⟩
        clear hc cM
        go_wp2_with fail
        go_ret
        exact HC.out
    · have HF : Hid (RenO H hb mb K l nx W C (.slice a wn wc) s.data.toList u.data.toList w (.returned (errN 9)) w2) := by
        have hcr : cRename l s.data.toList u.data.toList = 9 := by
          unfold cRename
          simp only [HR.out.1, hq]
          rw [if_pos HR.out.2.1, if_pos hq3]
        unfold RenO
        rw [hcr]
        exact Or.inl ((ErrP.of HR.out.2.2.2.1 (by decide) hb2).before HR.out.2.2.2.2.1)
      clear cF hq hq3 hb2
      go_wp2_with fail
      go_ret
      exact HF.out
    · have HF : Hid (RenO H hb mb K l nx W C (.slice a wn wc) s.data.toList u.data.toList w (.returned (errN 1)) w2) := by
        have hcr : cRename l s.data.toList u.data.toList = 1 := by
          unfold cRename
          simp only [HR.out.1, hq]
          rw [if_pos HR.out.2.1]
        unfold RenO
        rw [hcr]
        exact Or.inl ((ErrP.of HR.out.2.2.2.1 (by decide) hb2).before HR.out.2.2.2.2.1)
      clear cF hq hb2
      go_wp2_with fail
      go_ret
      exact HF.out
  · have HF : Hid (RenO H hb mb K l nx W C (.slice a wn wc) s.data.toList u.data.toList w (.returned (errN 7)) w1) := by
      have hcr : cRename l s.data.toList u.data.toList = 7 := by
        unfold cRename
        simp only [hr]
        rw [if_neg (by rw [hr3]; simp)]
      unfold RenO
      rw [hcr]
      exact Or.inl (ErrP.of HH.out.1 (by decide) hb1)
    clear cT hr hr3 hb1
    go_wp2_with fail
    go_ret
    exact HF.out
  · have HF : Hid (RenO H hb mb K l nx W C (.slice a wn wc) s.data.toList u.data.toList w (.returned (errN 1)) w1) := by
      have hcr : cRename l s.data.toList u.data.toList = 1 := by
        unfold cRename
        simp only [hr]
      unfold RenO
      rw [hcr]
      exact Or.inl (ErrP.of HH.out.1 (by decide) hb1)
    clear cT hr hb1
    go_wp2_with fail
    go_ret
    exact HF.out
end Go.Proofs.YtdmplfflmdanlaaGreatDoor
namespace Go.Proofs.YtdmplfflmdanlaaGreatDoor
open Go.RowKit Go.Proofs.Aid Go.Proofs.Bx

theorem del_is (v : Value) (W : List Nm) (k : Nat) (w : World) (h : WRow w v W) (hk : k < W.length) (hl : W.length ≤ 1000) :
    Calls Tryz.prog 131 #[v, .int .i64 (k : Int), .int .i64 ((k : Int) + 1)] w fun e w' => (∃ v', e = .returned v' ∧ WRow w' v' (W.take k ++ W.drop (k + 1)) ∧ v'.ownBlock = v.ownBlock) ∧ Only v.ownBlock w w' := by
  rcases h with ⟨rfl, rfl⟩ | ⟨g, cap, rfl, ht, hc, hle, hmax⟩
  · simp at hk
  have hm63 : cap ≤ 9223372036854775807 := by unfold maxLen at hmax; omega
  have hH : «Sort».Holds encStr w g 0 W.toArray := fun j hj => by
    have hj : j < W.length := by simpa using hj
    rw [Nat.zero_add]
    refine ⟨?_, ht.free j⟩
    rw [hc j _ (List.getElem?_eq_getElem hj)]
    congr 1
    simp [hj]
  have := Tryz.slices_Delete_string g 0 cap k (k + 1) W w hH hle hm63 (Nat.le_succ k) hk
  refine this.mono ?_
  rintro e w' ⟨rfl, q, rfl⟩
  have hlen : (W.take k ++ W.drop (k + 1) ++ List.replicate (k + 1 - k) []).length = W.length := by simp; omega
  have hnew : (W.take k ++ W.drop (k + 1)).length = W.length - (k + 1 - k) := by simp; omega
  rw [Lib.putRow_eq_setCells encStr w g 0 W.toArray _ q hH (by rw [hlen]; simp)]
  have ht1 : TBlk (w.drewN q) g cap := ht.same rfl
  refine ⟨⟨_, rfl, Or.inr ⟨g, cap, by rw [hnew], TBlk.set _ _ _ ht1 encs_txt, fun j x hj => ?_, by rw [hnew]; omega, hmax⟩, rfl⟩, (Only.of (below_drewN (Below.refl _ _) q)).trans (only_set g _ _ _)⟩
  have h2 : (W.take k ++ W.drop (k + 1) ++ List.replicate (k + 1 - k) [])[j]? = some x := by
    rw [List.getElem?_append_left (List.getElem?_eq_some_iff.1 hj).1]
    exact hj
  have := in_txt ht1 (W.take k ++ W.drop (k + 1) ++ List.replicate (k + 1 - k) []) (o := 0) (by rw [hlen]; omega) h2
  rw [Nat.zero_add] at this
  exact this
/-- A text is put in where it belongs. -/
theorem put_sorted {W : List Nm} {x : Nm} {k : Nat} (hs : W.Pairwise (· < ·)) (_hk : k ≤ W.length) (h1 : ∀ t (h : t < W.length), t < k → W[t] < x) (h2 : ∀ t (h : t < W.length), k ≤ t → ¬ W[t] < x) (hn : x ∉ W) : (W.take k ++ x :: W.drop k).Pairwise (· < ·) := by
  have ha : ∀ a ∈ W.take k, a < x := fun a ha => by
    obtain ⟨t, ht⟩ := List.getElem?_of_mem ha
    rw [List.getElem?_take] at ht
    split at ht
    · rename_i hlt
      obtain ⟨h3, rfl⟩ := List.getElem?_eq_some_iff.1 ht
      exact h1 t h3 hlt
    · cases ht
  have hb : ∀ b ∈ W.drop k, x < b := fun b hb => by
    obtain ⟨t, ht⟩ := List.getElem?_of_mem hb
    rw [List.getElem?_drop] at ht
    obtain ⟨h3, e⟩ := List.getElem?_eq_some_iff.1 ht
    have h4 := h2 (k + t) h3 (by omega)
    rw [e] at h4
    exact nm_lt_of h4 fun e2 => hn (by rw [← e2]; exact List.mem_of_mem_drop hb)
  rw [List.pairwise_append]
  refine ⟨hs.sublist (List.take_sublist k W), List.pairwise_cons.2 ⟨hb, hs.sublist (List.drop_sublist k W)⟩, fun a ha' b hb' => ?_⟩
  rcases List.mem_cons.1 hb' with rfl | hb'
  · exact ha a ha'
  · exact List.lt_trans (ha a ha') (hb b hb')
/-- The names that are wanted are others, and lie elsewhere. -/
theorem Hst.wants {H hb mb : Nat} {l : Bxs} {nx : Int} {W W' : List Nm} {C : Nat → Bxd} {wv wv' : Value} {w w3 : World} (h : Hst H hb mb l nx W C wv w) (hpl : ∀ p ∈ l, ∀ y ∈ (C p.2).ls, y.flags = []) (ho : Only wv.ownBlock w w3) (hr : WRow w3 wv' W') (hown : ∀ g, wv'.ownBlock = some g → H ≤ g) :
    HsAt w3 hb mb l nx wv ∧ Hst H hb mb l nx W' C wv' (w3.setCell ⟨hb, 1, none⟩ wv') ∧ Below H w (w3.setCell ⟨hb, 1, none⟩ wv') := by
  obtain ⟨a, c, hform⟩ := h.form
  have hlow : ∀ g, wv.ownBlock = some g → ∃ cap, TBlk w g cap := fun g hg => h.row.tblk hg
  have hnb : ∀ (b : Nat) (cs : Array Value) (ty : TypeId), w.heap[b]? = some (.cells cs ty (0, 0)) → ty ≠ 9 → w3.heap[b]? = w.heap[b]? := fun b cs ty hh hty => by
    refine ho.block b (Array.getElem?_eq_some_iff.1 hh).1 fun e => ?_
    obtain ⟨cap, cur, h1, _⟩ := hlow b e
    rw [h1] at hh
    injection hh with hh
    injection hh with _ hh _
    exact hty hh.symm
  have hmbk : w3.heap[mb]? = w.heap[mb]? := ho.block mb h.hse.hs.2.lt fun e => by
    obtain ⟨cap, cur, h1, _⟩ := hlow mb e
    obtain ⟨_, D, ⟨es, clock, h2, _⟩, _⟩ := h.hse.hs.2
    rw [h1] at h2
    cases h2
  have hS3 : HsAt w3 hb mb l nx wv := ⟨(hnb hb _ _ h.hse.hs.1 (by decide)).trans h.hse.hs.1, h.hse.hs.2.same hmbk⟩
  have hS4 : HsAt (w3.setCell ⟨hb, 1, none⟩ wv') hb mb l nx wv' := house_set hS3 wv'
  have hk4 : ∀ k, k ≠ hb → (w3.setCell ⟨hb, 1, none⟩ wv').heap[k]? = w3.heap[k]? := fun k hk => Below.heap_setCell _ _ _ _ hk
  have hr4 : WRow (w3.setCell ⟨hb, 1, none⟩ wv') wv' W' := hr.same fun g hg => hk4 g fun e => by
    obtain ⟨cap, cur, h1, _⟩ := hr.tblk hg
    rw [e, hS3.1] at h1
    injection h1 with h1
    injection h1 with _ h1 _
    exact absurd h1 (by decide)
  refine ⟨hS3, ⟨⟨hS4, hr4.sl, fun p hp => ?_⟩, hr4, hown, Nat.le_trans h.h0 (by simpa using ho.size), h.h1, h.h2⟩, ⟨ho.os, ho.tape, ho.output, by simpa using Nat.le_trans (Nat.le_refl _) ho.size, fun k hk => ?_⟩⟩
  · obtain ⟨lv, e1, e2⟩ := h.hse.bx p hp
    have hne := (ne_of_kind h.hse.hs e1 (by decide)).1
    have e3 := (hk4 p.2 hne).trans ((hnb p.2 _ _ e1 (by decide)).trans e1)
    refine ⟨lv, e3, ?_⟩
    obtain ⟨la, lc, rfl, h0, h1⟩ := e2
    refine ⟨la, lc, rfl, h0, ?_⟩
    rcases h1 with h1 | ⟨b, o, h1, h2⟩
    · exact Or.inl h1
    · by_cases hl : (C p.2).ls = []
      · exact Or.inl hl
      · refine Or.inr ⟨b, o, h1, fun j x hj => ?_⟩
        obtain ⟨q1, ⟨fv, q2, q3⟩, q4, q5⟩ := h2 j x hj
        have hbk : (w3.setCell ⟨hb, 1, none⟩ wv').heap[b]? = w.heap[b]? := by
          have hbh : b ≠ hb := fun e => by
            rw [hform] at h
            exact noStr_house h.hse.hs _ _ (by rw [← e]; exact q5)
          refine (hk4 b hbh).trans (ho.block b (World.block_lt_of_cell? _ _ q1) fun e => ?_)
          obtain ⟨cap, ht⟩ := hlow b e
          obtain ⟨s, hs⟩ := ht.one q1
          cases hs
        have hcell : ∀ i, (w3.setCell ⟨hb, 1, none⟩ wv').cell? ⟨b, i, none⟩ = w.cell? ⟨b, i, none⟩ := fun i => World.cell?_of_block (a := ⟨b, i, none⟩) hbk
        have hf := hpl p hp x (List.mem_of_getElem? hj)
        refine ⟨(hcell _).trans q1, ⟨fv, (hcell _).trans q2, ?_⟩, (hcell _).trans q4, (hcell _).trans q5⟩
        rw [hf] at q3 ⊢
        obtain ⟨fa, fc, r1, r2, _⟩ := q3
        exact ⟨fa, fc, r1, r2, Or.inl rfl⟩
  · have hkw : k < w.heap.size := Nat.lt_of_lt_of_le hk h.h0
    refine (hk4 k (by have := h.h1; omega)).trans (ho.block k hkw fun e => ?_)
    have := h.own k e
    omega
end Go.Proofs.YtdmplfflmdanlaaGreatDoor
namespace Go.Proofs.YtdmplfflmdanlaaGreatDoor
open Go.RowKit Go.Proofs.Aid

/-- What Want leaves: who wants, by membership. -/
def WantO (H hb mb K : Nat) (l : Bxs) (nx : Int) (W : List Nm) (C : Nat → Bxd) (wv : Value) (s : Nm) (y : Bool) (w : World) (e : Ending) (w' : World) : Prop :=
  ErrP H K hb mb l nx W C wv w (cWant W s y) e w' ∨
  (cWant W s y = 0 ∧ e = .returned .nilIface ∧ Tn (PS hb mb wv l) w w' ∧ Below H w w' ∧ ∃ r W' wv', nameB s = some r ∧ (∀ x, x ∈ W' ↔ if y = true then x = r ∨ x ∈ W else x ≠ r ∧ x ∈ W) ∧ PH H (K + 1) hb mb l nx W' C wv' w' ∧ ∀ g, wv'.ownBlock = some g → wv.ownBlock = some g ∨ w.heap.size ≤ g)
theorem Tn.only {S : Nat → Prop} {g : Option Nat} {w w' : World} (h : Only g w w') (hs : ∀ b, g = some b → S b) : Tn S w w' := ⟨h.os, h.tape, h.output, h.size, fun k hk hn => h.block k hk (fun e => hn (hs k e))⟩
theorem put_mem {W : List Nm} {r : Nm} (k : Nat) (x : Nm) : x ∈ W.take k ++ r :: W.drop k ↔ x = r ∨ x ∈ W := by
  rw [List.mem_append, List.mem_cons]
  constructor
  · rintro (h | h | h)
    · exact Or.inr (List.mem_of_mem_take h)
    · exact Or.inl h
    · exact Or.inr (List.mem_of_mem_drop h)
  · rintro (h | h)
    · exact Or.inr (Or.inl h)
    · rw [← List.take_append_drop k W] at h
      rcases List.mem_append.1 h with h | h
      · exact Or.inl h
      · exact Or.inr (Or.inr h)
theorem cut_mem {W : List Nm} {r : Nm} {k : Nat} (hs : W.Pairwise (· < ·)) (hk : ∃ h : k < W.length, W[k] = r) (x : Nm) : x ∈ W.take k ++ W.drop (k + 1) ↔ x ≠ r ∧ x ∈ W := by
  obtain ⟨hk, rfl⟩ := hk
  have e : W = W.take k ++ W[k] :: W.drop (k + 1) := by
    rw [← List.drop_eq_getElem_cons hk, List.take_append_drop]
  have h1 := hs
  rw [e, List.pairwise_append] at h1
  obtain ⟨_, h2, h3⟩ := h1
  have h4 := (List.pairwise_cons.1 h2).1
  constructor
  · intro h
    rcases List.mem_append.1 h with h | h
    · refine ⟨fun e2 => ?_, List.mem_of_mem_take h⟩
      exact List.lt_irrefl _ (e2 ▸ h3 x h _ List.mem_cons_self)
    · refine ⟨fun e2 => ?_, List.mem_of_mem_drop h⟩
      exact List.lt_irrefl _ (e2 ▸ h4 x h)
  · rintro ⟨hne, h⟩
    rw [e] at h
    rcases List.mem_append.1 h with h | h
    · exact List.mem_append_left _ h
    · rcases List.mem_cons.1 h with h | h
      · exact absurd h hne
      · exact List.mem_append_right _ h
set_option maxHeartbeats 4000000 in
set_option maxRecDepth 100000 in
theorem want_p (H hb mb K : Nat) (l : Bxs) (nx : Int) (W : List Nm) (C : Nat → Bxd) (wv : Value) (s : ByteArray) (y : Bool) (w : World) (hE : NEnv w) (h : PH H K hb mb l nx W C wv w) (hs : s.size ≤ 1000) :
    Calls Tryz.prog 76 #[.pointer (some ⟨hb, 0, none⟩), .string s, .bool y] w fun e w' => WantO H hb mb K l nx W C wv s.data.toList y w e w' := by
  have cN := nameC hE s w (Below.refl _ _ |>.mono (Nat.le_refl _)) hs
  have HH : Hid (Hst H hb mb l nx W C wv w ∧ HI H K l nx W C ∧ NEnv w) := ⟨h.st, h.hi, hE⟩
  obtain ⟨a, c, hwv⟩ := h.st.form
  obtain ⟨M, hM⟩ : ∃ m, W.length = m := ⟨_, rfl⟩
  have hM60 : M ≤ 60 := by rw [← hM]; exact h.hi.wlen
  rw [hM] at hwv
  subst hwv
  clear hE h
  go_enter Tryz.func76, Tryz.ntmps76
  go_wp2_with fail
  refine cN.mono ?_
  rintro e w1 ⟨hb1, ⟨r, hr, hr2, rfl⟩ | ⟨hr, rfl⟩⟩
  · have h1 := HH.out.1.below hb1
    have c1 := h1.hse.hs.cell.2.1
    have cB := bs_is (.slice a M c) W r w1 h1.hse.ws HH.out.2.1.wsorted (by have := HH.out.2.1.wlen; omega)
    have HX : Hid (Hst H hb mb l nx W C (.slice a M c) w1 ∧ Below w.heap.size w w1 ∧ nameB r.data.toList = some r.data.toList ∧ W.length = M ∧ nameB s.data.toList = some r.data.toList) := ⟨h1, hb1, nameB_idem hr, hM, hr⟩
    clear cN hr h1 hb1
    go_wp2_with fail
    refine cB.mono ?_
    rintro e w2 ⟨⟨k, rfl, k1, k2, k3⟩, q, rfl⟩
    have hb2 : Below w1.heap.size w1 (w1.drewN q) := below_drewN (Below.refl _ _) q
    obtain ⟨w2, hw2⟩ : ∃ W, w1.drewN q = W := ⟨_, rfl⟩
    rw [hw2] at hb2 ⊢
    have h2 := HX.out.1.below hb2
    have c2 := h2.hse.hs.cell.2.1
    have HY : Hid (Hst H hb mb l nx W C (.slice a M c) w2 ∧ Below w.heap.size w w2 ∧ (∀ t (h : t < W.length), t < k → W[t] < r.data.toList) ∧ (∀ t (h : t < W.length), k ≤ t → ¬ W[t] < r.data.toList) ∧ k ≤ W.length) := ⟨h2, HX.out.2.1.trans (hb2.mono HX.out.2.1.size), k2, k3, k1⟩
    rw [hM] at k1
    by_cases hin : r.data.toList ∈ W
    · rw [decide_eq_true hin]
      cases y with
      | true =>
        have HF : Hid (WantO H hb mb K l nx W C (.slice a M c) s.data.toList true w (.returned .nilIface) w2) := by
          refine Or.inr ⟨?_, rfl, Tn.of HY.out.2.1, HY.out.2.1.mono HH.out.1.h0, _, W, _, HX.out.2.2.2.2, fun x => ?_, ⟨HY.out.1, HH.out.2.1.more (by omega)⟩, fun g hg => Or.inl hg⟩
          · unfold cWant
            simp only [HX.out.2.2.2.2]
            rw [if_pos trivial, if_pos hin]
          · rw [if_pos rfl]
            exact ⟨Or.inr, fun h => h.elim (fun e => by rw [e]; exact hin) id⟩
        clear cB k2 k3 h2 hb2 hw2 c2 c1
        go_wp2_with fail
        go_ret
        exact HF.out
      | false =>
        have hkl : k < W.length := by
          obtain ⟨t, ht⟩ := List.getElem?_of_mem hin
          obtain ⟨h4, h5⟩ := List.getElem?_eq_some_iff.1 ht
          rcases Nat.lt_or_ge t k with h6 | h6
          · have := k2 t h4 h6
            rw [h5] at this
            exact absurd this (List.lt_irrefl _)
          · omega
        have cD := del_is (.slice a M c) W k w2 h2.row hkl (by omega)
        have hsum : wrap64 ((k : Int) + 1) = (k : Int) + 1 := by unfold wrap64; omega
        clear cB k2 k3 h2 hb2 hw2 c1
        go_wp2_with fail
        refine cD.mono ?_
        rintro e w3 ⟨⟨v', rfl, hr3, ho3⟩, hon⟩
        obtain ⟨hS3, hst, hlow⟩ := HY.out.1.wants (fun p hp y hy => ((HH.out.2.1.bx p hp).plain y hy).1) hon hr3 (fun g hg => HY.out.1.own g (by rw [← ho3]; exact hg))
        obtain ⟨a', n', c', rfl⟩ : ∃ a n c, v' = .slice a n c := by obtain ⟨a, c, e, _⟩ := hr3.sl; exact ⟨a, _, c, e⟩
        have cc := hS3.cell.2.1
        have ff := rd_free hS3.1 1
        have HF : Hid (WantO H hb mb K l nx W C (.slice a M c) s.data.toList false w (.returned .nilIface) (w3.setCell ⟨hb, 1, none⟩ (.slice a' n' c'))) := by
          have hsub : (W.take k ++ W.drop (k + 1)).Sublist W := by
            have : (W.take k ++ W.drop (k + 1)).Sublist (W.take k ++ W.drop k) := List.Sublist.append (List.Sublist.refl _) (by rw [show W.drop (k + 1) = (W.drop k).drop 1 by rw [List.drop_drop]]; exact List.drop_sublist 1 _)
            rwa [List.take_append_drop] at this
          have hWk : ∃ h, W[k] = r.data.toList := by
            refine ⟨hkl, ?_⟩
            obtain ⟨t, ht⟩ := List.getElem?_of_mem hin
            obtain ⟨h4, h5⟩ := List.getElem?_eq_some_iff.1 ht
            rcases Nat.lt_trichotomy t k with h6 | h6 | h6
            · have := HY.out.2.2.1 t h4 h6
              rw [h5] at this
              exact absurd this (List.lt_irrefl _)
            · subst h6
              exact h5
            · have h7 := List.pairwise_iff_getElem.1 HH.out.2.1.wsorted k t hkl h4 h6
              rw [h5] at h7
              exact absurd h7 (HY.out.2.2.2.1 k hkl (Nat.le_refl _))
          refine Or.inr ⟨?_, rfl, ((Tn.of HY.out.2.1).trans (Tn.only hon fun b e => Or.inr (Or.inr (Or.inl e)))).trans (Tn.but ((to_but (Below.refl _ _)).setB 1 _) (Or.inl rfl)), (HY.out.2.1.mono HH.out.1.h0).trans hlow, _, _, _, HX.out.2.2.2.2, fun x => ?_, ⟨hst, (HH.out.2.1.wants ?_ ?_ ?_).more (by omega)⟩, fun g hg => Or.inl (by rw [← ho3]; exact hg)⟩
          · unfold cWant
            simp only [HX.out.2.2.2.2]
            rw [if_neg (by decide), if_pos hin]
          · rw [if_neg (by decide)]
            exact cut_mem HH.out.2.1.wsorted hWk x
          · exact Nat.le_trans hsub.length_le HH.out.2.1.wlen
          · exact HH.out.2.1.wsorted.sublist hsub
          · exact fun n hn => HH.out.2.1.wnm n (hsub.subset hn)
        clear cD hr3 ho3 hon hst hlow hS3
        go_wp2_with fail
        go_ret
        exact HF.out
    · rw [decide_eq_false hin]
      cases y with
      | false =>
        have HF : Hid (WantO H hb mb K l nx W C (.slice a M c) s.data.toList false w (.returned (errN 7)) w2) := by
          have hc : cWant W s.data.toList false = 7 := by
            unfold cWant
            simp only [HX.out.2.2.2.2]
            rw [if_neg (by decide), if_neg hin]
          unfold WantO
          rw [hc]
          exact Or.inl ⟨by decide, rfl, HY.out.2.1, HY.out.1, HH.out.2.1.more (by omega)⟩
        clear cB k2 k3 h2 hb2 hw2 c2 c1
        go_wp2_with fail
        go_ret
        exact HF.out
      | true =>
        by_cases hful : 60 ≤ M
        · have d1 : decide ((60 : Int) ≤ (M : Int)) = true := decide_eq_true (by omega)
          have HF : Hid (WantO H hb mb K l nx W C (.slice a M c) s.data.toList true w (.returned (errN 12)) w2) := by
            have hc : cWant W s.data.toList true = 12 := by
              unfold cWant
              simp only [HX.out.2.2.2.2]
              rw [if_pos trivial, if_neg hin, if_pos (by omega)]
            unfold WantO
            rw [hc]
            exact Or.inl ⟨by decide, rfl, HY.out.2.1, HY.out.1, HH.out.2.1.more (by omega)⟩
          clear cB k2 k3 h2 hb2 hw2 c1
          go_wp2_with fail
          go_ret
          exact HF.out
        · have d1 : decide ((60 : Int) ≤ (M : Int)) = false := decide_eq_false (by omega)
          have b3 : Below w2.heap.size w2 (w2.alloc (.cells #[.string r] 9)) := (Below.refl _ _).alloc (Nat.le_refl _) _
          have e3 := heap_alloc_new w2 (.cells #[.string r] 9)
          obtain ⟨W3, hW3⟩ : ∃ W, w2.alloc (.cells #[.string r] 9) = W := ⟨_, rfl⟩
          rw [hW3] at b3 e3
          have h3 := h2.below b3
          have cI := ins_is (.slice a M c) W r w2.heap.size k W3 h3.row (by omega) (by omega) e3 (fun e => by
            obtain ⟨cap, ht⟩ := h2.row.tblk e
            have := ht.lt
            omega)
          have c3 := h3.hse.hs.cell.2.1
          have HZ : Hid (Hst H hb mb l nx W C (.slice a M c) W3 ∧ Below w.heap.size w W3) := ⟨h3, HY.out.2.1.trans (b3.mono HY.out.2.1.size)⟩
          clear cB k2 k3 h2 hb2 hw2 c1 b3 e3 h3
          go_wp2_with fail
          refine cI.mono ?_
          rintro e w4 ⟨⟨v', rfl, hr3, ho3⟩, hon⟩
          obtain ⟨hS3, hst, hlow⟩ := HZ.out.1.wants (fun p hp y hy => ((HH.out.2.1.bx p hp).plain y hy).1) hon hr3 (fun g hg => by
            rcases ho3 g hg with h5 | h5
            · exact HZ.out.1.own g h5
            · exact Nat.le_trans HZ.out.1.h0 h5)
          obtain ⟨a', n', c', rfl⟩ : ∃ a n c, v' = .slice a n c := by obtain ⟨a, c, e, _⟩ := hr3.sl; exact ⟨a, _, c, e⟩
          have cc := hS3.cell.2.1
          have ff := rd_free hS3.1 1
          have HF : Hid (WantO H hb mb K l nx W C (.slice a M c) s.data.toList true w (.returned .nilIface) (w4.setCell ⟨hb, 1, none⟩ (.slice a' n' c'))) := by
            refine Or.inr ⟨?_, rfl, ((Tn.of HZ.out.2).trans (Tn.only hon fun b e => Or.inr (Or.inr (Or.inl e)))).trans (Tn.but ((to_but (Below.refl _ _)).setB 1 _) (Or.inl rfl)), (HZ.out.2.mono HH.out.1.h0).trans hlow, _, _, _, HX.out.2.2.2.2, fun x => ?_, ⟨hst, (HH.out.2.1.wants ?_ ?_ ?_).more (by omega)⟩, fun g hg => (ho3 g hg).imp id fun h => Nat.le_trans HZ.out.2.size h⟩
            · unfold cWant
              simp only [HX.out.2.2.2.2]
              rw [if_pos trivial, if_neg hin, if_neg (by omega)]
            · rw [if_pos rfl]
              exact put_mem k x
            · rw [put_len HY.out.2.2.2.2]
              omega
            · exact put_sorted HH.out.2.1.wsorted HY.out.2.2.2.2 HY.out.2.2.1 HY.out.2.2.2.1 hin
            · intro n hn
              rcases List.mem_append.1 hn with hn | hn
              · exact HH.out.2.1.wnm n (List.mem_of_mem_take hn)
              · rcases List.mem_cons.1 hn with rfl | hn
                · exact HX.out.2.2.1
                · exact HH.out.2.1.wnm n (List.mem_of_mem_drop hn)
          clear cI hr3 ho3 hon hst hlow hS3
          go_wp2_with fail
          go_ret
          exact HF.out
  · have HF : Hid (WantO H hb mb K l nx W C (.slice a M c) s.data.toList y w (.returned (errN 1)) w1) := by
      have hc : cWant W s.data.toList y = 1 := by
        unfold cWant
        simp only [hr]
      unfold WantO
      rw [hc]
      exact Or.inl ⟨by decide, rfl, hb1, HH.out.1.below hb1, HH.out.2.1.more (by omega)⟩
    clear cN hr hb1
    go_wp2_with fail
    go_ret
    exact HF.out
end Go.Proofs.YtdmplfflmdanlaaGreatDoor
