/-
  What the method join of head.reader does.
-/
import Derived.Test.YtligkpcoajnjmaaGreatDoorRAl05
import Derived.Deep.RegionWith
namespace Go.Proofs.YtligkpcoajnjmaaGreatDoorR
open Go.RowKit Go.Proofs.Aid Go.Proofs.Hd

def joinB (S : List ByteArray) : ByteArray := ⟨(Lib.join (S.map (·.data.toList)) [32]).toArray⟩
theorem row_slice {w : World} {base e size n : Nat} {v : Value} {xs : List Value} (h : w.ownsRow base e size v n xs) : ∃ a cap, v = .slice a n cap := by
  rcases h.2 with ⟨h1, h2⟩ | ⟨g, cap, cur, hv, _⟩
  · exact ⟨none, 0, by rw [h1, h2]⟩
  · exact ⟨_, cap, hv⟩
theorem join_call (S : List ByteArray) (vs : Value) (base : Nat) (w : World) (h : w.ownsRow base 9 1 vs S.length (S.map Value.string)) (hS : S.length ≤ 100000) (hl : (Lib.join (S.map (·.data.toList)) [32]).length ≤ 140737488355328) :
    Calls Tryz.prog 274 #[vs, .string ⟨#[32]⟩] w fun e w' => e = .returned (.string (joinB S)) ∧ Below w.heap.size w w' := by
  by_cases h0 : S = []
  · subst h0
    obtain ⟨a, cap, rfl⟩ := row_slice h
    refine (Tryz.strings_Join_none a cap ⟨#[32]⟩ w).mono ?_
    rintro e w' ⟨rfl, rfl⟩
    exact ⟨rfl, Below.refl _ _⟩
  · have hn : S.length ≠ 0 := fun e => h0 (List.eq_nil_of_length_eq_zero e)
    obtain ⟨g, cap, rfl⟩ := row_some h hn
    have hlt := h.lt g rfl
    have hcap : S.length ≤ cap := by
      rcases h.2 with ⟨h1, h2⟩ | ⟨g', cap', cur, hv, _, _, hnc, _⟩
      · exact absurd h2 hn
      · injection hv with _ _ hv
        subst hv
        exact hnc
    refine (Tryz.strings_Join g 0 cap S ⟨#[32]⟩ w (fun j x hj => ?_) hlt.2 (by omega) hcap hl).mono ?_
    · rw [Nat.zero_add, h.cellAt j (by have := (List.getElem?_eq_some_iff.1 hj).1; omega), List.getElem?_map, hj]
      rfl
    · rintro e w' ⟨rfl, hb⟩
      exact ⟨rfl, hb⟩
theorem cellsF_last (P : List Fb) (n v : ByteArray) : (cellsF (P ++ [(n, v)]))[P.length * 2 + 1]? = some (.string v) := by
  rw [cellsF_append, List.getElem?_append_right (by rw [cellsF_length]; omega), cellsF_length]
  rw [show P.length * 2 + 1 - P.length * 2 = 1 by omega]
  rfl
theorem cellsF_setlast (P : List Fb) (n v u : ByteArray) : (cellsF (P ++ [(n, v)])).set (P.length * 2 + 1) (.string u) = cellsF (P ++ [(n, u)]) := by
  rw [cellsF_append, cellsF_append, List.set_append_right _ _ (by rw [cellsF_length]; omega), cellsF_length]
  rw [show P.length * 2 + 1 - P.length * 2 = 1 by omega]
  rfl
/-- What the last field says is set. -/
def finB (R : List Fb) (S : List ByteArray) : List Fb :=
  match R.getLast? with
  | none => []
  | some f => R.dropLast ++ [(f.1, joinB S)]
theorem finB_snoc (P : List Fb) (n v : ByteArray) (S : List ByteArray) : finB (P ++ [(n, v)]) S = P ++ [(n, joinB S)] := by
  unfold finB
  rw [List.getLast?_append]
  simp
set_option maxHeartbeats 4000000 in
set_option maxRecDepth 100000 in
theorem join_some (base b : Nat) (P : List Fb) (n v : ByteArray) (S : List ByteArray) (w : World) (h : Rd base b (P ++ [(n, v)]) S w) (hP : P.length ≤ 100) (hS : S.length ≤ 100000) (hl : (Lib.join (S.map (·.data.toList)) [32]).length ≤ 140737488355328) (hbw : base ≤ w.heap.size) :
    Calls Tryz.prog 244 #[.pointer (some ⟨b, 0, none⟩)] w fun e w' => e = .returned (.tuple #[]) ∧ Rd base b (P ++ [(n, joinB S)]) [] w' ∧ But base b w w' := by
  obtain ⟨vf, vs, hh, hrf, hrs⟩ := h.st
  obtain ⟨K, hK⟩ : ∃ K, P.length = K := ⟨_, rfl⟩
  have hRl : (P ++ [(n, v)]).length = K + 1 := by rw [List.length_append, hK]; rfl
  rw [hRl] at hrf
  obtain ⟨g, cap, rfl⟩ := row_some hrf (by omega)
  have hgl := hrf.lt g rfl
  have hgb : g ≠ b := fun e => row_off hrf hh (by decide) (by rw [e]; rfl)
  have cJ : Calls Tryz.prog 274 #[vs, .string ⟨#[32]⟩] w.drew fun e w' => e = .returned (.string (joinB S)) ∧ Below w.heap.size w w' := (join_call S vs base w.drew ⟨hrs.1, hrs.2⟩ hS hl).mono (by
    rintro e w' ⟨rfl, hb⟩
    exact ⟨rfl, (Below.refl _ _).drew.trans hb⟩)
  obtain ⟨J, hJ⟩ : ∃ J, joinB S = J := ⟨_, rfl⟩
  rw [hJ] at cJ ⊢
  have c0 : w.cell? ⟨b, 0, none⟩ = some (.slice (some ⟨g, 0, none⟩) (K + 1) cap) := rd_cell hh rfl
  have c1 : w.cell? ⟨b, 1, none⟩ = some vs := rd_cell hh rfl
  have hbl : b < w.heap.size := (Array.getElem?_eq_some_iff.1 hh).1
  have cv := hrf.cellAt (K * 2 + 1) (by omega)
  rw [← hK, cellsF_last, hK] at cv
  have fv := hrf.frozenAt (K * 2 + 1)
  have hk0 : (0 : Int) < (K : Int) + 1 := by omega
  have hwr : IntKind.i64.wrap (K : Int) = (K : Int) := by rw [IntKind.wrap_i64]; omega
  have hK1 : (K : Int) < (K : Int) + 1 := by omega
  have HK : Hid (P.length = K) := hK
  have HRF : Hid (w.ownsRow base 216 2 (.slice (some ⟨g, 0, none⟩) (K + 1) cap) (K + 1) (cellsF (P ++ [(n, v)]))) := hrf
  have HRS : Hid (w.ownsRow base 9 1 vs S.length (S.map Value.string)) := hrs
  clear hrf hrs h hK hJ hRl
  go_enter Tryz.func244, Tryz.ntmps244
  go_upto_region 1 with fail
  go_cut [] (fun wx => ∃ W, Below w.heap.size w W ∧ wx = W.setCell ⟨g, K * 2 + 1, none⟩ (.string J))
  case first =>
    go_region_with (go_at_call 274; refine cJ.mono ?_; rintro e w2 ⟨rfl, hb2⟩; have d0 : w2.cell? ⟨b, 0, none⟩ = some (.slice (some ⟨g, 0, none⟩) (K + 1) cap) := (hb2.cell (p := ⟨b, 0, none⟩) hbl).trans c0; have dv : w2.cell? ⟨g, K * 2 + 1, none⟩ = some (.string v) := (hb2.cell (p := ⟨g, K * 2 + 1, none⟩) hgl.2).trans cv; have dz : w2.frozen? ⟨g, K * 2 + 1, none⟩ = false := (hb2.frozen (p := ⟨g, K * 2 + 1, none⟩) hgl.2).trans fv)
    all_goals
      go_wp2_with fail
      go_meet
      exact ⟨_, hb2, rfl⟩
  case rest =>
    obtain ⟨W, hbW, rfl⟩ := hcut
    have hrf := row_below hbW (Nat.le_refl _) HRF.out
    have hrs := row_below hbW (Nat.le_refl _) HRS.out
    have hhW := (hbW.block b hbl).trans hh
    have hh2 : (W.setCell ⟨g, K * 2 + 1, none⟩ (.string J)).heap[b]? = some (.cells #[.slice (some ⟨g, 0, none⟩) (K + 1) cap, vs] 250 (0, 0)) := (Below.heap_setCell _ _ _ _ (Ne.symm hgb)).trans hhW
    have hrf2 := (hrf.stored (K * 2 + 1) (.string J)).1
    rw [show K * 2 + 1 = P.length * 2 + 1 by rw [HK.out], cellsF_setlast, HK.out] at hrf2
    have hb2 : Below base w (W.setCell ⟨g, K * 2 + 1, none⟩ (.string J)) := (hbW.mono hbw).setCell hgl.1 _
    generalize W.setCell ⟨g, K * 2 + 1, none⟩ (.string J) = W2 at hh2 hrf2 hb2 ⊢
    have d1 : W2.cell? ⟨b, 1, none⟩ = some vs := rd_cell hh2 rfl
    have dz := rd_free hh2 1
    have hh3 := rd_set (i := 1) (.slice none 0 0) hh2
    have hrf3 := ownsRow_setCell_other hrf2 (a := ⟨b, 1, none⟩) (row_off hrf2 hh2 (by decide)) (.slice none 0 0)
    clear hrf hrs hhW hbW HRF HRS cJ
    go_wp2_with fail
    go_end0
    refine ⟨rfl, ⟨_, _, hh3, ?_, World.ownsRow_nil _ _ _ _⟩, (to_but hb2).setB _ _⟩
    rw [List.length_append, HK.out]
    exact hrf3
set_option maxRecDepth 100000 in
theorem join_none (base b : Nat) (S : List ByteArray) (w : World) (h : Rd base b [] S w) (_ : base ≤ w.heap.size) :
    Calls Tryz.prog 244 #[.pointer (some ⟨b, 0, none⟩)] w fun e w' => e = .returned (.tuple #[]) ∧ Rd base b [] [] w' ∧ But base b w w' := by
  obtain ⟨vf, vs, hh, hrf, hrs⟩ := h.st
  obtain ⟨a, cap, rfl⟩ := row_slice hrf
  have c0 : w.cell? ⟨b, 0, none⟩ = some (.slice a 0 cap) := rd_cell hh rfl
  have c1 : w.cell? ⟨b, 1, none⟩ = some vs := rd_cell hh rfl
  have dz := rd_free hh 1
  have hh3 := rd_set (i := 1) (.slice none 0 0) hh
  have hrf3 := ownsRow_setCell_other hrf (a := ⟨b, 1, none⟩) (row_off hrf hh (by decide)) (.slice none 0 0)
  clear h hrf hrs
  go_enter Tryz.func244, Tryz.ntmps244
  go_wp2_with fail
  go_end0
  exact ⟨rfl, ⟨_, _, hh3, hrf3, World.ownsRow_nil _ _ _ _⟩, (to_but (Below.refl _ _)).setB _ _⟩
end Go.Proofs.YtligkpcoajnjmaaGreatDoorR
