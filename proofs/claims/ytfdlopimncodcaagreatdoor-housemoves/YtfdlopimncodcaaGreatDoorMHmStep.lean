/-
  A pattern's ends: stretch and step of package house.
-/
import Derived.Test.YtfdlopimncodcaaGreatDoorBpSeqBase
import Derived.OwnWalk
namespace Go.Proofs.YtfdlopimncodcaaGreatDoor
open Go.RowKit Go.Proofs.Aid

/-- A row of yes and no. -/
def BlAt (w : World) (eb : Nat) (E : List Bool) : Prop := w.heap[eb]? = some (.cells (E.map Value.bool).toArray 4 (0, 0))
theorem BlAt.at {w : World} {eb : Nat} {E : List Bool} (h : BlAt w eb E) {k : Nat} (hk : k < E.length) : w.cell? ⟨eb, k, none⟩ = some (.bool (E.getD k false)) ∧ w.frozen? ⟨eb, k, none⟩ = false := by
  refine ⟨rd_cell h ?_, rd_free h k⟩
  rw [List.getElem?_toArray, List.getElem?_map, List.getD_eq_getElem?_getD, List.getElem?_eq_getElem hk]
  rfl
theorem BlAt.set {w : World} {eb : Nat} {E : List Bool} (h : BlAt w eb E) (k : Nat) (b : Bool) : BlAt (w.setCell ⟨eb, k, none⟩ (.bool b)) eb (E.set k b) := by
  have := rd_set (i := k) (.bool b) h
  unfold BlAt
  rw [this, List.setIfInBounds_toArray, List.map_set]
theorem BlAt.lt {w : World} {eb : Nat} {E : List Bool} (h : BlAt w eb E) : eb < w.heap.size := (Array.getElem?_eq_some_iff.1 h).1
/-- stretch, as far as k. -/
def strAt (ok : Nat → Bool) (E : List Bool) : Nat → List Bool
  | 0 => E
  | k + 1 => (strAt ok E k).set (k + 1) ((strAt ok E k).getD (k + 1) false || ((strAt ok E k).getD k false && ok k))
theorem strAt_len (ok : Nat → Bool) (E : List Bool) : ∀ k, (strAt ok E k).length = E.length
  | 0 => rfl
  | k + 1 => by rw [strAt, List.length_set, strAt_len ok E k]
set_option maxHeartbeats 4000000 in
set_option maxRecDepth 100000 in
theorem stretch_is (eb : Nat) (E : List Bool) (f : FuncId) (caps : List Value) (ok : Nat → Bool) (w : World) (h : BlAt w eb E) (h0 : 0 < E.length) (hl : E.length ≤ 100000) (eg : ∀ args w, (callFunc f args).run Tryz.prog w = .ok (.enter f args) w)
    (cH : ∀ k, k + 1 < E.length → ∀ W, But w.heap.size eb w W → Calls Tryz.prog f (Value.int .i64 (k : Int) :: caps).toArray W fun e w' => e = .returned (.bool (ok k)) ∧ Below W.heap.size W w') :
    Calls Tryz.prog 70 #[.slice (some ⟨eb, 0, none⟩) E.length E.length, .func (.func f) #[] caps.toArray] w fun e w' => e = .returned (.tuple #[]) ∧ BlAt w' eb (strAt ok E (E.length - 1)) ∧ But w.heap.size eb w w' := by
  obtain ⟨m, hm⟩ : ∃ m, E.length = m + 1 := ⟨E.length - 1, by omega⟩
  have HM : Hid (E.length = m + 1) := hm
  have HH : Hid (BlAt w eb E) := h
  have hbl := h.lt
  have HC : Hid (∀ k, k < m → ∀ W, But w.heap.size eb w W → Calls Tryz.prog f (Value.int .i64 (k : Int) :: caps).toArray W fun e w' => e = .returned (.bool (ok k)) ∧ Below W.heap.size W w') := fun k hk => cH k (by omega)
  rw [hm, Nat.add_sub_cancel]
  rw [hm] at hl
  have hmm : (((m + 1 : Nat) : Int) - 1) = (m : Int) := by omega
  clear h h0 hm cH
  go_enter Tryz.func70, Tryz.ntmps70
  go_wp2_with fail
  go_loopw [8] (fun i wr => ∃ k : Nat, i = .int .i64 (k : Int) ∧ k ≤ m ∧ Hid (BlAt wr eb (strAt ok E k) ∧ But w.heap.size eb w wr)) (fun i _ => m - (intOf i).toNat)
  case atStart => exact ⟨0, rfl, Nat.zero_le _, HH.out, to_but (Below.refl _ _)⟩
  case round =>
    obtain ⟨k, rfl, hk, HI⟩ := hrel
    by_cases hlt : k < m
    · have hlen : (strAt ok E k).length = m + 1 := by rw [strAt_len, HM.out]
      obtain ⟨q1, f1⟩ := HI.out.1.at (k := k + 1) (by omega)
      obtain ⟨q0, f0⟩ := HI.out.1.at (k := k) (by omega)
      obtain ⟨A, hA⟩ : ∃ b, (strAt ok E k).getD (k + 1) false = b := ⟨_, rfl⟩
      obtain ⟨B, hB⟩ : ∃ b, (strAt ok E k).getD k false = b := ⟨_, rfl⟩
      rw [hA] at q1
      rw [hB] at q0
      have HN : Hid (strAt ok E (k + 1) = (strAt ok E k).set (k + 1) (A || (B && ok k))) := by
        unfold Hid
        rw [strAt, hA, hB]
      have cK := HC.out k hlt wr HI.out.2
      have i1 : (0 : Int) ≤ (k : Int) := by omega
      have i2 : (k : Int) < ((m + 1 : Nat) : Int) := by omega
      have i3 : (k : Int) + 1 < ((m + 1 : Nat) : Int) := by omega
      have i4 : (0 : Int) ≤ (k : Int) + 1 := by omega
      have HD : Hid (∀ W v, Below wr.heap.size wr W → v = (A || (B && ok k)) → W.cell? ⟨eb, k + 1, none⟩ = some (.bool A) ∧ W.frozen? ⟨eb, k + 1, none⟩ = false ∧ BlAt (W.setCell ⟨eb, k + 1, none⟩ (.bool v)) eb (strAt ok E (k + 1)) ∧ But w.heap.size eb w (W.setCell ⟨eb, k + 1, none⟩ (.bool v))) := fun W v hW hv => by
        have hb : BlAt W eb (strAt ok E k) := (hW.block eb HI.out.1.lt).trans HI.out.1
        obtain ⟨g1, g2⟩ := hb.at (k := k + 1) (by omega)
        rw [hA] at g1
        refine ⟨g1, g2, ?_, (HI.out.2.trans (to_but (hW.mono HI.out.2.size))).setB _ _⟩
        rw [HN.out, ← hv]
        exact hb.set _ _
      clear hlen hA hB f0
      cases A with
      | true =>
        obtain ⟨r1, r2, r3, r4⟩ := HD.out wr true (Below.refl _ _) rfl
        have HG : Hid (BlAt (wr.setCell ⟨eb, k + 1, none⟩ (.bool true)) eb (strAt ok E (k + 1)) ∧ But w.heap.size eb w (wr.setCell ⟨eb, k + 1, none⟩ (.bool true))) := ⟨r3, r4⟩
        clear r3 r4 HI cK
        go_wp2_with fail
        go_roundw
        case rel => exact ⟨k + 1, by go_num, by omega, HG⟩
        case measure => simp [intOf]; omega
      | false =>
        cases B with
        | false =>
          obtain ⟨r1, r2, r3, r4⟩ := HD.out wr false (Below.refl _ _) rfl
          have HG : Hid (BlAt (wr.setCell ⟨eb, k + 1, none⟩ (.bool false)) eb (strAt ok E (k + 1)) ∧ But w.heap.size eb w (wr.setCell ⟨eb, k + 1, none⟩ (.bool false))) := ⟨r3, r4⟩
          clear r3 r4 HI cK
          go_wp2_with fail
          go_roundw
          case rel => exact ⟨k + 1, by go_num, by omega, HG⟩
          case measure => simp [intOf]; omega
        | true =>
          obtain ⟨OK, hOK⟩ : ∃ b, ok k = b := ⟨_, rfl⟩
          rw [hOK] at cK
          have HOK : Hid (ok k = OK) := hOK
          clear HI hOK
          go_wp2_with fail
          refine cK.mono ?_
          clear cK
          rintro e w2 ⟨rfl, hb2⟩
          obtain ⟨r1, r2, r3, r4⟩ := HD.out w2 OK hb2 (by rw [HOK.out]; simp)
          have HG : Hid (BlAt (w2.setCell ⟨eb, k + 1, none⟩ (.bool OK)) eb (strAt ok E (k + 1)) ∧ But w.heap.size eb w (w2.setCell ⟨eb, k + 1, none⟩ (.bool OK))) := ⟨r3, r4⟩
          clear r3 r4 hb2
          go_wp2_with fail
          go_roundw
          case rel => exact ⟨k + 1, by go_num, by omega, HG⟩
          case measure => simp [intOf]; omega
    · obtain rfl : k = m := by omega
      have HG : Hid (BlAt wr eb (strAt ok E k) ∧ But w.heap.size eb w wr) := HI.out
      clear HI
      go_wp2_with fail
      go_end0
      exact ⟨rfl, HG.out⟩
/-- step, for all from k on. -/
def stpAt (ok : Nat → Bool) (E : List Bool) (k : Nat) : List Bool := (List.range E.length).map fun j => if k < j then E.getD (j - 1) false && ok (j - 1) else E.getD j false
theorem stpAt_len (ok : Nat → Bool) (E : List Bool) (k : Nat) : (stpAt ok E k).length = E.length := by unfold stpAt; rw [List.length_map, List.length_range]
theorem stpAt_get (ok : Nat → Bool) (E : List Bool) (k j : Nat) (hj : j < E.length) : (stpAt ok E k).getD j false = if k < j then E.getD (j - 1) false && ok (j - 1) else E.getD j false := by
  unfold stpAt
  rw [List.getD_eq_getElem?_getD, List.getElem?_map, List.getElem?_range hj]
  rfl
theorem bools_ext {a b : List Bool} (hl : a.length = b.length) (h : ∀ j, j < a.length → a.getD j false = b.getD j false) : a = b := by
  apply List.ext_getElem hl
  intro j h1 h2
  have := h j h1
  rw [List.getD_eq_getElem?_getD, List.getD_eq_getElem?_getD, List.getElem?_eq_getElem h1, List.getElem?_eq_getElem h2] at this
  exact this
theorem getD_set (a : List Bool) (i j : Nat) (b : Bool) (hi : i < a.length) : (a.set i b).getD j false = if i = j then b else a.getD j false := by
  rw [List.getD_eq_getElem?_getD, List.getD_eq_getElem?_getD, List.getElem?_set]
  by_cases h : i = j
  · rw [if_pos h, if_pos h, if_pos hi]; rfl
  · rw [if_neg h, if_neg h]
theorem stpAt_next (ok : Nat → Bool) (E : List Bool) (k : Nat) (hk : k + 1 < E.length) : (stpAt ok E (k + 1)).set (k + 1) (E.getD k false && ok k) = stpAt ok E k := by
  apply bools_ext (by rw [List.length_set, stpAt_len, stpAt_len])
  intro j hj
  rw [List.length_set, stpAt_len] at hj
  rw [getD_set _ _ _ _ (by rw [stpAt_len]; exact hk), stpAt_get _ _ _ _ hj, stpAt_get _ _ _ _ hj]
  by_cases h1 : k + 1 = j
  · subst h1
    rw [if_pos rfl, if_pos (by omega), Nat.add_sub_cancel]
  · rw [if_neg h1]
    by_cases h2 : k + 1 < j
    · rw [if_pos h2, if_pos (by omega)]
    · rw [if_neg h2, if_neg (by omega)]
theorem stpAt_start (ok : Nat → Bool) (E : List Bool) (k : Nat) (hk : E.length ≤ k + 1) : stpAt ok E k = E := by
  apply bools_ext (stpAt_len _ _ _)
  intro j hj
  rw [stpAt_len] at hj
  rw [stpAt_get _ _ _ _ hj, if_neg (by omega)]
def stpL (ok : Nat → Bool) (E : List Bool) : List Bool := (stpAt ok E 0).set 0 false
set_option maxHeartbeats 4000000 in
set_option maxRecDepth 100000 in
theorem step_is (eb : Nat) (E : List Bool) (f : FuncId) (caps : List Value) (ok : Nat → Bool) (w : World) (h : BlAt w eb E) (h0 : 0 < E.length) (hl : E.length ≤ 100000) (eg : ∀ args w, (callFunc f args).run Tryz.prog w = .ok (.enter f args) w)
    (cH : ∀ k, k + 1 < E.length → ∀ W, But w.heap.size eb w W → Calls Tryz.prog f (Value.int .i64 (k : Int) :: caps).toArray W fun e w' => e = .returned (.bool (ok k)) ∧ Below W.heap.size W w') :
    Calls Tryz.prog 73 #[.slice (some ⟨eb, 0, none⟩) E.length E.length, .func (.func f) #[] caps.toArray] w fun e w' => e = .returned (.tuple #[]) ∧ BlAt w' eb (stpL ok E) ∧ But w.heap.size eb w w' := by
  obtain ⟨m, hm⟩ : ∃ m, E.length = m + 1 := ⟨E.length - 1, by omega⟩
  have HM : Hid (E.length = m + 1) := hm
  have HH : Hid (BlAt w eb E) := h
  have HC : Hid (∀ k, k < m → ∀ W, But w.heap.size eb w W → Calls Tryz.prog f (Value.int .i64 (k : Int) :: caps).toArray W fun e w' => e = .returned (.bool (ok k)) ∧ Below W.heap.size W w') := fun k hk => cH k (by omega)
  rw [hm]
  rw [hm] at hl
  clear h h0 hm cH
  go_enter Tryz.func73, Tryz.ntmps73
  go_wp2_with fail
  go_loopw [4] (fun i wr => ∃ k : Nat, i = .int .i64 ((k : Int) - 1) ∧ k ≤ m ∧ Hid (BlAt wr eb (stpAt ok E k) ∧ But w.heap.size eb w wr)) (fun i _ => (intOf i + 1).toNat)
  case atStart => exact ⟨m, by go_num, Nat.le_refl _, by rw [stpAt_start _ _ _ (by rw [HM.out]; exact Nat.le_refl _)]; exact HH.out, to_but (Below.refl _ _)⟩
  case round =>
    obtain ⟨k, rfl, hk, HI⟩ := hrel
    cases k with
    | succ k =>
      have hkk : (((k + 1 : Nat) : Int) - 1) = (k : Int) := by omega
      rw [hkk]
      have hlen : (stpAt ok E (k + 1)).length = m + 1 := by rw [stpAt_len, HM.out]
      obtain ⟨q1, f1⟩ := HI.out.1.at (k := k + 1) (by omega)
      obtain ⟨q0, f0⟩ := HI.out.1.at (k := k) (by omega)
      rw [stpAt_get _ _ _ _ (by rw [HM.out]; omega), if_neg (by omega)] at q0
      obtain ⟨A, hA⟩ : ∃ b, (stpAt ok E (k + 1)).getD (k + 1) false = b := ⟨_, rfl⟩
      obtain ⟨B, hB⟩ : ∃ b, E.getD k false = b := ⟨_, rfl⟩
      rw [hA] at q1
      rw [hB] at q0
      have HN : Hid ((stpAt ok E (k + 1)).set (k + 1) (B && ok k) = stpAt ok E k) := by
        unfold Hid
        rw [← hB]
        exact stpAt_next ok E k (by rw [HM.out]; omega)
      have cK := HC.out k (by omega) wr HI.out.2
      have i1 : (0 : Int) ≤ (k : Int) := by omega
      have i2 : (k : Int) < ((m + 1 : Nat) : Int) := by omega
      have i3 : (k : Int) + 1 < ((m + 1 : Nat) : Int) := by omega
      have i4 : (0 : Int) ≤ (k : Int) + 1 := by omega
      have HD : Hid (∀ W v, Below wr.heap.size wr W → v = (B && ok k) → W.cell? ⟨eb, k + 1, none⟩ = some (.bool A) ∧ W.frozen? ⟨eb, k + 1, none⟩ = false ∧ BlAt (W.setCell ⟨eb, k + 1, none⟩ (.bool v)) eb (stpAt ok E k) ∧ But w.heap.size eb w (W.setCell ⟨eb, k + 1, none⟩ (.bool v))) := fun W v hW hv => by
        have hb : BlAt W eb (stpAt ok E (k + 1)) := (hW.block eb HI.out.1.lt).trans HI.out.1
        obtain ⟨g1, g2⟩ := hb.at (k := k + 1) (by omega)
        rw [hA] at g1
        refine ⟨g1, g2, ?_, (HI.out.2.trans (to_but (hW.mono HI.out.2.size))).setB _ _⟩
        rw [← HN.out, ← hv]
        exact hb.set _ _
      clear hlen hA hB f0 hkk
      cases B with
      | false =>
        obtain ⟨r1, r2, r3, r4⟩ := HD.out wr false (Below.refl _ _) rfl
        have HG : Hid (BlAt (wr.setCell ⟨eb, k + 1, none⟩ (.bool false)) eb (stpAt ok E k) ∧ But w.heap.size eb w (wr.setCell ⟨eb, k + 1, none⟩ (.bool false))) := ⟨r3, r4⟩
        clear r3 r4 HI cK
        go_wp2_with fail
        go_roundw
        case rel => exact ⟨k, by go_num, by omega, HG⟩
        case measure => simp [intOf]
      | true =>
        obtain ⟨OK, hOK⟩ : ∃ b, ok k = b := ⟨_, rfl⟩
        rw [hOK] at cK
        have HOK : Hid (ok k = OK) := hOK
        clear HI hOK
        go_wp2_with fail
        refine cK.mono ?_
        clear cK
        rintro e w2 ⟨rfl, hb2⟩
        obtain ⟨r1, r2, r3, r4⟩ := HD.out w2 OK hb2 (by rw [HOK.out]; simp)
        have HG : Hid (BlAt (w2.setCell ⟨eb, k + 1, none⟩ (.bool OK)) eb (stpAt ok E k) ∧ But w.heap.size eb w (w2.setCell ⟨eb, k + 1, none⟩ (.bool OK))) := ⟨r3, r4⟩
        clear r3 r4 hb2
        go_wp2_with fail
        go_roundw
        case rel => exact ⟨k, by go_num, by omega, HG⟩
        case measure => simp [intOf]
    | zero =>
      have hk0 : (((0 : Nat) : Int) - 1) = -1 := rfl
      rw [hk0]
      obtain ⟨q0, f0⟩ := HI.out.1.at (k := 0) (by rw [stpAt_len, HM.out]; omega)
      have i2 : (0 : Int) < ((m + 1 : Nat) : Int) := by omega
      have HG : Hid (BlAt (wr.setCell ⟨eb, 0, none⟩ (.bool false)) eb (stpL ok E) ∧ But w.heap.size eb w (wr.setCell ⟨eb, 0, none⟩ (.bool false))) := ⟨HI.out.1.set 0 false, HI.out.2.setB _ _⟩
      clear HI
      go_wp2_with fail
      go_end0
      exact ⟨rfl, HG.out⟩
end Go.Proofs.YtfdlopimncodcaaGreatDoor
