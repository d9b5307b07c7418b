/-
  How a box is called: Name of package house, at whatever text.
-/
import Derived.Test.YtdmplfflmdanlaaGreatDoorBpHsWithin
import Derived.Test.YtdmplfflmdanlaaGreatDoorBpHeadAny
namespace Go.Proofs.YtdmplfflmdanlaaGreatDoor
open Go.RowKit Go.Proofs.Aid Go.Proofs.Sq Go.Proofs.Hd

/-- INBOX, whatever letters of it are great. -/
def nmHead (p : Nm) : Nm := if great p = inboxN then inboxN else p
/-- How a box is called (9.1), or that it may not be a name. -/
def nameB (s : Nm) : Option Nm :=
  if Ut.rightB s = true ∧ (s.any fun c => ([37, 42] : List UInt8).contains c) = false ∧ [] ∉ between 47 s then some (Lib.join (nmHead ((between 47 s).headD []) :: (between 47 s).tail) [47]) else none
theorem join_between (c : UInt8) : ∀ s : List UInt8, Lib.join (between c s) [c] = s
  | [] => Lib.join_one _ _
  | b :: r => by
    have ih := join_between c r
    obtain ⟨x, xs, hx⟩ := List.exists_cons_of_ne_nil (between_ne c r)
    rw [hx, Lib.join_cons] at ih
    rw [between]
    split
    · rename_i hb
      rw [hx, Lib.join_cons, hb]
      show [] ++ (([c] ++ x) ++ Lib.joinTail [c] xs) = c :: r
      rw [← ih]
      simp
    · rw [hx, Lib.join_cons]
      show (b :: x) ++ Lib.joinTail [c] xs = b :: r
      rw [← ih]
      rfl
theorem nmHead_len (p : Nm) : (nmHead p).length = p.length := by
  unfold nmHead
  split
  · rename_i h
    have := congrArg List.length h
    unfold great at this
    rw [List.length_map] at this
    exact this.symm
  · rfl
theorem nameB_len {s r : Nm} (h : nameB s = some r) : r.length ≤ 60 := by
  unfold nameB at h
  split at h
  · rename_i hc
    obtain rfl := Option.some.inj h
    have h1 : s.length ≤ 60 := by
      have := hc.1
      unfold Ut.rightB at this
      simp only [Bool.and_eq_true, decide_eq_true_eq] at this
      exact this.1.1.2
    have h2 := join_between 47 s
    obtain ⟨x, xs, hx⟩ := List.exists_cons_of_ne_nil (between_ne 47 s)
    rw [hx, Lib.join_cons] at h2
    rw [hx, List.headD_cons, List.tail_cons, Lib.join_cons, List.length_append, nmHead_len]
    have := congrArg List.length h2
    rw [List.length_append] at this
    omega
  · cases h
/-- What Name reads: the tables of package utf8, and a bound. -/
def NEnv (w : World) : Prop := (∃ m, w.cell? ⟨0, 0, none⟩ = some (.int .i64 m)) ∧ Tabs w
theorem NEnv.low {w w' : World} (h : NEnv w) (hb : Below 10 w w') : NEnv w' := by
  obtain ⟨⟨m, h1⟩, h2, h3⟩ := h
  exact ⟨⟨m, (hb.cell (p := ⟨0, 0, none⟩) (by decide)).trans h1⟩, fun c hc => (hb.cell (p := ⟨1, c, none⟩) (by show 1 < _; decide)).trans (h2 c hc), fun i hi => ⟨(hb.cell (p := ⟨2, 2 * i, none⟩) (by show 2 < _; decide)).trans (h3 i hi).1, (hb.cell (p := ⟨2, 2 * i + 1, none⟩) (by show 2 < _; decide)).trans (h3 i hi).2⟩⟩
theorem NEnv.below {w w' : World} (h : NEnv w) (hb : Below w.heap.size w w') : NEnv w' := by
  obtain ⟨⟨m, h1⟩, h2⟩ := h
  exact ⟨⟨m, (hb.cell (World.block_lt_of_cell? _ _ h1)).trans h1⟩, h2.below hb⟩
theorem ba_list' {a : ByteArray} {l : Nm} (h : a.data.toList = l) : a = ⟨l.toArray⟩ := by
  rw [← h]
theorem low_wild : Low ⟨#[37, 42]⟩ := fun j b h => by
  have : b ∈ ([37, 42] : List UInt8) := List.mem_of_getElem? h
  simp at this
  rcases this with rfl | rfl <;> decide
set_option maxHeartbeats 4000000 in
set_option maxRecDepth 100000 in
theorem name_is (s : ByteArray) (w : World) (hE : NEnv w) (hs : s.size ≤ 1000) :
    Calls Tryz.prog 82 #[.string s] w fun e w' => Below w.heap.size w w' ∧
      ((∃ r : ByteArray, nameB s.data.toList = some r.data.toList ∧ r.size ≤ 60 ∧ e = .returned (.tuple #[.string r, .nilIface])) ∨ (nameB s.data.toList = none ∧ e = .returned (.tuple #[.string ⟨#[]⟩, .iface 34 (.int .i64 1)]))) := by
  have cR := right_any s w (by omega) hE.2
  have HE : Hid (NEnv w) := hE
  obtain ⟨R1, hR1⟩ : ∃ b, Ut.rightB s.data.toList = b := ⟨_, rfl⟩
  have HR1 : Hid (Ut.rightB s.data.toList = R1) := hR1
  rw [hR1] at cR
  clear hR1 hE
  rcases Bool.eq_false_or_eq_true R1 with h1 | h1
  · rw [h1] at cR HR1
    obtain ⟨R2, hR2⟩ : ∃ b, (s.data.toList.any fun c => ([37, 42] : List UInt8).contains c) = b := ⟨_, rfl⟩
    have HR2 : Hid ((s.data.toList.any fun c => ([37, 42] : List UInt8).contains c) = R2) := hR2
    have cA : ∀ W, Calls Tryz.prog 139 #[.string s, .string ⟨#[37, 42]⟩] W fun e w' => e = .returned (.bool R2) ∧ Below W.heap.size W w' := fun W => by
      have := any_is s ⟨#[37, 42]⟩ W (by decide) low_wild (by decide) (by omega)
      rw [show (⟨#[37, 42]⟩ : ByteArray).data.toList = [37, 42] from rfl, hR2] at this
      exact this
    clear hR2 h1
    rcases Bool.eq_false_or_eq_true R2 with h2 | h2
    · rw [h2] at cA HR2
      clear h2
      go_enter Tryz.func82, Tryz.ntmps82
      go_wp2_with fail
      refine cR.mono ?_
      rintro e w1 ⟨rfl, hb1⟩
      go_wp2_with fail
      refine (cA w1).mono ?_
      rintro e w2 ⟨rfl, hb2⟩
      have HB2 : Hid (Below w.heap.size w w2) := hb1.trans (hb2.mono hb1.size)
      clear cA cR hb1 hb2
      go_wp2_with fail
      go_ret2
      refine ⟨HB2.out, Or.inr ⟨?_, rfl⟩⟩
      unfold nameB
      rw [if_neg (fun h => by rw [HR2.out] at h; cases h.2.1)]
    · rw [h2] at cA HR2
      clear h2
      obtain ⟨P, hP⟩ : ∃ P, Lib.splitB ⟨#[47]⟩ 0 (Lib.countB s ⟨#[47]⟩) s = P := ⟨_, rfl⟩
      obtain ⟨N, hN⟩ : ∃ N, Lib.countB s ⟨#[47]⟩ = N := ⟨_, rfl⟩
      have hsp := split_between 47 s
      rw [hP] at hsp
      have hPl : P.length = N + 1 := by
        have := Lib.splitB_all ⟨#[47]⟩ (by decide) 0 _ s rfl
        rw [hP, hN] at this
        exact this
      have hcl := Lib.countB_le ⟨#[47]⟩ (by decide) _ s (Nat.le_refl _)
      have cS : ∀ W, Below w.heap.size w W → Calls Tryz.prog 90 #[.string s, .string ⟨#[47]⟩] W fun e w' => e = .returned (.slice (some ⟨W.heap.size, 0, none⟩) (N + 1) (N + 1)) ∧ w' = W.alloc (.cells (P.map Value.string).toArray 9) := fun W hW => by
        obtain ⟨m, hm⟩ := (HE.out.below hW).1
        have := Tryz.strings_Split s ⟨#[47]⟩ m W (by omega) hm (by decide)
        rw [hP, hN] at this
        exact this
      obtain ⟨p0, tl, rfl⟩ : ∃ p0 tl, P = p0 :: tl := List.exists_cons_of_ne_nil (fun e => by rw [e] at hPl; cases hPl)
      have hrow : ∀ W : World, ∀ j, j < (p0 :: tl).length → (W.alloc (.cells ((p0 :: tl).map Value.string).toArray 9)).cell? ⟨W.heap.size, 0 + j, none⟩ = some (.string ((p0 :: tl).getD j ByteArray.empty)) := fun W j hj => by
        refine rd_cell (heap_alloc_new _ _) ?_
        rw [Nat.zero_add, List.getElem?_toArray, List.getElem?_map, List.getElem?_eq_getElem hj, List.getD_eq_getElem?_getD, List.getElem?_eq_getElem hj]
        rfl
      have HSP : Hid ((p0 :: tl).map (·.data.toList) = between 47 s.data.toList) := hsp
      obtain ⟨EM, hEM⟩ : ∃ b, Lib.containsS (p0 :: tl) ⟨#[]⟩ = b := ⟨_, rfl⟩
      have HEM : Hid (EM = true ↔ [] ∈ between 47 s.data.toList) := by
        unfold Hid
        rw [← hEM, Lib.containsS_iff, ← hsp, List.mem_map]
        constructor
        · intro h
          exact ⟨_, h, rfl⟩
        · rintro ⟨x, hx, he⟩
          rw [show (⟨#[]⟩ : ByteArray) = x from by rw [ba_list' he]]
          exact hx
      have cC : ∀ W : World, Calls Tryz.prog 140 #[.slice (some ⟨W.heap.size, 0, none⟩) (N + 1) (N + 1), .string ⟨#[]⟩] (W.alloc (.cells ((p0 :: tl).map Value.string).toArray 9)) fun e w' => e = .returned (.bool EM) ∧ w' = W.alloc (.cells ((p0 :: tl).map Value.string).toArray 9) := fun W => by
        have := Tryz.slices_Contains_string W.heap.size 0 (N + 1) (N + 1) (p0 :: tl) ⟨#[]⟩ _ (by omega) (by omega) (hrow W)
        rw [List.take_of_length_le (by omega), hEM] at this
        exact this
      have hp0s : p0.size ≤ 1000 := by
        have h3 := join_between 47 s.data.toList
        rw [← hsp, List.map_cons, Lib.join_cons] at h3
        have := congrArg List.length h3
        rw [List.length_append] at this
        have e1 : p0.data.toList.length = p0.size := by rw [Array.length_toList]; rfl
        have e2 : s.data.toList.length = s.size := by rw [Array.length_toList]; rfl
        omega
      obtain ⟨GB, hGB⟩ : ∃ g : ByteArray, ⟨(great p0.data.toList).toArray⟩ = g := ⟨_, rfl⟩
      have cG : ∀ W, Calls Tryz.prog 141 #[.string p0] W fun e w' => e = .returned (.string GB) ∧ Below W.heap.size W w' := fun W => by
        rw [← hGB]
        exact great_is p0 W (by omega)
      have HGB : Hid (GB.toList = [73, 78, 66, 79, 88] ↔ great p0.data.toList = inboxN) := by
        rw [← hGB]
        unfold Hid
        rw [Lib.toList_data]
        rfl
      have HJ : Hid (∀ (q : ByteArray) (G : Nat) (W : World), q.size = p0.size → G < W.heap.size → (∀ (j : Nat) x, (q :: tl)[j]? = some x → W.cell? ⟨G, 0 + j, none⟩ = some (.string x)) → Calls Tryz.prog 80 #[.slice (some ⟨G, 0, none⟩) (N + 1) (N + 1), .string ⟨#[47]⟩] W fun e w' => e = .returned (.string ⟨(Lib.join ((q :: tl).map (·.data.toList)) [47]).toArray⟩) ∧ Below W.heap.size W w') := fun q G W hq hG hc => by
        have := Tryz.strings_Join G 0 (N + 1) (q :: tl) ⟨#[47]⟩ W hc hG (by rw [List.length_cons]; rw [List.length_cons] at hPl; omega) (by rw [List.length_cons]; rw [List.length_cons] at hPl; omega) (by
          have h3 := join_between 47 s.data.toList
          rw [← hsp, List.map_cons, Lib.join_cons] at h3
          rw [List.map_cons, Lib.join_cons, List.length_append]
          have h4 := congrArg List.length h3
          rw [List.length_append] at h4
          have e0 : q.data.toList.length = q.size := by rw [Array.length_toList]; rfl
          have e1 : p0.data.toList.length = p0.size := by rw [Array.length_toList]; rfl
          have e2 : s.data.toList.length = s.size := by rw [Array.length_toList]; rfl
          show q.data.toList.length + (Lib.joinTail [47] (tl.map (·.data.toList))).length ≤ _
          omega)
        rw [show (q :: tl).length = N + 1 from by rw [List.length_cons]; rw [List.length_cons] at hPl; omega] at this
        exact this
      have HRES : Hid (∀ q : ByteArray, EM = false → q.data.toList = nmHead p0.data.toList → ∃ r : ByteArray, nameB s.data.toList = some r.data.toList ∧ r.size ≤ 60 ∧ (⟨(Lib.join ((q :: tl).map (·.data.toList)) [47]).toArray⟩ : ByteArray) = r) := fun q he hq => by
        have hne : [] ∉ between 47 s.data.toList := fun h => by rw [HEM.out.2 h] at he; cases he
        have e3 : nameB s.data.toList = some (Lib.join ((q :: tl).map (·.data.toList)) [47]) := by
          unfold nameB
          rw [if_pos ⟨HR1.out, HR2.out, hne⟩, ← HSP.out]
          show some (Lib.join (nmHead p0.data.toList :: tl.map (·.data.toList)) [47]) = some (Lib.join (q.data.toList :: tl.map (·.data.toList)) [47])
          rw [hq]
        refine ⟨_, e3, ?_, rfl⟩
        have := nameB_len e3
        show (Lib.join ((q :: tl).map (·.data.toList)) [47]).toArray.size ≤ 60
        rw [List.size_toArray]
        exact this
      obtain ⟨CS, hCS⟩ : ∃ c, ((p0 :: tl).map Value.string).toArray = c := ⟨_, rfl⟩
      have HC0 : Hid (CS = ((p0 :: tl).map Value.string).toArray) := hCS.symm
      rw [hCS] at hrow cC cS
      have i1 : (0 : Int) < (N : Int) + 1 := by omega
      have i2 : (0 : Int) < ((N + 1 : Nat) : Int) := by omega
      clear hsp hP hN hEM hGB hcl hCS
      rcases Bool.eq_false_or_eq_true EM with h3 | h3
      · rw [h3] at cC HEM
        clear h3 hrow cG HGB HJ HRES
        go_enter Tryz.func82, Tryz.ntmps82
        go_wp2_with fail
        refine cR.mono ?_
        rintro e w1 ⟨rfl, hb1⟩
        go_wp2_with fail
        refine (cA w1).mono ?_
        rintro e w2 ⟨rfl, hb2⟩
        have hB2 : Below w.heap.size w w2 := hb1.trans (hb2.mono hb1.size)
        clear cA cR hb1 hb2
        go_wp2_with fail
        refine (cS w2 hB2).mono ?_
        rintro e w3 ⟨rfl, rfl⟩
        have HB3 : Hid (Below w.heap.size w (w2.alloc (.cells CS 9))) := hB2.alloc hB2.size _
        clear cS hB2
        go_wp2_with fail
        refine (cC w2).mono ?_
        rintro e w4 ⟨rfl, rfl⟩
        clear cC
        go_wp2_with fail
        go_ret2
        refine ⟨HB3.out, Or.inr ⟨?_, rfl⟩⟩
        unfold nameB
        rw [if_neg (fun h => h.2.2 (HEM.out.1 (by first | rfl | trivial)))]
      · rw [h3] at cC
        have HE3 : Hid (EM = false) := h3
        clear h3
        by_cases hin : great p0.data.toList = inboxN
        · have g1 : GB.toList = [73, 78, 66, 79, 88] := HGB.out.2 hin
          have HIN : Hid (great p0.data.toList = inboxN) := hin
          clear hin
          go_enter Tryz.func82, Tryz.ntmps82
          go_wp2_with fail
          refine cR.mono ?_
          rintro e w1 ⟨rfl, hb1⟩
          go_wp2_with fail
          refine (cA w1).mono ?_
          rintro e w2 ⟨rfl, hb2⟩
          have hB2 : Below w.heap.size w w2 := hb1.trans (hb2.mono hb1.size)
          clear cA cR hb1 hb2
          go_wp2_with fail
          refine (cS w2 hB2).mono ?_
          rintro e w3 ⟨rfl, rfl⟩
          clear cS
          go_wp2_with fail
          refine (cC w2).mono ?_
          rintro e w4 ⟨rfl, rfl⟩
          clear cC
          have e4 := heap_alloc_new w2 (.cells CS 9)
          have b4 : Below w2.heap.size w2 (w2.alloc (.cells CS 9)) := (Below.refl _ _).alloc (Nat.le_refl _) _
          have z4 : (w2.alloc (.cells CS 9)).heap.size = w2.heap.size + 1 := World.size_alloc _ _
          have k0 : (w2.alloc (.cells CS 9)).cell? ⟨w2.heap.size, 0, none⟩ = some (.string p0) := hrow w2 0 (by simp)
          obtain ⟨W4, hW4⟩ : ∃ W, w2.alloc (.cells CS 9) = W := ⟨_, rfl⟩
          rw [hW4] at e4 b4 z4 k0 ⊢
          clear hW4 hrow
          go_wp2_with fail
          refine (cG W4).mono ?_
          rintro e w5 ⟨rfl, hb5⟩
          have e5 := (hb5.block _ (by omega)).trans e4
          have k5 : w5.cell? ⟨w2.heap.size, 0, none⟩ = some (.string p0) := (hb5.cell (p := ⟨w2.heap.size, 0, none⟩) (by show w2.heap.size < _; omega)).trans k0
          have f5 := rd_free e5 0
          have e6 := rd_set (i := 0) (.string ⟨#[73, 78, 66, 79, 88]⟩) e5
          have z5 := hb5.size
          have hl6 : w2.heap.size < (w5.setCell ⟨w2.heap.size, 0, none⟩ (.string ⟨#[73, 78, 66, 79, 88]⟩)).heap.size := (Array.getElem?_eq_some_iff.1 e6).1
          have cJ := HJ.out ⟨#[73, 78, 66, 79, 88]⟩ w2.heap.size (w5.setCell ⟨w2.heap.size, 0, none⟩ (.string ⟨#[73, 78, 66, 79, 88]⟩)) (by
            have h4 := congrArg List.length HIN.out
            unfold great at h4
            rw [List.length_map, Array.length_toList] at h4
            exact h4.symm) hl6 (fun j x hj => by
              rw [Nat.zero_add]
              refine rd_cell e6 ?_
              rw [HC0.out]
              cases j with
              | zero =>
                obtain rfl : (⟨#[73, 78, 66, 79, 88]⟩ : ByteArray) = x := by simpa using hj
                simp
              | succ j =>
                have hj' : tl[j]? = some x := by simpa using hj
                rw [Array.getElem?_setIfInBounds_ne (by omega), List.getElem?_toArray, List.getElem?_map, List.getElem?_cons_succ, hj']
                rfl)
          have HB6 : Hid (Below w.heap.size w (w5.setCell ⟨w2.heap.size, 0, none⟩ (.string ⟨#[73, 78, 66, 79, 88]⟩))) := by
            have h6 : Below w.heap.size w w5 := hB2.trans ((b4.trans (hb5.mono (by omega))).mono hB2.size)
            exact ⟨h6.os, h6.tape, h6.output, by simpa using h6.size, fun k hk => (Below.heap_setCell _ _ _ _ (by have := hB2.size; show k ≠ w2.heap.size; omega)).trans (h6.block k hk)⟩
          obtain ⟨r, hr1, hr2, hr3⟩ := HRES.out ⟨#[73, 78, 66, 79, 88]⟩ HE3.out (by
            unfold nmHead
            rw [if_pos HIN.out]
            rfl)
          rw [hr3] at cJ
          have HR : Hid (nameB s.data.toList = some r.data.toList ∧ r.size ≤ 60) := ⟨hr1, hr2⟩
          clear e4 b4 z4 hb5 e5 e6 z5 hl6 hr1 hr2 hr3 cG k0
          go_wp2_with fail
          refine cJ.mono ?_
          rintro e w7 ⟨rfl, hb7⟩
          have HB7 : Hid (Below w.heap.size w w7) := HB6.out.trans (hb7.mono HB6.out.size)
          clear cJ hb7
          go_wp2_with fail
          go_ret2
          exact ⟨HB7.out, Or.inl ⟨r, HR.out.1, HR.out.2, rfl⟩⟩
        · have g1 : ¬ GB.toList = [73, 78, 66, 79, 88] := fun e => hin (HGB.out.1 e)
          have g2 : (GB.toList == [73, 78, 66, 79, 88]) = false := beq_eq_false_iff_ne.2 g1
          have HIN : Hid (¬ great p0.data.toList = inboxN) := hin
          clear hin
          go_enter Tryz.func82, Tryz.ntmps82
          go_wp2_with fail
          refine cR.mono ?_
          rintro e w1 ⟨rfl, hb1⟩
          go_wp2_with fail
          refine (cA w1).mono ?_
          rintro e w2 ⟨rfl, hb2⟩
          have hB2 : Below w.heap.size w w2 := hb1.trans (hb2.mono hb1.size)
          clear cA cR hb1 hb2
          go_wp2_with fail
          refine (cS w2 hB2).mono ?_
          rintro e w3 ⟨rfl, rfl⟩
          clear cS
          go_wp2_with fail
          refine (cC w2).mono ?_
          rintro e w4 ⟨rfl, rfl⟩
          clear cC
          have e4 := heap_alloc_new w2 (.cells CS 9)
          have b4 : Below w2.heap.size w2 (w2.alloc (.cells CS 9)) := (Below.refl _ _).alloc (Nat.le_refl _) _
          have z4 : (w2.alloc (.cells CS 9)).heap.size = w2.heap.size + 1 := World.size_alloc _ _
          have k0 : (w2.alloc (.cells CS 9)).cell? ⟨w2.heap.size, 0, none⟩ = some (.string p0) := hrow w2 0 (by simp)
          obtain ⟨W4, hW4⟩ : ∃ W, w2.alloc (.cells CS 9) = W := ⟨_, rfl⟩
          rw [hW4] at e4 b4 z4 k0 ⊢
          clear hW4 hrow
          go_wp2_with fail
          refine (cG W4).mono ?_
          rintro e w5 ⟨rfl, hb5⟩
          have e5 := (hb5.block _ (by omega)).trans e4
          have z5 := hb5.size
          have cJ := HJ.out p0 w2.heap.size w5 rfl (by omega) (fun j x hj => by
            rw [Nat.zero_add]
            refine rd_cell e5 ?_
            rw [HC0.out, List.getElem?_toArray, List.getElem?_map, hj]
            rfl)
          have HB6 : Hid (Below w.heap.size w w5) := hB2.trans ((b4.trans (hb5.mono (by omega))).mono hB2.size)
          obtain ⟨r, hr1, hr2, hr3⟩ := HRES.out p0 HE3.out (by
            unfold nmHead
            rw [if_neg HIN.out])
          rw [hr3] at cJ
          have HR : Hid (nameB s.data.toList = some r.data.toList ∧ r.size ≤ 60) := ⟨hr1, hr2⟩
          clear e4 b4 z4 hb5 e5 z5 hr1 hr2 hr3 cG k0
          go_wp2_with fail
          refine cJ.mono ?_
          rintro e w7 ⟨rfl, hb7⟩
          have HB7 : Hid (Below w.heap.size w w7) := HB6.out.trans (hb7.mono HB6.out.size)
          clear cJ hb7
          go_wp2_with fail
          go_ret2
          exact ⟨HB7.out, Or.inl ⟨r, HR.out.1, HR.out.2, rfl⟩⟩
  · rw [h1] at cR HR1
    clear h1
    go_enter Tryz.func82, Tryz.ntmps82
    go_wp2_with fail
    refine cR.mono ?_
    rintro e w1 ⟨rfl, hb1⟩
    clear cR
    go_wp2_with fail
    go_ret2
    refine ⟨hb1, Or.inr ⟨?_, rfl⟩⟩
    unfold nameB
    rw [if_neg (fun h => by rw [HR1.out] at h; cases h.1)]
theorem nameC {w : World} (h : NEnv w) : NameC nameB w := fun s W hW hs => name_is s W (h.low hW) hs
end Go.Proofs.YtdmplfflmdanlaaGreatDoor
