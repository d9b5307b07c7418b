/-
  The statements' letters: are letters short enough to be held?
  The numbers that a view sees: Uids.
-/
import Derived.Test.YtgpcnacpefficaaGreatDoorBpFlagsSl
import Derived.Test.YtgpcnacpefficaaGreatDoorBpLawTexts
import Derived.Test.YtgpcnacpefficaaGreatDoorMViewMem
import Derived.Test.YtgpcnacpefficaaGreatDoorMBoxExp
namespace Go.Proofs.YtgpcnacpefficaaGreatDoor
open Go.RowKit Go.Proofs.Aid Go.Proofs.Bx

def shortL (x : Lt) : Bool := (decide (x.flags.length ≤ 40) && x.flags.all fun t => decide (t.length ≤ 100)) && decide (x.text.length ≤ 300)
def lettersB (L : List Lt) : Bool := decide (L.length ≤ 70) && L.all shortL
set_option maxHeartbeats 2000000 in
set_option maxRecDepth 100000 in
theorem letters_is (v : Value) (L : List Lt) (w : World) (h : Lts w v L) : Calls Tryz.prog 4 #[v] w fun e w' => e = .returned (.bool (lettersB L)) ∧ w' = w := by
  obtain ⟨a, c, rfl, _, ha⟩ := h
  obtain ⟨R, hR⟩ : ∃ R, lettersB L = R := ⟨_, rfl⟩
  rw [hR]
  unfold lettersB at hR
  by_cases hl : L.length ≤ 70
  · rw [decide_eq_true hl, Bool.true_and] at hR
    have HR : Hid (L.all shortL = R) := hR
    obtain ⟨len, hn⟩ : ∃ n, L.length = n := ⟨_, rfl⟩
    rw [hn] at hl ⊢
    have hl' : ¬ (70 : Int) < (len : Int) := by omega
    have HN : Hid (L.length = len) := hn
    have HA : Hid (L = [] ∨ ∃ b o, a = some ⟨b, o, none⟩ ∧ ∀ (j : Nat) x, L[j]? = some x → LtAt w b (o + j * 4) x) := ha
    clear hR hn ha
    go_enter Tryz.func4, Tryz.ntmps4
    go_wp2_with fail
    go_loopw [3] (fun i wr => ∃ k : Nat, i = .int .i64 (k : Int) ∧ k ≤ len ∧ Hid (∀ t ∈ L.take k, shortL t = true) ∧ wr = w) (fun i _ => len - (intOf i).toNat)
    case atStart => exact ⟨0, rfl, Nat.zero_le _, fun t ht => by simp at ht, rfl⟩
    case round =>
      obtain ⟨k, rfl, hk, HK, hwr⟩ := hrel
      obtain rfl : w = wr := hwr.symm
      by_cases hlt : k < len
      · have hkl : k < L.length := by rw [HN.out]; exact hlt
        obtain ⟨b, o, rfl, hat⟩ : ∃ b o, a = some ⟨b, o, none⟩ ∧ ∀ (j : Nat) x, L[j]? = some x → LtAt w b (o + j * 4) x := by
          rcases HA.out with h | h
          · rw [h] at hkl; simp at hkl
          · exact h
        obtain ⟨x, hx⟩ : ∃ x, L[k] = x := ⟨_, rfl⟩
        obtain ⟨_, ⟨fv, q3, hsf⟩, _, q4⟩ := hat k _ (List.getElem?_eq_getElem hkl)
        rw [hx] at q4 hsf
        have HX : Hid (L[k] = x) := hx
        have cT := texts_any fv x.flags w hsf
        obtain ⟨TB, hTB⟩ : ∃ B, (decide (x.flags.length ≤ 40) && x.flags.all fun t => decide (t.length ≤ 100)) = B := ⟨_, rfl⟩
        rw [hTB] at cT
        have HTB : Hid ((decide (x.flags.length ≤ 40) && x.flags.all fun t => decide (t.length ≤ 100)) = TB) := hTB
        obtain ⟨T, hT⟩ : ∃ T : ByteArray, ⟨x.text.toArray⟩ = T := ⟨_, rfl⟩
        rw [hT] at q4
        have HT : Hid (x.text.length = T.size) := by show x.text.length = T.size; rw [← hT]; simp [ByteArray.size]
        have HNO : Hid (shortL x = false → R = false) := fun h => by
          show R = false
          rw [← HR.out, List.all_eq_false]
          exact ⟨x, by rw [← HX.out]; exact List.getElem_mem _, by simpa using h⟩
        obtain ⟨fa, fc, rfl, _⟩ := hsf
        obtain ⟨FLs, hFLs⟩ : ∃ n, x.flags.length = n := ⟨_, rfl⟩
        rw [hFLs] at q3 cT
        clear hx hat hTB hT hFLs
        cases TB with
        | true =>
          by_cases h300 : T.size ≤ 300
          · have h1 : ¬ (300 : Int) < (T.size : Int) := by omega
            have d1 : decide ((300 : Int) < (T.size : Int)) = false := decide_eq_false h1
            go_wp2_with fail
            refine cT.mono ?_
            rintro e w1 ⟨rfl, hw1⟩
            obtain rfl : w = w1 := hw1.symm
            go_wp2_with fail
            go_roundw
            case rel => exact ⟨k + 1, by go_num, by omega, fun t' ht' => by
              rw [List.take_succ_eq_append_getElem hkl, HX.out] at ht'
              rcases List.mem_append.1 ht' with h | h
              · exact HK.out t' h
              · rw [List.mem_singleton.1 h]; unfold shortL; rw [HTB.out, HT.out]; simpa using h300, trivial⟩
            case measure => simp [intOf]; omega
          · have h1 : (300 : Int) < (T.size : Int) := by omega
            have d1 : decide ((300 : Int) < (T.size : Int)) = true := decide_eq_true h1
            have HRF := HNO.out (by unfold shortL; rw [HTB.out, HT.out]; simpa using h300)
            subst HRF
            go_wp2_with fail
            refine cT.mono ?_
            rintro e w1 ⟨rfl, hw1⟩
            obtain rfl : w = w1 := hw1.symm
            go_wp2_with fail
            go_ret
            exact ⟨rfl, rfl⟩
        | false =>
          have HRF := HNO.out (by unfold shortL; rw [HTB.out]; rfl)
          subst HRF
          go_wp2_with fail
          refine cT.mono ?_
          rintro e w1 ⟨rfl, hw1⟩
          obtain rfl : w = w1 := hw1.symm
          go_wp2_with fail
          go_ret
          exact ⟨rfl, rfl⟩
      · have hRT : R = true := by
          rw [← HR.out, List.all_eq_true]
          intro t ht
          exact HK.out t (by rw [List.take_of_length_le (by rw [HN.out]; omega)]; exact ht)
        subst hRT
        go_wp2_with fail
        go_ret
        exact ⟨rfl, rfl⟩
  · rw [decide_eq_false hl, Bool.false_and] at hR
    subst hR
    have hl' : (70 : Int) < (L.length : Int) := by omega
    clear ha
    go_enter Tryz.func4, Tryz.ntmps4
    go_wp2_with fail
    go_ret
    exact ⟨rfl, rfl⟩
end Go.Proofs.YtgpcnacpefficaaGreatDoor
namespace Go.Proofs.YtgpcnacpefficaaGreatDoor
open Go.RowKit Go.Proofs.Aid Go.Proofs.Bx

/-- One number more. -/
theorem push_num {w : World} {base : Nat} {vb : Option Addr} {cb : Nat} {ns : List Int} (hn : NOwn w base (.slice vb ns.length cb) ns) (hL : ns.length ≤ 1000) (u : Int) (hbase : base ≤ w.heap.size) :
    ∃ g cap W, (Builtin.append_ #[46, 46] 46 #[.slice vb ns.length cb, .slice (some ⟨w.heap.size, 0, none⟩) 1 1]).run Tryz.prog (w.alloc (.cells #[.int .i64 u] 3)) = .ok (.slice (some ⟨g, 0, none⟩) (ns.length + 1) cap) W ∧
      NOwn W base (.slice (some ⟨g, 0, none⟩) (ns.length + 1) cap) (ns ++ [u]) ∧ Below base w W := by
  obtain ⟨g, cap, W, h1, _, h2, h3⟩ := push_went (w0 := w) (L := []) (va := none) (ca := 0) ⟨[], World.ownsRow_nil _ _ _ _, rfl, fun j x xs h => (by simp at h), fun xs h => (by cases h)⟩ hn hL u hbase
  exact ⟨g, cap, W, h1, h2, h3⟩
set_option maxHeartbeats 2000000 in
set_option maxRecDepth 100000 in
theorem view_uids (vb : Nat) (sv : Value) (S : List Sg) (w : World) (h : ViewAt w vb sv S) (hS : S.length ≤ 1000) :
    Calls Tryz.prog 14 #[.pointer (some ⟨vb, 0, none⟩)] w fun e w' =>
      ∃ ov, e = .returned ov ∧ NOwn w' w.heap.size ov (S.map Sg.uid) ∧ Below w.heap.size w w' := by
  obtain ⟨y1, y2⟩ := h
  obtain ⟨a, c, rfl⟩ := sgs_form y2
  have p2 : w.cell? ⟨vb, 0, none⟩ = some (.slice a S.length c) := rd_cell y1 rfl
  have HL : Hid (Sgs w (.slice a S.length c) S) := y2
  obtain ⟨m, hm⟩ : ∃ m, S.length = m := ⟨_, rfl⟩
  have HM : Hid (S.length = m) := hm
  rw [hm] at p2 hS
  clear y1 y2 hm
  go_enter Tryz.func14, Tryz.ntmps14
  go_wp2_with fail
  go_loopw [3, 11] (fun ov i wr => ∃ (k : Nat) (vo : Option Addr) (n2 c2 : Nat), i = .int .i64 (k : Int) ∧ k ≤ m ∧ ov = .slice vo n2 c2 ∧ Hid (n2 = ((S.take k).map Sg.uid).length ∧ NOwn wr w.heap.size (.slice vo n2 c2) ((S.take k).map Sg.uid) ∧ Below w.heap.size w wr)) (fun _ i _ => m - (intOf i).toNat)
  case atStart => exact ⟨0, none, 0, 0, rfl, Nat.zero_le _, rfl, rfl, World.ownsRow_nil _ _ _ _, Below.refl _ _⟩
  case round =>
    obtain ⟨k, vo, n2, c2, rfl, hk, rfl, HI⟩ := hrel
    by_cases hlt : k < m
    · have hkl : k < S.length := by rw [HM.out]; exact hlt
      obtain ⟨x, hx⟩ : ∃ x, S[k] = x := ⟨_, rfl⟩
      have hxk : S[k]? = some x := by rw [List.getElem?_eq_getElem hkl, hx]
      obtain ⟨g, cg, fv, e0, hg2, q0, q1, hsf⟩ := sgs_at HL.out hxk
      injection e0 with e0 _ e1
      subst e0
      subst e1
      replace q0 := (HI.out.2.2.cell (p := ⟨g, _, none⟩) hg2).trans q0
      replace q1 := (HI.out.2.2.cell (p := ⟨g, _, none⟩) hg2).trans q1
      obtain ⟨XU, hXU⟩ : ∃ z, x.uid = z := ⟨_, rfl⟩
      rw [hXU] at q0
      have HNX : Hid ((S.take (k + 1)).map Sg.uid = (S.take k).map Sg.uid ++ [XU]) := by
        unfold Hid
        rw [List.take_add_one, hxk, ← hXU]
        simp
      obtain ⟨fa, fc, hfv, _⟩ := id hsf
      obtain ⟨FL, hFL⟩ : ∃ n, x.flags.length = n := ⟨_, rfl⟩
      rw [hFL] at hfv
      subst hfv
      have eA := heap_alloc_new wr (.cells #[.int .i64 XU, .slice fa FL fc] 86)
      have bA : Below wr.heap.size wr (wr.alloc (.cells #[.int .i64 XU, .slice fa FL fc] 86)) := (Below.refl _ _).alloc (Nat.le_refl _) _
      obtain ⟨W2, hW2⟩ : ∃ W, wr.alloc (.cells #[.int .i64 XU, .slice fa FL fc] 86) = W := ⟨_, rfl⟩
      rw [hW2] at eA bA
      have hb02 : Below w.heap.size w W2 := HI.out.2.2.trans (bA.mono HI.out.2.2.size)
      have a0 : W2.cell? ⟨wr.heap.size, 0, none⟩ = some (.int .i64 XU) := rd_cell eA rfl
      have kN := HI.out.2.1.below bA
      have HN : Hid (n2 = ((S.take k).map Sg.uid).length) := HI.out.1
      have hle : ((S.take k).map Sg.uid).length ≤ 1000 := by rw [List.length_map, List.length_take]; omega
      rw [HN.out] at kN
      obtain ⟨g9, cap9, W9, hrun, hN9, hb9⟩ := push_num kN hle XU hb02.size
      rw [← HN.out] at hrun hN9
      have HRUN : Hid ((Builtin.append_ #[46, 46] 46 #[.slice vo n2 c2, .slice (some ⟨W2.heap.size, 0, none⟩) 1 1]).run Tryz.prog (W2.alloc (.cells #[.int .i64 XU] 3)) = .ok (.slice (some ⟨g9, 0, none⟩) (n2 + 1) cap9) W9) := hrun
      have HD : Hid (n2 + 1 = ((S.take (k + 1)).map Sg.uid).length ∧ NOwn W9 w.heap.size (.slice (some ⟨g9, 0, none⟩) (n2 + 1) cap9) ((S.take (k + 1)).map Sg.uid) ∧ Below w.heap.size w W9) := by
        have hNX := HNX.out
        rw [hNX]
        exact ⟨by rw [List.length_append, ← HN.out]; rfl, hN9, hb02.trans hb9⟩
      clear hx hxk hXU hFL eA bA hb02 kN hrun hN9 hb9 hsf HNX hle HI hkl hg2
      go_wp2_with (at_builtin; go_must (refine Go.Lib.wpList_append_run _ rfl (.tmp 15) (.tmp 18) 46 46 rfl _ _ rfl rfl _ W9 HRUN.out ?_))
      go_roundw
      case rel => exact ⟨k + 1, _, _, _, by go_num, by omega, rfl, HD⟩
      case measure => simp [intOf]; omega
    · obtain rfl : k = m := by omega
      have hI := HI.out
      rw [List.take_of_length_le (by rw [HM.out]; exact Nat.le_refl _)] at hI
      have HF : Hid (NOwn wr w.heap.size (.slice vo n2 c2) (S.map Sg.uid) ∧ Below w.heap.size w wr) := hI.2
      clear hI HI
      go_wp2_with fail
      go_ret
      exact ⟨_, rfl, HF.out⟩
end Go.Proofs.YtgpcnacpefficaaGreatDoor
