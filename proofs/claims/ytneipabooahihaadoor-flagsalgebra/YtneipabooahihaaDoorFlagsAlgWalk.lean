/-
  The walk of FlagsAlgebra.
-/
import Derived.Test.YtneipabooahihaaDoorFlagsTurn
import Derived.Deep.Cut
import Derived.Deep.CutRange
import Derived.Deep.DeepCutAuto
import Derived.Deep.CutBlock
namespace Go.Proofs.YtneipabooahihaaDoor
open Go.RowKit Go.Proofs.Aid Go.Proofs.Fl Go.Sort Go.Lib

attribute [local go_sem ↓] Go.wp_at_zero Go.wp_at_succ
theorem own_short {s : Tx} (h : Own s) : s.length ≤ 20 := by
  unfold Own fname at h
  split at h
  · next h1 =>
    cases hf : five.find? (sameL s) with
    | none => rw [hf] at h; simp at h
    | some n =>
      rw [hf] at h
      have hn : n = s := congrArg Prod.fst h
      have hm := List.mem_of_find?_eq_some hf
      rw [← hn]
      have : n = five[0] ∨ n = five[1] ∨ n = five[2] ∨ n = five[3] ∨ n = five[4] := by simpa [five] using hm
      rcases this with rfl | rfl | rfl | rfl | rfl <;> decide
  · split at h
    · have := congrArg Prod.snd h; simp at this
    · split at h
      · have := congrArg Prod.snd h; simp at this
      · omega
theorem size_of {s : ByteArray} {t : Tx} (h : s.data.toList = t) : s.size = t.length := by
  rw [← h]; show s.data.size = _; simp
/-- The texts are short enough to be held. -/
def held (l : List Tx) : Bool := decide (l.length ≤ 40) && l.all fun t => decide (t.length ≤ 100)
set_option maxHeartbeats 4000000 in
set_option maxRecDepth 100000 in
theorem alg_small (va vb : Value) (A B : List Tx) (by_ : Int) (w : World) (ha : Sl w va A) (hb : Sl w vb B) (hg : SysAt w) (hA : held A = true) (hB : held B = true) :
    Calls Tryd.prog 6 #[va, vb, .int .i64 by_] w fun e w' => e = .returned (.bool true) ∧ Below w.heap.size w w' := by
  have hgl := hg.lt
  have cTA := texts_any va A w ha
  have cTB := texts_any vb B w hb
  change held A = true at hA
  have hA2 := hA
  have hB2 := hB
  unfold held at hA2 hB2
  rw [hA2] at cTA
  rw [hB2] at cTB
  rw [Bool.and_eq_true, decide_eq_true_eq, List.all_eq_true] at hA2 hB2
  have hAl := hA2.1
  have hBl := hB2.1
  have HA : Hid (∀ t ∈ A, t.length ≤ 1000000) := fun t ht => by have := hA2.2 t ht; simp at this; omega
  have HB : Hid (∀ t ∈ B, t.length ≤ 1000000) := fun t ht => by have := hB2.2 t ht; simp at this; omega
  have cF := flagged_any w hg
  have K0 : Hid (∀ W, Below w.heap.size w W → Sl W va A ∧ Sl W vb B ∧ SysAt W) := fun W h => ⟨ha.below h (Nat.le_refl _), hb.below h (Nat.le_refl _), hg.below h hgl⟩
  obtain ⟨a0, c0, rfl, hcp, _⟩ := ha
  obtain ⟨lenA, hlA⟩ : ∃ n, A.length = n := ⟨_, rfl⟩
  rw [hlA] at cTA K0 hAl hcp ⊢
  have HLA : Hid (A.length = lenA) := hlA
  clear hA2 hB2 hA hB hb hg hlA
  go_enter Tryd.func6, Tryd.ntmps6
  go_wp2_with fail
  refine cTA.mono ?_
  rintro e w1 ⟨rfl, hw⟩
  obtain rfl : w = w1 := hw.symm
  go_wp2_with fail
  refine cTB.mono ?_
  rintro e w1 ⟨rfl, hw⟩
  obtain rfl : w = w1 := hw.symm
  go_wp2_with fail
  refine cF.mono ?_
  rintro e w1 ⟨rfl, hb1⟩
  have cSA := set_any _ A w1 (K0.out w1 hb1).1 (by rw [HLA.out]; omega) HA.out (K0.out w1 hb1).2.2
  clear cTA cTB cF
  go_wp2_with fail
  refine cSA.mono ?_
  clear cSA
  rintro e w2 ⟨⟨hs0, vx, rfl, hx⟩ | ⟨hs0, rfl⟩, hb2⟩
  · have hb12 : Below w.heap.size w w2 := hb1.trans (hb2.mono hb1.size)
    have cSB := set_any _ B w2 (K0.out w2 hb12).2.1 (by omega) HB.out (K0.out w2 hb12).2.2
    go_wp2_with fail
    refine cSB.mono ?_
    clear cSB
    rintro e w3 ⟨⟨ht0, vy, rfl, hy⟩ | ⟨ht0, rfl⟩, hb3⟩
    · have hb13 : Below w.heap.size w w3 := hb12.trans (hb3.mono hb12.size)
      obtain ⟨ox, wx, lx⟩ := setOf_own hs0
      obtain ⟨oy, wy, ly⟩ := setOf_own ht0
      have hx3 : Sl w3 vx (setOf A).1 := hx.below hb3 (Nat.le_refl _)
      have HS : Hid ((setOf A).2 = 0) := hs0
      obtain ⟨x, hxe⟩ : ∃ x, (setOf A).1 = x := ⟨_, rfl⟩
      obtain ⟨y, hye⟩ : ∃ y, (setOf B).1 = y := ⟨_, rfl⟩
      have HX : Hid ((setOf A).1 = x) := hxe
      rw [hxe] at hx3 ox wx lx
      rw [hye] at hy oy wy ly
      have K3 : Hid (∀ W, Below w3.heap.size w3 W → Sl W vx x ∧ Sl W vy y) := fun W h => ⟨hx3.below h (Nat.le_refl _), hy.below h (Nat.le_refl _)⟩
      have OX : Hid (Ord x ∧ Ord y ∧ (∀ s ∈ x, Own s) ∧ ∀ s ∈ y, Own s) := ⟨ox, oy, wx, wy⟩
      clear hx hy hx3 hs0 ht0 hxe hye ox oy wx wy hb1 hb2 hb3 hb12
      go_upto_if 48 with fail
      go_cut [] (fun wx => Below w3.heap.size w3 wx)
      case first =>
        by_cases hl0 : 0 < lenA
        · have hl0' : (0 : Int) < (lenA : Int) := by omega
          have cP := pick_n by_ lenA hl0 (by omega) w3
          go_wp2_with fail
          refine cP.mono ?_
          rintro e w4 ⟨⟨k, hk, rfl⟩, hw⟩
          obtain rfl : w3 = w4 := hw.symm
          clear cP hw
          have hat0 := (K0.out w3 hb13).1
          obtain ⟨b, o, rfl, hatA⟩ : ∃ b o, a0 = some ⟨b, o, none⟩ ∧ ∀ W, Below w3.heap.size w3 W → ∀ (j : Nat) t, A[j]? = some t → W.cell? ⟨b, o + j, none⟩ = some (encStr t) := by
            obtain ⟨a', c', hv, _, hd⟩ := hat0
            rcases hd with h0 | ⟨b, o, hba, hat⟩
            · have := HLA.out; rw [h0] at this; simp at this; omega
            · cases hv
              subst hba
              refine ⟨b, o, rfl, fun W hW j t hj => ?_⟩
              have h5 := hat j t hj
              exact (hW.cell (p := ⟨b, _, none⟩) (World.block_lt_of_cell? _ _ h5)).trans h5
          have hkl : k < A.length := by rw [HLA.out]; exact hk
          have hc3 := hatA w3 (Below.refl _ _) k _ (List.getElem?_eq_getElem hkl)
          obtain ⟨sK, hsK⟩ : ∃ s : ByteArray, ⟨A[k].toArray⟩ = s := ⟨_, rfl⟩
          have hcK : w3.cell? ⟨b, o + k, none⟩ = some (.string sK) := by rw [← hsK]; exact hc3
          have HSK : Hid (encStr A[k] = .string sK) := by show encStr A[k] = _; rw [← hsK]
          have HD : Hid (∀ W, Below w3.heap.size w3 W → ∀ (j : Nat) t, (A.drop k)[j]? = some t → W.cell? ⟨b, o + k + j, none⟩ = some (encStr t)) := fun W hW j t hj => by
            rw [List.getElem?_drop] at hj
            have := hatA W hW _ t hj
            rw [show o + k + j = o + (k + j) by omega]; exact this
          have HT : Hid (∀ W, Below w3.heap.size w3 W → ∀ (j : Nat) t, (A.take k)[j]? = some t → W.cell? ⟨b, o + j, none⟩ = some (encStr t)) := fun W hW j t hj => by
            have hj1 : j < k := by
              have := (List.getElem?_eq_some_iff.1 hj).1
              rw [List.length_take] at this; omega
            rw [List.getElem?_take_of_lt hj1] at hj
            exact hatA W hW j t hj
          have hk0 : (0 : Int) ≤ (k : Int) := Int.natCast_nonneg _
          have hk1 : (k : Int) < (lenA : Int) := by omega
          have hk2 : (k : Int) ≤ (lenA : Int) := by omega
          have hkc : (k : Int) ≤ (c0 : Int) := by omega
          have hlc : (lenA : Int) ≤ (c0 : Int) := by omega
          have hbb : Below w3.heap.size w3 w3 := Below.refl _ _
          have hck : ¬ c0 = k := by omega
          have hdl : (A.drop k).length = lenA - k := by rw [List.length_drop, HLA.out]
          have htl : (A.take k).length = k := by rw [List.length_take, HLA.out]; omega
          have hbs3 := hb13.size
          have cT : ∀ (v : Value) (W : World), W.ownsRow w3.heap.size 9 1 v (0 + (lenA - k) + k + 1) ([] ++ (A.drop k).map encStr ++ (A.take k).map encStr ++ [A[k]].map encStr) → Below w3.heap.size w3 W →
              Calls Tryd.prog 28 #[v] W fun e w' => (∃ v8, e = .returned (.tuple #[v8, .nilIface]) ∧ Sl w' v8 x) ∧ Below w3.heap.size w3 w' := fun v W hrow hbel => by
            have hlen : (A.drop k ++ A.take k ++ [A[k]]).length = 0 + (lenA - k) + k + 1 := by simp [HLA.out]; omega
            have hr : Row W w3.heap.size v (A.drop k ++ A.take k ++ [A[k]]) := by
              unfold Row
              rw [hlen, List.map_append, List.map_append]
              rw [List.nil_append] at hrow
              exact hrow
            have htn : setOf (A.drop k ++ A.take k ++ [A[k]]) = setOf A := turned hkl HS.out
            refine (set_any v _ W (Sl.of_row hr) (by rw [hlen]; omega) (fun t ht => HA.out t ?_) ((K0.out w3 hb13).2.2.below hbel (Nat.lt_of_lt_of_le hgl hb13.size))).mono ?_
            · rw [List.mem_append, List.mem_append] at ht
              rcases ht with (h | h) | h
              · exact List.mem_of_mem_drop h
              · exact List.mem_of_mem_take h
              · rw [List.mem_singleton.1 h]; exact List.getElem_mem _
            · rw [htn, HX.out, HS.out]
              rintro e w8 ⟨⟨_, v8, rfl, h8⟩ | ⟨h, _⟩, hb8⟩
              · exact ⟨⟨v8, rfl, h8⟩, hbel.trans (hb8.mono hbel.size)⟩
              · exact absurd rfl h
          clear hat0 hatA hsK hc3
          go_wp2_with fail
          go_region_held3 (fun W => W.cell? ⟨b, o + k, none⟩ = some (.string sK) ∧ Below w3.heap.size w3 W)
            ((go_split_ands; refine keep_cell hcK ?_; repeat (first | (with_reducible assumption) | (with_reducible refine Below.drew ?_) | (with_reducible refine bel_alloc ?_ _))))
            (first
              | ((refine step_append_sl ?_ (.tmp 54) (.tmp 57) ?_ w3 (.slice (some ⟨w3.heap.size, 0, none⟩) 0 0) 0 [] ?_ ?_ b (o + k) (lenA - k) (c0 - k) (A.drop k) ?_ hdl (HD.out _ ?_) (by omega) ?_ _ rfl ?_; (focus rfl); (focus rfl); (focus rfl); (focus ((repeat (first | (with_reducible refine own_fresh ?_ ?_) | (with_reducible refine World.ownsRow.alloc ?_ _) | (with_reducible refine World.ownsRow.drew ?_))); (focus (first | rfl | (simp; done))); (focus (first | omega | (simp; omega))))); (focus rfl); (focus (repeat (first | (with_reducible assumption) | (with_reducible refine Below.drew ?_) | (with_reducible refine bel_alloc ?_ _)))); (focus (repeat (first | (with_reducible assumption) | (with_reducible refine Below.drew ?_) | (with_reducible refine bel_alloc ?_ _)))); intro v5 w5 hown5 hgrow5 hlie5 hbel5))
              | ((refine step_append_sl ?_ (.tmp 54) (.tmp 57) ?_ w3 (.slice (some ⟨w3.heap.size + 1, 0, none⟩) 0 0) 0 [] ?_ ?_ b (o + k) (lenA - k) (c0 - k) (A.drop k) ?_ hdl (HD.out _ ?_) (by omega) ?_ _ rfl ?_; (focus rfl); (focus rfl); (focus rfl); (focus ((repeat (first | (with_reducible refine own_fresh ?_ ?_) | (with_reducible refine World.ownsRow.alloc ?_ _) | (with_reducible refine World.ownsRow.drew ?_))); (focus (first | rfl | (simp; done))); (focus (first | omega | (simp; omega))))); (focus rfl); (focus (repeat (first | (with_reducible assumption) | (with_reducible refine Below.drew ?_) | (with_reducible refine bel_alloc ?_ _)))); (focus (repeat (first | (with_reducible assumption) | (with_reducible refine Below.drew ?_) | (with_reducible refine bel_alloc ?_ _)))); intro v5 w5 hown5 hgrow5 hlie5 hbel5))
              | ((refine step_append_sl ?_ (.tmp 58) (.tmp 61) ?_ w3 v5 (0 + (lenA - k)) ([] ++ (A.drop k).map encStr) ?_ ?_ b o k c0 (A.take k) ?_ htl (HT.out _ ?_) (by omega) ?_ _ rfl ?_; (focus rfl); (focus rfl); (focus rfl); (focus ((repeat (first | (with_reducible exact hown5) | (with_reducible refine World.ownsRow.alloc ?_ _) | (with_reducible refine World.ownsRow.drew ?_))); done)); (focus rfl); (focus (repeat (first | (with_reducible assumption) | (with_reducible refine Below.drew ?_) | (with_reducible refine bel_alloc ?_ _)))); (focus (repeat (first | (with_reducible assumption) | (with_reducible refine Below.drew ?_) | (with_reducible refine bel_alloc ?_ _)))); intro v6 w6 hown6 hgrow6 hlie6 hbel6))
              | ((refine step_append_sl ?_ (.tmp 62) (.tmp 67) ?_ w3 v6 (0 + (lenA - k) + k) ([] ++ (A.drop k).map encStr ++ (A.take k).map encStr) ?_ ?_ (w6.heap.size) 0 1 1 [A[k]] ?_ rfl (one_at ?_ HSK.out) (by omega) ?_ _ rfl ?_; (focus rfl); (focus rfl); (focus rfl); (focus ((repeat (first | (with_reducible exact hown6) | (with_reducible refine World.ownsRow.alloc ?_ _) | (with_reducible refine World.ownsRow.drew ?_))); done)); (focus rfl); (focus (simp)); (focus (repeat (first | (with_reducible assumption) | (with_reducible refine Below.drew ?_) | (with_reducible refine bel_alloc ?_ _)))); intro v7 w7 hown7 hgrow7 hlie7 hbel7))
              | ((refine step_append_sl ?_ (.tmp 62) (.tmp 67) ?_ w3 v6 (0 + (lenA - k) + k) ([] ++ (A.drop k).map encStr ++ (A.take k).map encStr) ?_ ?_ (w5.heap.size) 0 1 1 [A[k]] ?_ rfl (one_at ?_ HSK.out) (by omega) ?_ _ rfl ?_; (focus rfl); (focus rfl); (focus rfl); (focus ((repeat (first | (with_reducible exact hown6) | (with_reducible refine World.ownsRow.alloc ?_ _) | (with_reducible refine World.ownsRow.drew ?_))); done)); (focus rfl); (focus (exact far_cell (by simp) hgrow6 (own_ne hown5 (Nat.le_refl _)))); (focus (repeat (first | (with_reducible assumption) | (with_reducible refine Below.drew ?_) | (with_reducible refine bel_alloc ?_ _)))); intro v7 w7 hown7 hgrow7 hlie7 hbel7))
              | ((refine step_append_sl ?_ (.tmp 62) (.tmp 67) ?_ w3 v6 (0 + (lenA - k) + k) ([] ++ (A.drop k).map encStr ++ (A.take k).map encStr) ?_ ?_ (w3.heap.size + 1) 0 1 1 [A[k]] ?_ rfl (one_at ?_ HSK.out) (by omega) ?_ _ rfl ?_; (focus rfl); (focus rfl); (focus rfl); (focus ((repeat (first | (with_reducible exact hown6) | (with_reducible refine World.ownsRow.alloc ?_ _) | (with_reducible refine World.ownsRow.drew ?_))); done)); (focus rfl); (focus (refine far_cell (far_cell ?_ hgrow5 ?_) hgrow6 (lie_ne hlie5 rfl ?_ ?_); (focus simp); (focus simp [Value.ownBlock]); (focus simp); (focus (first | (simp; done) | (simp; omega))))); (focus (repeat (first | (with_reducible assumption) | (with_reducible refine Below.drew ?_) | (with_reducible refine bel_alloc ?_ _)))); intro v7 w7 hown7 hgrow7 hlie7 hbel7))
              | ((refine step_append_sl ?_ (.tmp 62) (.tmp 67) ?_ w3 v6 (0 + (lenA - k) + k) ([] ++ (A.drop k).map encStr ++ (A.take k).map encStr) ?_ ?_ (w3.heap.size) 0 1 1 [A[k]] ?_ rfl (one_at ?_ HSK.out) (by omega) ?_ _ rfl ?_; (focus rfl); (focus rfl); (focus rfl); (focus ((repeat (first | (with_reducible exact hown6) | (with_reducible refine World.ownsRow.alloc ?_ _) | (with_reducible refine World.ownsRow.drew ?_))); done)); (focus rfl); (focus (refine far_cell (far_cell ?_ hgrow5 ?_) hgrow6 (lie_ne hlie5 rfl ?_ ?_); (focus simp); (focus simp [Value.ownBlock]); (focus simp); (focus (first | (simp; done) | (simp; omega))))); (focus (repeat (first | (with_reducible assumption) | (with_reducible refine Below.drew ?_) | (with_reducible refine bel_alloc ?_ _)))); intro v7 w7 hown7 hgrow7 hlie7 hbel7))
              | (go_at_call 28; refine (cT v7 w7 hown7 hbel7).mono ?_; rintro e w8 ⟨⟨v8, rfl, hs8⟩, hbel8⟩))
          all_goals
            have cE := equal_txs v8 vx x x w8 hs8 (K3.out w8 hbel8).1 (by omega) (by omega)
            rw [decide_eq_true rfl] at cE
            clear hs8 cT
            go_wp2_with fail
            refine cE.mono ?_
            rintro e w9 ⟨rfl, q9, rfl⟩
            go_wp2_with fail
            go_meet
            case rel => exact below_drewN hbel8 q9
        · have hl0' : ¬ (0 : Int) < (lenA : Int) := by omega
          go_wp2_with fail
          go_meet
          case rel => exact Below.refl _ _
      case rest =>
        have hbc : Below w3.heap.size w3 wc := hcut
        have hbwc : Below w.heap.size w wc := hb13.trans (hbc.mono hb13.size)
        have hKx := K3.out wc hbc
        have hgc := (K0.out wc hbwc).2.2
        have cO := or_any vx vy x y wc hKx.1 hKx.2 (by omega) (by omega) hgc
        clear hcut
        go_wp2_with fail
        refine cO.mono ?_
        rintro e w4 ⟨⟨vo, rfl, hso⟩, hb4⟩
        have hbc4 : Below w3.heap.size w3 w4 := hbc.trans (hb4.mono hbc.size)
        have hbw4 : Below w.heap.size w w4 := hb13.trans (hbc4.mono hb13.size)
        have cN := not_any vx vy x y w4 (K3.out w4 hbc4).1 (K3.out w4 hbc4).2 (by omega) (by omega) (K0.out w4 hbw4).2.2
        clear cO
        go_wp2_with fail
        refine cN.mono ?_
        rintro e w5 ⟨⟨vn, rfl, hsn⟩, hb5⟩
        have hbc5 : Below w3.heap.size w3 w5 := hbc4.trans (hb5.mono hbc4.size)
        have hbw5 : Below w.heap.size w w5 := hb13.trans (hbc5.mono hb13.size)
        have hso5 : Sl w5 vo (order (x ++ y)) := hso.below hb5 (Nat.le_refl _)
        obtain ⟨OR, hOR⟩ : ∃ l, order (x ++ y) = l := ⟨_, rfl⟩
        obtain ⟨NT, hNT⟩ : ∃ l, order (without x (order y)) = l := ⟨_, rfl⟩
        have hol : OR.length ≤ 24 := by rw [← hOR]; exact Nat.le_trans (order_length _) (by simp; omega)
        have hnl : NT.length ≤ 12 := by rw [← hNT]; exact Nat.le_trans (order_length _) (Nat.le_trans (List.length_filter_le _ _) lx)
        rw [hOR] at hso5
        rw [hNT] at hsn
        have HOR : Hid (order (x ++ y) = OR) := hOR
        have HNT : Hid (order (without x (order y)) = NT) := hNT
        have K5 : Hid (∀ W, Below w5.heap.size w5 W → Sl W vo OR ∧ Sl W vn NT ∧ Sl W vx x ∧ Sl W vy y ∧ SysAt W ∧ Below w.heap.size w W) := fun W h => by
          have h3 := hbc5.trans (h.mono hbc5.size)
          have h0 := hbw5.trans (h.mono hbw5.size)
          exact ⟨hso5.below h (Nat.le_refl _), hsn.below h (Nat.le_refl _), (K3.out W h3).1, (K3.out W h3).2, (K0.out W h0).2.2, h0⟩
        clear cN hso hso5 hsn hOR hNT K0 K3 hb4 hb5 hbc hbc4 hbw4 hbc5 hbwc hKx hgc
        go_upto_region 15 with fail
        go_cut [122] (fun s wx => s = .bool false ∧ Below w5.heap.size w5 wx)
        case first =>
          have c1 := K5.out w5 (Below.refl _ _)
          have cA := or_any vy vx y x w5 c1.2.2.2.1 c1.2.2.1 (by omega) (by omega) c1.2.2.2.2.1
          rw [Fl.or_comm, HOR.out] at cA
          clear c1
          go_wp2_with fail
          refine cA.mono ?_
          clear cA
          rintro e w6 ⟨⟨v6, rfl, h6⟩, hb6⟩
          have c1 := K5.out w6 hb6
          have cA := equal_txs vo v6 OR OR w6 c1.1 h6 (by omega) (by omega)
          rw [decide_eq_true rfl] at cA
          clear c1 h6
          go_wp2_with fail
          refine cA.mono ?_
          clear cA
          rintro e w7 ⟨rfl, q7, rfl⟩
          have hb7 : Below w5.heap.size w5 (w6.drewN q7) := below_drewN hb6 q7
          have c1 := K5.out _ hb7
          have cA := or_any vx vx x x _ c1.2.2.1 c1.2.2.1 (by omega) (by omega) c1.2.2.2.2.1
          rw [Fl.or_self OX.out.1] at cA
          clear c1
          go_wp2_with fail
          refine cA.mono ?_
          clear cA
          rintro e w8 ⟨⟨v8, rfl, h8⟩, hb8⟩
          have hb58 : Below w5.heap.size w5 w8 := hb7.trans (hb8.mono hb7.size)
          have c1 := K5.out w8 hb58
          have cA := equal_txs v8 vx x x w8 h8 c1.2.2.1 (by omega) (by omega)
          rw [decide_eq_true rfl] at cA
          clear c1 h8
          go_wp2_with fail
          refine cA.mono ?_
          clear cA
          rintro e w9 ⟨rfl, q9, rfl⟩
          have hb9 : Below w5.heap.size w5 (w8.drewN q9) := below_drewN hb58 q9
          have c1 := K5.out _ hb9
          have cA := not_any vx vx x x _ c1.2.2.1 c1.2.2.1 (by omega) (by omega) c1.2.2.2.2.1
          rw [Fl.not_self] at cA
          clear c1
          go_wp2_with fail
          refine cA.mono ?_
          clear cA
          rintro e w10 ⟨⟨v10, rfl, a10, c10, rfl, _, _⟩, hb10⟩
          have hb510 : Below w5.heap.size w5 w10 := hb9.trans (hb10.mono hb9.size)
          have c1 := K5.out w10 hb510
          have cA := not_any vo vy OR y w10 c1.1 c1.2.2.2.1 (by omega) (by omega) c1.2.2.2.2.1
          have hno : order (without OR (order y)) = NT := by rw [← HOR.out, Fl.not_or]; exact HNT.out
          rw [hno] at cA
          clear c1 hno
          go_wp2_with fail
          refine cA.mono ?_
          clear cA
          rintro e w11 ⟨⟨v11, rfl, h11⟩, hb11⟩
          have hb511 : Below w5.heap.size w5 w11 := hb510.trans (hb11.mono hb510.size)
          have c1 := K5.out w11 hb511
          have cA := equal_txs v11 vn NT NT w11 h11 c1.2.1 (by omega) (by omega)
          rw [decide_eq_true rfl] at cA
          clear c1 h11
          go_wp2_with fail
          refine cA.mono ?_
          clear cA
          rintro e w12 ⟨rfl, q12, rfl⟩
          have hb12 : Below w5.heap.size w5 (w11.drewN q12) := below_drewN hb511 q12
          have c1 := K5.out _ hb12
          have cA := or_any vn vy NT y _ c1.2.1 c1.2.2.2.1 (by omega) (by omega) c1.2.2.2.2.1
          have hno : order (NT ++ y) = OR := by rw [← HNT.out, Fl.or_not]; exact HOR.out
          rw [hno] at cA
          clear c1 hno
          go_wp2_with fail
          refine cA.mono ?_
          clear cA
          rintro e w13 ⟨⟨v13, rfl, h13⟩, hb13'⟩
          have hb513 : Below w5.heap.size w5 w13 := hb12.trans (hb13'.mono hb12.size)
          have c1 := K5.out w13 hb513
          have cA := equal_txs v13 vo OR OR w13 h13 c1.1 (by omega) (by omega)
          rw [decide_eq_true rfl] at cA
          clear c1 h13
          go_wp2_with fail
          refine cA.mono ?_
          clear cA
          rintro e w14 ⟨rfl, q14, rfl⟩
          go_wp2_with fail
          go_meet
          case rel => exact ⟨rfl, below_drewN hb513 q14⟩
        case rest =>
          obtain ⟨rfl, hbr⟩ := hcut
          have hvo := (K5.out w5 (Below.refl _ _)).1
          obtain ⟨ao, co, rfl, _, _⟩ := hvo
          obtain ⟨no, hno⟩ : ∃ n, OR.length = n := ⟨_, rfl⟩
          rw [hno] at K5 hol ⊢
          have HNO : Hid (OR.length = no) := hno
          clear hno
          go_wp2_with fail
          go_loopw [16] (fun i wr => ∃ k : Nat, i = .int .i64 (k : Int) ∧ k ≤ no ∧ Below w5.heap.size w5 wr) (fun i _ => no - (intOf i).toNat)
          case atStart => exact ⟨0, rfl, Nat.zero_le _, hbr⟩
          case round =>
            obtain ⟨k, rfl, hk, hbW⟩ := hrel
            have c1 := K5.out _ hbW
            by_cases hlt : k < no
            · obtain ⟨a', c', hv, _, hd⟩ := c1.1
              rw [HNO.out] at hv
              cases hv
              rcases hd with h0 | ⟨b, o, rfl, hat⟩
              · have := HNO.out; rw [h0] at this; simp at this; omega
              have hkl : k < OR.length := by rw [HNO.out]; exact hlt
              have hcell := hat k _ (List.getElem?_eq_getElem hkl)
              have hmem : OR[k] ∈ order (x ++ y) := by rw [HOR.out]; exact List.getElem_mem _
              have hown : Own OR[k] := or_own OX.out.2.2.1 OX.out.2.2.2 _ hmem
              have hnh := not_has x y OR[k]
              rw [HNT.out] at hnh
              have hoh := or_has hmem
              obtain ⟨t, ht⟩ : ∃ t, OR[k] = t := ⟨_, rfl⟩
              rw [ht] at hcell hown hnh hoh
              obtain ⟨s, hse⟩ : ∃ s : ByteArray, ⟨t.toArray⟩ = s := ⟨_, rfl⟩
              have hst : s.data.toList = t := by rw [← hse]
              have hcs : wr.cell? ⟨b, o + k, none⟩ = some (.string s) := by rw [← hse]; exact hcell
              have hsz : s.size ≤ 1000000 := by
                have hl : s.data.toList.length = s.size := by show s.data.toList.length = s.data.size; simp
                have := own_short hown
                rw [← hl, hst]; omega
              have cN := name_any s wr hsz c1.2.2.2.2.1 (fun W => Tryd.strings_HasPrefix s ⟨#[92]⟩ W)
              rw [hst, hown] at cN
              have HST : Hid (s.data.toList = t) := hst
              have HOW : Hid (Own t) := hown
              have HH : Hid (NT.contains t = (x.contains t && !y.contains t) ∧ (x.contains t || y.contains t) = true) := ⟨hnh, hoh⟩
              clear hat hcell hmem hown hnh hoh ht hse hst hsz c1
              go_wp2_with fail
              refine cN.mono ?_
              clear cN
              rintro e wA ⟨⟨_, n, hn, rfl⟩ | ⟨h0, _⟩, qA, rfl⟩
              · have hns : (n.toList == s.toList) = true := by
                  rw [Lib.toList_data, Lib.toList_data, hn, HST.out]; simp
                have hbA : Below w5.heap.size w5 (wr.drewN qA) := below_drewN hbW qA
                have c1 := K5.out _ hbA
                have cA := has_txs vn NT s _ c1.2.1 (by omega) (by rw [size_of HST.out]; have := own_short HOW.out; omega) c1.2.2.2.2.1
                rw [HST.out, has_own HOW.out, HH.out.1] at cA
                obtain ⟨X, hX⟩ : ∃ X, x.contains t = X := ⟨_, rfl⟩
                obtain ⟨Y, hY⟩ : ∃ Y, y.contains t = Y := ⟨_, rfl⟩
                have hXY := HH.out.2
                rw [hX, hY] at cA hXY
                have HX' : Hid (x.contains t = X) := hX
                have HY' : Hid (y.contains t = Y) := hY
                clear c1 hn hX hY
                go_wp2_with fail
                refine cA.mono ?_
                clear cA
                rintro e wB ⟨rfl, hbB⟩
                have hb5B : Below w5.heap.size w5 wB := hbA.trans (hbB.mono hbA.size)
                have c1 := K5.out _ hb5B
                have cA := has_txs vx x s _ c1.2.2.1 (by omega) (by rw [size_of HST.out]; have := own_short HOW.out; omega) c1.2.2.2.2.1
                rw [HST.out, has_own HOW.out, HX'.out] at cA
                clear c1
                go_wp2_with fail
                refine cA.mono ?_
                clear cA
                rintro e wC ⟨rfl, hbC⟩
                have hb5C : Below w5.heap.size w5 wC := hb5B.trans (hbC.mono hb5B.size)
                cases X
                · obtain rfl : Y = true := by simpa using hXY
                  have c1 := K5.out _ hb5C
                  have cA := has_txs vx x s _ c1.2.2.1 (by omega) (by rw [size_of HST.out]; have := own_short HOW.out; omega) c1.2.2.2.2.1
                  rw [HST.out, has_own HOW.out, HX'.out] at cA
                  clear c1
                  go_wp2_with fail
                  refine cA.mono ?_
                  clear cA
                  rintro e wD ⟨rfl, hbD⟩
                  have hb5D : Below w5.heap.size w5 wD := hb5C.trans (hbD.mono hb5C.size)
                  have c1 := K5.out _ hb5D
                  have cA := has_txs vy y s _ c1.2.2.2.1 (by omega) (by rw [size_of HST.out]; have := own_short HOW.out; omega) c1.2.2.2.2.1
                  rw [HST.out, has_own HOW.out, HY'.out] at cA
                  clear c1
                  go_wp2_with fail
                  refine cA.mono ?_
                  clear cA
                  rintro e wE ⟨rfl, hbE⟩
                  go_wp2_with fail
                  go_roundw
                  case rel => exact ⟨k + 1, by go_num, by omega, hb5D.trans (hbE.mono hb5D.size)⟩
                  case measure => simp [intOf]; omega
                · have c1 := K5.out _ hb5C
                  have cA := has_txs vy y s _ c1.2.2.2.1 (by omega) (by rw [size_of HST.out]; have := own_short HOW.out; omega) c1.2.2.2.2.1
                  rw [HST.out, has_own HOW.out, HY'.out] at cA
                  clear c1 hXY
                  cases Y
                  all_goals
                    go_wp2_with fail
                    refine cA.mono ?_
                    clear cA
                    rintro e wD ⟨rfl, hbD⟩
                    have hb5D : Below w5.heap.size w5 wD := hb5C.trans (hbD.mono hb5C.size)
                    have c1 := K5.out _ hb5D
                    have cA := has_txs vx x s _ c1.2.2.1 (by omega) (by rw [size_of HST.out]; have := own_short HOW.out; omega) c1.2.2.2.2.1
                    rw [HST.out, has_own HOW.out, HX'.out] at cA
                    clear c1
                    go_wp2_with fail
                    refine cA.mono ?_
                    clear cA
                    rintro e wE ⟨rfl, hbE⟩
                    go_wp2_with fail
                    go_roundw
                    case rel => exact ⟨k + 1, by go_num, by omega, hb5D.trans (hbE.mono hb5D.size)⟩
                    case measure => simp [intOf]; omega
              · exact absurd rfl h0
            · have hlt' : ¬ (k : Int) < (no : Int) := by omega
              have hbw := c1.2.2.2.2.2
              clear c1 K5
              go_wp2_with fail
              go_ret
              exact ⟨rfl, hbw⟩
    · clear K0
      go_wp2_with fail
      go_ret
      exact ⟨rfl, hb12.trans (hb3.mono hb12.size)⟩
  · have hb12 : Below w.heap.size w w2 := hb1.trans (hb2.mono hb1.size)
    have cSB := set_any _ B w2 (K0.out w2 hb12).2.1 (by omega) HB.out (K0.out w2 hb12).2.2
    go_wp2_with fail
    refine cSB.mono ?_
    clear cSB K0
    rintro e w3 ⟨⟨ht0, vy, rfl, hy⟩ | ⟨ht0, rfl⟩, hb3⟩
    · go_wp2_with fail
      go_ret
      exact ⟨rfl, hb12.trans (hb3.mono hb12.size)⟩
    · go_wp2_with fail
      go_ret
      exact ⟨rfl, hb12.trans (hb3.mono hb12.size)⟩
set_option maxHeartbeats 1000000 in
set_option maxRecDepth 100000 in
theorem alg_big (va vb : Value) (A B : List Tx) (by_ : Int) (w : World) (ha : Sl w va A) (hb : Sl w vb B) (h : held A = false ∨ held B = false) :
    Calls Tryd.prog 6 #[va, vb, .int .i64 by_] w fun e w' => e = .returned (.bool true) ∧ Below w.heap.size w w' := by
  have cA : ∀ W, W = w → Calls Tryd.prog 26 #[va] W fun e w' => e = .returned (.bool (held A)) ∧ w' = W := fun W e => by subst e; exact texts_any va A W ha
  have cB : ∀ W, W = w → Calls Tryd.prog 26 #[vb] W fun e w' => e = .returned (.bool (held B)) ∧ w' = W := fun W e => by subst e; exact texts_any vb B W hb
  clear ha hb
  cases hA : held A with
  | false =>
    rw [hA] at cA
    clear h cB
    go_enter Tryd.func6, Tryd.ntmps6
    go_wp2_with fail
    refine (cA _ rfl).mono ?_
    rintro e w1 ⟨rfl, hw⟩
    obtain rfl : w = w1 := hw.symm
    go_wp2_with fail
    go_ret
    exact ⟨rfl, Below.refl _ _⟩
  | true =>
    have hB : held B = false := by
      rcases h with h | h
      · rw [hA] at h; cases h
      · exact h
    rw [hA] at cA
    rw [hB] at cB
    clear h hA hB
    go_enter Tryd.func6, Tryd.ntmps6
    go_wp2_with fail
    refine (cA _ rfl).mono ?_
    rintro e w1 ⟨rfl, hw⟩
    obtain rfl : w = w1 := hw.symm
    go_wp2_with fail
    refine (cB _ rfl).mono ?_
    rintro e w1 ⟨rfl, hw⟩
    obtain rfl : w = w1 := hw.symm
    go_wp2_with fail
    go_ret
    exact ⟨rfl, Below.refl _ _⟩
end Go.Proofs.YtneipabooahihaaDoor
