/-
  The walk of FlagsTell.
-/
import Derived.Test.YtneipabooahihaaGreatDoorTellAid
import Derived.Deep.Cut
import Derived.Deep.CutRange
import Derived.Deep.DeepCutAuto
import Derived.Deep.CutBlock
namespace Go.Proofs.YtneipabooahihaaGreatDoor
open Go.RowKit Go.Proofs.Aid Go.Proofs.Fl Go.Sort Go.Lib

theorem own_fresh {w : World} {base H : Nat} (hH : w.heap.size = H) (hb : base ≤ H) : (w.alloc (.cells #[] 9)).ownsRow base 9 1 (.slice (some ⟨H, 0, none⟩) 0 0) 0 [] := by
  subst hH
  exact World.ownsRow_lit w #[] 0 hb (by decide) rfl
def held (l : List Tx) : Bool := decide (l.length ≤ 40) && l.all fun t => decide (t.length ≤ 100)
set_option maxHeartbeats 4000000 in
set_option maxRecDepth 100000 in
theorem tell_small (va vb : Value) (A B : List Tx) (s : ByteArray) (w : World) (ha : Sl w va A) (hb : Sl w vb B) (hg : SysAt w) (he : ErrType w) (hA : held A = true) (hB : held B = true) (hs : s.size ≤ 100) :
    Calls Tryz.prog 4 #[va, vb, .string s] w fun e w' => e = .returned (.bool true) ∧ Below w.heap.size w w' := by
  have hgl := hg.lt
  have cTA := texts_any va A w ha
  have cTB := texts_any vb B w hb
  have hA2 := hA
  have hB2 := hB
  unfold held at hA2 hB2
  rw [hA2] at cTA
  rw [hB2] at cTB
  rw [Bool.and_eq_true, decide_eq_true_eq, List.all_eq_true] at hA2 hB2
  have HA : Hid (A.length ≤ 40 ∧ ∀ t ∈ A, t.length ≤ 900000) := ⟨hA2.1, fun t ht => by have := hA2.2 t ht; simp at this; omega⟩
  have HB : Hid (B.length ≤ 40 ∧ ∀ t ∈ B, t.length ≤ 900000) := ⟨hB2.1, fun t ht => by have := hB2.2 t ht; simp at this; omega⟩
  have K0 : Hid (∀ W, Below w.heap.size w W → Sl W va A ∧ Sl W vb B ∧ SysAt W ∧ ErrType W) := fun W h => ⟨ha.below h (Nat.le_refl _), hb.below h (Nat.le_refl _), hg.below h hgl, he.below h⟩
  have cR := ref_name s w (by omega)
  obtain ⟨ec, hec⟩ : ∃ ec, (fname s.data.toList).2 = ec := ⟨_, rfl⟩
  have HEC : Hid ((fname s.data.toList).2 = ec) := hec
  rw [hec] at cR
  have hs' : ¬ (100 : Int) < (s.size : Int) := by omega
  clear hA2 hB2 hA hB ha hb hg he hec
  go_enter Tryz.func4, Tryz.ntmps4
  go_wp2_with fail
  refine cTA.mono ?_
  rintro e w1 ⟨rfl, hw⟩
  obtain rfl : w = w1 := hw.symm
  go_wp2_with fail
  refine cTB.mono ?_
  rintro e w1 ⟨rfl, hw⟩
  obtain rfl : w = w1 := hw.symm
  clear cTA cTB
  go_wp2_with fail
  refine cR.mono ?_
  clear cR
  rintro e w1 ⟨⟨n, rfl, hn⟩, hb1⟩
  have HN : Hid (n.data.toList = (fname s.data.toList).1) := hn
  have cN := name_is s n w1 (by omega) (K0.out w1 hb1).2.2.1 hn
  rw [HEC.out] at cN
  clear hn
  go_wp2_with fail
  refine cN.mono ?_
  clear cN
  rintro e w2 ⟨⟨v2, rfl, h2⟩, q2, rfl⟩
  have hb2 : Below w.heap.size w (w1.drewN q2) := below_drewN hb1 q2
  have cB := bare_is v2 ec _ h2 (K0.out _ hb2).2.2.2
  clear h2 hb1
  go_wp2_with fail
  refine cB.mono ?_
  clear cB
  rintro e w3 ⟨rfl, hb3⟩
  have hb03 : Below w.heap.size w w3 := hb2.trans (hb3.mono hb2.size)
  clear hb2 hb3
  have cS := ref_set va A w3 (K0.out w3 hb03).1 (by have := HA.out.1; omega) HA.out.2
  obtain ⟨x, hx⟩ : ∃ x, (setOf A).1 = x := ⟨_, rfl⟩
  obtain ⟨ed, hed⟩ : ∃ ed, (setOf A).2 = ed := ⟨_, rfl⟩
  have HX : Hid ((setOf A).1 = x ∧ (setOf A).2 = ed) := ⟨hx, hed⟩
  rw [hx, hed] at cS
  clear hx hed
  go_wp2_with fail
  refine cS.mono ?_
  clear cS
  rintro e w4 ⟨⟨vx, rfl, hsx⟩, hb4⟩
  have hb04 : Below w.heap.size w w4 := hb03.trans (hb4.mono hb03.size)
  clear hb03 hb4
  have cS := set_is va A w4 (K0.out w4 hb04).1 (by have := HA.out.1; omega) (fun t ht => Nat.le_trans (HA.out.2 t ht) (by decide)) (K0.out w4 hb04).2.2.1
  rw [HX.out.1, HX.out.2] at cS
  go_wp2_with fail
  refine cS.mono ?_
  clear cS
  rintro e w5 ⟨⟨vz, v5, rfl, hsz, h5⟩, hb5⟩
  have hb05 : Below w.heap.size w w5 := hb04.trans (hb5.mono hb04.size)
  have hsx5 : Sl w5 vx x := hsx.below hb5 (Nat.le_refl _)
  have cB := bare_is v5 ed _ h5 (K0.out _ hb05).2.2.2
  clear hsx hb04 hb5 h5
  go_wp2_with fail
  refine cB.mono ?_
  clear cB
  rintro e w6 ⟨rfl, hb6⟩
  have hb06 : Below w.heap.size w w6 := hb05.trans (hb6.mono hb05.size)
  have hsx6 : Sl w6 vx x := hsx5.below hb6 (Nat.le_refl _)
  have hsz6 : Sl w6 vz x := hsz.below hb6 (Nat.le_refl _)
  have hgx := setOf_good A
  rw [HX.out.1] at hgx
  obtain ⟨ox, wx, lx⟩ := hgx
  have cE := same_is vz vx x w6 hsz6 hsx6 (by omega)
  clear hsx5 hsz hb05 hb6 hsz6
  go_wp2_with fail
  refine cE.mono ?_
  clear cE
  rintro e w7 ⟨rfl, hb7⟩
  have hb07 : Below w.heap.size w w7 := hb06.trans (hb7.mono hb06.size)
  have hsx7 : Sl w7 vx x := hsx6.below hb7 (Nat.le_refl _)
  clear hsx6 hb06 hb7
  have cS := ref_set vb B w7 (K0.out w7 hb07).2.1 (by have := HB.out.1; omega) HB.out.2
  have hgy := setOf_good B
  obtain ⟨y, hy⟩ : ∃ y, (setOf B).1 = y := ⟨_, rfl⟩
  obtain ⟨ef, hef⟩ : ∃ ef, (setOf B).2 = ef := ⟨_, rfl⟩
  rw [hy, hef] at cS
  rw [hy] at hgy
  obtain ⟨oy, wy, ly⟩ := hgy
  clear hy hef
  go_wp2_with fail
  refine cS.mono ?_
  clear cS
  rintro e w8 ⟨⟨vy, rfl, hsy⟩, hb8⟩
  have hb08 : Below w.heap.size w w8 := hb07.trans (hb8.mono hb07.size)
  have hsx8 : Sl w8 vx x := hsx7.below hb8 (Nat.le_refl _)
  clear hsx7 hb07 hb8
  have OX : Hid (Ord x ∧ Ord y ∧ (∀ s ∈ x, Own s) ∧ ∀ s ∈ y, Own s) := ⟨ox, oy, wx, wy⟩
  have K8 : Hid (∀ W, Below w8.heap.size w8 W → Sl W vx x ∧ Sl W vy y ∧ SysAt W ∧ Below w.heap.size w W) := fun W h => by
    have h0 := hb08.trans (h.mono hb08.size)
    exact ⟨hsx8.below h (Nat.le_refl _), hsy.below h (Nat.le_refl _), (K0.out W h0).2.2.1, h0⟩
  clear hsx8 hsy ox oy wx wy K0
  have c8 := K8.out w8 (Below.refl _ _)
  have cA := or_any vx vy x y w8 c8.1 c8.2.1 (by omega) (by omega) c8.2.2.1
  clear c8
  go_wp2_with fail
  refine cA.mono ?_
  clear cA
  rintro e w9 ⟨⟨vo, rfl, hso⟩, hb9⟩
  obtain ⟨OR, hOR⟩ : ∃ l, order (x ++ y) = l := ⟨_, rfl⟩
  have HOR : Hid (order (x ++ y) = OR) := hOR
  have hol : OR.length ≤ 24 := by rw [← hOR]; exact Nat.le_trans (order_length _) (by simp; omega)
  rw [hOR] at hso
  have K9 : Hid (∀ W, Below w9.heap.size w9 W → Sl W vo OR ∧ Sl W vx x ∧ Sl W vy y ∧ SysAt W ∧ Below w.heap.size w W) := fun W h => by
    have h8 := hb9.trans (h.mono hb9.size)
    exact ⟨hso.below h (Nat.le_refl _), K8.out W h8⟩
  clear hso hOR K8 hb9
  have hf : (w9.alloc (.cells #[] 9)).ownsRow w9.heap.size 9 1 (.slice (some ⟨w9.heap.size, 0, none⟩) 0 0) 0 [] := own_fresh rfl (Nat.le_refl _)
  have hbf : Below w9.heap.size w9 (w9.alloc (.cells #[] 9)) := (Below.refl _ _).alloc (Nat.le_refl _) _
  have hxf := (K9.out _ hbf).2.1
  have hfs := hbf.size
  go_wp2_with (first
    | (at_builtin; refine wpList_append_sl rfl (.tmp 75) (.tmp 76) rfl w9.heap.size _ 0 [] (by rfl) hf _ x (by rfl) hxf (by omega) hfs ?_; intro v10 w10 hown10 hg10; have hb10 : Below w9.heap.size w9 w10 := hbf.grown hg10 hfs (fun k e => (hf.lt k e).1); have hy10 := (K9.out _ hb10).2.2.1; have hs10 := hb10.size)
    | (at_builtin; refine wpList_append_sl rfl (.tmp 77) (.tmp 78) rfl w9.heap.size _ _ _ (by rfl) hown10 _ y (by rfl) hy10 (by omega) hs10 ?_; intro v11 w11 hown11 hg11; have hb11 : Below w9.heap.size w9 w11 := hb10.grown hg11 hs10 (fun k e => (hown10.lt k e).1))
    | fail)
  have hrx : Row w11 w9.heap.size v11 (x ++ y) := by
    unfold Row
    rw [List.length_append, List.map_append]
    rw [Nat.zero_add, List.nil_append] at hown11
    exact hown11
  have cO := ref_ordered v11 (x ++ y) w11 (Sl.of_row hrx) (by simp; omega) (fun t ht => by
    rcases List.mem_append.1 ht with h | h
    · have := own_short (OX.out.2.2.1 t h); omega
    · have := own_short (OX.out.2.2.2 t h); omega)
  rw [HOR.out] at cO
  clear hown10 hown11 hf hg10 hg11 hbf hb10 hxf hy10 hfs hs10 hrx
  go_wp2_with fail
  refine cO.mono ?_
  clear cO
  rintro e w12 ⟨⟨v12, rfl, h12⟩, hb12⟩
  have hb912 : Below w9.heap.size w9 w12 := hb11.trans (hb12.mono hb11.size)
  have cE := same_is vo v12 OR w12 (K9.out w12 hb912).1 h12 (by omega)
  clear hb11 hb12 h12
  go_wp2_with fail
  refine cE.mono ?_
  clear cE
  rintro e w13 ⟨rfl, hb13⟩
  have hb913 : Below w9.heap.size w9 w13 := hb912.trans (hb13.mono hb912.size)
  have c1 := K9.out w13 hb913
  have cA := not_any vx vy x y w13 c1.2.1 c1.2.2.1 (by omega) (by omega) c1.2.2.2.1
  rw [not_is OX.out.1] at cA
  obtain ⟨NT, hNT⟩ : ∃ l, without x y = l := ⟨_, rfl⟩
  have hnl : NT.length ≤ 12 := by rw [← hNT]; exact Nat.le_trans (List.length_filter_le _ _) lx
  have HNT : Hid (without x y = NT) := hNT
  rw [hNT] at cA
  clear hNT c1 hb13 hb912
  go_wp2_with fail
  refine cA.mono ?_
  clear cA
  rintro e w14 ⟨⟨v14, rfl, h14⟩, hb14⟩
  have hb914 : Below w9.heap.size w9 w14 := hb913.trans (hb14.mono hb913.size)
  have c1 := K9.out w14 hb914
  have cA := ref_without vx vy x y w14 c1.2.1 c1.2.2.1 (by omega) (by omega)
  rw [HNT.out] at cA
  clear c1 hb14 hb913
  go_wp2_with fail
  refine cA.mono ?_
  clear cA
  rintro e w15 ⟨⟨v15, rfl, h15⟩, hb15⟩
  have hb915 : Below w9.heap.size w9 w15 := hb914.trans (hb15.mono hb914.size)
  have cE := same_is v14 v15 NT w15 (h14.below hb15 (Nat.le_refl _)) h15 (by omega)
  clear h14 h15 hb15 hb914
  go_wp2_with fail
  refine cE.mono ?_
  clear cE
  rintro e w16 ⟨rfl, hb16⟩
  have hb916 : Below w9.heap.size w9 w16 := hb915.trans (hb16.mono hb915.size)
  have hjs := join_short OX.out.2.2.1 lx
  have cP := print_txs vx x w16 (K9.out w16 hb916).2.1 (by omega) hjs
  obtain ⟨PR, hPR⟩ : ∃ l, printed x = l := ⟨_, rfl⟩
  have HPR : Hid (printed x = PR) := hPR
  rw [hPR] at cP
  clear hPR hb915 hb16
  go_wp2_with fail
  refine cP.mono ?_
  clear cP
  rintro e w17 ⟨⟨s17, rfl, h17⟩, hb17⟩
  have hb917 : Below w9.heap.size w9 w17 := hb916.trans (hb17.mono hb916.size)
  have cP := ref_print vx x w17 (K9.out w17 hb917).2.1 (by omega) hjs
  have cP2 : Calls Tryz.prog 28 #[vx] w17 fun e w' => e = .returned (.string s17) ∧ Below w17.heap.size w17 w' := cP.mono (by
    rintro e w' ⟨⟨s', rfl, h'⟩, hb'⟩
    obtain rfl : s' = s17 := ba_eq (by rw [h', h17, HPR.out])
    exact ⟨rfl, hb'⟩)
  clear cP h17 hjs hb916 hb17
  go_wp2_with fail
  refine cP2.mono ?_
  clear cP2
  rintro e w18 ⟨rfl, hb18⟩
  have hb918 : Below w9.heap.size w9 w18 := hb917.trans (hb18.mono hb917.size)
  have c1 := K9.out w18 hb918
  have cH := has_txs vx x s w18 c1.2.1 (by omega) (by omega) c1.2.2.2.1
  rw [has_is, ← HN.out] at cH
  clear c1 hb917 hb18
  by_cases hne : n = ⟨#[]⟩
  · subst hne
    rw [show (decide ((⟨#[]⟩ : ByteArray).data.toList ≠ []) && x.contains (⟨#[]⟩ : ByteArray).data.toList) = false by simp] at cH
    go_wp2_with fail
    refine cH.mono ?_
    rintro e w19 ⟨rfl, hb19⟩
    have hb919 : Below w9.heap.size w9 w19 := hb918.trans (hb19.mono hb918.size)
    go_wp2_with fail
    go_ret
    exact ⟨rfl, (K9.out w19 hb919).2.2.2.2⟩
  · have hnl : n.data.toList ≠ [] := fun h => hne (ba_eq h)
    obtain ⟨ANS, hANS⟩ : ∃ b, x.contains n.data.toList = b := ⟨_, rfl⟩
    have HANS : Hid (x.contains n.data.toList = ANS) := hANS
    rw [show (decide (n.data.toList ≠ []) && x.contains n.data.toList) = ANS by rw [hANS]; simp [hnl]] at cH
    clear hANS hnl
    go_wp2_with fail
    refine cH.mono ?_
    clear cH
    rintro e w19 ⟨rfl, hb19⟩
    have hb919 : Below w9.heap.size w9 w19 := hb918.trans (hb19.mono hb918.size)
    have cQ := ref_holds vx x n w19 (K9.out w19 hb919).2.1 (by omega)
    rw [HANS.out] at cQ
    have hn5 : n.toList.isEmpty = false := by
      cases h : n.toList with
      | nil => exact absurd (ba_eq (by rw [← Lib.toList_data, h])) hne
      | cons _ _ => rfl
    have hn3 : ¬ n.toList = [] := by rw [Lib.toList_data]; exact fun h => hne (ba_eq h)
    go_wp2_with fail
    refine cQ.mono ?_
    rintro e w20 ⟨rfl, hw⟩
    obtain rfl : w19 = w20 := hw.symm
    cases ANS
    · go_wp2_with fail
      go_ret
      exact ⟨rfl, (K9.out w19 hb919).2.2.2.2⟩
    · go_wp2_with fail
      go_ret
      exact ⟨rfl, (K9.out w19 hb919).2.2.2.2⟩
theorem tell_big (va vb : Value) (A B : List Tx) (s : ByteArray) (w : World) (ha : Sl w va A) (hb : Sl w vb B) (h : held A = false ∨ held B = false ∨ 100 < s.size) :
    Calls Tryz.prog 4 #[va, vb, .string s] w fun e w' => e = .returned (.bool true) ∧ Below w.heap.size w w' := by
  have cA : ∀ W, W = w → Calls Tryz.prog 17 #[va] W fun e w' => e = .returned (.bool (held A)) ∧ w' = W := fun W e => by subst e; exact texts_any va A W ha
  have cB : ∀ W, W = w → Calls Tryz.prog 17 #[vb] W fun e w' => e = .returned (.bool (held B)) ∧ w' = W := fun W e => by subst e; exact texts_any vb B W hb
  clear ha hb
  cases hA : held A with
  | false =>
    rw [hA] at cA
    clear h cB
    go_enter Tryz.func4, Tryz.ntmps4
    go_wp2_with fail
    refine (cA _ rfl).mono ?_
    rintro e w1 ⟨rfl, hw⟩
    obtain rfl : w = w1 := hw.symm
    go_wp2_with fail
    go_ret
    exact ⟨rfl, Below.refl _ _⟩
  | true =>
    rw [hA] at cA
    cases hB : held B with
    | false =>
      rw [hB] at cB
      clear h hA hB
      go_enter Tryz.func4, Tryz.ntmps4
      go_wp2_with fail
      refine (cA _ rfl).mono ?_
      rintro e w1 ⟨rfl, hw⟩
      obtain rfl : w = w1 := hw.symm
      go_wp2_with fail
      refine (cB _ rfl).mono ?_
      rintro e w1 ⟨rfl, hw⟩
      obtain rfl : w = w1 := hw.symm
      go_wp2_with fail
      go_ret
      exact ⟨rfl, Below.refl _ _⟩
    | true =>
      have hs : 100 < s.size := by
        rcases h with h | h | h
        · rw [hA] at h; cases h
        · rw [hB] at h; cases h
        · exact h
      have hs' : (100 : Int) < (s.size : Int) := by omega
      rw [hB] at cB
      clear h hA hB
      go_enter Tryz.func4, Tryz.ntmps4
      go_wp2_with fail
      refine (cA _ rfl).mono ?_
      rintro e w1 ⟨rfl, hw⟩
      obtain rfl : w = w1 := hw.symm
      go_wp2_with fail
      refine (cB _ rfl).mono ?_
      rintro e w1 ⟨rfl, hw⟩
      obtain rfl : w = w1 := hw.symm
      go_wp2_with fail
      go_ret
      exact ⟨rfl, Below.refl _ _⟩
end Go.Proofs.YtneipabooahihaaGreatDoor
