/-
  flags.Not: what is left of texts without others.
  What flags.Name does.
  The library's contracts at this program's numbers.
-/
import Derived.Test.YtgpcnacpefficaaGreatDoorBpFlagsOps
import Derived.Test.YtgpcnacpefficaaGreatDoorMFlagsLetters
import Derived.Shelf.SlGeneric
import Derived.Ground.Names8Prog
import Derived.Shelf.Spec.SlicesGrow
import Derived.Test.YtgpcnacpefficaaGreatDoorProg
namespace Go.Proofs.YtgpcnacpefficaaGreatDoor
open Go.RowKit Go.Proofs.Aid Go.Proofs.Fl Go.Sort Go.Lib

theorem index_nil (f : Value) (w : World) : Calls Tryz.prog 98 #[.slice none 0 0, f] w fun e w' => e = .returned (.int .i64 (-1)) ∧ w' = w := by
  go_enter Tryz.func98, Tryz.ntmps98
  go_wp2
  refine wp_loop_rounds 1 ?_
  rw [rounds_succ]
  go_wp2
  go_ret
  exact ⟨rfl, rfl⟩
theorem delete_nil (f : Value) (w : World) : Calls Tryz.prog 82 #[.slice none 0 0, f] w fun e w' => e = .returned (.slice none 0 0) ∧ w' = w := by
  go_enter Tryz.func82, Tryz.ntmps82
  go_wp2_with (refine (index_nil _ _).mono ?_; rintro e w' ⟨rfl, rfl⟩)
  go_ret
  exact ⟨rfl, rfl⟩
theorem Tryz.zeroStr (w : World) : (zeroValue 9).run Tryz.prog w = .ok (encStr []) w := by kernel_rfl
theorem delete_row (base : Nat) (v : Value) (x : List Tx) (p : Nat) (vo : Value) (l : List Tx) (w : World) (h : Row w base v x) (hB : base ≤ w.heap.size) (hx : x.length ≤ 1000) (hl : l.length ≤ 1000) (ho : Ord l)
    (hk : ∀ W, Below base w W → W.cell? ⟨p, 0, none⟩ = some vo ∧ Sl W vo l ∧ SysAt W) :
    Calls Tryz.prog 82 #[v, .func (.func 83) #[] #[.pointer (some ⟨p, 0, none⟩)]] w fun e w' => (∃ v', e = .returned v' ∧ Row w' base v' (without x l)) ∧ Below base w w' := by
  by_cases hv : v = .slice none 0 0
  · subst hv
    obtain rfl := h.nil_of
    refine (delete_nil _ w).mono ?_
    rintro e w' ⟨rfl, rfl⟩
    exact ⟨⟨_, rfl, World.ownsRow_nil _ _ _ _⟩, Below.refl _ _⟩
  · obtain ⟨g, cap, rfl, hgb2, hlt, hc, hm, _, hH⟩ := Lib.holds_of_ownsRow h hv
    have eg : ∀ args w, (callFunc 83 args).run Tryz.prog w = .ok (.enter 83 args) w := enters_of Tryz.func83 (by kernel_rfl) rfl
    have key : ∀ W (t : Tx), Below base w W → FnGives Tryz.prog 83 #[.pointer (some ⟨p, 0, none⟩)] #[encStr t] (.bool (l.contains t)) W := fun W t hb => by
      obtain ⟨h1, h2, h3⟩ := hk W hb
      exact taken_any t p vo l W h1 h2 ho h3 hl
    have hD := Tryz.slices_DeleteFunc encStr (fun _ => rfl) (fun t => l.contains t) 83 #[.pointer (some ⟨p, 0, none⟩)] eg [] Tryz.zeroStr g 0 cap x.toArray w
      (fun W t hb => key W t (hb.mono hB)) (fun n os dk t _ => key _ t (below_sortWorld encStr base w g n dk os hB hgb2)) hH (by simp; omega) (by simpa using hc)
    have hsz : x.toArray.size = x.length := by simp
    rw [hsz] at hD
    refine hD.mono ?_
    rintro e w' ⟨rfl, q, rfl⟩
    have hfl : (x.filter fun t => !l.contains t).length ≤ x.length := List.length_filter_le _ _
    have h1 := Lib.ownsRow_putRow (q := q) (ys := (x.filter fun t => !l.contains t) ++ List.replicate (x.length - (x.filter fun t => !l.contains t).length) []) (k := (x.filter fun t => !l.contains t).length) h (by rw [List.length_append, List.length_replicate]; omega) hfl
    rw [List.take_left] at h1
    exact ⟨⟨_, rfl, h1⟩, Lib.below_putRow (Below.refl _ _) hgb2⟩
set_option maxHeartbeats 1000000 in
set_option maxRecDepth 100000 in
theorem not_any (va vb : Value) (x y : List Tx) (w : World) (ha : Sl w va x) (hb : Sl w vb y) (hx : x.length ≤ 1000) (hy : y.length ≤ 1000) (hg : SysAt w) :
    Calls Tryz.prog 67 #[va, vb] w fun e w' => (∃ v', e = .returned v' ∧ Sl w' v' (order (without x (order y)))) ∧ Below w.heap.size w w' := by
  have hgl := hg.lt
  have cB := clone_txs vb y w hb hy
  have hoy : (order y).length ≤ 1000 := Nat.le_trans (order_length y) hy
  have hwx : (without x (order y)).length ≤ 1000 := Nat.le_trans (List.length_filter_le _ _) hx
  clear hb
  go_enter Tryz.func67, Tryz.ntmps67
  go_wp2_with fail
  refine cB.mono ?_
  rintro e w1 ⟨⟨v1, rfl, h1⟩, hb1⟩
  have cO := order_row w.heap.size v1 y w1 h1 hb1.size hy (hg.below hb1 hgl) hgl
  clear cB h1
  go_wp2_with fail
  refine cO.mono ?_
  rintro e w2 ⟨⟨v2, rfl, h2⟩, hb2⟩
  have hb12 : Below w.heap.size w w2 := hb1.trans hb2
  obtain ⟨oa, oc, rfl⟩ := row_form h2
  have hs2 := Sl.of_row h2
  obtain ⟨on, hon⟩ : ∃ n, (order y).length = n := ⟨_, rfl⟩
  rw [hon] at h2 hs2 ⊢
  have hb3 : Below w.heap.size w (w2.alloc (.cells #[.slice oa on oc] 35)) := hb12.alloc hb12.size _
  have cA := clone_txs va x _ (ha.below hb3 (Nat.le_refl _)) hx
  have hc3 : (w2.alloc (.cells #[.slice oa on oc] 35)).cell? ⟨w2.heap.size, 0, none⟩ = some (.slice oa on oc) := by simp
  have hs3 : Sl (w2.alloc (.cells #[.slice oa on oc] 35)) (.slice oa on oc) (order y) := hs2.below ((Below.refl w2.heap.size w2).alloc (Nat.le_refl _) _) (Nat.le_refl _)
  have hz3 : (w2.alloc (.cells #[.slice oa on oc] 35)).heap.size = w2.heap.size + 1 := by simp
  have hg3 : SysAt (w2.alloc (.cells #[.slice oa on oc] 35)) := hg.below hb3 hgl
  have H3 : Hid (∀ W, Below (w2.alloc (.cells #[.slice oa on oc] 35)).heap.size (w2.alloc (.cells #[.slice oa on oc] 35)) W → W.cell? ⟨w2.heap.size, 0, none⟩ = some (.slice oa on oc) ∧ Sl W (.slice oa on oc) (order y) ∧ SysAt W) := fun W hb =>
    ⟨(hb.cell (p := ⟨w2.heap.size, 0, none⟩) (by rw [hz3]; exact Nat.lt_succ_self _)).trans hc3, hs3.below hb (Nat.le_refl _), hg3.below hb (Nat.lt_of_lt_of_le hgl hb3.size)⟩
  clear cO ha h2 hs2 hc3 hs3 hz3 hg3
  go_wp2_with fail
  refine cA.mono ?_
  rintro e w4 ⟨⟨v4, rfl, h4⟩, hb4⟩
  have cD := delete_row _ v4 x w2.heap.size (.slice oa on oc) (order y) w4 h4 hb4.size hx hoy (order_ord y) (fun W hb => H3.out W (hb4.trans hb))
  have hb34 : Below w.heap.size w w4 := hb3.trans (hb4.mono hb3.size)
  clear cA h4
  go_wp2_with fail
  refine cD.mono ?_
  rintro e w5 ⟨⟨v5, rfl, h5⟩, hb5⟩
  have hb35 : Below w.heap.size w w5 := hb34.trans (hb5.mono hb3.size)
  have cO2 := order_row _ v5 _ w5 h5 (Nat.le_trans hb4.size hb5.size) hwx (hg.below hb35 hgl) (Nat.lt_of_lt_of_le hgl hb3.size)
  clear cD h5
  go_wp2_with fail
  refine cO2.mono ?_
  rintro e w6 ⟨⟨v6, rfl, h6⟩, hb6⟩
  go_wp2_with fail
  go_ret
  exact ⟨⟨v6, rfl, Sl.of_row h6⟩, hb35.trans (hb6.mono hb3.size)⟩
end Go.Proofs.YtgpcnacpefficaaGreatDoor
namespace Go.Proofs.YtgpcnacpefficaaGreatDoor
open Go.RowKit Go.Proofs.Aid Go.Proofs.Fl

/-- What Name tells of an error. -/
theorem name_any (s : ByteArray) (w : World) (hs : s.size ≤ 2000000) (hg : SysAt w)
    (cH : ∀ W, Calls Tryz.prog 73 #[.string s, .string ⟨#[92]⟩] W fun e w' => e = .returned (.bool (Lib.hasPrefix s.data.toList [92])) ∧ w' = W) :
    Calls Tryz.prog 61 #[.string s] w fun e w' =>
      (((fname s.data.toList).2 = 0 ∧ ∃ n : ByteArray, n.data.toList = (fname s.data.toList).1 ∧ e = .returned (.tuple #[.string n, .nilIface])) ∨ ((fname s.data.toList).2 ≠ 0 ∧ e = .returned (.tuple #[.string ⟨#[]⟩, .iface 55 (.int .i64 (fname s.data.toList).2)]))) ∧ ∃ n, w' = w.drewN n := by
  have hpre : Lib.hasPrefix s.data.toList [92] = decide (s.data.toList.head? = some 92) := by
    cases s.data.toList with
    | nil => rfl
    | cons c l =>
      show (List.isPrefixOf [92] (c :: l)) = _
      by_cases h : c = 92
      · subst h; simp [List.isPrefixOf]
      · have : ¬ (92 : UInt8) = c := fun e => h e.symm
        simp [List.isPrefixOf, h, this]
  have hla : s.data.toList.length = s.size := by show s.data.toList.length = s.data.size; simp
  rw [hpre] at cH
  by_cases h1 : s.data.toList.head? = some 92
  · have cS := fun W hW => system_any s W hs hW
    rw [decide_eq_true h1] at cH
    clear hpre
    go_enter Tryz.func61, Tryz.ntmps61
    go_wp2_with (first | (go_at_call 73; refine (cH _).mono ?_; rintro e w1 ⟨rfl, rfl⟩) | fail)
    refine (cS _ hg).mono ?_
    rintro e w2 ⟨⟨j, hj, hf, rfl⟩ | ⟨hf, rfl⟩, m, rfl⟩
    · have HF : Hid (five.find? (sameL s.data.toList) = some (five.getD j [])) := hf
      clear hf
      go_wp2
      go_ret2
      refine ⟨Or.inl ?_, m, rfl⟩
      have : fname s.data.toList = (five.getD j [], 0) := by unfold fname; rw [if_pos h1, HF.out]
      rw [this]
      exact ⟨rfl, sysB j, sysB_data j, rfl⟩
    · have HF : Hid (five.find? (sameL s.data.toList) = none) := hf
      clear hf
      go_wp2
      go_ret2
      refine ⟨Or.inr ?_, m, rfl⟩
      have : fname s.data.toList = ([], 3) := by unfold fname; rw [if_pos h1, HF.out]
      rw [this]
      exact ⟨by decide, rfl⟩
  · rw [decide_eq_false h1] at cH
    have cK := fun W => keyword_any s W hs
    obtain ⟨K, hK⟩ : ∃ K, (s.data.toList.all kw && !s.data.toList.isEmpty) = K := ⟨_, rfl⟩
    rw [hK] at cK
    clear hpre hg
    cases K
    · have HF : Hid (fname s.data.toList = ([], 3)) := by
        show fname s.data.toList = ([], 3)
        unfold fname
        rw [if_neg h1, if_pos]
        rw [Bool.and_eq_false_iff] at hK
        rcases hK with h | h
        · exact Or.inr h
        · exact Or.inl (by simpa using h)
      rw [HF.out]
      clear hK
      go_enter Tryz.func61, Tryz.ntmps61
      go_wp2_with (first | (go_at_call 73; refine (cH _).mono ?_; rintro e w1 ⟨rfl, rfl⟩) | (go_at_call 75; refine (cK _).mono ?_; rintro e w1 ⟨rfl, rfl⟩))
      go_ret2
      exact ⟨Or.inr ⟨by decide, rfl⟩, 0, rfl⟩
    · have hk2 : ¬ (s.data.toList = [] ∨ s.data.toList.all kw = false) := by
        rw [Bool.and_eq_true] at hK
        rintro (h | h)
        · rw [h] at hK; simp at hK
        · rw [h] at hK; simp at hK
      clear hK
      by_cases h20 : 20 < s.size
      · have HF : Hid (fname s.data.toList = ([], 4)) := by
          show fname s.data.toList = ([], 4)
          unfold fname
          rw [if_neg h1, if_neg hk2, if_pos (by omega)]
        rw [HF.out]
        have g : (20 : Int) < (s.size : Int) := by omega
        clear hk2
        go_enter Tryz.func61, Tryz.ntmps61
        go_wp2_with (first | (go_at_call 73; refine (cH _).mono ?_; rintro e w1 ⟨rfl, rfl⟩) | (go_at_call 75; refine (cK _).mono ?_; rintro e w1 ⟨rfl, rfl⟩))
        go_ret2
        exact ⟨Or.inr ⟨by decide, rfl⟩, 0, rfl⟩
      · have HF : Hid (fname s.data.toList = (s.data.toList, 0)) := by
          show fname s.data.toList = (s.data.toList, 0)
          unfold fname
          rw [if_neg h1, if_neg hk2, if_neg (by omega)]
        rw [HF.out]
        have g : ¬ (20 : Int) < (s.size : Int) := by omega
        clear hk2
        go_enter Tryz.func61, Tryz.ntmps61
        go_wp2_with (first | (go_at_call 73; refine (cH _).mono ?_; rintro e w1 ⟨rfl, rfl⟩) | (go_at_call 75; refine (cK _).mono ?_; rintro e w1 ⟨rfl, rfl⟩))
        go_ret2
        exact ⟨Or.inl ⟨trivial, s, rfl, rfl⟩, 0, rfl⟩
end Go.Proofs.YtgpcnacpefficaaGreatDoor
namespace Go.Proofs
open Go.Shelf
def Tryz.growL_ren : Go.Shelf.Ren := ⟨fun | 4 => 97 | n => n, fun | 22 => 35 | 25 => 9 | 3 => 3 | 4 => 4 | 9 => 9 | 20 => 20 | 0 => 0 | n => n, fun | n => n⟩
theorem Tryz.growL : Go.Proofs.Lays8.n4 Tryz.prog Tryz.growL_ren := {
  mixed := by kernel_rfl
  f4 := ⟨Tryz.f97.name, by decide, Tryz.func97.trans (congrArg some (by kernel_rfl))⟩
  t0 := Tryz.underlying0
  a0 := Tryz.isAgg0
  z0 := Tryz.sizeOf0
  v0 := Tryz.zeroValue0
  t3 := Tryz.underlying3
  a3 := Tryz.isAgg3
  z3 := Tryz.sizeOf3
  v3 := Tryz.zeroValue3
  t4 := Tryz.underlying4
  a4 := Tryz.isAgg4
  z4 := Tryz.sizeOf4
  v4 := Tryz.zeroValue4
  t9 := Tryz.underlying9
  a9 := Tryz.isAgg9
  z9 := Tryz.sizeOf9
  v9 := Tryz.zeroValue9
  t20 := Tryz.underlying20
  a20 := Tryz.isAgg20
  z20 := Tryz.sizeOf20
  v20 := Tryz.zeroValue20
  t22 := Tryz.underlying35
  a22 := Tryz.isAgg35
  z22 := Tryz.sizeOf35
  v22 := Tryz.zeroValue35 }
end Go.Proofs
