/-
  flags.Not: what is left of texts without others.
-/
import Derived.Test.YtkneeoaeoiaefaaDoorFlagsOps
namespace Go.Proofs.YtkneeoaeoiaefaaDoor
open Go.RowKit Go.Proofs.Aid Go.Proofs.Fl Go.Sort Go.Lib

theorem index_nil (f : Value) (w : World) : Calls Tryd.prog 68 #[.slice none 0 0, f] w fun e w' => e = .returned (.int .i64 (-1)) ∧ w' = w := by
  go_enter Tryd.func68, Tryd.ntmps68
  go_wp2
  refine wp_loop_rounds 1 ?_
  rw [rounds_succ]
  go_wp2
  go_ret
  exact ⟨rfl, rfl⟩
theorem delete_nil (f : Value) (w : World) : Calls Tryd.prog 56 #[.slice none 0 0, f] w fun e w' => e = .returned (.slice none 0 0) ∧ w' = w := by
  go_enter Tryd.func56, Tryd.ntmps56
  go_wp2_with (refine (index_nil _ _).mono ?_; rintro e w' ⟨rfl, rfl⟩)
  go_ret
  exact ⟨rfl, rfl⟩
theorem Tryd.zeroStr (w : World) : (zeroValue 9).run Tryd.prog w = .ok (encStr []) w := by kernel_rfl
theorem delete_row (base : Nat) (v : Value) (x : List Tx) (p : Nat) (vo : Value) (l : List Tx) (w : World) (h : Row w base v x) (hB : base ≤ w.heap.size) (hx : x.length ≤ 1000) (hl : l.length ≤ 1000) (ho : Ord l)
    (hk : ∀ W, Below base w W → W.cell? ⟨p, 0, none⟩ = some vo ∧ Sl W vo l ∧ SysAt W) :
    Calls Tryd.prog 56 #[v, .func (.func 57) #[] #[.pointer (some ⟨p, 0, none⟩)]] w fun e w' => (∃ v', e = .returned v' ∧ Row w' base v' (without x l)) ∧ Below base w w' := by
  by_cases hv : v = .slice none 0 0
  · subst hv
    obtain rfl := h.nil_of
    refine (delete_nil _ w).mono ?_
    rintro e w' ⟨rfl, rfl⟩
    exact ⟨⟨_, rfl, World.ownsRow_nil _ _ _ _⟩, Below.refl _ _⟩
  · obtain ⟨g, cap, rfl, hgb2, hlt, hc, hm, _, hH⟩ := Lib.holds_of_ownsRow h hv
    have eg : ∀ args w, (callFunc 57 args).run Tryd.prog w = .ok (.enter 57 args) w := enters_of Tryd.func57 (by kernel_rfl) rfl
    have key : ∀ W (t : Tx), Below base w W → FnGives Tryd.prog 57 #[.pointer (some ⟨p, 0, none⟩)] #[encStr t] (.bool (l.contains t)) W := fun W t hb => by
      obtain ⟨h1, h2, h3⟩ := hk W hb
      exact taken_any t p vo l W h1 h2 ho h3 hl
    have hD := Tryd.slices_DeleteFunc encStr (fun _ => rfl) (fun t => l.contains t) 57 #[.pointer (some ⟨p, 0, none⟩)] eg [] Tryd.zeroStr g 0 cap x.toArray w
      (fun W t hb => key W t (hb.mono hB)) (fun n os dk t _ => key _ t (below_sortWorld encStr base w g n dk os hB hgb2)) hH (by simp; omega) (by simpa using hc)
    have hsz : x.toArray.size = x.length := by simp
    rw [hsz] at hD
    refine hD.mono ?_
    rintro e w' ⟨rfl, q, rfl⟩
    have hfl : (x.filter fun t => !l.contains t).length ≤ x.length := List.length_filter_le _ _
    have h1 := Lib.ownsRow_putRow (q := q) (ys := (x.filter fun t => !l.contains t) ++ List.replicate (x.length - (x.filter fun t => !l.contains t).length) []) (k := (x.filter fun t => !l.contains t).length) h (by rw [List.length_append, List.length_replicate]; omega) hfl
    rw [List.take_left] at h1
    exact ⟨⟨_, rfl, h1⟩, Lib.below_putRow (Below.refl _ _) hgb2⟩
set_option maxHeartbeats 1000000 in
set_option maxRecDepth 100000 in
theorem not_any (va vb : Value) (x y : List Tx) (w : World) (ha : Sl w va x) (hb : Sl w vb y) (hx : x.length ≤ 1000) (hy : y.length ≤ 1000) (hg : SysAt w) :
    Calls Tryd.prog 44 #[va, vb] w fun e w' => (∃ v', e = .returned v' ∧ Sl w' v' (order (without x (order y)))) ∧ Below w.heap.size w w' := by
  have hgl := hg.lt
  have cB := clone_txs vb y w hb hy
  have hoy : (order y).length ≤ 1000 := Nat.le_trans (order_length y) hy
  have hwx : (without x (order y)).length ≤ 1000 := Nat.le_trans (List.length_filter_le _ _) hx
  clear hb
  go_enter Tryd.func44, Tryd.ntmps44
  go_wp2_with fail
  refine cB.mono ?_
  rintro e w1 ⟨⟨v1, rfl, h1⟩, hb1⟩
  have cO := order_row w.heap.size v1 y w1 h1 hb1.size hy (hg.below hb1 hgl) hgl
  clear cB h1
  go_wp2_with fail
  refine cO.mono ?_
  rintro e w2 ⟨⟨v2, rfl, h2⟩, hb2⟩
  have hb12 : Below w.heap.size w w2 := hb1.trans hb2
  obtain ⟨oa, oc, rfl⟩ := row_form h2
  have hs2 := Sl.of_row h2
  obtain ⟨on, hon⟩ : ∃ n, (order y).length = n := ⟨_, rfl⟩
  rw [hon] at h2 hs2 ⊢
  have hb3 : Below w.heap.size w (w2.alloc (.cells #[.slice oa on oc] 34)) := hb12.alloc hb12.size _
  have cA := clone_txs va x _ (ha.below hb3 (Nat.le_refl _)) hx
  have hc3 : (w2.alloc (.cells #[.slice oa on oc] 34)).cell? ⟨w2.heap.size, 0, none⟩ = some (.slice oa on oc) := by simp
  have hs3 : Sl (w2.alloc (.cells #[.slice oa on oc] 34)) (.slice oa on oc) (order y) := hs2.below ((Below.refl w2.heap.size w2).alloc (Nat.le_refl _) _) (Nat.le_refl _)
  have hz3 : (w2.alloc (.cells #[.slice oa on oc] 34)).heap.size = w2.heap.size + 1 := by simp
  have hg3 : SysAt (w2.alloc (.cells #[.slice oa on oc] 34)) := hg.below hb3 hgl
  have H3 : Hid (∀ W, Below (w2.alloc (.cells #[.slice oa on oc] 34)).heap.size (w2.alloc (.cells #[.slice oa on oc] 34)) W → W.cell? ⟨w2.heap.size, 0, none⟩ = some (.slice oa on oc) ∧ Sl W (.slice oa on oc) (order y) ∧ SysAt W) := fun W hb =>
    ⟨(hb.cell (p := ⟨w2.heap.size, 0, none⟩) (by rw [hz3]; exact Nat.lt_succ_self _)).trans hc3, hs3.below hb (Nat.le_refl _), hg3.below hb (Nat.lt_of_lt_of_le hgl hb3.size)⟩
  clear cO ha h2 hs2 hc3 hs3 hz3 hg3
  go_wp2_with fail
  refine cA.mono ?_
  rintro e w4 ⟨⟨v4, rfl, h4⟩, hb4⟩
  have cD := delete_row _ v4 x w2.heap.size (.slice oa on oc) (order y) w4 h4 hb4.size hx hoy (order_ord y) (fun W hb => H3.out W (hb4.trans hb))
  have hb34 : Below w.heap.size w w4 := hb3.trans (hb4.mono hb3.size)
  clear cA h4
  go_wp2_with fail
  refine cD.mono ?_
  rintro e w5 ⟨⟨v5, rfl, h5⟩, hb5⟩
  have hb35 : Below w.heap.size w w5 := hb34.trans (hb5.mono hb3.size)
  have cO2 := order_row _ v5 _ w5 h5 (Nat.le_trans hb4.size hb5.size) hwx (hg.below hb35 hgl) (Nat.lt_of_lt_of_le hgl hb3.size)
  clear cD h5
  go_wp2_with fail
  refine cO2.mono ?_
  rintro e w6 ⟨⟨v6, rfl, h6⟩, hb6⟩
  go_wp2_with fail
  go_ret
  exact ⟨⟨v6, rfl, Sl.of_row h6⟩, hb35.trans (hb6.mono hb3.size)⟩
end Go.Proofs.YtkneeoaeoiaefaaDoor
