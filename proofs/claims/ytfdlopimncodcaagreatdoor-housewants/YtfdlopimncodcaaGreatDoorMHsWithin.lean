/-
  Which boxes lie in a box.
-/
import Derived.Test.YtfdlopimncodcaaGreatDoorMHsNames
import Derived.Test.YtfdlopimncodcaaGreatDoorHsShelf
import Derived.Lib.OwnBridge
import Derived.Lib.RowBridge
import Derived.Lib.AppendIntMem
namespace Go.Proofs.YtfdlopimncodcaaGreatDoor
open Go.RowKit Go.Proofs.Aid Go.Sort Go.Lib

theorem nbelow_grow {B : Nat} {w0 w : World} (h : Below B w0 w) (hB : B ≤ w.heap.size) (os : Array Obj) : Below B w0 (grow w os) := h.trans (Lib.below_grow B w hB 0 os)
theorem nbelow_sort {α : Type} [Inhabited α] (enc : α → Value) (B : Nat) (w : World) (blk m : Nat) (dk : Array α) (os : Array Obj) (hB : B ≤ w.heap.size) (hb : B ≤ blk) : Below B w (sortWorld enc w blk 0 m dk os) :=
  nbelow_grow (Lib.below_putRow (Below.refl _ _) hb) (by simp [putRow, mapBlock, Sort.ahead]; exact hB) os
theorem NRow.nil_of {w : World} {base : Nat} {l : List Nm} (h : NRow w base (.slice none 0 0) l) : l = [] := by
  rcases h.2 with ⟨_, h2⟩ | ⟨g, cap, cur, h2, _⟩
  · exact List.eq_nil_of_length_eq_zero h2
  · cases h2
theorem nindex_nil (f : Value) (w : World) : Calls Tryz.prog 122 #[.slice none 0 0, f] w fun e w' => e = .returned (.int .i64 (-1)) ∧ w' = w := by
  go_enter Tryz.func122, Tryz.ntmps122
  go_wp2
  refine wp_loop_rounds 1 ?_
  rw [rounds_succ]
  go_wp2
  go_ret
  exact ⟨rfl, rfl⟩
theorem ndelete_nil (f : Value) (w : World) : Calls Tryz.prog 78 #[.slice none 0 0, f] w fun e w' => e = .returned (.slice none 0 0) ∧ w' = w := by
  go_enter Tryz.func78, Tryz.ntmps78
  go_wp2_with (refine (nindex_nil _ _).mono ?_; rintro e w' ⟨rfl, rfl⟩)
  go_ret
  exact ⟨rfl, rfl⟩
theorem Tryz.zeroNm (w : World) : (zeroValue 9).run Tryz.prog w = .ok (encStr []) w := by kernel_rfl
/-- slices.DeleteFunc at a row of names, and a function that tells of each. -/
theorem ndelete_fn (g : Nat) (lb : Array Value) (eg : ∀ args w, (callFunc g args).run Tryz.prog w = .ok (.enter g args) w) (p : Nm → Bool) (base : Nat) (v : Value) (x : List Nm) (w : World) (h : NRow w base v x) (hB : base ≤ w.heap.size) (hx : x.length ≤ 1000)
    (hk : ∀ W t, Below base w W → FnGives Tryz.prog g lb #[encStr t] (.bool (p t)) W) :
    Calls Tryz.prog 78 #[v, .func (.func g) #[] lb] w fun e w' => (∃ v', e = .returned v' ∧ NRow w' base v' (x.filter fun t => !p t)) ∧ Below base w w' := by
  by_cases hv : v = .slice none 0 0
  · subst hv
    obtain rfl := h.nil_of
    refine (ndelete_nil _ w).mono ?_
    rintro e w' ⟨rfl, rfl⟩
    exact ⟨⟨_, rfl, World.ownsRow_nil _ _ _ _⟩, Below.refl _ _⟩
  · obtain ⟨gg, cap, rfl, hgb2, hlt, hc, hm, _, hH⟩ := Lib.holds_of_ownsRow h hv
    have hD := Tryz.slices_DeleteFunc encStr (fun _ => rfl) p g lb eg [] Tryz.zeroNm gg 0 cap x.toArray w
      (fun W t hb => hk W t (hb.mono hB)) (fun n os dk t _ => hk _ t (nbelow_sort encStr base w gg n dk os hB hgb2)) hH (by simp; omega) (by simpa using hc)
    have hsz : x.toArray.size = x.length := by simp
    rw [hsz] at hD
    refine hD.mono ?_
    rintro e w' ⟨rfl, q, rfl⟩
    have hfl : (x.filter fun t => !p t).length ≤ x.length := List.length_filter_le _ _
    have h1 := Lib.ownsRow_putRow (q := q) (ys := (x.filter fun t => !p t) ++ List.replicate (x.length - (x.filter fun t => !p t).length) []) (k := (x.filter fun t => !p t).length) h (by rw [List.length_append, List.length_replicate]; omega) hfl
    rw [List.take_left] at h1
    exact ⟨⟨_, rfl, h1⟩, Lib.below_putRow (Below.refl _ _) hgb2⟩
/-- Whether a box of that name lies in another one. -/
def inB (a b : Nm) : Bool := Lib.hasPrefix a (b ++ [47])
set_option maxHeartbeats 1000000 in
theorem liesIn_is (a b : ByteArray) (w : World) (hb : b.size ≤ 1000000) :
    Calls Tryz.prog 124 #[.string a, .string b] w fun e w' => e = .returned (.bool (inB a.data.toList b.data.toList)) ∧ w' = w := by
  have cP := Tryz.strings_HasPrefix a (b ++ ⟨#[47]⟩) w
  have e1 : (b ++ (⟨#[47]⟩ : ByteArray)).data.toList = b.data.toList ++ [47] := by simp
  rw [e1] at cP
  have HA : Hid (inB a.data.toList b.data.toList = Lib.hasPrefix a.data.toList (b.data.toList ++ [47])) := rfl
  obtain ⟨A, hA⟩ : ∃ A, Lib.hasPrefix a.data.toList (b.data.toList ++ [47]) = A := ⟨_, rfl⟩
  rw [hA] at cP
  have HA2 : Hid (inB a.data.toList b.data.toList = A) := HA.out.trans hA
  rw [HA2.out]
  clear hA HA e1 HA2
  have hlim : (9223372036854775807 < b.size + 1) = False := eq_false (by omega)
  go_enter Tryz.func124, Tryz.ntmps124
  go_wp2_with fail
  refine cP.mono ?_
  rintro e w1 ⟨rfl, hw⟩
  obtain rfl : w = w1 := hw.symm
  go_wp2_with fail
  go_ret
  exact ⟨rfl, rfl⟩
set_option maxHeartbeats 1000000 in
theorem within1_is (n : ByteArray) (p : Nat) (s : ByteArray) (w : World) (hp : w.cell? ⟨p, 0, none⟩ = some (.string s)) (hs : s.size ≤ 1000000) :
    Calls Tryz.prog 141 #[.string n, .pointer (some ⟨p, 0, none⟩)] w fun e w' => e = .returned (.bool (!inB n.data.toList s.data.toList)) ∧ w' = w := by
  have cL := liesIn_is n s w hs
  obtain ⟨A, hA⟩ : ∃ A, inB n.data.toList s.data.toList = A := ⟨_, rfl⟩
  rw [hA] at cL ⊢
  clear hA
  go_enter Tryz.func141, Tryz.ntmps141
  go_wp2_with fail
  refine cL.mono ?_
  rintro e w1 ⟨rfl, hw⟩
  obtain rfl : w = w1 := hw.symm
  go_wp2_with fail
  go_ret
  exact ⟨rfl, rfl⟩
def withinB (l : Bxs) (n : Nm) : List Nm := (namesB l).filter fun t => inB t n
set_option maxHeartbeats 2000000 in
set_option maxRecDepth 100000 in
theorem within_is (hb mb : Nat) (l : Bxs) (nx : Int) (wv : Value) (s : ByteArray) (w : World) (h : HsAt w hb mb l nx wv) (hl : l.length ≤ 1000) (hs : s.size ≤ 1000000) :
    Calls Tryz.prog 96 #[.pointer (some ⟨hb, 0, none⟩), .string s] w fun e w' => (∃ v, e = .returned v ∧ NRow w' w.heap.size v (withinB l s.data.toList)) ∧ Below w.heap.size w w' := by
  have b1 : Below w.heap.size w (w.alloc (.cells #[.string s] 9)) := (Below.refl _ _).alloc (Nat.le_refl _) _
  have e1 := heap_alloc_new w (.cells #[.string s] 9)
  have z1 : (w.alloc (.cells #[.string s] 9)).heap.size = w.heap.size + 1 := World.size_alloc _ _
  have h1 := h.below b1 (Nat.le_refl _)
  obtain ⟨W1, hW1⟩ : ∃ W, w.alloc (.cells #[.string s] 9) = W := ⟨_, rfl⟩
  rw [hW1] at b1 e1 z1 h1
  have cN := names_is hb mb l nx wv W1 h1 hl
  have HB1 : Hid (Below w.heap.size w W1 ∧ W1.heap.size = w.heap.size + 1 ∧ W1.heap[w.heap.size]? = some (.cells #[.string s] 9 (0, 0))) := ⟨b1, z1, e1⟩
  have hnl : (namesB l).length ≤ 1000 := by unfold namesB; rw [List.length_map]; exact hl
  clear h h1 b1 e1 z1
  go_enter Tryz.func96, Tryz.ntmps96
  go_wp2_with fail
  refine cN.mono ?_
  rintro e w2 ⟨⟨v, rfl, hrow⟩, hb2⟩
  obtain ⟨va, vc, rfl⟩ := row_form hrow
  have cD := ndelete_fn 141 #[.pointer (some ⟨w.heap.size, 0, none⟩)] (enters_of Tryz.func141 (by kernel_rfl) rfl) (fun t => !inB t s.data.toList) W1.heap.size (.slice va (namesB l).length vc) (namesB l) w2 hrow hb2.size hnl (fun W t hW => by
    have hc : W.cell? ⟨w.heap.size, 0, none⟩ = some (.string s) := rd_cell ((hW.block _ (by have := HB1.out.2.1; omega)).trans ((hb2.block _ (by have := HB1.out.2.1; omega)).trans HB1.out.2.2)) rfl
    have := within1_is ⟨t.toArray⟩ w.heap.size s W hc hs
    refine this.mono ?_
    rintro e w' ⟨rfl, rfl⟩
    exact ⟨by simp, 0, rfl⟩)
  have HB2 : Hid (Below W1.heap.size W1 w2) := hb2
  clear cN hrow hb2
  go_wp2_with fail
  refine cD.mono ?_
  rintro e w3 ⟨⟨v3, rfl, hrow3⟩, hb3⟩
  have HF : Hid (NRow w3 w.heap.size v3 (withinB l s.data.toList) ∧ Below w.heap.size w w3) := by
    refine ⟨?_, HB1.out.1.trans ((HB2.out.trans hb3).mono (by have := HB1.out.2.1; omega))⟩
    have : (fun t => !(!inB t s.data.toList)) = fun t => inB t s.data.toList := by funext t; simp
    rw [this] at hrow3
    exact ownsRow_base_a hrow3 (by have := HB1.out.2.1; omega)
  clear hrow3 hb3 cD
  go_wp2_with fail
  go_ret
  exact ⟨⟨_, rfl, HF.out.1⟩, HF.out.2⟩
end Go.Proofs.YtfdlopimncodcaaGreatDoor
