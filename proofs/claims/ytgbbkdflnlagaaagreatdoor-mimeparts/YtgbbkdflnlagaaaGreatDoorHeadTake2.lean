/-
  What the methods take and all of head.reader do.
-/
import Derived.Test.YtgbbkdflnlagaaaGreatDoorHeadTake
namespace Go.Proofs.YtgbbkdflnlagaaaGreatDoor
open Go.RowKit Go.Proofs.Aid Go.Proofs.Hd Go.Proofs.Sq

theorem contains_one (c : UInt8) : Lib.contains [32, 9] [c] = blk c := by
  have h : ∀ n : Fin 256, Lib.contains [32, 9] [UInt8.ofNat n.val] = blk (UInt8.ofNat n.val) := by decide +kernel
  have := h ⟨c.toNat, c.toNat_lt⟩
  simpa using this
theorem low_bad : Low ⟨#[13, 10, 0]⟩ := fun j b h => by
  match j, h with
  | 0, h => obtain rfl : _ = b := by simpa using h
            decide
  | 1, h => obtain rfl : _ = b := by simpa using h
            decide
  | 2, h => obtain rfl : _ = b := by simpa using h
            decide
  | j + 3, h => simp at h
set_option maxHeartbeats 1000000 in
set_option maxRecDepth 100000 in
theorem take_is (base b k : Nat) (l : List Hd.Fd) (p : ByteArray) (m : Int) (w : World) (h : St base b l k w) (hp : p.size ≤ 1000000) (hk : k ≤ 100000) (hbw : base ≤ w.heap.size) (hn : l.length ≤ 40) (hm : w.cell? ⟨1, 0, none⟩ = some (.int .i64 m)) :
    Calls Tryz.prog 145 #[.pointer (some ⟨b, 0, none⟩), .string p] w fun e w' => But base b w w' ∧ e = .returned (.int .i64 (Hd.step l p.data.toList).1) ∧ ((Hd.step l p.data.toList).1 = 0 → St base b (Hd.step l p.data.toList).2 (k + 1) w') := by
  by_cases h0 : p.data.toList = []
  · have hs : Hd.step l p.data.toList = (0, l) := by unfold Hd.step; rw [if_pos h0]
    rw [hs]
    have f1 : p.toList = [] := by rw [Lib.toList_data]; exact h0
    have f2 : p.toList.isEmpty = true := by rw [f1]; rfl
    have hst := h.more
    clear h
    go_enter Tryz.func145, Tryz.ntmps145
    go_wp2_with fail
    go_ret
    exact ⟨to_but (Below.refl _ _), rfl, fun _ => hst⟩
  have f1 : ¬ p.toList = [] := by rw [Lib.toList_data]; exact h0
  have f2 : p.toList.isEmpty = false := by rw [Lib.toList_data]; cases hh : p.data.toList with | nil => exact absurd hh h0 | cons _ _ => rfl
  have cA := any_is p ⟨#[13, 10, 0]⟩ w (by decide) low_bad (by decide) hp
  rw [show (p.data.toList.any fun c => (⟨#[13, 10, 0]⟩ : ByteArray).data.toList.contains c) = p.data.toList.any isBad from rfl] at cA
  cases hb : p.data.toList.any isBad with
  | true =>
    have hs : Hd.step l p.data.toList = (3, []) := by unfold Hd.step; rw [if_neg h0, if_pos hb]
    rw [hs]
    rw [hb] at cA
    clear h
    go_enter Tryz.func145, Tryz.ntmps145
    go_wp2_with fail
    refine cA.mono ?_
    rintro e w1 ⟨rfl, hb1⟩
    go_wp2_with fail
    go_ret
    exact ⟨to_but (hb1.mono hbw), rfl, fun h => absurd h (by decide)⟩
  | false =>
    rw [hb] at cA
    obtain ⟨c, r, hcr⟩ : ∃ c r, p.data.toList = c :: r := by
      cases hh : p.data.toList with
      | nil => exact absurd hh h0
      | cons c r => exact ⟨c, r, rfl⟩
    have hhd : p.data.toList.headD 0 = c := by rw [hcr]; rfl
    have h1 : 1 ≤ p.size := by rw [← list_size, hcr]; simp
    have hx : p.extract 0 1 = ⟨#[c]⟩ := text_ext (by rw [Lib.extract_from_zero, hcr]; rfl)
    have K1 : ∀ W, Below w.heap.size w W → W.cell? ⟨1, 0, none⟩ = some (.int .i64 m) ∧ Calls Tryz.prog 50 #[.string ⟨#[32, 9]⟩, .string (p.extract 0 1)] W fun e w' => e = .returned (.bool (blk c)) ∧ w' = W := fun W hW => by
      have hmW := (hW.cell (World.block_lt_of_cell? _ _ hm)).trans hm
      have := Tryz.strings_Contains ⟨#[32, 9]⟩ (p.extract 0 1) m W (by decide) hmW
      rw [hx] at this ⊢
      rw [show Lib.contains (⟨#[32, 9]⟩ : ByteArray).data.toList (⟨#[c]⟩ : ByteArray).data.toList = blk c from contains_one c] at this
      exact ⟨hmW, this⟩
    have HK : Hid (∀ W, Below w.heap.size w W → W.cell? ⟨1, 0, none⟩ = some (.int .i64 m) ∧ Calls Tryz.prog 50 #[.string ⟨#[32, 9]⟩, .string (p.extract 0 1)] W fun e w' => e = .returned (.bool (blk c)) ∧ w' = W) := K1
    have HST : Hid (St base b l k w) := h
    have HE : Hid (Hd.step l p.data.toList = if blk c = true then (if l = [] then (3, []) else (0, onto l (bare p.data.toList)))
        else if (cutAt 58 p.data.toList).2.2 = false ∨ nameOk (cutAt 58 p.data.toList).1 = false then (3, [])
        else if l.length = 40 then (4, []) else (0, l ++ [((cutAt 58 p.data.toList).1, bare (cutAt 58 p.data.toList).2.1)])) := by
      show _ = _
      unfold Hd.step
      rw [if_neg h0, hb, hhd]
      rfl
    obtain ⟨E, hE⟩ : ∃ E, Hd.step l p.data.toList = E := ⟨_, rfl⟩
    rw [hE] at HE ⊢
    clear h K1 hb h0 hcr hhd hx hm hE
    cases hbl : blk c with
    | true =>
      rw [hbl] at HE
      go_enter Tryz.func145, Tryz.ntmps145
      go_wp2_with fail
      refine cA.mono ?_
      clear cA
      rintro e w1 ⟨rfl, hb1⟩
      have cC := (HK.out w1 hb1).2
      rw [hbl] at cC
      go_wp2_with fail
      refine cC.mono ?_
      clear cC
      rintro e w2 ⟨rfl, hw⟩
      subst hw
      have cG := goOn_is base b k l p w2 (HST.out.below hb1) hp hk (Nat.le_trans hbw hb1.size) hn
      go_wp2_with fail
      refine cG.mono ?_
      clear cG
      rintro e w3 ⟨hb3, ⟨hl, rfl⟩ | ⟨hl, rfl, hst⟩⟩
      · have HEE : Hid (E = (3, [])) := by have := HE.out; rw [if_pos trivial, if_pos hl] at this; exact this
        go_wp2_with fail
        go_ret
        exact ⟨(to_but (hb1.mono hbw)).trans hb3, by rw [HEE.out]; rfl, fun h => absurd h (by rw [HEE.out]; decide)⟩
      · have he : E = (0, onto l (bare p.data.toList)) := by have := HE.out; rw [if_pos trivial, if_neg hl] at this; exact this
        have HEE : Hid (E = (0, onto l (bare p.data.toList))) := he
        clear he
        go_wp2_with fail
        go_ret
        refine ⟨(to_but (hb1.mono hbw)).trans hb3, by rw [HEE.out]; rfl, fun _ => by rw [HEE.out]; exact hst⟩
    | false =>
      rw [hbl] at HE
      go_enter Tryz.func145, Tryz.ntmps145
      go_wp2_with fail
      refine cA.mono ?_
      clear cA
      rintro e w1 ⟨rfl, hb1⟩
      have cC := (HK.out w1 hb1).2
      rw [hbl] at cC
      go_wp2_with fail
      refine cC.mono ?_
      clear cC
      rintro e w2 ⟨rfl, hw⟩
      subst hw
      have cG := begin_is base b k l p m w2 (HST.out.below hb1) hp hk (Nat.le_trans hbw hb1.size) hn (HK.out w2 hb1).1
      go_wp2_with fail
      refine cG.mono ?_
      clear cG
      rintro e w3 ⟨hb3, ⟨hx, rfl⟩ | ⟨hx, ⟨hl, rfl⟩ | ⟨hl, rfl, hst⟩⟩⟩
      · have HEE : Hid (E = (3, [])) := by have := HE.out; rw [if_neg (by simp), if_pos hx] at this; exact this
        clear hx
        go_wp2_with fail
        go_ret
        exact ⟨(to_but (hb1.mono hbw)).trans hb3, by rw [HEE.out]; rfl, fun h => absurd h (by rw [HEE.out]; decide)⟩
      · have HEE : Hid (E = (4, [])) := by have := HE.out; rw [if_neg (by simp), if_neg hx, if_pos hl] at this; exact this
        clear hx
        go_wp2_with fail
        go_ret
        exact ⟨(to_but (hb1.mono hbw)).trans hb3, by rw [HEE.out]; rfl, fun h => absurd h (by rw [HEE.out]; decide)⟩
      · have HEE : Hid (E = (0, l ++ [((cutAt 58 p.data.toList).1, bare (cutAt 58 p.data.toList).2.1)])) := by have := HE.out; rw [if_neg (by simp), if_neg hx, if_neg hl] at this; exact this
        clear hx
        go_wp2_with fail
        go_ret
        exact ⟨(to_but (hb1.mono hbw)).trans hb3, by rw [HEE.out]; rfl, fun _ => by rw [HEE.out]; exact hst⟩
/-- A slice of fields. -/
def Fg (w : World) (v : Value) (l : List Fb) : Prop :=
  ∃ a c, v = .slice a l.length c ∧ (l = [] ∨ ∃ b o, a = some ⟨b, o, none⟩ ∧ ∀ (j : Nat) f, l[j]? = some f → w.cell? ⟨b, o + j * 2, none⟩ = some (.string f.1) ∧ w.cell? ⟨b, o + j * 2 + 1, none⟩ = some (.string f.2))
theorem Fg.below {w w' : World} {v : Value} {B : Nat} {l : List Fb} (h : Fg w v l) (hb : Below B w w') (hB : w.heap.size ≤ B) : Fg w' v l := by
  obtain ⟨a, c, h1, h2⟩ := h
  refine ⟨a, c, h1, ?_⟩
  rcases h2 with h2 | ⟨b, o, h2, h3⟩
  · exact Or.inl h2
  · refine Or.inr ⟨b, o, h2, fun j f hj => ?_⟩
    obtain ⟨x, y⟩ := h3 j f hj
    exact ⟨(hb.cell (Nat.lt_of_lt_of_le (World.block_lt_of_cell? _ _ x) hB)).trans x, (hb.cell (Nat.lt_of_lt_of_le (World.block_lt_of_cell? _ _ y) hB)).trans y⟩
theorem cellsF_get : ∀ (l : List Fb) (j : Nat) f, l[j]? = some f → (cellsF l)[j * 2]? = some (.string f.1) ∧ (cellsF l)[j * 2 + 1]? = some (.string f.2)
  | [], _, _, h => by simp at h
  | g :: l, 0, f, h => by
    obtain rfl : g = f := by simpa using h
    exact ⟨rfl, rfl⟩
  | g :: l, j + 1, f, h => by
    have := cellsF_get l j f (by simpa using h)
    rw [show (j + 1) * 2 = j * 2 + 2 by omega]
    exact this
theorem fg_of_row {w : World} {base : Nat} {v : Value} {l : List Fb} (h : w.ownsRow base 123 2 v l.length (cellsF l)) : Fg w v l := by
  by_cases h0 : l = []
  · subst h0
    obtain ⟨a, c, rfl⟩ := row_slice h
    exact ⟨a, c, rfl, Or.inl rfl⟩
  · obtain ⟨g, c, rfl⟩ := row_some h (fun e => h0 (List.eq_nil_of_length_eq_zero e))
    refine ⟨_, c, rfl, Or.inr ⟨g, 0, rfl, fun j f hj => ?_⟩⟩
    have hjl := (List.getElem?_eq_some_iff.1 hj).1
    have := cellsF_get l j f hj
    rw [Nat.zero_add, h.cellAt _ (by omega), h.cellAt _ (by omega)]
    exact this
set_option maxRecDepth 100000 in
theorem all_is (base b k : Nat) (l : List Hd.Fd) (w : World) (h : St base b l k w) (hk : k ≤ 100000) (hbw : base ≤ w.heap.size) (hn : l.length ≤ 40) :
    Calls Tryz.prog 146 #[.pointer (some ⟨b, 0, none⟩)] w fun e w' => (∃ v L, e = .returned v ∧ Fg w' v L ∧ L.map tx = l) ∧ But base b w w' := by
  have cJ := join_is base b k l w h hk hbw hn
  clear h
  go_enter Tryz.func146, Tryz.ntmps146
  go_wp2_with fail
  refine cJ.mono ?_
  rintro e w1 ⟨rfl, ⟨R, hR, hRl⟩, hb1⟩
  obtain ⟨vf, vs, hh, hrf, _⟩ := hR.st
  have hFg := fg_of_row hrf
  have c0 : w1.cell? ⟨b, 0, none⟩ = some vf := rd_cell hh rfl
  obtain ⟨a, cap, rfl⟩ := row_slice hrf
  have HF : Hid (Fg w1 (.slice a R.length cap) R) := hFg
  have HR : Hid (R.map tx = l) := hRl
  obtain ⟨N, hN⟩ : ∃ N, R.length = N := ⟨_, rfl⟩
  rw [hN] at c0 HF
  clear hR hrf hFg hRl cJ hh
  go_wp2_with fail
  go_ret
  exact ⟨⟨_, R, rfl, HF.out, HR.out⟩, hb1⟩
end Go.Proofs.YtgbbkdflnlagaaaGreatDoor
