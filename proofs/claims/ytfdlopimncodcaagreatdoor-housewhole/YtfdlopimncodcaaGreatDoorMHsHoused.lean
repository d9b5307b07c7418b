/-
  The fact that statements on houses hold against the program first: a box in a box.
-/
import Derived.Test.YtfdlopimncodcaaGreatDoorBpAs
namespace Go.Proofs.YtfdlopimncodcaaGreatDoor
open Go.RowKit Go.Proofs.Aid

/-- What houses read of the program's variables. -/
def HEnv (w : World) : Prop := NEnv w ∧ ErrType w ∧ 8 ≤ w.heap.size
theorem HEnv.below {w w' : World} (h : HEnv w) (hb : Below w.heap.size w w') : HEnv w' := ⟨h.1.below hb, h.2.1.below hb, Nat.le_trans h.2.2 hb.size⟩
theorem nm_ab : nameB [97, 47, 98] = some [97, 47, 98] := by kernel_rfl
theorem nm_a : nameB [97] = some [97] := by kernel_rfl
theorem nm_c : nameB [99] = some [99] := by kernel_rfl
theorem mt_c : matchB [99, 37] [99] = true := by kernel_rfl
theorem mt_cb : matchB [37] [99, 47, 98] = false := by kernel_rfl
theorem hs_1 (a : Nat) : hasB [(inboxN, a)] [97, 47, 98] = false ∧ lackB [(inboxN, a)] [97, 47, 98] = [[97]] := ⟨by kernel_rfl, by kernel_rfl⟩
theorem hs_2 (a b c : Nat) : putAll [(inboxN, a)] [([97], b), ([97, 47, 98], c)] = [(inboxN, a), ([97], b), ([97, 47, 98], c)] := by kernel_rfl
theorem hs_3 (a b c : Nat) : hasB [(inboxN, a), ([97], b), ([97, 47, 98], c)] [97] = true ∧ withinB [(inboxN, a), ([97], b), ([97, 47, 98], c)] [97] = [[97, 47, 98]] ∧ hasB [(inboxN, a), ([97], b), ([97, 47, 98], c)] [99] = false ∧ lackB [(inboxN, a), ([97], b), ([97, 47, 98], c)] [99] = [] := ⟨by kernel_rfl, by kernel_rfl, by kernel_rfl, by kernel_rfl⟩
theorem hs_4 (a b c : Nat) : ((mvNames [(inboxN, a), ([97], b), ([97, 47, 98], c)] [97]).any fun x => decide (60 < (calledB [99] [97] x).length)) = false := by kernel_rfl
theorem hs_5 (a b c : Nat) : mvAll [99] [97] (mvNames [(inboxN, a), ([97], b), ([97, 47, 98], c)] [97]) [(inboxN, a), ([97], b), ([97, 47, 98], c)] = [(inboxN, a), ([99], b), ([99, 47, 98], c)] := by kernel_rfl
/-- Names of a row, held against three names that were just laid. -/
theorem nequal3 {w : World} {base : Nat} {v : Value} {a b c : Nm} (h : NRow w base v [a, b, c]) (bk : Nat) (hbk : w.heap[bk]? = some (.cells #[encStr a, encStr b, encStr c] 9 (0, 0))) :
    Calls Tryz.prog 28 #[v, .slice (some ⟨bk, 0, none⟩) 3 3] w fun e w' => e = .returned (.bool true) ∧ Below w.heap.size w w' := by
  obtain ⟨g, cap, rfl, _⟩ := nrow_at h (j := 0) (x := a) rfl
  have hc : ∀ j, j < ([⟨a.toArray⟩, ⟨b.toArray⟩, ⟨c.toArray⟩] : List ByteArray).length → w.cell? ⟨g, 0 + j, none⟩ = some (.string (([⟨a.toArray⟩, ⟨b.toArray⟩, ⟨c.toArray⟩] : List ByteArray).getD j ByteArray.empty)) := fun j hj => by
    have hj3 : j < 3 := hj
    have key : ∀ (x : Nm), [a, b, c][j]? = some x → w.cell? ⟨g, 0 + j, none⟩ = some (.string ⟨x.toArray⟩) := fun x hx => by
      obtain ⟨g', cap', e1, e2⟩ := nrow_at h hx
      injection e1 with e1 _ _
      injection e1 with e1
      injection e1 with e1 _ _
      subst e1
      rw [Nat.zero_add]
      exact e2
    match j, hj3 with
    | 0, _ => exact key a rfl
    | 1, _ => exact key b rfl
    | 2, _ => exact key c rfl
  have hd : ∀ j, j < ([⟨a.toArray⟩, ⟨b.toArray⟩, ⟨c.toArray⟩] : List ByteArray).length → w.cell? ⟨bk, 0 + j, none⟩ = some (.string (([⟨a.toArray⟩, ⟨b.toArray⟩, ⟨c.toArray⟩] : List ByteArray).getD j ByteArray.empty)) := fun j hj => by
    have hj3 : j < 3 := hj
    match j, hj3 with
    | 0, _ => exact rd_cell hbk rfl
    | 1, _ => exact rd_cell hbk rfl
    | 2, _ => exact rd_cell hbk rfl
  have := Tryz.slices_Equal_string g 0 3 cap bk 0 3 3 [⟨a.toArray⟩, ⟨b.toArray⟩, ⟨c.toArray⟩] [⟨a.toArray⟩, ⟨b.toArray⟩, ⟨c.toArray⟩] w (Nat.le_refl 3) (Nat.le_refl 3) (by decide) (by decide) hc hd
  rw [decide_eq_true rfl] at this
  refine this.mono ?_
  rintro e w' ⟨rfl, q, rfl⟩
  exact ⟨rfl, below_drewN (Below.refl _ _) q⟩
theorem two_fst {ps : Bxs} {a b : Nm} (h : ps.map Prod.fst = [a, b]) : ∃ x y, ps = [(a, x), (b, y)] := by
  match ps, h with
  | [(p, x), (q, y)], h =>
    simp only [List.map_cons, List.map_nil, List.cons.injEq, and_true] at h
    exact ⟨x, y, by rw [h.1, h.2]⟩
set_option maxHeartbeats 8000000 in
set_option maxRecDepth 100000 in
theorem housed_is (w : World) (hE : HEnv w) :
    Calls Tryz.prog 25 #[] w fun e w' => e = .returned (.bool true) ∧ Below w.heap.size w w' := by
  obtain ⟨H, hH⟩ : ∃ k, w.heap.size = k := ⟨_, rfl⟩
  have cN := new_is w
  have HE : Hid (HEnv w ∧ w.heap.size = H) := ⟨hE, hH⟩
  rw [hH] at cN ⊢
  clear hE hH
  go_enter Tryz.func25, Tryz.ntmps25
  go_wp2_with fail
  refine cN.mono ?_
  rintro e w1 ⟨rfl, h1, _, hb1⟩
  have hG : 8 ≤ H := by rw [← HE.out.2]; exact HE.out.1.2.2
  have env1 := HE.out.1.below (by rw [HE.out.2]; exact hb1)
  have cC := create_is nameB (H + 1) H [(inboxN, H + 2)] 2 (.slice none 0 0) ⟨#[97, 47, 98]⟩ w1 (nameC env1.1) h1 (by decide) (by simp) (by decide)
  have HB1 : Hid (Below H w w1 ∧ HEnv w1) := ⟨hb1, env1⟩
  clear cN h1 hb1 env1
  go_wp2_with fail
  refine cC.mono ?_
  rintro e w2 hc
  obtain ⟨b, c, rfl, hk2, h2⟩ : ∃ b c, e = .returned .nilIface ∧ HK (H + 1) H w1 w2 ∧ HsAt w2 (H + 1) H [(inboxN, H + 2), ([97], b), ([97, 47, 98], c)] 4 (.slice none 0 0) := by
    have e0 : nameB (⟨#[97, 47, 98]⟩ : ByteArray).data.toList = some [97, 47, 98] := nm_ab
    rcases hc with ⟨c1, _⟩ | ⟨r, c1, c2, _⟩ | ⟨r, c1, _, c3, _⟩ | ⟨r, ps, c1, _, _, c4, c5, c6, c7⟩
    · rw [e0] at c1
      cases c1
    · rw [e0] at c1
      obtain rfl := Option.some.inj c1
      rw [(hs_1 _).1] at c2
      cases c2
    · rw [e0] at c1
      obtain rfl := Option.some.inj c1
      rw [(hs_1 _).2] at c3
      exact absurd c3 (by simp)
    · rw [e0] at c1
      obtain rfl := Option.some.inj c1
      have c61 := c6.1
      rw [(hs_1 _).2] at c61 c7
      obtain ⟨x, y, rfl⟩ := two_fst c61
      rw [hs_2] at c7
      exact ⟨x, y, c4, c5, c7⟩
  have hb2 : Below H w1 w2 := hk2.below (by rw [← HE.out.2]; exact (by have := HB1.out.1.size; exact this)) (by omega) (Nat.le_refl _)
  have cM := names_is (H + 1) H _ 4 (.slice none 0 0) w2 h2 (by simp)
  have HB2 : Hid (Below H w w2 ∧ NEnv w2 ∧ ErrType w2 ∧ HsAt w2 (H + 1) H [(inboxN, H + 2), ([97], b), ([97, 47, 98], c)] 4 (.slice none 0 0)) := by
    refine ⟨HB1.out.1.trans hb2, HB1.out.2.1.low (hb2.mono hG), ?_, h2⟩
    have := hb2.cell (p := ⟨1, 0, none⟩) (by show 1 < H; omega)
    exact this.trans HB1.out.2.2.1
  clear cC hc hk2 h2 hb2 HB1
  go_wp2_with fail
  refine cM.mono ?_
  rintro e w3 ⟨⟨v3, rfl, hrow3⟩, hb3⟩
  obtain ⟨va, vc, rfl⟩ : ∃ a c, v3 = .slice a 3 c := row_form hrow3
  have h3 := HB2.out.2.2.2.below hb3 (Nat.le_refl _)
  have cD := delete_is nameB (H + 1) H _ 4 (.slice none 0 0) ⟨#[97]⟩ w3 (nameC (HB2.out.2.1.below hb3)) h3 (by decide) (by simp)
  have HB3 : Hid (Below H w w3 ∧ NEnv w3 ∧ ErrType w3 ∧ HsAt w3 (H + 1) H [(inboxN, H + 2), ([97], b), ([97, 47, 98], c)] 4 (.slice none 0 0)) := ⟨HB2.out.1.trans (hb3.mono (by have := HB2.out.1.size; have := HE.out.2; omega)), HB2.out.2.1.below hb3, HB2.out.2.2.1.below hb3, h3⟩
  clear cM hrow3 hb3 h3 HB2
  go_wp2_with fail
  refine cD.mono ?_
  rintro e w4 hd
  obtain ⟨rfl, hb4⟩ : e = .returned (errN 6) ∧ Below w3.heap.size w3 w4 := by
    have e0 : nameB (⟨#[97]⟩ : ByteArray).data.toList = some [97] := nm_a
    rcases hd with ⟨c1, _⟩ | ⟨r, c1, c2, _⟩ | ⟨r, _, _, _, c4, c5⟩ | ⟨r, c1, _, _, c4, _⟩
    · rw [e0] at c1
      cases c1
    · rw [e0] at c1
      obtain rfl := Option.some.inj c1
      rw [(hs_3 _ _ _).1] at c2
      cases c2
    · exact ⟨c4, c5⟩
    · rw [e0] at c1
      obtain rfl := Option.some.inj c1
      rw [(hs_3 _ _ _).2.1] at c4
      cases c4
  have cT := tell_err 6 w4 (HB3.out.2.2.1.below hb4)
  have HB4 : Hid (Below H w w4 ∧ NEnv w4 ∧ HsAt w4 (H + 1) H [(inboxN, H + 2), ([97], b), ([97, 47, 98], c)] 4 (.slice none 0 0)) := ⟨HB3.out.1.trans (hb4.mono (by have := HB3.out.1.size; have := HE.out.2; omega)), HB3.out.2.1.below hb4, HB3.out.2.2.2.below hb4 (Nat.le_refl _)⟩
  clear cD hd hb4 HB3
  go_wp2_with fail
  refine cT.mono ?_
  rintro e w5 ⟨rfl, hb5⟩
  have h5 := HB4.out.2.2.below hb5 (Nat.le_refl _)
  have hz5 : H ≤ w5.heap.size := by have h1 := HB4.out.1.size; have h2 := HE.out.2; have h3 := hb5.size; omega
  have cR := rename_is nameB (H + 1) H _ 4 (.slice none 0 0) ⟨#[97]⟩ ⟨#[99]⟩ [97] [99] w5 (nameC (HB4.out.2.1.below hb5)) h5 (by omega) (by decide) (by decide) (by simp) (by simp [inboxN]) (by decide) nm_a (hs_3 _ _ _).1 nm_c (hs_3 _ _ _).2.2.1 (by decide)
  have HB5 : Hid (Below H w w5) := HB4.out.1.trans (hb5.mono (by have := HB4.out.1.size; have := HE.out.2; omega))
  clear cT hb5 h5 HB4
  go_wp2_with fail
  refine cR.mono ?_
  rintro e w6 hr
  obtain ⟨rfl, hk6, h6⟩ : e = .returned .nilIface ∧ HK (H + 1) H w5 w6 ∧ HsAt w6 (H + 1) H [(inboxN, H + 2), ([99], b), ([99, 47, 98], c)] 4 (.slice none 0 0) := by
    rcases hr with ⟨c1, _⟩ | ⟨_, c2, _⟩ | ⟨_, _, c3, _⟩ | ⟨_, _, _, c4, c5, ps, c6, c7⟩
    · exact absurd c1 (by decide)
    · rw [hs_4] at c2
      cases c2
    · rw [(hs_3 _ _ _).2.2.2] at c3
      exact absurd c3 (by simp)
    · have c61 := c6.1
      rw [(hs_3 _ _ _).2.2.2] at c61 c7
      obtain rfl : ps = [] := List.map_eq_nil_iff.1 c61
      rw [show putAll [(inboxN, H + 2), ([97], b), ([97, 47, 98], c)] [] = [(inboxN, H + 2), ([97], b), ([97, 47, 98], c)] from rfl, hs_5] at c7
      exact ⟨c4, c5, c7⟩
  have hb6 : Below H w5 w6 := hk6.below hz5 (by omega) (Nat.le_refl _)
  have cM2 := names_is (H + 1) H _ 4 (.slice none 0 0) w6 h6 (by simp)
  have HB6 : Hid (Below H w w6) := HB5.out.trans hb6
  clear cR hr hk6 h6 hb6 HB5
  go_wp2_with fail
  refine cM2.mono ?_
  rintro e w7 ⟨⟨v7, rfl, hrow7⟩, hb7⟩
  obtain ⟨ua, uc, rfl⟩ : ∃ a c, v7 = .slice a 3 c := row_form hrow7
  have b8 : Below w7.heap.size w7 (w7.alloc (.cells #[.string ⟨#[73, 78, 66, 79, 88]⟩, .string ⟨#[99]⟩, .string ⟨#[99, 47, 98]⟩] 9)) := (Below.refl _ _).alloc (Nat.le_refl _) _
  have e8 := heap_alloc_new w7 (.cells #[.string ⟨#[73, 78, 66, 79, 88]⟩, .string ⟨#[99]⟩, .string ⟨#[99, 47, 98]⟩] 9)
  obtain ⟨W8, hW8⟩ : ∃ W, w7.alloc (.cells #[.string ⟨#[73, 78, 66, 79, 88]⟩, .string ⟨#[99]⟩, .string ⟨#[99, 47, 98]⟩] 9) = W := ⟨_, rfl⟩
  rw [hW8] at b8 e8
  have cQ := nequal3 (hrow7.below b8 (Nat.le_refl _)) w7.heap.size e8
  have HB8 : Hid (Below H w W8) := HB6.out.trans ((hb7.trans (b8.mono hb7.size)).mono (by have := HB6.out.size; have := HE.out.2; omega))
  clear cM2 hrow7 hb7 b8 e8 HB6
  go_wp2_with fail
  refine cQ.mono ?_
  rintro e w9 ⟨rfl, hb9⟩
  have cX := match_is ⟨#[99, 37]⟩ ⟨#[99]⟩ w9 (by decide) (by decide)
  rw [show matchB (⟨#[99, 37]⟩ : ByteArray).data.toList (⟨#[99]⟩ : ByteArray).data.toList = true from mt_c] at cX
  have HB9 : Hid (Below H w w9) := HB8.out.trans (hb9.mono (by have := HB8.out.size; have := HE.out.2; omega))
  clear cQ hb9 HB8
  go_wp2_with fail
  refine cX.mono ?_
  rintro e w10 ⟨rfl, hb10⟩
  have cY := match_is ⟨#[37]⟩ ⟨#[99, 47, 98]⟩ w10 (by decide) (by decide)
  rw [show matchB (⟨#[37]⟩ : ByteArray).data.toList (⟨#[99, 47, 98]⟩ : ByteArray).data.toList = false from mt_cb] at cY
  have HB10 : Hid (Below H w w10) := HB9.out.trans (hb10.mono (by have := HB9.out.size; have := HE.out.2; omega))
  clear cX hb10 HB9
  go_wp2_with fail
  refine cY.mono ?_
  rintro e w11 ⟨rfl, hb11⟩
  have HB11 : Hid (Below H w w11) := HB10.out.trans (hb11.mono (by have := HB10.out.size; have := HE.out.2; omega))
  clear cY hb11 HB10
  go_wp2_with fail
  go_ret
  exact ⟨rfl, HB11.out⟩
end Go.Proofs.YtfdlopimncodcaaGreatDoor
