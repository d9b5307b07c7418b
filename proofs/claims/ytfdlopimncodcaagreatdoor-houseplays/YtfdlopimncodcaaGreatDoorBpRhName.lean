/-
  How the document calls a box: as the program does, and more.
-/
import Derived.Test.YtfdlopimncodcaaGreatDoorBpRhNames
namespace Go.Proofs.YtfdlopimncodcaaGreatDoor
open Go.RowKit Go.Proofs.Aid Go.Proofs.Sq Go.Proofs.Hd
theorem contains_byte (s : List UInt8) (c : UInt8) : Lib.contains s [c] = s.contains c := by
  have hocc : ∀ j, Lib.occAt s [c] j = true ↔ s[j]? = some c := fun j => by
    unfold Lib.occAt
    rw [← List.head?_drop]
    cases s.drop j with
    | nil => exact ⟨fun h => (by cases h), fun h => (by cases h)⟩
    | cons a l =>
      show ((c == a) && true) = true ↔ some a = some c
      rw [Bool.and_true, beq_iff_eq, Option.some.injEq]
      exact eq_comm
  rw [Bool.eq_iff_iff, List.contains_iff_mem]
  unfold Lib.contains
  rw [decide_eq_true_eq]
  rcases Lib.index_spec s [c] with ⟨h1, h2⟩ | ⟨i, h1, h2, h3, _⟩
  · rw [h1]
    constructor
    · intro h; omega
    · intro h
      obtain ⟨j, hj⟩ := List.getElem?_of_mem h
      have := h2 j (Nat.le_of_lt (List.getElem?_eq_some_iff.1 hj).1)
      rw [(hocc j).2 hj] at this
      cases this
  · rw [h1]
    constructor
    · intro _
      exact List.mem_of_getElem? ((hocc i).1 h3)
    · intro _; omega
theorem sm_inbox (p : List UInt8) : p.map Fl.sm = [105, 110, 98, 111, 120] ↔ great p = inboxN := by
  have h : ∀ n : Fin 256, (Fl.sm (UInt8.ofNat n.val) = 105 ↔ gr (UInt8.ofNat n.val) = 73) ∧ (Fl.sm (UInt8.ofNat n.val) = 110 ↔ gr (UInt8.ofNat n.val) = 78) ∧ (Fl.sm (UInt8.ofNat n.val) = 98 ↔ gr (UInt8.ofNat n.val) = 66) ∧ (Fl.sm (UInt8.ofNat n.val) = 111 ↔ gr (UInt8.ofNat n.val) = 79) ∧ (Fl.sm (UInt8.ofNat n.val) = 120 ↔ gr (UInt8.ofNat n.val) = 88) := by decide +kernel
  have h' : ∀ c : UInt8, (Fl.sm c = 105 ↔ gr c = 73) ∧ (Fl.sm c = 110 ↔ gr c = 78) ∧ (Fl.sm c = 98 ↔ gr c = 66) ∧ (Fl.sm c = 111 ↔ gr c = 79) ∧ (Fl.sm c = 120 ↔ gr c = 88) := fun c => by
    have := h ⟨c.toNat, c.toNat_lt⟩
    simpa using this
  unfold great inboxN
  match p with
  | [] => simp
  | [a] => simp
  | [a, b] => simp
  | [a, b, c] => simp
  | [a, b, c, d] => simp
  | [a, b, c, d, e] =>
    simp only [List.map_cons, List.map_nil, List.cons.injEq, and_true]
    rw [(h' a).1, (h' b).2.1, (h' c).2.2.1, (h' d).2.2.2.1, (h' e).2.2.2.2]
  | a :: b :: c :: d :: e :: f :: l => simp
set_option maxHeartbeats 8000000 in
set_option maxRecDepth 100000 in
theorem rname_is (s : ByteArray) (w : World) (hE : NEnv w) (hs : s.size ≤ 1000) :
    Calls Tryz.prog 14 #[.string s] w fun e w' => Below w.heap.size w w' ∧
      ((∃ r : ByteArray, nameB s.data.toList = some r.data.toList ∧ r.size ≤ 60 ∧ e = .returned (.tuple #[.string r, .int .i64 0])) ∨ (nameB s.data.toList = none ∧ e = .returned (.tuple #[.string ⟨#[]⟩, .int .i64 1]))) := by
  have HE : Hid (NEnv w) := hE
  clear hE
  obtain ⟨P, hP⟩ : ∃ P, Lib.splitB ⟨#[47]⟩ 0 (Lib.countB s ⟨#[47]⟩) s = P := ⟨_, rfl⟩
  obtain ⟨N, hN⟩ : ∃ N, Lib.countB s ⟨#[47]⟩ = N := ⟨_, rfl⟩
  have hsp := split_between 47 s
  rw [hP] at hsp
  have hPl : P.length = N + 1 := by
    have := Lib.splitB_all ⟨#[47]⟩ (by decide) 0 _ s rfl
    rw [hP, hN] at this
    exact this
  have hcl := Lib.countB_le ⟨#[47]⟩ (by decide) _ s (Nat.le_refl _)
  have cS : ∀ W, Below w.heap.size w W → Calls Tryz.prog 56 #[.string s, .string ⟨#[47]⟩] W fun e w' => e = .returned (.slice (some ⟨W.heap.size, 0, none⟩) (N + 1) (N + 1)) ∧ w' = W.alloc (.cells (P.map Value.string).toArray 9) := fun W hW => by
    obtain ⟨m, hm⟩ := (HE.out.below hW).1
    have := Tryz.strings_Split s ⟨#[47]⟩ m W (by omega) hm (by decide)
    rw [hP, hN] at this
    exact this
  obtain ⟨p0, tl, rfl⟩ : ∃ p0 tl, P = p0 :: tl := List.exists_cons_of_ne_nil (fun e => by rw [e] at hPl; cases hPl)
  have hrow : ∀ W : World, ∀ j, j < (p0 :: tl).length → (W.alloc (.cells ((p0 :: tl).map Value.string).toArray 9)).cell? ⟨W.heap.size, 0 + j, none⟩ = some (.string ((p0 :: tl).getD j ByteArray.empty)) := fun W j hj => by
    refine rd_cell (heap_alloc_new _ _) ?_
    rw [Nat.zero_add, List.getElem?_toArray, List.getElem?_map, List.getElem?_eq_getElem hj, List.getD_eq_getElem?_getD, List.getElem?_eq_getElem hj]
    rfl
  have HSP : Hid ((p0 :: tl).map (·.data.toList) = between 47 s.data.toList) := hsp
  have hp0s : p0.size ≤ 1000 := by
    have h3 := join_between 47 s.data.toList
    rw [← hsp, List.map_cons, Lib.join_cons] at h3
    have := congrArg List.length h3
    rw [List.length_append] at this
    have e1 : p0.data.toList.length = p0.size := by rw [Array.length_toList]; rfl
    have e2 : s.data.toList.length = s.size := by rw [Array.length_toList]; rfl
    omega
  have HJ : Hid (∀ (q : ByteArray) (G : Nat) (W : World), q.size = p0.size → G < W.heap.size → (∀ (j : Nat) x, (q :: tl)[j]? = some x → W.cell? ⟨G, 0 + j, none⟩ = some (.string x)) → Calls Tryz.prog 59 #[.slice (some ⟨G, 0, none⟩) (N + 1) (N + 1), .string ⟨#[47]⟩] W fun e w' => e = .returned (.string ⟨(Lib.join ((q :: tl).map (·.data.toList)) [47]).toArray⟩) ∧ Below W.heap.size W w') := fun q G W hq hG hc => by
    have := Tryz.strings_Join G 0 (N + 1) (q :: tl) ⟨#[47]⟩ W hc hG (by rw [List.length_cons]; rw [List.length_cons] at hPl; omega) (by rw [List.length_cons]; rw [List.length_cons] at hPl; omega) (by
      have h3 := join_between 47 s.data.toList
      rw [← hsp, List.map_cons, Lib.join_cons] at h3
      rw [List.map_cons, Lib.join_cons, List.length_append]
      have h4 := congrArg List.length h3
      rw [List.length_append] at h4
      have e0 : q.data.toList.length = q.size := by rw [Array.length_toList]; rfl
      have e1 : p0.data.toList.length = p0.size := by rw [Array.length_toList]; rfl
      have e2 : s.data.toList.length = s.size := by rw [Array.length_toList]; rfl
      show q.data.toList.length + (Lib.joinTail [47] (tl.map (·.data.toList))).length ≤ _
      omega)
    rw [show (q :: tl).length = N + 1 from by rw [List.length_cons]; rw [List.length_cons] at hPl; omega] at this
    exact this
  have HNM : Hid (∀ W, Below w.heap.size w W → Calls Tryz.prog 57 #[.string s] W fun e w' => e = .returned (.bool (Ut.rightB s.data.toList)) ∧ Below W.heap.size W w') := fun W hW => named_any s W (by omega) (HE.out.below hW).2
  have HCN : Hid (∀ W (c : UInt8), Below w.heap.size w W → Calls Tryz.prog 38 #[.string s, .string ⟨#[c]⟩] W fun e w' => e = .returned (.bool (s.data.toList.contains c)) ∧ w' = W) := fun W c hW => by
    obtain ⟨m, hm⟩ := (HE.out.below hW).1
    have := Tryz.strings_Contains s ⟨#[c]⟩ m W (by omega) hm
    rw [show Lib.contains s.data.toList (⟨#[c]⟩ : ByteArray).data.toList = s.data.toList.contains c from contains_byte _ _] at this
    exact this
  have HSM : Hid (∀ W, Calls Tryz.prog 58 #[.string p0] W fun e w' => (∃ t : ByteArray, e = .returned (.string t) ∧ (t.toList = [105, 110, 98, 111, 120] ↔ great p0.data.toList = inboxN)) ∧ Below W.heap.size W w') := fun W => (ref_small p0 W (by omega)).mono fun e w' ⟨⟨t, h1, h2⟩, h3⟩ => ⟨⟨t, h1, by rw [Lib.toList_data, h2]; exact sm_inbox _⟩, h3⟩
  have HRES : Hid (∀ q : ByteArray, Ut.rightB s.data.toList = true → s.data.toList.contains 37 = false → s.data.toList.contains 42 = false → (∀ (j : Nat) x, (p0 :: tl)[j]? = some x → ¬ x.toList = []) → q.data.toList = nmHead p0.data.toList → ∃ r : ByteArray, nameB s.data.toList = some r.data.toList ∧ r.size ≤ 60 ∧ (⟨(Lib.join ((q :: tl).map (·.data.toList)) [47]).toArray⟩ : ByteArray) = r) := fun q h1 h2 h3 h4 hq => by
    have hne : [] ∉ between 47 s.data.toList := fun h => by
      rw [← HSP.out, List.mem_map] at h
      obtain ⟨x, hx, he⟩ := h
      obtain ⟨j, hj⟩ := List.getElem?_of_mem hx
      exact h4 j x hj (by rw [Lib.toList_data]; exact he)
    have hwild : (s.data.toList.any fun c => ([37, 42] : List UInt8).contains c) = false := by
      rw [List.any_eq_false]
      intro c hc hw
      rw [List.contains_iff_mem] at hw
      rcases List.mem_cons.1 hw with rfl | hw
      · rw [List.contains_iff_mem.2 hc] at h2
        cases h2
      · obtain rfl := List.mem_singleton.1 hw
        rw [List.contains_iff_mem.2 hc] at h3
        cases h3
    have e3 : nameB s.data.toList = some (Lib.join ((q :: tl).map (·.data.toList)) [47]) := by
      unfold nameB
      rw [if_pos ⟨h1, hwild, hne⟩, ← HSP.out]
      show some (Lib.join (nmHead p0.data.toList :: tl.map (·.data.toList)) [47]) = some (Lib.join (q.data.toList :: tl.map (·.data.toList)) [47])
      rw [hq]
    refine ⟨_, e3, ?_, rfl⟩
    have := nameB_len e3
    show (Lib.join ((q :: tl).map (·.data.toList)) [47]).toArray.size ≤ 60
    rw [List.size_toArray]
    exact this
  have HNO : Hid (Ut.rightB s.data.toList = false ∨ s.data.toList.contains 37 = true ∨ s.data.toList.contains 42 = true ∨ (∃ (j : Nat) (x : ByteArray), (p0 :: tl)[j]? = some x ∧ x.toList = []) → nameB s.data.toList = none) := fun h => by
    unfold nameB
    refine if_neg fun hc => ?_
    rcases h with h | h | h | ⟨j, x, h1, h2⟩
    · rw [h] at hc
      cases hc.1
    · exact List.any_eq_false.1 hc.2.1 37 (List.contains_iff_mem.1 h) (by decide)
    · exact List.any_eq_false.1 hc.2.1 42 (List.contains_iff_mem.1 h) (by decide)
    · refine hc.2.2 ?_
      rw [← HSP.out, List.mem_map]
      exact ⟨x, List.mem_of_getElem? h1, by rw [← Lib.toList_data]; exact h2⟩
  obtain ⟨CS, hCS⟩ : ∃ c, ((p0 :: tl).map Value.string).toArray = c := ⟨_, rfl⟩
  have HC0 : Hid (CS = ((p0 :: tl).map Value.string).toArray) := hCS.symm
  rw [hCS] at hrow cS
  have cS0 := cS w (Below.refl _ _)
  have HRW := hrow w
  have b1 : Below w.heap.size w (w.alloc (.cells CS 9)) := (Below.refl _ _).alloc (Nat.le_refl _) _
  have e1 := heap_alloc_new w (.cells CS 9)
  have z1 : (w.alloc (.cells CS 9)).heap.size = w.heap.size + 1 := World.size_alloc _ _
  obtain ⟨W1, hW1⟩ : ∃ W, w.alloc (.cells CS 9) = W := ⟨_, rfl⟩
  rw [hW1] at HRW b1 e1 z1 cS0
  obtain ⟨R, hR⟩ : ∃ r, w.heap.size = r := ⟨_, rfl⟩
  have HX1 : Hid (Below w.heap.size w W1 ∧ W1.heap[R]? = some (.cells CS 9 (0, 0)) ∧ R < W1.heap.size ∧ (p0 :: tl).length = N + 1 ∧ N ≤ 1000 ∧ ∀ j, j < (p0 :: tl).length → W1.cell? ⟨R, 0 + j, none⟩ = some (.string ((p0 :: tl).getD j ByteArray.empty))) := ⟨b1, by rw [← hR]; exact e1, by omega, hPl, by
    have h2 : s.data.toList.length = s.size := by rw [Array.length_toList]; rfl
    omega, by rw [← hR]; exact HRW⟩
  rw [hR] at cS0
  clear hsp hP hN hPl hcl hrow cS HRW b1 e1 z1 hCS
  have hN1 : N ≤ 1000 := HX1.out.2.2.2.2.1
  go_enter Tryz.func14, Tryz.ntmps14
  go_wp2_with fail
  refine cS0.mono ?_
  rintro e w2 ⟨rfl, rfl⟩
  clear cS0
  go_wp2_with fail
  go_loopw [11] (fun iv wr => ∃ k : Nat, iv = .int .i64 (k : Int) ∧ k ≤ N + 1 ∧ Hid ((∀ (j : Nat) x, j < k → (p0 :: tl)[j]? = some x → ¬ x.toList = []) ∧ wr = w2)) (fun iv _ => N + 1 - (intOf iv).toNat)
  case atStart => exact ⟨0, rfl, Nat.zero_le _, fun j x hj => absurd hj (Nat.not_lt_zero _), rfl⟩
  case round =>
    obtain ⟨k, rfl, hk, HI⟩ := hrel
    obtain ⟨HI1, hw⟩ := HI.out
    obtain rfl : w2 = wr := hw.symm
    have HJ1 : Hid (∀ (j : Nat) x, j < k → (p0 :: tl)[j]? = some x → ¬ x.toList = []) := HI1
    clear HI HI1 hw
    by_cases hlt : k < N + 1
    · have d1 : decide ((k : Int) < (N : Int) + 1) = true := decide_eq_true (by omega)
      have d2 : decide ((k : Int) < ((N + 1 : Nat) : Int)) = true := decide_eq_true (by omega)
      have i1 : (0 : Int) ≤ (k : Int) := by omega
      have i2 : (k : Int) < (N : Int) + 1 := by omega
      have i3 : (k : Int) < ((N + 1 : Nat) : Int) := by omega
      obtain ⟨pk, hpk⟩ : ∃ x, (p0 :: tl)[k]? = some x := ⟨_, List.getElem?_eq_getElem (by have := HX1.out.2.2.2.1; omega)⟩
      have c0 : w2.cell? ⟨R, k, none⟩ = some (.string pk) := by
        have := HX1.out.2.2.2.2.2 k (List.getElem?_eq_some_iff.1 hpk).1
        rw [Nat.zero_add, List.getD_eq_getElem?_getD, hpk] at this
        exact this
      have HPK : Hid ((p0 :: tl)[k]? = some pk) := hpk
      clear hpk
      by_cases he : pk.toList = []
      · have HF : Hid (nameB s.data.toList = none) := HNO.out (Or.inr (Or.inr (Or.inr ⟨k, pk, HPK.out, he⟩)))
        go_wp2_with fail
        go_ret2
        exact ⟨HX1.out.1, Or.inr ⟨HF.out, rfl⟩⟩
      · have he2 : pk.toList.isEmpty = false := by
          cases hl : pk.toList with
          | nil => exact absurd hl he
          | cons => rfl
        have HN : Hid ((∀ (j : Nat) x, j < k + 1 → (p0 :: tl)[j]? = some x → ¬ x.toList = []) ∧ True) := ⟨fun j x hj hx => by
          by_cases hjk : j < k
          · exact HJ1.out j x hjk hx
          · obtain rfl : j = k := by omega
            rw [HPK.out] at hx
            rw [← Option.some.inj hx]
            exact he, trivial⟩
        clear HJ1 HPK
        go_wp2_with fail
        go_roundw
        case rel => exact ⟨k + 1, by go_num, by omega, HN⟩
        case measure => simp [intOf]; omega
    · have d1 : decide ((k : Int) < (N : Int) + 1) = false := decide_eq_false (by omega)
      have d2 : decide ((k : Int) < ((N + 1 : Nat) : Int)) = false := decide_eq_false (by omega)
      have HAL : Hid (∀ (j : Nat) x, (p0 :: tl)[j]? = some x → ¬ x.toList = []) := fun j x hx => HJ1.out j x (by have h1 := (List.getElem?_eq_some_iff.1 hx).1; have h2 := HX1.out.2.2.2.1; omega) hx
      have cNm := HNM.out w2 HX1.out.1
      obtain ⟨RB, hRB⟩ : ∃ b, Ut.rightB s.data.toList = b := ⟨_, rfl⟩
      have HRB : Hid (Ut.rightB s.data.toList = RB) := hRB
      rw [hRB] at cNm
      clear hRB HJ1
      go_wp2_with fail
      refine cNm.mono ?_
      rintro e w3 ⟨rfl, hb3⟩
      have hB3 : Below w.heap.size w w3 := HX1.out.1.trans (hb3.mono HX1.out.1.size)
      have HB3 : Hid (Below w.heap.size w w3 ∧ Below w2.heap.size w2 w3) := ⟨hB3, hb3⟩
      clear cNm hb3 hB3
      cases RB with
      | false =>
        have HF : Hid (nameB s.data.toList = none) := HNO.out (Or.inl HRB.out)
        go_wp2_with fail
        go_ret2
        exact ⟨HB3.out.1, Or.inr ⟨HF.out, rfl⟩⟩
      | true =>
        have cC1 := HCN.out w3 37 HB3.out.1
        have cC2 := HCN.out w3 42 HB3.out.1
        obtain ⟨B1, hB1⟩ : ∃ b, s.data.toList.contains 37 = b := ⟨_, rfl⟩
        obtain ⟨B2, hB2⟩ : ∃ b, s.data.toList.contains 42 = b := ⟨_, rfl⟩
        have HB12 : Hid (s.data.toList.contains 37 = B1 ∧ s.data.toList.contains 42 = B2) := ⟨hB1, hB2⟩
        rw [hB1] at cC1
        rw [hB2] at cC2
        clear hB1 hB2
        go_wp2_with fail
        refine cC1.mono ?_
        rintro e w4 ⟨rfl, hw⟩
        obtain rfl : w3 = w4 := hw.symm
        clear cC1 hw
        cases B1 with
        | true =>
          have HF : Hid (nameB s.data.toList = none) := HNO.out (Or.inr (Or.inl HB12.out.1))
          go_wp2_with fail
          go_ret2
          exact ⟨HB3.out.1, Or.inr ⟨HF.out, rfl⟩⟩
        | false =>
          go_wp2_with fail
          refine cC2.mono ?_
          rintro e w4 ⟨rfl, hw⟩
          obtain rfl : w3 = w4 := hw.symm
          clear cC2 hw
          cases B2 with
          | true =>
            have HF : Hid (nameB s.data.toList = none) := HNO.out (Or.inr (Or.inr (Or.inl HB12.out.2)))
            go_wp2_with fail
            go_ret2
            exact ⟨HB3.out.1, Or.inr ⟨HF.out, rfl⟩⟩
          | false =>
            have e3 := (HB3.out.2.block _ HX1.out.2.2.1).trans HX1.out.2.1
            have k0 : w3.cell? ⟨R, 0, none⟩ = some (.string p0) := by
              have := HX1.out.2.2.2.2.2 0 (by simp)
              exact (HB3.out.2.cell (p := ⟨R, 0, none⟩) HX1.out.2.2.1).trans this
            have i1 : (0 : Int) < (N : Int) + 1 := by omega
            have i2 : (0 : Int) < ((N + 1 : Nat) : Int) := by omega
            have cSm := HSM.out w3
            have HE3 : Hid (w3.heap[R]? = some (.cells CS 9 (0, 0))) := e3
            clear e3
            go_wp2_with fail
            refine cSm.mono ?_
            rintro e w5 ⟨⟨t, rfl, ht⟩, hb5⟩
            have e5 := (hb5.block _ (Array.getElem?_eq_some_iff.1 HE3.out).1).trans HE3.out
            have k5 : w5.cell? ⟨R, 0, none⟩ = some (.string p0) := (hb5.cell (p := ⟨R, 0, none⟩) (Array.getElem?_eq_some_iff.1 HE3.out).1).trans k0
            have hB5 : Below w.heap.size w w5 := HB3.out.1.trans (hb5.mono HB3.out.1.size)
            by_cases hin : great p0.data.toList = inboxN
            · have g1 : t.toList = [105, 110, 98, 111, 120] := ht.2 hin
              have f5 := rd_free e5 0
              have e6 := rd_set (i := 0) (.string ⟨#[73, 78, 66, 79, 88]⟩) e5
              have hl6 := (Array.getElem?_eq_some_iff.1 e6).1
              have cJ := HJ.out ⟨#[73, 78, 66, 79, 88]⟩ R (w5.setCell ⟨R, 0, none⟩ (.string ⟨#[73, 78, 66, 79, 88]⟩)) (by
                have h4 := congrArg List.length hin
                unfold great at h4
                rw [List.length_map, Array.length_toList] at h4
                exact h4.symm) hl6 (fun j x hj => by
                  rw [Nat.zero_add]
                  refine rd_cell e6 ?_
                  rw [HC0.out]
                  cases j with
                  | zero =>
                    obtain rfl : (⟨#[73, 78, 66, 79, 88]⟩ : ByteArray) = x := by simpa using hj
                    simp
                  | succ j =>
                    have hj' : tl[j]? = some x := by simpa using hj
                    rw [Array.getElem?_setIfInBounds_ne (by omega), List.getElem?_toArray, List.getElem?_map, List.getElem?_cons_succ, hj']
                    rfl)
              obtain ⟨r, hr1, hr2, hr3⟩ := HRES.out ⟨#[73, 78, 66, 79, 88]⟩ HRB.out HB12.out.1 HB12.out.2 HAL.out (by
                unfold nmHead
                rw [if_pos hin]
                rfl)
              rw [hr3] at cJ
              have HB6 : Hid (Below w.heap.size w (w5.setCell ⟨R, 0, none⟩ (.string ⟨#[73, 78, 66, 79, 88]⟩))) := ⟨hB5.os, hB5.tape, hB5.output, by simpa using hB5.size, fun k hk => (Below.heap_setCell _ _ _ _ (by show k ≠ R; omega)).trans (hB5.block k hk)⟩
              have HR : Hid (nameB s.data.toList = some r.data.toList ∧ r.size ≤ 60) := ⟨hr1, hr2⟩
              clear hb5 e5 hB5 e6 hl6 hr1 hr2 hr3 ht hin cSm k0
              go_wp2_with fail
              refine cJ.mono ?_
              rintro e w7 ⟨rfl, hb7⟩
              have HB7 : Hid (Below w.heap.size w w7) := HB6.out.trans (hb7.mono HB6.out.size)
              clear cJ hb7
              go_wp2_with fail
              go_ret2
              exact ⟨HB7.out, Or.inl ⟨r, HR.out.1, HR.out.2, rfl⟩⟩
            · have g1 : ¬ t.toList = [105, 110, 98, 111, 120] := fun e => hin (ht.1 e)
              have g2 : (t.toList == [105, 110, 98, 111, 120]) = false := beq_eq_false_iff_ne.2 g1
              have cJ := HJ.out p0 R w5 rfl (Array.getElem?_eq_some_iff.1 e5).1 (fun j x hj => by
                rw [Nat.zero_add]
                refine rd_cell e5 ?_
                rw [HC0.out, List.getElem?_toArray, List.getElem?_map, hj]
                rfl)
              obtain ⟨r, hr1, hr2, hr3⟩ := HRES.out p0 HRB.out HB12.out.1 HB12.out.2 HAL.out (by
                unfold nmHead
                rw [if_neg hin])
              rw [hr3] at cJ
              have HB6 : Hid (Below w.heap.size w w5) := hB5
              have HR : Hid (nameB s.data.toList = some r.data.toList ∧ r.size ≤ 60) := ⟨hr1, hr2⟩
              clear hb5 e5 hB5 hr1 hr2 hr3 ht hin cSm k0
              go_wp2_with fail
              refine cJ.mono ?_
              rintro e w7 ⟨rfl, hb7⟩
              have HB7 : Hid (Below w.heap.size w w7) := HB6.out.trans (hb7.mono HB6.out.size)
              clear cJ hb7
              go_wp2_with fail
              go_ret2
              exact ⟨HB7.out, Or.inl ⟨r, HR.out.1, HR.out.2, rfl⟩⟩
end Go.Proofs.YtfdlopimncodcaaGreatDoor
namespace Go.Proofs.YtfdlopimncodcaaGreatDoor
open Go.RowKit Go.Proofs.Aid
set_option maxHeartbeats 2000000 in
set_option maxRecDepth 100000 in
theorem rget_is (hb mb wb : Nat) (l : Bxs) (nx : Int) (s : ByteArray) (w : World) (hE : NEnv w) (h : RHs w hb mb wb l nx) (hs : s.size ≤ 1000) :
    Calls Tryz.prog 48 #[.pointer (some ⟨hb, 0, none⟩), .string s] w fun e w' => Below w.heap.size w w' ∧
      ((∃ (r : ByteArray) (b : Nat), nameB s.data.toList = some r.data.toList ∧ (r.data.toList, b) ∈ l ∧ e = .returned (.tuple #[.pointer (some ⟨b, 0, none⟩), .int .i64 0])) ∨
       (∃ r : ByteArray, nameB s.data.toList = some r.data.toList ∧ hasB l r.data.toList = false ∧ e = .returned (.tuple #[.pointer none, .int .i64 7])) ∨
       (nameB s.data.toList = none ∧ e = .returned (.tuple #[.pointer none, .int .i64 1]))) := by
  have cN := rname_is s w hE hs
  have HH : Hid (RHs w hb mb wb l nx) := h
  clear hE h
  go_enter Tryz.func48, Tryz.ntmps48
  go_wp2_with fail
  refine cN.mono ?_
  rintro e w1 ⟨hb1, ⟨r, hr, hr2, rfl⟩ | ⟨hr, rfl⟩⟩
  · have h1 := HH.out.below hb1 (Nat.le_refl _)
    have c0 := h1.cell.1
    cases hhas : hasB l r.data.toList with
    | true =>
      obtain ⟨b, hm⟩ := hasB_true.1 hhas
      have hlk := rmp_look h1.2 r (by omega) (b := b) hm
      have HF : Hid (Below w.heap.size w w1 ∧ nameB s.data.toList = some r.data.toList ∧ (r.data.toList, b) ∈ l) := ⟨hb1, hr, hm⟩
      clear cN hb1 hr h1 hhas hm
      go_wp2_with fail
      go_ret2
      exact ⟨HF.out.1, Or.inl ⟨r, b, HF.out.2.1, HF.out.2.2, rfl⟩⟩
    | false =>
      have hlk := rmp_none h1.2 r (by omega) hhas
      have HF : Hid (Below w.heap.size w w1 ∧ nameB s.data.toList = some r.data.toList ∧ hasB l r.data.toList = false) := ⟨hb1, hr, hhas⟩
      clear cN hb1 hr h1 hhas
      go_wp2_with fail
      go_ret2
      exact ⟨HF.out.1, Or.inr (Or.inl ⟨r, HF.out.2.1, HF.out.2.2, rfl⟩)⟩
  · have HF : Hid (Below w.heap.size w w1 ∧ nameB s.data.toList = none) := ⟨hb1, hr⟩
    clear cN hb1 hr
    go_wp2_with fail
    go_ret2
    exact ⟨HF.out.1, Or.inr (Or.inr ⟨HF.out.2, rfl⟩)⟩
end Go.Proofs.YtfdlopimncodcaaGreatDoor
namespace Go.Proofs.YtfdlopimncodcaaGreatDoor
open Go.RowKit Go.Proofs.Aid Go.Proofs.Sq Go.Proofs.Hd
def slashes : Nm → List Nat
  | [] => []
  | b :: r => if b = 47 then 0 :: (slashes r).map (· + 1) else (slashes r).map (· + 1)
theorem slashes_filter : ∀ n : Nm, slashes n = (List.range n.length).filter fun i => decide (n.getD i 0 = 47)
  | [] => rfl
  | b :: r => by
    have ih := slashes_filter r
    rw [slashes, ih, List.length_cons, List.range_succ_eq_map, List.filter_cons, List.filter_map]
    have hc : ((fun i => decide ((b :: r).getD i 0 = 47)) ∘ Nat.succ) = fun i => decide (r.getD i 0 = 47) := funext fun i => by simp
    rw [hc]
    by_cases h : b = 47
    · rw [if_pos h, if_pos (by simpa using h)]
    · rw [if_neg h, if_neg (by simpa using h)]
theorem between_slashes : ∀ (n A : Nm), ((List.range ((between 47 n).length - 1)).map fun i => A ++ Lib.join ((between 47 n).take (i + 1)) [47]) = (slashes n).map fun j => A ++ n.take j
  | [], A => rfl
  | b :: r, A => by
    obtain ⟨x, xs, hx⟩ := List.exists_cons_of_ne_nil (between_ne 47 r)
    by_cases h : b = 47
    · subst h
      have ih := between_slashes r (A ++ [47])
      rw [hx] at ih
      rw [between, if_pos rfl, hx, slashes, if_pos rfl, List.map_cons, List.map_map]
      have e1 : ([] :: x :: xs : List Nm).length - 1 = ((x :: xs).length - 1) + 1 := by simp
      rw [e1, List.range_succ_eq_map, List.map_cons, List.map_map]
      have e2 : ((fun i => A ++ Lib.join (([] :: x :: xs : List Nm).take (i + 1)) [47]) ∘ Nat.succ) = fun i => A ++ [47] ++ Lib.join ((x :: xs).take (i + 1)) [47] := funext fun i => by
        show A ++ Lib.join ([] :: x :: xs.take i) [47] = A ++ [47] ++ Lib.join (x :: xs.take i) [47]
        rw [Lib.join_cons, Lib.join_cons]
        simp [Lib.joinTail]
      rw [e2, ih]
      congr 1
      refine List.map_congr_left fun j _ => ?_
      simp
    · have ih := between_slashes r (A ++ [b])
      rw [hx] at ih
      rw [between, if_neg h, hx, slashes, if_neg h, List.map_map]
      show ((List.range ((x :: xs).length - 1)).map fun i => A ++ Lib.join (((b :: x) :: xs).take (i + 1)) [47]) = _
      have e2 : (fun i => A ++ Lib.join (((b :: x) :: xs).take (i + 1)) [47]) = fun i => A ++ [b] ++ Lib.join ((x :: xs).take (i + 1)) [47] := funext fun i => by
        show A ++ Lib.join ((b :: x) :: xs.take i) [47] = A ++ [b] ++ Lib.join (x :: xs.take i) [47]
        rw [Lib.join_cons, Lib.join_cons]
        simp
      rw [e2, ih]
      refine List.map_congr_left fun j _ => ?_
      simp
theorem over_lack (l : Bxs) (n : Nm) : (((List.range ((between 47 n).length - 1)).map fun i => Lib.join ((between 47 n).take (i + 1)) [47]).filter fun p => !hasB l p) = lackB l n := by
  have h := between_slashes n []
  have e0 : (fun i => ([] : Nm) ++ Lib.join ((between 47 n).take (i + 1)) [47]) = fun i => Lib.join ((between 47 n).take (i + 1)) [47] := funext fun i => List.nil_append _
  have e1 : (fun j => ([] : Nm) ++ n.take j) = fun j => n.take j := funext fun j => List.nil_append _
  rw [e0, e1] at h
  rw [h, slashes_filter, List.filter_map, List.filter_filter]
  unfold lackB lackTo
  congr 1
  refine List.filter_congr fun i _ => ?_
  rw [Bool.and_comm]
  rfl
end Go.Proofs.YtfdlopimncodcaaGreatDoor
namespace Go.Proofs.YtfdlopimncodcaaGreatDoor
open Go.RowKit Go.Proofs.Aid Go.Proofs.Sq Go.Proofs.Hd
def ovTo (l : Bxs) (ps : List Nm) (k : Nat) : List Nm := ((List.range (k - 1)).map fun i => Lib.join (ps.take (i + 1)) [47]).filter fun p => !hasB l p
theorem ovTo_next {l : Bxs} {ps : List Nm} {k : Nat} (hk : 1 ≤ k) : ovTo l ps (k + 1) = ovTo l ps k ++ if hasB l (Lib.join (ps.take k) [47]) = true then [] else [Lib.join (ps.take k) [47]] := by
  unfold ovTo
  obtain ⟨j, rfl⟩ : ∃ j, k = j + 1 := ⟨k - 1, by omega⟩
  rw [Nat.add_sub_cancel, Nat.add_sub_cancel, List.range_succ, List.map_append, List.filter_append]
  congr 1
  cases h : hasB l (Lib.join (ps.take (j + 1)) [47]) with
  | true => simp [h]
  | false => simp [h]
theorem ovTo_len (l : Bxs) (ps : List Nm) (k : Nat) : (ovTo l ps k).length ≤ k := by
  unfold ovTo
  refine Nat.le_trans (List.length_filter_le _ _) ?_
  rw [List.length_map, List.length_range]
  omega
set_option maxHeartbeats 4000000 in
set_option maxRecDepth 100000 in
theorem rover_is (hb mb wb : Nat) (l : Bxs) (nx : Int) (s : ByteArray) (w : World) (hE : NEnv w) (h : RHs w hb mb wb l nx) (hs : s.size ≤ 1000) :
    Calls Tryz.prog 94 #[.pointer (some ⟨hb, 0, none⟩), .string s] w fun e w' => (∃ v, e = .returned v ∧ NRow w' (w.heap.size + 1) v (lackB l s.data.toList)) ∧ Below w.heap.size w w' := by
  obtain ⟨P, hP⟩ : ∃ P, Lib.splitB ⟨#[47]⟩ 0 (Lib.countB s ⟨#[47]⟩) s = P := ⟨_, rfl⟩
  obtain ⟨N, hN⟩ : ∃ N, Lib.countB s ⟨#[47]⟩ = N := ⟨_, rfl⟩
  have hsp := split_between 47 s
  rw [hP] at hsp
  have hPl : P.length = N + 1 := by
    have := Lib.splitB_all ⟨#[47]⟩ (by decide) 0 _ s rfl
    rw [hP, hN] at this
    exact this
  have hcl := Lib.countB_le ⟨#[47]⟩ (by decide) _ s (Nat.le_refl _)
  rw [hN] at hcl
  have hsl : s.data.toList.length = s.size := by rw [Array.length_toList]; rfl
  have cS : Calls Tryz.prog 56 #[.string s, .string ⟨#[47]⟩] w fun e w' => e = .returned (.slice (some ⟨w.heap.size, 0, none⟩) (N + 1) (N + 1)) ∧ w' = w.alloc (.cells (P.map Value.string).toArray 9) := by
    obtain ⟨m, hm⟩ := hE.1
    have := Tryz.strings_Split s ⟨#[47]⟩ m w (by omega) hm (by decide)
    rw [hP, hN] at this
    exact this
  have b1 : Below w.heap.size w (w.alloc (.cells (P.map Value.string).toArray 9)) := (Below.refl _ _).alloc (Nat.le_refl _) _
  have e1 := heap_alloc_new w (.cells (P.map Value.string).toArray 9)
  have z1 : (w.alloc (.cells (P.map Value.string).toArray 9)).heap.size = w.heap.size + 1 := World.size_alloc _ _
  obtain ⟨W1, hW1⟩ : ∃ W, w.alloc (.cells (P.map Value.string).toArray 9) = W := ⟨_, rfl⟩
  rw [hW1] at cS b1 e1 z1
  obtain ⟨R, hR⟩ : ∃ r, w.heap.size = r := ⟨_, rfl⟩
  have HX : Hid (Below w.heap.size w W1 ∧ W1.heap[R]? = some (.cells (P.map Value.string).toArray 9 (0, 0)) ∧ R < W1.heap.size ∧ P.length = N + 1 ∧ P.map (·.data.toList) = between 47 s.data.toList ∧ N ≤ 1000 ∧ RHs W1 hb mb wb l nx ∧ W1.heap.size = R + 1 ∧ w.heap.size = R) := ⟨b1, by rw [← hR]; exact e1, by omega, hPl, hsp, by omega, h.below b1 (Nat.le_refl _), by omega, hR⟩
  have HJN : Hid (∀ (k : Nat) (W : World), k ≤ N + 1 → Below W1.heap.size W1 W → Calls Tryz.prog 59 #[.slice (some ⟨R, 0, none⟩) k (N + 1), .string ⟨#[47]⟩] W fun e w' => e = .returned (.string ⟨(Lib.join ((between 47 s.data.toList).take k) [47]).toArray⟩) ∧ Below W.heap.size W w') := fun k W hk hW => by
    have hRW := (hW.block _ HX.out.2.2.1).trans HX.out.2.1
    have hjl : (Lib.join ((P.take k).map (·.data.toList)) [47]).length ≤ 3000 := by
      have h0 : ∀ (L : List Nm) (j : Nat), (Lib.joinTail [47] (L.take j)).length ≤ (Lib.joinTail [47] L).length := fun L j => by
        have e := List.take_append_drop j L
        have : Lib.joinTail [47] L = Lib.joinTail [47] (L.take j) ++ Lib.joinTail [47] (L.drop j) := by
          unfold Lib.joinTail
          rw [← List.flatten_append, ← List.map_append, e]
        rw [this, List.length_append]
        omega
      have h3 := join_between 47 s.data.toList
      rw [← HX.out.2.2.2.2.1] at h3
      cases k with
      | zero => simp [Lib.join]
      | succ j =>
        cases hPP : P with
        | nil => simp [Lib.join]
        | cons p0 tl =>
          rw [hPP, List.map_cons, Lib.join_cons] at h3
          rw [List.take_succ_cons, List.map_cons, Lib.join_cons, List.length_append, List.map_take]
          have h4 := congrArg List.length h3
          rw [List.length_append] at h4
          have h5 := h0 (tl.map (·.data.toList)) j
          omega
    have := Tryz.strings_Join R 0 (N + 1) (P.take k) ⟨#[47]⟩ W (fun j x hj => by
      rw [Nat.zero_add]
      refine rd_cell hRW ?_
      rw [List.getElem?_take] at hj
      split at hj
      · rw [List.getElem?_toArray, List.getElem?_map, hj]
        rfl
      · cases hj) (Nat.lt_of_lt_of_le HX.out.2.2.1 hW.size) (by rw [List.length_take]; have := HX.out.2.2.2.2.2.1; omega) (by rw [List.length_take]; omega) (by show (Lib.join ((P.take k).map (·.data.toList)) [47]).length ≤ _; omega)
    rw [show (P.take k).length = k from by rw [List.length_take]; have := HX.out.2.2.2.1; omega] at this
    rw [← HX.out.2.2.2.2.1, ← List.map_take]
    exact this
  have HSH : Hid (∀ k, (Lib.join ((between 47 s.data.toList).take k) [47]).length ≤ 1000000) := fun k => by
    have h0 : ∀ (L : List Nm) (j : Nat), (Lib.joinTail [47] (L.take j)).length ≤ (Lib.joinTail [47] L).length := fun L j => by
      have e := List.take_append_drop j L
      have : Lib.joinTail [47] L = Lib.joinTail [47] (L.take j) ++ Lib.joinTail [47] (L.drop j) := by
        unfold Lib.joinTail
        rw [← List.flatten_append, ← List.map_append, e]
      rw [this, List.length_append]
      omega
    have h3 := join_between 47 s.data.toList
    obtain ⟨x, xs, hx⟩ := List.exists_cons_of_ne_nil (between_ne 47 s.data.toList)
    rw [hx] at h3 ⊢
    cases k with
    | zero => simp [Lib.join]
    | succ j =>
      rw [Lib.join_cons] at h3
      rw [List.take_succ_cons, Lib.join_cons, List.length_append]
      have h4 := congrArg List.length h3
      rw [List.length_append] at h4
      have h5 := h0 xs j
      omega
  rw [hR] at cS
  have hN1 : N ≤ 1000 := HX.out.2.2.2.2.2.1
  clear hsp hP hN hPl hcl hsl b1 e1 z1 h hE hs
  go_enter Tryz.func94, Tryz.ntmps94
  go_wp2_with fail
  refine cS.mono ?_
  rintro e w2 ⟨rfl, rfl⟩
  clear cS
  go_wp2_with fail
  go_loopw [5, 7] (fun ov iv wr => ∃ k : Nat, iv = .int .i64 (k : Int) ∧ 1 ≤ k ∧ k ≤ N + 1 ∧ wr.ownsRow (R + 1) 9 1 ov (ovTo l (between 47 s.data.toList) k).length ((ovTo l (between 47 s.data.toList) k).map encStr) ∧ Below w2.heap.size w2 wr) (fun _ iv _ => N + 1 - (intOf iv).toNat)
  case atStart => exact ⟨1, rfl, Nat.le_refl _, by omega, World.ownsRow_nil _ _ _ _, Below.refl _ _⟩
  case round =>
    obtain ⟨k, rfl, hk1, hk, hrow, hbw⟩ := hrel
    have hlen := ovTo_len l (between 47 s.data.toList) k
    obtain ⟨LL, hLL⟩ : ∃ n, (ovTo l (between 47 s.data.toList) k).length = n := ⟨_, rfl⟩
    obtain ⟨XS, hXS⟩ : ∃ x, (ovTo l (between 47 s.data.toList) k).map encStr = x := ⟨_, rfl⟩
    rw [hLL] at hlen
    rw [hLL, hXS] at hrow
    have HLX : Hid ((ovTo l (between 47 s.data.toList) k).length = LL ∧ (ovTo l (between 47 s.data.toList) k).map encStr = XS) := ⟨hLL, hXS⟩
    clear hLL hXS
    obtain ⟨oa, oc, rfl⟩ := row_form hrow
    by_cases hlt : k < N + 1
    · have d0 : decide ((k : Int) < (N : Int) + 1) = true := decide_eq_true (by omega)
      have d0' : decide ((k : Int) < ((N + 1 : Nat) : Int)) = true := decide_eq_true (by omega)
      have i1 : (0 : Int) ≤ (k : Int) := by omega
      have i2 : (k : Int) ≤ (N : Int) + 1 := by omega
      have i3 : (k : Int) ≤ ((N + 1 : Nat) : Int) := by omega
      have cJ := HJN.out k wr hk hbw
      obtain ⟨ps, hps⟩ : ∃ q : ByteArray, (⟨(Lib.join ((between 47 s.data.toList).take k) [47]).toArray⟩ : ByteArray) = q := ⟨_, rfl⟩
      rw [hps] at cJ
      have hpl : ps.data.toList = Lib.join ((between 47 s.data.toList).take k) [47] := by rw [← hps]
      have hpz : ps.size ≤ 1000000 := by rw [← hps]; show (Lib.join ((between 47 s.data.toList).take k) [47]).toArray.size ≤ _; rw [List.size_toArray]; exact HSH.out k
      have HPL : Hid (ps.data.toList = Lib.join ((between 47 s.data.toList).take k) [47]) := hpl
      clear hps hpl
      have HRW : Hid (wr.ownsRow (R + 1) 9 1 (.slice oa LL oc) LL XS ∧ Below w2.heap.size w2 wr) := ⟨hrow, hbw⟩
      clear hrow hbw
      go_wp2_with fail
      refine cJ.mono ?_
      rintro e w3 ⟨rfl, hb3⟩
      have hb23 : Below w2.heap.size w2 w3 := HRW.out.2.trans (hb3.mono HRW.out.2.size)
      have hrow3 := row_below hb3 (Nat.le_refl _) HRW.out.1
      have h3 := HX.out.2.2.2.2.2.2.1.below hb23 (Nat.le_refl _)
      have c0 := h3.cell.1
      cases hB : hasB l ps.data.toList with
      | true =>
        obtain ⟨b, hm⟩ := hasB_true.1 hB
        have hlk := rmp_look h3.2 ps hpz (b := b) hm
        have HL : Hid (ovTo l (between 47 s.data.toList) (k + 1) = ovTo l (between 47 s.data.toList) k) := by
          unfold Hid
          rw [ovTo_next hk1, ← HPL.out, if_pos hB, List.append_nil]
        have HR : Hid (w3.ownsRow (R + 1) 9 1 (.slice oa LL oc) LL XS ∧ Below w2.heap.size w2 w3) := ⟨hrow3, hb23⟩
        clear cJ hb3 hb23 hrow3 h3 hB hm hlen HRW
        go_wp2_with fail
        go_roundw
        case rel => exact ⟨k + 1, by go_num, by omega, by omega, by rw [HL.out, HLX.out.1, HLX.out.2]; exact HR.out.1, HR.out.2⟩
        case measure => simp [intOf]; omega
      | false =>
        have hlk := rmp_none h3.2 ps hpz hB
        have HL : Hid (ovTo l (between 47 s.data.toList) (k + 1) = ovTo l (between 47 s.data.toList) k ++ [ps.data.toList]) := by
          unfold Hid
          rw [ovTo_next hk1, ← HPL.out, if_neg (by rw [hB]; simp)]
        have HBW : Hid (Below w2.heap.size w2 w3) := hb23
        have hbs : R + 1 ≤ w3.heap.size := by have := hb23.size; have := HX.out.2.2.2.2.2.2.2.1; omega
        clear cJ hb3 hb23 h3 hB HRW
        go_wp2_with (at_builtin; go_must (refine wpList_push rfl (.tmp 28) (.tmp 30) 32 rfl _ (R + 1) 9 (.string ⟨#[]⟩) 16 Tryz.underlying32 Tryz.infoNm rfl _ _ _ (by rfl) hrow3 [.string ps] _ (by rfl) (by simp) (by simp [Value.oneCell']) (by simp) (by rfl) (by decide) (by simp; omega) hbs ?_); intro g3 cap3 w4 hown4 hg4 hlt4)
        have hb4 : Below w2.heap.size w2 w4 := by
          have hz2 := HX.out.2.2.2.2.2.2.2.1
          exact (HBW.out).grown hg4 (by omega) (fun j e => by have := (hrow3.lt j e).1; omega)
        have HF : Hid (w4.ownsRow (R + 1) 9 1 (.slice (some ⟨g3, 0, none⟩) (LL + 1) cap3) (ovTo l (between 47 s.data.toList) (k + 1)).length ((ovTo l (between 47 s.data.toList) (k + 1)).map encStr) ∧ Below w2.heap.size w2 w4) := by
          refine ⟨?_, hb4⟩
          rw [HL.out, List.length_append, List.map_append, HLX.out.1, HLX.out.2, List.map_cons, enc_ba]
          exact hown4
        clear hown4 hg4 hb4 hrow3
        go_roundw
        case rel => exact ⟨k + 1, by go_num, by omega, by omega, HF.out.1, HF.out.2⟩
        case measure => simp [intOf]; omega
    · have d0 : decide ((k : Int) < (N : Int) + 1) = false := decide_eq_false (by omega)
      have d0' : decide ((k : Int) < ((N + 1 : Nat) : Int)) = false := decide_eq_false (by omega)
      have HR : Hid (NRow wr (w.heap.size + 1) (.slice oa LL oc) (lackB l s.data.toList) ∧ Below w.heap.size w wr) := by
        obtain rfl : k = N + 1 := by omega
        have hl2 : (between 47 s.data.toList).length = N + 1 := by rw [← HX.out.2.2.2.2.1, List.length_map]; exact HX.out.2.2.2.1
        have hov : ovTo l (between 47 s.data.toList) (N + 1) = lackB l s.data.toList := by
          rw [← over_lack, hl2]
          rfl
        refine ⟨?_, HX.out.1.trans (hbw.mono HX.out.1.size)⟩
        unfold NRow
        rw [← hov, HLX.out.1, HLX.out.2, HX.out.2.2.2.2.2.2.2.2]
        exact hrow
      clear hrow hbw hlen
      go_wp2_with fail
      go_ret
      exact ⟨⟨_, rfl, HR.out.1⟩, HR.out.2⟩
end Go.Proofs.YtfdlopimncodcaaGreatDoor
