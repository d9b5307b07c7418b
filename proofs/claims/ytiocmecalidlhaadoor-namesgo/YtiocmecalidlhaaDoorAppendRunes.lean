/-
  What utf7.appendRunes does: units as runes, in UTF-8.
-/
import Derived.Test.YtiocmecalidlhaaDoorReadUnits
namespace Go.Proofs.YtiocmecalidlhaaDoor
open Go.RowKit Go.Proofs.Aid Go.Proofs.Ut

theorem enc8_length (r : Nat) : 1 ≤ (enc8 r).length ∧ (enc8 r).length ≤ 4 := by
  have := Lib.encodeRuneZ_length (r : Int)
  simpa [enc8, Lib.encodeRune] using this
/-- utf8.AppendRune onto a row that the call owns. -/
theorem appendRune_any (B : Nat) (v : Value) (xs : List UInt8) (r : Nat) (w : World) (hown : w.ownsRow B 5 1 v xs.length (Lib.byteCells xs)) (hr : r ≤ 1114111) (hlen : xs.length ≤ 100000) (hB : B ≤ w.heap.size) :
    Calls Tryd.prog 33 #[v, .int .i32 (r : Int)] w fun e w' => ∃ v', e = .returned v' ∧ w'.ownsRow B 5 1 v' (xs ++ enc8 r).length (Lib.byteCells (xs ++ enc8 r)) ∧ Kept 5 B w w' := by
  refine (Tryd.utf8_AppendRune_plain B v xs.length (Lib.byteCells xs) r (by omega) (by omega) w hown (by omega) hB).mono ?_
  rintro e w' ⟨v', rfl, ho, o, hg⟩
  refine ⟨v', rfl, ?_, (Kept.refl _ _ _).grown hown (grownBy_of_alloc hg) (Nat.le_refl _) hB⟩
  rw [List.length_append, Lib.byteCells_append, enc8, Lib.byteCells_encodeRune, ← Lib.runeCells_length]
  exact ho

set_option maxHeartbeats 1000000 in
set_option maxRecDepth 100000 in
theorem appendRunes_any (B B2 : Nat) (vo vu : Value) (xs : List UInt8) (us : List Nat) (w : World) (hown : w.ownsRow B 5 1 vo xs.length (Lib.byteCells xs)) (hu : w.ownsRow B2 48 1 vu us.length (u16s us))
    (hus : ∀ u ∈ us, u < 65536) (hx : xs.length ≤ 10000) (hul : us.length ≤ 1000) (hB : B ≤ w.heap.size) :
    Calls Tryd.prog 28 #[vo, vu] w fun e w' => ∃ v', e = .returned v' ∧ w'.ownsRow B 5 1 v' (xs ++ bytesOf us).length (Lib.byteCells (xs ++ bytesOf us)) ∧ Kept 5 B w w' := by
  have hu0 := hu
  rcases hu.2 with ⟨rfl, hn⟩ | ⟨g, cap, cur, rfl, _⟩
  · obtain rfl : us = [] := List.length_eq_zero_iff.1 hn
    clear hu hu0 hus
    go_enter Tryd.func28, Tryd.ntmps28
    go_wp2
    refine wp_loop_rounds 1 ?_
    rw [rounds_succ]
    go_wp2
    go_ret
    exact ⟨_, rfl, by simpa [bytesOf, runesOf] using hown, Kept.refl _ _ _⟩
  · obtain ⟨ANS, hANS⟩ : ∃ ANS, xs ++ bytesOf us = ANS := ⟨_, rfl⟩
    rw [hANS]
    clear hu
    go_enter Tryd.func28, Tryd.ntmps28
    go_wp2
    go_loopw [0, 5] (fun vo' i wr => ∃ (k : Nat) (acc : List UInt8), k ≤ us.length ∧ i = .int .i64 (k : Int) ∧ wr.ownsRow B 5 1 vo' acc.length (Lib.byteCells acc) ∧ Kept 5 B w wr ∧ acc ++ bytesOf (us.drop k) = ANS ∧ acc.length ≤ 10000 + 4 * k)
      (fun _ i _ => us.length - (intOf i).toNat)
    case atStart => exact ⟨0, xs, by omega, rfl, hown, Kept.refl _ _ _, by simpa using hANS, by omega⟩
    case round =>
      obtain ⟨k, acc, hk, rfl, hownr, hkept, hacc, hal⟩ := hrel
      clear hANS hown
      by_cases hlt : k < us.length
      · have hd : us.drop k = us[k] :: us.drop (k + 1) := (List.drop_eq_getElem_cons hlt)
        have hcell := unit_cell (hkept.row (by decide) hu0) k hlt
        have hult : us.getD k 0 < 65536 := hus _ (by rw [List.getD_eq_getElem?_getD]; simp [hlt])
        have hgk : us[k] = us.getD k 0 := by simp [hlt]
        rw [hgk] at hd
        generalize us.getD k 0 = u at hd hcell hult
        clear hgk
        by_cases hpair : isUp u = true ∧ ∃ v t, us.drop (k + 1) = v :: t ∧ isLow v = true
        · obtain ⟨hup, v, t, hd2, hlow⟩ := hpair
          have hlt2 : k + 1 < us.length := by
            have := congrArg List.length hd2
            simp at this; omega
          have hcell2 := unit_cell (hkept.row (by decide) hu0) (k + 1) hlt2
          have hv : us.getD (k + 1) 0 = v := by
            have := List.drop_eq_getElem_cons hlt2
            rw [hd2] at this
            simp [hlt2]; exact (List.cons.inj this).1.symm
          have ht : t = us.drop (k + 2) := by
            have := List.drop_eq_getElem_cons hlt2
            rw [hd2] at this
            exact (List.cons.inj this).2
          rw [hv] at hcell2
          rw [hd, hd2, bytesOf, runesOf_pair hup hlow, List.flatMap_cons, ht] at hacc
          simp [isUp] at hup
          simp [isLow] at hlow
          obtain ⟨hup1, hup2⟩ := hup
          obtain ⟨hlow1, hlow2⟩ := hlow
          have hltI : (k : Int) + 1 < us.length := by omega
          clear hd hd2 hv ht hu0
          obtain ⟨R, hR⟩ : ∃ R : Nat, 65536 + (u - 55296) * 1024 + (v - 56320) = R := ⟨_, rfl⟩
          rw [hR] at hacc
          have hRm : R ≤ 1114111 := by omega
          have cA := appendRune_any B _ acc R wr hownr hRm (by omega) (by have := hkept.size; omega)
          rw [show (R : Int) = 65536 + ((u : Int) - 55296) * 1024 + (v : Int) - 56320 by omega] at cA
          have hel := enc8_length R
          have HA : Hid (acc ++ (enc8 R ++ (runesOf (us.drop (k + 2))).flatMap enc8) = ANS) := hacc
          clear hR hacc
          go_wp2_with (first | (go_at_call 33; refine cA.mono ?_; rintro e w2 ⟨v2, rfl, hown2, hk2⟩) | go_in)
          go_roundw
          case rel =>
            refine ⟨k + 2, acc ++ enc8 R, by omega, by go_num, hown2, hkept.trans hk2, ?_, by rw [List.length_append]; omega⟩
            rw [List.append_assoc]
            exact HA.out
          case measure => simp [intOf]; omega
        · have hal2 : isUp u = false ∨ (isUp u = true ∧ us.drop (k + 1) = []) ∨ (isUp u = true ∧ ∃ v t, us.drop (k + 1) = v :: t ∧ isLow v = false) := by
            by_cases h1 : isUp u = true
            · right
              rcases hdd : us.drop (k + 1) with _ | ⟨v, t⟩
              · exact Or.inl ⟨h1, rfl⟩
              · right
                refine ⟨h1, v, t, rfl, ?_⟩
                rw [Bool.eq_false_iff]
                intro h2
                exact hpair ⟨h1, v, t, hdd, h2⟩
            · exact Or.inl (by simpa using h1)
          rw [hd, bytesOf, runesOf_alone (hal2.imp id (Or.imp And.right And.right)), List.flatMap_cons] at hacc
          have cA := appendRune_any B _ acc u wr hownr (by omega) (by omega) (by have := hkept.size; omega)
          have hel := enc8_length u
          have HA : Hid (acc ++ (enc8 u ++ (runesOf (us.drop (k + 1))).flatMap enc8) = ANS) := hacc
          clear hacc hd hpair
          rcases hal2 with h | ⟨h, hd2⟩ | ⟨h, v, t, hd2, hlow⟩
          · have hu2 : u < 55296 ∨ 56319 < u := by simp [isUp] at h; omega
            clear h
            rcases hu2 with h | h
            all_goals
              go_wp2_with (first | (go_at_call 33; refine cA.mono ?_; rintro e w2 ⟨v2, rfl, hown2, hk2⟩) | go_in)
              go_roundw
              case rel =>
                refine ⟨k + 1, acc ++ enc8 u, by omega, by go_num, hown2, hkept.trans hk2, ?_, by rw [List.length_append]; omega⟩
                rw [List.append_assoc]
                exact HA.out
              case measure => simp [intOf]; omega
          · have hu2 : 55296 ≤ u ∧ u ≤ 56319 := by simpa [isUp] using h
            obtain ⟨hu2, hu3⟩ := hu2
            have hle2 : us.length ≤ k + 1 := by simpa using hd2
            clear h hd2
            go_wp2_with (first | (go_at_call 33; refine cA.mono ?_; rintro e w2 ⟨v2, rfl, hown2, hk2⟩) | go_in)
            go_roundw
            case rel =>
              refine ⟨k + 1, acc ++ enc8 u, by omega, by go_num, hown2, hkept.trans hk2, ?_, by rw [List.length_append]; omega⟩
              rw [List.append_assoc]
              exact HA.out
            case measure => simp [intOf]; omega
          · have hu2 : 55296 ≤ u ∧ u ≤ 56319 := by simpa [isUp] using h
            obtain ⟨hu2, hu3⟩ := hu2
            have hlt2 : k + 1 < us.length := by
              have := congrArg List.length hd2
              simp at this; omega
            have hcell2 := unit_cell (hkept.row (by decide) hu0) (k + 1) hlt2
            have hv : us.getD (k + 1) 0 = v := by
              have := List.drop_eq_getElem_cons hlt2
              rw [hd2] at this
              simp [hlt2]; exact (List.cons.inj this).1.symm
            rw [hv] at hcell2
            have hvlt : v < 65536 := hus v (by rw [← hv, List.getD_eq_getElem?_getD]; simp [hlt2])
            have hv2 : v < 56320 ∨ 57343 < v := by simp [isLow] at hlow; omega
            have hltI : (k : Int) + 1 < us.length := by omega
            clear h hd2 hv hlow hu0
            rcases hv2 with hv2 | hv2
            all_goals
              go_wp2_with (first | (go_at_call 33; refine cA.mono ?_; rintro e w2 ⟨v2, rfl, hown2, hk2⟩) | go_in)
              go_roundw
              case rel =>
                refine ⟨k + 1, acc ++ enc8 u, by omega, by go_num, hown2, hkept.trans hk2, ?_, by rw [List.length_append]; omega⟩
                rw [List.append_assoc]
                exact HA.out
              case measure => simp [intOf]; omega
      · rw [List.drop_eq_nil_of_le (by omega), bytesOf, runesOf, List.flatMap_nil, List.append_nil] at hacc
        subst hacc
        go_wp2
        go_ret
        exact ⟨_, rfl, hownr, hkept⟩
end Go.Proofs.YtiocmecalidlhaaDoor
