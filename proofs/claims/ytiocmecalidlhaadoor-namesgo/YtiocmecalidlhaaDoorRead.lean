/-
  What utf7.read does: it reads letters loosely as a name.
-/
import Derived.Test.YtiocmecalidlhaaDoorAppendRunes
import Derived.Test.YtiocmecalidlhaaDoorReadName
import Derived.Test.YtiocmecalidlhaaDoorEncode
namespace Go.Proofs.YtiocmecalidlhaaDoor
open Go.RowKit Go.Proofs.Aid Go.Proofs.Ut

theorem row_below {w w' : World} {base n : Nat} {e : TypeId} {v : Value} {xs : List Value} (hb : Below w.heap.size w w') (h : w.ownsRow base e 1 v n xs) : w'.ownsRow base e 1 v n xs := by
  refine ⟨h.1, ?_⟩
  rcases h.2 with h2 | ⟨g, cap, cur, hv, hg, hh, r⟩
  · exact Or.inl h2
  · exact Or.inr ⟨g, cap, cur, hv, hg, (hb.block g (lt_of_block hh)).trans hh, r⟩
def strLen : Value → Nat | .string s => s.size | _ => 0
theorem dash_call (t : ByteArray) (w : World) : Calls Tryd.prog 22 #[.string t, .int .u8 45] w fun e w' => e = .returned (.int .i64 (Lib.indexByte t.data.toList 45)) ∧ w' = w := by
  refine (Tryd.strings_IndexByte _ _ w).mono ?_
  rintro e w' ⟨rfl, rfl⟩
  exact ⟨rfl, rfl⟩
theorem list_cons (t : ByteArray) (h : 0 < t.size) : ∃ r, t.data.toList = t[0] :: r := by
  have hl : 0 < t.data.toList.length := by rw [← Lib.size_eq]; exact h
  refine ⟨t.data.toList.tail, ?_⟩
  have : t[0] = t.data.toList[0] := by rw [Array.getElem_toList]; rfl
  rw [this]
  exact (List.cons_head_tail (List.ne_nil_of_length_pos hl)).symm.trans (by rw [List.head_eq_getElem])

set_option maxHeartbeats 1000000 in
set_option maxRecDepth 100000 in
theorem read_any (s : ByteArray) (w : World) (hs : s.size ≤ 1000) :
    Calls Tryd.prog 23 #[.string s] w fun e w' => ((∃ name, readN s.data.toList = some name ∧ e = .returned (.tuple #[.string ⟨name.toArray⟩, .bool true])) ∨ (readN s.data.toList = none ∧ e = .returned (.tuple #[.string ⟨#[]⟩, .bool false]))) ∧ Below w.heap.size w w' := by
  obtain ⟨ANS, hANS⟩ : ∃ ANS, readN s.data.toList = ANS := ⟨_, rfl⟩
  rw [hANS]
  go_enter Tryd.func23, Tryd.ntmps23
  go_wp2
  go_loopw [0, 4] (fun sv vo wr => ∃ (t : ByteArray) (acc : List UInt8), sv = .string t ∧ t.size ≤ 1000 ∧ wr.ownsRow w.heap.size 5 1 vo acc.length (Lib.byteCells acc) ∧ Below w.heap.size w wr ∧ (readN t.data.toList).map (acc ++ ·) = ANS ∧ acc.length + 4 * t.size ≤ 5000) (fun sv _ _ => strLen sv)
  case atStart => exact ⟨s, [], rfl, hs, World.ownsRow_nil _ _ _ _, Below.refl _ _, by simpa using hANS, by simp; omega⟩
  case round =>
    obtain ⟨t, acc, rfl, hts, hownr, hbw, hacc, hal⟩ := hrel
    clear hANS
    by_cases h0 : 0 < t.size
    · obtain ⟨r, hr⟩ := list_cons t h0
      have hlr := Lib.size_eq t
      rw [hr, List.length_cons] at hlr
      have hrl : r.length + 1 ≤ t.size := by omega
      clear hlr
      obtain ⟨c, hc⟩ : ∃ c, t[0] = c := ⟨_, rfl⟩
      rw [hc] at hr
      by_cases h38 : c = 38
      · subst h38
        have cI := fun w => dash_call t w
        rw [hr] at cI
        rw [hr, readN_cons, if_neg (by simp)] at hacc
        have hge := Lib.indexByte_ge (38 :: r) 45
        obtain ⟨E, hE⟩ : ∃ E, Lib.indexByte (38 :: r) 45 = E := ⟨_, rfl⟩
        rw [hE] at cI hacc hge
        by_cases hE0 : E < 0
        · rw [if_pos hE0] at hacc
          have HA : Hid (none = ANS) := by show none = ANS; simpa using hacc
          clear hacc hE hr
          go_wp2_with (go_at_call 22; refine (cI _).mono ?_; rintro e w1 ⟨rfl, rfl⟩)
          go_ret2
          exact ⟨Or.inr ⟨HA.out.symm, rfl⟩, hbw⟩
        · obtain ⟨n, rfl⟩ : ∃ n : Nat, E = n := ⟨E.toNat, by omega⟩
          have hsome := Lib.indexByte_some hE
          have hn0 : n ≠ 0 := by
            intro hn; subst hn
            have := hsome.1
            simp at this
          have hnl : n < (38 :: r).length := (List.getElem?_eq_some_iff.1 hsome.1).1
          have hlr := Lib.size_eq t
          rw [hr] at hlr
          have hnt : n < t.size := by omega
          have hntI : (n : Int) < (t.size : Int) := by omega
          rw [if_neg (by omega)] at hacc
          clear hsome hnl hlr hE hge hE0
          have he1 := Lib.ext_list t (n + 1)
          have hz1 := Lib.ext_size t (n + 1)
          by_cases hn1 : n = 1
          · subst hn1
            rw [if_pos (by simp)] at hacc
            rw [hr] at he1
            have HA : Hid ((readN (t.extract 2 t.size).data.toList).map ((acc ++ [38]) ++ ·) = ANS) := by
              show _ = _
              rw [he1, ← hacc, Option.map_map]
              congr 1
              funext x
              simp
            have HZ : Hid ((t.extract 2 t.size).size = t.size - 2) := hz1
            clear hacc he1 hz1 hr
            go_wp2_with (first
              | (go_at_call 22; refine (cI _).mono ?_; rintro e w1 ⟨rfl, rfl⟩)
              | (at_builtin; go_must (refine wpList_push rfl _ _ 35 rfl _ w.heap.size 5 (.int .u8 0) 1 Tryd.underlying35 Tryd.info5 rfl _ _ _ (by rfl) hownr [.int .u8 38] _ (by rfl) (by simp) (by simp [Value.oneCell']) (by simp) (by rfl) (by decide) (by simp; omega) hbw.size ?_); intro g1 cap1 w1 hown1 hg1 hlt1))
            go_roundw
            case rel =>
              refine ⟨t.extract 2 t.size, acc ++ [38], rfl, by rw [HZ.out]; omega, ?_, hbw.grown hg1 hbw.size (fun k hk => (hownr.lt k hk).1), HA.out, by rw [HZ.out, List.length_append]; simp; omega⟩
              rw [List.length_append, Lib.byteCells_append]
              exact hown1
            case measure =>
              simp only [strLen, HZ.out]
              omega
          · rw [if_neg (by omega), Int.toNat_natCast] at hacc
            have hx1 := Lib.extract_data t 1 n
            have hn2 : 2 ≤ n := by omega
            have hn2I : (1 : Int) ≤ (n : Int) := by omega
            have hx1s : (t.extract 1 n).size ≤ 1000 := by rw [Lib.size_eq, hx1, List.length_take]; omega
            have hx1t : (t.extract 1 n).data.toList.length + 1 ≤ n := by rw [hx1, List.length_take]; omega
            rw [← hr, ← hx1, ← he1] at hacc
            have cU := fun w => readUnits_any (t.extract 1 n) w (by omega)
            have hz2 : (t.extract (n + 1) t.size).size + n + 1 = t.size := by omega
            have HZ : Hid ((t.extract (n + 1) t.size).size + n + 1 = t.size) := hz2
            clear he1 hz1 hx1 hz2
            by_cases hg : goodLetters (t.extract 1 n).data.toList = true
            · rw [if_pos hg] at hacc
              have hbl := bytesOf_length (unitsIn (t.extract 1 n).data.toList)
              have hil := unitsIn_length (t.extract 1 n).data.toList
              have hult := unitsIn_lt (t.extract 1 n).data.toList
              have cU2 : ∀ w, Calls Tryd.prog 27 #[.string (t.extract 1 n)] w fun e w' => (∃ v, e = .returned (.tuple #[v, .bool true]) ∧ w'.ownsRow w.heap.size 48 1 v (unitsIn (t.extract 1 n).data.toList).length (u16s (unitsIn (t.extract 1 n).data.toList))) ∧ Below w.heap.size w w' := by
                intro w
                refine (cU w).mono ?_
                rintro e w' ⟨h | h, hb⟩
                · exact ⟨h.2, hb⟩
                · rw [h.1] at hg; cases hg
              generalize unitsIn (t.extract 1 n).data.toList = us at hacc hbl hil hult cU2
              have hul : us.length ≤ 1000 := by omega
              have HA : Hid ((readN (t.extract (n + 1) t.size).data.toList).map ((acc ++ bytesOf us) ++ ·) = ANS) := by
                show _ = _
                rw [← hacc, Option.map_map]
                congr 1
                funext x
                simp
              have HB : Hid ((acc ++ bytesOf us).length + 4 * (t.extract (n + 1) t.size).size ≤ 5000) := by
                show _ ≤ _
                have := HZ.out
                rw [List.length_append]
                omega
              clear hacc hg cU hr hbl hil hx1t
              go_wp2_with (first
                | (go_at_call 22; refine (cI _).mono ?_; rintro e w1 ⟨rfl, rfl⟩)
                | (go_at_call 27; refine (cU2 _).mono ?_; rintro e w2 ⟨⟨v2, rfl, hown2⟩, hb2⟩))
              have hsz3 : w.heap.size ≤ w2.heap.size := Nat.le_trans hbw.size hb2.size
              have cA := appendRunes_any w.heap.size _ _ _ acc us _ (row_below hb2 hownr) hown2 hult (by omega) (by omega) hsz3
              refine cA.mono ?_
              rintro e w3 ⟨v3, rfl, hown3, hk3⟩
              clear cA hown2 cI cU2
              go_wp2
              go_roundw
              case rel =>
                refine ⟨t.extract (n + 1) t.size, acc ++ bytesOf us, rfl, by have := HZ.out; omega, hown3, (hbw.trans (hb2.mono hbw.size)).trans hk3.below, HA.out, HB.out⟩
              case measure =>
                have := HZ.out
                simp only [strLen]
                omega
            · rw [if_neg hg] at hacc
              rw [Bool.not_eq_true] at hg
              have HA : Hid (none = ANS) := by show none = ANS; simpa using hacc
              have cU2 : ∀ w, Calls Tryd.prog 27 #[.string (t.extract 1 n)] w fun e w' => e = .returned (.tuple #[.slice none 0 0, .bool false]) ∧ Below w.heap.size w w' := by
                intro w
                refine (cU w).mono ?_
                rintro e w' ⟨h | h, hb⟩
                · rw [h.1] at hg; cases hg
                · exact ⟨h.2, hb⟩
              clear hacc hg cU hr
              go_wp2_with (first
                | (go_at_call 22; refine (cI _).mono ?_; rintro e w1 ⟨rfl, rfl⟩)
                | (go_at_call 27; refine (cU2 _).mono ?_; rintro e w2 ⟨rfl, hb2⟩))
              go_ret2
              exact ⟨Or.inr ⟨HA.out.symm, rfl⟩, hbw.trans (hb2.mono hbw.size)⟩
      · have hne : ((c.toNat : Int) != 38) = true := by
          rw [bne_iff_ne]; intro h; exact h38 (UInt8.toNat_inj.1 (by show c.toNat = 38; omega))
        rw [hr, readN_cons, if_pos h38] at hacc
        have he1 := Lib.ext_list t 1
        rw [hr, List.drop_succ_cons, List.drop_zero] at he1
        have hz1 := Lib.ext_size t 1
        have HA : Hid ((readN (t.extract 1 t.size).data.toList).map ((acc ++ [c]) ++ ·) = ANS) := by
          show _ = _
          rw [he1, ← hacc, Option.map_map]
          congr 1
          funext x
          simp
        have HZ : Hid ((t.extract 1 t.size).size = t.size - 1) := hz1
        clear hacc he1 hz1 hr
        go_wp2_with (at_builtin; go_must (refine wpList_push rfl _ _ 35 rfl _ w.heap.size 5 (.int .u8 0) 1 Tryd.underlying35 Tryd.info5 rfl _ _ _ (by rfl) hownr [.int .u8 (c.toNat : Int)] _ (by rfl) (by simp) (by simp [Value.oneCell']) (by simp) (by rfl) (by decide) (by simp; omega) hbw.size ?_); intro g1 cap1 w1 hown1 hg1 hlt1)
        go_roundw
        case rel =>
          refine ⟨t.extract 1 t.size, acc ++ [c], rfl, by rw [HZ.out]; omega, ?_, hbw.grown hg1 hbw.size (fun k hk => (hownr.lt k hk).1), HA.out, by rw [HZ.out, List.length_append]; simp; omega⟩
          rw [List.length_append, Lib.byteCells_append]
          exact hown1
        case measure =>
          simp only [strLen, HZ.out]
          omega
    · have hl := Lib.size_eq t
      have hnil : t.data.toList = [] := List.length_eq_zero_iff.1 (by omega)
      rw [hnil, readN_nil] at hacc
      have HA : Hid (some acc = ANS) := by show some acc = ANS; simpa using hacc
      have hcv := conv_row hownr
      clear hl hnil hacc
      go_wp2
      go_ret2
      exact ⟨Or.inl ⟨acc, HA.out.symm, rfl⟩, hbw⟩
end Go.Proofs.YtiocmecalidlhaaDoor
