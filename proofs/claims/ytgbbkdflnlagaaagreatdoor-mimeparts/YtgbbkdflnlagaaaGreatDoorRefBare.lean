/-
  What letterboxref.blank and letterboxref.bare do: the same as head.bare.
-/
import Derived.Test.YtgbbkdflnlagaaaGreatDoorHeadCut
namespace Go.Proofs.YtgbbkdflnlagaaaGreatDoor
open Go.RowKit Go.Proofs.Aid Go.Proofs.Hd

theorem bare_last {c : UInt8} {t : Tx} (h : blk c = true) : Hd.bare (t ++ [c]) = Hd.bare t := by
  have h' : ([32, 9] : Tx).contains c = true := h
  unfold Hd.bare Lib.trimS Lib.trimRightS
  rw [List.reverse_append, List.reverse_singleton, List.singleton_append, List.dropWhile_cons_of_pos h']
theorem bare_head {c : UInt8} {t : Tx} (h : blk c = true) : Hd.bare (c :: t) = Hd.bare t := by
  have h' : ([32, 9] : Tx).contains c = true := h
  unfold Hd.bare Lib.trimS Lib.trimRightS Lib.trimLeftS
  rw [List.reverse_cons, List.dropWhile_append]
  split
  · rename_i he
    rw [List.isEmpty_iff.1 he, List.dropWhile_cons_of_pos h']
    rfl
  · rw [List.reverse_append, List.reverse_singleton, List.singleton_append, List.dropWhile_cons_of_pos h']
theorem rblank_is (c : UInt8) (w : World) : Calls Tryz.prog 63 #[.int .u8 (c.toNat : Int)] w fun e w' => e = .returned (.bool (blk c)) ∧ w' = w := by
  by_cases h1 : c = 32
  · subst h1
    go_enter Tryz.func63, Tryz.ntmps63
    go_wp2_with fail
    go_ret
    exact ⟨rfl, rfl⟩
  · have q1 : ((c.toNat : Int) == 32) = false := by rw [beq_eq_false_iff_ne]; intro h; exact h1 (UInt8.toNat_inj.1 (by show c.toNat = 32; omega))
    by_cases h2 : c = 9
    · subst h2
      go_enter Tryz.func63, Tryz.ntmps63
      go_wp2_with fail
      go_ret
      exact ⟨rfl, rfl⟩
    · have q2 : ((c.toNat : Int) == 9) = false := by rw [beq_eq_false_iff_ne]; intro h; exact h2 (UInt8.toNat_inj.1 (by show c.toNat = 9; omega))
      have hb : blk c = false := by simp [blk, h1, h2]
      rw [hb]
      clear hb
      go_enter Tryz.func63, Tryz.ntmps63
      go_wp2_with fail
      go_ret
      exact ⟨rfl, rfl⟩
def strLen : Value → Nat
  | .string t => t.size
  | _ => 0
theorem empty_no {l : Tx} (h : ¬ l = []) : l.isEmpty = false := by cases l with
  | nil => exact absurd rfl h
  | cons c r => rfl
theorem size_pos {t : ByteArray} (h : ¬ t.data.toList = []) : 0 < t.size := by
  rw [← list_size]; exact List.length_pos_iff.2 h
theorem cons_of (t : ByteArray) (h : 0 < t.size) : t.data.toList = t[0] :: (t.extract 1 t.size).data.toList := by
  rw [Lib.extract_to_end]
  have hl := list_size t
  have := List.drop_eq_getElem_cons (l := t.data.toList) (i := 0) (by omega)
  exact this
theorem snoc_of (t : ByteArray) (h : 0 < t.size) (h1 : t.size - 1 < t.size) : t.data.toList = (t.extract 0 (t.size - 1)).data.toList ++ [t[t.size - 1]] := by
  rw [Lib.extract_from_zero]
  have hl := list_size t
  have := List.take_append_getElem (l := t.data.toList) (i := t.size - 1) (by omega)
  rw [show t.size - 1 + 1 = t.data.toList.length by omega, List.take_length] at this
  exact this.symm
theorem rbare_is (s : ByteArray) (w : World) (hs : s.size ≤ 1000000) :
    Calls Tryz.prog 86 #[.string s] w fun e w' => e = .returned (.string ⟨(Hd.bare s.data.toList).toArray⟩) ∧ w' = w := by
  obtain ⟨R, hR⟩ : ∃ R : ByteArray, ⟨(Hd.bare s.data.toList).toArray⟩ = R := ⟨_, rfl⟩
  rw [hR]
  have HR : Hid (Hd.bare s.data.toList = R.data.toList) := by show _ = _; rw [← hR]
  clear hR
  go_enter Tryz.func86, Tryz.ntmps86
  go_wp2_with fail
  go_loopw [0] (fun v wr => ∃ t : ByteArray, v = .string t ∧ t.size ≤ 1000000 ∧ Hid (Hd.bare t.data.toList = R.data.toList) ∧ wr = w) (fun v _ => strLen v)
  case atStart => exact ⟨s, rfl, hs, HR.out, rfl⟩
  case round =>
    obtain ⟨t, rfl, ht, HT, hw⟩ := hrel
    obtain rfl : w = wr := hw.symm
    have hl := list_size t
    by_cases h0 : t.data.toList = []
    · obtain rfl : t = ⟨#[]⟩ := text_ext h0
      obtain rfl : R = ⟨#[]⟩ := text_ext HT.out.symm
      clear h0 hl
      go_wp2_with fail
      go_loopw [0] (fun v wr => v = .string ⟨#[]⟩ ∧ wr = w) (fun v _ => strLen v)
      case atStart => exact ⟨rfl, rfl⟩
      case round =>
        obtain ⟨rfl, hw⟩ := hrel
        obtain rfl : w = wr := hw.symm
        go_wp2_with fail
        go_ret
        exact ⟨rfl, rfl⟩
    · have hv1 : ¬ t.toList = [] := by rw [Lib.toList_data]; exact h0
      have hv2 : t.toList.isEmpty = false := by rw [Lib.toList_data]; exact empty_no h0
      have hpos : 0 < t.size := size_pos h0
      have hcons := cons_of t hpos
      generalize hc : t[0] = c at hcons
      have HC : Hid (t.data.toList = c :: (t.extract 1 t.size).data.toList) := hcons
      have cB := rblank_is c w
      have hr : (t.extract 1 t.size).size < t.size := by rw [Lib.size_eq, Lib.extract_to_end, List.length_drop, hl]; omega
      clear h0 hcons
      obtain ⟨b, hb⟩ : ∃ b, blk c = b := ⟨_, rfl⟩
      rw [hb] at cB
      have HB : Hid (blk c = b) := hb
      clear hb
      go_wp2_with fail
      refine cB.mono ?_
      clear cB
      rintro e w1 ⟨rfl, hw⟩
      obtain rfl : w = w1 := hw.symm
      cases b
      · go_wp2_with fail
        go_loopw [0] (fun v wr => ∃ u : ByteArray, v = .string u ∧ u.size ≤ 1000000 ∧ Hid (Hd.bare u.data.toList = R.data.toList) ∧ Hid (∀ d, u.data.toList.head? = some d → blk d = false) ∧ wr = w) (fun v _ => strLen v)
        case atStart => exact ⟨t, rfl, ht, HT.out, fun d hd => by rw [HC.out] at hd; cases hd; exact HB.out, rfl⟩
        case round =>
          obtain ⟨u, rfl, hu, HU, HH, hw⟩ := hrel
          obtain rfl : w = wr := hw.symm
          clear hc HC HB HT hv1 hv2 hpos hr hl
          have hl := list_size u
          by_cases h0 : u.data.toList = []
          · obtain rfl : u = ⟨#[]⟩ := text_ext h0
            obtain rfl : R = ⟨#[]⟩ := text_ext HU.out.symm
            clear h0 hl
            go_wp2_with fail
            go_ret
            exact ⟨rfl, rfl⟩
          · have hv1 : ¬ u.toList = [] := by rw [Lib.toList_data]; exact h0
            have hv2 : u.toList.isEmpty = false := by rw [Lib.toList_data]; exact empty_no h0
            have hpos : 0 < u.size := size_pos h0
            have h1 : u.size - 1 < u.size := by omega
            have hsnoc := snoc_of u hpos h1
            generalize hc : u[u.size - 1] = c1 at hsnoc
            have HC : Hid (u.data.toList = (u.extract 0 (u.size - 1)).data.toList ++ [c1]) := hsnoc
            have cB := rblank_is c1 w
            have hr : (u.extract 0 (u.size - 1)).size < u.size := by rw [Lib.size_eq, Lib.extract_from_zero, List.length_take, hl]; omega
            clear h0 hsnoc
            obtain ⟨b, hb⟩ : ∃ b, blk c1 = b := ⟨_, rfl⟩
            rw [hb] at cB
            have HB : Hid (blk c1 = b) := hb
            clear hb
            go_wp2_with fail
            refine cB.mono ?_
            clear cB
            rintro e w1 ⟨rfl, hw⟩
            obtain rfl : w = w1 := hw.symm
            cases b
            · obtain rfl : R = u := by
                refine text_ext ?_
                rw [← HU.out]
                refine bare_of_trim ⟨HH.out, fun d hd => ?_⟩
                rw [HC.out, List.getLast?_concat] at hd
                cases hd
                exact HB.out
              go_wp2_with fail
              go_ret
              exact ⟨rfl, rfl⟩
            · go_wp2_with fail
              go_roundw
              case rel =>
                refine ⟨_, rfl, by omega, ?_, ?_, trivial⟩
                · show _ = _
                  rw [← HU.out, HC.out, bare_last HB.out]
                · intro d hd
                  refine HH.out d ?_
                  rw [HC.out, List.head?_append, hd]
                  rfl
              case measure => simpa [strLen] using hr
      · go_wp2_with fail
        go_roundw
        case rel =>
          refine ⟨_, rfl, by omega, ?_, trivial⟩
          show _ = _
          rw [← HT.out, HC.out, bare_head HB.out]
        case measure => simpa [strLen] using hr
end Go.Proofs.YtgbbkdflnlagaaaGreatDoor
