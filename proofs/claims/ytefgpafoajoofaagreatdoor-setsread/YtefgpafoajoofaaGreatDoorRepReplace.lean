/-
  (*strings.byteStringReplacer).Replace, of a replacer that has nothing in the place of < and of >.
-/
import Derived.Test.YtefgpafoajoofaaGreatDoorStripTie
import Derived.Test.YtefgpafoajoofaaGreatDoorCountShelf
import Derived.Test.YtefgpafoajoofaaGreatDoorSeqBase
import Derived.Test.YtefgpafoajoofaaGreatDoorSeqPrint
import Derived.Deep.Cut
import Derived.Deep.CutRange
import Derived.Deep.DeepCutAuto
import Derived.Deep.CutBlock
import Derived.Laws.CopyOwn
namespace Go.Proofs.YtefgpafoajoofaaGreatDoor
open Go.RowKit Go.Proofs.Aid Go.Proofs.Sq

/-- What stands in a byte's place. -/
def RepV (j : Nat) (v : Value) : Prop := ((j = 60 ∨ j = 62) ∧ ∃ a c, v = .slice (some a) 0 c) ∨ (¬ (j = 60 ∨ j = 62) ∧ v = .slice none 0 0)
/-- The replacer lies in block R. -/
structure RepAt (R : Nat) (w : World) : Prop where
  rep : ∀ j : Nat, j < 256 → ∃ v, w.cell? ⟨R, j, none⟩ = some v ∧ RepV j v
  two : ∃ t c, w.cell? ⟨R, 256, none⟩ = some (.slice (some ⟨t, 0, none⟩) 2 c) ∧ w.cell? ⟨t, 0, none⟩ = some (.string ⟨#[62]⟩) ∧ w.cell? ⟨t, 1, none⟩ = some (.string ⟨#[60]⟩)
theorem RepAt.below {R : Nat} {w W : World} (h : RepAt R w) (hb : Below w.heap.size w W) : RepAt R W := by
  refine ⟨fun j hj => ?_, ?_⟩
  · obtain ⟨v, h1, h2⟩ := h.rep j hj
    exact ⟨v, (hb.cell (World.block_lt_of_cell? _ _ h1)).trans h1, h2⟩
  · obtain ⟨t, c, h1, h2, h3⟩ := h.two
    exact ⟨t, c, (hb.cell (World.block_lt_of_cell? _ _ h1)).trans h1, (hb.cell (World.block_lt_of_cell? _ _ h2)).trans h2, (hb.cell (World.block_lt_of_cell? _ _ h3)).trans h3⟩

set_option maxHeartbeats 4000000 in
set_option maxRecDepth 100000 in
theorem bs_replace (R : Nat) (s : ByteArray) (w : World) (h : RepAt R w) (hs : s.size ≤ 1000000) :
    Calls Tryz.prog 288 #[.pointer (some ⟨R, 0, none⟩), .string s] w fun e w' => e = .returned (.string ⟨(strip s.data.toList).toArray⟩) ∧ Below w.heap.size w w' := by
  have hlen : s.data.toList.length = s.size := by show s.data.toList.length = s.data.size; simp
  obtain ⟨N, hN⟩ : ∃ n, (strip s.data.toList).length = n := ⟨_, rfl⟩
  have hNs : N ≤ s.size := by rw [← hN, ← hlen]; exact strip_le _
  obtain ⟨t, c, ht, t0, t1⟩ := h.two
  go_enter Tryz.func288, Tryz.ntmps288
  go_upto_if 26 with fail
  go_cut [5, 6] (fun v5 v6 wx => v5 = .int .i64 (N : Int) ∧ v6 = .bool (decide (N ≠ s.size)) ∧ Below w.heap.size w wx)
  case first =>
    have hsl := strip_len s.data.toList
    rw [hN, hlen] at hsl
    obtain ⟨n2, hn2⟩ : ∃ n, s.data.toList.count 62 = n := ⟨_, rfl⟩
    obtain ⟨n0, hn0⟩ : ∃ n, s.data.toList.count 60 = n := ⟨_, rfl⟩
    rw [hn2, hn0] at hsl
    by_cases h16 : 16 ≤ s.size
    · have h16' : (16 : Int) ≤ (s.size : Int) := by omega
      have h16b : decide ((16 : Int) ≤ (s.size : Int)) = true := decide_eq_true h16'
      rw [h16b]
      have c62 : ∀ W, Calls Tryz.prog 129 #[.string s, .string ⟨#[62]⟩] W fun e w' => e = .returned (.int .i64 (n2 : Int)) ∧ w' = W := fun W => by
        have := Tryz.strings_Count_one s 62 W
        rw [show Lib.countByte s.data.toList 62 = n2 from hn2] at this
        exact this
      have c60 : ∀ W, Calls Tryz.prog 129 #[.string s, .string ⟨#[60]⟩] W fun e w' => e = .returned (.int .i64 (n0 : Int)) ∧ w' = W := fun W => by
        have := Tryz.strings_Count_one s 60 W
        rw [show Lib.countByte s.data.toList 60 = n0 from hn0] at this
        exact this
      obtain ⟨v2, r2, q2⟩ := h.rep 62 (by decide)
      obtain ⟨v0, r0, q0⟩ := h.rep 60 (by decide)
      obtain ⟨a2, x2, rfl⟩ : ∃ a c, v2 = .slice (some a) 0 c := by rcases q2 with ⟨_, q⟩ | ⟨q, _⟩; exact q; exact absurd (Or.inr rfl) q
      obtain ⟨a0, x0, rfl⟩ : ∃ a c, v0 = .slice (some a) 0 c := by rcases q0 with ⟨_, q⟩ | ⟨q, _⟩; exact q; exact absurd (Or.inl rfl) q
      clear q2 q0 h
      have e62 : ∀ h, ((⟨#[62]⟩ : ByteArray)[0]'h).toNat = 62 := fun _ => rfl
      have e60 : ∀ h, ((⟨#[60]⟩ : ByteArray)[0]'h).toNat = 60 := fun _ => rfl
      go_wp2_with fail
      go_loopw [5, 6, 32] (fun v5 v6 i wr => ∃ (k q m : Nat), i = .int .i64 (k : Int) ∧ (k = 0 ∧ m = 0 ∨ k = 1 ∧ m = n2 ∨ k = 2 ∧ m = n2 + n0) ∧ v5 = .int .i64 ((s.size - m : Nat) : Int) ∧ v6 = .bool (decide (0 < m)) ∧ wr = w.drewN q) (fun _ _ i _ => 2 - (intOf i).toNat)
      case atStart => exact ⟨0, 0, 0, rfl, Or.inl ⟨rfl, rfl⟩, rfl, rfl, rfl⟩
      case round =>
        obtain ⟨k, q, m, rfl, hk, rfl, rfl, rfl⟩ := hrel
        rcases hk with ⟨rfl, hm⟩ | ⟨rfl, hm⟩ | ⟨rfl, hm⟩
        · go_wp2_with fail
          refine (c62 _).mono ?_
          rintro e w1 ⟨rfl, hw⟩
          subst hw
          by_cases hz : n2 = 0
          · have hz' : ((n2 : Int) != 0) = false := by simp [hz]
            go_wp2_with fail
            go_roundw
            case rel => exact ⟨1, q, n2, by go_num, Or.inr (Or.inl ⟨rfl, rfl⟩), by go_num, congrArg Value.bool (decide_eq_false (by omega)).symm, rfl⟩
            case measure => simp [intOf]
          · have hz' : ((n2 : Int) != 0) = true := by simp [hz]
            go_wp2_with fail
            go_region
            all_goals
              go_wp2_with fail
              go_roundw
              case rel => exact ⟨1, _, n2, by go_num, Or.inr (Or.inl ⟨rfl, rfl⟩), by go_num, congrArg Value.bool (decide_eq_true (by omega)).symm, rfl⟩
              case measure => simp [intOf]
        · go_wp2_with fail
          refine (c60 _).mono ?_
          rintro e w1 ⟨rfl, hw⟩
          subst hw
          by_cases hz : n0 = 0
          · have hz' : ((n0 : Int) != 0) = false := by simp [hz]
            go_wp2_with fail
            go_roundw
            case rel => exact ⟨2, q, n2 + n0, by go_num, Or.inr (Or.inr ⟨rfl, rfl⟩), by go_num, congrArg Value.bool (by rw [decide_eq_decide]; omega), rfl⟩
            case measure => simp [intOf]
          · have hz' : ((n0 : Int) != 0) = true := by simp [hz]
            go_wp2_with fail
            go_region
            all_goals
              go_wp2_with fail
              go_roundw
              case rel => exact ⟨2, _, n2 + n0, by go_num, Or.inr (Or.inr ⟨rfl, rfl⟩), by go_num, congrArg Value.bool (decide_eq_true (by omega)).symm, rfl⟩
              case measure => simp [intOf]
        · go_wp2_with fail
          go_meet
          exact ⟨by go_num, congrArg Value.bool (by rw [decide_eq_decide]; omega), below_drewN (Below.refl _ _) q⟩
    · have h16' : ¬ (16 : Int) ≤ (s.size : Int) := by omega
      have h16b : decide ((16 : Int) ≤ (s.size : Int)) = false := decide_eq_false h16'
      rw [h16b]
      go_wp2_with fail
      go_loopw [5, 6, 10] (fun v5 v6 i wr => ∃ (k m : Nat), i = .int .i64 (k : Int) ∧ k ≤ s.size ∧ m ≤ k ∧ (strip (s.data.toList.take k)).length = m ∧ v5 = .int .i64 ((m + (s.size - k) : Nat) : Int) ∧ v6 = .bool (decide (m < k)) ∧ wr = w) (fun _ _ i _ => s.size - (intOf i).toNat)
      case atStart => exact ⟨0, 0, rfl, by omega, by omega, rfl, by simp, rfl, rfl⟩
      case round =>
        obtain ⟨k, m, rfl, hk, hmk, hst, rfl, rfl, rfl⟩ := hrel
        by_cases hlt : k < s.size
        · have hck : s.data.toList[k]? = some (s[k]'hlt) := by rw [List.getElem?_eq_getElem (by rw [hlen]; exact hlt)]; rfl
          have hss := congrArg List.length (strip_step hck)
          rw [List.length_append, hst] at hss
          generalize hc : s[k] = d at hss
          have hd256 : (d.toNat : Int) < 256 := by have := d.toNat_lt; omega
          obtain ⟨v, hv, hR⟩ := h.rep d.toNat d.toNat_lt
          rcases hR with ⟨hd, a, x, rfl⟩ | ⟨hd, rfl⟩
          · have hB : isB d = true := by
              unfold isB
              rw [decide_eq_true_eq]
              rcases hd with hd | hd
              · exact Or.inl (UInt8.toNat_inj.1 hd)
              · exact Or.inr (UInt8.toNat_inj.1 hd)
            rw [hB, if_pos rfl] at hss
            have hss' : (strip (s.data.toList.take (k + 1))).length = m := hss
            clear hss hd hck hst
            go_wp2_with fail
            go_roundw
            case rel => exact ⟨k + 1, m, by go_num, by omega, by omega, hss', by go_num, congrArg Value.bool (decide_eq_true (by omega)).symm, trivial⟩
            case measure => simp [intOf]; omega
          · have hB : isB d = false := by
              unfold isB
              rw [decide_eq_false_iff_not]
              rintro (rfl | rfl)
              · exact hd (Or.inl rfl)
              · exact hd (Or.inr rfl)
            rw [hB, if_neg (by simp)] at hss
            have hss' : (strip (s.data.toList.take (k + 1))).length = m + 1 := hss
            clear hss hd hck hst
            go_wp2_with fail
            go_roundw
            case rel => exact ⟨k + 1, m + 1, by go_num, by omega, by omega, hss', by go_num, congrArg Value.bool (by rw [decide_eq_decide]; omega), trivial⟩
            case measure => simp [intOf]; omega
        · obtain rfl : k = s.size := by omega
          have hmN : m = N := by rw [← hst, ← hlen, List.take_length]; exact hN
          subst hmN
          go_wp2_with fail
          go_meet
          exact ⟨by go_num, congrArg Value.bool (by rw [decide_eq_decide]; omega), Below.refl _ _⟩
  case rest =>
    obtain ⟨rfl, rfl, hb⟩ := hcut
    by_cases hNe : N = s.size
    · have hf : strip s.data.toList = s.data.toList := strip_full (by rw [hN, hlen, hNe])
      have hdn : decide (N ≠ s.size) = false := decide_eq_false (by simp [hNe])
      have hres : (⟨(strip s.data.toList).toArray⟩ : ByteArray) = s := by rw [hf]
      rw [hdn]
      go_wp2_with fail
      go_ret
      exact ⟨by rw [hres]; rfl, hb⟩
    · have hdn : decide (N ≠ s.size) = true := decide_eq_true hNe
      rw [hdn]
      have hmk : (Instr.makeSlice 89 (.int .i64 (N : Int)) (.int .i64 (N : Int))).run Tryz.prog wc = .ok (.slice (some ⟨wc.heap.size, 0, none⟩) N N) (wc.alloc (.cells (madeCells #[.int .u8 0] N) 5)) := by
        obtain ⟨i0, hi, hz⟩ := Option.map_eq_some_iff.1 Tryz.infoByte
        simp only [Prod.mk.injEq] at hz
        obtain ⟨z0, z1, z2⟩ := hz
        have := run_make (P := Tryz.prog) wc 89 5 i0 (.int .u8 0) Tryz.underlying89 hi z0 .i64 .i64 N N (by omega) (by omega) (by rw [z2]; omega) (by omega)
        rw [z1, Nat.mul_one, Int.toNat_natCast] at this
        exact this
      have hcp : ∀ (W : World) (d a : Option Addr) (dl dc sc : Nat), (Builtin.copy_ #[89, 89] 3 #[.slice d dl dc, .slice a 0 sc]).run Tryz.prog W = .ok (.int .i64 0) W := fun W d a dl dc sc => run_copy_none (P := Tryz.prog) W 89 89 3 5 d a dl dc 0 sc Tryz.underlying89 (by kernel_rfl) (by simp)
      obtain ⟨B, hB⟩ : ∃ B, wc.heap.size = B := ⟨_, rfl⟩
      have hBw : w.heap.size ≤ B := by rw [← hB]; exact hb.size
      rw [hB] at hmk
      have hb1 : Below w.heap.size w (wc.alloc (.cells (madeCells #[.int .u8 0] N) 5)) := hb.alloc hb.size _
      have hall1 : ∀ j, j < N → (∃ u, (wc.alloc (.cells (madeCells #[.int .u8 0] N) 5)).cell? ⟨B, j, none⟩ = some u) ∧ (wc.alloc (.cells (madeCells #[.int .u8 0] N) 5)).frozen? ⟨B, j, none⟩ = false := fun j hj => by
        have hh := heap_alloc_new wc (.cells (madeCells #[.int .u8 0] N) 5)
        rw [hB] at hh
        generalize wc.alloc (.cells (madeCells #[.int .u8 0] N) 5) = W1 at hh
        have hsz := size_madeCells #[.int .u8 0] N
        generalize madeCells #[.int .u8 0] N = arr at hh hsz
        constructor
        · exact ⟨arr[j]'(by omega), by simp [World.cell?, hh, hsz, hj]⟩
        · simp [World.frozen?, hh]
      have HNN : Hid ((strip s.data.toList).length = N) := hN
      clear hN ht t0 t1
      go_wp2_with fail
      go_loopw [13, 14] (fun vj vi wr => ∃ (k m : Nat), vi = .int .i64 (k : Int) ∧ vj = .int .i64 (m : Int) ∧ k ≤ s.size ∧ Hid ((strip (s.data.toList.take k)).length = m) ∧ Hid (∀ j b, (strip (s.data.toList.take k))[j]? = some b → wr.cell? ⟨B, j, none⟩ = some (.int .u8 (b.toNat : Int))) ∧ Hid (∀ j, j < N → (∃ u, wr.cell? ⟨B, j, none⟩ = some u) ∧ wr.frozen? ⟨B, j, none⟩ = false) ∧ Below w.heap.size w wr) (fun _ i _ => s.size - (intOf i).toNat)
      case atStart => exact ⟨0, 0, rfl, rfl, by omega, rfl, fun j b hj => by simp [strip] at hj, hall1, hb1⟩
      case round =>
        obtain ⟨k, m, rfl, rfl, hk, hst, hcl, hal, hbr⟩ := hrel
        by_cases hlt : k < s.size
        · have hck : s.data.toList[k]? = some (s[k]'hlt) := by rw [List.getElem?_eq_getElem (by rw [hlen]; exact hlt)]; rfl
          have hstp := strip_step hck
          generalize hc : s[k] = d at hstp
          have hd256 : (d.toNat : Int) < 256 := by have := d.toNat_lt; omega
          have hmN : m ≤ N := by have := strip_take_le s.data.toList k; rw [hst.out, HNN.out] at this; exact this
          obtain ⟨v, hv, hR⟩ := (h.below hbr).rep d.toNat d.toNat_lt
          rcases hR with ⟨hd, a, x, rfl⟩ | ⟨hd, rfl⟩
          · have hBd : isB d = true := by
              unfold isB
              rw [decide_eq_true_eq]
              rcases hd with hd | hd
              · exact Or.inl (UInt8.toNat_inj.1 hd)
              · exact Or.inr (UInt8.toNat_inj.1 hd)
            rw [hBd, if_pos rfl, List.append_nil] at hstp
            have HSP : Hid (strip (s.data.toList.take (k + 1)) = strip (s.data.toList.take k)) := hstp
            clear hstp hd hck
            go_wp2_with fail
            go_region_with fail
            all_goals
              go_wp2_with fail
              go_roundw
              case rel => exact ⟨k + 1, m, by go_num, by go_num, by omega, HSP.out ▸ hst.out, fun j b hj => hcl.out j b (HSP.out ▸ hj), hal.out, below_drewN hbr _⟩
              case measure => simp [intOf]; omega
          · have hBd : isB d = false := by
              unfold isB
              rw [decide_eq_false_iff_not]
              rintro (rfl | rfl)
              · exact hd (Or.inl rfl)
              · exact hd (Or.inr rfl)
            rw [hBd, if_neg (by simp)] at hstp
            have HSP : Hid (strip (s.data.toList.take (k + 1)) = strip (s.data.toList.take k) ++ [d]) := hstp
            have hm1 : m < N := by
              have := strip_take_le s.data.toList (k + 1)
              rw [HSP.out, HNN.out, List.length_append, hst.out] at this
              simp at this
              omega
            obtain ⟨⟨u, hu⟩, hfz⟩ := hal.out m hm1
            clear hstp hd hck
            go_wp2_with fail
            go_roundw
            case rel =>
              refine ⟨k + 1, m + 1, by go_num, by go_num, by omega, ?_, ?_, ?_, hbr.setCell hBw _⟩
              · show _ = _
                rw [HSP.out, List.length_append, hst.out]; rfl
              · intro j b hj
                rw [HSP.out] at hj
                by_cases hjm : j = m
                · subst hjm
                  rw [List.getElem?_append_right (by rw [hst.out]; exact Nat.le_refl _), hst.out, Nat.sub_self] at hj
                  obtain rfl : d = b := by simpa using hj
                  exact World.cell?_setCell_same _ _ _ hu
                · rw [World.cell?_setCell_other _ _ _ _ (by simp <;> omega)]
                  refine hcl.out j b ?_
                  rw [List.getElem?_append] at hj
                  split at hj
                  · exact hj
                  · next hge =>
                    rw [hst.out] at hge hj
                    rw [List.getElem?_eq_none (by simp; omega)] at hj
                    cases hj
              · intro j hj
                obtain ⟨⟨x, hx⟩, hz⟩ := hal.out j hj
                refine ⟨?_, by simpa using hz⟩
                by_cases hjm : j = m
                · subst hjm; exact ⟨_, World.cell?_setCell_same _ _ _ hu⟩
                · exact ⟨x, by rw [World.cell?_setCell_other _ _ _ _ (by simp <;> omega)]; exact hx⟩
            case measure => simp [intOf]; omega
        · obtain rfl : k = s.size := by omega
          have HT : Hid (s.data.toList.take s.size = s.data.toList) := by show _ = _; rw [← hlen, List.take_length]
          have hmN : m = N := by rw [← hst.out, HT.out]; exact HNN.out
          subst hmN
          have hcv := run_convert_bytes_back wr 89 9 5 ⟨B, 0, none⟩ m (strip s.data.toList) Tryz.underlying89 Tryz.underlying5 Tryz.underlying9 (fun j hj => by
            rw [Addr.add_lit, Nat.zero_add]
            have := hcl.out j ((strip s.data.toList)[j]'hj) (by rw [HT.out]; exact List.getElem?_eq_getElem hj)
            rw [this])
          rw [HNN.out] at hcv
          go_wp2_with fail
          go_ret
          exact ⟨rfl, hbr⟩
end Go.Proofs.YtefgpafoajoofaaGreatDoor
