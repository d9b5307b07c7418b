/-
  What utf7.appendLetters does: it adds the units' bits, six a letter.
-/
import Derived.Test.YtiocmecalidlhaaDoorUnits
import Derived.Test.YtiocmecalidlhaaDoorBits
import Derived.Lib.UnsafeStr
import Derived.Laws.BitsAllLaws
namespace Go.Proofs.YtiocmecalidlhaaDoor
open Go.RowKit Go.Proofs.Aid Go.Proofs.Ut

theorem or_join (b u : Nat) (hu : u < 65536) : bits .or .u32 ((b : Int) * 65536 % 4294967296) (u : Int) = ((b * 2 ^ 16 % 2 ^ 32 + u : Nat) : Int) := by
  have h1 : ((b : Int) * 65536 % 4294967296) = ((b * 65536 % 4294967296 : Nat) : Int) := by omega
  rw [h1, u32_or_nat _ _ (by omega) (by omega), nat_join 16 _ _ (by omega) (by omega)]
theorem and_63 (x : Nat) (hx : x < 4294967296) : bits .and .u32 (x : Int) 63 = ((x % 64 : Nat) : Int) := by
  have := u32_and_nat x 63 hx (by decide)
  rw [nat_mask6] at this
  simpa using this
theorem and_63i (x : Int) (h0 : 0 ≤ x) (hx : x < 4294967296) : bits .and .u32 x 63 = x % 64 := by
  obtain ⟨n, rfl⟩ := Int.eq_ofNat_of_zero_le h0
  rw [and_63 n (by omega)]
  omega
set_option maxRecDepth 100000 in
theorem alpha_all : ∀ p : Fin 64, (⟨#[65, 66, 67, 68, 69, 70, 71, 72, 73, 74, 75, 76, 77, 78, 79, 80, 81, 82, 83, 84, 85, 86, 87, 88, 89, 90, 97, 98, 99, 100, 101, 102, 103, 104, 105, 106, 107, 108, 109, 110, 111, 112, 113, 114, 115, 116, 117, 118, 119, 120, 121, 122, 48, 49, 50, 51, 52, 53, 54, 55, 56, 57, 43, 44]⟩ : ByteArray)[p.val]'(by simp [ByteArray.size]) = letter p.val := by decide
theorem alpha_get (p : Nat) (hp : p < 64) : ∀ h, (⟨#[65, 66, 67, 68, 69, 70, 71, 72, 73, 74, 75, 76, 77, 78, 79, 80, 81, 82, 83, 84, 85, 86, 87, 88, 89, 90, 97, 98, 99, 100, 101, 102, 103, 104, 105, 106, 107, 108, 109, 110, 111, 112, 113, 114, 115, 116, 117, 118, 119, 120, 121, 122, 48, 49, 50, 51, 52, 53, 54, 55, 56, 57, 43, 44]⟩ : ByteArray)[p]'h = letter p := fun _ => alpha_all ⟨p, hp⟩
def ltr (p : Nat) : Value := Value.int .u8 ((letter p).toNat : Int)
theorem ltr_cells (l : List Nat) : l.map ltr = Lib.byteCells (l.map letter) := by simp [Lib.byteCells, ltr]

/-- A unit's cell in the row. -/
theorem unit_cell {B : Nat} {g cap : Nat} {us : List Nat} {w : World} (hu : w.ownsRow B 48 1 (.slice (some ⟨g, 0, none⟩) us.length cap) us.length (us.map fun (u : Nat) => Value.int .u16 (u : Int))) (k : Nat) (hk : k < us.length) :
    w.cell? ⟨g, k, none⟩ = some (.int .u16 ((us.getD k 0 : Nat) : Int)) := by
  rw [hu.cellAt k (by omega)]
  simp [hk]

set_option maxHeartbeats 1000000 in
set_option maxRecDepth 100000 in
theorem appendLetters_any (B : Nat) (vo : Value) (n : Nat) (xs : List Value) (g cap : Nat) (us : List Nat) (w : World) (hown : w.ownsRow B 5 1 vo n xs)
    (hu : w.ownsRow B 48 1 (.slice (some ⟨g, 0, none⟩) us.length cap) us.length (us.map fun (u : Nat) => Value.int .u16 (u : Int))) (hus : ∀ u ∈ us, u < 65536) (hn : n ≤ 1000) (hm2 : us.length ≤ 200) (hB : B ≤ w.heap.size) :
    Calls Tryd.prog 17 #[vo, .slice (some ⟨g, 0, none⟩) us.length cap] w fun e w' => ∃ v', e = .returned v' ∧ w'.ownsRow B 5 1 v' (n + (lettersOf (bits16 us)).length) (xs ++ Lib.byteCells (lettersOf (bits16 us))) ∧ Kept 5 B w w' := by
  go_enter Tryd.func17, Tryd.ntmps17
  go_wp2
  go_loopw [0, 5, 6, 11] (fun vo' b c i wr => ∃ (k j bn cn : Nat), k ≤ us.length ∧ i = .int .i64 (k : Int) ∧ b = .int .u32 (bn : Int) ∧ c = .int .i64 (cn : Int) ∧ cn < 6 ∧ bn < 4294967296 ∧ Reg 6 (bits16 (us.take k)) j bn cn ∧ wr.ownsRow B 5 1 vo' (n + j) (xs ++ (pieces 6 (bits16 (us.take k)) j).map ltr) ∧ Kept 5 B w wr)
    (fun _ _ _ i _ => us.length - (intOf i).toNat)
  case atStart => exact ⟨0, 0, 0, 0, by omega, rfl, rfl, rfl, by omega, by omega, Reg.start 6, by simpa [pieces] using hown, Kept.refl _ _ _⟩
  case round =>
    obtain ⟨k, j, bn, cn, hk, rfl, rfl, rfl, hcn, hbn, hreg, hownr, hkept⟩ := hrel
    by_cases hlt : k < us.length
    · have hT := bits16_take us k hlt
      have hcell := unit_cell (hkept.row (by decide) hu) k hlt
      have hult : us.getD k 0 < 65536 := hus _ (by rw [List.getD_eq_getElem?_getD]; simp [hlt])
      generalize us.getD k 0 = u at hT hcell hult
      have hor := or_join bn u hult
      have hreg1 := hreg.more 16 u 32 hult (by omega)
      have hbn2 : bn * 2 ^ 16 % 2 ^ 32 + u < 4294967296 := by omega
      rw [← hT] at hreg1
      have hle := hreg.len
      have hp1 : pieces 6 (bits16 (us.take (k + 1))) j = pieces 6 (bits16 (us.take k)) j := by rw [hT]; exact pieces_append _ _ _ _ (by omega)
      rw [← hp1] at hownr
      clear hp1 hle hT hreg
      generalize bn * 2 ^ 16 % 2 ^ 32 + u = bn' at hor hreg1 hbn2
      have hlen6 : (bits16 (us.take (k + 1))).length ≤ 3200 := by rw [bits16_length]; simp; omega
      generalize hLd : bits16 (us.take (k + 1)) = L at hreg1 hownr hlen6
      have HLd : Hid (bits16 (us.take (k + 1)) = L) := hLd
      clear hLd
      go_wp2
      go_loopw [0, 6] (fun vo' c wr => ∃ (j cn : Nat), c = .int .i64 (cn : Int) ∧ cn < 22 ∧ Reg 6 L j bn' cn ∧ wr.ownsRow B 5 1 vo' (n + j) (xs ++ (pieces 6 L j).map ltr) ∧ Kept 5 B w wr) (fun _ c _ => (intOf c).toNat)
      case atStart => exact ⟨j, cn + 16, by go_num, by omega, hreg1, hownr, hkept⟩
      case round =>
        clear hownr hreg1 hkept
        obtain ⟨j2, cn2, rfl, hcn2, hreg2, hownr2, hkept2⟩ := hrel
        by_cases hc6 : 6 ≤ cn2
        · obtain ⟨hreg3, hpc⟩ := hreg2.out hc6
          have hand := and_63 (bn' / 2 ^ (cn2 - 6)) (Nat.lt_of_le_of_lt (Nat.div_le_self _ _) hbn2)
          have hps := pieces_succ 6 L j2
          have hp64 := piece_lt 6 L j2
          rw [show (64 : Nat) = 2 ^ 6 from rfl, hpc, Int.natCast_ediv] at hand
          generalize piece 6 L j2 = p at hand hps hp64
          push_cast at hand
          have hidx := alpha_get p hp64
          have hj2 : j2 ≤ 600 := by
            have hj3 := hreg2.len
            omega
          have HR : Hid (Reg 6 L (j2 + 1) bn' (cn2 - 6)) := hreg3
          have HP : Hid (pieces 6 L (j2 + 1) = pieces 6 L j2 ++ [p]) := hps
          clear hreg3 hps hpc hreg2
          go_wp2_with (at_builtin; refine wpList_push rfl _ _ 35 rfl _ B 5 (.int .u8 0) 1 Tryd.underlying35 Tryd.info5 rfl _ _ _ (by rfl) hownr2 [ltr p] _ (by rfl) (by simp) (by simp [Value.oneCell', ltr]) (by simp) (by rfl) (by decide) (by simp; omega) (by have := hkept2.size; omega) ?_; intro g1 cap1 w1 hown1 hg1 hlt1)
          go_roundw
          case rel =>
            refine ⟨j2 + 1, cn2 - 6, by go_num, by omega, HR.out, ?_, hkept2.grown hownr2 (by assumption) (Nat.le_refl _) (by have := hkept2.size; omega)⟩
            rw [HP.out, List.map_append, ← List.append_assoc]
            assumption
          case measure => simp [intOf]; omega
        · go_wp2
          go_roundw
          case rel => exact ⟨k + 1, j2, bn', cn2, by omega, by go_num, rfl, rfl, by omega, hbn2, by rw [HLd.out]; exact hreg2, by rw [HLd.out]; exact hownr2, hkept2⟩
          case measure => simp [intOf]; omega
    · have hke : us.take k = us := List.take_of_length_le (by omega)
      rw [hke] at hreg hownr
      by_cases hc0 : cn = 0
      · subst hc0
        have hL := lettersOf_full hreg
        have HL : Hid (lettersOf (bits16 us) = (pieces 6 (bits16 us) j).map letter) := hL
        clear hL hke
        go_wp2
        go_ret
        refine ⟨_, rfl, ?_, hkept⟩
        rw [HL.out, List.length_map, pieces_length, ← ltr_cells]
        exact hownr
      · have h24 : cn = 2 ∨ cn = 4 := by
          have hj3 := hreg.len
          rw [bits16_length] at hj3
          omega
        rcases h24 with rfl | rfl
        all_goals
          have hL := lettersOf_rest hreg (by omega) hcn
          have hlast := hreg.last 32 (by omega) (by omega)
          simp only [Nat.reduceSub] at hlast hL
          have hp64 := val_lt ((bits16 us).drop (6 * j) ++ List.replicate (6 - 2) false)
          have hp65 := val_lt ((bits16 us).drop (6 * j) ++ List.replicate (6 - 4) false)
          simp only [List.length_append, List.length_drop, List.length_replicate, ← hreg.len, Nat.add_sub_cancel_left, Nat.reduceAdd, Nat.reduceSub, Nat.reducePow] at hp64 hp65
          have hj2 : j ≤ 600 := by
            have hj3 := hreg.len
            rw [bits16_length] at hj3
            omega
          clear hke hreg hc0
        · have hand := and_63i ((bn : Int) * 16 % 4294967296) (by omega) (by omega)
          generalize val ((bits16 us).drop (6 * j) ++ List.replicate 4 false) = p at hL hlast hp64
          have hidx := alpha_get p hp64
          have hlast2 : bn * 16 % 4294967296 % 64 = p := hlast
          rw [show (bn : Int) * 16 % 4294967296 % 64 = (p : Int) by omega] at hand
          have HL : Hid (lettersOf (bits16 us) = (pieces 6 (bits16 us) j).map letter ++ [letter p]) := hL
          clear hL hlast hlast2 hp65
          go_wp2_with (at_builtin; refine wpList_push rfl _ _ 35 rfl _ B 5 (.int .u8 0) 1 Tryd.underlying35 Tryd.info5 rfl _ _ _ (by rfl) hownr [ltr p] _ (by rfl) (by simp) (by simp [Value.oneCell', ltr]) (by simp) (by rfl) (by decide) (by simp; omega) (by have := hkept.size; omega) ?_; intro g1 cap1 w1 hown1 hg1 hlt1)
          go_ret
          refine ⟨_, rfl, ?_, hkept.grown hownr (by assumption) (Nat.le_refl _) (by have := hkept.size; omega)⟩
          rw [HL.out, List.length_append, List.length_map, pieces_length, show (pieces 6 (bits16 us) j).map letter ++ [letter p] = (pieces 6 (bits16 us) j ++ [p]).map letter by simp, ← ltr_cells, List.map_append, ← List.append_assoc]
          assumption
        · have hand := and_63i ((bn : Int) * 4 % 4294967296) (by omega) (by omega)
          generalize val ((bits16 us).drop (6 * j) ++ List.replicate 2 false) = p at hL hlast hp65
          have hidx := alpha_get p hp65
          have hlast2 : bn * 4 % 4294967296 % 64 = p := hlast
          rw [show (bn : Int) * 4 % 4294967296 % 64 = (p : Int) by omega] at hand
          have HL : Hid (lettersOf (bits16 us) = (pieces 6 (bits16 us) j).map letter ++ [letter p]) := hL
          clear hL hlast hlast2 hp64
          go_wp2_with (at_builtin; refine wpList_push rfl _ _ 35 rfl _ B 5 (.int .u8 0) 1 Tryd.underlying35 Tryd.info5 rfl _ _ _ (by rfl) hownr [ltr p] _ (by rfl) (by simp) (by simp [Value.oneCell', ltr]) (by simp) (by rfl) (by decide) (by simp; omega) (by have := hkept.size; omega) ?_; intro g1 cap1 w1 hown1 hg1 hlt1)
          go_ret
          refine ⟨_, rfl, ?_, hkept.grown hownr (by assumption) (Nat.le_refl _) (by have := hkept.size; omega)⟩
          rw [HL.out, List.length_append, List.length_map, pieces_length, show (pieces 6 (bits16 us) j).map letter ++ [letter p] = (pieces 6 (bits16 us) j ++ [p]).map letter by simp, ← ltr_cells, List.map_append, ← List.append_assoc]
          assumption
end Go.Proofs.YtiocmecalidlhaaDoor
