/-
  What the functions of package flags do that put flags in order: rank, , and more.
-/
import Derived.Test.YtdmplfflmdanlaaGreatDoorMFlagsLetters
import Derived.Test.YtdmplfflmdanlaaGreatDoorBpWShelf
import Derived.Lib.Small
import Derived.Shelf.SlLaysF
import Derived.Shelf.SlLaysF0
import Derived.Shelf.SlSortCmp.NoneTotal
import Derived.Shelf.Small.Wraps
namespace Go.Proofs.YtdmplfflmdanlaaGreatDoor
open Go.RowKit Go.Proofs.Aid Go.Proofs.Fl

/-- The text is none of the first k. -/
def other (s : Tx) (k : Nat) : Prop := ∀ j, j < k → s ≠ five.getD j []
theorem other_succ {s : Tx} {k : Nat} (h : other s k) (he : s ≠ five.getD k []) : other s (k + 1) := fun j hj => by
  rcases Nat.lt_or_eq_of_le (Nat.le_of_lt_succ hj) with h1 | rfl
  · exact h j h1
  · exact he
theorem rank_hit {s : Tx} {k : Nat} (hk : k < 5) (h : other s k) (he : s = five.getD k []) : rank s = k := by
  have h0 := h 0; have h1 := h 1; have h2 := h 2; have h3 := h 3
  subst he
  have : k = 0 ∨ k = 1 ∨ k = 2 ∨ k = 3 ∨ k = 4 := by omega
  rcases this with rfl | rfl | rfl | rfl | rfl <;> decide
theorem rank_miss {s : Tx} (h : other s 5) : rank s = 5 := by
  have : s ∉ five := by
    intro hm
    obtain ⟨j, hj, rfl⟩ := List.getElem_of_mem hm
    exact h j hj (by rw [List.getD_eq_getElem?_getD, List.getElem?_eq_getElem hj]; rfl)
  unfold rank
  rw [List.idxOf_eq_length this]
  rfl
set_option maxHeartbeats 1000000 in
set_option maxRecDepth 100000 in
theorem rank_any (s : ByteArray) (w : World) (hg : SysAt w) : Calls Tryz.prog 270 #[.string s] w fun e w' => e = .returned (.int .i64 (rank s.data.toList : Nat)) ∧ w' = w := by
  have c0 := hg 0 (by omega)
  have c1 := hg 1 (by omega)
  have c2 := hg 2 (by omega)
  have c3 := hg 3 (by omega)
  have c4 := hg 4 (by omega)
  clear hg
  have i0 := Tryz.ix0
  have i1 := Tryz.ix1
  have i2 := Tryz.ix2
  have i3 := Tryz.ix3
  have i4 := Tryz.ix4
  obtain ⟨R, hR⟩ : ∃ R, rank s.data.toList = R := ⟨_, rfl⟩
  rw [hR]
  have HR : Hid (rank s.data.toList = R) := hR
  clear hR
  go_enter Tryz.func270, Tryz.ntmps270
  go_wp2
  go_loop [6] (fun i => ∃ k : Nat, i = .int .i64 (k : Int) ∧ k ≤ 5 ∧ other s.data.toList k) (fun i => 5 - (intOf i).toNat)
  case atStart => exact ⟨0, rfl, by omega, fun j hj => absurd hj (by omega)⟩
  case round =>
    obtain ⟨k, rfl, hk, hno⟩ := hrel
    have HN : Hid (other s.data.toList k) := hno
    clear hno
    by_cases hlt : k < 5
    · obtain ⟨B, hB⟩ : ∃ B, (s.toList == (sysB k).toList) = B := ⟨_, rfl⟩
      have HB : Hid (B = decide (s.data.toList = five.getD k [])) := by
        show B = _
        rw [← hB, Lib.toList_data, Lib.toList_data, sysB_data, Bool.eq_iff_iff]; simp
      have hk5 : k = 0 ∨ k = 1 ∨ k = 2 ∨ k = 3 ∨ k = 4 := by omega
      cases B
      · have HO := HB.out
        rcases hk5 with rfl | rfl | rfl | rfl | rfl
        all_goals
          clear HO
          go_wp2
          go_round
          case rel => first | exact ⟨1, rfl, by omega, other_succ HN.out (of_decide_eq_false HB.out.symm)⟩ | exact ⟨2, rfl, by omega, other_succ HN.out (of_decide_eq_false HB.out.symm)⟩ | exact ⟨3, rfl, by omega, other_succ HN.out (of_decide_eq_false HB.out.symm)⟩ | exact ⟨4, rfl, by omega, other_succ HN.out (of_decide_eq_false HB.out.symm)⟩ | exact ⟨5, rfl, by omega, other_succ HN.out (of_decide_eq_false HB.out.symm)⟩
          case measure => simp [intOf]
      · rcases hk5 with rfl | rfl | rfl | rfl | rfl
        all_goals
          go_wp2
          go_ret
          exact ⟨by rw [← HR.out, rank_hit hlt HN.out (of_decide_eq_true HB.out.symm)]; rfl, rfl⟩
    · have hk5 : k = 5 := by omega
      subst hk5
      go_wp2
      go_ret
      exact ⟨by rw [← HR.out, rank_miss HN.out]; rfl, rfl⟩
theorem nan_any (s : ByteArray) (w : World) : Calls Tryz.prog 194 #[.string s] w fun e w' => e = .returned (.bool false) ∧ w' = w := by
  go_enter Tryz.func194, Tryz.ntmps194
  go_wp2
  go_ret
  exact ⟨by simp, rfl⟩
/-- Which of two texts stands first. -/
def txc (a b : Tx) : Int := if a < b then -1 else if b < a then 1 else 0
theorem cmpS_any (a b : ByteArray) (w : World) : Calls Tryz.prog 271 #[.string a, .string b] w fun e w' => e = .returned (.int .i64 (txc a.data.toList b.data.toList)) ∧ w' = w := by
  have n1 := nan_any a
  have n2 := nan_any b
  have e1 : Op.bytesLess a.toList b.toList = decide (a.data.toList < b.data.toList) := by rw [bytesLess_eq, Lib.toList_data, Lib.toList_data]
  have e2 : (a.toList == b.toList) = decide (a.data.toList = b.data.toList) := by rw [Lib.toList_data, Lib.toList_data, Bool.eq_iff_iff]; simp
  by_cases h1 : a.data.toList < b.data.toList
  · rw [decide_eq_true h1] at e1
    have HF : Hid (txc a.data.toList b.data.toList = -1) := by show txc _ _ = _; unfold txc; rw [if_pos h1]
    rw [HF.out]
    clear h1 e2
    go_enter Tryz.func271, Tryz.ntmps271
    go_wp2_with (first | (go_at_call 194; refine (nan_any _ _).mono ?_; rintro e w' ⟨rfl, rfl⟩))
    go_ret
    exact ⟨rfl, rfl⟩
  · rw [decide_eq_false h1] at e1
    by_cases h2 : a.data.toList = b.data.toList
    · rw [decide_eq_true h2] at e2
      have HF : Hid (txc a.data.toList b.data.toList = 0) := by show txc _ _ = _; unfold txc; rw [h2, if_neg (tx_irrefl _), if_neg (tx_irrefl _)]
      rw [HF.out]
      clear h1 h2
      go_enter Tryz.func271, Tryz.ntmps271
      go_wp2_with (first | (go_at_call 194; refine (nan_any _ _).mono ?_; rintro e w' ⟨rfl, rfl⟩))
      go_ret
      exact ⟨rfl, rfl⟩
    · rw [decide_eq_false h2] at e2
      have h3 : b.data.toList < a.data.toList := by
        by_cases h3 : b.data.toList < a.data.toList
        · exact h3
        · exact absurd (tx_total h1 h3) h2
      have HF : Hid (txc a.data.toList b.data.toList = 1) := by show txc _ _ = _; unfold txc; rw [if_neg h1, if_pos h3]
      rw [HF.out]
      clear h1 h2 h3
      go_enter Tryz.func271, Tryz.ntmps271
      go_wp2_with (first | (go_at_call 194; refine (nan_any _ _).mono ?_; rintro e w' ⟨rfl, rfl⟩))
      go_ret
      exact ⟨rfl, rfl⟩

theorem cf_eq (a b : Tx) : cf a b = if Lib.compareInt (rank a : Nat) (rank b : Nat) ≠ 0 then Lib.compareInt (rank a : Nat) (rank b : Nat) else txc a b := by
  unfold cf Lib.compareInt txc
  by_cases h1 : rank a < rank b
  · have : ((rank a : Nat) : Int) < (rank b : Nat) := by omega
    simp [h1]
  · by_cases h2 : rank b < rank a
    · have e1 : ¬ ((rank a : Nat) : Int) < (rank b : Nat) := by omega
      have e2 : ((rank b : Nat) : Int) < (rank a : Nat) := by omega
      simp [h1, h2]
    · have e1 : ¬ ((rank a : Nat) : Int) < (rank b : Nat) := by omega
      have e2 : ¬ ((rank b : Nat) : Int) < (rank a : Nat) := by omega
      simp [h1, h2]
set_option maxHeartbeats 1000000 in
set_option maxRecDepth 100000 in
theorem compare_any (a b : ByteArray) (w : World) (hg : SysAt w)
    (cI : ∀ x y W, Calls Tryz.prog 120 #[.int .i64 x, .int .i64 y] W fun e w' => e = .returned (.int .i64 (Lib.compareInt x y)) ∧ w' = W) :
    Calls Tryz.prog 227 #[.string a, .string b] w fun e w' => e = .returned (.int .i64 (cf a.data.toList b.data.toList)) ∧ w' = w := by
  have cA := rank_any a w hg
  have cB := rank_any b w hg
  have cS := cmpS_any a b w
  have hcf := cf_eq a.data.toList b.data.toList
  have cC := cI (rank a.data.toList : Nat) (rank b.data.toList : Nat) w
  obtain ⟨x, hx⟩ : ∃ x, rank a.data.toList = x := ⟨_, rfl⟩
  obtain ⟨y, hy⟩ : ∃ y, rank b.data.toList = y := ⟨_, rfl⟩
  rw [hx] at cA cC hcf
  rw [hy] at cB cC hcf
  obtain ⟨z, hz⟩ : ∃ z, Lib.compareInt (x : Nat) (y : Nat) = z := ⟨_, rfl⟩
  rw [hz] at cC hcf
  obtain ⟨u, hu⟩ : ∃ u, txc a.data.toList b.data.toList = u := ⟨_, rfl⟩
  rw [hu] at cS hcf
  rw [hcf]
  clear hx hy hz hu hcf cI hg
  by_cases h0 : z = 0
  · subst h0
    rw [if_neg (by simp)]
    go_enter Tryz.func227, Tryz.ntmps227
    go_wp2_with fail
    refine cA.mono ?_
    rintro e w' ⟨rfl, rfl⟩
    go_wp2_with fail
    refine cB.mono ?_
    rintro e w' ⟨rfl, rfl⟩
    go_wp2_with fail
    refine cC.mono ?_
    rintro e w' ⟨rfl, rfl⟩
    go_wp2_with fail
    refine cS.mono ?_
    rintro e w' ⟨rfl, rfl⟩
    go_wp2_with fail
    go_ret
    exact ⟨rfl, rfl⟩
  · rw [if_pos h0]
    have hne : (z == 0) = false := by simpa using h0
    go_enter Tryz.func227, Tryz.ntmps227
    go_wp2_with fail
    refine cA.mono ?_
    rintro e w' ⟨rfl, rfl⟩
    go_wp2_with fail
    refine cB.mono ?_
    rintro e w' ⟨rfl, rfl⟩
    go_wp2_with fail
    refine cC.mono ?_
    rintro e w' ⟨rfl, rfl⟩
    go_wp2_with fail
    go_ret
    exact ⟨rfl, rfl⟩
end Go.Proofs.YtdmplfflmdanlaaGreatDoor
namespace Go.Proofs
open Go.Shelf
def Tryz.lays122_ren : Go.Shelf.Ren := ⟨fun | 122 => 120 | 215 => 175 | n => n, fun | 3 => 3 | 4 => 4 | n => n, fun | n => n⟩
theorem Tryz.lays122 : Go.Proofs.Lays.n122 Tryz.prog Tryz.lays122_ren := {
  mixed := by kernel_rfl
  f122 := Tryz.func120.trans (congrArg some (by kernel_rfl))
  f215 := Tryz.func175.trans (congrArg some (by kernel_rfl))
  t3 := Tryz.underlying3
  a3 := Tryz.isAgg3
  z3 := Tryz.sizeOf3
  v3 := Tryz.zeroValue3
  t4 := Tryz.underlying4
  a4 := Tryz.isAgg4
  z4 := Tryz.sizeOf4
  v4 := Tryz.zeroValue4 }
open Go.RowKit in
theorem Tryz.cmp_Compare_int (x y : Int) (w : World) :
    Calls Tryz.prog 120 #[.int .i64 x, .int .i64 y] w fun e w' => e = .returned (.int .i64 (Lib.compareInt x y)) ∧ w' = w := Any.cmp_Compare_int Tryz.lays122 x y w
open Go.RowKit Go.Lib Go.Sort in
theorem Tryz.slices_Compact_string (blk off cap : Nat) (zs : List (List UInt8)) (w : World) (hH : Holds encStr w blk off zs.toArray) (hsz : zs.length ≤ 9223372036854775807) (hcap : zs.length ≤ cap) :
    Calls Tryz.prog 228 #[.slice (some ⟨blk, off, none⟩) zs.length cap] w fun e w' => e = .returned (.slice (some ⟨blk, off, none⟩) (Lib.compact zs).length cap) ∧ ∃ q, w' = putRow encStr (Sort.ahead w q) blk off (Lib.compact zs ++ List.replicate (zs.length - (Lib.compact zs).length) []).toArray := Any.slices_Compact_string Tryz.lays194 blk off cap zs w hH hsz hcap
def Tryz.laysSlF6_f226_ren : Go.Shelf.Ren := ⟨fun | 6 => 226 | 15 => 174 | 14 => 269 | 28 => 218 | 29 => 219 | 20 => 289 | 21 => 290 | 22 => 291 | 23 => 292 | 24 => 293 | 25 => 294 | 26 => 295 | 27 => 296 | 46 => 302 | 47 => 254 | 48 => 255 | 49 => 303 | 50 => 304 | 57 => 305 | n => n, fun | 22 => 22 | 24 => 9 | 25 => 147 | 3 => 3 | 39 => 193 | 0 => 0 | 53 => 220 | 55 => 243 | 4 => 4 | 46 => 236 | 45 => 235 | 50 => 144 | 5 => 5 | 9 => 9 | 66 => 275 | 70 => 279 | 76 => 306 | 77 => 307 | n => n, fun | n => n⟩
theorem Tryz.laysSlF6_f226 : Go.Proofs.SlLaysF.n6 Tryz.prog Tryz.laysSlF6_f226_ren := {
  mixed := by kernel_rfl
  f6 := ⟨Tryz.f226.name, by decide, Tryz.func226.trans (congrArg some (by kernel_rfl))⟩
  f14 := ⟨Tryz.f269.name, by decide, Tryz.func269.trans (congrArg some (by kernel_rfl))⟩
  f15 := Tryz.func174.trans (congrArg some (by kernel_rfl))
  f20 := ⟨Tryz.f289.name, by decide, Tryz.func289.trans (congrArg some (by kernel_rfl))⟩
  f21 := ⟨Tryz.f290.name, by decide, Tryz.func290.trans (congrArg some (by kernel_rfl))⟩
  f22 := ⟨Tryz.f291.name, by decide, Tryz.func291.trans (congrArg some (by kernel_rfl))⟩
  f23 := ⟨Tryz.f292.name, by decide, Tryz.func292.trans (congrArg some (by kernel_rfl))⟩
  f24 := ⟨Tryz.f293.name, by decide, Tryz.func293.trans (congrArg some (by kernel_rfl))⟩
  f25 := ⟨Tryz.f294.name, by decide, Tryz.func294.trans (congrArg some (by kernel_rfl))⟩
  f26 := ⟨Tryz.f295.name, by decide, Tryz.func295.trans (congrArg some (by kernel_rfl))⟩
  f27 := ⟨Tryz.f296.name, by decide, Tryz.func296.trans (congrArg some (by kernel_rfl))⟩
  f28 := Tryz.func218.trans (congrArg some (by kernel_rfl))
  f29 := Tryz.func219.trans (congrArg some (by kernel_rfl))
  f46 := ⟨Tryz.f302.name, by decide, Tryz.func302.trans (congrArg some (by kernel_rfl))⟩
  f47 := Tryz.func254.trans (congrArg some (by kernel_rfl))
  f48 := Tryz.func255.trans (congrArg some (by kernel_rfl))
  f49 := ⟨Tryz.f303.name, by decide, Tryz.func303.trans (congrArg some (by kernel_rfl))⟩
  f50 := ⟨Tryz.f304.name, by decide, Tryz.func304.trans (congrArg some (by kernel_rfl))⟩
  f57 := ⟨Tryz.f305.name, by decide, Tryz.func305.trans (congrArg some (by kernel_rfl))⟩
  t0 := Tryz.underlying0
  a0 := Tryz.isAgg0
  z0 := Tryz.sizeOf0
  v0 := Tryz.zeroValue0
  t3 := Tryz.underlying3
  a3 := Tryz.isAgg3
  z3 := Tryz.sizeOf3
  v3 := Tryz.zeroValue3
  t4 := Tryz.underlying4
  a4 := Tryz.isAgg4
  z4 := Tryz.sizeOf4
  v4 := Tryz.zeroValue4
  t5 := Tryz.underlying5
  a5 := Tryz.isAgg5
  z5 := Tryz.sizeOf5
  v5 := Tryz.zeroValue5
  t9 := Tryz.underlying9
  a9 := Tryz.isAgg9
  z9 := Tryz.sizeOf9
  v9 := Tryz.zeroValue9
  t22 := Tryz.underlying22
  a22 := Tryz.isAgg22
  z22 := Tryz.sizeOf22
  v22 := Tryz.zeroValue22
  a24 := Tryz.isAgg9
  z24 := Tryz.sizeOf9
  t25 := Tryz.underlying147
  a25 := Tryz.isAgg147
  z25 := Tryz.sizeOf147
  v25 := Tryz.zeroValue147
  t39 := Tryz.underlying193
  a39 := Tryz.isAgg193
  z39 := Tryz.sizeOf193
  v39 := Tryz.zeroValue193
  t45 := Tryz.underlying235
  a45 := Tryz.isAgg235
  z45 := Tryz.sizeOf235
  v45 := Tryz.zeroValue235
  t46 := Tryz.underlying236
  a46 := Tryz.isAgg236
  z46 := Tryz.sizeOf236
  v46 := Tryz.zeroValue236
  t50 := Tryz.underlying144
  a50 := Tryz.isAgg144
  z50 := Tryz.sizeOf144
  v50 := Tryz.zeroValue144
  t53 := Tryz.underlying220
  a53 := Tryz.isAgg220
  z53 := Tryz.sizeOf220
  v53 := Tryz.zeroValue220
  t55 := Tryz.underlying243
  a55 := Tryz.isAgg243
  z55 := Tryz.sizeOf243
  v55 := Tryz.zeroValue243
  t66 := Tryz.underlying275
  a66 := Tryz.isAgg275
  z66 := Tryz.sizeOf275
  v66 := Tryz.zeroValue275
  t70 := Tryz.underlying279
  a70 := Tryz.isAgg279
  z70 := Tryz.sizeOf279
  v70 := Tryz.zeroValue279
  t76 := Tryz.underlying306
  a76 := Tryz.isAgg306
  z76 := Tryz.sizeOf306
  v76 := Tryz.zeroValue306
  t77 := Tryz.underlying307
  a77 := Tryz.isAgg307
  z77 := Tryz.sizeOf307
  v77 := Tryz.zeroValue307 }
def Tryz.laysSlF06_f226_ren : Go.Shelf.Ren := ⟨fun | 6 => 226 | 15 => 174 | 14 => 269 | 28 => 218 | 29 => 219 | 20 => 289 | 21 => 290 | 22 => 291 | 23 => 292 | 24 => 293 | 25 => 294 | 26 => 295 | 27 => 296 | 46 => 302 | 47 => 254 | 48 => 255 | 49 => 303 | 50 => 304 | 57 => 305 | n => n, fun | 22 => 22 | 24 => 9 | 25 => 147 | 3 => 3 | 39 => 193 | 0 => 0 | 53 => 220 | 55 => 243 | 4 => 4 | 46 => 236 | 45 => 235 | 50 => 144 | 5 => 5 | 9 => 9 | 66 => 275 | 70 => 279 | 76 => 306 | 77 => 307 | n => n, fun | n => n⟩
theorem Tryz.laysSlF06_f226 : Go.Proofs.SlLaysF0.n6 Tryz.prog Tryz.laysSlF06_f226_ren := {
  mixed := by kernel_rfl
  f6 := ⟨Tryz.f226.name, by decide, Tryz.func226.trans (congrArg some (by kernel_rfl))⟩
  f14 := ⟨Tryz.f269.name, by decide, Tryz.func269.trans (congrArg some (by kernel_rfl))⟩
  f15 := Tryz.func174.trans (congrArg some (by kernel_rfl))
  f20 := ⟨Tryz.f289.name, by decide, Tryz.func289.trans (congrArg some (by kernel_rfl))⟩
  f21 := ⟨Tryz.f290.name, by decide, Tryz.func290.trans (congrArg some (by kernel_rfl))⟩
  f22 := ⟨Tryz.f291.name, by decide, Tryz.func291.trans (congrArg some (by kernel_rfl))⟩
  f23 := ⟨Tryz.f292.name, by decide, Tryz.func292.trans (congrArg some (by kernel_rfl))⟩
  f24 := ⟨Tryz.f293.name, by decide, Tryz.func293.trans (congrArg some (by kernel_rfl))⟩
  f25 := ⟨Tryz.f294.name, by decide, Tryz.func294.trans (congrArg some (by kernel_rfl))⟩
  f26 := ⟨Tryz.f295.name, by decide, Tryz.func295.trans (congrArg some (by kernel_rfl))⟩
  f27 := ⟨Tryz.f296.name, by decide, Tryz.func296.trans (congrArg some (by kernel_rfl))⟩
  f28 := Tryz.func218.trans (congrArg some (by kernel_rfl))
  f29 := Tryz.func219.trans (congrArg some (by kernel_rfl))
  f46 := ⟨Tryz.f302.name, by decide, Tryz.func302.trans (congrArg some (by kernel_rfl))⟩
  f47 := Tryz.func254.trans (congrArg some (by kernel_rfl))
  f48 := Tryz.func255.trans (congrArg some (by kernel_rfl))
  f49 := ⟨Tryz.f303.name, by decide, Tryz.func303.trans (congrArg some (by kernel_rfl))⟩
  f50 := ⟨Tryz.f304.name, by decide, Tryz.func304.trans (congrArg some (by kernel_rfl))⟩
  f57 := ⟨Tryz.f305.name, by decide, Tryz.func305.trans (congrArg some (by kernel_rfl))⟩
  t0 := Tryz.underlying0
  a0 := Tryz.isAgg0
  z0 := Tryz.sizeOf0
  v0 := Tryz.zeroValue0
  t3 := Tryz.underlying3
  a3 := Tryz.isAgg3
  z3 := Tryz.sizeOf3
  v3 := Tryz.zeroValue3
  t4 := Tryz.underlying4
  a4 := Tryz.isAgg4
  z4 := Tryz.sizeOf4
  v4 := Tryz.zeroValue4
  t5 := Tryz.underlying5
  a5 := Tryz.isAgg5
  z5 := Tryz.sizeOf5
  v5 := Tryz.zeroValue5
  t9 := Tryz.underlying9
  a9 := Tryz.isAgg9
  z9 := Tryz.sizeOf9
  v9 := Tryz.zeroValue9
  t22 := Tryz.underlying22
  a22 := Tryz.isAgg22
  z22 := Tryz.sizeOf22
  v22 := Tryz.zeroValue22
  t25 := Tryz.underlying147
  a25 := Tryz.isAgg147
  z25 := Tryz.sizeOf147
  v25 := Tryz.zeroValue147
  t39 := Tryz.underlying193
  a39 := Tryz.isAgg193
  z39 := Tryz.sizeOf193
  v39 := Tryz.zeroValue193
  t45 := Tryz.underlying235
  a45 := Tryz.isAgg235
  z45 := Tryz.sizeOf235
  v45 := Tryz.zeroValue235
  t46 := Tryz.underlying236
  a46 := Tryz.isAgg236
  z46 := Tryz.sizeOf236
  v46 := Tryz.zeroValue236
  t50 := Tryz.underlying144
  a50 := Tryz.isAgg144
  z50 := Tryz.sizeOf144
  v50 := Tryz.zeroValue144
  t53 := Tryz.underlying220
  a53 := Tryz.isAgg220
  z53 := Tryz.sizeOf220
  v53 := Tryz.zeroValue220
  t55 := Tryz.underlying243
  a55 := Tryz.isAgg243
  z55 := Tryz.sizeOf243
  v55 := Tryz.zeroValue243
  t66 := Tryz.underlying275
  a66 := Tryz.isAgg275
  z66 := Tryz.sizeOf275
  v66 := Tryz.zeroValue275
  t70 := Tryz.underlying279
  a70 := Tryz.isAgg279
  z70 := Tryz.sizeOf279
  v70 := Tryz.zeroValue279
  t76 := Tryz.underlying306
  a76 := Tryz.isAgg306
  z76 := Tryz.sizeOf306
  v76 := Tryz.zeroValue306
  t77 := Tryz.underlying307
  a77 := Tryz.isAgg307
  z77 := Tryz.sizeOf307
  v77 := Tryz.zeroValue307 }
open Go.RowKit Go.Lib Go.Sort in
theorem Tryz.slices_SortFunc_none {α : Type} [Inhabited α] (p : Option Addr) (cap : Nat) (fv : Value) (w : World) :
    Calls Tryz.prog 226 #[.slice p 0 cap, fv] w fun e w' => e = .returned (.tuple #[]) ∧ w' = w := AnyF.slices_SortFunc_none Tryz.laysSlF06_f226 p cap fv w
open Go.RowKit Go.Lib Go.Sort in
theorem Tryz.slices_SortFunc_total {α : Type} [Inhabited α] (enc : α → Value) (h1 : OneCell enc) (cf : α → α → Int) (hO : SWO (ltOf cf)) (g : Nat) (cb : Array Value) (blk off cap : Nat) (d : Array α) (w : World) (eg : ∀ args w, (callFunc g args).run Tryz.prog w = .ok (.enter g args) w) (hcmp : CmpLays1 Tryz.prog g cb enc cf blk off d.size w) (hH : Holds enc w blk off d) (hblk : blk < w.heap.size) (hsz : d.size < 4611686018427387904) (hT : ∀ x y, (ltOf cf) x y = false → (ltOf cf) y x = false → x = y) :
    Calls Tryz.prog 226 #[.slice (some ⟨blk, off, none⟩) d.size cap, .func (.func g) #[] cb] w fun e w' =>
      e = .returned (.tuple #[]) ∧ ∃ n os, w' = sortWorld enc w blk off n (d.toList.mergeSort fun x y => !(ltOf cf) y x).toArray os := Any.slices_SortFunc_total Tryz.laysSlF6_f226 enc h1 cf hO g cb blk off cap d w eg hcmp hH hblk hsz hT
end Go.Proofs
