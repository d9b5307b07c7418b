/-
  What utf7.appendUnits does: it adds a rune's units to the row.
-/
import Derived.Test.YtiocmecalidlhaaDoorRows
import Derived.Test.YtiocmecalidlhaaDoorAid
import Derived.Laws.BitsLemmas
namespace Go.Proofs.YtiocmecalidlhaaDoor
open Go.RowKit Go.Proofs.Aid

theorem Tryd.info48 : (Tryd.prog.info? 48).map (fun i => (i.zero, i.size, i.bytes)) = some (some (.int .u16 0), 1, 2) := by kernel_rfl
theorem Tryd.info5 : (Tryd.prog.info? 5).map (fun i => (i.zero, i.size, i.bytes)) = some (some (.int .u8 0), 1, 1) := by kernel_rfl

theorem i32_and1023 (n : Int) (h0 : 0 ≤ n) (h1 : n < 2147483648) : bits .and .i32 n 1023 = n % 1024 := by
  have hc : (BitVec.ofInt 32 1023).toNat = 2 ^ 10 - 1 := by decide
  have key : (BitVec.ofInt 32 n &&& BitVec.ofInt 32 1023).toNat = (n % ((2 ^ 32 : Nat) : Int)).toNat % 2 ^ 10 := by
    rw [BitVec.toNat_and, BitVec.toNat_ofInt, hc, Nat.and_two_pow_sub_one_eq_mod]
  show IntKind.i32.wrap ((BitVec.ofInt 32 n &&& BitVec.ofInt 32 1023).toNat : Nat) = n % 1024
  rw [key]
  simp [IntKind.wrap, IntKind.bits, IntKind.signed]
  omega

set_option maxHeartbeats 400000 in
set_option maxRecDepth 100000 in
theorem appendUnits_lo (B : Nat) (v : Value) (n : Nat) (xs : List Value) (r : Int) (w : World) (hown : w.ownsRow B 48 1 v n xs) (hB : B ≤ w.heap.size) (hn : n ≤ 1000) (h0 : 0 ≤ r) (h1 : r ≤ 65535) :
    Calls Tryd.prog 18 #[v, .int .i32 r] w fun e w' => ∃ v', e = .returned v' ∧ w'.ownsRow B 48 1 v' (n + 1) (xs ++ [.int .u16 r]) ∧ Kept 48 B w w' := by
  go_enter Tryd.func18, Tryd.ntmps18
  go_wp2_with (at_builtin; refine wpList_push rfl _ _ 36 rfl w B 48 (.int .u16 0) 2 Tryd.underlying36 Tryd.info48 rfl v n xs (by rfl) hown [.int .u16 r] _ (by rfl) (by simp) (by simp [Value.oneCell']) (by simp) (by rfl) (by decide) (by simp; omega) hB ?_; intro g cap w1 hown1 hg1 hlt1)
  go_ret
  exact ⟨_, rfl, by assumption, (Kept.refl _ _ _).grown hown (by assumption) (Nat.le_refl _) hB⟩

set_option maxHeartbeats 400000 in
set_option maxRecDepth 100000 in
theorem appendUnits_hi (B : Nat) (v : Value) (n : Nat) (xs : List Value) (r : Int) (w : World) (hown : w.ownsRow B 48 1 v n xs) (hB : B ≤ w.heap.size) (hn : n ≤ 1000) (h0 : 65536 ≤ r) (h1 : r ≤ 1114111) :
    Calls Tryd.prog 18 #[v, .int .i32 r] w fun e w' => ∃ v', e = .returned v' ∧ w'.ownsRow B 48 1 v' (n + 2) (xs ++ [.int .u16 (55296 + (r - 65536) / 1024), .int .u16 (56320 + (r - 65536) % 1024)]) ∧ Kept 48 B w w' := by
  have hand := i32_and1023 (r - 65536) (by omega) (by omega)
  go_enter Tryd.func18, Tryd.ntmps18
  go_wp2_with (at_builtin; refine wpList_push rfl _ _ 36 rfl w B 48 (.int .u16 0) 2 Tryd.underlying36 Tryd.info48 rfl v n xs (by rfl) hown [.int .u16 (55296 + (r - 65536) / 1024), .int .u16 (56320 + (r - 65536) % 1024)] _ (by rfl) (by simp) (by simp [Value.oneCell']) (by simp) (by rfl) (by decide) (by simp; omega) hB ?_; intro g cap w1 hown1 hg1 hlt1)
  go_ret
  exact ⟨_, rfl, by assumption, (Kept.refl _ _ _).grown hown (by assumption) (Nat.le_refl _) hB⟩
end Go.Proofs.YtiocmecalidlhaaDoor
