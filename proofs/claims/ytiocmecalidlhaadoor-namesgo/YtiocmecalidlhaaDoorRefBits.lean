/-
  What the document's answer to a number's bits is: its last bits, as letters 0 and 1.
-/
import Derived.Test.YtiocmecalidlhaaDoorNamed
import Derived.Test.YtiocmecalidlhaaDoorBits
import Derived.Lib.SmallJoins
namespace Go.Proofs.Ut
theorem bitsOf_left (k u : Nat) : bitsOf (k + 1) u = (u / 2 ^ k % 2 == 1) :: bitsOf k u := by
  induction k generalizing u with
  | zero => simp [bitsOf]
  | succ k ih =>
    rw [bitsOf, ih (u / 2), bitsOf, List.cons_append, Nat.div_div_eq_div_mul, show 2 * 2 ^ k = 2 ^ (k + 1) by rw [Nat.pow_succ, Nat.mul_comm]]
def bitB (b : Bool) : UInt8 := if b then 49 else 48
/-- Bits as letters. -/
def bitStr (l : List Bool) : List UInt8 := l.map bitB
theorem bitStr_append (a b : List Bool) : bitStr (a ++ b) = bitStr a ++ bitStr b := by simp [bitStr]
theorem bitStr_length (l : List Bool) : (bitStr l).length = l.length := by simp [bitStr]
end Go.Proofs.Ut
namespace Go.Proofs.YtiocmecalidlhaaDoor
open Go.RowKit Go.Proofs.Aid Go.Proofs.Ut

theorem conv_one (c : UInt8) (w : World) : (convert 35 9 (.slice (some ⟨w.heap.size, 0, none⟩) 1 1)).run Tryd.prog (w.alloc (.cells #[.int .u8 (c.toNat : Int)] 5)) = .ok (.string ⟨#[c]⟩) (w.alloc (.cells #[.int .u8 (c.toNat : Int)] 5)) :=
  run_convert_bytes_back _ 35 9 5 ⟨w.heap.size, 0, none⟩ 1 [c] Tryd.underlying35 Tryd.underlying5 Tryd.underlying9 (fun j hj => by
    obtain rfl : j = 0 := by simpa using hj
    simp [Addr.add])

theorem conv_48 (w : World) : (convert 35 9 (.slice (some ⟨w.heap.size, 0, none⟩) 1 1)).run Tryd.prog (w.alloc (.cells #[.int .u8 48] 5)) = .ok (.string ⟨#[48]⟩) (w.alloc (.cells #[.int .u8 48] 5)) := conv_one 48 w
theorem conv_49 (w : World) : (convert 35 9 (.slice (some ⟨w.heap.size, 0, none⟩) 1 1)).run Tryd.prog (w.alloc (.cells #[.int .u8 49] 5)) = .ok (.string ⟨#[49]⟩) (w.alloc (.cells #[.int .u8 49] 5)) := conv_one 49 w
theorem front_list (c : UInt8) (t : ByteArray) : ((⟨#[c]⟩ : ByteArray) ++ t).data.toList = c :: t.data.toList := by
  rw [Joins.data_append]; rfl
theorem front_size (c : UInt8) (t : ByteArray) : ((⟨#[c]⟩ : ByteArray) ++ t).size = t.size + 1 := by
  rw [Lib.size_eq, front_list, List.length_cons, ← Lib.size_eq]

set_option maxHeartbeats 1000000 in
set_option maxRecDepth 100000 in
theorem bits_any (u n : Nat) (w : World) (hu : u < 4294967296) (hn : n ≤ 16) :
    Calls Tryd.prog 15 #[.int .i64 (u : Int), .int .i64 (n : Int)] w fun e w' => e = .returned (.string ⟨(bitStr (bitsOf n u)).toArray⟩) ∧ Below w.heap.size w w' := by
  go_enter Tryd.func15, Tryd.ntmps15
  go_wp2
  go_loopw [0, 5, 7] (fun uv sv i wr => ∃ (k v : Nat) (t : ByteArray), k ≤ n ∧ i = .int .i64 (k : Int) ∧ uv = .int .i64 (v : Int) ∧ v = u / 2 ^ k ∧ sv = .string t ∧ t.data.toList = bitStr (bitsOf k u) ∧ t.size = k ∧ Below w.heap.size w wr) (fun _ _ i _ => n - (intOf i).toNat)
  case atStart => exact ⟨0, u, ⟨#[]⟩, by omega, rfl, rfl, by simp, rfl, rfl, rfl, Below.refl _ _⟩
  case round =>
    obtain ⟨k, v, t, hk, rfl, rfl, hv, rfl, ht, hts, hbw⟩ := hrel
    by_cases hlt : k < n
    · have hvu : v ≤ u := by rw [hv]; exact Nat.div_le_self _ _
      have hnext : v / 2 = u / 2 ^ (k + 1) := by rw [hv, Nat.div_div_eq_div_mul, Nat.pow_succ]
      have hbl := bitsOf_left k u
      rw [← hv] at hbl
      have HN : Hid (v / 2 = u / 2 ^ (k + 1)) := hnext
      have HB : Hid (bitsOf (k + 1) u = (v % 2 == 1) :: bitsOf k u) := hbl
      have HT : Hid (t.data.toList = bitStr (bitsOf k u)) := ht
      have hts2 : t.size ≤ 16 := by omega
      have HTS : Hid (t.size = k) := hts
      clear hv hnext hbl ht hts
      rcases (show v % 2 = 0 ∨ v % 2 = 1 by omega) with hm | hm
      · have hmI : (v : Int) % 2 = 0 := by omega
        have hcv := conv_48 wr
        have HM : Hid (v % 2 = 0) := hm
        clear hm
        go_wp2
        go_roundw
        case rel =>
          refine ⟨k + 1, v / 2, (⟨#[48]⟩ : ByteArray) ++ t, by omega, by go_num, by go_num, HN.out, rfl, ?_, by rw [front_size, HTS.out], hbw.alloc hbw.size _⟩
          rw [front_list, HB.out, HM.out, HT.out]
          rfl
        case measure => simp [intOf]; omega
      · have hmI : (v : Int) % 2 = 1 := by omega
        have hcv := conv_49 wr
        have HM : Hid (v % 2 = 1) := hm
        clear hm
        go_wp2
        go_roundw
        case rel =>
          refine ⟨k + 1, v / 2, (⟨#[49]⟩ : ByteArray) ++ t, by omega, by go_num, by go_num, HN.out, rfl, ?_, by rw [front_size, HTS.out], hbw.alloc hbw.size _⟩
          rw [front_list, HB.out, HM.out, HT.out]
          rfl
        case measure => simp [intOf]; omega
    · obtain rfl : k = n := by omega
      have HT : Hid (t.data.toList = bitStr (bitsOf k u)) := ht
      clear hv hts ht
      go_wp2
      go_ret
      refine ⟨?_, hbw⟩
      have : t = ⟨(bitStr (bitsOf k u)).toArray⟩ := by rw [← HT.out]
      rw [← this]
      rfl
end Go.Proofs.YtiocmecalidlhaaDoor
