/-
  Which units letters are, and which runes units are: plain mathematics.
-/
import Derived.Test.YtiocmecalidlhaaDoorEncodeSpec
import Derived.Lib.Bytealg
namespace Go.Proofs.Ut

def idx (c : UInt8) : Int := Lib.indexByte alpha c
def bits6 (t : List UInt8) : List Bool := t.flatMap fun c => bitsOf 6 (idx c).toNat
def goodLetters (t : List UInt8) : Bool := t.all fun c => decide (0 ≤ idx c)
theorem idx_lt (c : UInt8) : -1 ≤ idx c ∧ idx c < 64 := by
  have : ∀ n : Fin 256, -1 ≤ idx (UInt8.ofNat n.val) ∧ idx (UInt8.ofNat n.val) < 64 := by decide +kernel
  have h := this ⟨c.toNat, c.toNat_lt⟩
  simpa using h
theorem bits6_length (t : List UInt8) : (bits6 t).length = 6 * t.length := by
  induction t with
  | nil => rfl
  | cons c r ih => simp only [bits6, List.flatMap_cons, List.length_append, length_bitsOf, List.length_cons] at ih ⊢; omega
theorem bits6_take (t : List UInt8) (k : Nat) (h : k < t.length) : bits6 (t.take (k + 1)) = bits6 (t.take k) ++ bitsOf 6 (idx t[k]).toNat := by
  rw [List.take_succ_eq_append_getElem h]
  simp only [bits6, List.flatMap_append, List.flatMap_cons, List.flatMap_nil, List.append_nil]
def unitsIn (t : List UInt8) : List Nat := pieces 16 (bits6 t) ((bits6 t).length / 16)
theorem unitsIn_of {t : List UInt8} {j b c : Nat} (h : Reg 16 (bits6 t) j b c) (hc : c < 16) : unitsIn t = pieces 16 (bits6 t) j := by
  have := h.len
  rw [unitsIn, show (bits6 t).length / 16 = j by omega]

def isUp (u : Nat) : Bool := decide (55296 ≤ u) && decide (u ≤ 56319)
def isLow (u : Nat) : Bool := decide (56320 ≤ u) && decide (u ≤ 57343)
def runesOf : List Nat → List Nat
  | [] => []
  | [u] => [u]
  | u :: v :: r => if isUp u && isLow v then (65536 + (u - 55296) * 1024 + (v - 56320)) :: runesOf r else u :: runesOf (v :: r)
def bytesOf (us : List Nat) : List UInt8 := (runesOf us).flatMap enc8

theorem runesOf_pair {u v : Nat} {r : List Nat} (h1 : isUp u = true) (h2 : isLow v = true) : runesOf (u :: v :: r) = (65536 + (u - 55296) * 1024 + (v - 56320)) :: runesOf r := by
  rw [runesOf, h1, h2]; rfl
theorem runesOf_alone {u : Nat} {r : List Nat} (h : isUp u = false ∨ r = [] ∨ ∃ v t, r = v :: t ∧ isLow v = false) : runesOf (u :: r) = u :: runesOf r := by
  rcases r with _ | ⟨v, t⟩
  · rfl
  · rw [runesOf]
    rcases h with h | h | ⟨v', t', h, h'⟩
    · rw [h]; rfl
    · cases h
    · cases h; rw [h', Bool.and_false]; rfl

end Go.Proofs.Ut
