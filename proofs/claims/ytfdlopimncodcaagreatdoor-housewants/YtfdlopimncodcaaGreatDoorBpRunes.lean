/-
  A text's runes, and the text out of its runes again, and more.
-/
import Derived.Lib.MapLaws
import Derived.Lib.ValidLaws
import Derived.Lib.QuoteLoop
import Derived.Lib.TrimUEq
import Derived.Shelf.Unicode.ValidAny
import Derived.Shelf.Strings.Split
import Derived.Test.YtfdlopimncodcaaGreatDoorProg
namespace Go.Proofs.Ut
open Go.Lib

def runesF : Nat → List UInt8 → List Nat
  | 0, _ => []
  | n + 1, l => if l = [] then [] else (decodeL l).1 :: runesF n (l.drop (decodeL l).2)
def runes (l : List UInt8) : List Nat := runesF l.length l
theorem runesF_fuel : ∀ (n m : Nat) (l : List UInt8), l.length ≤ n → l.length ≤ m → runesF n l = runesF m l
  | 0, m, l, hn, _ => by
    obtain rfl : l = [] := List.length_eq_zero_iff.1 (by omega)
    cases m <;> simp [runesF]
  | n + 1, 0, l, _, hm => by
    obtain rfl : l = [] := List.length_eq_zero_iff.1 (by omega)
    simp [runesF]
  | n + 1, m + 1, l, hn, hm => by
    by_cases h : l = []
    · simp [runesF, h]
    · have hw := decodeL_width l
      have hp : 0 < l.length := List.length_pos_iff.2 h
      simp only [runesF, h, if_false]
      rw [runesF_fuel n m _ (by rw [List.length_drop]; omega) (by rw [List.length_drop]; omega)]
theorem runes_nil : runes [] = [] := rfl
theorem runes_step (l : List UInt8) (h : l ≠ []) : runes l = (decodeL l).1 :: runes (l.drop (decodeL l).2) := by
  have hp : 0 < l.length := List.length_pos_iff.2 h
  have hw := decodeL_width l
  obtain ⟨n, hn⟩ : ∃ n, l.length = n + 1 := ⟨l.length - 1, by omega⟩
  rw [runes, hn]
  simp only [runesF, h, if_false]
  rw [runes, runesF_fuel n _ _ (by rw [List.length_drop]; omega) (Nat.le_refl _)]
/-- Runes that stand for themselves: no halves, none beyond the last one. -/
def Scalar (r : Nat) : Prop := r < 55296 ∨ (57343 < r ∧ r ≤ 1114111)
theorem decodeL_scalar (l : List UInt8) : Scalar (decodeL l).1 := by
  rw [decodeL_N]
  exact decodeN_valid _ _ _ _ _ (UInt8.toNat_lt _)
theorem runes_scalar (l : List UInt8) : ∀ r ∈ runes l, Scalar r := by
  suffices H : ∀ n (l : List UInt8), ∀ r ∈ runesF n l, Scalar r from H _ l
  intro n
  induction n with
  | zero => intro l r hr; simp [runesF] at hr
  | succ n ih =>
    intro l r hr
    by_cases h : l = []
    · simp [runesF, h] at hr
    · simp only [runesF, h, if_false, List.mem_cons] at hr
      rcases hr with rfl | hr
      · exact decodeL_scalar l
      · exact ih _ r hr
def enc8 (r : Nat) : List UInt8 := encodeRune (r : Int)
/-- A text that is UTF-8 is what its runes are written as. -/
theorem runes_back (l : List UInt8) (hv : validD l = true) : (runes l).flatMap enc8 = l := by
  suffices H : ∀ n (l : List UInt8), l.length ≤ n → validD l = true → (runes l).flatMap enc8 = l from H _ l (Nat.le_refl _) hv
  intro n
  induction n with
  | zero => intro l hn _; obtain rfl : l = [] := List.length_eq_zero_iff.1 (by omega); rfl
  | succ n ih =>
    intro l hn hv
    by_cases h : l = []
    · subst h; rfl
    · have hw := decodeL_width l
      rw [validD_step l h] at hv
      split at hv
      · cases hv
      · rename_i hb
        rw [runes_step l h, List.flatMap_cons, ih _ (by rw [List.length_drop]; omega) hv, enc8, encode_decode l h hb, List.take_append_drop]
/-- There are no more runes than bytes. -/
theorem runes_length (l : List UInt8) : (runes l).length ≤ l.length := by
  suffices H : ∀ n (l : List UInt8), l.length ≤ n → (runes l).length ≤ l.length from H _ l (Nat.le_refl _)
  intro n
  induction n with
  | zero => intro l hn; obtain rfl : l = [] := List.length_eq_zero_iff.1 (by omega); simp [runes_nil]
  | succ n ih =>
    intro l hn
    by_cases h : l = []
    · subst h; simp [runes_nil]
    · have hw := decodeL_width l
      have hp : 0 < l.length := List.length_pos_iff.2 h
      rw [runes_step l h, List.length_cons]
      have := ih (l.drop (decodeL l).2) (by rw [List.length_drop]; omega)
      rw [List.length_drop] at this
      omega
def okRune (r : Nat) : Bool := !(decide (r < 32) || (decide (127 ≤ r) && decide (r ≤ 159)))
/-- Whether a name may be (1.1). -/
def rightB (l : List UInt8) : Bool := decide (1 ≤ l.length) && decide (l.length ≤ 60) && validD l && (runes l).all okRune

end Go.Proofs.Ut
namespace Go.Proofs
open Go.Shelf
def Tryz.lays196_ren : Go.Shelf.Ren := ⟨fun | 196 => 111 | 259 => 152 | n => n, fun | 9 => 9 | 4 => 4 | 3 => 3 | 5 => 5 | 12 => 12 | 119 => 185 | 0 => 0 | 46 => 27 | 139 => 188 | 138 => 187 | 53 => 223 | n => n, fun | 3 => 2 | 4 => 3 | n => n⟩
theorem Tryz.lays196 : Go.Proofs.Lays.n196 Tryz.prog Tryz.lays196_ren := {
  mixed := by kernel_rfl
  f196 := Tryz.func111.trans (congrArg some (by kernel_rfl))
  f259 := Tryz.func152.trans (congrArg some (by kernel_rfl))
  t0 := Tryz.underlying0
  a0 := Tryz.isAgg0
  z0 := Tryz.sizeOf0
  v0 := Tryz.zeroValue0
  t3 := Tryz.underlying3
  a3 := Tryz.isAgg3
  z3 := Tryz.sizeOf3
  v3 := Tryz.zeroValue3
  t4 := Tryz.underlying4
  a4 := Tryz.isAgg4
  z4 := Tryz.sizeOf4
  v4 := Tryz.zeroValue4
  t5 := Tryz.underlying5
  a5 := Tryz.isAgg5
  z5 := Tryz.sizeOf5
  v5 := Tryz.zeroValue5
  t9 := Tryz.underlying9
  a9 := Tryz.isAgg9
  z9 := Tryz.sizeOf9
  v9 := Tryz.zeroValue9
  t12 := Tryz.underlying12
  a12 := Tryz.isAgg12
  z12 := Tryz.sizeOf12
  v12 := Tryz.zeroValue12
  t46 := Tryz.underlying27
  a46 := Tryz.isAgg27
  z46 := Tryz.sizeOf27
  v46 := Tryz.zeroValue27
  t53 := Tryz.underlying223
  a53 := Tryz.isAgg223
  z53 := Tryz.sizeOf223
  v53 := Tryz.zeroValue223
  t119 := Tryz.underlying185
  a119 := Tryz.isAgg185
  z119 := Tryz.sizeOf185
  t138 := Tryz.underlying187
  a138 := Tryz.isAgg187
  z138 := Tryz.sizeOf187
  v138 := Tryz.zeroValue187
  t139 := Tryz.underlying188
  a139 := Tryz.isAgg188
  z139 := Tryz.sizeOf188
  v139 := Tryz.zeroValue188
  g3 := by kernel_rfl
  g4 := by kernel_rfl }
open Go.RowKit in
theorem Tryz.utf8_ValidString (s : ByteArray) (w : World) (hs : s.size ≤ 9223372036854775807) (hT : Lib.Utf8Tabs 2 3 w) :
    Calls Tryz.prog 111 #[.string s] w fun e w' => e = .returned (.bool (Lib.validD s.data.toList)) ∧ Below w.heap.size w w' := Any.utf8_ValidString Tryz.lays196 s w hs hT
end Go.Proofs
