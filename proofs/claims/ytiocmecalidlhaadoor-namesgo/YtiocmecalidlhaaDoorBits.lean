/-
  Bits as lists, the greatest first: their number, a number's last bits, pieces of a fixed length. Plain mathematics.
-/
namespace Go.Proofs.Ut

def val (l : List Bool) : Nat := l.foldl (fun a b => 2 * a + b.toNat) 0
theorem val_nil : val [] = 0 := rfl
theorem foldl_val (l : List Bool) (a : Nat) : l.foldl (fun a b => 2 * a + b.toNat) a = a * 2 ^ l.length + val l := by
  induction l generalizing a with
  | nil => simp [val]
  | cons b r ih =>
    simp only [List.foldl_cons, List.length_cons, val]
    rw [ih, ih (2 * 0 + b.toNat), Nat.pow_succ]
    simp only [Nat.mul_zero, Nat.zero_add]
    rw [Nat.add_mul, Nat.add_assoc, Nat.mul_comm 2 a, Nat.mul_assoc, Nat.mul_comm 2 (2 ^ r.length)]
theorem val_append (l m : List Bool) : val (l ++ m) = val l * 2 ^ m.length + val m := by
  rw [val, List.foldl_append, foldl_val]
  rfl
theorem val_single (b : Bool) : val [b] = b.toNat := by simp [val]
theorem val_lt (l : List Bool) : val l < 2 ^ l.length := by
  induction l with
  | nil => simp [val]
  | cons b r ih =>
    rw [show b :: r = [b] ++ r from rfl, val_append, val_single, List.length_append, Nat.pow_add]
    have : b.toNat ≤ 1 := by cases b <;> simp
    have hp : 0 < 2 ^ r.length := Nat.two_pow_pos _
    rcases (show b.toNat = 0 ∨ b.toNat = 1 by omega) with h | h <;> rw [h] <;> simp <;> omega
theorem val_zeros (n : Nat) : val (List.replicate n false) = 0 := by
  induction n with
  | zero => rfl
  | succ n ih => rw [List.replicate_succ, show false :: List.replicate n false = [false] ++ List.replicate n false from rfl, val_append, ih]; simp [val]

/-- The last n bits of a number. -/
def bitsOf : Nat → Nat → List Bool
  | 0, _ => []
  | n + 1, u => bitsOf n (u / 2) ++ [u % 2 == 1]
theorem length_bitsOf (n u : Nat) : (bitsOf n u).length = n := by
  induction n generalizing u with
  | zero => rfl
  | succ n ih => simp [bitsOf, ih]
theorem val_bitsOf (n u : Nat) : val (bitsOf n u) = u % 2 ^ n := by
  induction n generalizing u with
  | zero => simp [bitsOf, val, Nat.mod_one]
  | succ n ih =>
    rw [bitsOf, val_append, ih, val_single]
    have h2 : (u % 2 == 1).toNat = u % 2 := by
      rcases (show u % 2 = 0 ∨ u % 2 = 1 by omega) with h | h <;> simp [h]
    rw [h2, Nat.pow_succ, Nat.mul_comm (2 ^ n) 2, Nat.mod_mul]
    simp
    omega
theorem val_inj : ∀ (l m : List Bool), l.length = m.length → val l = val m → l = m := by
  intro l
  induction l with
  | nil => intro m h _; exact (List.length_eq_zero_iff.1 h.symm).symm
  | cons b r ih =>
    intro m h hv
    match m, h with
    | c :: t, h =>
      have hl : r.length = t.length := by simpa using h
      rw [show b :: r = [b] ++ r from rfl, show c :: t = [c] ++ t from rfl, val_append, val_append, val_single, val_single, hl] at hv
      have h1 := val_lt r
      have h2 := val_lt t
      rw [hl] at h1
      have hbc : b = c := by
        cases b <;> cases c <;> simp at hv ⊢ <;> omega
      subst hbc
      have : val r = val t := by omega
      rw [ih t hl this]
theorem bitsOf_val (l : List Bool) : bitsOf l.length (val l) = l := by
  apply val_inj
  · exact length_bitsOf _ _
  · rw [val_bitsOf]; exact Nat.mod_eq_of_lt (val_lt l)

/-- The j-th piece of k bits. -/
def piece (k : Nat) (l : List Bool) (j : Nat) : Nat := val ((l.drop (k * j)).take k)
def pieces (k : Nat) (l : List Bool) (j : Nat) : List Nat := (List.range j).map (piece k l)
theorem pieces_succ (k : Nat) (l : List Bool) (j : Nat) : pieces k l (j + 1) = pieces k l j ++ [piece k l j] := by simp [pieces, List.range_succ]
theorem pieces_length (k : Nat) (l : List Bool) (j : Nat) : (pieces k l j).length = j := by simp [pieces]
theorem piece_append (k : Nat) (l m : List Bool) (i : Nat) (h : k * (i + 1) ≤ l.length) : piece k (l ++ m) i = piece k l i := by
  unfold piece
  rw [Nat.mul_succ] at h
  rw [List.drop_append_of_le_length (by omega), List.take_append_of_le_length (by simp; omega)]
theorem pieces_append (k : Nat) (l m : List Bool) (j : Nat) (h : k * j ≤ l.length) : pieces k (l ++ m) j = pieces k l j := by
  unfold pieces
  apply List.map_congr_left
  intro i hi
  have hij : i < j := by simpa using hi
  exact piece_append k l m i (Nat.le_trans (Nat.mul_le_mul_left k hij) h)
theorem piece_lt (k : Nat) (l : List Bool) (j : Nat) : piece k l j < 2 ^ k := by
  have h := val_lt ((l.drop (k * j)).take k)
  exact Nat.lt_of_lt_of_le h (Nat.pow_le_pow_right (by decide) (List.length_take_le _ _))

/-- What a register of bits holds while pieces of k are taken out of it: the last c of its bits are those of l that are not taken yet. -/
structure Reg (k : Nat) (l : List Bool) (j b c : Nat) : Prop where
  len : k * j + c = l.length
  num : b % 2 ^ c = val (l.drop (k * j))

theorem Reg.start (k : Nat) : Reg k [] 0 0 0 := ⟨rfl, rfl⟩
/-- More bits come in. -/
theorem Reg.more {k : Nat} {l : List Bool} {j b c : Nat} (h : Reg k l j b c) (n u M : Nat) (hu : u < 2 ^ n) (hM : c + n ≤ M) : Reg k (l ++ bitsOf n u) j (b * 2 ^ n % 2 ^ M + u) (c + n) := by
  refine ⟨by rw [List.length_append, length_bitsOf, ← h.len]; omega, ?_⟩
  rw [List.drop_append_of_le_length (by rw [← h.len]; omega), val_append, length_bitsOf, val_bitsOf, Nat.mod_eq_of_lt hu, ← h.num, Nat.add_mod, Nat.mod_mod_of_dvd _ (Nat.pow_dvd_pow 2 hM)]
  rw [Nat.pow_add, Nat.mul_comm (2 ^ c), Nat.mul_comm b, Nat.mul_mod_mul_left]
  have hp : 0 < 2 ^ c := Nat.two_pow_pos _
  have h1 : b % 2 ^ c < 2 ^ c := Nat.mod_lt _ hp
  have hu2 : u < 2 ^ n * 2 ^ c := Nat.lt_of_lt_of_le hu (Nat.le_mul_of_pos_right _ hp)
  rw [Nat.mod_eq_of_lt hu2, Nat.mod_eq_of_lt]
  · rw [Nat.mul_comm]
  · have : 2 ^ n * (b % 2 ^ c) + 2 ^ n ≤ 2 ^ n * 2 ^ c := by rw [← Nat.mul_succ]; exact Nat.mul_le_mul_left _ h1
    omega
/-- A piece is taken out. -/
theorem Reg.out {k : Nat} {l : List Bool} {j b c : Nat} (h : Reg k l j b c) (hk : k ≤ c) : Reg k l (j + 1) b (c - k) ∧ b / 2 ^ (c - k) % 2 ^ k = piece k l j := by
  have hd : l.drop (k * j) = (l.drop (k * j)).take k ++ l.drop (k * (j + 1)) := by
    rw [Nat.mul_succ, ← List.drop_drop, List.take_append_drop]
  have hlen : (l.drop (k * (j + 1))).length = c - k := by rw [List.length_drop, ← h.len, Nat.mul_succ]; omega
  have hnum := h.num
  rw [hd, val_append, hlen] at hnum
  have hlt := val_lt (l.drop (k * (j + 1)))
  rw [hlen] at hlt
  have hc : c = (c - k) + k := by omega
  refine ⟨⟨by rw [Nat.mul_succ, ← h.len]; omega, ?_⟩, ?_⟩
  · have : b % 2 ^ (c - k) = b % 2 ^ c % 2 ^ (c - k) := (Nat.mod_mod_of_dvd _ (Nat.pow_dvd_pow 2 (by omega))).symm
    rw [this, hnum, Nat.mul_comm, Nat.mul_add_mod, Nat.mod_eq_of_lt hlt]
  · have : b / 2 ^ (c - k) % 2 ^ k = b % 2 ^ c / 2 ^ (c - k) := by
      conv => rhs; rw [hc, Nat.pow_add, Nat.add_sub_cancel]
      rw [Nat.mod_mul_right_div_self]
    rw [this, hnum, Nat.mul_comm, Nat.mul_add_div (Nat.two_pow_pos _), Nat.div_eq_of_lt hlt, Nat.add_zero]
    rfl
/-- What is left over, filled up with 0. -/
theorem Reg.last {k : Nat} {l : List Bool} {j b c : Nat} (h : Reg k l j b c) (M : Nat) (hk : c ≤ k) (hM : k ≤ M) : b * 2 ^ (k - c) % 2 ^ M % 2 ^ k = val (l.drop (k * j) ++ List.replicate (k - c) false) := by
  rw [val_append, val_zeros, List.length_replicate, ← h.num, Nat.mod_mod_of_dvd _ (Nat.pow_dvd_pow 2 hM), Nat.add_zero]
  conv => lhs; rw [show k = c + (k - c) by omega, Nat.pow_add, show c + (k - c) - c = k - c by omega]
  rw [Nat.mul_mod_mul_right]

/-- The letters for six bits. -/
def alpha : List UInt8 := [65, 66, 67, 68, 69, 70, 71, 72, 73, 74, 75, 76, 77, 78, 79, 80, 81, 82, 83, 84, 85, 86, 87, 88, 89, 90, 97, 98, 99, 100, 101, 102, 103, 104, 105, 106, 107, 108, 109, 110, 111, 112, 113, 114, 115, 116, 117, 118, 119, 120, 121, 122, 48, 49, 50, 51, 52, 53, 54, 55, 56, 57, 43, 44]
def letter (p : Nat) : UInt8 := alpha.getD p 0
/-- Bits, six a letter, the last one filled up with 0. -/
def lettersOf (l : List Bool) : List UInt8 := (pieces 6 l (l.length / 6)).map letter ++ (if l.length % 6 = 0 then [] else [letter (val (l.drop (6 * (l.length / 6)) ++ List.replicate (6 - l.length % 6) false))])
/-- Units' bits. -/
def bits16 (us : List Nat) : List Bool := us.flatMap (bitsOf 16)
theorem bits16_take (us : List Nat) (k : Nat) (h : k < us.length) : bits16 (us.take (k + 1)) = bits16 (us.take k) ++ bitsOf 16 (us.getD k 0) := by
  rw [List.take_succ_eq_append_getElem h, List.getD_eq_getElem?_getD, List.getElem?_eq_getElem h]
  simp only [bits16, List.flatMap_append, List.flatMap_cons, List.flatMap_nil, List.append_nil, Option.getD_some]
theorem bits16_length (us : List Nat) : (bits16 us).length = 16 * us.length := by
  induction us with
  | nil => rfl
  | cons u r ih => simp only [bits16, List.flatMap_cons, List.length_append, length_bitsOf, List.length_cons] at ih ⊢; omega
theorem lettersOf_full {l : List Bool} {j b : Nat} (h : Reg 6 l j b 0) : lettersOf l = (pieces 6 l j).map letter := by
  have := h.len
  rw [lettersOf, if_pos (by omega), show l.length / 6 = j by omega, List.append_nil]
theorem lettersOf_rest {l : List Bool} {j b c : Nat} (h : Reg 6 l j b c) (h0 : 0 < c) (h6 : c < 6) : lettersOf l = (pieces 6 l j).map letter ++ [letter (val (l.drop (6 * j) ++ List.replicate (6 - c) false))] := by
  have := h.len
  rw [lettersOf, if_neg (by omega), show l.length / 6 = j by omega, show l.length % 6 = c by omega]

end Go.Proofs.Ut
