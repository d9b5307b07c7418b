/-
  A number, as strconv reads and writes it; of the world what strconv reads.
-/
import Derived.Test.YtmcpohnilgbicaaGreatDoorSeqBase
import Derived.Test.YtmcpohnilgbicaaGreatDoorNumShelf
import Derived.Lib.AppendIntMem
namespace Go.Proofs.YtmcpohnilgbicaaGreatDoor
open Go.RowKit Go.Proofs.Aid Go.Proofs.Sq Go.Sort

/-- What Num answers. -/
def numB (l : List UInt8) (most : Int) : Int × Bool :=
  match Lib.atoiAll l with
  | .ok n => (n, decide (0 ≤ n ∧ n ≤ most) && decide (Lib.itoa n = l))
  | .syntax => (0, false)
  | .range => (Lib.atoiSat l, false)
/-- What Num reads of the world: the errors of strconv, the table of powers. -/
def NumAt (w : World) : Prop := ∀ W, Below w.heap.size w W → (∃ te pe, W.cell? ⟨4, 0, none⟩ = some (.iface te pe)) ∧ (∃ te pe, W.cell? ⟨5, 0, none⟩ = some (.iface te pe)) ∧ Lib.TabIs Tryz.prog W "internal/strconv.uint64pow10" .u64 Lib.pow10Tab
theorem NumAt.below {w W : World} (h : NumAt w) (hb : Below w.heap.size w W) : NumAt W := fun W' hb' => h W' (hb.trans (hb'.mono hb.size))
theorem num_bytes (w : World) (s : ByteArray) : Below w.heap.size w (Lib.bytesWorld w 5 s) := ⟨rfl, rfl, rfl, by rw [Lib.bytesWorld_size]; omega, fun j hj => Lib.bytesWorld_at_old w 5 s j hj⟩
theorem num_grow {B : Nat} {w0 w : World} (h : Below B w0 w) (hB : B ≤ w.heap.size) (os : Array Obj) : Below B w0 (grow w os) :=
  h.trans (Lib.below_grow B w hB 0 os)
theorem num_ba {a b : ByteArray} (h : a.data.toList = b.data.toList) : a = b := by
  obtain ⟨⟨x⟩⟩ := a
  obtain ⟨⟨y⟩⟩ := b
  have : x = y := h
  rw [this]
theorem atoi_bounds {l : List UInt8} {n : Int} (h : Lib.atoiAll l = .ok n) : -9223372036854775808 ≤ n ∧ n ≤ 9223372036854775807 := by
  unfold Lib.atoiAll at h
  split at h
  · cases h
  · simp only at h
    split at h
    · cases h
    · cases h
    · split at h
      · cases h
      · split at h
        · cases h
        · next u _ h1 h2 =>
          cases h
          split <;> (rename_i h3; simp only [h3, not_true, not_false_eq_true, true_and, false_and] at h1 h2; omega)
theorem digit_some {c : UInt8} {d : Nat} (h : digit? c = some d) : 48 ≤ c.toNat ∧ c.toNat ≤ 57 ∧ d = c.toNat - 48 := by
  unfold digit? at h
  split at h
  · next h1 => cases h; exact ⟨h1.1, h1.2, rfl⟩
  · cases h
theorem digits_cons {acc : Nat} {c : UInt8} {r : List UInt8} {n : Nat} (h : digitsFrom acc (c :: r) = some n) : ∃ d, digit? c = some d ∧ acc * 10 + d ≤ 2147483647 ∧ digitsFrom (acc * 10 + d) r = some n := by
  rw [digitsFrom] at h
  cases hd : digit? c with
  | none => rw [hd] at h; cases h
  | some d =>
    rw [hd] at h
    simp only [Option.bind_some] at h
    split at h
    · next h1 => exact ⟨d, rfl, h1, h⟩
    · cases h
theorem digits_parse : ∀ (l : List UInt8) (acc n : Nat), acc ≤ 2147483647 → digitsFrom acc l = some n → Lib.parseUint10 acc l = .ok n ∧ acc ≤ n ∧ n ≤ 2147483647
  | [], acc, n, ha, h => by
    have : acc = n := by simpa [digitsFrom] using h
    subst this
    exact ⟨rfl, Nat.le_refl _, ha⟩
  | c :: r, acc, n, ha, h => by
    obtain ⟨d, hd, h1, h2⟩ := digits_cons h
    obtain ⟨e1, e2, rfl⟩ := digit_some hd
    obtain ⟨i1, i2, i3⟩ := digits_parse r _ n h1 h2
    refine ⟨?_, by omega, i3⟩
    rw [Lib.parseUint10, if_pos ⟨e1, e2⟩, if_neg (by omega), if_neg (by omega)]
    exact i1
theorem digits_written : ∀ (l : List UInt8) (acc n : Nat), 0 < acc → digitsFrom acc l = some n → Lib.decDigits n = Lib.decDigits acc ++ l
  | [], acc, n, _, h => by
    have : acc = n := by simpa [digitsFrom] using h
    subst this
    simp
  | c :: r, acc, n, ha, h => by
    obtain ⟨d, hd, h1, h2⟩ := digits_cons h
    obtain ⟨e1, e2, rfl⟩ := digit_some hd
    rw [digits_written r _ n (by omega) h2, Lib.decDigits, dif_neg (by omega)]
    have q1 : (acc * 10 + (c.toNat - 48)) / 10 = acc := by omega
    have q2 : 48 + (acc * 10 + (c.toNat - 48)) % 10 = c.toNat := by omega
    rw [q1, q2, UInt8.ofNat_toNat, List.append_assoc]
    rfl
theorem num_some {l : List UInt8} {n : Nat} (h42 : l ≠ [42]) (h : numOf l = some n) : numB l 2147483647 = ((n : Int), true) ∧ 0 < n := by
  unfold numOf at h
  rw [if_neg h42] at h
  split at h
  · cases h
  · next h1 =>
    cases l with
    | nil => simp at h1
    | cons c r =>
      have hc : c ≠ 48 := fun e => h1 (Or.inr (by rw [e]; rfl))
      obtain ⟨p1, p2, p3⟩ := digits_parse _ 0 n (by omega) h
      obtain ⟨d, hd, q1, q2⟩ := digits_cons h
      obtain ⟨e1, e2, rfl⟩ := digit_some hd
      have hc2 : c.toNat ≠ 48 := fun e => hc (UInt8.toNat_inj.1 (by rw [e]; rfl))
      rw [Nat.zero_mul, Nat.zero_add] at q2
      have hw := digits_written r (c.toNat - 48) n (by omega) q2
      rw [Lib.decDigits.eq_def (c.toNat - 48), dif_pos (by omega), show 48 + (c.toNat - 48) = c.toNat by omega, UInt8.ofNat_toNat] at hw
      have hpos : 0 < n := by have := (digits_parse r _ n (by omega) q2).2.1; omega
      have ha : Lib.atoiAll (c :: r) = .ok (n : Int) := by
        have hm : Lib.parseMag (c :: r) = .ok n := by unfold Lib.parseMag; rw [if_neg (by simp)]; exact p1
        unfold Lib.atoiAll
        simp only
        rw [if_neg (by omega), hm]
        simp only
        rw [if_neg (by omega), if_neg (by omega), if_neg (by omega)]
      refine ⟨?_, hpos⟩
      unfold numB
      rw [ha]
      simp only
      have hi : Lib.itoa (n : Int) = c :: r := by
        rw [Lib.itoa, if_neg (by omega), Int.toNat_natCast, hw]; rfl
      rw [decide_eq_true (by omega), decide_eq_true hi]
      rfl
end Go.Proofs.YtmcpohnilgbicaaGreatDoor
