/-
  A number, as strconv reads and writes it; of the world what strconv re, and more.
-/
import Derived.Test.YtogigccbnohjjaaGreatDoorBpAid
import Derived.Test.YtogigccbnohjjaaGreatDoorFlagsShelf
import Derived.Lib.AppendIntMem
import Derived.Shelf.Strconv.Itoa4
import Derived.Shelf.Strconv.ParseIntPublic10
import Derived.Shelf.Strings.LastIndex
import Derived.Shelf.Strings.Replace
import Derived.Shelf.Strconv.AppendUint10
import Derived.Shelf.Strconv.AppendInt10
import Derived.Shelf.Strconv.AppendIntPublic10
import Derived.Shelf.Strings.SlTrimAscii
import Derived.Lib.SplitLaws
import Derived.Lib.IndexMore
namespace Go.Proofs.YtogigccbnohjjaaGreatDoor
open Go.RowKit Go.Proofs.Aid Go.Proofs.Sq Go.Sort
def numB (l : List UInt8) (most : Int) : Int × Bool :=
 match Lib.atoiAll l with
 | .ok n => (n, decide (0 ≤ n ∧ n ≤ most) && decide (Lib.itoa n = l))
 | .syntax => (0, false)
 | .range => (Lib.atoiSat l, false)
def NumAt (w : World) : Prop := ∀ W, Below w.heap.size w W → (∃ te pe, W.cell? ⟨4, 0, none⟩ = some (.iface te pe)) ∧ (∃ te pe, W.cell? ⟨5, 0, none⟩ = some (.iface te pe)) ∧ Lib.TabIs Tryz.prog W "internal/strconv.uint64pow10" .u64 Lib.pow10Tab
theorem NumAt.below {w W : World} (h : NumAt w) (hb : Below w.heap.size w W) : NumAt W := fun W' hb' => h W' (hb.trans (hb'.mono hb.size))
theorem num_bytes (w : World) (s : ByteArray) : Below w.heap.size w (Lib.bytesWorld w 5 s) := ⟨rfl, rfl, rfl, by rw [Lib.bytesWorld_size]; omega, fun j hj => Lib.bytesWorld_at_old w 5 s j hj⟩
theorem num_grow {B : Nat} {w0 w : World} (h : Below B w0 w) (hB : B ≤ w.heap.size) (os : Array Obj) : Below B w0 (grow w os) :=
 h.trans (Lib.below_grow B w hB 0 os)
theorem num_ba {a b : ByteArray} (h : a.data.toList = b.data.toList) : a = b := by
 obtain ⟨⟨x⟩⟩ := a
 obtain ⟨⟨y⟩⟩ := b
 have : x = y := h
 rw [this]
theorem atoi_bounds {l : List UInt8} {n : Int} (h : Lib.atoiAll l = .ok n) : -9223372036854775808 ≤ n ∧ n ≤ 9223372036854775807 := by
 unfold Lib.atoiAll at h
 split at h
 ·cases h
 ·simp only at h
  split at h
  ·cases h
  ·cases h
  ·split at h
   ·cases h
   ·split at h
    ·cases h
    ·next u _ h1 h2 =>
     cases h
     split <;> (rename_i h3; simp only [h3, not_true, not_false_eq_true, true_and, false_and] at h1 h2; omega)
theorem digit_some {c : UInt8} {d : Nat} (h : digit? c = some d) : 48 ≤ c.toNat ∧ c.toNat ≤ 57 ∧ d = c.toNat - 48 := by
 unfold digit? at h
 split at h
 ·next h1 => cases h; exact ⟨h1.1, h1.2, rfl⟩
 ·cases h
theorem digits_cons {acc : Nat} {c : UInt8} {r : List UInt8} {n : Nat} (h : digitsFrom acc (c :: r) = some n) : ∃ d, digit? c = some d ∧ acc * 10 + d ≤ 2147483647 ∧ digitsFrom (acc * 10 + d) r = some n := by
 rw [digitsFrom] at h
 cases hd : digit? c with
 | none => rw [hd] at h; cases h
 | some d =>
  rw [hd] at h
  simp only [Option.bind_some] at h
  split at h
  ·next h1 => exact ⟨d, rfl, h1, h⟩
  ·cases h
theorem digits_parse : ∀ (l : List UInt8) (acc n : Nat), acc ≤ 2147483647 → digitsFrom acc l = some n → Lib.parseUint10 acc l = .ok n ∧ acc ≤ n ∧ n ≤ 2147483647
 | [], acc, n, ha, h => by
  have : acc = n := by simpa [digitsFrom] using h
  subst this
  exact ⟨rfl, Nat.le_refl _, ha⟩
 | c :: r, acc, n, ha, h => by
  obtain ⟨d, hd, h1, h2⟩ := digits_cons h
  obtain ⟨e1, e2, rfl⟩ := digit_some hd
  obtain ⟨i1, i2, i3⟩ := digits_parse r _ n h1 h2
  refine ⟨?_, by omega, i3⟩
  rw [Lib.parseUint10, if_pos ⟨e1, e2⟩, if_neg (by omega), if_neg (by omega)]
  exact i1
theorem digits_written : ∀ (l : List UInt8) (acc n : Nat), 0 < acc → digitsFrom acc l = some n → Lib.decDigits n = Lib.decDigits acc ++ l
 | [], acc, n, _, h => by
  have : acc = n := by simpa [digitsFrom] using h
  subst this
  simp
 | c :: r, acc, n, ha, h => by
  obtain ⟨d, hd, h1, h2⟩ := digits_cons h
  obtain ⟨e1, e2, rfl⟩ := digit_some hd
  rw [digits_written r _ n (by omega) h2, Lib.decDigits, dif_neg (by omega)]
  have q1 : (acc * 10 + (c.toNat - 48)) / 10 = acc := by omega
  have q2 : 48 + (acc * 10 + (c.toNat - 48)) % 10 = c.toNat := by omega
  rw [q1, q2, UInt8.ofNat_toNat, List.append_assoc]
  rfl
theorem num_some {l : List UInt8} {n : Nat} (h42 : l ≠ [42]) (h : numOf l = some n) : numB l 2147483647 = ((n : Int), true) ∧ 0 < n := by
 unfold numOf at h
 rw [if_neg h42] at h
 split at h
 ·cases h
 ·next h1 =>
  cases l with
  | nil => simp at h1
  | cons c r =>
   have hc : c ≠ 48 := fun e => h1 (Or.inr (by rw [e]; rfl))
   obtain ⟨p1, p2, p3⟩ := digits_parse _ 0 n (by omega) h
   obtain ⟨d, hd, q1, q2⟩ := digits_cons h
   obtain ⟨e1, e2, rfl⟩ := digit_some hd
   have hc2 : c.toNat ≠ 48 := fun e => hc (UInt8.toNat_inj.1 (by rw [e]; rfl))
   rw [Nat.zero_mul, Nat.zero_add] at q2
   have hw := digits_written r (c.toNat - 48) n (by omega) q2
   rw [Lib.decDigits.eq_def (c.toNat - 48), dif_pos (by omega), show 48 + (c.toNat - 48) = c.toNat by omega, UInt8.ofNat_toNat] at hw
   have hpos : 0 < n := by have := (digits_parse r _ n (by omega) q2).2.1; omega
   have ha : Lib.atoiAll (c :: r) = .ok (n : Int) := by
    have hm : Lib.parseMag (c :: r) = .ok n := by unfold Lib.parseMag; rw [if_neg (by simp)]; exact p1
    unfold Lib.atoiAll
    simp only
    rw [if_neg (by omega), hm]
    simp only
    rw [if_neg (by omega), if_neg (by omega), if_neg (by omega)]
   refine ⟨?_, hpos⟩
   unfold numB
   rw [ha]
   simp only
   have hi : Lib.itoa (n : Int) = c :: r := by
    rw [Lib.itoa, if_neg (by omega), Int.toNat_natCast, hw]; rfl
   rw [decide_eq_true (by omega), decide_eq_true hi]
   rfl
end Go.Proofs.YtogigccbnohjjaaGreatDoor
namespace Go.Proofs.Hd
open Go.Proofs.Sq
abbrev Tx := List UInt8
def sm (c : UInt8) : UInt8 := if 65 ≤ c.toNat ∧ c.toNat ≤ 90 then c + 32 else c
def gr (c : UInt8) : UInt8 := if 97 ≤ c.toNat ∧ c.toNat ≤ 122 then c - 32 else c
def small (s : Tx) : Tx := s.map sm
def great (s : Tx) : Tx := s.map gr
theorem sm_gr (c : UInt8) : sm (gr c) = sm c := by
 have h : ∀ n : Fin 256, sm (gr (UInt8.ofNat n.val)) = sm (UInt8.ofNat n.val) := by decide +kernel
 have := h ⟨c.toNat, c.toNat_lt⟩
 simpa using this
theorem sm_sm (c : UInt8) : sm (sm c) = sm c := by
 have h : ∀ n : Fin 256, sm (sm (UInt8.ofNat n.val)) = sm (UInt8.ofNat n.val) := by decide +kernel
 have := h ⟨c.toNat, c.toNat_lt⟩
 simpa using this
theorem small_great (s : Tx) : small (great s) = small s := by
 unfold small great; rw [List.map_map]; exact List.map_congr_left fun c _ => sm_gr c
theorem small_small (s : Tx) : small (small s) = small s := by
 unfold small; rw [List.map_map]; exact List.map_congr_left fun c _ => sm_sm c
theorem small_length (s : Tx) : (small s).length = s.length := List.length_map ..
def headLen : Bool → Tx → Nat
 | _, [] => 0
 | _, [_] => 1
 | b, c :: d :: r => if c = 13 ∧ d = 10 then (if b then 2 else 2 + headLen true r) else 1 + headLen false (d :: r)
def pieces : Tx → List Tx
 | [] => [[]]
 | [c] => [[c]]
 | c :: d :: r => if c = 13 ∧ d = 10 then [] :: pieces r else (c :: (pieces (d :: r)).headD []) :: (pieces (d :: r)).tail
theorem headLen_le : ∀ (b : Bool) (s : Tx), headLen b s ≤ s.length
 | _, [] => by simp [headLen]
 | _, [_] => by simp [headLen]
 | b, c :: d :: r => by
  have h1 := headLen_le true r
  have h2 := headLen_le false (d :: r)
  rw [headLen]
  simp only [List.length_cons] at h2 ⊢
  split
  ·split <;> omega
  ·omega
theorem pieces_ne : ∀ (s : Tx), pieces s ≠ []
 | [] => by simp [pieces]
 | [c] => by simp [pieces]
 | c :: d :: r => by rw [pieces]; split <;> simp
theorem index_cons (b : UInt8) (r sub : Tx) : Lib.index (b :: r) sub = if sub.isPrefixOf (b :: r) then 0 else if Lib.index r sub = -1 then -1 else Lib.index r sub + 1 := by
 rw [Lib.index]
 split
 ·rfl
 ·simp only [beq_iff_eq]
theorem headLen_false : ∀ (s : Tx), headLen false s = if 0 ≤ Lib.index s [13, 10, 13, 10] then (Lib.index s [13, 10, 13, 10]).toNat + 4 else s.length
 | [] => by simp [headLen, Lib.index]
 | [c] => by simp [headLen, Lib.index, List.isPrefixOf]
 | c :: d :: r => by
  have ih := headLen_false (d :: r)
  have ih2 := headLen_false r
  have hg := Lib.index_ge r [13, 10, 13, 10]
  have hg2 := Lib.index_ge (d :: r) [13, 10, 13, 10]
  rw [headLen]
  by_cases h : c = 13 ∧ d = 10
  ·obtain ⟨rfl, rfl⟩ := h
   rw [if_pos ⟨rfl, rfl⟩, if_neg (by simp)]
   match r, ih2 with
   | [], _ => simp [headLen, Lib.index, List.isPrefixOf]
   | [e], _ => simp [headLen, Lib.index, List.isPrefixOf]
   | e :: f :: q, ih2 =>
    by_cases h2 : e = 13 ∧ f = 10
    ·obtain ⟨rfl, rfl⟩ := h2
     rw [headLen, if_pos ⟨rfl, rfl⟩, if_pos rfl]
     have e0 : Lib.index (13 :: 10 :: 13 :: 10 :: q) [13, 10, 13, 10] = 0 := by rw [index_cons, if_pos (by simp [List.isPrefixOf])]
     rw [e0]
     rfl
    ·have e1 : headLen true (e :: f :: q) = headLen false (e :: f :: q) := by rw [headLen, headLen, if_neg h2, if_neg h2]
     have n0 : ([13, 10, 13, 10] : Tx).isPrefixOf (13 :: 10 :: e :: f :: q) = false := by
      cases hp : ([13, 10, 13, 10] : Tx).isPrefixOf (13 :: 10 :: e :: f :: q) with
      | false => rfl
      | true =>
       simp [List.isPrefixOf] at hp
       exact absurd ⟨hp.1.symm, hp.2.symm⟩ h2
     have n1 : ([13, 10, 13, 10] : Tx).isPrefixOf (10 :: e :: f :: q) = false := by simp [List.isPrefixOf]
     rw [e1, ih2, index_cons 13 (10 :: e :: f :: q), n0, index_cons 10 (e :: f :: q), n1]
     simp only [Bool.false_eq_true, if_false]
     generalize Lib.index (e :: f :: q) [13, 10, 13, 10] = z at hg
     by_cases hz : z = -1
     ·subst hz; simp; omega
     ·have : ¬ z + 1 = -1 := by omega
      rw [if_neg hz, if_neg this, if_pos (by omega), if_pos (by omega)]
      omega
  ·rw [if_neg h, ih, index_cons c (d :: r)]
   have n0 : ([13, 10, 13, 10] : Tx).isPrefixOf (c :: d :: r) = false := by
    cases hp : ([13, 10, 13, 10] : Tx).isPrefixOf (c :: d :: r) with
    | false => rfl
    | true =>
     simp [List.isPrefixOf] at hp
     exact absurd ⟨hp.1.symm, hp.2.1.symm⟩ h
   rw [n0]
   simp only [Bool.false_eq_true, if_false]
   generalize Lib.index (d :: r) [13, 10, 13, 10] = z at hg2
   by_cases hz : z = -1
   ·subst hz; simp; omega
   ·rw [if_neg hz, if_pos (by omega), if_pos (by omega)]
    omega
theorem headLen_true (s : Tx) : headLen true s = if ([13, 10] : Tx).isPrefixOf s then 2 else if 0 ≤ Lib.index s [13, 10, 13, 10] then (Lib.index s [13, 10, 13, 10]).toNat + 4 else s.length := by
 rw [← headLen_false]
 match s with
 | [] => rfl
 | [c] => simp [headLen, List.isPrefixOf]
 | c :: d :: r =>
  by_cases h : c = 13 ∧ d = 10
  ·obtain ⟨rfl, rfl⟩ := h
   simp [headLen, List.isPrefixOf]
  ·have : ([13, 10] : Tx).isPrefixOf (c :: d :: r) = false := by
    cases hp : ([13, 10] : Tx).isPrefixOf (c :: d :: r) with
    | false => rfl
    | true =>
     simp [List.isPrefixOf] at hp
     exact absurd ⟨hp.1.symm, hp.2.symm⟩ h
   rw [this, headLen, headLen, if_neg h, if_neg h]
   simp
theorem pieces_index : ∀ (s : Tx), pieces s = if Lib.index s [13, 10] = -1 then [s] else s.take (Lib.index s [13, 10]).toNat :: pieces (s.drop ((Lib.index s [13, 10]).toNat + 2))
 | [] => by simp [pieces, Lib.index]
 | [c] => by simp [pieces, Lib.index, List.isPrefixOf]
 | c :: d :: r => by
  have ih := pieces_index (d :: r)
  have hg := Lib.index_ge (d :: r) [13, 10]
  rw [pieces]
  by_cases h : c = 13 ∧ d = 10
  ·obtain ⟨rfl, rfl⟩ := h
   have e0 : Lib.index (13 :: 10 :: r) [13, 10] = 0 := by rw [index_cons, if_pos (by simp [List.isPrefixOf])]
   rw [if_pos ⟨rfl, rfl⟩, e0]
   simp
  ·have n0 : ([13, 10] : Tx).isPrefixOf (c :: d :: r) = false := by
    cases hp : ([13, 10] : Tx).isPrefixOf (c :: d :: r) with
    | false => rfl
    | true =>
     simp [List.isPrefixOf] at hp
     exact absurd ⟨hp.1.symm, hp.2.symm⟩ h
   rw [if_neg h, ih, index_cons c (d :: r), n0]
   simp only [Bool.false_eq_true, if_false]
   generalize Lib.index (d :: r) [13, 10] = z at hg
   by_cases hz : z = -1
   ·subst hz; simp
   ·have hz1 : ¬ z + 1 = -1 := by omega
    rw [if_neg hz, if_neg hz, if_neg hz1]
    have e : (z + 1).toNat = z.toNat + 1 := by omega
    rw [e]
    simp
theorem splitK_pieces : ∀ (k : Nat) (s : Tx), (pieces s).length ≤ k + 1 → Lib.splitK [13, 10] 0 k s = pieces s
 | 0, s, h => by
  rw [pieces_index] at h ⊢
  split at h
  ·next h1 => rw [if_pos h1]; rfl
  ·next h1 =>
   have := List.length_pos_iff.2 (pieces_ne (s.drop ((Lib.index s [13, 10]).toNat + 2)))
   simp only [List.length_cons] at h
   omega
 | k + 1, s, h => by
  rw [pieces_index] at h ⊢
  rw [Lib.splitK]
  by_cases h1 : Lib.index s [13, 10] = -1
  ·rw [if_pos h1, if_pos (beq_iff_eq.2 h1)]
  ·rw [if_neg h1] at h ⊢
   rw [if_neg (fun e => h1 (beq_iff_eq.1 e)), splitK_pieces k _ (by simp only [List.length_cons] at h; exact Nat.le_of_succ_le_succ h)]
   rfl
theorem pieces_length : ∀ (s : Tx), ∀ p ∈ pieces s, p.length ≤ s.length
 | [], p, h => by simp [pieces] at h; simp [h]
 | [c], p, h => by simp [pieces] at h; simp [h]
 | c :: d :: r, p, h => by
  have h1 := pieces_length r
  have h2 := pieces_length (d :: r)
  rw [pieces] at h
  split at h
  ·rcases List.mem_cons.1 h with rfl | h
   ·simp
   ·have := h1 p h; simp only [List.length_cons]; omega
  ·rcases List.mem_cons.1 h with rfl | h
   ·cases hb : pieces (d :: r) with
    | nil => exact absurd hb (pieces_ne _)
    | cons q qs =>
     have := h2 q (by rw [hb]; exact List.mem_cons_self)
     simp only [List.headD_cons, List.length_cons] at this ⊢; omega
   ·have := h2 p (List.mem_of_mem_tail h); simp only [List.length_cons] at this ⊢; omega
theorem pieces_count : ∀ (k : Nat) (s : Tx), s.length < k → (pieces s).length = Lib.countFrom [13, 10] k s + 1
 | 0, s, h => absurd h (Nat.not_lt_zero _)
 | k + 1, s, h => by
  rw [pieces_index, Lib.countFrom]
  by_cases h1 : Lib.index s [13, 10] = -1
  ·rw [if_pos h1, if_pos (beq_iff_eq.2 h1)]; rfl
  ·have hr := Lib.index_room s [13, 10] (by have := Lib.index_ge s [13, 10]; omega)
   have hg := Lib.index_ge s [13, 10]
   have h2 : ([13, 10] : Tx).length = 2 := rfl
   rw [h2] at hr
   have ih := pieces_count k (s.drop ((Lib.index s [13, 10]).toNat + 2)) (by rw [List.length_drop]; omega)
   rw [if_neg h1, if_neg (fun e => h1 (beq_iff_eq.1 e)), List.length_cons, ih]
   show _ = 1 + Lib.countFrom [13, 10] k (s.drop ((Lib.index s [13, 10]).toNat + 2)) + 1
   omega
theorem split_pieces (s : ByteArray) : (Lib.splitB ⟨#[13, 10]⟩ 0 (Lib.countB s ⟨#[13, 10]⟩) s).map (·.data.toList) = pieces s.data.toList := by
 rw [Lib.splitB_data]
 refine splitK_pieces _ _ ?_
 have : Lib.countB s ⟨#[13, 10]⟩ = Lib.count s.data.toList [13, 10] := rfl
 rw [this, Lib.count, pieces_count _ _ (Nat.lt_succ_self _)]
 exact Nat.le_refl _
end Go.Proofs.Hd
