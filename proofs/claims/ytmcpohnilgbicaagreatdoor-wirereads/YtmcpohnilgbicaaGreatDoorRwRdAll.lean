/-
  The document's reader of commands, plain mathematics: what it sees, a WORD, a String that is counted.
  What the small methods of letterboxref.command do: ok, fails, see, gap, and which bytes may stand in a WORD.
  What the method word of letterboxref.command does.
  The document's answer on letters made great; a byte as a text.
  What the method quoted of letterboxref.command does.
-/
import Derived.Test.YtmcpohnilgbicaaGreatDoorWireRdAll
import Derived.Test.YtmcpohnilgbicaaGreatDoorWireQArg
import Derived.Lib.IndexLaws
import Derived.Test.YtmcpohnilgbicaaGreatDoorRefIn
import Derived.Deep.RegionHeld3
import Derived.Test.YtmcpohnilgbicaaGreatDoorHeadSpec
import Derived.Test.YtmcpohnilgbicaaGreatDoorSeqBase
import Derived.Lib.SmallJoins
namespace Go.Proofs.YtmcpohnilgbicaaGreatDoor
open Go.RowKit Go.Proofs.Hd

/-- The next byte, if it stands ahead of the last CR LF. -/
def seeW (s : Tx) (p : Nat) : Option UInt8 := if p + 2 < s.length then s[p]? else none
theorem see_some {s : Tx} {p : Nat} {x : UInt8} (h : seeW s p = some x) : p + 2 < s.length ∧ s[p]? = some x := by
  unfold seeW at h
  split at h
  · exact ⟨by assumption, h⟩
  · cases h
theorem see_none {s : Tx} {p : Nat} (h : seeW s p = none) : s.length ≤ p + 2 := by
  unfold seeW at h
  split at h
  · rw [List.getElem?_eq_none_iff] at h; omega
  · omega
theorem see_took {s : Tx} (hE : Ends s) {p : Nat} {x : UInt8} (h1 : x ≠ 13) (h2 : x ≠ 10) : seeW s p = some x ↔ tookW [x] s p = true := by
  constructor
  · intro h
    exact took_one.2 (see_some h).2
  · intro h
    have hx := took_one.1 h
    unfold seeW
    rw [if_pos (hE.ahead hx h1 h2)]
    exact hx
theorem see_not {s : Tx} (hE : Ends s) {p : Nat} {x : UInt8} (h1 : x ≠ 13) (h2 : x ≠ 10) (h : seeW s p ≠ some x) : tookW [x] s p = false := by
  cases hq : tookW [x] s p with
  | false => rfl
  | true => exact absurd ((see_took hE h1 h2).2 hq) h
theorem word_len {s : Tx} (hE : Ends s) {p q : Nat} (hpq : p ≤ q) (hq : q + 2 ≤ s.length) (hw : ∀ j b, p ≤ j → j < q → s[j]? = some b → wordy b = true) (h : ∀ b, seeW s q = some b → wordy b = false) :
    (wordT (s.drop p)).length = q - p := by
  refine while_len (fun j b hj hb => ?_) (Or.inr ?_)
  · rw [List.getElem?_drop] at hb
    exact hw (p + j) b (by omega) (by omega) hb
  · have hd : (s.drop p)[q - p]? = s[q]? := by rw [List.getElem?_drop, show p + (q - p) = q by omega]
    cases hs : seeW s q with
    | some b => exact ⟨b, by rw [hd]; exact (see_some hs).2, h b hs⟩
    | none =>
      have := see_none hs
      have hcr := hE.cr
      rw [show s.length - 2 = q by omega] at hcr
      exact ⟨13, by rw [hd]; exact hcr, by decide⟩
theorem word_by {s : Tx} (hE : Ends s) {p q c : Nat} (hpq : p ≤ q) (hq : q + 2 ≤ s.length) (hw : ∀ j b, p ≤ j → j < q → s[j]? = some b → wordy b = true) (h : ∀ b, seeW s q = some b → wordy b = false) :
    wordW s p c = if q = p then .bad 3 p else .ok ((s.drop p).take (q - p)) q c := by
  have hl := word_len hE hpq hq hw h
  have ht := wordT_take (s.drop p)
  rw [hl] at ht
  unfold wordW
  by_cases h0 : q = p
  · rw [if_pos h0, if_pos (List.eq_nil_of_length_eq_zero (by omega))]
  · rw [if_neg h0, if_neg (fun e => by rw [e] at hl; simp at hl; omega), hl, ← ht, show p + (q - p) = q by omega]

theorem idx_at : ∀ (e : Nat) (t : Tx), (∀ j, j < e → t[j]? ≠ some 125) → t[e]? = some 125 → ([13, 10] : Tx).isPrefixOf (t.drop (e + 1)) = true → Lib.index t [125, 13, 10] = (e : Int)
  | e, [], _, h, _ => by simp at h
  | 0, x :: t, _, h, hp => by
    obtain rfl : x = 125 := by simpa using h
    have hp' : ([13, 10] : Tx).isPrefixOf t = true := hp
    rw [index_cons, if_pos (by simpa [List.isPrefixOf] using hp')]
    rfl
  | e + 1, x :: t, hn, h, hp => by
    have hx : x ≠ 125 := fun e => hn 0 (by omega) (by rw [e]; rfl)
    have ih := idx_at e t (fun j hj => by have := hn (j + 1) (by omega); simpa using this) (by simpa using h) (by simpa using hp)
    rw [index_cons, if_neg (by simp [List.isPrefixOf, Ne.symm hx]), ih, if_neg (by omega)]
    omega
theorem idx_off : ∀ (e : Nat) (t : Tx), (∀ j, j < e → t[j]? ≠ some 125) → t[e]? = some 125 → ([13, 10] : Tx).isPrefixOf (t.drop (e + 1)) = false → Lib.index t [125, 13, 10] < 0 ∨ ∃ i : Nat, e < i ∧ Lib.index t [125, 13, 10] = (i : Int)
  | e, [], _, h, _ => by simp at h
  | 0, x :: t, _, h, hp => by
    obtain rfl : x = 125 := by simpa using h
    have hp' : ([13, 10] : Tx).isPrefixOf t = false := hp
    have hg := Lib.index_ge t [125, 13, 10]
    rw [index_cons, if_neg (show ¬ ([125, 13, 10] : Tx).isPrefixOf (125 :: t) = true from fun h => by
      have : ([13, 10] : Tx).isPrefixOf t = true := h
      rw [hp'] at this
      cases this)]
    by_cases h1 : Lib.index t [125, 13, 10] = -1
    · rw [if_pos h1]; exact Or.inl (by decide)
    · rw [if_neg h1]; exact Or.inr ⟨(Lib.index t [125, 13, 10]).toNat + 1, by omega, by omega⟩
  | e + 1, x :: t, hn, h, hp => by
    have hx : x ≠ 125 := fun e => hn 0 (by omega) (by rw [e]; rfl)
    have ih := idx_off e t (fun j hj => by have := hn (j + 1) (by omega); simpa using this) (by simpa using h) (by simpa using hp)
    have hg := Lib.index_ge t [125, 13, 10]
    rw [index_cons, if_neg (by simp [List.isPrefixOf, Ne.symm hx])]
    rcases ih with ih | ⟨i, h1, h2⟩
    · rw [if_pos (by omega)]; exact Or.inl (by decide)
    · rw [if_neg (by omega), h2]; exact Or.inr ⟨i + 1, by omega, by omega⟩
theorem idx_none : ∀ (t : Tx), (∀ j : Nat, t[j]? ≠ some 125) → Lib.index t [125, 13, 10] < 0
  | [], _ => by decide
  | x :: t, hn => by
    have hx : x ≠ 125 := fun e => hn 0 (by rw [e]; rfl)
    have ih := idx_none t fun j => by have := hn (j + 1); simpa using this
    have hg := Lib.index_ge t [125, 13, 10]
    rw [index_cons, if_neg (by simp [List.isPrefixOf, Ne.symm hx]), if_pos (by omega)]
    decide
theorem numW_digits {l : Tx} {n : Nat} (h : numW l = some n) : ∀ c ∈ l, 48 ≤ c.toNat ∧ c.toNat ≤ 57 := by
  cases ha : Lib.atoiAll l with
  | ok z =>
    rw [numW_ok ha] at h
    split at h
    · next hq =>
      obtain ⟨h0, _, h2⟩ := hq
      have := itoa_digits z.toNat
      rw [Int.toNat_of_nonneg h0, h2] at this
      exact this
    · cases h
  | «syntax» => rw [numW_syntax ha] at h; cases h
  | range => rw [numW_range ha] at h; cases h
theorem counted_no {s : Tx} {p c : Nat} (h : Lib.indexByte (s.drop p) 125 < 0) : countedW s p c = .bad 3 p := by
  have hg := Lib.indexByte_ge (s.drop p) 125
  have hn := Lib.indexByte_none (show Lib.indexByte (s.drop p) 125 = -1 by omega)
  have hi := idx_none ((s.drop p).drop 1) fun j => by rw [List.getElem?_drop]; exact hn (1 + j)
  unfold countedW Lib.cut
  rw [if_neg (show ¬ 0 ≤ Lib.index ((s.drop p).drop 1) [125, 13, 10] by omega)]
  simp
theorem counted_yes {s : Tx} {p c e : Nat} (h : Lib.indexByte (s.drop p) 125 = ((e + 1 : Nat) : Int)) :
    countedW s p c = match numW ((s.drop (p + 1)).take e) with
      | none => .bad 3 p
      | some n => if ([13, 10] : Tx).isPrefixOf (s.drop (p + e + 2)) = true ∧ n + (p + e + 4) ≤ s.length then .ok ((s.drop (p + e + 4)).take n) (p + e + 4 + n) c else .bad 3 p := by
  obtain ⟨h1, h2⟩ := Lib.indexByte_some h
  have ht : (s.drop p).drop 1 = s.drop (p + 1) := by rw [List.drop_drop]
  have h3 : (s.drop (p + 1))[e]? = some 125 := by rw [List.getElem?_drop] at h1 ⊢; rw [show p + 1 + e = p + (e + 1) by omega]; exact h1
  have h4 : ∀ j, j < e → (s.drop (p + 1))[j]? ≠ some 125 := fun j hj => by
    have := h2 (j + 1) (by omega)
    rw [List.getElem?_drop] at this ⊢
    rw [show p + 1 + j = p + (j + 1) by omega]
    exact this
  have hd : (s.drop (p + 1)).drop (e + 1) = s.drop (p + e + 2) := by rw [List.drop_drop, show p + 1 + (e + 1) = p + e + 2 by omega]
  unfold countedW
  rw [ht]
  cases hp : ([13, 10] : Tx).isPrefixOf (s.drop (p + e + 2)) with
  | true =>
    have hi := idx_at e _ h4 h3 (by rw [hd]; exact hp)
    have hc : Lib.cut (s.drop (p + 1)) [125, 13, 10] = ((s.drop (p + 1)).take e, s.drop (p + e + 4), true) := by
      unfold Lib.cut
      rw [hi, if_pos (by omega), Int.toNat_natCast, List.drop_drop]
      rw [show p + 1 + (e + ([125, 13, 10] : Tx).length) = p + e + 4 by simp; omega]
    rw [hc]
    simp only [Bool.true_eq_false, if_false, true_and]
    have hlen : 2 ≤ (s.drop (p + e + 2)).length := by
      rw [List.isPrefixOf_iff_prefix] at hp
      exact hp.length_le
    rw [List.length_drop] at hlen
    cases hn : numW ((s.drop (p + 1)).take e) with
    | none => rfl
    | some n =>
      simp only [List.length_drop]
      by_cases hb : n + (p + e + 4) ≤ s.length
      · rw [if_neg (by omega), if_pos hb, show s.length - (s.length - (p + e + 4)) + n = p + e + 4 + n by omega]
      · rw [if_pos (by omega), if_neg hb]
  | false =>
    have hR : (match numW ((s.drop (p + 1)).take e) with
      | none => Wd.bad 3 p
      | some n => if (false = true) ∧ n + (p + e + 4) ≤ s.length then .ok ((s.drop (p + e + 4)).take n) (p + e + 4 + n) c else .bad 3 p) = .bad 3 p := by
      cases numW ((s.drop (p + 1)).take e) with
      | none => rfl
      | some n => simp
    rw [hR]
    rcases idx_off e _ h4 h3 (by rw [hd]; exact hp) with hi | ⟨i, hi, hx⟩
    · unfold Lib.cut
      rw [if_neg (show ¬ 0 ≤ Lib.index (s.drop (p + 1)) [125, 13, 10] by omega)]
      simp
    · have hc1 : (Lib.cut (s.drop (p + 1)) [125, 13, 10]).1 = (s.drop (p + 1)).take i := by
        unfold Lib.cut
        rw [hx, if_pos (by omega), Int.toNat_natCast]
      have hnn : numW ((s.drop (p + 1)).take i) = none := by
        cases hn : numW ((s.drop (p + 1)).take i) with
        | none => rfl
        | some n =>
          exfalso
          have hm : (125 : UInt8) ∈ (s.drop (p + 1)).take i := by
            have : ((s.drop (p + 1)).take i)[e]? = some 125 := by rw [List.getElem?_take_of_lt hi]; exact h3
            exact List.mem_of_getElem? this
          have := numW_digits hn 125 hm
          revert this
          decide
      rw [hc1, hnn]
      split <;> rfl
end Go.Proofs.YtmcpohnilgbicaaGreatDoor
namespace Go.Proofs.YtmcpohnilgbicaaGreatDoor
open Go.RowKit Go.Proofs.Aid Go.Proofs.Hd

/-- The document's reader in memory: the text, where it is, how many parts it counted, what was wrong first. -/
def CdW (w : World) (cb : Nat) (s : ByteArray) (p c : Nat) (e q : Int) : Prop := w.heap[cb]? = some (.cells #[.string s, .int .i64 (p : Int), .int .i64 (c : Int), .int .i64 e, .int .i64 q] 55 (0, 0))
theorem CdW.kept {w w' : World} {cb p c : Nat} {s : ByteArray} {e q : Int} (h : CdW w cb s p c e q) (hb : w'.heap[cb]? = w.heap[cb]?) : CdW w' cb s p c e q := hb.trans h
theorem CdW.lt {w : World} {cb p c : Nat} {s : ByteArray} {e q : Int} (h : CdW w cb s p c e q) : cb < w.heap.size := (Array.getElem?_eq_some_iff.1 h).1
/-- Nothing is wrong, as the document writes it. -/
def FineAt (w : World) : Prop := w.cell? ⟨0, 0, none⟩ = some (.int .i64 0) ∧ w.cell? ⟨0, 1, none⟩ = some (.int .i64 (-1))
theorem FineAt.but {w W : World} {cb : Nat} (h : FineAt w) (hb : But w.heap.size cb w W) (hc : cb ≠ 0) : FineAt W :=
  ⟨(hb.cell (World.block_lt_of_cell? _ _ h.1) (Ne.symm hc)).trans h.1, (hb.cell (World.block_lt_of_cell? _ _ h.2) (Ne.symm hc)).trans h.2⟩
theorem FineAt.below {w W : World} {B : Nat} (h : FineAt w) (hb : Below B w W) (hB : w.heap.size ≤ B) : FineAt W :=
  ⟨(hb.cell (Nat.lt_of_lt_of_le (World.block_lt_of_cell? _ _ h.1) hB)).trans h.1, (hb.cell (Nat.lt_of_lt_of_le (World.block_lt_of_cell? _ _ h.2) hB)).trans h.2⟩
set_option maxHeartbeats 1000000 in
theorem rok_yes (cb p c : Nat) (s : ByteArray) (w : World) (hr : CdW w cb s p c 0 (-1)) (hf : FineAt w) :
    Calls Tryz.prog 23 #[.pointer (some ⟨cb, 0, none⟩)] w fun e w' => e = .returned (.bool true) ∧ Below w.heap.size w w' := by
  have p3 : w.cell? ⟨cb, 3, none⟩ = some (.int .i64 0) := rd_cell hr rfl
  have p4 : w.cell? ⟨cb, 4, none⟩ = some (.int .i64 (-1)) := rd_cell hr rfl
  obtain ⟨f0, f1⟩ := hf
  clear hr
  go_enter Tryz.func23, Tryz.ntmps23
  go_wp2_with fail
  go_region
  all_goals
    go_wp2_with fail
    go_ret
    exact ⟨rfl, (Below.refl _ _).drew⟩
set_option maxHeartbeats 1000000 in
theorem rok_no (cb p c : Nat) (E q : Int) (s : ByteArray) (w : World) (hr : CdW w cb s p c E q) (hE : E ≠ 0) (hf : FineAt w) :
    Calls Tryz.prog 23 #[.pointer (some ⟨cb, 0, none⟩)] w fun e w' => e = .returned (.bool false) ∧ Below w.heap.size w w' := by
  have p3 : w.cell? ⟨cb, 3, none⟩ = some (.int .i64 E) := rd_cell hr rfl
  have p4 : w.cell? ⟨cb, 4, none⟩ = some (.int .i64 q) := rd_cell hr rfl
  have hb : (E == 0) = false := by simpa using hE
  obtain ⟨f0, f1⟩ := hf
  clear hr
  go_enter Tryz.func23, Tryz.ntmps23
  go_wp2_with fail
  go_region
  all_goals
    go_wp2_with fail
    go_ret
    exact ⟨rfl, (Below.refl _ _).drew⟩
set_option maxHeartbeats 1000000 in
theorem rfail_yes (cb p c : Nat) (n : Int) (s : ByteArray) (w : World) (hr : CdW w cb s p c 0 (-1)) (hf : FineAt w) :
    Calls Tryz.prog 27 #[.pointer (some ⟨cb, 0, none⟩), .int .i64 n] w fun e w' => e = .returned (.tuple #[]) ∧ CdW w' cb s p c n (p : Int) ∧ But w.heap.size cb w w' := by
  have cO := rok_yes cb p c s w hr hf
  have HR : Hid (CdW w cb s p c 0 (-1)) := hr
  clear hr hf
  go_enter Tryz.func27, Tryz.ntmps27
  go_wp2_with fail
  refine cO.mono ?_
  rintro e w1 ⟨rfl, hb⟩
  have hr1 : CdW w1 cb s p c 0 (-1) := HR.out.kept (hb.block cb HR.out.lt)
  have p1 : w1.cell? ⟨cb, 1, none⟩ = some (.int .i64 (p : Int)) := rd_cell hr1 rfl
  have p3 : w1.cell? ⟨cb, 3, none⟩ = some (.int .i64 0) := rd_cell hr1 rfl
  have p4 : w1.cell? ⟨cb, 4, none⟩ = some (.int .i64 (-1)) := rd_cell hr1 rfl
  have f3 : w1.frozen? ⟨cb, 3, none⟩ = false := rd_free hr1 3
  have f4 : w1.frozen? ⟨cb, 4, none⟩ = false := rd_free hr1 4
  have h3 := rd_set (i := 3) (.int .i64 n) hr1
  have h4 := rd_set (i := 4) (.int .i64 (p : Int)) h3
  have HD : Hid (CdW ((w1.setCell ⟨cb, 3, none⟩ (.int .i64 n)).setCell ⟨cb, 4, none⟩ (.int .i64 (p : Int))) cb s p c n (p : Int) ∧ But w.heap.size cb w ((w1.setCell ⟨cb, 3, none⟩ (.int .i64 n)).setCell ⟨cb, 4, none⟩ (.int .i64 (p : Int)))) := ⟨h4, ((to_but hb).setB 3 _).setB 4 _⟩
  clear cO hb hr1 h3 h4
  go_wp2_with fail
  go_end0
  exact ⟨rfl, HD.out⟩
set_option maxHeartbeats 1000000 in
theorem rfail_no (cb p c : Nat) (n E q : Int) (s : ByteArray) (w : World) (hr : CdW w cb s p c E q) (hE : E ≠ 0) (hf : FineAt w) :
    Calls Tryz.prog 27 #[.pointer (some ⟨cb, 0, none⟩), .int .i64 n] w fun e w' => e = .returned (.tuple #[]) ∧ Below w.heap.size w w' := by
  have cO := rok_no cb p c E q s w hr hE hf
  clear hr hf
  go_enter Tryz.func27, Tryz.ntmps27
  go_wp2_with fail
  refine cO.mono ?_
  rintro e w1 ⟨rfl, hb⟩
  have HD : Hid (Below w.heap.size w w1) := hb
  clear cO hb
  go_wp2_with fail
  go_end0
  exact ⟨rfl, HD.out⟩
set_option maxHeartbeats 2000000 in
set_option maxRecDepth 100000 in
theorem rsee_yes (cb p c : Nat) (b : UInt8) (s : ByteArray) (w : World) (hr : CdW w cb s p c 0 (-1)) (hf : FineAt w) (hs : s.size ≤ 1000000) (h : seeW s.data.toList p = some b) :
    Calls Tryz.prog 49 #[.pointer (some ⟨cb, 0, none⟩)] w fun e w' => e = .returned (.tuple #[.int .u8 (b.toNat : Int), .bool true]) ∧ Below w.heap.size w w' := by
  obtain ⟨hlt, hb⟩ := see_some h
  rw [wsize] at hlt
  have HR : Hid (CdW w cb s p c 0 (-1) ∧ FineAt w) := ⟨hr, hf⟩
  have cO : ∀ W, Below w.heap.size w W → Calls Tryz.prog 23 #[.pointer (some ⟨cb, 0, none⟩)] W fun e w' => e = .returned (.bool true) ∧ Below w.heap.size w w' := fun W hW =>
    (rok_yes cb p c s W (HR.out.1.kept (hW.block cb HR.out.1.lt)) (HR.out.2.below hW (Nat.le_refl _))).mono fun e w' h => ⟨h.1, hW.trans (h.2.mono hW.size)⟩
  have hlt2 : p < s.size := by omega
  have hsb : (s[p]'hlt2) = b := by
    rw [List.getElem?_eq_getElem (by rw [wsize]; exact hlt2)] at hb
    injection hb with hb
  obtain ⟨Z, hZ⟩ : ∃ Z : Nat, Z = s.size - 2 := ⟨_, rfl⟩
  have hwr : IntKind.i64.wrap ((s.size : Int) - 2) = (Z : Int) := by rw [IntKind.wrap_i64]; omega
  have d1 : decide (Z ≤ p) = false := decide_eq_false (by omega)
  have K : Hid (∀ W, Below w.heap.size w W → W.cell? ⟨cb, 0, none⟩ = some (.string s) ∧ W.cell? ⟨cb, 1, none⟩ = some (.int .i64 (p : Int))) := fun W hW => ⟨(hW.cell HR.out.1.lt).trans (rd_cell HR.out.1 rfl), (hW.cell HR.out.1.lt).trans (rd_cell HR.out.1 rfl)⟩
  clear hr hf h hb
  go_enter Tryz.func49, Tryz.ntmps49
  go_wp2_with fail
  first
    | (go_region_held3 (fun W => W.cell? ⟨cb, 0, none⟩ = some (.string s) ∧ W.cell? ⟨cb, 1, none⟩ = some (.int .i64 (p : Int)))
        ((refine K.out _ ?_; (repeat (first | (with_reducible assumption) | (with_reducible refine Below.drew ?_) | (with_reducible exact Below.refl _ _)))))
        (first | (go_at_call 23; with_reducible refine (cO _ ?_).mono ?_; (focus (repeat (first | (with_reducible assumption) | (with_reducible refine Below.drew ?_) | (with_reducible exact Below.refl _ _)))); rintro e wA ⟨rfl, kA⟩)))
    | fail
  all_goals
    obtain ⟨k0, k1⟩ := K.out _ kA
    go_wp2_with fail
    go_region
  all_goals
    go_wp2_with fail
    go_ret2
    exact ⟨by rw [← hsb]; rfl, kA.drew⟩
set_option maxHeartbeats 2000000 in
set_option maxRecDepth 100000 in
theorem rsee_end (cb p c : Nat) (s : ByteArray) (w : World) (hr : CdW w cb s p c 0 (-1)) (hf : FineAt w) (hs : s.size ≤ 1000000) (h2 : 2 ≤ s.size) (h : seeW s.data.toList p = none) :
    Calls Tryz.prog 49 #[.pointer (some ⟨cb, 0, none⟩)] w fun e w' => e = .returned (.tuple #[.int .u8 0, .bool false]) ∧ Below w.heap.size w w' := by
  have hlt := see_none h
  rw [wsize] at hlt
  have HR : Hid (CdW w cb s p c 0 (-1) ∧ FineAt w) := ⟨hr, hf⟩
  have cO : ∀ W, Below w.heap.size w W → Calls Tryz.prog 23 #[.pointer (some ⟨cb, 0, none⟩)] W fun e w' => e = .returned (.bool true) ∧ Below w.heap.size w w' := fun W hW =>
    (rok_yes cb p c s W (HR.out.1.kept (hW.block cb HR.out.1.lt)) (HR.out.2.below hW (Nat.le_refl _))).mono fun e w' h => ⟨h.1, hW.trans (h.2.mono hW.size)⟩
  obtain ⟨Z, hZ⟩ : ∃ Z : Nat, Z = s.size - 2 := ⟨_, rfl⟩
  have hwr : IntKind.i64.wrap ((s.size : Int) - 2) = (Z : Int) := by rw [IntKind.wrap_i64]; omega
  have d1 : decide (Z ≤ p) = true := decide_eq_true (by omega)
  have K : Hid (∀ W, Below w.heap.size w W → W.cell? ⟨cb, 0, none⟩ = some (.string s) ∧ W.cell? ⟨cb, 1, none⟩ = some (.int .i64 (p : Int))) := fun W hW => ⟨(hW.cell HR.out.1.lt).trans (rd_cell HR.out.1 rfl), (hW.cell HR.out.1.lt).trans (rd_cell HR.out.1 rfl)⟩
  clear hr hf h
  go_enter Tryz.func49, Tryz.ntmps49
  go_wp2_with fail
  first
    | (go_region_held3 (fun W => W.cell? ⟨cb, 0, none⟩ = some (.string s) ∧ W.cell? ⟨cb, 1, none⟩ = some (.int .i64 (p : Int)))
        ((refine K.out _ ?_; (repeat (first | (with_reducible assumption) | (with_reducible refine Below.drew ?_) | (with_reducible exact Below.refl _ _)))))
        (first | (go_at_call 23; with_reducible refine (cO _ ?_).mono ?_; (focus (repeat (first | (with_reducible assumption) | (with_reducible refine Below.drew ?_) | (with_reducible exact Below.refl _ _)))); rintro e wA ⟨rfl, kA⟩)))
    | fail
  all_goals
    go_wp2_with fail
    go_ret2
    exact ⟨rfl, kA⟩
set_option maxHeartbeats 2000000 in
set_option maxRecDepth 100000 in
theorem rsee_bad (cb p c : Nat) (E q : Int) (s : ByteArray) (w : World) (hr : CdW w cb s p c E q) (hE : E ≠ 0) (hf : FineAt w) :
    Calls Tryz.prog 49 #[.pointer (some ⟨cb, 0, none⟩)] w fun e w' => e = .returned (.tuple #[.int .u8 0, .bool false]) ∧ Below w.heap.size w w' := by
  have HR : Hid (CdW w cb s p c E q ∧ FineAt w) := ⟨hr, hf⟩
  have cO : ∀ W, Below w.heap.size w W → Calls Tryz.prog 23 #[.pointer (some ⟨cb, 0, none⟩)] W fun e w' => e = .returned (.bool false) ∧ Below w.heap.size w w' := fun W hW =>
    (rok_no cb p c E q s W (HR.out.1.kept (hW.block cb HR.out.1.lt)) hE (HR.out.2.below hW (Nat.le_refl _))).mono fun e w' h => ⟨h.1, hW.trans (h.2.mono hW.size)⟩
  clear hr hf
  go_enter Tryz.func49, Tryz.ntmps49
  go_wp2_with fail
  refine wp_region_any (by kernel_rfl) ?_
  change wpAny _ _ _ _ _ _ _ (World.drew _)
  refine wpAny_take (i := 0) (v := ?_) rfl (by kernel_rfl) (by kernel_rfl) (by kernel_rfl) (fun _ _ _ h => h) (Or.inl ⟨by rfl, ?_⟩) ?_
  rotate_left
  · intro w; go_simp; with_reducible rfl
  change wpAny _ _ _ _ _ _ (Act.put _ (some 4) _) _; simp only [Act.put, List.setIfInBounds_toArray, List.set_cons_zero, List.set_cons_succ]
  refine wpAny_ready (rs := [1]) (by kernel_rfl) (by simp) ?_
  refine AllReady.cons rfl (fun K hK => ?_) AllReady.nil
  go_simp
  refine (cO _ (Below.refl _ _).drew).mono ?_
  rintro e wA ⟨rfl, kA⟩
  refine hK _ _ ?_
  clear hK K
  refine wpAny_take (i := 2) (v := ?_) rfl (by kernel_rfl) (by kernel_rfl) (by kernel_rfl) (fun _ _ _ h => h) (Or.inl ⟨by rfl, ?_⟩) ?_
  rotate_left
  · intro w; go_simp; with_reducible rfl
  change wpAny _ _ _ _ _ _ (Act.put _ (some 6) _) _; simp only [Act.put, List.setIfInBounds_toArray, List.set_cons_zero, List.set_cons_succ]
  refine wpAny_take (i := 3) (v := ?_) rfl (by kernel_rfl) (by kernel_rfl) (by kernel_rfl) (fun _ _ _ h => h) (Or.inl ⟨by rfl, ?_⟩) ?_
  rotate_left
  · intro w; go_simp; with_reducible rfl
  change wpAny _ _ _ _ _ _ (Act.put _ (some 7) _) _; simp only [Act.put, List.setIfInBounds_toArray, List.set_cons_zero, List.set_cons_succ]
  refine wpAny_take (i := 4) (v := undef) rfl (by kernel_rfl) (by kernel_rfl) (by kernel_rfl) (fun _ _ _ h => h) (Or.inr ⟨by rfl, rfl⟩) ?_
  change wpAny _ _ _ _ _ _ (Act.put _ (some 8) _) _; simp only [Act.put, List.setIfInBounds_toArray, List.set_cons_zero, List.set_cons_succ]
  refine wpAny_take (i := 5) (v := undef) rfl (by kernel_rfl) (by kernel_rfl) (by kernel_rfl) (fun _ _ _ h => h) (Or.inr ⟨by rfl, rfl⟩) ?_
  change wpAny _ _ _ _ _ _ (Act.put _ (some 9) _) _; simp only [Act.put, List.setIfInBounds_toArray, List.set_cons_zero, List.set_cons_succ]
  refine wpAny_take (i := 6) (v := undef) rfl (by kernel_rfl) (by kernel_rfl) (by kernel_rfl) (fun _ _ _ h => h) (Or.inr ⟨by rfl, rfl⟩) ?_
  change wpAny _ _ _ _ _ _ (Act.put _ (some 10) _) _; simp only [Act.put, List.setIfInBounds_toArray, List.set_cons_zero, List.set_cons_succ]
  refine wpAny_take (i := 7) (v := undef) rfl (by kernel_rfl) (by kernel_rfl) (by kernel_rfl) (fun _ _ _ h => h) (Or.inr ⟨by rfl, rfl⟩) ?_
  change wpAny _ _ _ _ _ _ (Act.put _ (some 11) _) _; simp only [Act.put, List.setIfInBounds_toArray, List.set_cons_zero, List.set_cons_succ]
  refine wpAny_take (i := 8) (v := undef) rfl (by kernel_rfl) (by kernel_rfl) (by kernel_rfl) (fun _ _ _ h => h) (Or.inr ⟨by rfl, rfl⟩) ?_
  change wpAny _ _ _ _ _ _ (Act.put _ (some 12) _) _; simp only [Act.put, List.setIfInBounds_toArray, List.set_cons_zero, List.set_cons_succ]
  refine wpAny_take (i := 9) (v := undef) rfl (by kernel_rfl) (by kernel_rfl) (by kernel_rfl) (fun _ _ _ h => h) (Or.inr ⟨by rfl, rfl⟩) ?_
  change wpAny _ _ _ _ _ _ (Act.put _ (some 13) _) _; simp only [Act.put, List.setIfInBounds_toArray, List.set_cons_zero, List.set_cons_succ]
  refine wpAny_take (i := 10) (v := undef) rfl (by kernel_rfl) (by kernel_rfl) (by kernel_rfl) (fun _ _ _ h => h) (Or.inr ⟨by rfl, rfl⟩) ?_
  change wpAny _ _ _ _ _ _ (Act.put _ (some 14) _) _; simp only [Act.put, List.setIfInBounds_toArray, List.set_cons_zero, List.set_cons_succ]
  refine wpAny_take (i := 11) (v := undef) rfl (by kernel_rfl) (by kernel_rfl) (by kernel_rfl) (fun _ _ _ h => h) (Or.inr ⟨by rfl, rfl⟩) ?_
  change wpAny _ _ _ _ _ _ (Act.put _ (some 15) _) _; simp only [Act.put, List.setIfInBounds_toArray, List.set_cons_zero, List.set_cons_succ]
  refine wpAny_take (i := 12) (v := undef) rfl (by kernel_rfl) (by kernel_rfl) (by kernel_rfl) (fun _ _ _ h => h) (Or.inr ⟨by rfl, rfl⟩) ?_
  change wpAny _ _ _ _ _ _ (Act.put _ (some 16) _) _; simp only [Act.put, List.setIfInBounds_toArray, List.set_cons_zero, List.set_cons_succ]
  refine wpAny_take (i := 13) (v := undef) rfl (by kernel_rfl) (by kernel_rfl) (by kernel_rfl) (fun _ _ _ h => h) (Or.inr ⟨by rfl, rfl⟩) ?_
  change wpAny _ _ _ _ _ _ (Act.put _ (some 17) _) _; simp only [Act.put, List.setIfInBounds_toArray, List.set_cons_zero, List.set_cons_succ]
  refine wpAny_take (i := 14) (v := undef) rfl (by kernel_rfl) (by kernel_rfl) (by kernel_rfl) (fun _ _ _ h => h) (Or.inr ⟨by rfl, rfl⟩) ?_
  change wpAny _ _ _ _ _ _ (Act.put _ (some 18) _) _; simp only [Act.put, List.setIfInBounds_toArray, List.set_cons_zero, List.set_cons_succ]
  refine wpAny_take (i := 15) (v := ?_) rfl (by kernel_rfl) (by kernel_rfl) (by kernel_rfl) (fun _ _ _ h => h) (Or.inl ⟨by rfl, ?_⟩) ?_
  rotate_left
  · intro w; go_simp; with_reducible rfl
  change wpAny _ _ _ _ _ _ (Act.put _ (some 19) _) _; simp only [Act.put, List.setIfInBounds_toArray, List.set_cons_zero, List.set_cons_succ]
  refine wpAny_done (by kernel_rfl) ?_ _
  go_wp2_with fail
  go_ret2
  exact ⟨rfl, kA⟩
set_option maxHeartbeats 1000000 in
theorem rgap_yes (cb p c : Nat) (s : ByteArray) (w : World) (hr : CdW w cb s p c 0 (-1)) (hf : FineAt w) (hs : s.size ≤ 1000000) (h : seeW s.data.toList p = some 32) :
    Calls Tryz.prog 24 #[.pointer (some ⟨cb, 0, none⟩)] w fun e w' => e = .returned (.tuple #[]) ∧ CdW w' cb s (p + 1) c 0 (-1) ∧ But w.heap.size cb w w' := by
  have cS := rsee_yes cb p c 32 s w hr hf hs h
  rw [show ((32 : UInt8).toNat : Int) = 32 from rfl] at cS
  have hlt := (see_some h).1
  rw [wsize] at hlt
  have HR : Hid (CdW w cb s p c 0 (-1)) := hr
  clear hr hf h
  go_enter Tryz.func24, Tryz.ntmps24
  go_wp2_with fail
  refine cS.mono ?_
  rintro e w1 ⟨rfl, hb⟩
  have hr1 : CdW w1 cb s p c 0 (-1) := HR.out.kept (hb.block cb HR.out.lt)
  have p1 : w1.cell? ⟨cb, 1, none⟩ = some (.int .i64 (p : Int)) := rd_cell hr1 rfl
  have f1 : w1.frozen? ⟨cb, 1, none⟩ = false := rd_free hr1 1
  have hset : CdW (w1.setCell ⟨cb, 1, none⟩ (.int .i64 ((p : Int) + 1))) cb s (p + 1) c 0 (-1) := rd_set (i := 1) (.int .i64 ((p : Int) + 1)) hr1
  have HD : Hid (CdW (w1.setCell ⟨cb, 1, none⟩ (.int .i64 ((p : Int) + 1))) cb s (p + 1) c 0 (-1) ∧ But w.heap.size cb w (w1.setCell ⟨cb, 1, none⟩ (.int .i64 ((p : Int) + 1)))) := ⟨hset, (to_but hb).setB 1 _⟩
  clear cS hb hr1 hset
  go_wp2_with fail
  go_end0
  exact ⟨rfl, HD.out⟩
set_option maxHeartbeats 1000000 in
theorem rgap_no (cb p c : Nat) (s : ByteArray) (w : World) (hr : CdW w cb s p c 0 (-1)) (hf : FineAt w) (hs : s.size ≤ 1000000) (h2 : 2 ≤ s.size) (h : seeW s.data.toList p ≠ some 32) :
    Calls Tryz.prog 24 #[.pointer (some ⟨cb, 0, none⟩)] w fun e w' => e = .returned (.tuple #[]) ∧ CdW w' cb s p c 3 (p : Int) ∧ But w.heap.size cb w w' := by
  have HR : Hid (CdW w cb s p c 0 (-1) ∧ FineAt w) := ⟨hr, hf⟩
  cases hq : seeW s.data.toList p with
  | none =>
    have cS := rsee_end cb p c s w hr hf hs h2 hq
    clear hr hf h hq
    go_enter Tryz.func24, Tryz.ntmps24
    go_wp2_with fail
    refine cS.mono ?_
    rintro e w1 ⟨rfl, hb⟩
    have cF := rfail_yes cb p c 3 s w1 (HR.out.1.kept (hb.block cb HR.out.1.lt)) (HR.out.2.below hb (Nat.le_refl _))
    have HB : Hid (Below w.heap.size w w1) := hb
    clear cS hb
    go_wp2_with fail
    refine cF.mono ?_
    rintro e w2 ⟨rfl, hr2, hb2⟩
    have HD : Hid (CdW w2 cb s p c 3 (p : Int) ∧ But w.heap.size cb w w2) := ⟨hr2, (to_but HB.out).trans (hb2.less HB.out.size)⟩
    clear cF hr2 hb2
    go_wp2_with fail
    (try simp only [Exit.inBlock, Exit.then]); refine bodyPost_ret (results_none rfl _ _ _) rfl ?_
    exact ⟨rfl, HD.out⟩
  | some b =>
    have cS := rsee_yes cb p c b s w hr hf hs hq
    have hb32 : b ≠ 32 := fun e => h (by rw [hq, e])
    have d1 : ((b.toNat : Int) != 32) = true := by
      rw [bne_iff_ne]
      intro e
      exact hb32 (UInt8.toNat_inj.1 (by show b.toNat = 32; omega))
    clear hr hf h hq
    go_enter Tryz.func24, Tryz.ntmps24
    go_wp2_with fail
    refine cS.mono ?_
    rintro e w1 ⟨rfl, hb⟩
    have cF := rfail_yes cb p c 3 s w1 (HR.out.1.kept (hb.block cb HR.out.1.lt)) (HR.out.2.below hb (Nat.le_refl _))
    have HB : Hid (Below w.heap.size w w1) := hb
    clear cS hb
    go_wp2_with fail
    refine cF.mono ?_
    rintro e w2 ⟨rfl, hr2, hb2⟩
    have HD : Hid (CdW w2 cb s p c 3 (p : Int) ∧ But w.heap.size cb w w2) := ⟨hr2, (to_but HB.out).trans (hb2.less HB.out.size)⟩
    clear cF hr2 hb2
    go_wp2_with fail
    (try simp only [Exit.inBlock, Exit.then]); refine bodyPost_ret (results_none rfl _ _ _) rfl ?_
    exact ⟨rfl, HD.out⟩
set_option maxHeartbeats 1000000 in
theorem rwordy_is (c : UInt8) (w : World) :
    Calls Tryz.prog 42 #[.int .u8 (c.toNat : Int)] w fun e w' => e = .returned (.bool (wordy c)) ∧ w' = w := by
  have h256 := c.toNat_lt
  have cI := ref_in (c.toNat : Int) 33 126 w
  have hw := wordy_iff c
  have hwr : wrap64 (c.toNat : Int) = (c.toNat : Int) := by unfold wrap64; omega
  by_cases h0 : 33 ≤ c.toNat ∧ c.toNat ≤ 126
  · rw [decide_eq_true (by omega)] at cI
    by_cases h1 : c.toNat = 40 ∨ c.toNat = 41 ∨ c.toNat = 123 ∨ c.toNat = 34
    · have hf : wordy c = false := by rw [hw]; rcases h1 with h | h | h | h <;> simp [h]
      rw [hf]
      clear hw hf
      rcases h1 with h | h | h | h
      all_goals
        rw [h] at cI hwr ⊢
        clear h0 h256 h
        go_enter Tryz.func42, Tryz.ntmps42
        go_wp2_with fail
        refine cI.mono ?_
        rintro e w1 ⟨rfl, hw⟩
        obtain rfl : w = w1 := hw.symm
        go_wp2_with fail
        go_ret
        exact ⟨rfl, rfl⟩
    · have hf : wordy c = true := by rw [hw]; simp; omega
      rw [hf]
      have q3 : ((c.toNat : Int) != 40) = true := by simp; omega
      have q4 : ((c.toNat : Int) != 41) = true := by simp; omega
      have q5 : ((c.toNat : Int) != 123) = true := by simp; omega
      have q6 : ((c.toNat : Int) != 34) = true := by simp; omega
      clear hw hf h1
      go_enter Tryz.func42, Tryz.ntmps42
      go_wp2_with fail
      refine cI.mono ?_
      rintro e w1 ⟨rfl, hw⟩
      obtain rfl : w = w1 := hw.symm
      go_wp2_with fail
      go_ret
      exact ⟨rfl, rfl⟩
  · rw [decide_eq_false (by omega)] at cI
    have hf : wordy c = false := by rw [hw]; simp; omega
    rw [hf]
    clear hw hf
    go_enter Tryz.func42, Tryz.ntmps42
    go_wp2_with fail
    refine cI.mono ?_
    rintro e w1 ⟨rfl, hw⟩
    obtain rfl : w = w1 := hw.symm
    go_wp2_with fail
    go_ret
    exact ⟨rfl, rfl⟩
end Go.Proofs.YtmcpohnilgbicaaGreatDoor
namespace Go.Proofs.YtmcpohnilgbicaaGreatDoor
open Go.RowKit Go.Proofs.Aid Go.Proofs.Hd

/-- Where the document's reader is. -/
def posOf (w : World) (cb : Nat) : Nat := match w.cell? ⟨cb, 1, none⟩ with
  | some v => (intOf v).toNat
  | none => 0
theorem CdW.pos {w : World} {cb p c : Nat} {s : ByteArray} {e q : Int} (h : CdW w cb s p c e q) : posOf w cb = p := by
  have p1 : w.cell? ⟨cb, 1, none⟩ = some (.int .i64 (p : Int)) := rd_cell h rfl
  unfold posOf
  rw [p1]
  rfl
/-- What is seen. -/
def SeeAt (s : Tx) (p : Nat) (x : Int) (o : Bool) : Prop := (o = true ∧ ∃ b : UInt8, seeW s p = some b ∧ x = (b.toNat : Int)) ∨ (o = false ∧ seeW s p = none ∧ x = 0)
theorem rsee_any (cb p c : Nat) (s : ByteArray) (w : World) (hr : CdW w cb s p c 0 (-1)) (hf : FineAt w) (hs : s.size ≤ 1000000) (h2 : 2 ≤ s.size) :
    Calls Tryz.prog 49 #[.pointer (some ⟨cb, 0, none⟩)] w fun e w' => (∃ (x : Int) (o : Bool), e = .returned (.tuple #[.int .u8 x, .bool o]) ∧ SeeAt s.data.toList p x o) ∧ Below w.heap.size w w' := by
  cases hq : seeW s.data.toList p with
  | none => exact (rsee_end cb p c s w hr hf hs h2 hq).mono fun e w' h => ⟨⟨0, false, h.1, Or.inr ⟨rfl, hq, rfl⟩⟩, h.2⟩
  | some b => exact (rsee_yes cb p c b s w hr hf hs hq).mono fun e w' h => ⟨⟨_, true, h.1, Or.inl ⟨rfl, b, hq, rfl⟩⟩, h.2⟩
/-- What a function of the document's reader that gives a text leaves. -/
def OutRT (w : World) (cb : Nat) (s : ByteArray) : Wd Tx → Ending → World → Prop
  | .bad n p, e, w' => ∃ (tb : ByteArray) (p' c' : Nat), e = .returned (.string tb) ∧ n ≠ 0 ∧ tb.size ≤ s.size ∧ CdW w' cb s p' c' n (p : Int) ∧ But w.heap.size cb w w'
  | .ok t p c, e, w' => ∃ tb : ByteArray, e = .returned (.string tb) ∧ tb.data.toList = t ∧ CdW w' cb s p c 0 (-1) ∧ But w.heap.size cb w w'
set_option maxHeartbeats 4000000 in
set_option maxRecDepth 100000 in
theorem rword_is (cb p c : Nat) (s : ByteArray) (w : World) (hr : CdW w cb s p c 0 (-1)) (hf : FineAt w) (hcf : cb ≠ 0) (hs : s.size ≤ 1000000) (hE : Ends s.data.toList) (hp : p + 2 ≤ s.size) :
    Calls Tryz.prog 22 #[.pointer (some ⟨cb, 0, none⟩)] w fun e w' => OutRT w cb s (wordW s.data.toList p c) e w' := by
  obtain ⟨T, hT⟩ : ∃ T, wordW s.data.toList p c = T := ⟨_, rfl⟩
  rw [hT]
  have HT : Hid (wordW s.data.toList p c = T) := hT
  have HE : Hid (Ends s.data.toList) := hE
  have HF : Hid (FineAt w) := hf
  have p1 : w.cell? ⟨cb, 1, none⟩ = some (.int .i64 (p : Int)) := rd_cell hr rfl
  have cS := rsee_any cb p c s w hr hf hs (by omega)
  have HR : Hid (CdW w cb s p c 0 (-1)) := hr
  clear hT hE hf hr
  go_enter Tryz.func22, Tryz.ntmps22
  go_wp2_with fail
  refine cS.mono ?_
  rintro e w1 ⟨⟨x, o, rfl, hso⟩, hb1⟩
  have HS : Hid (SeeAt s.data.toList p x o ∧ CdW w1 cb s p c 0 (-1) ∧ But w.heap.size cb w w1) := ⟨hso, HR.out.kept (hb1.block cb HR.out.lt), to_but hb1⟩
  clear cS hso hb1 HR p1
  go_wp2_with fail
  go_loopw [4, 5] (fun bv ov wr => ∃ (x : Int) (o : Bool) (q : Nat), bv = .int .u8 x ∧ ov = .bool o ∧ p ≤ q ∧ q + 2 ≤ s.size ∧ Hid (∀ j b, p ≤ j → j < q → s.data.toList[j]? = some b → wordy b = true) ∧ Hid (SeeAt s.data.toList q x o) ∧ CdW wr cb s q c 0 (-1) ∧ But w.heap.size cb w wr) (fun _ _ wr => s.size - posOf wr cb)
  case atStart => exact ⟨x, o, p, rfl, rfl, Nat.le_refl _, hp, fun j b h1 h2 => absurd h2 (by omega), HS.out.1, HS.out.2.1, HS.out.2.2⟩
  case round =>
    clear HS
    obtain ⟨x, o, q, rfl, rfl, hpq, hq2, HA, HSE, hr, hb⟩ := hrel
    have HM : Hid (posOf wr cb = q) := hr.pos
    rcases HSE.out with ⟨rfl, b, hse, rfl⟩ | ⟨rfl, hse, rfl⟩
    · have cW := rwordy_is b wr
      have HQ : Hid (seeW s.data.toList q = some b) := hse
      clear HSE hse
      cases hwb : wordy b with
      | true =>
        rw [hwb] at cW
        have hlt := (see_some HQ.out).1
        rw [wsize] at hlt
        have p1 : wr.cell? ⟨cb, 1, none⟩ = some (.int .i64 (q : Int)) := rd_cell hr rfl
        have f1 : wr.frozen? ⟨cb, 1, none⟩ = false := rd_free hr 1
        have hset : CdW (wr.setCell ⟨cb, 1, none⟩ (.int .i64 ((q : Int) + 1))) cb s (q + 1) c 0 (-1) := rd_set (i := 1) (.int .i64 ((q : Int) + 1)) hr
        have hb3 : But w.heap.size cb w (wr.setCell ⟨cb, 1, none⟩ (.int .i64 ((q : Int) + 1))) := hb.setB 1 _
        obtain ⟨W3, hW3⟩ : ∃ W, wr.setCell ⟨cb, 1, none⟩ (.int .i64 ((q : Int) + 1)) = W := ⟨_, rfl⟩
        rw [hW3] at hset hb3
        have cS := rsee_any cb (q + 1) c s W3 hset (HF.out.but hb3 hcf) hs (by omega)
        have HX : Hid (∀ j d, p ≤ j → j < q + 1 → s.data.toList[j]? = some d → wordy d = true) := fun j d h1 h2 h3 => by
          by_cases hjq : j = q
          · subst hjq
            rw [(see_some HQ.out).2] at h3
            injection h3 with h3
            rw [← h3]; exact hwb
          · exact HA.out j d h1 (by omega) h3
        have HR3 : Hid (CdW W3 cb s (q + 1) c 0 (-1) ∧ But w.heap.size cb w W3) := ⟨hset, hb3⟩
        clear hset hb3 hr hb hwb HQ HA HT
        go_wp2_with fail
        refine cW.mono ?_
        rintro e w2 ⟨rfl, hw⟩
        obtain rfl : wr = w2 := hw.symm
        clear cW hw
        go_wp2_with fail
        refine cS.mono ?_
        rintro e w4 ⟨⟨x4, o4, rfl, hso4⟩, hb4⟩
        have hbs := HR3.out.2.size
        have HD : Hid (SeeAt s.data.toList (q + 1) x4 o4 ∧ CdW w4 cb s (q + 1) c 0 (-1) ∧ But w.heap.size cb w w4) := ⟨hso4, HR3.out.1.kept (hb4.block cb HR3.out.1.lt), HR3.out.2.trans (to_but (hb4.mono hbs))⟩
        clear cS hso4 hb4 hbs HR3
        go_wp2_with fail
        go_roundw
        case rel => exact ⟨x4, o4, q + 1, rfl, rfl, by omega, by omega, HX, HD.out.1, HD.out.2.1, HD.out.2.2⟩
        case measure => rw [HM.out, HD.out.2.1.pos]; omega
      | false =>
        rw [hwb] at cW
        have HX : Hid (∀ d, seeW s.data.toList q = some d → wordy d = false) := fun d h => by
          rw [HQ.out] at h
          injection h with h
          rw [← h]; exact hwb
        clear hwb HQ
        go_wp2_with fail
        refine cW.mono ?_
        rintro e w2 ⟨rfl, hw⟩
        obtain rfl : wr = w2 := hw.symm
        clear cW hw
        have HW : Hid (wordW s.data.toList p c = if q = p then .bad 3 p else .ok ((s.data.toList.drop p).take (q - p)) q c) := word_by HE.out hpq (by rw [wsize]; exact hq2) HA.out HX.out
        clear HX
        have p1 : wr.cell? ⟨cb, 1, none⟩ = some (.int .i64 (q : Int)) := rd_cell hr rfl
        have p0 : wr.cell? ⟨cb, 0, none⟩ = some (.string s) := rd_cell hr rfl
        by_cases hqp : q = p
        · subst hqp
          have cF := rfail_yes cb q c 3 s wr hr (HF.out.but hb hcf)
          have HB : Hid (But w.heap.size cb w wr) := hb
          have HT1 : Hid (T = .bad 3 q) := by show T = _; rw [← HT.out, HW.out, if_pos rfl]
          clear hr hb HA HW HT HM
          go_wp2_with fail
          refine cF.mono ?_
          rintro e w3 ⟨rfl, hr3, hb3⟩
          have p1 : w3.cell? ⟨cb, 1, none⟩ = some (.int .i64 (q : Int)) := rd_cell hr3 rfl
          have p0 : w3.cell? ⟨cb, 0, none⟩ = some (.string s) := rd_cell hr3 rfl
          have HD : Hid (CdW w3.drew cb s q c 3 (q : Int) ∧ But w.heap.size cb w w3.drew) := ⟨hr3, (HB.out.trans (hb3.less HB.out.size)).trans (to_but (Below.refl _ _).drew)⟩
          clear cF hr3 hb3 HB
          have hqs : q ≤ s.size := by omega
          go_wp2_with fail
          go_region
          all_goals
            go_wp2_with fail
            go_ret
            rw [HT1.out]
            exact ⟨_, q, c, rfl, by decide, Nat.zero_le _, HD.out⟩
        · have HT1 : Hid (T = .ok ((s.data.toList.drop p).take (q - p)) q c) := by show T = _; rw [← HT.out, HW.out, if_neg hqp]
          have HD : Hid (CdW wr.drew cb s q c 0 (-1) ∧ But w.heap.size cb w wr.drew) := ⟨hr, hb.trans (to_but (Below.refl _ _).drew)⟩
          have hqb : ((q : Int) == (p : Int)) = false := by simp; omega
          have hqs : q ≤ s.size := by omega
          clear hr hb HA HW HT HM
          go_wp2_with fail
          go_region
          all_goals
            go_wp2_with fail
            go_ret
            rw [HT1.out]
            exact ⟨_, rfl, by rw [Lib.extract_data], HD.out⟩
    · have HX : Hid (∀ d, seeW s.data.toList q = some d → wordy d = false) := fun d h => by rw [hse] at h; cases h
      clear HSE hse
      have HW : Hid (wordW s.data.toList p c = if q = p then .bad 3 p else .ok ((s.data.toList.drop p).take (q - p)) q c) := word_by HE.out hpq (by rw [wsize]; exact hq2) HA.out HX.out
      clear HX
      have p1 : wr.cell? ⟨cb, 1, none⟩ = some (.int .i64 (q : Int)) := rd_cell hr rfl
      have p0 : wr.cell? ⟨cb, 0, none⟩ = some (.string s) := rd_cell hr rfl
      by_cases hqp : q = p
      · subst hqp
        have cF := rfail_yes cb q c 3 s wr hr (HF.out.but hb hcf)
        have HB : Hid (But w.heap.size cb w wr) := hb
        have HT1 : Hid (T = .bad 3 q) := by show T = _; rw [← HT.out, HW.out, if_pos rfl]
        clear hr hb HA HW HT HM
        go_wp2_with fail
        refine cF.mono ?_
        rintro e w3 ⟨rfl, hr3, hb3⟩
        have p1 : w3.cell? ⟨cb, 1, none⟩ = some (.int .i64 (q : Int)) := rd_cell hr3 rfl
        have p0 : w3.cell? ⟨cb, 0, none⟩ = some (.string s) := rd_cell hr3 rfl
        have HD : Hid (CdW w3.drew cb s q c 3 (q : Int) ∧ But w.heap.size cb w w3.drew) := ⟨hr3, (HB.out.trans (hb3.less HB.out.size)).trans (to_but (Below.refl _ _).drew)⟩
        clear cF hr3 hb3 HB
        have hqs : q ≤ s.size := by omega
        go_wp2_with fail
        go_region
        all_goals
          go_wp2_with fail
          go_ret
          rw [HT1.out]
          exact ⟨_, q, c, rfl, by decide, Nat.zero_le _, HD.out⟩
      · have HT1 : Hid (T = .ok ((s.data.toList.drop p).take (q - p)) q c) := by show T = _; rw [← HT.out, HW.out, if_neg hqp]
        have HD : Hid (CdW wr.drew cb s q c 0 (-1) ∧ But w.heap.size cb w wr.drew) := ⟨hr, hb.trans (to_but (Below.refl _ _).drew)⟩
        have hqb : ((q : Int) == (p : Int)) = false := by simp; omega
        have hqs : q ≤ s.size := by omega
        clear hr hb HA HW HT HM
        go_wp2_with fail
        go_region
        all_goals
          go_wp2_with fail
          go_ret
          rw [HT1.out]
          exact ⟨_, rfl, by rw [Lib.extract_data], HD.out⟩
end Go.Proofs.YtmcpohnilgbicaaGreatDoor
namespace Go.Proofs.YtmcpohnilgbicaaGreatDoor
open Go.RowKit Go.Proofs.Aid Go.Proofs.Hd

theorem conv_z (c : UInt8) (z : Int) (h : (c.toNat : Int) = z) (w : World) : (convert 69 9 (.slice (some ⟨w.heap.size, 0, none⟩) 1 1)).run Tryz.prog (w.alloc (.cells #[.int .u8 z] 5)) = .ok (.string ⟨#[c]⟩) (w.alloc (.cells #[.int .u8 z] 5)) := by
  subst h
  exact run_convert_bytes_back _ 69 9 5 ⟨w.heap.size, 0, none⟩ 1 [c] Tryz.underlying69 Tryz.underlying5 Tryz.underlying9 (fun j hj => by
    obtain rfl : j = 0 := by simpa using hj
    simp [Addr.add])
theorem back_list (c : UInt8) (t : ByteArray) : (t ++ (⟨#[c]⟩ : ByteArray)).data.toList = t.data.toList ++ [c] := by
  rw [Joins.data_append]
theorem back_size (c : UInt8) (t : ByteArray) : (t ++ (⟨#[c]⟩ : ByteArray)).size = t.size + 1 := by
  rw [Lib.size_eq, back_list, List.length_append, ← Lib.size_eq]; rfl
theorem gr_snoc {l : Tx} {k : Nat} (hk : k < l.length) : (l.take (k + 1)).map gr = (l.take k).map gr ++ [gr l[k]] := by
  rw [List.take_succ_eq_append_getElem hk, List.map_append]; rfl
set_option maxHeartbeats 1000000 in
set_option maxRecDepth 100000 in
theorem ref_great (s : ByteArray) (w : World) (hs : s.size ≤ 1000000) : Calls Tryz.prog 25 #[.string s] w fun e w' => (∃ t : ByteArray, e = .returned (.string t) ∧ t.data.toList = s.data.toList.map gr) ∧ Below w.heap.size w w' := by
  have hla : s.data.toList.length = s.size := by show s.data.toList.length = s.data.size; simp
  go_enter Tryz.func25, Tryz.ntmps25
  go_wp2
  go_loopw [3, 8] (fun ov i wr => ∃ (k : Nat) (t : ByteArray), i = .int .i64 (k : Int) ∧ k ≤ s.size ∧ ov = .string t ∧ t.size = k ∧ Hid (t.data.toList = (s.data.toList.take k).map gr) ∧ Below w.heap.size w wr) (fun _ i _ => s.size - (intOf i).toNat)
  case atStart => exact ⟨0, ⟨#[]⟩, rfl, Nat.zero_le _, rfl, rfl, rfl, Below.refl _ _⟩
  case round =>
    obtain ⟨k, t, rfl, hk, rfl, htk, HT, hbW⟩ := hrel
    by_cases hlt : k < s.size
    · have hkl : k < s.data.toList.length := by omega
      have hc := s[k].toNat_lt
      by_cases hq : 97 ≤ s[k].toNat ∧ s[k].toNat ≤ 122
      · have h1 : decide ((97 : Int) ≤ (s[k].toNat : Int)) = true := by simp; omega
        have h2 : decide ((s[k].toNat : Int) ≤ 122) = true := by simp; omega
        have hsm : (gr s[k]).toNat = s[k].toNat - 32 := by
          unfold gr; rw [if_pos hq, UInt8.toNat_sub_of_le _ _ (by rw [UInt8.le_iff_toNat_le]; show 32 ≤ _; omega)]
          rfl
        have hcv := conv_z (gr s[k]) ((s[k].toNat : Int) - 32) (by omega) wr
        obtain ⟨C, hC⟩ : ∃ C, gr s[k] = C := ⟨_, rfl⟩
        have HC : Hid (gr s.data.toList[k] = C) := hC
        rw [hC] at hcv
        have hsz : t.size + (⟨#[C]⟩ : ByteArray).size ≤ 1000001 := by show t.size + 1 ≤ _; omega
        clear hsm hC
        go_wp2
        go_roundw
        case rel => exact ⟨k + 1, t ++ ⟨#[C]⟩, by go_num, by omega, rfl, by rw [back_size, htk], by show _ = _; rw [back_list, gr_snoc hkl, HT.out, HC.out], hbW.alloc hbW.size _⟩
        case measure => simp [intOf]; omega
      · have hsm : gr s[k] = s[k] := by unfold gr; rw [if_neg hq]
        have hcv := conv_z s[k] (s[k].toNat : Int) rfl wr
        have HC : Hid (gr s.data.toList[k] = s[k]) := hsm
        have hsz : t.size + (⟨#[s[k]]⟩ : ByteArray).size ≤ 1000001 := by show t.size + 1 ≤ _; omega
        clear hsm
        by_cases h1 : 97 ≤ s[k].toNat
        · have h1' : decide ((97 : Int) ≤ (s[k].toNat : Int)) = true := by simp; omega
          have h2' : decide ((s[k].toNat : Int) ≤ 122) = false := by simp; omega
          go_wp2
          go_roundw
          case rel => exact ⟨k + 1, t ++ ⟨#[s[k]]⟩, by go_num, by omega, rfl, by rw [back_size, htk], by show _ = _; rw [back_list, gr_snoc hkl, HT.out, HC.out], hbW.alloc hbW.size _⟩
          case measure => simp [intOf]; omega
        · have h1' : decide ((97 : Int) ≤ (s[k].toNat : Int)) = false := by simp; omega
          go_wp2
          go_roundw
          case rel => exact ⟨k + 1, t ++ ⟨#[s[k]]⟩, by go_num, by omega, rfl, by rw [back_size, htk], by show _ = _; rw [back_list, gr_snoc hkl, HT.out, HC.out], hbW.alloc hbW.size _⟩
          case measure => simp [intOf]; omega
    · have HE : Hid (t.data.toList = s.data.toList.map gr) := by
        have := HT.out
        rw [List.take_of_length_le (by omega)] at this
        exact this
      clear htk
      go_wp2
      go_ret
      exact ⟨⟨t, rfl, HE.out⟩, hbW⟩
end Go.Proofs.YtmcpohnilgbicaaGreatDoor
namespace Go.Proofs.YtmcpohnilgbicaaGreatDoor
open Go.RowKit Go.Proofs.Aid Go.Proofs.Hd

theorem see_get {s : Tx} {q : Nat} {b : UInt8} (h : seeW s q = some b) : s.getD q 0 = b := by rw [List.getD_eq_getElem?_getD, (see_some h).2]; rfl
theorem see_cr {s : Tx} (hE : Ends s) {q : Nat} (hq : q + 2 ≤ s.length) (h : seeW s q = none) : s.getD q 0 = 13 ∧ s[q]? = some 13 := by
  have := see_none h
  have hcr := hE.cr
  rw [show s.length - 2 = q by omega] at hcr
  exact ⟨by rw [List.getD_eq_getElem?_getD, hcr]; rfl, hcr⟩
theorem not_took {s : Tx} {q : Nat} {x b : UInt8} (h : s[q]? = some b) (hn : b ≠ x) : ¬ tookW [x] s q = true := fun h1 => by
  have := took_one.1 h1
  rw [h] at this
  exact hn (Option.some.inj this)
theorem quo_end {s acc : Tx} (hE : Ends s) {q c f : Nat} (hq : q + 2 ≤ s.length) (h : seeW s q = none) : quotedW s q c acc (f + 1) = .bad 3 q := by
  obtain ⟨h1, h2⟩ := see_cr hE hq h
  rw [quotedW, if_neg (not_took h2 (by decide)), if_neg (not_took h2 (by decide)), h1, if_pos (by decide)]
theorem quo_shut {s acc : Tx} {q c f : Nat} (h : seeW s q = some 34) : quotedW s q c acc (f + 1) = .ok acc (q + 1) c := by
  rw [quotedW, if_pos (took_one.2 (see_some h).2)]
theorem quo_off {s acc : Tx} {q c f : Nat} {b : UInt8} (h : seeW s q = some b) (hb : b = 13 ∨ b = 10 ∨ b = 0) : quotedW s q c acc (f + 1) = .bad 3 q := by
  have h2 := (see_some h).2
  rw [quotedW, if_neg (not_took h2 (by rcases hb with rfl | rfl | rfl <;> decide)), if_neg (not_took h2 (by rcases hb with rfl | rfl | rfl <;> decide)), see_get h, if_pos (by rcases hb with rfl | rfl | rfl <;> decide)]
theorem quo_plain {s acc : Tx} {q c f : Nat} {b : UInt8} (h : seeW s q = some b) (h1 : b ≠ 34) (h2 : b ≠ 92) (h3 : b ≠ 13) (h4 : b ≠ 10) (h5 : b ≠ 0) : quotedW s q c acc (f + 1) = quotedW s (q + 1) c (acc ++ [b]) f := by
  have hs := (see_some h).2
  rw [quotedW, if_neg (not_took hs h1), if_neg (not_took hs h2), see_get h, if_neg (by unfold offQ; simp [h3, h4, h5])]
theorem quo_back_end {s acc : Tx} (hE : Ends s) {q c f : Nat} (hq : q + 1 + 2 ≤ s.length) (h : seeW s q = some 92) (h9 : seeW s (q + 1) = none) : quotedW s q c acc (f + 1) = .bad 3 (q + 1) := by
  have hs := (see_some h).2
  rw [quotedW, if_neg (not_took hs (by decide)), if_pos (took_one.2 hs), (see_cr hE hq h9).1, if_pos (by decide)]
theorem quo_back_off {s acc : Tx} {q c f : Nat} {b : UInt8} (h : seeW s q = some 92) (h9 : seeW s (q + 1) = some b) (h1 : b ≠ 34) (h2 : b ≠ 92) : quotedW s q c acc (f + 1) = .bad 3 (q + 1) := by
  have hs := (see_some h).2
  rw [quotedW, if_neg (not_took hs (by decide)), if_pos (took_one.2 hs), see_get h9, if_pos (by unfold offQ; simp [h1, h2])]
theorem quo_back {s acc : Tx} {q c f : Nat} {b : UInt8} (h : seeW s q = some 92) (h9 : seeW s (q + 1) = some b) (hb : b = 34 ∨ b = 92) : quotedW s q c acc (f + 1) = quotedW s (q + 2) c (acc ++ [b]) f := by
  have hs := (see_some h).2
  rw [quotedW, if_neg (not_took hs (by decide)), if_pos (took_one.2 hs), see_get h9, if_neg (by rcases hb with rfl | rfl <;> decide)]
set_option maxHeartbeats 4000000 in
set_option maxRecDepth 100000 in
theorem rquoted_is (cb p c : Nat) (s : ByteArray) (w : World) (hr : CdW w cb s p c 0 (-1)) (hf : FineAt w) (hcf : cb ≠ 0) (hs : s.size ≤ 1000000) (hE : Ends s.data.toList) (hp : p + 2 < s.size) :
    Calls Tryz.prog 50 #[.pointer (some ⟨cb, 0, none⟩)] w fun e w' => OutRT w cb s (quotedW s.data.toList (p + 1) c [] s.data.toList.length) e w' := by
  obtain ⟨T, hT⟩ : ∃ T, quotedW s.data.toList (p + 1) c [] s.data.toList.length = T := ⟨_, rfl⟩
  rw [hT]
  rw [wsize] at hT
  have HE : Hid (Ends s.data.toList) := hE
  have HF : Hid (FineAt w) := hf
  have p1 : w.cell? ⟨cb, 1, none⟩ = some (.int .i64 (p : Int)) := rd_cell hr rfl
  have f1 : w.frozen? ⟨cb, 1, none⟩ = false := rd_free hr 1
  have hset : CdW (w.setCell ⟨cb, 1, none⟩ (.int .i64 ((p : Int) + 1))) cb s (p + 1) c 0 (-1) := rd_set (i := 1) (.int .i64 ((p : Int) + 1)) hr
  have hbset : But w.heap.size cb w (w.setCell ⟨cb, 1, none⟩ (.int .i64 ((p : Int) + 1))) := (to_but (Below.refl _ _)).setB 1 _
  have HS : Hid (quotedW s.data.toList (p + 1) c [] s.size = T ∧ CdW (w.setCell ⟨cb, 1, none⟩ (.int .i64 ((p : Int) + 1))) cb s (p + 1) c 0 (-1) ∧ But w.heap.size cb w (w.setCell ⟨cb, 1, none⟩ (.int .i64 ((p : Int) + 1)))) := ⟨hT, hset, hbset⟩
  clear hT hE hf hr hset hbset
  go_enter Tryz.func50, Tryz.ntmps50
  go_wp2_with fail
  go_loopw [3] (fun sv wr => ∃ (t : ByteArray) (q f : Nat), sv = .string t ∧ q + 2 ≤ s.size ∧ Hid (quotedW s.data.toList q c t.data.toList f = T) ∧ s.size ≤ q + f ∧ t.size ≤ q ∧ CdW wr cb s q c 0 (-1) ∧ But w.heap.size cb w wr) (fun _ wr => s.size - posOf wr cb)
  case atStart => exact ⟨⟨#[]⟩, p + 1, s.size, rfl, by omega, HS.out.1, by omega, Nat.zero_le _, HS.out.2.1, HS.out.2.2⟩
  case round =>
    clear HS p1 f1
    obtain ⟨t, q, f, rfl, hq2, HT0, hqf, htq, hr0, hb0⟩ := hrel
    have HM : Hid (posOf wr cb = q) := hr0.pos
    obtain ⟨g, rfl⟩ : ∃ g, f = g + 1 := ⟨f - 1, by omega⟩
    have HT : Hid (quotedW s.data.toList q c t.data.toList (g + 1) = T) := HT0.out
    clear HT0
    cases hse : seeW s.data.toList q with
    | none =>
      have cS := rsee_end cb q c s wr hr0 (HF.out.but hb0 hcf) hs (by omega) hse
      have HQ : Hid (seeW s.data.toList q = none) := hse
      have HR0 : Hid (CdW wr cb s q c 0 (-1) ∧ But w.heap.size cb w wr) := ⟨hr0, hb0⟩
      clear hse hr0 hb0
      go_wp2_with fail
      refine cS.mono ?_
      rintro e w1 ⟨rfl, hb1⟩
      have hr : CdW w1 cb s q c 0 (-1) := HR0.out.1.kept (hb1.block cb HR0.out.1.lt)
      have hb : But w.heap.size cb w w1 := HR0.out.2.trans (to_but (hb1.mono HR0.out.2.size))
      have cF := rfail_yes cb q c 3 s w1 hr (HF.out.but hb hcf)
      have HB : Hid (But w.heap.size cb w w1) := hb
      have HT1 : Hid (T = .bad 3 (q)) := by show T = _; rw [← HT.out]; exact quo_end HE.out (by rw [wsize]; exact hq2) HQ.out
      clear cS hb1 hr hb HQ HR0 HT HM
      go_wp2_with fail
      refine cF.mono ?_
      rintro e w9 ⟨rfl, hr9, hb9⟩
      have HD : Hid (CdW w9 cb s (q) c 3 ((q : Nat) : Int) ∧ But w.heap.size cb w w9) := ⟨hr9, HB.out.trans (hb9.less HB.out.size)⟩
      clear cF hr9 hb9 HB
      go_wp2_with fail
      go_ret
      rw [HT1.out]
      exact ⟨_, _, c, rfl, by decide, Nat.zero_le _, HD.out⟩
    | some b =>
      have cS := rsee_yes cb q c b s wr hr0 (HF.out.but hb0 hcf) hs hse
      have HQ : Hid (seeW s.data.toList q = some b) := hse
      have hlt := (see_some hse).1
      rw [wsize] at hlt
      have HR0 : Hid (CdW wr cb s q c 0 (-1) ∧ But w.heap.size cb w wr) := ⟨hr0, hb0⟩
      have h256 := b.toNat_lt
      clear hse hr0 hb0
      by_cases hoff : b = 13 ∨ b = 10 ∨ b = 0
      · have HOFF : Hid (b = 13 ∨ b = 10 ∨ b = 0) := hoff
        have HTB : Hid (T = .bad 3 q) := by show T = _; rw [← HT.out]; exact quo_off HQ.out HOFF.out
        clear HQ
        rcases hoff with rfl | rfl | rfl
        all_goals
          (first | rw [show ((13 : UInt8).toNat : Int) = 13 from rfl] at cS | rw [show ((10 : UInt8).toNat : Int) = 10 from rfl] at cS | rw [show ((0 : UInt8).toNat : Int) = 0 from rfl] at cS)
          clear h256
          go_wp2_with fail
          refine cS.mono ?_
          rintro e w1 ⟨rfl, hb1⟩
          have hr : CdW w1 cb s q c 0 (-1) := HR0.out.1.kept (hb1.block cb HR0.out.1.lt)
          have hb : But w.heap.size cb w w1 := HR0.out.2.trans (to_but (hb1.mono HR0.out.2.size))
          have cF := rfail_yes cb q c 3 s w1 hr (HF.out.but hb hcf)
          have HB : Hid (But w.heap.size cb w w1) := hb
          have HT1 : Hid (T = .bad 3 (q)) := by show T = _; rw [← HT.out]; exact HT.out.trans HTB.out
          clear cS hb1 hr hb HR0 HT HM HOFF
          go_wp2_with fail
          refine cF.mono ?_
          rintro e w9 ⟨rfl, hr9, hb9⟩
          have HD : Hid (CdW w9 cb s (q) c 3 ((q : Nat) : Int) ∧ But w.heap.size cb w w9) := ⟨hr9, HB.out.trans (hb9.less HB.out.size)⟩
          clear cF hr9 hb9 HB
          go_wp2_with fail
          go_ret
          rw [HT1.out]
          exact ⟨_, _, c, rfl, by decide, Nat.zero_le _, HD.out⟩
      · have n13 : b ≠ 13 := fun e => hoff (Or.inl e)
        have n10 : b ≠ 10 := fun e => hoff (Or.inr (Or.inl e))
        have n0 : b ≠ 0 := fun e => hoff (Or.inr (Or.inr e))
        have m13 : ((b.toNat : Int) == 13) = false := by rw [beq_eq_false_iff_ne]; intro e; exact n13 (UInt8.toNat_inj.1 (by show b.toNat = 13; omega))
        have m10 : ((b.toNat : Int) == 10) = false := by rw [beq_eq_false_iff_ne]; intro e; exact n10 (UInt8.toNat_inj.1 (by show b.toNat = 10; omega))
        have m0 : ((b.toNat : Int) == 0) = false := by rw [beq_eq_false_iff_ne]; intro e; exact n0 (UInt8.toNat_inj.1 (by show b.toNat = 0; omega))
        clear hoff
        go_wp2_with fail
        refine cS.mono ?_
        rintro e w1 ⟨rfl, hb1⟩
        have hr : CdW w1 cb s q c 0 (-1) := HR0.out.1.kept (hb1.block cb HR0.out.1.lt)
        have hb : But w.heap.size cb w w1 := HR0.out.2.trans (to_but (hb1.mono HR0.out.2.size))
        have p1 : w1.cell? ⟨cb, 1, none⟩ = some (.int .i64 (q : Int)) := rd_cell hr rfl
        have f1 : w1.frozen? ⟨cb, 1, none⟩ = false := rd_free hr 1
        have hset : CdW (w1.setCell ⟨cb, 1, none⟩ (.int .i64 ((q : Int) + 1))) cb s (q + 1) c 0 (-1) := rd_set (i := 1) (.int .i64 ((q : Int) + 1)) hr
        have hb3 : But w.heap.size cb w (w1.setCell ⟨cb, 1, none⟩ (.int .i64 ((q : Int) + 1))) := hb.setB 1 _
        obtain ⟨W3, hW3⟩ : ∃ W, w1.setCell ⟨cb, 1, none⟩ (.int .i64 ((q : Int) + 1)) = W := ⟨_, rfl⟩
        rw [hW3] at hset hb3
        have HR3 : Hid (CdW W3 cb s (q + 1) c 0 (-1) ∧ But w.heap.size cb w W3) := ⟨hset, hb3⟩
        clear cS hb1 hr hb HR0 hset hb3
        by_cases h34 : b = 34
        · subst h34
          rw [show ((34 : UInt8).toNat : Int) = 34 from rfl]
          have HT1 : Hid (T = .ok t.data.toList (q + 1) c) := by show T = _; rw [← HT.out]; exact quo_shut HQ.out
          clear m13 m10 m0 n13 n10 n0 h256 HT HQ HM
          go_wp2_with fail
          go_ret
          rw [HT1.out]
          exact ⟨t, rfl, rfl, HR3.out⟩
        have m34 : ((b.toNat : Int) == 34) = false := by rw [beq_eq_false_iff_ne]; intro e; exact h34 (UInt8.toNat_inj.1 (by show b.toNat = 34; omega))
        by_cases h92 : b = 92
        · subst h92
          have c92 : ((92 : UInt8).toNat : Int) = 92 := rfl
          rw [c92] at m13 m10 m0 m34 ⊢
          clear m13 m10 m0 n13 n10 n0 h256 m34 h34 c92
          cases hs9 : seeW s.data.toList (q + 1) with
          | none =>
            have cS := rsee_end cb (q + 1) c s W3 HR3.out.1 (HF.out.but HR3.out.2 hcf) hs (by omega) hs9
            have HTB : Hid (T = .bad 3 (q + 1)) := by show T = _; rw [← HT.out]; exact quo_back_end HE.out (by rw [wsize]; omega) HQ.out hs9
            clear hs9
            go_wp2_with fail
            refine cS.mono ?_
            rintro e w4 ⟨rfl, hb4⟩
            have hr : CdW w4 cb s (q + 1) c 0 (-1) := HR3.out.1.kept (hb4.block cb HR3.out.1.lt)
            have hb : But w.heap.size cb w w4 := HR3.out.2.trans (to_but (hb4.mono HR3.out.2.size))
            have cF := rfail_yes cb (q + 1) c 3 s w4 hr (HF.out.but hb hcf)
            have HB : Hid (But w.heap.size cb w w4) := hb
            have HT1 : Hid (T = .bad 3 ((q + 1))) := by show T = _; rw [← HT.out]; exact HT.out.trans HTB.out
            clear cS hb4 hr hb HR3 HT HM HQ
            go_wp2_with fail
            refine cF.mono ?_
            rintro e w9 ⟨rfl, hr9, hb9⟩
            have HD : Hid (CdW w9 cb s ((q + 1)) c 3 (((q + 1) : Nat) : Int) ∧ But w.heap.size cb w w9) := ⟨hr9, HB.out.trans (hb9.less HB.out.size)⟩
            clear cF hr9 hb9 HB
            go_wp2_with fail
            go_ret
            rw [HT1.out]
            exact ⟨_, _, c, rfl, by decide, Nat.zero_le _, HD.out⟩
          | some d =>
            have cS := rsee_yes cb (q + 1) c d s W3 HR3.out.1 (HF.out.but HR3.out.2 hcf) hs hs9
            have hlt9 := (see_some hs9).1
            rw [wsize] at hlt9
            have HQ9 : Hid (seeW s.data.toList (q + 1) = some d) := hs9
            have h256 := d.toNat_lt
            clear hs9
            by_cases hd : d = 34 ∨ d = 92
            · have HTQ : Hid (quotedW s.data.toList (q + 2) c (t.data.toList ++ [d]) g = T) := by show _ = T; rw [← HT.out]; exact (quo_back HQ.out HQ9.out hd).symm
              have m2 : ((d.toNat : Int) != 34 && (d.toNat : Int) != 92) = false := by rcases hd with rfl | rfl <;> rfl
              have hdd : (d.toNat : Int) = 34 ∨ (d.toNat : Int) = 92 := by rcases hd with rfl | rfl <;> simp
              clear hd HT HQ HQ9
              go_wp2_with fail
              refine cS.mono ?_
              rintro e w4 ⟨rfl, hb4⟩
              have hr : CdW w4 cb s (q + 1) c 0 (-1) := HR3.out.1.kept (hb4.block cb HR3.out.1.lt)
              have hb : But w.heap.size cb w w4 := HR3.out.2.trans (to_but (hb4.mono HR3.out.2.size))
              have p1 : w4.cell? ⟨cb, 1, none⟩ = some (.int .i64 ((q : Int) + 1)) := by have h : w4.cell? ⟨cb, 1, none⟩ = some (.int .i64 ((q + 1 : Nat) : Int)) := rd_cell hr rfl; rw [h]; rfl
              have f1 : w4.frozen? ⟨cb, 1, none⟩ = false := rd_free hr 1
              have hset : CdW (w4.setCell ⟨cb, 1, none⟩ (.int .i64 ((q : Int) + 1 + 1))) cb s (q + 2) c 0 (-1) := rd_set (i := 1) (.int .i64 ((q : Int) + 1 + 1)) hr
              have hb5 : But w.heap.size cb w (w4.setCell ⟨cb, 1, none⟩ (.int .i64 ((q : Int) + 1 + 1))) := hb.setB 1 _
              obtain ⟨W5, hW5⟩ : ∃ W, w4.setCell ⟨cb, 1, none⟩ (.int .i64 ((q : Int) + 1 + 1)) = W := ⟨_, rfl⟩
              rw [hW5] at hset hb5
              have hcv := conv_z d (d.toNat : Int) rfl W5
              have b6 : Below W5.heap.size W5 (W5.alloc (.cells #[.int .u8 (d.toNat : Int)] 5)) := (Below.refl _ _).alloc (Nat.le_refl _) _
              have hsz : t.size + (⟨#[d]⟩ : ByteArray).size ≤ 1000001 := by show t.size + 1 ≤ _; omega
              have HD : Hid (CdW (W5.alloc (.cells #[.int .u8 (d.toNat : Int)] 5)) cb s (q + 2) c 0 (-1) ∧ But w.heap.size cb w (W5.alloc (.cells #[.int .u8 (d.toNat : Int)] 5))) := ⟨hset.kept (b6.block cb hset.lt), hb5.trans (to_but (b6.mono hb5.size))⟩
              clear cS hb4 hr hb HR3 hset hb5 b6
              rcases hdd with hdd | hdd
              all_goals
                rw [hdd] at hcv HD m2 ⊢
                clear hdd h256 m2
                go_wp2_with fail
                go_roundw
                case rel => exact ⟨t ++ ⟨#[d]⟩, q + 2, g, rfl, by omega, by rw [back_list]; exact HTQ, by omega, by rw [back_size]; omega, HD.out.1, HD.out.2⟩
                case measure => rw [HM.out, HD.out.1.pos]; omega
            · have d34 : d ≠ 34 := fun e => hd (Or.inl e)
              have d92 : d ≠ 92 := fun e => hd (Or.inr e)
              have m34 : ((d.toNat : Int) != 34) = true := by rw [bne_iff_ne]; intro e; exact d34 (UInt8.toNat_inj.1 (by show d.toNat = 34; omega))
              have m92 : ((d.toNat : Int) != 92) = true := by rw [bne_iff_ne]; intro e; exact d92 (UInt8.toNat_inj.1 (by show d.toNat = 92; omega))
              have HTB : Hid (T = .bad 3 (q + 1)) := by show T = _; rw [← HT.out]; exact quo_back_off HQ.out HQ9.out d34 d92
              clear hd HQ HQ9 d34 d92 h256
              go_wp2_with fail
              refine cS.mono ?_
              rintro e w4 ⟨rfl, hb4⟩
              have hr : CdW w4 cb s (q + 1) c 0 (-1) := HR3.out.1.kept (hb4.block cb HR3.out.1.lt)
              have hb : But w.heap.size cb w w4 := HR3.out.2.trans (to_but (hb4.mono HR3.out.2.size))
              have cF := rfail_yes cb (q + 1) c 3 s w4 hr (HF.out.but hb hcf)
              have HB : Hid (But w.heap.size cb w w4) := hb
              have HT1 : Hid (T = .bad 3 ((q + 1))) := by show T = _; rw [← HT.out]; exact HT.out.trans HTB.out
              clear cS hb4 hr hb HR3 HT HM
              go_wp2_with fail
              refine cF.mono ?_
              rintro e w9 ⟨rfl, hr9, hb9⟩
              have HD : Hid (CdW w9 cb s ((q + 1)) c 3 (((q + 1) : Nat) : Int) ∧ But w.heap.size cb w w9) := ⟨hr9, HB.out.trans (hb9.less HB.out.size)⟩
              clear cF hr9 hb9 HB
              go_wp2_with fail
              go_ret
              rw [HT1.out]
              exact ⟨_, _, c, rfl, by decide, Nat.zero_le _, HD.out⟩
        · have m92 : ((b.toNat : Int) == 92) = false := by rw [beq_eq_false_iff_ne]; intro e; exact h92 (UInt8.toNat_inj.1 (by show b.toNat = 92; omega))
          have HTQ : Hid (quotedW s.data.toList (q + 1) c (t.data.toList ++ [b]) g = T) := by show _ = T; rw [← HT.out]; exact (quo_plain HQ.out h34 h92 n13 n10 n0).symm
          have hcv := conv_z b (b.toNat : Int) rfl W3
          have b6 : Below W3.heap.size W3 (W3.alloc (.cells #[.int .u8 (b.toNat : Int)] 5)) := (Below.refl _ _).alloc (Nat.le_refl _) _
          have hsz : t.size + (⟨#[b]⟩ : ByteArray).size ≤ 1000001 := by show t.size + 1 ≤ _; omega
          have HD : Hid (CdW (W3.alloc (.cells #[.int .u8 (b.toNat : Int)] 5)) cb s (q + 1) c 0 (-1) ∧ But w.heap.size cb w (W3.alloc (.cells #[.int .u8 (b.toNat : Int)] 5))) := ⟨HR3.out.1.kept (b6.block cb HR3.out.1.lt), HR3.out.2.trans (to_but (b6.mono HR3.out.2.size))⟩
          clear HR3 b6 HT HQ h34 h92 n13 n10 n0
          go_wp2_with fail
          go_roundw
          case rel => exact ⟨t ++ ⟨#[b]⟩, q + 1, g, rfl, by omega, by rw [back_list]; exact HTQ, by omega, by rw [back_size]; omega, HD.out.1, HD.out.2⟩
          case measure => rw [HM.out, HD.out.1.pos]; omega
end Go.Proofs.YtmcpohnilgbicaaGreatDoor
