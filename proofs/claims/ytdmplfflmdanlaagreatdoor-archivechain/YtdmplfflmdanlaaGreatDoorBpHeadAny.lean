/-
  strings, and more.
-/
import Derived.Test.YtdmplfflmdanlaaGreatDoorBpRunes
import Derived.Laws.RangeAny
import Derived.WalkMore
import Derived.Deep.QuietTactic
import Derived.BigQuiet
import Derived.Deep.RegionWith
import Derived.Lib.IndexBytes
import Derived.Lib.DecodeN
import Derived.Lib.SplitLaws
import Derived.Lib.IndexMore
import Derived.Lib.SlTrimSet
import Derived.Lib.ConvBytes
namespace Go.Proofs.YtdmplfflmdanlaaGreatDoor
open Go.RowKit Go.Proofs.Aid

theorem decode_skip (s : ByteArray) (pos : Nat) (h : pos < s.size) (ha : 128 ≤ (s.get! pos).toNat) : pos + (Utf8.decode s pos).2 ≤ s.size ∧ ∀ k, k < (Utf8.decode s pos).2 → 128 ≤ (s.get! (pos + k)).toNat := by
  have h0 : (s.get! (pos + 0)).toNat = (s.get! pos).toNat := rfl
  have hn : ¬ (s.get! (pos + 0)).toNat < 128 := by omega
  have one : pos + 1 ≤ s.size ∧ ∀ k, k < 1 → 128 ≤ (s.get! (pos + k)).toNat := ⟨by omega, fun k hk => by
    obtain rfl : k = 0 := by omega
    omega⟩
  simp only [Utf8.decode, hn, if_false]
  split
  · next h1 =>
    simp only [Bool.and_eq_true, decide_eq_true_eq, beq_iff_eq] at h1
    split
    · refine ⟨by omega, fun k hk => ?_⟩
      match k, hk with
      | 0, _ => omega
      | 1, _ => omega
    · exact one
  · split
    · next h1 =>
      simp only [Bool.and_eq_true, decide_eq_true_eq, beq_iff_eq] at h1
      split
      · refine ⟨by omega, fun k hk => ?_⟩
        match k, hk with
        | 0, _ => omega
        | 1, _ => omega
        | 2, _ => omega
      · exact one
    · split
      · next h1 =>
        simp only [Bool.and_eq_true, decide_eq_true_eq, beq_iff_eq] at h1
        split
        · refine ⟨by omega, fun k hk => ?_⟩
          match k, hk with
          | 0, _ => omega
          | 1, _ => omega
          | 2, _ => omega
          | 3, _ => omega
        · exact one
      · exact one
theorem encode_high {r : Int} (h : 128 ≤ r) : ∃ l b, (Utf8.encode r).data.toList = l ++ [b] ∧ 128 ≤ b.toNat ∧ 1 ≤ l.length ∧ l.length ≤ 3 := by
  have hb : ∀ n : Nat, 128 ≤ (UInt8.ofNat (0x80 + n % 64)).toNat := fun n => by rw [UInt8.toNat_ofNat']; omega
  unfold Utf8.encode
  simp only
  have hc : ¬ (if Utf8.valid r = true then r.toNat else Utf8.runeError) < 0x80 := by
    split
    · omega
    · unfold Utf8.runeError; omega
  generalize (if Utf8.valid r = true then r.toNat else Utf8.runeError) = c at hc ⊢
  rw [if_neg hc]
  split
  · exact ⟨[_], _, rfl, hb _, by simp, by simp⟩
  · split
    · exact ⟨[_, _], _, rfl, hb _, by simp, by simp⟩
    · exact ⟨[_, _, _], _, rfl, hb _, by simp, by simp⟩
theorem index_low {l : List UInt8} {b : UInt8} (h : ∀ c ∈ l, c.toNat < 128) (hb : 128 ≤ b.toNat) : Lib.indexByte l b = -1 := by
  have hg := Lib.indexByte_ge l b
  by_cases h0 : 0 ≤ Lib.indexByte l b
  · have := (Lib.indexByte_some (l := l) (c := b) (o := (Lib.indexByte l b).toNat) (by omega)).1
    have := h b (List.mem_of_getElem? this)
    omega
  · omega
def Low (chars : ByteArray) : Prop := ∀ (j : Nat) b, chars.data.toList[j]? = some b → b.toNat < 128
set_option maxHeartbeats 2000000 in
set_option maxRecDepth 100000 in
theorem rune_high (chars : ByteArray) (r : Int) (w : World) (hl : Low chars) (hr : 128 ≤ r) (hr2 : r ≤ 1114111) (hs : chars.size ≤ 1000) :
    Calls Tryz.prog 234 #[.string chars, .int .i32 r] w fun e w' => e = .returned (.int .i64 (-1)) ∧ Below w.heap.size w w' := by
  have q1 : decide (r < 128) = false := decide_eq_false (by omega)
  have q0 : decide ((0 : Int) ≤ r) = true := decide_eq_true (by omega)
  have HL : Hid (Low chars) := hl
  clear hl
  by_cases he : r = 65533
  · subst he
    go_enter Tryz.func234, Tryz.ntmps234
    go_wp2_with fail
    go_loopw [] (fun wr => ∃ i : Nat, i ≤ chars.size ∧ wr = w.iter chars i) (fun wr => chars.size - wr.iterPos w.heap.size)
    case atStart => exact ⟨0, by omega, rfl⟩
    case round =>
      obtain ⟨i, hi, rfl⟩ := hrel
      by_cases hlt : i < chars.size
      · obtain ⟨x, hx⟩ : ∃ x : UInt8, chars[i]'hlt = x := ⟨_, rfl⟩
        have hx128 : x.toNat < 128 := HL.out i x (by rw [← hx]; exact Lib.data_getElem? chars i hlt)
        have hnx := fun ty => run_next_ascii (P := Tryz.prog) w chars i ty hlt (by rw [hx]; exact hx128)
        rw [hx] at hnx
        have hq : ((x.toNat : Int) == 65533) = false := by rw [beq_eq_false_iff_ne]; omega
        clear hx
        go_wp2_with fail
        go_roundw
        case rel => exact ⟨i + 1, by omega, rfl⟩
        case measure => simp; omega
      · obtain rfl : i = chars.size := by omega
        have hnx := run_next_end (P := Tryz.prog) w chars chars.size
        go_wp2_with fail
        go_ret
        exact ⟨rfl, (Below.refl _ _).alloc (Nat.le_refl _) _⟩
  · have he' : (r == 65533) = false := by rw [beq_eq_false_iff_ne]; exact he
    have cV := Tryz.utf8_ValidRune r w
    cases hv : Lib.validRune r with
    | false =>
      rw [hv] at cV
      go_enter Tryz.func234, Tryz.ntmps234
      go_wp2_with fail
      refine cV.mono ?_
      rintro e w1 ⟨rfl, hw⟩
      obtain rfl : w = w1 := hw.symm
      go_wp2_with fail
      go_ret
      exact ⟨rfl, Below.refl _ _⟩
    | true =>
      rw [hv] at cV
      go_enter Tryz.func234, Tryz.ntmps234
      go_wp2_with fail
      refine cV.mono ?_
      rintro e w1 ⟨rfl, hw⟩
      obtain rfl : w = w1 := hw.symm
      go_wp2_with fail
      have hcv : ∀ W, (convert 21 9 (.int .i32 r)).run Tryz.prog W = .ok (.string (Utf8.encode r)) W := fun W => by first | rfl | kernel_rfl | simp [go_sem, convert]
      obtain ⟨pre, b, h1, h2, h3, h4⟩ := encode_high hr
      obtain ⟨rs, hrs⟩ : ∃ t, Utf8.encode r = t := ⟨_, rfl⟩
      rw [hrs] at hcv h1
      obtain ⟨L, hL⟩ : ∃ n, pre.length = n := ⟨_, rfl⟩
      have hrn : rs.size = L + 1 := by rw [Lib.size_eq, h1, List.length_append, hL]; rfl
      have hrb : ∀ h, rs[L]'h = b := fun h => by
        have := Lib.data_getElem? rs L h
        rw [h1, List.getElem?_append_right (by omega), hL, Nat.sub_self] at this
        simpa using this.symm
      have hb0 : b.toNat < 256 := b.toNat_lt
      have hLL : L < rs.size := by omega
      rw [hL] at h3 h4
      have hrI : (rs.size : Int) = (L : Int) + 1 := by omega
      clear hrs h1 cV hL
      go_step3
      go_wp2_with fail
      go_loopw [9] (fun v wr => v = .int .i64 (L : Int) ∧ wr = w) (fun _ _ => 0)
      case atStart => exact ⟨rfl, rfl⟩
      case round =>
        obtain ⟨rfl, hw⟩ := hrel
        obtain rfl : w = wr := hw.symm
        by_cases hlt : L < chars.size
        · obtain ⟨x, hx⟩ : ∃ x : UInt8, chars[L]'hlt = x := ⟨_, rfl⟩
          have hx128 : x.toNat < 128 := HL.out L x (by rw [← hx]; exact Lib.data_getElem? chars L hlt)
          have hne : ((x.toNat : Int) != (b.toNat : Int)) = true := by rw [bne_iff_ne]; omega
          have hbx := hrb hLL
          have cB : ∀ W, Calls Tryz.prog 102 #[.string (chars.extract (L + 1) chars.size), .int .u8 (b.toNat : Int)] W fun e w' => e = .returned (.int .i64 (-1)) ∧ w' = W := fun W => by
            have := Tryz.strings_IndexByte (chars.extract (L + 1) chars.size) (b.toNat : Int) W
            rw [show ((b.toNat : Int)).toNat.toUInt8 = b by simp, Lib.extract_to_end, index_low (fun c hc => by
              obtain ⟨j, hj, hjc⟩ := List.mem_iff_getElem.1 (List.mem_of_mem_drop hc)
              exact HL.out j c (by rw [List.getElem?_eq_getElem hj, hjc])) h2] at this
            exact this
          obtain ⟨M, hM⟩ : ∃ M, L + 1 = M := ⟨_, rfl⟩
          have hwr : IntKind.i64.wrap ((L : Int) + 1) = (M : Int) := by rw [IntKind.wrap_i64]; omega
          have hM1 : M ≤ chars.size := by omega
          have hM2 : (M : Int) ≤ (chars.size : Int) := by omega
          rw [hM] at cB
          go_wp2_with fail
          go_step3
          go_wp2_with fail
          go_region
          all_goals
            go_wp2_with fail
            go_region_with (go_at_call 102; refine (cB _).mono ?_; rintro e w' ⟨rfl, hw⟩; subst hw)
            all_goals
              go_wp2_with fail
              rw [Exit.noGoto_ret]
              simp only [Exit.inBlock]
              go_wp2_with fail
              first | go_ret | (rw [Exit.noGoto_ret]; simp only [Exit.inBlock]; go_ret) | (rw [Exit.noGoto_ret]; go_ret)
              exact ⟨rfl, (Below.refl _ _).drew.drew⟩
        · have hlt' : ¬ (L : Int) < (chars.size : Int) := by omega
          go_wp2_with fail
          go_ret
          exact ⟨rfl, Below.refl _ _⟩
end Go.Proofs.YtdmplfflmdanlaaGreatDoor
namespace Go.Proofs.YtdmplfflmdanlaaGreatDoor
open Go.RowKit Go.Proofs.Aid

theorem decode_top (s : ByteArray) (pos : Nat) : (Utf8.decode s pos).1 ≤ 1114111 := by
  have hb : ∀ k, (s.get! (pos + k)).toNat < 256 := fun k => (s.get! (pos + k)).toNat_lt
  have h0 := hb 0; have h1 := hb 1; have h2 := hb 2; have h3 := hb 3
  simp only [Utf8.decode]
  repeat' split
  all_goals simp_all [Utf8.runeError, Utf8.valid]
  all_goals omega
theorem noAny_skip {s chars : ByteArray} {pos n : Nat} (hl : Low chars) (h : Lib.NoAny s.data.toList chars.data.toList pos) (hs : pos + n ≤ s.size) (hh : ∀ k, k < n → 128 ≤ (s.get! (pos + k)).toNat) : Lib.NoAny s.data.toList chars.data.toList (pos + n) := fun j b hj hb => by
  by_cases hlt : j < pos
  · exact h j b hlt hb
  · obtain ⟨k, rfl⟩ : ∃ k, j = pos + k := ⟨j - pos, by omega⟩
    have hk := hh k (by omega)
    have hjs : pos + k < s.size := by omega
    have e1 := get_at s (pos + k) hjs
    rw [Nat.add_zero] at e1
    have e2 := Lib.data_getElem? s (pos + k) hjs
    rw [e2] at hb
    cases hb
    rw [e1] at hk
    cases hc : chars.data.toList.contains (s[pos + k]'hjs) with
    | false => rfl
    | true =>
      obtain ⟨i, hi, hic⟩ := List.mem_iff_getElem.1 (List.elem_iff.1 hc)
      have := hl i _ (by rw [List.getElem?_eq_getElem hi, hic])
      omega
theorem indexAny_any (chars : List UInt8) : ∀ l : List UInt8, decide (0 ≤ Lib.indexAny l chars) = l.any fun c => chars.contains c
  | [] => rfl
  | b :: l => by
    have ih := indexAny_any chars l
    have hg := Lib.indexAny_ge chars l
    rw [Lib.indexAny, List.any_cons, ← ih]
    by_cases h : chars.contains b = true
    · rw [if_pos h, h]; rfl
    · rw [if_neg h, show chars.contains b = false by simpa using h, Bool.false_or]
      by_cases h1 : Lib.indexAny l chars = -1
      · rw [if_pos (beq_iff_eq.2 h1), h1]
      · rw [if_neg (fun e => h1 (beq_iff_eq.1 e)), decide_eq_decide]
        omega
set_option maxHeartbeats 4000000 in
set_option maxRecDepth 100000 in
theorem any_short (s chars : ByteArray) (w : World) (h2 : 2 ≤ chars.size) (h8 : s.size ≤ 8) (hl : Low chars) (hcs : chars.size ≤ 1000) :
    Calls Tryz.prog 191 #[.string s, .string chars] w fun e w' => e = .returned (.int .i64 (Lib.indexAny s.data.toList chars.data.toList)) ∧ Below w.heap.size w w' := by
  have hemp : chars.toList.isEmpty = false := by
    rw [Lib.toList_data]
    cases h : chars.data.toList with
    | nil => have := Lib.size_eq chars; rw [h, List.length_nil] at this; omega
    | cons _ _ => rfl
  have hne : ¬ chars.toList = [] := by intro h; rw [h] at hemp; cases hemp
  have hn1 : ((chars.size : Int) == 1) = false := beq_eq_false_iff_ne.2 (by omega)
  have c8 : ∀ W, Calls Tryz.prog 235 #[.int .i64 (s.size : Int)] W fun e w' => e = .returned (.bool false) ∧ w' = W := fun W => by
    have h8' : ¬ (8 : Int) < (s.size : Int) := by omega
    go_enter Tryz.func235, Tryz.ntmps235
    go_wp2
    go_ret
    exact ⟨by simp, rfl⟩
  have HL : Hid (Low chars) := hl
  clear hl
  go_enter Tryz.func191, Tryz.ntmps191
  go_wp2_with fail
  refine (c8 _).mono ?_
  rintro e w1 ⟨rfl, hw⟩
  obtain rfl : w = w1 := hw.symm
  go_wp2_with fail
  go_loopw [] (fun wr => ∃ pos : Nat, wr.heap[w.heap.size]? = some (.stringIter s pos) ∧ Below w.heap.size w wr ∧ pos ≤ s.size ∧ Hid (Lib.NoAny s.data.toList chars.data.toList pos)) (fun wr => s.size - wr.iterPos w.heap.size)
  case atStart => exact ⟨0, World.iter_heap w s 0, (Below.refl _ _).alloc (Nat.le_refl _) _, by omega, Lib.NoAny.zero _ _⟩
  case round =>
    obtain ⟨pos, hit, hbw, hps, HN⟩ := hrel
    by_cases hp : pos < s.size
    · have hnx : ∀ ty, (Instr.next (.pointer (some ⟨w.heap.size, 0, none⟩)) true ty).run Tryz.prog wr = _ := fun ty => Lib.run_next_any_at wr w.heap.size s pos ty hit hp
      have hx := Lib.data_getElem? s pos hp
      have hg := get_at s pos hp
      rw [Nat.add_zero] at hg
      by_cases hlow : (s[pos]'hp).toNat < 128
      · rw [decode_ascii s pos hp hlow] at hnx
        simp only at hnx
        have hit2 := Lib.iterAt_heap wr w.heap.size s pos (pos + 1) hit
        have hbw2 := Lib.below_iterAt hbw (k := w.heap.size) (by omega) s (pos + 1)
        obtain ⟨x, hxx⟩ : ∃ x : UInt8, s[pos]'hp = x := ⟨_, rfl⟩
        rw [hxx] at hnx hx hlow
        have HX : Hid (s.data.toList[pos]? = some x) := hx
        have cR := fun W => Tryz.strings_IndexRune_ascii chars (x.toNat : Int) W (by omega) (by omega)
        rw [show ((x.toNat : Int)).toNat.toUInt8 = x by simp] at cR
        have hcon := Lib.contains_iff_indexByte chars.data.toList x
        generalize Lib.indexByte chars.data.toList x = z at cR hcon
        clear hx hg hxx
        cases hin : chars.data.toList.contains x with
        | false =>
          rw [hin] at hcon
          have hz : ¬ ((0 : Int) ≤ z) := of_decide_eq_false hcon.symm
          have HNX : Hid (Lib.NoAny s.data.toList chars.data.toList (pos + 1)) := HN.out.succ HX.out hin
          clear hcon
          go_wp2_with fail
          refine (cR _).mono ?_
          rintro e w2 ⟨rfl, hw⟩
          subst hw
          go_wp2_with fail
          go_roundw
          case rel => exact ⟨pos + 1, hit2, hbw2, by omega, HNX.out⟩
          case measure => simp only [World.iterPos, hit2, hit]; omega
        | true =>
          rw [hin] at hcon
          have hz : (0 : Int) ≤ z := of_decide_eq_true hcon.symm
          have HR : Hid (Lib.indexAny s.data.toList chars.data.toList = pos) := Lib.indexAny_hit HN.out HX.out hin
          clear hcon
          go_wp2_with fail
          refine (cR _).mono ?_
          rintro e w2 ⟨rfl, hw⟩
          subst hw
          go_wp2_with fail
          go_ret
          exact ⟨by rw [HR.out]; rfl, hbw2⟩
      · have hhi := decode_high s pos hp (by omega)
        have htop := decode_top s pos
        have hsk := decode_skip s pos hp (by rw [hg]; omega)
        have HNX : Hid (Lib.NoAny s.data.toList chars.data.toList (pos + (Utf8.decode s pos).2)) := noAny_skip HL.out HN.out hsk.1 hsk.2
        have hle := hsk.1
        have hit2 := Lib.iterAt_heap wr w.heap.size s pos (pos + (Utf8.decode s pos).2) hit
        have hbw2 := Lib.below_iterAt hbw (k := w.heap.size) (by omega) s (pos + (Utf8.decode s pos).2)
        obtain ⟨R, hR⟩ : ∃ n, (Utf8.decode s pos).1 = n := ⟨_, rfl⟩
        obtain ⟨N, hN⟩ : ∃ n, (Utf8.decode s pos).2 = n := ⟨_, rfl⟩
        rw [hR] at hnx hhi htop
        rw [hN] at hnx hhi HNX hle hit2 hbw2
        have cR := fun W => rune_high chars (R : Int) W HL.out (by omega) (by omega) hcs
        have hlt2 : w.heap.size < (wr.iterAt w.heap.size s (pos + N)).heap.size := (Array.getElem?_eq_some_iff.1 hit2).1
        generalize wr.iterAt w.heap.size s (pos + N) = W2 at hnx hit2 hbw2 hlt2
        clear hsk hx hg hR hN
        go_wp2_with fail
        refine (cR _).mono ?_
        rintro e w3 ⟨rfl, hb3⟩
        have hit3 := (hb3.block w.heap.size hlt2).trans hit2
        have hbw3 := hbw2.trans (hb3.mono hbw2.size)
        go_wp2_with fail
        go_roundw
        case rel => exact ⟨pos + N, hit3, hbw3, hle, HNX.out⟩
        case measure => simp only [World.iterPos, hit3, hit]; omega
    · have hnx : ∀ ty, (Instr.next (.pointer (some ⟨w.heap.size, 0, none⟩)) true ty).run Tryz.prog wr = _ := fun ty => Lib.run_next_end_at wr w.heap.size s pos ty hit hp
      obtain rfl : pos = s.size := by omega
      have HR : Hid (Lib.indexAny s.data.toList chars.data.toList = -1) := Lib.indexAny_none (by rw [← Lib.size_eq]; exact HN.out)
      go_wp2_with fail
      go_ret
      exact ⟨by rw [HR.out]; rfl, hbw⟩
theorem any_is (s chars : ByteArray) (w : World) (h2 : 2 ≤ chars.size) (hl : Low chars) (hcs : chars.size ≤ 1000) (hs : s.size ≤ 2000000) :
    Calls Tryz.prog 139 #[.string s, .string chars] w fun e w' => e = .returned (.bool (s.data.toList.any fun c => chars.data.toList.contains c)) ∧ Below w.heap.size w w' := by
  have c : Calls Tryz.prog 191 #[.string s, .string chars] w fun e w' => e = .returned (.int .i64 (Lib.indexAny s.data.toList chars.data.toList)) ∧ Below w.heap.size w w' := by
    by_cases h8 : s.size ≤ 8
    · exact any_short s chars w h2 h8 hl hcs
    · refine (Tryz.strings_IndexAny_long (zero_of_info (n := 256) (by kernel_rfl)).1 s chars w h2 (by omega) (by omega) (by omega) hl).mono ?_
      rintro e w' ⟨rfl, rfl⟩
      exact ⟨rfl, ((Below.refl _ _).alloc (Nat.le_refl _) _).alloc (by simp) _⟩
  have ha : decide (0 ≤ Lib.indexAny s.data.toList chars.data.toList) = s.data.toList.any fun c => chars.data.toList.contains c := by
    exact indexAny_any _ _
  rw [← ha]
  generalize Lib.indexAny s.data.toList chars.data.toList = z at c
  go_enter Tryz.func139, Tryz.ntmps139
  go_wp2_with fail
  refine c.mono ?_
  rintro e w1 ⟨rfl, hb⟩
  go_wp2_with fail
  go_ret
  exact ⟨rfl, hb⟩
end Go.Proofs.YtdmplfflmdanlaaGreatDoor
namespace Go.Proofs.Hd
open Go.Proofs.Sq

abbrev Tx := List UInt8
def gr (c : UInt8) : UInt8 := if 97 ≤ c.toNat ∧ c.toNat ≤ 122 then c - 32 else c
def great (s : Tx) : Tx := s.map gr
end Go.Proofs.Hd
namespace Go.Proofs.Hd
open Go.Proofs.Sq

theorem cutAt_of {c : UInt8} : ∀ {a : Tx} (b : Tx), c ∉ a → cutAt c (a ++ c :: b) = (a, b, true)
  | [], b, _ => by simp [cutAt]
  | d :: a, b, h => by
    have hd : d ≠ c := fun e => h (by simp [e])
    rw [List.cons_append, cutAt, if_neg hd, cutAt_of b (fun hm => h (List.mem_cons_of_mem _ hm))]
end Go.Proofs.Hd
namespace Go.Proofs.YtdmplfflmdanlaaGreatDoor
open Go.RowKit Go.Proofs.Aid Go.Proofs.Hd

def mv (f t : Nat) (c : UInt8) : UInt8 := if f ≤ c.toNat ∧ c.toNat < f + 26 then UInt8.ofNat (c.toNat - f + t) else c
theorem mv_gr (c : UInt8) : mv 97 65 c = gr c := by
  have h : ∀ n : Fin 256, mv 97 65 (UInt8.ofNat n.val) = gr (UInt8.ofNat n.val) := by decide +kernel
  have := h ⟨c.toNat, c.toNat_lt⟩
  simpa using this
theorem head_bytes (w : World) (s : ByteArray) : Below w.heap.size w (Lib.bytesWorld w 5 s) := ⟨rfl, rfl, rfl, by rw [Lib.bytesWorld_size]; omega, fun j hj => Lib.bytesWorld_at_old w 5 s j hj⟩
theorem bytes_free (w : World) (s : ByteArray) {j : Nat} (hj : j < s.size) : (Lib.bytesWorld w 5 s).frozen? ⟨w.heap.size, j, none⟩ = false := by
  have h := Lib.bytesWorld_at_new w 5 s
  have hc := Lib.bytesWorld_cell w 5 s j hj
  generalize Lib.bytesWorld w 5 s = W at h hc
  generalize Lib.bytesCells w 5 s = cs at h
  have : j < cs.size := by
    simp [World.cell?, h] at hc
    obtain ⟨h1, _⟩ := Array.getElem?_eq_some_iff.1 hc
    exact h1
  simp [World.frozen?, h]
  omega
set_option maxHeartbeats 2000000 in
set_option maxRecDepth 100000 in
theorem moved_any (f t : Nat) (hf : f + 26 ≤ 255) (ht : t + 26 ≤ 255) (s : ByteArray) (w : World) (hs : s.size ≤ 2000000) :
    Calls Tryz.prog 193 #[.string s, .int .u8 (f : Int), .int .u8 (t : Int)] w fun e w' => e = .returned (.string ⟨(s.data.toList.map (mv f t)).toArray⟩) ∧ Below w.heap.size w w' := by
  have hlen : s.data.toList.length = s.size := by show s.data.toList.length = s.data.size; simp
  have hcw := Lib.run_convert_string_bytes (P := Tryz.prog) w 9 86 5 s Tryz.underlying9 Tryz.underlying86 Tryz.underlying5
  have hb0 := head_bytes w s
  have hc0 : ∀ j, j < s.size → (Lib.bytesWorld w 5 s).cell? ⟨w.heap.size, j, none⟩ = some (.int .u8 (((s.data.toList.getD j 0).toNat : Nat) : Int)) ∧ (Lib.bytesWorld w 5 s).frozen? ⟨w.heap.size, j, none⟩ = false := fun j hj => ⟨Lib.bytesWorld_cell w 5 s j hj, bytes_free w s hj⟩
  obtain ⟨cap, hcap⟩ : ∃ c, grownCap w s.size 0 5 = c := ⟨_, rfl⟩
  rw [hcap] at hcw
  clear hcap
  generalize Lib.bytesWorld w 5 s = W0 at hcw hb0 hc0
  obtain ⟨B, hB⟩ : ∃ B, w.heap.size = B := ⟨_, rfl⟩
  rw [hB] at hcw hc0
  have hbB : w.heap.size ≤ B := by omega
  go_enter Tryz.func193, Tryz.ntmps193
  go_wp2_with fail
  go_loopw [13] (fun i wr => ∃ k : Nat, i = .int .i64 (k : Int) ∧ k ≤ s.size ∧ Hid (∀ j, j < s.size → wr.cell? ⟨B, j, none⟩ = some (.int .u8 (((if j < k then mv f t (s.data.toList.getD j 0) else s.data.toList.getD j 0).toNat : Nat) : Int)) ∧ wr.frozen? ⟨B, j, none⟩ = false) ∧ Below w.heap.size w wr) (fun i _ => s.size - (intOf i).toNat)
  case atStart => exact ⟨0, rfl, by omega, by show ∀ j, _; simpa using hc0, hb0⟩
  case round =>
    obtain ⟨k, rfl, hk, HC, hbW⟩ := hrel
    by_cases hlt : k < s.size
    · obtain ⟨c1, f1⟩ := HC.out k hlt
      rw [if_neg (by omega)] at c1
      obtain ⟨c, hc⟩ : ∃ c, s.data.toList.getD k 0 = c := ⟨_, rfl⟩
      rw [hc] at c1
      have h256 := c.toNat_lt
      have HK : Hid (s.data.toList.getD k 0 = c) := hc
      clear hc hc0
      by_cases hq : f ≤ c.toNat ∧ c.toNat < f + 26
      · have q1 : decide ((f : Int) ≤ (c.toNat : Int)) = true := decide_eq_true (by omega)
        have q2 : decide ((c.toNat : Int) < (f : Int) + 26) = true := decide_eq_true (by omega)
        have hmv : ((mv f t c).toNat : Int) = (c.toNat : Int) - f + t := by
          unfold mv
          rw [if_pos hq, UInt8.toNat_ofNat']
          omega
        have HM : Hid (((mv f t c).toNat : Int) = (c.toNat : Int) - f + t) := hmv
        clear hmv
        go_wp2_with fail
        go_roundw
        case rel =>
          refine ⟨k + 1, by go_num, by omega, ?_, hbW.setCell hbB _⟩
          intro j hj
          obtain ⟨x1, x2⟩ := HC.out j hj
          refine ⟨?_, by simpa using x2⟩
          by_cases hjk : j = k
          · subst hjk
            rw [World.cell?_setCell_same _ _ _ c1, if_pos (by omega), HK.out, HM.out]
          · rw [World.cell?_setCell_other _ _ _ _ (fun e => hjk (by have := congrArg Addr.off e; simpa using this.symm)), x1]
            congr 4
            by_cases h : j < k
            · rw [if_pos h, if_pos (by omega)]
            · rw [if_neg h, if_neg (by omega)]
        case measure => simp [intOf]; omega
      · have HM : Hid (mv f t c = c) := by show _ = _; unfold mv; rw [if_neg hq]
        have HN : ∀ j, j < s.size → wr.cell? ⟨B, j, none⟩ = some (.int .u8 (((if j < k + 1 then mv f t (s.data.toList.getD j 0) else s.data.toList.getD j 0).toNat : Nat) : Int)) ∧ wr.frozen? ⟨B, j, none⟩ = false := fun j hj => by
          obtain ⟨x1, x2⟩ := HC.out j hj
          refine ⟨?_, x2⟩
          by_cases hjk : j = k
          · subst hjk
            rw [c1, if_pos (by omega), HK.out, HM.out]
          · rw [x1]
            congr 4
            by_cases h : j < k
            · rw [if_pos h, if_pos (by omega)]
            · rw [if_neg h, if_neg (by omega)]
        have HNN : Hid (∀ j, j < s.size → wr.cell? ⟨B, j, none⟩ = some (.int .u8 (((if j < k + 1 then mv f t (s.data.toList.getD j 0) else s.data.toList.getD j 0).toNat : Nat) : Int)) ∧ wr.frozen? ⟨B, j, none⟩ = false) := HN
        clear HN
        by_cases q : f ≤ c.toNat
        · have q1 : decide ((f : Int) ≤ (c.toNat : Int)) = true := decide_eq_true (by omega)
          have q2 : decide ((c.toNat : Int) < (f : Int) + 26) = false := decide_eq_false (by omega)
          go_wp2_with fail
          go_roundw
          case rel => exact ⟨k + 1, by go_num, by omega, HNN.out, hbW⟩
          case measure => simp [intOf]; omega
        · have q1 : decide ((f : Int) ≤ (c.toNat : Int)) = false := decide_eq_false (by omega)
          go_wp2_with fail
          go_roundw
          case rel => exact ⟨k + 1, by go_num, by omega, HNN.out, hbW⟩
          case measure => simp [intOf]; omega
    · obtain rfl : k = s.size := by omega
      have hcv := run_convert_bytes_back wr 86 9 5 ⟨B, 0, none⟩ cap (s.data.toList.map (mv f t)) Tryz.underlying86 Tryz.underlying5 Tryz.underlying9 (fun j hj => by
        have hjs : j < s.size := by rw [List.length_map, hlen] at hj; exact hj
        rw [Addr.add_lit, Nat.zero_add, (HC.out j hjs).1, if_pos hjs, List.getElem_map, List.getD_eq_getElem?_getD, List.getElem?_eq_getElem (by rw [hlen]; exact hjs)]
        rfl)
      rw [List.length_map, hlen] at hcv
      clear hc0
      go_wp2_with fail
      go_ret
      exact ⟨rfl, hbW⟩
end Go.Proofs.YtdmplfflmdanlaaGreatDoor
namespace Go.Proofs.YtdmplfflmdanlaaGreatDoor
open Go.RowKit Go.Proofs.Aid Go.Proofs.Hd Go.Proofs.Sq
theorem great_is (s : ByteArray) (w : World) (hs : s.size ≤ 2000000) :
    Calls Tryz.prog 141 #[.string s] w fun e w' => e = .returned (.string ⟨(great s.data.toList).toArray⟩) ∧ Below w.heap.size w w' := by
  have c := moved_any 97 65 (by decide) (by decide) s w hs
  rw [show s.data.toList.map (mv 97 65) = great s.data.toList from List.map_congr_left fun c _ => mv_gr c] at c
  go_enter Tryz.func141, Tryz.ntmps141
  go_wp2_with fail
  refine c.mono ?_
  rintro e w1 ⟨rfl, hb⟩
  go_wp2_with fail
  go_ret
  exact ⟨rfl, hb⟩
end Go.Proofs.YtdmplfflmdanlaaGreatDoor
namespace Go.Proofs.Sq

theorem splitK_cut (c : UInt8) (k : Nat) (s : List UInt8) : Lib.splitK [c] 0 (k + 1) s = if (cutAt c s).2.2 = false then [s] else (cutAt c s).1 :: Lib.splitK [c] 0 k (cutAt c s).2.1 := by
  rw [← cut_eq, Lib.splitK]
  by_cases h : Lib.index s [c] = -1
  · have e : Lib.cut s [c] = (s, [], false) := by rw [Lib.cut, if_neg (by omega)]
    rw [if_pos (beq_iff_eq.2 h), e, if_pos rfl]
  · have hge := Lib.index_ge s [c]
    have e : Lib.cut s [c] = (s.take (Lib.index s [c]).toNat, s.drop ((Lib.index s [c]).toNat + [c].length), true) := by rw [Lib.cut, if_pos (by omega)]
    rw [if_neg (fun e => h (beq_iff_eq.1 e)), e, if_neg (by simp)]
    rfl
theorem splitK_all (c : UInt8) : ∀ (k : Nat) (s : List UInt8), s.count c ≤ k → Lib.splitK [c] 0 k s = between c s
  | 0, s, h => by
    have : c ∉ s := fun hm => by have := List.count_pos_iff.2 hm; omega
    rw [between_none this]; rfl
  | k + 1, s, h => by
    rw [splitK_cut]
    cases hc : (cutAt c s).2.2 with
    | false => rw [if_pos rfl, (cutAt_miss hc).2.2]
    | true =>
      obtain ⟨h1, h2⟩ := cutAt_hit hc
      have h3 : (cutAt c s).2.1.count c ≤ k := by
        have := congrArg (List.count c) h1
        rw [List.count_append, List.count_cons_self] at this
        omega
      rw [if_neg (by simp), splitK_all c k _ h3, h2]
theorem split_between (c : UInt8) (s : ByteArray) : (Lib.splitB ⟨#[c]⟩ 0 (Lib.countB s ⟨#[c]⟩) s).map (·.data.toList) = between c s.data.toList := by
  rw [Lib.splitB_data]
  refine splitK_all c _ _ ?_
  have : Lib.countB s ⟨#[c]⟩ = Lib.count s.data.toList [c] := rfl
  rw [this, Lib.count_one]
  exact Nat.le_refl _
end Go.Proofs.Sq
