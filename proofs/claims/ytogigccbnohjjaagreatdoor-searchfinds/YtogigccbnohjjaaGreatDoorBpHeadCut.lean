/-
  What head, and more.
-/
import Derived.Test.YtogigccbnohjjaaGreatDoorBpWireSpec
import Derived.Laws.RangeAny
import Derived.Lib.IndexAny
import Derived.WalkMore
import Derived.Deep.QuietTactic
import Derived.BigQuiet
import Derived.Deep.RegionWith
namespace Go.Proofs
open Go.RowKit
theorem Tryz.strings_Trim_set (s cutset : ByteArray) (w : World) (hs : s.size ≤ 9223372036854775807) (hcs : cutset.size < 4294967281) (hascii : ∀ (j : Nat) b, cutset.data.toList[j]? = some b → b.toNat < 128) :
  Calls Tryz.prog 172 #[.string s, .string cutset] w fun e w' => e = .returned (.string ⟨(Lib.trimS s.data.toList cutset.data.toList).toArray⟩) ∧ Below w.heap.size w w' := Any.strings_Trim_laid Tryz.lays160 (by kernel_rfl) s cutset w hs hcs hascii
end Go.Proofs
namespace Go.Proofs.YtogigccbnohjjaaGreatDoor
open Go.RowKit Go.Proofs.Aid Go.Proofs.Hd
theorem list_size (s : ByteArray) : s.data.toList.length = s.size := by show s.data.toList.length = s.data.size; simp
theorem text_ext {a b : ByteArray} (h : a.data.toList = b.data.toList) : a = b := by
 obtain ⟨⟨x⟩⟩ := a
 obtain ⟨⟨y⟩⟩ := b
 have : x = y := h
 rw [this]
theorem bare_is' (s : ByteArray) (w : World) (hs : s.size ≤ 2000000) :
  Calls Tryz.prog 160 #[.string s] w fun e w' => e = .returned (.string ⟨(bare s.data.toList).toArray⟩) ∧ Below w.heap.size w w' := by
 have c := Tryz.strings_Trim_set s ⟨#[32, 9]⟩ w (by omega) (by decide) (ascii_of_all (by decide))
 go_enter Tryz.func160, Tryz.ntmps160
 go_wp2_with fail
 refine c.mono ?_
 rintro e w1 ⟨rfl, hb⟩
 go_wp2_with fail
 go_ret
 exact ⟨rfl, hb⟩
theorem headEnd_is (s : ByteArray) (m : Int) (w : World) (hs : s.size ≤ 2000000) (hm : w.cell? ⟨1, 0, none⟩ = some (.int .i64 m)) :
  Calls Tryz.prog 78 #[.string s] w fun e w' => e = .returned (.int .i64 (headLen true s.data.toList : Int)) ∧ w' = w := by
 have cP := Tryz.strings_HasPrefix s ⟨#[13, 10]⟩ w
 have cI := Tryz.strings_Index s ⟨#[13, 10, 13, 10]⟩ m w (by omega) hm
 have hl := headLen_true s.data.toList
 have hp : Lib.hasPrefix s.data.toList (⟨#[13, 10]⟩ : ByteArray).data.toList = ([13, 10] : Tx).isPrefixOf s.data.toList := rfl
 have hi : Lib.index s.data.toList (⟨#[13, 10, 13, 10]⟩ : ByteArray).data.toList = Lib.index s.data.toList [13, 10, 13, 10] := rfl
 rw [hp] at cP
 rw [hi] at cI
 have hle := Lib.index_le s.data.toList [13, 10, 13, 10]
 have hge := Lib.index_ge s.data.toList [13, 10, 13, 10]
 rw [list_size] at hle hl
 obtain ⟨b, hb⟩ : ∃ b, ([13, 10] : Tx).isPrefixOf s.data.toList = b := ⟨_, rfl⟩
 obtain ⟨z, hz⟩ : ∃ z, Lib.index s.data.toList [13, 10, 13, 10] = z := ⟨_, rfl⟩
 obtain ⟨N, hN⟩ : ∃ n, headLen true s.data.toList = n := ⟨_, rfl⟩
 rw [hb] at cP hl
 rw [hz] at cI hl hle hge
 rw [hN] at hl ⊢
 clear hp hi hb hz hN hm
 cases b
 ·rw [if_neg (by simp)] at hl
  go_enter Tryz.func78, Tryz.ntmps78
  go_wp2_with fail
  refine cP.mono ?_
  rintro e w1 ⟨rfl, hw⟩
  obtain rfl : w = w1 := hw.symm
  go_wp2_with fail
  refine cI.mono ?_
  rintro e w1 ⟨rfl, hw⟩
  obtain rfl : w = w1 := hw.symm
  by_cases h0 : 0 ≤ z
  ·rw [if_pos h0] at hl
   go_wp2_with fail
   go_ret
   exact ⟨by show Ending.returned (Value.int .i64 (z + 4)) = _; congr 2; omega, rfl⟩
  ·rw [if_neg h0] at hl
   go_wp2_with fail
   go_ret
   exact ⟨by rw [hl]; rfl, rfl⟩
 ·rw [if_pos rfl] at hl
  subst hl
  go_enter Tryz.func78, Tryz.ntmps78
  go_wp2_with fail
  refine cP.mono ?_
  rintro e w1 ⟨rfl, hw⟩
  obtain rfl : w = w1 := hw.symm
  go_wp2_with fail
  go_ret
  exact ⟨rfl, rfl⟩
theorem split_is (s : ByteArray) (m : Int) (w : World) (hs : s.size ≤ 2000000) (hm : w.cell? ⟨1, 0, none⟩ = some (.int .i64 m)) :
  Calls Tryz.prog 42 #[.string s] w fun e w' => e = .returned (.tuple #[.string ⟨(headOf s.data.toList).toArray⟩, .string ⟨(bodyOf s.data.toList).toArray⟩]) ∧ Below w.heap.size w w' := by
 have cE := headEnd_is s m w hs hm
 have hle := headLen_le true s.data.toList
 rw [list_size] at hle
 have h1 : s.extract 0 (headLen true s.data.toList) = ⟨(headOf s.data.toList).toArray⟩ := text_ext (by rw [Lib.extract_from_zero]; rfl)
 have h2 : s.extract (headLen true s.data.toList) s.size = ⟨(bodyOf s.data.toList).toArray⟩ := text_ext (by
  rw [Lib.extract_to_end]; rfl)
 obtain ⟨N, hN⟩ : ∃ n, headLen true s.data.toList = n := ⟨_, rfl⟩
 rw [hN] at cE hle h1 h2
 rw [← h1, ← h2]
 clear h1 h2 hN hm
 go_enter Tryz.func42, Tryz.ntmps42
 go_wp2_with fail
 refine cE.mono ?_
 rintro e w1 ⟨rfl, hw⟩
 obtain rfl : w = w1 := hw.symm
 go_wp2_with fail
 go_region
 all_goals
  go_wp2_with fail
  go_ret2
  exact ⟨rfl, (Below.refl _ _).drew⟩
theorem isName_is (s : ByteArray) (w : World) (hs : s.size ≤ 2000000) :
  Calls Tryz.prog 145 #[.string s] w fun e w' => e = .returned (.bool (nameOk s.data.toList)) ∧ w' = w := by
 have hl := list_size s
 obtain ⟨ANS, hANS⟩ : ∃ b, nameOk s.data.toList = b := ⟨_, rfl⟩
 rw [hANS]
 have HA : Hid (nameOk s.data.toList = ANS) := hANS
 clear hANS
 go_enter Tryz.func145, Tryz.ntmps145
 go_wp2_with fail
 go_loopw [6] (fun i wr => ∃ k : Nat, i = .int .i64 (k : Int) ∧ k ≤ s.size ∧ Hid (∀ j c, j < k → s.data.toList[j]? = some c → 33 ≤ c.toNat ∧ c.toNat ≤ 126) ∧ wr = w) (fun i _ => s.size - (intOf i).toNat)
 case atStart => exact ⟨0, rfl, by omega, fun j c hj => absurd hj (by omega), rfl⟩
 case round =>
  obtain ⟨k, rfl, hk, HC, hw⟩ := hrel
  obtain rfl : w = wr := hw.symm
  by_cases hlt : k < s.size
  ·have hck : s.data.toList[k]? = some (s[k]'hlt) := by rw [List.getElem?_eq_getElem (by rw [hl]; exact hlt)]; rfl
   generalize hc : s[k] = c at hck
   have HK : Hid (s.data.toList[k]? = some c) := hck
   clear hck
   by_cases hq : 33 ≤ c.toNat ∧ c.toNat ≤ 126
   ·have q1 : decide ((c.toNat : Int) < 33) = false := decide_eq_false (by omega)
    have q2 : decide ((126 : Int) < (c.toNat : Int)) = false := decide_eq_false (by omega)
    go_wp2_with fail
    go_roundw
    case rel =>
     refine ⟨k + 1, by go_num, by omega, fun j d hj hd => ?_, trivial⟩
     by_cases hjk : j = k
     ·subst hjk
      rw [HK.out] at hd
      cases hd
      exact hq
     ·exact HC.out j d (by omega) hd
    case measure => simp [intOf]; omega
   ·have hA : false = ANS := by
     rw [← HA.out]
     cases hn : nameOk s.data.toList with
     | false => rfl
     | true => exact absurd (name_byte hn c (List.mem_of_getElem? HK.out)) hq
    subst hA
    by_cases h33 : c.toNat < 33
    ·have q1 : decide ((c.toNat : Int) < 33) = true := decide_eq_true (by omega)
     go_wp2_with fail
     go_ret
     exact ⟨rfl, rfl⟩
    ·have q1 : decide ((c.toNat : Int) < 33) = false := decide_eq_false (by omega)
     have q2 : decide ((126 : Int) < (c.toNat : Int)) = true := decide_eq_true (by omega)
     go_wp2_with fail
     go_ret
     exact ⟨rfl, rfl⟩
  ·obtain rfl : k = s.size := by omega
   have hall : (s.data.toList.all fun c => decide (33 ≤ c.toNat ∧ c.toNat ≤ 126)) = true := by
    rw [List.all_eq_true]
    intro c hc
    obtain ⟨j, hj, hjc⟩ := List.mem_iff_getElem.1 hc
    rw [decide_eq_true_eq]
    exact HC.out j c (by omega) (by rw [List.getElem?_eq_getElem hj, hjc])
   have hA := HA.out
   unfold nameOk at hA
   rw [hall, Bool.and_true, hl] at hA
   clear HC hall
   by_cases h0 : s.data.toList = []
   ·have f1 : s.toList = [] := by rw [Lib.toList_data]; exact h0
    have f2 : s.toList.isEmpty = true := by rw [f1]; rfl
    rw [h0] at hA
    have hA' : false = ANS := by simpa using hA
    subst hA'
    go_wp2_with fail
    go_ret
    exact ⟨rfl, rfl⟩
   ·have f1 : ¬ s.toList = [] := by rw [Lib.toList_data]; exact h0
    have f2 : s.toList.isEmpty = false := by rw [Lib.toList_data]; cases hh : s.data.toList with | nil => exact absurd hh h0 | cons _ _ => rfl
    by_cases h60 : s.size ≤ 60
    ·have q : decide ((s.size : Int) ≤ 60) = true := decide_eq_true (by omega)
     have hA' : true = ANS := by simpa [h0, h60] using hA
     subst hA'
     go_wp2_with fail
     go_ret
     exact ⟨rfl, rfl⟩
    ·have q : decide ((s.size : Int) ≤ 60) = false := decide_eq_false (by omega)
     have hA' : false = ANS := by simpa [h0, h60] using hA
     subst hA'
     go_wp2_with fail
     go_ret
     exact ⟨rfl, rfl⟩
end Go.Proofs.YtogigccbnohjjaaGreatDoor
namespace Go.Proofs.YtogigccbnohjjaaGreatDoor
open Go.RowKit Go.Proofs.Aid
set_option maxHeartbeats 2000000
set_option maxRecDepth 100000
theorem decode_skip (s : ByteArray) (pos : Nat) (h : pos < s.size) (ha : 128 ≤ (s.get! pos).toNat) : pos + (Utf8.decode s pos).2 ≤ s.size ∧ ∀ k, k < (Utf8.decode s pos).2 → 128 ≤ (s.get! (pos + k)).toNat := by
 have h0 : (s.get! (pos + 0)).toNat = (s.get! pos).toNat := rfl
 have hn : ¬ (s.get! (pos + 0)).toNat < 128 := by omega
 have one : pos + 1 ≤ s.size ∧ ∀ k, k < 1 → 128 ≤ (s.get! (pos + k)).toNat := ⟨by omega, fun k hk => by
  obtain rfl : k = 0 := by omega
  omega⟩
 simp only [Utf8.decode, hn, if_false]
 split
 ·next h1 =>
  simp only [Bool.and_eq_true, decide_eq_true_eq, beq_iff_eq] at h1
  split
  ·refine ⟨by omega, fun k hk => ?_⟩
   match k, hk with
   | 0, _ => omega
   | 1, _ => omega
  ·exact one
 ·split
  ·next h1 =>
   simp only [Bool.and_eq_true, decide_eq_true_eq, beq_iff_eq] at h1
   split
   ·refine ⟨by omega, fun k hk => ?_⟩
    match k, hk with
    | 0, _ => omega
    | 1, _ => omega
    | 2, _ => omega
   ·exact one
  ·split
   ·next h1 =>
    simp only [Bool.and_eq_true, decide_eq_true_eq, beq_iff_eq] at h1
    split
    ·refine ⟨by omega, fun k hk => ?_⟩
     match k, hk with
     | 0, _ => omega
     | 1, _ => omega
     | 2, _ => omega
     | 3, _ => omega
    ·exact one
   ·exact one
theorem encode_high {r : Int} (h : 128 ≤ r) : ∃ l b, (Utf8.encode r).data.toList = l ++ [b] ∧ 128 ≤ b.toNat ∧ 1 ≤ l.length ∧ l.length ≤ 3 := by
 have hb : ∀ n : Nat, 128 ≤ (UInt8.ofNat (0x80 + n % 64)).toNat := fun n => by rw [UInt8.toNat_ofNat']; omega
 unfold Utf8.encode
 simp only
 have hc : ¬ (if Utf8.valid r = true then r.toNat else Utf8.runeError) < 0x80 := by
  split
  ·omega
  ·unfold Utf8.runeError; omega
 generalize (if Utf8.valid r = true then r.toNat else Utf8.runeError) = c at hc ⊢
 rw [if_neg hc]
 split
 ·exact ⟨[_], _, rfl, hb _, by simp, by simp⟩
 ·split
  ·exact ⟨[_, _], _, rfl, hb _, by simp, by simp⟩
  ·exact ⟨[_, _, _], _, rfl, hb _, by simp, by simp⟩
theorem index_low {l : List UInt8} {b : UInt8} (h : ∀ c ∈ l, c.toNat < 128) (hb : 128 ≤ b.toNat) : Lib.indexByte l b = -1 := by
 have hg := Lib.indexByte_ge l b
 by_cases h0 : 0 ≤ Lib.indexByte l b
 ·have := (Lib.indexByte_some (l := l) (c := b) (o := (Lib.indexByte l b).toNat) (by omega)).1
  have := h b (List.mem_of_getElem? this)
  omega
 ·omega
def Low (chars : ByteArray) : Prop := ∀ (j : Nat) b, chars.data.toList[j]? = some b → b.toNat < 128
theorem rune_high (chars : ByteArray) (r : Int) (w : World) (hl : Low chars) (hr : 128 ≤ r) (hr2 : r ≤ 1114111) (hs : chars.size ≤ 1000) :
  Calls Tryz.prog 156 #[.string chars, .int .i32 r] w fun e w' => e = .returned (.int .i64 (-1)) ∧ Below w.heap.size w w' := by
 have q1 : decide (r < 128) = false := decide_eq_false (by omega)
 have q0 : decide ((0 : Int) ≤ r) = true := decide_eq_true (by omega)
 have HL : Hid (Low chars) := hl
 clear hl
 by_cases he : r = 65533
 ·subst he
  go_enter Tryz.func156, Tryz.ntmps156
  go_wp2_with fail
  go_loopw [] (fun wr => ∃ i : Nat, i ≤ chars.size ∧ wr = w.iter chars i) (fun wr => chars.size - wr.iterPos w.heap.size)
  case atStart => exact ⟨0, by omega, rfl⟩
  case round =>
   obtain ⟨i, hi, rfl⟩ := hrel
   by_cases hlt : i < chars.size
   ·obtain ⟨x, hx⟩ : ∃ x : UInt8, chars[i]'hlt = x := ⟨_, rfl⟩
    have hx128 : x.toNat < 128 := HL.out i x (by rw [← hx]; exact Lib.data_getElem? chars i hlt)
    have hnx := fun ty => run_next_ascii (P := Tryz.prog) w chars i ty hlt (by rw [hx]; exact hx128)
    rw [hx] at hnx
    have hq : ((x.toNat : Int) == 65533) = false := by rw [beq_eq_false_iff_ne]; omega
    clear hx
    go_wp2_with fail
    go_roundw
    case rel => exact ⟨i + 1, by omega, rfl⟩
    case measure => simp; omega
   ·obtain rfl : i = chars.size := by omega
    have hnx := run_next_end (P := Tryz.prog) w chars chars.size
    go_wp2_with fail
    go_ret
    exact ⟨rfl, (Below.refl _ _).alloc (Nat.le_refl _) _⟩
 ·have he' : (r == 65533) = false := by rw [beq_eq_false_iff_ne]; exact he
  have cV := Tryz.utf8_ValidRune r w
  cases hv : Lib.validRune r with
  | false =>
   rw [hv] at cV
   go_enter Tryz.func156, Tryz.ntmps156
   go_wp2_with fail
   refine cV.mono ?_
   rintro e w1 ⟨rfl, hw⟩
   obtain rfl : w = w1 := hw.symm
   go_wp2_with fail
   go_ret
   exact ⟨rfl, Below.refl _ _⟩
  | true =>
   rw [hv] at cV
   go_enter Tryz.func156, Tryz.ntmps156
   go_wp2_with fail
   refine cV.mono ?_
   rintro e w1 ⟨rfl, hw⟩
   obtain rfl : w = w1 := hw.symm
   go_wp2_with fail
   have hcv : ∀ W, (convert 21 9 (.int .i32 r)).run Tryz.prog W = .ok (.string (Utf8.encode r)) W := fun W => by first | rfl | kernel_rfl | simp [go_sem, convert]
   obtain ⟨pre, b, h1, h2, h3, h4⟩ := encode_high hr
   obtain ⟨rs, hrs⟩ : ∃ t, Utf8.encode r = t := ⟨_, rfl⟩
   rw [hrs] at hcv h1
   obtain ⟨L, hL⟩ : ∃ n, pre.length = n := ⟨_, rfl⟩
   have hrn : rs.size = L + 1 := by rw [Lib.size_eq, h1, List.length_append, hL]; rfl
   have hrb : ∀ h, rs[L]'h = b := fun h => by
    have := Lib.data_getElem? rs L h
    rw [h1, List.getElem?_append_right (by omega), hL, Nat.sub_self] at this
    simpa using this.symm
   have hb0 : b.toNat < 256 := b.toNat_lt
   have hLL : L < rs.size := by omega
   rw [hL] at h3 h4
   have hrI : (rs.size : Int) = (L : Int) + 1 := by omega
   clear hrs h1 cV hL
   go_step3
   go_wp2_with fail
   go_loopw [9] (fun v wr => v = .int .i64 (L : Int) ∧ wr = w) (fun _ _ => 0)
   case atStart => exact ⟨rfl, rfl⟩
   case round =>
    obtain ⟨rfl, hw⟩ := hrel
    obtain rfl : w = wr := hw.symm
    by_cases hlt : L < chars.size
    ·obtain ⟨x, hx⟩ : ∃ x : UInt8, chars[L]'hlt = x := ⟨_, rfl⟩
     have hx128 : x.toNat < 128 := HL.out L x (by rw [← hx]; exact Lib.data_getElem? chars L hlt)
     have hne : ((x.toNat : Int) != (b.toNat : Int)) = true := by rw [bne_iff_ne]; omega
     have hbx := hrb hLL
     have cB : ∀ W, Calls Tryz.prog 50 #[.string (chars.extract (L + 1) chars.size), .int .u8 (b.toNat : Int)] W fun e w' => e = .returned (.int .i64 (-1)) ∧ w' = W := fun W => by
      have := Tryz.strings_IndexByte (chars.extract (L + 1) chars.size) (b.toNat : Int) W
      rw [show ((b.toNat : Int)).toNat.toUInt8 = b by simp, Lib.extract_to_end, index_low (fun c hc => by
       obtain ⟨j, hj, hjc⟩ := List.mem_iff_getElem.1 (List.mem_of_mem_drop hc)
       exact HL.out j c (by rw [List.getElem?_eq_getElem hj, hjc])) h2] at this
      exact this
     obtain ⟨M, hM⟩ : ∃ M, L + 1 = M := ⟨_, rfl⟩
     have hwr : IntKind.i64.wrap ((L : Int) + 1) = (M : Int) := by rw [IntKind.wrap_i64]; omega
     have hM1 : M ≤ chars.size := by omega
     have hM2 : (M : Int) ≤ (chars.size : Int) := by omega
     rw [hM] at cB
     go_wp2_with fail
     go_step3
     go_wp2_with fail
     go_region
     all_goals
      go_wp2_with fail
      go_region_with (go_at_call 50; refine (cB _).mono ?_; rintro e w' ⟨rfl, hw⟩; subst hw)
      all_goals
       go_wp2_with fail
       rw [Exit.noGoto_ret]
       simp only [Exit.inBlock]
       go_wp2_with fail
       first | go_ret | (rw [Exit.noGoto_ret]; simp only [Exit.inBlock]; go_ret) | (rw [Exit.noGoto_ret]; go_ret)
       exact ⟨rfl, (Below.refl _ _).drew.drew⟩
    ·have hlt' : ¬ (L : Int) < (chars.size : Int) := by omega
     go_wp2_with fail
     go_ret
     exact ⟨rfl, Below.refl _ _⟩
end Go.Proofs.YtogigccbnohjjaaGreatDoor
