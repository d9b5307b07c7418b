/-
  What seq.readNumber does.
  The library's contracts at this program's numbers: strconv_AppendInt_10.
  What seq.readRange does.
-/
import Derived.Test.YtligkpcoajnjmaaGreatDoorRAl02
import Derived.Lib.IndexBytes
import Derived.Shelf.Strings.Builder1
import Derived.Shelf.Strings.Builder2
import Derived.Shelf.Strings.OnBuilder
import Derived.Shelf.Strings.Trim
import Derived.Shelf.Small.Utf8
import Derived.Shelf.Small.Bits
import Derived.Shelf.Small.Strs
import Derived.Shelf.Strconv.Atoi
import Derived.Shelf.Strconv.Itoa0
import Derived.Shelf.Strconv.Itoa1
import Derived.Shelf.LaysM
import Derived.Shelf.Strconv.Itoa2
import Derived.Shelf.Strconv.Itoa3
import Derived.Shelf.Strconv.Itoa4
import Derived.Shelf.Strconv.AtoiErrFast
import Derived.Shelf.Strconv.ParseIntEmpty
import Derived.Shelf.Strconv.AtoiFail
import Derived.Shelf.Strconv.Clone
import Derived.Shelf.Strconv.SyntaxError
import Derived.Shelf.LaysC
import Derived.Shelf.Strconv.ToError
import Derived.Shelf.Strconv.Lower
import Derived.Shelf.Strconv.ParseUint10
import Derived.Shelf.Strconv.ParseUint10Empty
import Derived.Shelf.Strconv.ParseUint10Any
import Derived.Shelf.Strconv.ParseInt10
import Derived.Shelf.Strconv.AtoiLong
import Derived.Shelf.Strconv.AtoiInnerAll
import Derived.Shelf.Strconv.RangeError
import Derived.Shelf.Strconv.ToErrorRange
import Derived.Shelf.Strconv.AtoiAll
import Derived.Shelf.Strconv.ParseUintEmpty
import Derived.Shelf.Strconv.ParseUint10b64
import Derived.Shelf.Strconv.ParseUint10b32
import Derived.Shelf.Strconv.ParseUint10b16
import Derived.Shelf.Strconv.ParseUint10b8
import Derived.Shelf.Strconv.ParseUint10At
import Derived.Shelf.Strconv.ParseInt10At64
import Derived.Shelf.Strconv.ParseInt10At32
import Derived.Shelf.Strconv.ParseInt10At16
import Derived.Shelf.Strconv.ParseInt10At8
import Derived.Shelf.Strconv.ParseInt10All
import Derived.Shelf.Strconv.ParseIntPublic10
import Derived.Shelf.Strings.Search1
import Derived.Shelf.Strings.Search2
import Derived.Shelf.Strings.Search3
import Derived.Shelf.Strings.Cut
import Derived.Shelf.Strings.Count
import Derived.Shelf.Strings.Shaped
import Derived.Shelf.Strings.LastIndex
import Derived.Shelf.Strconv.AppendUint10
import Derived.Shelf.Strconv.AppendInt10
import Derived.Shelf.Strconv.AppendIntPublic10
import Derived.Shelf.Strings.Prefix
import Derived.Shelf.Strings.Split
import Derived.Shelf.Strings.Replace
import Derived.Shelf.Strings.Runes
import Derived.Shelf.Strings.IndexAny
import Derived.Shelf.Strings.AsciiSet
import Derived.Shelf.Strings.IndexAnyAll
import Derived.Shelf.Unicode.DecodeSlow
import Derived.Shelf.Unicode.DecodeAny
import Derived.Shelf.Slices.Turned
import Derived.Ground.Names2Prog
import Derived.Shelf.Slices.Clone
import Derived.Shelf.Slices.CompactS
import Derived.Shelf.Slices.SearchI
import Derived.Shelf.Slices.Cells
import Derived.Ground.SlgnProg
import Derived.Shelf.SlicesE.Clone
import Derived.Test.YtligkpcoajnjmaaGreatDoorRAl15
import Derived.Laws.ResultCell
namespace Go.Proofs.YtligkpcoajnjmaaGreatDoorR
open Go.RowKit Go.Proofs.Aid Go.Proofs.Sq

theorem drop_cons (s : ByteArray) (k : Nat) (h : k < s.size) : s.data.toList.drop k = s[k] :: s.data.toList.drop (k + 1) := by
  have hl : k < s.data.toList.length := by rw [← Lib.size_eq]; exact h
  rw [List.drop_eq_getElem_cons hl, Array.getElem_toList]; rfl
theorem num_no {c : UInt8} {acc : Nat} {r : List UInt8} {ANS : Option Nat} (h : Hid (((digit? c).bind fun d => if acc * 10 + d ≤ 2147483647 then digitsFrom (acc * 10 + d) r else none) = ANS)) (h1 : c.toNat < 48 ∨ 57 < c.toNat ∨ 2147483647 < acc * 10 + (c.toNat - 48)) : none = ANS := by
  have h2 : ((digit? c).bind fun d => if acc * 10 + d ≤ 2147483647 then digitsFrom (acc * 10 + d) r else none) = ANS := h
  rw [← h2]
  unfold digit?
  by_cases h3 : 48 ≤ c.toNat ∧ c.toNat ≤ 57
  · rw [if_pos h3, Option.bind_some, if_neg (by omega)]
  · rw [if_neg h3]; rfl
theorem num_yes {c : UInt8} {acc : Nat} {r : List UInt8} {ANS : Option Nat} (h : Hid (((digit? c).bind fun d => if acc * 10 + d ≤ 2147483647 then digitsFrom (acc * 10 + d) r else none) = ANS)) (h1 : 48 ≤ c.toNat) (h3 : c.toNat ≤ 57) (h4 : acc * 10 + (c.toNat - 48) ≤ 2147483647) : digitsFrom (acc * 10 + (c.toNat - 48)) r = ANS := by
  have h2 : ((digit? c).bind fun d => if acc * 10 + d ≤ 2147483647 then digitsFrom (acc * 10 + d) r else none) = ANS := h
  rw [← h2]
  unfold digit?
  rw [if_pos ⟨h1, h3⟩, Option.bind_some, if_pos h4]
set_option maxHeartbeats 2000000 in
set_option maxRecDepth 100000 in
theorem number_any (s : ByteArray) (w : World) (hs : s.size ≤ 2000000) :
    Calls Tryz.prog 269 #[.string s] w fun e w' => ((∃ n : Nat, numOf s.data.toList = some n ∧ n ≤ 2147483647 ∧ e = .returned (.tuple #[.int .i64 (n : Int), .bool true])) ∨ (numOf s.data.toList = none ∧ e = .returned (.tuple #[.int .i64 0, .bool false]))) ∧ w' = w := by
  by_cases h1 : s = ⟨#[42]⟩
  · subst h1
    go_enter Tryz.func269, Tryz.ntmps269
    go_wp2
    go_ret2
    exact ⟨Or.inl ⟨0, rfl, by decide, rfl⟩, rfl⟩
  have hl1 : s.data.toList ≠ [42] := by
    intro h2; apply h1
    rw [show s = ⟨s.data.toList.toArray⟩ by simp, h2]
  by_cases h2 : s.size = 0
  · have hn : numOf s.data.toList = none := by
      have hz : s.data.toList = [] := List.eq_nil_of_length_eq_zero (by rw [← Lib.size_eq]; exact h2)
      rw [hz]; rfl
    rw [hn]
    have f1 : (s.toList == [42]) = false := by rw [Lib.toList_data]; simpa using hl1
    have f2 : s.toList = [] := by rw [Lib.toList_data]; exact List.eq_nil_of_length_eq_zero (by rw [← Lib.size_eq]; exact h2)
    go_enter Tryz.func269, Tryz.ntmps269
    go_wp2
    go_ret2
    exact ⟨Or.inr ⟨trivial, rfl⟩, rfl⟩
  have hd0 := drop_cons s 0 (by omega)
  rw [List.drop_zero] at hd0
  by_cases h3 : s[0]'(by omega) = 48
  · have hn : numOf s.data.toList = none := by
      unfold numOf
      rw [if_neg hl1, if_pos (Or.inr (by rw [hd0, h3]; rfl))]
    rw [hn]
    have f1 : (s.toList == [42]) = false := by rw [Lib.toList_data]; simpa using hl1
    have f2 : s.toList.isEmpty = false := by rw [Lib.toList_data, hd0]; rfl
    have f3 : (((s[0]'(by omega)).toNat : Int) == 48) = true := by rw [h3]; rfl
    go_enter Tryz.func269, Tryz.ntmps269
    go_wp2
    go_ret2
    exact ⟨Or.inr ⟨trivial, rfl⟩, rfl⟩
  have hn : numOf s.data.toList = digitsFrom 0 s.data.toList := by
    unfold numOf
    rw [if_neg hl1, if_neg (by rw [hd0]; rintro (h | h); cases h; exact h3 (by simpa using h))]
  rw [hn]
  obtain ⟨ANS, hANS⟩ : ∃ ANS, digitsFrom 0 s.data.toList = ANS := ⟨_, rfl⟩
  rw [hANS]
  have f1 : (s.toList == [42]) = false := by rw [Lib.toList_data]; simpa using hl1
  have f2 : s.toList.isEmpty = false := by rw [Lib.toList_data, hd0]; rfl
  have f3 : (((s[0]'(by omega)).toNat : Int) == 48) = false := by
    rw [beq_eq_false_iff_ne]
    intro e
    exact h3 (UInt8.toNat_inj.1 (by show (s[0]'(by omega)).toNat = 48; omega))
  clear hn hd0
  go_enter Tryz.func269, Tryz.ntmps269
  go_wp2
  go_loopw [4, 18] (fun nv i wr => ∃ (k acc : Nat), i = .int .i64 (k : Int) ∧ nv = .int .i64 (acc : Int) ∧ k ≤ s.size ∧ acc ≤ 2147483647 ∧ digitsFrom acc (s.data.toList.drop k) = ANS ∧ wr = w) (fun _ i _ => s.size - (intOf i).toNat)
  case atStart => exact ⟨0, 0, rfl, rfl, by omega, by decide, by simpa using hANS, rfl⟩
  case round =>
    obtain ⟨k, acc, rfl, rfl, hk, hacc, hd, rfl⟩ := hrel
    clear hANS
    by_cases hlt : k < s.size
    · rw [drop_cons s k hlt, digitsFrom] at hd
      generalize hc : s[k] = c at hd
      have HD : Hid (((digit? c).bind fun d => if acc * 10 + d ≤ 2147483647 then digitsFrom (acc * 10 + d) (s.data.toList.drop (k + 1)) else none) = ANS) := hd
      clear hd
      go_wp2_with fail
      all_goals first
        | (go_ret2; exact ⟨Or.inr ⟨(num_no HD (by omega)).symm, rfl⟩, rfl⟩)
        | (go_roundw
           case rel => exact ⟨k + 1, acc * 10 + (c.toNat - 48), by go_num, by congr 1; omega, by omega, by omega, num_yes HD (by omega) (by omega) (by omega), trivial⟩
           case measure => simp [intOf]; omega)
    · rw [List.drop_eq_nil_of_le (by rw [← Lib.size_eq]; omega), digitsFrom] at hd
      have HD : Hid (some acc = ANS) := hd
      clear hd
      go_wp2
      go_ret2
      exact ⟨Or.inl ⟨acc, HD.symm, hacc, rfl⟩, rfl⟩
end Go.Proofs.YtligkpcoajnjmaaGreatDoorR
namespace Go.Proofs
open Go.Shelf
def Tryz.laysM176_ren : Go.Shelf.Ren := ⟨fun | 176 => 48 | 249 => 108 | 288 => 169 | 283 => 170 | 284 => 171 | 285 => 172 | 286 => 173 | 129 => 209 | 317 => 208 | 318 => 210 | 319 => 211 | 320 => 212 | 337 => 245 | 338 => 246 | n => n, fun | 37 => 106 | 2 => 2 | 3 => 3 | 53 => 221 | 4 => 4 | 9 => 9 | 171 => 223 | 0 => 0 | 173 => 226 | 212 => 257 | 51 => 258 | 5 => 5 | 20 => 20 | 213 => 259 | 46 => 111 | 232 => 319 | 233 => 320 | n => n, fun | 17 => 2 | 18 => 5 | 19 => 6 | n => n⟩
theorem Tryz.laysM176 : Go.Proofs.LaysM.n176 Tryz.prog Tryz.laysM176_ren := {
  mixed := by kernel_rfl
  f129 := Tryz.func209.trans (congrArg some (by kernel_rfl))
  f176 := Tryz.func48.trans (congrArg some (by kernel_rfl))
  f249 := Tryz.func108.trans (congrArg some (by kernel_rfl))
  f283 := Tryz.func170.trans (congrArg some (by kernel_rfl))
  f284 := Tryz.func171.trans (congrArg some (by kernel_rfl))
  f285 := Tryz.func172.trans (congrArg some (by kernel_rfl))
  f286 := Tryz.func173.trans (congrArg some (by kernel_rfl))
  f288 := Tryz.func169.trans (congrArg some (by kernel_rfl))
  f317 := Tryz.func208.trans (congrArg some (by kernel_rfl))
  f318 := Tryz.func210.trans (congrArg some (by kernel_rfl))
  f319 := Tryz.func211.trans (congrArg some (by kernel_rfl))
  f320 := Tryz.func212.trans (congrArg some (by kernel_rfl))
  f337 := Tryz.func245.trans (congrArg some (by kernel_rfl))
  f338 := Tryz.func246.trans (congrArg some (by kernel_rfl))
  t0 := Tryz.underlying0
  a0 := Tryz.isAgg0
  z0 := Tryz.sizeOf0
  v0 := Tryz.zeroValue0
  t2 := Tryz.underlying2
  a2 := Tryz.isAgg2
  z2 := Tryz.sizeOf2
  v2 := Tryz.zeroValue2
  t3 := Tryz.underlying3
  a3 := Tryz.isAgg3
  z3 := Tryz.sizeOf3
  v3 := Tryz.zeroValue3
  t4 := Tryz.underlying4
  a4 := Tryz.isAgg4
  z4 := Tryz.sizeOf4
  v4 := Tryz.zeroValue4
  t5 := Tryz.underlying5
  a5 := Tryz.isAgg5
  z5 := Tryz.sizeOf5
  v5 := Tryz.zeroValue5
  t9 := Tryz.underlying9
  a9 := Tryz.isAgg9
  z9 := Tryz.sizeOf9
  v9 := Tryz.zeroValue9
  t20 := Tryz.underlying20
  a20 := Tryz.isAgg20
  z20 := Tryz.sizeOf20
  v20 := Tryz.zeroValue20
  t37 := Tryz.underlying106
  a37 := Tryz.isAgg106
  z37 := Tryz.sizeOf106
  v37 := Tryz.zeroValue106
  t46 := Tryz.underlying111
  a46 := Tryz.isAgg111
  z46 := Tryz.sizeOf111
  v46 := Tryz.zeroValue111
  t51 := Tryz.underlying258
  a51 := Tryz.isAgg258
  z51 := Tryz.sizeOf258
  v51 := Tryz.zeroValue258
  t53 := Tryz.underlying221
  a53 := Tryz.isAgg221
  z53 := Tryz.sizeOf221
  v53 := Tryz.zeroValue221
  t171 := Tryz.underlying223
  a171 := Tryz.isAgg223
  z171 := Tryz.sizeOf223
  v171 := Tryz.zeroValue223
  t173 := Tryz.underlying226
  a173 := Tryz.isAgg226
  z173 := Tryz.sizeOf226
  v173 := Tryz.zeroValue226
  t212 := Tryz.underlying257
  a212 := Tryz.isAgg257
  z212 := Tryz.sizeOf257
  v212 := Tryz.zeroValue257
  t213 := Tryz.underlying259
  a213 := Tryz.isAgg259
  z213 := Tryz.sizeOf259
  t232 := Tryz.underlying319
  a232 := Tryz.isAgg319
  z232 := Tryz.sizeOf319
  v232 := Tryz.zeroValue319
  t233 := Tryz.underlying320
  a233 := Tryz.isAgg320
  z233 := Tryz.sizeOf320
  v233 := Tryz.zeroValue320
  g17 := by kernel_rfl
  g18 := by kernel_rfl
  g19 := by kernel_rfl
  i0 := by kernel_rfl
  i2 := by kernel_rfl
  i3 := by kernel_rfl
  i4 := by kernel_rfl
  i5 := by kernel_rfl
  i9 := by kernel_rfl
  i20 := by kernel_rfl
  i37 := by kernel_rfl
  i46 := by kernel_rfl
  i51 := by kernel_rfl
  i53 := by kernel_rfl
  i171 := by kernel_rfl
  i173 := by kernel_rfl
  i212 := by kernel_rfl
  i232 := by kernel_rfl
  i233 := by kernel_rfl
  m17 := by kernel_rfl
  m18 := by kernel_rfl
  m19 := by kernel_rfl }
open Go.RowKit Go.Sort Go.Lib in
theorem Tryz.strconv_AppendInt_10 (B n : Nat) (i : Int) (h0 : -9223372036854775808 ≤ i) (h1 : i ≤ 9223372036854775807) (sv : Value) (xs : List Value) (w : World) (hown : w.ownsRow B 5 1 sv n xs) (hBw : B ≤ w.heap.size) (hlim : n + 21 ≤ 140737488355328) (htab : Lib.TabBelow Tryz.prog B w "internal/strconv.uint64pow10" .u64 Lib.pow10Tab) :
    Calls Tryz.prog 48 #[sv, .int .i64 i, .int .i64 10] w fun e w' => ∃ v', e = .returned v' ∧ w'.ownsRow B 5 1 v' (n + (Lib.itoa i).length) (xs ++ Lib.byteCells (Lib.itoa i)) ∧ Below B w w' ∧ Lib.OthersKept 5 none w w' := Any.strconv_AppendInt_10 Tryz.laysM176 B n i h0 h1 sv xs w hown hBw hlim htab
end Go.Proofs
namespace Go.Proofs.YtligkpcoajnjmaaGreatDoorR
open Go.RowKit Go.Proofs.Aid Go.Proofs.Sq

theorem cut_call (c : UInt8) (s : ByteArray) (m : Int) (w : World) (hs : s.size ≤ 2000000) (hm : w.cell? ⟨1, 0, none⟩ = some (.int .i64 m)) :
    Calls Tryz.prog 53 #[.string s, .string ⟨#[c]⟩] w fun e w' => e = .returned (.tuple #[.string ⟨(cutAt c s.data.toList).1.toArray⟩, .string ⟨(cutAt c s.data.toList).2.1.toArray⟩, .bool (cutAt c s.data.toList).2.2]) ∧ ∃ n, w' = w.drewN n := by
  refine (Tryz.strings_Cut s ⟨#[c]⟩ m w (by omega) hm).mono ?_
  rintro e w' ⟨rfl, n, rfl⟩
  rw [show Lib.cut s.data.toList (⟨#[c]⟩ : ByteArray).data.toList = cutAt c s.data.toList from cut_eq c _]
  exact ⟨rfl, n, rfl⟩
theorem two_below (w : World) (o : Obj) (n : Nat) (a b : Value) : Below w.heap.size w ((((w.alloc o).drewN n).setCell ⟨w.heap.size, 0, none⟩ a).setCell ⟨w.heap.size, 1, none⟩ b) :=
  ((below_drewN ((Below.refl _ _).alloc (Nat.le_refl _) _) _).setCell (p := ⟨w.heap.size, 0, none⟩) (Nat.le_refl _) _).setCell (p := ⟨w.heap.size, 1, none⟩) (Nat.le_refl _) _
set_option maxHeartbeats 2000000 in
set_option maxRecDepth 100000 in
theorem range_any (s : ByteArray) (m : Int) (w : World) (hs : s.size ≤ 2000000) (hm : w.cell? ⟨1, 0, none⟩ = some (.int .i64 m)) :
    Calls Tryz.prog 239 #[.string s] w fun e w' => ((∃ r : Nat × Nat, rangeOf s.data.toList = some r ∧ r.1 ≤ 2147483647 ∧ r.2 ≤ 2147483647 ∧ e = .returned (.tuple #[.agg #[.int .i64 (r.1 : Int), .int .i64 (r.2 : Int)], .bool true])) ∨ (rangeOf s.data.toList = none ∧ e = .returned (.tuple #[.agg #[.int .i64 0, .int .i64 0], .bool false]))) ∧ Below w.heap.size w w' ∧ w'.heap.size = w.heap.size + 1 := by
  have cC := fun w1 hm1 => cut_call 58 s m w1 hs hm1
  obtain ⟨ANS, hANS⟩ : ∃ ANS, rangeOf s.data.toList = ANS := ⟨_, rfl⟩
  rw [hANS]
  unfold rangeOf at hANS
  have hl := cutAt_length 58 s.data.toList
  rw [← Lib.size_eq] at hl
  generalize (cutAt 58 s.data.toList) = C at cC hANS hl
  obtain ⟨l1, l2, two⟩ := C
  simp only at cC hANS hl
  obtain ⟨s1, h1⟩ : ∃ s1 : ByteArray, s1 = ⟨l1.toArray⟩ := ⟨_, rfl⟩
  obtain ⟨s2, h2⟩ : ∃ s2 : ByteArray, s2 = ⟨l2.toArray⟩ := ⟨_, rfl⟩
  rw [← h1, ← h2] at cC
  have e1 : s1.data.toList = l1 := by rw [h1]
  have e2 : s2.data.toList = l2 := by rw [h2]
  have z1 : s1.size ≤ 2000000 := by rw [Lib.size_eq, e1]; omega
  have z2 : s2.size ≤ 2000000 := by rw [Lib.size_eq, e2]; omega
  clear h1 h2 hl
  have c1 := fun w1 => number_any s1 w1 z1
  have c2 := fun w1 => number_any s2 w1 z2
  rw [e1] at c1
  rw [e2] at c2
  clear z1 z2 e1 e2
  have hmA : ∀ (o : Obj), (w.alloc o).cell? ⟨1, 0, none⟩ = some (.int .i64 m) := fun o => by
    rw [World.cell?_alloc_old _ _ _ (Nat.ne_of_lt (World.block_lt_of_cell? _ _ hm))]; exact hm
  have cC' := fun o => cC (w.alloc o) (hmA o)
  clear cC
  go_enter Tryz.func239, Tryz.ntmps239
  go_wp2_with fail
  refine (cC' _).mono ?_
  rintro e w1 ⟨rfl, n, rfl⟩
  go_wp2_with fail
  refine (c1 _).mono ?_
  rintro e w1 ⟨⟨a, hn1, ha, rfl⟩ | ⟨hn1, rfl⟩, rfl⟩
  · rw [hn1, Option.bind_some] at hANS
    cases two
    · have HA : Hid (some (a, a) = ANS) := by show some (a, a) = ANS; simpa using hANS
      clear hANS
      go_wp2
      (try simp only [Exit.inBlock, Exit.then])
      refine bodyPost_ret (v := .tuple #[.agg #[.int .i64 (a : Int), .int .i64 (a : Int)], .bool true]) ?_ rfl ⟨Or.inl ⟨(a, a), HA.symm, ha, ha, rfl⟩, ?_, ?_⟩
      · rw [results_cell_tmp rfl]; go_simp
      · exact two_below _ _ _ _ _
      · simp
    · go_wp2_with fail
      refine (c2 _).mono ?_
      rintro e w1 ⟨⟨b, hn2, hb, rfl⟩ | ⟨hn2, rfl⟩, rfl⟩
      · have HA : Hid (some (a, b) = ANS) := by show some (a, b) = ANS; simpa [hn2] using hANS
        clear hANS
        go_wp2
        (try simp only [Exit.inBlock, Exit.then])
        refine bodyPost_ret (v := .tuple #[.agg #[.int .i64 (a : Int), .int .i64 (b : Int)], .bool true]) ?_ rfl ⟨Or.inl ⟨(a, b), HA.symm, ha, hb, rfl⟩, ?_, ?_⟩
        · rw [results_cell_tmp rfl]; go_simp
        · exact two_below _ _ _ _ _
        · simp
      · have HA : Hid (none = ANS) := by show none = ANS; simpa [hn2] using hANS
        clear hANS
        go_wp2
        (try simp only [Exit.inBlock, Exit.then])
        refine bodyPost_ret (v := .tuple #[.agg #[.int .i64 0, .int .i64 0], .bool false]) ?_ rfl ⟨Or.inr ⟨HA.symm, rfl⟩, ?_, ?_⟩
        · rw [results_cell_tmp rfl]; go_simp
        · exact two_below _ _ _ _ _
        · simp
  · have HA : Hid (none = ANS) := by show none = ANS; simpa [hn1] using hANS
    clear hANS
    go_wp2
    (try simp only [Exit.inBlock, Exit.then])
    refine bodyPost_ret (v := .tuple #[.agg #[.int .i64 0, .int .i64 0], .bool false]) ?_ rfl ⟨Or.inr ⟨HA.symm, rfl⟩, ?_, ?_⟩
    · rw [results_cell_tmp rfl]; go_simp
    · exact two_below _ _ _ _ _
    · simp
end Go.Proofs.YtligkpcoajnjmaaGreatDoorR
