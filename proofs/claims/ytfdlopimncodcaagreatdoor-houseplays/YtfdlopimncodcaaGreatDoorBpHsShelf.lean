/-
  The library's contracts at this program's numbers: strings_HasPrefix, , and more.
-/
import Derived.Test.YtfdlopimncodcaaGreatDoorBpHmMatch
import Derived.Shelf.Strings.Builder1
import Derived.Shelf.Strings.Builder2
import Derived.Shelf.Strings.OnBuilder
import Derived.Shelf.Small.Utf8
import Derived.Shelf.Small.Bits
import Derived.Shelf.Small.Strs
import Derived.Shelf.Small.Wraps
import Derived.Shelf.Strings.BuilderF
import Derived.Shelf.Strings.BuilderK
import Derived.Shelf.Utf8.RuneCount
import Derived.Shelf.Strconv.Itoa0
import Derived.Shelf.Strconv.Itoa1
import Derived.Shelf.LaysM
import Derived.Shelf.Strconv.Itoa2
import Derived.Shelf.Strconv.Itoa3
import Derived.Shelf.Strings.Search1
import Derived.Shelf.Strings.Search2
import Derived.Shelf.Strings.Search3
import Derived.Shelf.Strings.Count
import Derived.Shelf.Strings.Shaped
import Derived.Shelf.Strings.LastIndex
import Derived.Shelf.Strings.Prefix
import Derived.Shelf.Unicode.Decode
import Derived.Shelf.Strings.Runes
import Derived.Shelf.Strings.RuneCount
import Derived.Shelf.Strings.IndexAny
import Derived.Shelf.Strings.AsciiSet
import Derived.Shelf.Unicode.DecodeSlow
import Derived.Shelf.Unicode.DecodeAny
import Derived.Shelf.Slices.Turned
import Derived.Shelf.Slices.Equal
import Derived.Ground.Names2Prog
import Derived.Shelf.Slices.ReverseS
import Derived.Shelf.Slices.Clone
import Derived.Shelf.Slices.CompactS
import Derived.Shelf.Slices.SearchI
import Derived.Shelf.Slices.Delete
import Derived.Shelf.Slices.Cells
import Derived.Ground.SlgnProg
import Derived.Shelf.SlicesE.Equal
import Derived.Shelf.SlicesE.Compact
import Derived.Shelf.SlicesE.Clone
import Derived.Ground.SlgfProg
import Derived.Shelf.SlicesE.IndexFunc
import Derived.Shelf.SlicesE.DeleteFunc
import Derived.Ground.SlsfProg
import Derived.Shelf.SlSortCmp.Insertion
import Derived.Shelf.SlSortCmp.ReverseRange1
import Derived.Lib.OwnBridge
import Derived.Lib.RowBridge
import Derived.Lib.AppendIntMem
namespace Go.Proofs
open Go.Shelf
def Tryz.lays156_ren : Go.Shelf.Ren := ⟨fun | 156 => 59 | 165 => 112 | 166 => 113 | 169 => 114 | 240 => 153 | 241 => 154 | 276 => 181 | 277 => 182 | n => n, fun | 31 => 32 | 9 => 9 | 3 => 3 | 4 => 4 | 0 => 0 | 20 => 20 | 72 => 153 | 76 => 97 | 70 => 151 | 37 => 29 | 75 => 38 | 127 => 189 | 164 => 162 | 5 => 5 | 80 => 156 | n => n, fun | n => n⟩
theorem Tryz.lays156 : Go.Proofs.Lays.n156 Tryz.prog Tryz.lays156_ren := {
  mixed := by kernel_rfl
  f156 := Tryz.func59.trans (congrArg some (by kernel_rfl))
  f165 := Tryz.func112.trans (congrArg some (by kernel_rfl))
  f166 := Tryz.func113.trans (congrArg some (by kernel_rfl))
  f169 := Tryz.func114.trans (congrArg some (by kernel_rfl))
  f240 := Tryz.func153.trans (congrArg some (by kernel_rfl))
  f241 := Tryz.func154.trans (congrArg some (by kernel_rfl))
  f276 := Tryz.func181.trans (congrArg some (by kernel_rfl))
  f277 := Tryz.func182.trans (congrArg some (by kernel_rfl))
  t0 := Tryz.underlying0
  a0 := Tryz.isAgg0
  z0 := Tryz.sizeOf0
  v0 := Tryz.zeroValue0
  t3 := Tryz.underlying3
  a3 := Tryz.isAgg3
  z3 := Tryz.sizeOf3
  v3 := Tryz.zeroValue3
  t4 := Tryz.underlying4
  a4 := Tryz.isAgg4
  z4 := Tryz.sizeOf4
  v4 := Tryz.zeroValue4
  t9 := Tryz.underlying9
  a9 := Tryz.isAgg9
  z9 := Tryz.sizeOf9
  v9 := Tryz.zeroValue9
  t20 := Tryz.underlying20
  a20 := Tryz.isAgg20
  z20 := Tryz.sizeOf20
  v20 := Tryz.zeroValue20
  t31 := Tryz.underlying32
  a31 := Tryz.isAgg32
  z31 := Tryz.sizeOf32
  v31 := Tryz.zeroValue32
  t37 := Tryz.underlying29
  a37 := Tryz.isAgg29
  z37 := Tryz.sizeOf29
  v37 := Tryz.zeroValue29
  t70 := Tryz.underlying151
  a70 := Tryz.isAgg151
  z70 := Tryz.sizeOf151
  v70 := Tryz.zeroValue151
  t72 := Tryz.underlying153
  a72 := Tryz.isAgg153
  z72 := Tryz.sizeOf153
  v72 := Tryz.zeroValue153
  t75 := Tryz.underlying38
  a75 := Tryz.isAgg38
  z75 := Tryz.sizeOf38
  v75 := Tryz.zeroValue38
  t76 := Tryz.underlying97
  a76 := Tryz.isAgg97
  z76 := Tryz.sizeOf97
  v76 := Tryz.zeroValue97
  t127 := Tryz.underlying189
  a127 := Tryz.isAgg189
  z127 := Tryz.sizeOf189
  v127 := Tryz.zeroValue189
  t164 := Tryz.underlying162
  a164 := Tryz.isAgg162
  z164 := Tryz.sizeOf162
  v164 := Tryz.zeroValue162 }
theorem Tryz.Builder_Extra_156 : Builder.Extra Tryz.prog Tryz.lays156_ren := {
  sizeBuilder := by kernel_rfl
  liesBuilder := by kernel_rfl
  t5 := Tryz.underlying5
  a5 := Tryz.isAgg5
  z5 := Tryz.sizeOf5
  v5 := Tryz.zeroValue5
  infoByte := by kernel_rfl
  cellsByte := by kernel_rfl
  sizeByte := by kernel_rfl
  neB5 := by decide }
open Go.RowKit in
theorem Tryz.strings_Join (bk o c : Nat) (xs : List ByteArray) (sep : ByteArray) (w : World) (hcells : ∀ (j : Nat) x, xs[j]? = some x → w.cell? ⟨bk, o + j, none⟩ = some (.string x)) (hbk : bk < w.heap.size) (hN : xs.length ≤ 140737488355328) (hcap : xs.length ≤ c) (hlen : (Lib.join (xs.map (·.data.toList)) sep.data.toList).length ≤ 140737488355328) :
    Calls Tryz.prog 59 #[.slice (some ⟨bk, o, none⟩) xs.length c, .string sep] w fun e w' => e = .returned (.string ⟨(Lib.join (xs.map (·.data.toList)) sep.data.toList).toArray⟩) ∧ Below w.heap.size w w' := Any.strings_Join Tryz.lays156 Tryz.Builder_Extra_156 bk o c xs sep w hcells hbk hN hcap hlen
def Tryz.lays144_ren : Go.Shelf.Ren := ⟨fun | 144 => 38 | 143 => 91 | 219 => 140 | 217 => 169 | 225 => 168 | 224 => 167 | 267 => 170 | 266 => 198 | 314 => 199 | n => n, fun | 9 => 9 | 4 => 4 | 3 => 3 | 5 => 5 | 46 => 27 | 146 => 218 | 51 => 217 | n => n, fun | 1 => 0 | n => n⟩
theorem Tryz.lays144 : Go.Proofs.Lays.n144 Tryz.prog Tryz.lays144_ren := {
  mixed := by kernel_rfl
  f143 := Tryz.func91.trans (congrArg some (by kernel_rfl))
  f144 := Tryz.func38.trans (congrArg some (by kernel_rfl))
  f217 := Tryz.func169.trans (congrArg some (by kernel_rfl))
  f219 := Tryz.func140.trans (congrArg some (by kernel_rfl))
  f224 := Tryz.func167.trans (congrArg some (by kernel_rfl))
  f225 := Tryz.func168.trans (congrArg some (by kernel_rfl))
  f266 := Tryz.func198.trans (congrArg some (by kernel_rfl))
  f267 := Tryz.func170.trans (congrArg some (by kernel_rfl))
  f314 := Tryz.func199.trans (congrArg some (by kernel_rfl))
  t3 := Tryz.underlying3
  a3 := Tryz.isAgg3
  z3 := Tryz.sizeOf3
  v3 := Tryz.zeroValue3
  t4 := Tryz.underlying4
  a4 := Tryz.isAgg4
  z4 := Tryz.sizeOf4
  v4 := Tryz.zeroValue4
  t5 := Tryz.underlying5
  a5 := Tryz.isAgg5
  z5 := Tryz.sizeOf5
  v5 := Tryz.zeroValue5
  t9 := Tryz.underlying9
  a9 := Tryz.isAgg9
  z9 := Tryz.sizeOf9
  v9 := Tryz.zeroValue9
  t46 := Tryz.underlying27
  a46 := Tryz.isAgg27
  z46 := Tryz.sizeOf27
  v46 := Tryz.zeroValue27
  t51 := Tryz.underlying217
  a51 := Tryz.isAgg217
  z51 := Tryz.sizeOf217
  v51 := Tryz.zeroValue217
  t146 := Tryz.underlying218
  a146 := Tryz.isAgg218
  z146 := Tryz.sizeOf218
  v146 := Tryz.zeroValue218
  g1 := by kernel_rfl }
open Go.RowKit Go.Lib in
theorem Tryz.strings_Contains (s sub : ByteArray) (m : Int) (w : World) (hs : s.size < 4294967281) (hm : w.cell? ⟨0, 0, none⟩ = some (.int .i64 m)) :
    Calls Tryz.prog 38 #[.string s, .string sub] w fun e w' => e = .returned (.bool (Lib.contains s.data.toList sub.data.toList)) ∧ w' = w := Any.strings_Contains Tryz.lays144 s sub m w hs hm
def Tryz.lays99_ren : Go.Shelf.Ren := ⟨fun | 99 => 33 | 206 => 85 | n => n, fun | 9 => 9 | 4 => 4 | 3 => 3 | n => n, fun | n => n⟩
theorem Tryz.lays99 : Go.Proofs.Lays.n99 Tryz.prog Tryz.lays99_ren := {
  mixed := by kernel_rfl
  f99 := Tryz.func33.trans (congrArg some (by kernel_rfl))
  f206 := Tryz.func85.trans (congrArg some (by kernel_rfl))
  t3 := Tryz.underlying3
  a3 := Tryz.isAgg3
  z3 := Tryz.sizeOf3
  v3 := Tryz.zeroValue3
  t4 := Tryz.underlying4
  a4 := Tryz.isAgg4
  z4 := Tryz.sizeOf4
  v4 := Tryz.zeroValue4
  t9 := Tryz.underlying9
  a9 := Tryz.isAgg9
  z9 := Tryz.sizeOf9
  v9 := Tryz.zeroValue9 }
open Go.RowKit Go.Lib in
theorem Tryz.strings_HasPrefix (s p : ByteArray) (w : World) :
    Calls Tryz.prog 33 #[.string s, .string p] w fun e w' => e = .returned (.bool (Lib.hasPrefix s.data.toList p.data.toList)) ∧ w' = w := Any.strings_HasPrefix Tryz.lays99 s p w
def Tryz.lays101_ren : Go.Shelf.Ren := ⟨fun | 101 => 126 | 208 => 159 | 206 => 85 | n => n, fun | 9 => 9 | 4 => 4 | 3 => 3 | n => n, fun | n => n⟩
theorem Tryz.lays101 : Go.Proofs.Lays.n101 Tryz.prog Tryz.lays101_ren := {
  mixed := by kernel_rfl
  f101 := Tryz.func126.trans (congrArg some (by kernel_rfl))
  f206 := Tryz.func85.trans (congrArg some (by kernel_rfl))
  f208 := Tryz.func159.trans (congrArg some (by kernel_rfl))
  t3 := Tryz.underlying3
  a3 := Tryz.isAgg3
  z3 := Tryz.sizeOf3
  v3 := Tryz.zeroValue3
  t4 := Tryz.underlying4
  a4 := Tryz.isAgg4
  z4 := Tryz.sizeOf4
  v4 := Tryz.zeroValue4
  t9 := Tryz.underlying9
  a9 := Tryz.isAgg9
  z9 := Tryz.sizeOf9
  v9 := Tryz.zeroValue9 }
open Go.RowKit Go.Lib in
theorem Tryz.strings_TrimPrefix (s p : ByteArray) (w : World) :
    Calls Tryz.prog 126 #[.string s, .string p] w fun e w' => e = .returned (.string ⟨(Lib.trimPrefix s.data.toList p.data.toList).toArray⟩) ∧ w' = w := Any.strings_TrimPrefix Tryz.lays101 s p w
def Tryz.lays110_ren : Go.Shelf.Ren := ⟨fun | 110 => 61 | 109 => 34 | n => n, fun | 31 => 32 | 9 => 9 | 4 => 4 | 3 => 3 | 0 => 0 | n => n, fun | n => n⟩
theorem Tryz.lays110 : Go.Proofs.Lays.n110 Tryz.prog Tryz.lays110_ren := {
  mixed := by kernel_rfl
  f109 := Tryz.func34.trans (congrArg some (by kernel_rfl))
  f110 := Tryz.func61.trans (congrArg some (by kernel_rfl))
  t0 := Tryz.underlying0
  a0 := Tryz.isAgg0
  z0 := Tryz.sizeOf0
  v0 := Tryz.zeroValue0
  t3 := Tryz.underlying3
  a3 := Tryz.isAgg3
  z3 := Tryz.sizeOf3
  v3 := Tryz.zeroValue3
  t4 := Tryz.underlying4
  a4 := Tryz.isAgg4
  z4 := Tryz.sizeOf4
  v4 := Tryz.zeroValue4
  t9 := Tryz.underlying9
  a9 := Tryz.isAgg9
  z9 := Tryz.sizeOf9
  v9 := Tryz.zeroValue9
  t31 := Tryz.underlying32
  a31 := Tryz.isAgg32
  z31 := Tryz.sizeOf32
  v31 := Tryz.zeroValue32 }
open Go.Lib in
theorem Tryz.slices_Contains_string (b off n c : Nat) (zs : List ByteArray) (x : ByteArray) (w : World) (hz : n ≤ zs.length) (hbig : n ≤ 9223372036854775807) (hc : ∀ j, j < zs.length → w.cell? ⟨b, off + j, none⟩ = some (.string (zs.getD j ByteArray.empty))) :
    Calls Tryz.prog 61 #[.slice (some ⟨b, off, none⟩) n c, .string x] w fun e w' => e = .returned (.bool (Lib.containsS (zs.take n) x)) ∧ w' = w := Any.slices_Contains_string Tryz.lays110 b off n c zs x w hz hbig hc
def Tryz.lays193_ren : Go.Shelf.Ren := ⟨fun | 193 => 28 | n => n, fun | 31 => 32 | 9 => 9 | 4 => 4 | 3 => 3 | 0 => 0 | n => n, fun | n => n⟩
theorem Tryz.lays193 : Go.Proofs.Lays.n193 Tryz.prog Tryz.lays193_ren := {
  mixed := by kernel_rfl
  f193 := Tryz.func28.trans (congrArg some (by kernel_rfl))
  t0 := Tryz.underlying0
  a0 := Tryz.isAgg0
  z0 := Tryz.sizeOf0
  v0 := Tryz.zeroValue0
  t3 := Tryz.underlying3
  a3 := Tryz.isAgg3
  z3 := Tryz.sizeOf3
  v3 := Tryz.zeroValue3
  t4 := Tryz.underlying4
  a4 := Tryz.isAgg4
  z4 := Tryz.sizeOf4
  v4 := Tryz.zeroValue4
  t9 := Tryz.underlying9
  a9 := Tryz.isAgg9
  z9 := Tryz.sizeOf9
  v9 := Tryz.zeroValue9
  t31 := Tryz.underlying32
  a31 := Tryz.isAgg32
  z31 := Tryz.sizeOf32
  v31 := Tryz.zeroValue32 }
open Go.RowKit Go.Lib in
theorem Tryz.slices_Equal_string (b1 o1 n c b2 o2 m d : Nat) (xs ys : List ByteArray) (w : World) (hx : n ≤ xs.length) (hy : m ≤ ys.length) (hbig : n ≤ 9223372036854775807) (hbig2 : m ≤ 9223372036854775807) (hc1 : ∀ j, j < xs.length → w.cell? ⟨b1, o1 + j, none⟩ = some (.string (xs.getD j ByteArray.empty))) (hc2 : ∀ j, j < ys.length → w.cell? ⟨b2, o2 + j, none⟩ = some (.string (ys.getD j ByteArray.empty))) :
    Calls Tryz.prog 28 #[.slice (some ⟨b1, o1, none⟩) n c, .slice (some ⟨b2, o2, none⟩) m d] w fun e w' => e = .returned (.bool (decide (xs.take n = ys.take m))) ∧ ∃ q, w' = w.drewN q := Any.slices_Equal_string Tryz.lays193 b1 o1 n c b2 o2 m d xs ys w hx hy hbig hbig2 hc1 hc2
open Go.RowKit Go.Lib in
theorem Tryz.slices_Equal_string_empty (a1 a2 : Option Addr) (c m d : Nat) (w : World) (hbig2 : m ≤ 9223372036854775807) :
    Calls Tryz.prog 28 #[.slice a1 0 c, .slice a2 m d] w fun e w' => e = .returned (.bool (decide (m = 0))) ∧ w' = w := Any.slices_Equal_string_empty Tryz.lays193 a1 a2 c m d w hbig2
def Tryz.laysSlH8_f107_ren : Go.Shelf.Ren := ⟨fun | 8 => 107 | 6 => 122 | n => n, fun | 22 => 32 | 23 => 9 | 25 => 104 | 4 => 4 | 3 => 3 | 0 => 0 | n => n, fun | n => n⟩
theorem Tryz.laysSlH8_f107 : Go.Proofs.SlLaysH.n8 Tryz.prog Tryz.laysSlH8_f107_ren := {
  mixed := by kernel_rfl
  f6 := ⟨Tryz.f122.name, by decide, Tryz.func122.trans (congrArg some (by kernel_rfl))⟩
  f8 := ⟨Tryz.f107.name, by decide, Tryz.func107.trans (congrArg some (by kernel_rfl))⟩
  t0 := Tryz.underlying0
  a0 := Tryz.isAgg0
  z0 := Tryz.sizeOf0
  v0 := Tryz.zeroValue0
  t3 := Tryz.underlying3
  a3 := Tryz.isAgg3
  z3 := Tryz.sizeOf3
  v3 := Tryz.zeroValue3
  t4 := Tryz.underlying4
  a4 := Tryz.isAgg4
  z4 := Tryz.sizeOf4
  v4 := Tryz.zeroValue4
  t22 := Tryz.underlying32
  a22 := Tryz.isAgg32
  z22 := Tryz.sizeOf32
  v22 := Tryz.zeroValue32
  a23 := Tryz.isAgg9
  z23 := Tryz.sizeOf9
  t25 := Tryz.underlying104
  a25 := Tryz.isAgg104
  z25 := Tryz.sizeOf104
  v25 := Tryz.zeroValue104 }
open Go.RowKit Go.Lib in
theorem Tryz.slices_ContainsFunc {α : Type} [Inhabited α] (enc : α → Value) (p : α → Bool) (g : Nat) (lb : Array Value) (eg : ∀ args w, (callFunc g args).run Tryz.prog w = .ok (.enter g args) w) (b off n c : Nat) (zs : List α) (w : World) (hp : PredAt Tryz.prog g lb enc p w) (hz : n ≤ zs.length) (hbig : n ≤ 9223372036854775807) (hc : ∀ j, j < zs.length → w.cell? ⟨b, off + j, none⟩ = some (enc zs[j]!)) :
    Calls Tryz.prog 107 #[.slice (some ⟨b, off, none⟩) n c, .func (.func g) #[] lb] w fun e w' => e = .returned (.bool ((zs.take n).any p)) ∧ ∃ q, w' = w.drewN q := AnyE.slices_ContainsFunc Tryz.laysSlH8_f107 enc p g lb eg b off n c zs w hp hz hbig hc
open Go.RowKit Go.Lib in
theorem Tryz.slices_ContainsFunc_empty {α : Type} [Inhabited α] (a : Option Addr) (c : Nat) (fv : Value) (w : World) :
    Calls Tryz.prog 107 #[.slice a 0 c, fv] w fun e w' => e = .returned (.bool false) ∧ w' = w := AnyE.slices_ContainsFunc_empty Tryz.laysSlH8_f107 a c fv w
def Tryz.laysSlH10_f78_ren : Go.Shelf.Ren := ⟨fun | 10 => 78 | 6 => 122 | n => n, fun | 22 => 32 | 23 => 9 | 25 => 104 | 3 => 3 | 4 => 4 | 0 => 0 | n => n, fun | n => n⟩
theorem Tryz.laysSlH10_f78 : Go.Proofs.SlLaysH.n10 Tryz.prog Tryz.laysSlH10_f78_ren := {
  mixed := by kernel_rfl
  f6 := ⟨Tryz.f122.name, by decide, Tryz.func122.trans (congrArg some (by kernel_rfl))⟩
  f10 := ⟨Tryz.f78.name, by decide, Tryz.func78.trans (congrArg some (by kernel_rfl))⟩
  t0 := Tryz.underlying0
  a0 := Tryz.isAgg0
  z0 := Tryz.sizeOf0
  v0 := Tryz.zeroValue0
  t3 := Tryz.underlying3
  a3 := Tryz.isAgg3
  z3 := Tryz.sizeOf3
  v3 := Tryz.zeroValue3
  t4 := Tryz.underlying4
  a4 := Tryz.isAgg4
  z4 := Tryz.sizeOf4
  v4 := Tryz.zeroValue4
  t22 := Tryz.underlying32
  a22 := Tryz.isAgg32
  z22 := Tryz.sizeOf32
  v22 := Tryz.zeroValue32
  a23 := Tryz.isAgg9
  z23 := Tryz.sizeOf9
  t25 := Tryz.underlying104
  a25 := Tryz.isAgg104
  z25 := Tryz.sizeOf104
  v25 := Tryz.zeroValue104 }
open Go.RowKit Go.Lib Go.Sort in
theorem Tryz.slices_DeleteFunc {α : Type} [Inhabited α] (enc : α → Value) (hO : OneCell enc) (p : α → Bool) (g : Nat) (lb : Array Value) (eg : ∀ args w, (callFunc g args).run Tryz.prog w = .ok (.enter g args) w) (zr : α) (v23 : ∀ w, (zeroValue 9).run Tryz.prog w = .ok (enc zr) w) (blk off cap : Nat) (d : Array α) (w : World) (hp : PredAt Tryz.prog g lb enc p w) (hpo : PredOver Tryz.prog g lb enc p blk off d.size w) (hH : Holds enc w blk off d) (hsz : d.size ≤ 9223372036854775807) (hcap : d.size ≤ cap) :
    Calls Tryz.prog 78 #[.slice (some ⟨blk, off, none⟩) d.size cap, .func (.func g) #[] lb] w fun e w' => e = .returned (.slice (some ⟨blk, off, none⟩) (d.toList.filter fun x => !p x).length cap) ∧ ∃ q, w' = putRow enc (Sort.ahead w q) blk off ((d.toList.filter fun x => !p x) ++ List.replicate (d.size - (d.toList.filter fun x => !p x).length) zr).toArray := AnyE.slices_DeleteFunc Tryz.laysSlH10_f78 enc hO p g lb eg zr v23 blk off cap d w hp hpo hH hsz hcap
end Go.Proofs
namespace Go.Proofs.YtfdlopimncodcaaGreatDoor
open Go.RowKit Go.Proofs.Aid Go.Sort Go.Lib
theorem nbelow_grow {B : Nat} {w0 w : World} (h : Below B w0 w) (hB : B ≤ w.heap.size) (os : Array Obj) : Below B w0 (grow w os) := h.trans (Lib.below_grow B w hB 0 os)
theorem nbelow_sort {α : Type} [Inhabited α] (enc : α → Value) (B : Nat) (w : World) (blk m : Nat) (dk : Array α) (os : Array Obj) (hB : B ≤ w.heap.size) (hb : B ≤ blk) : Below B w (sortWorld enc w blk 0 m dk os) :=
  nbelow_grow (Lib.below_putRow (Below.refl _ _) hb) (by simp [putRow, mapBlock, Sort.ahead]; exact hB) os
theorem NRow.nil_of {w : World} {base : Nat} {l : List Nm} (h : NRow w base (.slice none 0 0) l) : l = [] := by
  rcases h.2 with ⟨_, h2⟩ | ⟨g, cap, cur, h2, _⟩
  · exact List.eq_nil_of_length_eq_zero h2
  · cases h2
theorem nindex_nil (f : Value) (w : World) : Calls Tryz.prog 122 #[.slice none 0 0, f] w fun e w' => e = .returned (.int .i64 (-1)) ∧ w' = w := by
  go_enter Tryz.func122, Tryz.ntmps122
  go_wp2
  refine wp_loop_rounds 1 ?_
  rw [rounds_succ]
  go_wp2
  go_ret
  exact ⟨rfl, rfl⟩
theorem ndelete_nil (f : Value) (w : World) : Calls Tryz.prog 78 #[.slice none 0 0, f] w fun e w' => e = .returned (.slice none 0 0) ∧ w' = w := by
  go_enter Tryz.func78, Tryz.ntmps78
  go_wp2_with (refine (nindex_nil _ _).mono ?_; rintro e w' ⟨rfl, rfl⟩)
  go_ret
  exact ⟨rfl, rfl⟩
theorem Tryz.zeroNm (w : World) : (zeroValue 9).run Tryz.prog w = .ok (encStr []) w := by kernel_rfl
theorem ndelete_fn (g : Nat) (lb : Array Value) (eg : ∀ args w, (callFunc g args).run Tryz.prog w = .ok (.enter g args) w) (p : Nm → Bool) (base : Nat) (v : Value) (x : List Nm) (w : World) (h : NRow w base v x) (hB : base ≤ w.heap.size) (hx : x.length ≤ 1000)
    (hk : ∀ W t, Below base w W → FnGives Tryz.prog g lb #[encStr t] (.bool (p t)) W) :
    Calls Tryz.prog 78 #[v, .func (.func g) #[] lb] w fun e w' => (∃ v', e = .returned v' ∧ NRow w' base v' (x.filter fun t => !p t)) ∧ Below base w w' := by
  by_cases hv : v = .slice none 0 0
  · subst hv
    obtain rfl := h.nil_of
    refine (ndelete_nil _ w).mono ?_
    rintro e w' ⟨rfl, rfl⟩
    exact ⟨⟨_, rfl, World.ownsRow_nil _ _ _ _⟩, Below.refl _ _⟩
  · obtain ⟨gg, cap, rfl, hgb2, hlt, hc, hm, _, hH⟩ := Lib.holds_of_ownsRow h hv
    have hD := Tryz.slices_DeleteFunc encStr (fun _ => rfl) p g lb eg [] Tryz.zeroNm gg 0 cap x.toArray w
      (fun W t hb => hk W t (hb.mono hB)) (fun n os dk t _ => hk _ t (nbelow_sort encStr base w gg n dk os hB hgb2)) hH (by simp; omega) (by simpa using hc)
    have hsz : x.toArray.size = x.length := by simp
    rw [hsz] at hD
    refine hD.mono ?_
    rintro e w' ⟨rfl, q, rfl⟩
    have hfl : (x.filter fun t => !p t).length ≤ x.length := List.length_filter_le _ _
    have h1 := Lib.ownsRow_putRow (q := q) (ys := (x.filter fun t => !p t) ++ List.replicate (x.length - (x.filter fun t => !p t).length) []) (k := (x.filter fun t => !p t).length) h (by rw [List.length_append, List.length_replicate]; omega) hfl
    rw [List.take_left] at h1
    exact ⟨⟨_, rfl, h1⟩, Lib.below_putRow (Below.refl _ _) hgb2⟩
def inB (a b : Nm) : Bool := Lib.hasPrefix a (b ++ [47])
set_option maxHeartbeats 1000000 in
theorem liesIn_is (a b : ByteArray) (w : World) (hb : b.size ≤ 1000000) :
    Calls Tryz.prog 124 #[.string a, .string b] w fun e w' => e = .returned (.bool (inB a.data.toList b.data.toList)) ∧ w' = w := by
  have cP := Tryz.strings_HasPrefix a (b ++ ⟨#[47]⟩) w
  have e1 : (b ++ (⟨#[47]⟩ : ByteArray)).data.toList = b.data.toList ++ [47] := by simp
  rw [e1] at cP
  have HA : Hid (inB a.data.toList b.data.toList = Lib.hasPrefix a.data.toList (b.data.toList ++ [47])) := rfl
  obtain ⟨A, hA⟩ : ∃ A, Lib.hasPrefix a.data.toList (b.data.toList ++ [47]) = A := ⟨_, rfl⟩
  rw [hA] at cP
  have HA2 : Hid (inB a.data.toList b.data.toList = A) := HA.out.trans hA
  rw [HA2.out]
  clear hA HA e1 HA2
  have hlim : (9223372036854775807 < b.size + 1) = False := eq_false (by omega)
  go_enter Tryz.func124, Tryz.ntmps124
  go_wp2_with fail
  refine cP.mono ?_
  rintro e w1 ⟨rfl, hw⟩
  obtain rfl : w = w1 := hw.symm
  go_wp2_with fail
  go_ret
  exact ⟨rfl, rfl⟩
set_option maxHeartbeats 1000000 in
theorem within1_is (n : ByteArray) (p : Nat) (s : ByteArray) (w : World) (hp : w.cell? ⟨p, 0, none⟩ = some (.string s)) (hs : s.size ≤ 1000000) :
    Calls Tryz.prog 141 #[.string n, .pointer (some ⟨p, 0, none⟩)] w fun e w' => e = .returned (.bool (!inB n.data.toList s.data.toList)) ∧ w' = w := by
  have cL := liesIn_is n s w hs
  obtain ⟨A, hA⟩ : ∃ A, inB n.data.toList s.data.toList = A := ⟨_, rfl⟩
  rw [hA] at cL ⊢
  clear hA
  go_enter Tryz.func141, Tryz.ntmps141
  go_wp2_with fail
  refine cL.mono ?_
  rintro e w1 ⟨rfl, hw⟩
  obtain rfl : w = w1 := hw.symm
  go_wp2_with fail
  go_ret
  exact ⟨rfl, rfl⟩
def withinB (l : Bxs) (n : Nm) : List Nm := (namesB l).filter fun t => inB t n
set_option maxHeartbeats 2000000 in
set_option maxRecDepth 100000 in
theorem within_is (hb mb : Nat) (l : Bxs) (nx : Int) (wv : Value) (s : ByteArray) (w : World) (h : HsAt w hb mb l nx wv) (hl : l.length ≤ 1000) (hs : s.size ≤ 1000000) :
    Calls Tryz.prog 96 #[.pointer (some ⟨hb, 0, none⟩), .string s] w fun e w' => (∃ v, e = .returned v ∧ NRow w' w.heap.size v (withinB l s.data.toList)) ∧ Below w.heap.size w w' := by
  have b1 : Below w.heap.size w (w.alloc (.cells #[.string s] 9)) := (Below.refl _ _).alloc (Nat.le_refl _) _
  have e1 := heap_alloc_new w (.cells #[.string s] 9)
  have z1 : (w.alloc (.cells #[.string s] 9)).heap.size = w.heap.size + 1 := World.size_alloc _ _
  have h1 := h.below b1 (Nat.le_refl _)
  obtain ⟨W1, hW1⟩ : ∃ W, w.alloc (.cells #[.string s] 9) = W := ⟨_, rfl⟩
  rw [hW1] at b1 e1 z1 h1
  have cN := names_is hb mb l nx wv W1 h1 hl
  have HB1 : Hid (Below w.heap.size w W1 ∧ W1.heap.size = w.heap.size + 1 ∧ W1.heap[w.heap.size]? = some (.cells #[.string s] 9 (0, 0))) := ⟨b1, z1, e1⟩
  have hnl : (namesB l).length ≤ 1000 := by unfold namesB; rw [List.length_map]; exact hl
  clear h h1 b1 e1 z1
  go_enter Tryz.func96, Tryz.ntmps96
  go_wp2_with fail
  refine cN.mono ?_
  rintro e w2 ⟨⟨v, rfl, hrow⟩, hb2⟩
  obtain ⟨va, vc, rfl⟩ := row_form hrow
  have cD := ndelete_fn 141 #[.pointer (some ⟨w.heap.size, 0, none⟩)] (enters_of Tryz.func141 (by kernel_rfl) rfl) (fun t => !inB t s.data.toList) W1.heap.size (.slice va (namesB l).length vc) (namesB l) w2 hrow hb2.size hnl (fun W t hW => by
    have hc : W.cell? ⟨w.heap.size, 0, none⟩ = some (.string s) := rd_cell ((hW.block _ (by have := HB1.out.2.1; omega)).trans ((hb2.block _ (by have := HB1.out.2.1; omega)).trans HB1.out.2.2)) rfl
    have := within1_is ⟨t.toArray⟩ w.heap.size s W hc hs
    refine this.mono ?_
    rintro e w' ⟨rfl, rfl⟩
    exact ⟨by simp, 0, rfl⟩)
  have HB2 : Hid (Below W1.heap.size W1 w2) := hb2
  clear cN hrow hb2
  go_wp2_with fail
  refine cD.mono ?_
  rintro e w3 ⟨⟨v3, rfl, hrow3⟩, hb3⟩
  have HF : Hid (NRow w3 w.heap.size v3 (withinB l s.data.toList) ∧ Below w.heap.size w w3) := by
    refine ⟨?_, HB1.out.1.trans ((HB2.out.trans hb3).mono (by have := HB1.out.2.1; omega))⟩
    have : (fun t => !(!inB t s.data.toList)) = fun t => inB t s.data.toList := by funext t; simp
    rw [this] at hrow3
    exact ownsRow_base_a hrow3 (by have := HB1.out.2.1; omega)
  clear hrow3 hb3 cD
  go_wp2_with fail
  go_ret
  exact ⟨⟨_, rfl, HF.out.1⟩, HF.out.2⟩
end Go.Proofs.YtfdlopimncodcaaGreatDoor
namespace Go.Proofs.YtfdlopimncodcaaGreatDoor
open Go.RowKit Go.Proofs.Aid
def NameC (nB : Nm → Option Nm) (w : World) : Prop := ∀ (s : ByteArray) (W : World), Below 8 w W → s.size ≤ 1000 → Calls Tryz.prog 15 #[.string s] W fun e w' => Below W.heap.size W w' ∧
  ((∃ r : ByteArray, nB s.data.toList = some r.data.toList ∧ r.size ≤ 60 ∧ e = .returned (.tuple #[.string r, .nilIface])) ∨ (nB s.data.toList = none ∧ e = .returned (.tuple #[.string ⟨#[]⟩, .iface 42 (.int .i64 1)])))
abbrev errN (n : Int) : Value := .iface 42 (.int .i64 n)
set_option maxHeartbeats 2000000 in
set_option maxRecDepth 100000 in
theorem there_is (nB : Nm → Option Nm) (hb mb : Nat) (l : Bxs) (nx : Int) (wv : Value) (s : ByteArray) (w : World) (hN : NameC nB w) (h : HsAt w hb mb l nx wv) (hs : s.size ≤ 1000) :
    Calls Tryz.prog 81 #[.pointer (some ⟨hb, 0, none⟩), .string s] w fun e w' => Below w.heap.size w w' ∧
      ((∃ r : ByteArray, nB s.data.toList = some r.data.toList ∧ r.size ≤ 60 ∧ hasB l r.data.toList = true ∧ e = .returned (.tuple #[.string r, .nilIface])) ∨
       (∃ r : ByteArray, nB s.data.toList = some r.data.toList ∧ hasB l r.data.toList = false ∧ e = .returned (.tuple #[.string r, errN 7])) ∨
       (nB s.data.toList = none ∧ e = .returned (.tuple #[.string ⟨#[]⟩, errN 1]))) := by
  have cN := hN s w (Below.refl _ _) hs
  have HH : Hid (HsAt w hb mb l nx wv) := h
  clear hN h
  go_enter Tryz.func81, Tryz.ntmps81
  go_wp2_with fail
  refine cN.mono ?_
  rintro e w1 ⟨hb1, ⟨r, hr, hr2, rfl⟩ | ⟨hr, rfl⟩⟩
  · have cH := has_is hb mb l nx wv r w1 (HH.out.below hb1 (Nat.le_refl _)) (by omega)
    have HB1 : Hid (Below w.heap.size w w1 ∧ nB s.data.toList = some r.data.toList) := ⟨hb1, hr⟩
    cases hB : hasB l r.data.toList with
    | true =>
      have HBB : Hid (hasB l r.data.toList = true) := hB
      rw [hB] at cH
      clear cN hb1 hB hr
      go_wp2_with fail
      refine cH.mono ?_
      rintro e w2 ⟨rfl, hw⟩
      obtain rfl : w1 = w2 := hw.symm
      clear hw cH
      go_wp2_with fail
      go_ret2
      exact ⟨HB1.out.1, Or.inl ⟨r, HB1.out.2, hr2, HBB.out, rfl⟩⟩
    | false =>
      have HBB : Hid (hasB l r.data.toList = false) := hB
      rw [hB] at cH
      clear cN hb1 hB hr
      go_wp2_with fail
      refine cH.mono ?_
      rintro e w2 ⟨rfl, hw⟩
      obtain rfl : w1 = w2 := hw.symm
      clear hw cH
      go_wp2_with fail
      go_ret2
      exact ⟨HB1.out.1, Or.inr (Or.inl ⟨r, HB1.out.2, HBB.out, rfl⟩)⟩
  · have HB1 : Hid (Below w.heap.size w w1 ∧ nB s.data.toList = none) := ⟨hb1, hr⟩
    clear cN hb1 hr
    go_wp2_with fail
    go_ret2
    exact ⟨HB1.out.1, Or.inr (Or.inr ⟨HB1.out.2, rfl⟩)⟩
set_option maxHeartbeats 2000000 in
set_option maxRecDepth 100000 in
theorem free_is (nB : Nm → Option Nm) (hb mb : Nat) (l : Bxs) (nx : Int) (wv : Value) (s : ByteArray) (w : World) (hN : NameC nB w) (h : HsAt w hb mb l nx wv) (hs : s.size ≤ 1000) :
    Calls Tryz.prog 82 #[.pointer (some ⟨hb, 0, none⟩), .string s] w fun e w' => Below w.heap.size w w' ∧
      ((∃ r : ByteArray, nB s.data.toList = some r.data.toList ∧ r.size ≤ 60 ∧ hasB l r.data.toList = false ∧ e = .returned (.tuple #[.string r, .nilIface])) ∨
       (∃ r : ByteArray, nB s.data.toList = some r.data.toList ∧ hasB l r.data.toList = true ∧ e = .returned (.tuple #[.string r, errN 9])) ∨
       (nB s.data.toList = none ∧ e = .returned (.tuple #[.string ⟨#[]⟩, errN 1]))) := by
  have cN := hN s w (Below.refl _ _) hs
  have HH : Hid (HsAt w hb mb l nx wv) := h
  clear hN h
  go_enter Tryz.func82, Tryz.ntmps82
  go_wp2_with fail
  refine cN.mono ?_
  rintro e w1 ⟨hb1, ⟨r, hr, hr2, rfl⟩ | ⟨hr, rfl⟩⟩
  · have cH := has_is hb mb l nx wv r w1 (HH.out.below hb1 (Nat.le_refl _)) (by omega)
    have HB1 : Hid (Below w.heap.size w w1 ∧ nB s.data.toList = some r.data.toList) := ⟨hb1, hr⟩
    cases hB : hasB l r.data.toList with
    | true =>
      have HBB : Hid (hasB l r.data.toList = true) := hB
      rw [hB] at cH
      clear cN hb1 hB hr
      go_wp2_with fail
      refine cH.mono ?_
      rintro e w2 ⟨rfl, hw⟩
      obtain rfl : w1 = w2 := hw.symm
      clear hw cH
      go_wp2_with fail
      go_ret2
      exact ⟨HB1.out.1, Or.inr (Or.inl ⟨r, HB1.out.2, HBB.out, rfl⟩)⟩
    | false =>
      have HBB : Hid (hasB l r.data.toList = false) := hB
      rw [hB] at cH
      clear cN hb1 hB hr
      go_wp2_with fail
      refine cH.mono ?_
      rintro e w2 ⟨rfl, hw⟩
      obtain rfl : w1 = w2 := hw.symm
      clear hw cH
      go_wp2_with fail
      go_ret2
      exact ⟨HB1.out.1, Or.inl ⟨r, HB1.out.2, hr2, HBB.out, rfl⟩⟩
  · have HB1 : Hid (Below w.heap.size w w1 ∧ nB s.data.toList = none) := ⟨hb1, hr⟩
    clear cN hb1 hr
    go_wp2_with fail
    go_ret2
    exact ⟨HB1.out.1, Or.inr (Or.inr ⟨HB1.out.2, rfl⟩)⟩
theorem lack_short {l : Bxs} {n m : Nm} (h : m ∈ lackB l n) : m.length ≤ n.length := by
  unfold lackB lackTo at h
  obtain ⟨i, _, rfl⟩ := List.mem_map.1 h
  rw [List.length_take]
  omega
set_option maxHeartbeats 4000000 in
set_option maxRecDepth 100000 in
theorem create_is (nB : Nm → Option Nm) (hb mb : Nat) (l : Bxs) (nx : Int) (wv : Value) (s : ByteArray) (w : World) (hN : NameC nB w) (h : HsAt w hb mb l nx wv) (hs : s.size ≤ 1000) (hl : l.length ≤ 100) (hn : 0 ≤ nx ∧ nx ≤ 900000) :
    Calls Tryz.prog 41 #[.pointer (some ⟨hb, 0, none⟩), .string s] w fun e w' =>
      (nB s.data.toList = none ∧ e = .returned (errN 1) ∧ Below w.heap.size w w') ∨
      (∃ r, nB s.data.toList = some r ∧ hasB l r = true ∧ e = .returned (errN 9) ∧ Below w.heap.size w w') ∨
      (∃ r, nB s.data.toList = some r ∧ hasB l r = false ∧ 30 < l.length + (lackB l r ++ [r]).length ∧ e = .returned (errN 12) ∧ Below w.heap.size w w') ∨
      (∃ r ps, nB s.data.toList = some r ∧ hasB l r = false ∧ l.length + (lackB l r ++ [r]).length ≤ 30 ∧ e = .returned .nilIface ∧ HK hb mb w w' ∧ Built w.heap.size w' nx (lackB l r ++ [r]) ps ∧ HsAt w' hb mb (putAll l ps) (nx + ((lackB l r ++ [r]).length : Int)) wv) := by
  have cF := free_is nB hb mb l nx wv s w hN h hs
  have HH : Hid (HsAt w hb mb l nx wv) := h
  clear hN h
  go_enter Tryz.func41, Tryz.ntmps41
  go_wp2_with fail
  refine cF.mono ?_
  rintro e w1 ⟨hb1, ⟨r, hr, hr2, hr3, rfl⟩ | ⟨r, hr, hr3, rfl⟩ | ⟨hr, rfl⟩⟩
  · have h1 := HH.out.below hb1 (Nat.le_refl _)
    have cL := lacking_is hb mb l nx wv r w1 h1 (by omega)
    have HR : Hid (nB s.data.toList = some r.data.toList ∧ hasB l r.data.toList = false ∧ Below w.heap.size w w1 ∧ HsAt w1 hb mb l nx wv) := ⟨hr, hr3, hb1, h1⟩
    clear cF hr hr3 hb1 h1
    go_wp2_with fail
    refine cL.mono ?_
    rintro e w2 ⟨⟨v, rfl, hrow⟩, hb2⟩
    obtain ⟨LL, hLL⟩ : ∃ n, (lackB l r.data.toList).length = n := ⟨_, rfl⟩
    obtain ⟨XS, hXS⟩ : ∃ x, (lackB l r.data.toList).map encStr = x := ⟨_, rfl⟩
    have hlen : LL ≤ 60 := by
      have := lackTo_len l r.data.toList r.data.toList.length
      rw [Array.length_toList] at this
      have e2 : (lackB l r.data.toList).length ≤ r.size := by unfold lackB; rw [Array.length_toList]; exact this
      omega
    unfold NRow at hrow
    rw [hLL, hXS] at hrow
    obtain ⟨oa, oc, rfl⟩ := row_form hrow
    have hbs := hb2.size
    have HL : Hid ((lackB l r.data.toList).length = LL ∧ (lackB l r.data.toList).map encStr = XS ∧ Below w1.heap.size w1 w2) := ⟨hLL, hXS, hb2⟩
    clear cL hLL hXS hb2
    go_wp2_with (at_builtin; go_must (refine wpList_push rfl (.tmp 18) (.tmp 20) 32 rfl _ w1.heap.size 9 (.string ⟨#[]⟩) 16 Tryz.underlying32 Tryz.infoNm rfl _ _ _ (by rfl) hrow [.string r] _ (by rfl) (by simp) (by simp [Value.oneCell']) (by simp) (by rfl) (by decide) (by simp; omega) hbs ?_); intro g3 cap3 w3 hown3 hg3 hlt3)
    have hb3 : Below w1.heap.size w1 w3 := HL.out.2.2.grown hg3 hbs (fun j e => (hrow.lt j e).1)
    have h3 := HR.out.2.2.2.below hb3 (Nat.le_refl _)
    have hrow3 : NRow w3 w1.heap.size (.slice (some ⟨g3, 0, none⟩) (LL + 1) cap3) (lackB l r.data.toList ++ [r.data.toList]) := by
      unfold NRow
      rw [List.length_append, List.map_append, HL.out.1, HL.out.2.1, List.map_cons, enc_ba]
      exact hown3
    have cB := build_is hb mb w1.heap.size l nx wv (.slice (some ⟨g3, 0, none⟩) (LL + 1) cap3) (lackB l r.data.toList ++ [r.data.toList]) w3 h3 hrow3 (fun n hn' => by
      have hsz : r.data.toList.length = r.size := by rw [Array.length_toList]; rfl
      rcases List.mem_append.1 hn' with h4 | h4
      · have := lack_short h4
        omega
      · rw [List.mem_singleton.1 h4]
        omega) hl (by rw [List.length_append, HL.out.1]; simp; omega) hn
    have HB3 : Hid (Below w.heap.size w w3) := HR.out.2.2.1.trans (hb3.mono HR.out.2.2.1.size)
    clear hown3 hg3 hb3 h3 hrow3 hrow
    go_wp2_with fail
    refine cB.mono ?_
    rintro e w4 (⟨q1, rfl, hw⟩ | ⟨q1, rfl, q2, ps, q3, q4⟩)
    · obtain rfl : w3 = w4 := hw.symm
      have HQ : Hid (30 < l.length + (lackB l r.data.toList ++ [r.data.toList]).length) := q1
      clear hw cB q1
      go_wp2_with fail
      go_ret
      exact Or.inr (Or.inr (Or.inl ⟨_, HR.out.1, HR.out.2.1, HQ.out, rfl, HB3.out⟩))
    · have HQ : Hid (l.length + (lackB l r.data.toList ++ [r.data.toList]).length ≤ 30 ∧ HK hb mb w w4 ∧ Built w.heap.size w4 nx (lackB l r.data.toList ++ [r.data.toList]) ps ∧ HsAt w4 hb mb (putAll l ps) (nx + ((lackB l r.data.toList ++ [r.data.toList]).length : Int)) wv) := ⟨q1, (HK.of HB3.out).trans q2, ⟨q3.1, fun j p hj => ⟨Nat.le_trans HB3.out.size (q3.2.1 j p hj).1, (q3.2.1 j p hj).2⟩, q3.2.2⟩, q4⟩
      clear cB q1 q2 q3 q4
      go_wp2_with fail
      go_ret
      exact Or.inr (Or.inr (Or.inr ⟨_, ps, HR.out.1, HR.out.2.1, HQ.out.1, rfl, HQ.out.2.1, HQ.out.2.2.1, HQ.out.2.2.2⟩))
  · have HR : Hid (nB s.data.toList = some r.data.toList ∧ hasB l r.data.toList = true ∧ Below w.heap.size w w1) := ⟨hr, hr3, hb1⟩
    clear cF hr hr3 hb1
    go_wp2_with fail
    go_ret
    exact Or.inr (Or.inl ⟨_, HR.out.1, HR.out.2.1, rfl, HR.out.2.2⟩)
  · have HR : Hid (nB s.data.toList = none ∧ Below w.heap.size w w1) := ⟨hr, hb1⟩
    clear cF hr hb1
    go_wp2_with fail
    go_ret
    exact Or.inl ⟨HR.out.1, rfl, HR.out.2⟩
end Go.Proofs.YtfdlopimncodcaaGreatDoor
