/-
  The document's house: a map from texts to its boxes, and more.
-/
import Derived.Test.YtfdlopimncodcaaGreatDoorBpAid
import Derived.Shelf.Strings.Builder1
import Derived.Shelf.Strings.Builder2
import Derived.Shelf.Strings.OnBuilder
import Derived.Shelf.Small.Utf8
import Derived.Shelf.Small.Bits
import Derived.Shelf.Small.Strs
import Derived.Shelf.Small.Wraps
import Derived.Shelf.Strings.BuilderF
import Derived.Shelf.Strings.BuilderK
import Derived.Shelf.Utf8.RuneCount
import Derived.Shelf.Strings.Builder2Cap
import Derived.Shelf.Strconv.Itoa0
import Derived.Shelf.Strconv.Itoa1
import Derived.Shelf.LaysM
import Derived.Shelf.Strconv.Itoa2
import Derived.Shelf.Strconv.Itoa3
import Derived.Shelf.Strings.Search1
import Derived.Shelf.Strings.Search2
import Derived.Shelf.Strings.Search3
import Derived.Shelf.Strings.Count
import Derived.Shelf.Strings.Shaped
import Derived.Shelf.Sort.Plain
import Derived.Shelf.Strings.LastIndex
import Derived.Shelf.Strings.LastIndexAll
import Derived.Shelf.Strings.Prefix
import Derived.Shelf.Strings.Split
import Derived.Shelf.Strings.SplitShaped
import Derived.Shelf.Unicode.Decode
import Derived.Shelf.Strings.Runes
import Derived.Shelf.Strings.RuneCount
import Derived.Shelf.Strings.IndexAny
import Derived.Shelf.Strings.AsciiSet
import Derived.Shelf.Strings.IndexAnyAll
import Derived.Shelf.Strings.Explode
import Derived.Shelf.Unicode.DecodeSlow
import Derived.Shelf.Unicode.DecodeAny
import Derived.Shelf.Strings.BuilderCap
import Derived.Shelf.Slices.Turned
import Derived.Shelf.Slices.Equal
import Derived.Ground.Names2Prog
import Derived.Shelf.Slices.ReverseS
import Derived.Shelf.Slices.Clone
import Derived.Shelf.Slices.CompactS
import Derived.Shelf.Slices.SearchI
import Derived.Shelf.Slices.Delete
import Derived.Shelf.Slices.Cells
import Derived.Shelf.Slices.In.SortNone
import Derived.Shelf.Slices.In.SortNone2
import Derived.Shelf.Slices.Empties
import Derived.Shelf.Slices.Empties2
import Derived.Ground.SlgnProg
import Derived.Shelf.SlicesE.Reverse
import Derived.Shelf.SlicesE.Equal
import Derived.Shelf.SlicesE.Compact
import Derived.Shelf.SlicesE.Delete
import Derived.Shelf.SlicesE.Clone
import Derived.Ground.SlgfProg
import Derived.Shelf.SlicesE.IndexFunc
import Derived.Shelf.SlicesE.DeleteFunc
import Derived.Ground.SlsfProg
import Derived.Shelf.SlSortCmp.Insertion
import Derived.Shelf.SlSortCmp.SiftDown1
import Derived.Shelf.SlSortCmp.HeapSort1
import Derived.Shelf.SlSortCmp.Insertion1
import Derived.Shelf.SlSortCmp.Median1
import Derived.Shelf.SlSortCmp.Pivot1
import Derived.Shelf.SlSortCmp.ReverseRange1
import Derived.Shelf.SlSortCmp.PartialInsertion1
import Derived.Shelf.SlSortCmp.PartitionEqual1
import Derived.Shelf.SlSortCmp.Partition1
import Derived.Shelf.SlSortCmp.Pdq1
import Derived.Shelf.SlSortCmp.Whole1
import Derived.Shelf.SlSortCmp.NoneTotal
import Derived.Ground.PaProg
import Derived.Shelf.Path.Small
namespace Go.Proofs.YtfdlopimncodcaaGreatDoor
open Go.RowKit Go.Proofs.Aid
open Go.Maps (Keyed string_keyed IsMap isMap_empty atKey_put_same atKey_put_other atKey_del_same atKey_del_other has_put_same has_put_other has_del_same has_del_other has_true_of_atKey)
def RMp (w : World) (mb : Nat) (l : Bxs) : Prop := SortedB l ∧ ∃ D : DataW Unit, w.ownsMap Tryz.prog 9 ptrElem mb l.length D ∧ MpD l D
theorem rmp_keys {w : World} {mb n : Nat} {l : Bxs} {D : DataW Unit} (hs : SortedB l) (h : w.ownsMap Tryz.prog 9 ptrElem mb n D) (hD : MpD l D) : (l.map Prod.fst).Perm (strKeys D) := by
  obtain ⟨es, e1, hk⟩ := h.keysOf
  obtain ⟨es', e2, hp, _⟩ := h.entries lawN
  subst e1
  cases e2
  refine perm_strKeys hp (fun p hp' => ?_) (keys_nodup hs) fun x => ?_
  · obtain ⟨v, hv⟩ := hk p hp'
    obtain ⟨x, _, hx, _⟩ := Maps.keyOf_str Tryz.underlying9 hv
    exact ⟨x, hx⟩
  · rw [hD.has x, hasB_true, List.mem_map]
    constructor
    · rintro ⟨⟨m, b⟩, hm, rfl⟩
      exact ⟨b, hm⟩
    · rintro ⟨b, hm⟩
      exact ⟨_, hm, rfl⟩
theorem rmp_size {w : World} {mb n : Nat} {l : Bxs} {D : DataW Unit} (hs : SortedB l) (h : w.ownsMap Tryz.prog 9 ptrElem mb n D) (hD : MpD l D) : Maps.size D = l.length := by
  have hp := (rmp_keys hs h hD).length_eq
  obtain ⟨es, rfl⟩ := h.isMap
  rw [List.length_map] at hp
  rw [hp]
  show es.length = (es.map fun p => strOf p.1).length
  rw [List.length_map]
theorem rmp_mk {w : World} {mb n : Nat} {l : Bxs} {D : DataW Unit} (hs : SortedB l) (h : w.ownsMap Tryz.prog 9 ptrElem mb n D) (hD : MpD l D) : RMp w mb l := by
  have hz := rmp_size hs h hD
  refine ⟨hs, D, ?_, hD⟩
  obtain ⟨es, clock, hb, F, hsz, rfl⟩ := h
  refine ⟨es, clock, hb, F, ?_, rfl⟩
  have : Maps.size (DataW.map ((es.toList.map (WideElems.rg Tryz.prog 9 ptrElem)).foldr DataW.insert [])) = es.size := by simp [Maps.size, length_sorted]
  omega
theorem rmp_new (w : World) : RMp (w.alloc (.map #[] 0)) w.heap.size [] := ⟨List.Pairwise.nil, .map [], World.ownsMap_made _ _ _ _, fun _ => ⟨fun _ h => absurd h List.not_mem_nil, fun _ => rfl⟩⟩
theorem rmp_make (w : World) : (Instr.makeMap 85 none).run Tryz.prog w = .ok (.map (some w.heap.size)) (w.alloc (.map #[] 0)) := by kernel_rfl
theorem RMp.lt {w : World} {mb : Nat} {l : Bxs} (h : RMp w mb l) : mb < w.heap.size := by
  obtain ⟨_, D, h1, _⟩ := h
  exact h1.lt
theorem RMp.sorted {w : World} {mb : Nat} {l : Bxs} (h : RMp w mb l) : SortedB l := h.1
theorem RMp.same {w w' : World} {mb : Nat} {l : Bxs} (h : RMp w mb l) (hb : w'.heap[mb]? = w.heap[mb]?) : RMp w' mb l := by
  obtain ⟨hs, D, ⟨es, clock, h1, r⟩, hD⟩ := h
  exact ⟨hs, D, ⟨es, clock, hb.trans h1, r⟩, hD⟩
theorem rzero_ptr (w : World) : (zeroValue 82).run Tryz.prog w = .ok (.pointer none) w := by kernel_rfl
theorem rmp_look {w : World} {mb : Nat} {l : Bxs} (h : RMp w mb l) (s : ByteArray) (hs : s.size ≤ 1000000) {b : Nat} (hb : (s.data.toList, b) ∈ l) :
    (Instr.lookup 85 (.map (some mb)) (.string s) false).run Tryz.prog w = .ok (.pointer (some ⟨b, 0, none⟩)) w := by
  obtain ⟨_, D, h1, hD⟩ := h
  obtain ⟨v, ps, hr, hv⟩ := h1.lookup lawN Tryz.underlying85 (rzero_ptr w) (zd := .lit (.int .i64 (-1))) (zp := []) rfl (keyN hs)
  rw [(hD _).1 b hb] at hv
  rw [ptrElem_inv hv] at hr
  exact hr
theorem rmp_put {w : World} {mb : Nat} {l : Bxs} (h : RMp w mb l) (s : ByteArray) (hs : s.size ≤ 1000000) (hl : l.length ≤ 1000000) (b : Nat) :
    ∃ w', (Instr.mapUpdate 85 (.map (some mb)) (.string s) (.pointer (some ⟨b, 0, none⟩))).run Tryz.prog w = .ok () w' ∧ RMp w' mb (putB s.data.toList b l) ∧ w.mapTurned w' mb := by
  obtain ⟨hso, D, h1, hD⟩ := h
  obtain ⟨w', hr, h2, h3⟩ := h1.store lawN Tryz.underlying85 (by unfold maxLen; omega) (keyN hs) (val := .pointer (some ⟨b, 0, none⟩)) (d := .lit (.int .i64 (b : Int))) (ps := []) rfl
  refine ⟨w', hr, rmp_mk (sorted_putB hso) h2 (fun t => ⟨fun c hc z => ?_, fun hn => ?_⟩), h3⟩
  · rcases (mem_putB hso).1 hc with ⟨rfl, rfl⟩ | ⟨hne, hm⟩
    · exact atKey_put_same h1.isMap (keyLit _) _ _
    · rw [atKey_put_other (str_ne' hne)]
      exact (hD t).1 c hm z
  · have hne : t ≠ s.data.toList := fun e => (hasB_false.1 hn) b ((mem_putB hso).2 (Or.inl ⟨e, rfl⟩))
    rw [has_put_other (str_ne' hne), hD.has]
    exact hasB_false.2 fun c hc => (hasB_false.1 hn) c ((mem_putB hso).2 (Or.inr ⟨hne, hc⟩))
theorem rmp_del {w : World} {mb : Nat} {l : Bxs} (h : RMp w mb l) (s : ByteArray) (hs : s.size ≤ 1000000) (ty : TypeId) :
    ∃ w', (Builtin.delete_ #[85, 9] ty #[.map (some mb), .string s]).run Tryz.prog w = .ok (.tuple #[]) w' ∧ RMp w' mb (delB l s.data.toList) ∧ w.mapTurned w' mb := by
  obtain ⟨hso, D, h1, hD⟩ := h
  obtain ⟨w', hr, h2, h3⟩ := h1.drop lawN Tryz.underlying85 (keyN hs) ty
  refine ⟨w', hr, rmp_mk (sorted_delB hso _) h2 (fun t => ⟨fun c hc z => ?_, fun hn => ?_⟩), h3⟩
  · obtain ⟨hne, hm⟩ := mem_delB.1 hc
    rw [atKey_del_other (str_ne' hne)]
    exact (hD t).1 c hm z
  · by_cases hne : t = s.data.toList
    · rw [hne]
      exact has_del_same
    · rw [has_del_other (str_ne' hne), hD.has]
      exact hasB_false.2 fun c hc => (hasB_false.1 hn) c (mem_delB.2 ⟨hne, hc⟩)
theorem rmp_len {w : World} {mb : Nat} {l : Bxs} (h : RMp w mb l) (ty : TypeId) : (Builtin.len_ #[85] ty #[.map (some mb)]).run Tryz.prog w = .ok (.int .i64 (l.length : Int)) w := by
  obtain ⟨hso, D, h1, hD⟩ := h
  have := h1.len Tryz.underlying85 ty
  rw [rmp_size hso h1 hD] at this
  exact this
theorem rmp_none {w : World} {mb : Nat} {l : Bxs} (h : RMp w mb l) (s : ByteArray) (hs : s.size ≤ 1000000) (hn : hasB l s.data.toList = false) :
    (Instr.lookup 85 (.map (some mb)) (.string s) false).run Tryz.prog w = .ok (.pointer none) w := by
  obtain ⟨_, D, h1, hD⟩ := h
  obtain ⟨v, ps, hr, hv⟩ := h1.lookup lawN Tryz.underlying85 (rzero_ptr w) (zd := .lit (.int .i64 (-1))) (zp := []) rfl (keyN hs)
  rw [Maps.atKey_of_not_has ((hD _).2 hn)] at hv
  rw [ptrElem_none hv] at hr
  exact hr
def RHs (w : World) (hb mb wb : Nat) (l : Bxs) (nx : Int) : Prop := w.heap[hb]? = some (.cells #[.map (some mb), .map (some wb), .int .i64 nx] 88 (0, 0)) ∧ RMp w mb l
theorem RHs.lt {w : World} {hb mb wb : Nat} {l : Bxs} {nx : Int} (h : RHs w hb mb wb l nx) : hb < w.heap.size := (Array.getElem?_eq_some_iff.1 h.1).1
theorem RHs.below {w w' : World} {hb mb wb B : Nat} {l : Bxs} {nx : Int} (h : RHs w hb mb wb l nx) (hb' : Below B w w') (hB : w.heap.size ≤ B) : RHs w' hb mb wb l nx :=
  ⟨(hb'.block hb (Nat.lt_of_lt_of_le h.lt hB)).trans h.1, h.2.same (hb'.block mb (Nat.lt_of_lt_of_le h.2.lt hB))⟩
theorem RHs.cell {w : World} {hb mb wb : Nat} {l : Bxs} {nx : Int} (h : RHs w hb mb wb l nx) : w.cell? ⟨hb, 0, none⟩ = some (.map (some mb)) ∧ w.cell? ⟨hb, 1, none⟩ = some (.map (some wb)) ∧ w.cell? ⟨hb, 2, none⟩ = some (.int .i64 nx) := ⟨rd_cell h.1 rfl, rd_cell h.1 rfl, rd_cell h.1 rfl⟩
end Go.Proofs.YtfdlopimncodcaaGreatDoor
namespace Go.Proofs
open Go.Shelf
def Tryz.lays190_ren : Go.Shelf.Ren := ⟨fun | 190 => 118 | 125 => 157 | 258 => 156 | 128 => 191 | 129 => 192 | 302 => 183 | 303 => 184 | 304 => 185 | 305 => 186 | 306 => 187 | 307 => 188 | 308 => 132 | 309 => 189 | 310 => 190 | 333 => 207 | 329 => 208 | 330 => 209 | 334 => 210 | 335 => 211 | 336 => 163 | 344 => 225 | n => n, fun | 31 => 32 | 9 => 9 | 3 => 3 | 46 => 27 | 0 => 0 | 51 => 217 | 53 => 223 | 4 => 4 | 183 => 228 | 182 => 227 | 131 => 132 | 5 => 5 | 218 => 243 | 222 => 247 | 228 => 257 | 229 => 258 | n => n, fun | n => n⟩
theorem Tryz.lays190 : Go.Proofs.Lays.n190 Tryz.prog Tryz.lays190_ren := {
  mixed := by kernel_rfl
  f125 := Tryz.func157.trans (congrArg some (by kernel_rfl))
  f128 := Tryz.func191.trans (congrArg some (by kernel_rfl))
  f129 := Tryz.func192.trans (congrArg some (by kernel_rfl))
  f190 := Tryz.func118.trans (congrArg some (by kernel_rfl))
  f258 := Tryz.func156.trans (congrArg some (by kernel_rfl))
  f302 := Tryz.func183.trans (congrArg some (by kernel_rfl))
  f303 := Tryz.func184.trans (congrArg some (by kernel_rfl))
  f304 := Tryz.func185.trans (congrArg some (by kernel_rfl))
  f305 := Tryz.func186.trans (congrArg some (by kernel_rfl))
  f306 := Tryz.func187.trans (congrArg some (by kernel_rfl))
  f307 := Tryz.func188.trans (congrArg some (by kernel_rfl))
  f308 := Tryz.func132.trans (congrArg some (by kernel_rfl))
  f309 := Tryz.func189.trans (congrArg some (by kernel_rfl))
  f310 := Tryz.func190.trans (congrArg some (by kernel_rfl))
  f329 := Tryz.func208.trans (congrArg some (by kernel_rfl))
  f330 := Tryz.func209.trans (congrArg some (by kernel_rfl))
  f333 := Tryz.func207.trans (congrArg some (by kernel_rfl))
  f334 := Tryz.func210.trans (congrArg some (by kernel_rfl))
  f335 := Tryz.func211.trans (congrArg some (by kernel_rfl))
  f336 := Tryz.func163.trans (congrArg some (by kernel_rfl))
  f344 := Tryz.func225.trans (congrArg some (by kernel_rfl))
  t0 := Tryz.underlying0
  a0 := Tryz.isAgg0
  z0 := Tryz.sizeOf0
  v0 := Tryz.zeroValue0
  t3 := Tryz.underlying3
  a3 := Tryz.isAgg3
  z3 := Tryz.sizeOf3
  v3 := Tryz.zeroValue3
  t4 := Tryz.underlying4
  a4 := Tryz.isAgg4
  z4 := Tryz.sizeOf4
  v4 := Tryz.zeroValue4
  t5 := Tryz.underlying5
  a5 := Tryz.isAgg5
  z5 := Tryz.sizeOf5
  v5 := Tryz.zeroValue5
  t9 := Tryz.underlying9
  a9 := Tryz.isAgg9
  z9 := Tryz.sizeOf9
  v9 := Tryz.zeroValue9
  t31 := Tryz.underlying32
  a31 := Tryz.isAgg32
  z31 := Tryz.sizeOf32
  v31 := Tryz.zeroValue32
  t46 := Tryz.underlying27
  a46 := Tryz.isAgg27
  z46 := Tryz.sizeOf27
  v46 := Tryz.zeroValue27
  t51 := Tryz.underlying217
  a51 := Tryz.isAgg217
  z51 := Tryz.sizeOf217
  v51 := Tryz.zeroValue217
  t53 := Tryz.underlying223
  a53 := Tryz.isAgg223
  z53 := Tryz.sizeOf223
  v53 := Tryz.zeroValue223
  t131 := Tryz.underlying132
  a131 := Tryz.isAgg132
  z131 := Tryz.sizeOf132
  v131 := Tryz.zeroValue132
  t182 := Tryz.underlying227
  a182 := Tryz.isAgg227
  z182 := Tryz.sizeOf227
  v182 := Tryz.zeroValue227
  t183 := Tryz.underlying228
  a183 := Tryz.isAgg228
  z183 := Tryz.sizeOf228
  v183 := Tryz.zeroValue228
  t218 := Tryz.underlying243
  a218 := Tryz.isAgg243
  z218 := Tryz.sizeOf243
  v218 := Tryz.zeroValue243
  t222 := Tryz.underlying247
  a222 := Tryz.isAgg247
  z222 := Tryz.sizeOf247
  v222 := Tryz.zeroValue247
  t228 := Tryz.underlying257
  a228 := Tryz.isAgg257
  z228 := Tryz.sizeOf257
  v228 := Tryz.zeroValue257
  t229 := Tryz.underlying258
  a229 := Tryz.isAgg258
  z229 := Tryz.sizeOf258
  v229 := Tryz.zeroValue258 }
open Go.Sort Go.RowKit in
theorem Tryz.slices_Sort_string (blk off cap : Nat) (ss : List (List UInt8)) (w : World) (hH : Holds encStr w blk off ss.toArray) (hblk : blk < w.heap.size) (hsz : ss.length < 4611686018427387904) :
    Calls Tryz.prog 118 #[.slice (some ⟨blk, off, none⟩) ss.length cap] w fun e w' =>
      e = .returned (.tuple #[]) ∧ ∃ n os, w' = grow (putRow encStr (Sort.ahead w n) blk off (ss.mergeSort fun x y => decide (x ≤ y)).toArray) os := Any.slices_Sort_string Tryz.lays190 blk off cap ss w hH hblk hsz
open Go.RowKit Go.Sort in
theorem Tryz.slices_Sort_string_none (p : Option Addr) (cap : Nat) (w : World) :
    Calls Tryz.prog 118 #[.slice p 0 cap] w fun e w' => e = .returned (.tuple #[]) ∧ w' = w := Any.slices_Sort_string_none Tryz.lays190 p cap w
end Go.Proofs
