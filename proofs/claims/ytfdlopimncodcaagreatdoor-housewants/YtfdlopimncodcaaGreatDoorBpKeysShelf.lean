/-
  DERIVED, and more.
-/
import Derived.Shelf.SlIter.Nil
import Derived.Shelf.SortM.Plain
import Derived.Shelf.SortM.SortNone
import Derived.Ground.GgzProg
import Derived.Ground.SlgmProg
import Derived.Test.YtfdlopimncodcaaGreatDoorProg
import Derived.Test.YtfdlopimncodcaaGreatDoorMHsBuild
namespace Go.Proofs
open Go.RowKit Go.Maps Go.Sort Go.Shelf

-- maps.Keys[map[string]*letterbox/box.Box,string,*letterbox/box.Box] (function 66; its iterator 119) · slices.Sorted[string] (65) · slices.Sort[[]string,string] (118) · the map's type 78, the keys' 9
shelf_lay_g SlLaysZ.n7 Ggz 7 at Tryz 66 as Tryz.keys66
shelf_lay_g SlLaysZ.n6 Ggz 6 at Tryz 65 as Tryz.sorted65
shelf_lay_g SlLaysM.n6 Slgm 6 at Tryz 118 as Tryz.sort118

/-- slices.Sort's two contracts at this dump, at the fence that asks nothing. -/
theorem Tryz.sorts65 (m : Nat) : AnyZ.SortsIn Tryz.prog Tryz.sorted65_ren Fence.wide m :=
  ⟨fun blk off cap ss W hH hblk hsz => callsIn_wide.2 (AnyM.slices_Sort_string Tryz.sort118 blk off cap ss W hH hblk hsz),
   fun p cap W => callsIn_wide.2 (AnyM.slices_Sort_string_none Tryz.sort118 p cap W)⟩

/-- **maps.Keys[map[string]*letterbox/box.Box,string,*letterbox/box.Box], at whatever map, the nil one too:** a function value over ONE NEW BLOCK, which holds the map. -/
theorem Tryz.maps_Keys_66 (mb : Option Nat) (W : World) : CallsIn Fence.wide 5 Tryz.prog 66 #[.map mb] W fun e w' => e = .returned (.func (.func 119) #[] #[.pointer (some ⟨W.heap.size, 0, none⟩)]) ∧ w' = W.alloc (.cells #[.map mb] 78) :=
  AnyZ.keys_in Tryz.keys66 Fence.wide 5 trivial rfl mb W

set_option maxHeartbeats 1000000 in
/-- **slices.Sorted[string] AT WHAT maps.Keys[map[string]*letterbox/box.Box,string,*letterbox/box.Box] HANDED BACK FOR A MAP THAT IS NOT nil** ('w': the world AHEAD of maps.Keys' call): A NEW SLICE THAT HOLDS THE MAP's KEYS, SORTED; nil just where it has none; nothing that lay before has turned. -/
theorem Tryz.slices_Sorted_keys_65_66 {H : Type} (b nn : Nat) (D0 : DataW H) (R : Value → Option (DataW H × List MemPlace)) (w : World) (hown : w.ownsMap Tryz.prog 9 R b nn D0) (hmax : Maps.size D0 ≤ maxLen) (hbytes : Maps.size D0 * 16 ≤ 140737488355328) :
    CallsIn Fence.wide 5 Tryz.prog 65 #[.func (.func 119) #[] #[.pointer (some ⟨w.heap.size, 0, none⟩)]] (w.alloc (.cells #[.map (some b)] 78)) fun e w' => ∃ (v : Value) (ss : List (List UInt8)), e = .returned v ∧ ss.Perm (strKeys D0) ∧
      w'.ownsRow (w.alloc (.cells #[.map (some b)] 78)).heap.size 9 1 v ss.length ((ss.mergeSort (fun x y => decide (x ≤ y))).map encStr) ∧ (v = .slice none 0 0 ↔ ss = []) ∧ Below (w.alloc (.cells #[.map (some b)] 78)).heap.size (w.alloc (.cells #[.map (some b)] 78)) w' := by
  have hbl := hown.lt
  have hseq : SeqGives Fence.wide 2 Tryz.prog 119 #[.pointer (some ⟨w.heap.size, 0, none⟩)] encStr (fun ss => ss.Perm (strKeys D0)) (Maps.size D0) (w.alloc (.cells #[.map (some b)] 78)) :=
    AnyZ.keys_gives (ρ := Tryz.keys66_ren) { Tryz.keys66 with } Fence.wide _ trivial rfl (by omega) w.heap.size b nn D0 _ (by simp) (by simp) (by
      obtain ⟨es, clock, hb, Ft, hs, hD⟩ := hown
      exact ⟨es, clock, (Below.heap_alloc _ _ b hbl).trans hb, Ft, hs, hD⟩)
  exact AnyZ.sorted_in Tryz.sorted65 Fence.wide 5 trivial trivial trivial trivial rfl (by omega) (Tryz.sorts65 _) (enters_of Tryz.func118 (by kernel_rfl) rfl) 119 #[.pointer (some ⟨w.heap.size, 0, none⟩)] trivial (enters_of Tryz.func119 (by kernel_rfl) rfl) _ _ hmax hbytes _ hseq

set_option maxHeartbeats 1000000 in
/-- **.. AND FOR THE nil MAP: nil.** -/
theorem Tryz.slices_Sorted_keys_nil_65_66 (w : World) :
    CallsIn Fence.wide 5 Tryz.prog 65 #[.func (.func 119) #[] #[.pointer (some ⟨w.heap.size, 0, none⟩)]] (w.alloc (.cells #[.map none] 78)) fun e w' => ∃ (v : Value) (ss : List (List UInt8)), e = .returned v ∧ ss = [] ∧
      w'.ownsRow (w.alloc (.cells #[.map none] 78)).heap.size 9 1 v ss.length ((ss.mergeSort (fun x y => decide (x ≤ y))).map encStr) ∧ (v = .slice none 0 0 ↔ ss = []) ∧ Below (w.alloc (.cells #[.map none] 78)).heap.size (w.alloc (.cells #[.map none] 78)) w' := by
  have hseq : SeqGives Fence.wide 2 Tryz.prog 119 #[.pointer (some ⟨w.heap.size, 0, none⟩)] encStr (fun ss : List (List UInt8) => ss = []) 0 (w.alloc (.cells #[.map none] 78)) :=
    AnyZ.keys_gives_nil (ρ := Tryz.keys66_ren) { Tryz.keys66 with } Fence.wide _ trivial rfl w.heap.size _ (by simp) (by simp)
  exact AnyZ.sorted_in Tryz.sorted65 Fence.wide 5 trivial trivial trivial trivial rfl (by omega) (Tryz.sorts65 _) (enters_of Tryz.func118 (by kernel_rfl) rfl) 119 #[.pointer (some ⟨w.heap.size, 0, none⟩)] trivial (enters_of Tryz.func119 (by kernel_rfl) rfl) _ 0 (Nat.zero_le _) (by omega) _ hseq

-- THE CALLER's WALK over 'slices.Sorted(maps.Keys(m))' (inside '(callsIn_wide (n := 6)).1'; 'have hfK : Fence.wide.fn 66 := trivial', 'have hfS : Fence.wide.fn 65 := trivial' ahead): THE TWO ARMS TO PASTE:
--   gi_wp2_with (first
--     | (gi_at_call 66; refine (Tryz.maps_Keys_66 _ _).mono ?_; rintro e w' ⟨rfl, rfl⟩)
--     | (gi_at_call 65; refine (Tryz.slices_Sorted_keys_65_66 b nn D0 R w hown hmax hbytes).mono ?_; rintro e w' ⟨v, ss, rfl, hS, hrow, hnil, hb⟩))


end Go.Proofs
namespace Go.Proofs.YtfdlopimncodcaaGreatDoor
open Go.RowKit Go.Proofs.Aid

def namesB (l : Bxs) : List Nm := l.map Prod.fst
theorem names_sorted {l : Bxs} (h : SortedB l) : (namesB l).mergeSort leB = namesB l := by
  refine List.mergeSort_of_pairwise ?_
  unfold namesB
  rw [List.pairwise_map]
  refine h.imp fun {a b} hab => ?_
  simp only [leB, decide_eq_true_eq]
  exact List.not_lt.1 fun hba => List.lt_irrefl _ (List.lt_trans hab hba)
set_option maxHeartbeats 4000000 in
set_option maxRecDepth 100000 in
theorem names_is (hb mb : Nat) (l : Bxs) (nx : Int) (wv : Value) (w : World) (h : HsAt w hb mb l nx wv) (hl : l.length ≤ 1000) :
    Calls Tryz.prog 18 #[.pointer (some ⟨hb, 0, none⟩)] w fun e w' => (∃ v, e = .returned v ∧ NRow w' w.heap.size v (namesB l)) ∧ Below w.heap.size w w' := by
  obtain ⟨hso, D, hown, hD⟩ := id h.2
  have hz := mp_size hso hown hD
  have hpm := mp_keys hso hown hD
  have c0 := h.cell.1
  have HFIN : Hid (∀ (w1 w' : World) (v : Value) (ss : List (List UInt8)), w1 = w.alloc (.cells #[.map (some mb)] 78) → ss.Perm (strKeys D) → w'.ownsRow w1.heap.size 9 1 v ss.length ((ss.mergeSort (fun x y => decide (x ≤ y))).map encStr) → Below w1.heap.size w1 w' → NRow w' w.heap.size v (namesB l) ∧ Below w.heap.size w w') := fun w1 w' v ss e hS hrow hb' => by
    subst e
    have e1 : (ss.mergeSort fun x y => decide (x ≤ y)) = namesB l := by
      have := mergeSort_of_perm (hS.trans hpm.symm)
      rw [show (l.map Prod.fst) = namesB l from rfl, names_sorted hso] at this
      exact this
    have e2 : ss.length = (namesB l).length := by
      rw [(hS.trans hpm.symm).length_eq]
      rfl
    rw [e1, e2] at hrow
    exact ⟨ownsRow_base_a hrow (by simp), ((Below.refl _ w).alloc (Nat.le_refl _) _).trans (hb'.mono (by simp))⟩
  have hmax : Maps.size D ≤ maxLen := by rw [hz]; unfold maxLen; omega
  have hbytes : Maps.size D * 16 ≤ 140737488355328 := by rw [hz]; omega
  have cS := Tryz.slices_Sorted_keys_65_66 mb l.length D ptrElem w hown hmax hbytes
  have cK := Tryz.maps_Keys_66 (some mb) w
  have hfK : Fence.wide.fn 66 := trivial
  have hfS : Fence.wide.fn 65 := trivial
  clear h hown hD hz hpm hso hmax hbytes
  refine (callsIn_wide (n := 6)).1 ?_
  refine callsIn_of_wp Tryz.func18 rfl trivial ?_ rfl
  simp only [Tryz.ntmps18, List.size_toArray, List.length_cons, List.length_nil, Nat.reduceAdd, Nat.reduceSub, Array.replicate_succ, Array.replicate_zero, List.push_toArray, List.append_toArray, List.nil_append, List.cons_append]
  gi_wp2_with (first
    | (gi_at_call 66; refine cK.mono ?_; rintro e w1 ⟨rfl, rfl⟩)
    | (gi_at_call 65; refine cS.mono ?_; rintro e w' ⟨v, ss, rfl, hS, hrow, hnil, hb'⟩))
  go_ret
  obtain ⟨q1, q2⟩ := HFIN.out _ _ _ _ rfl hS hrow hb'
  exact ⟨⟨v, rfl, q1⟩, q2⟩
end Go.Proofs.YtfdlopimncodcaaGreatDoor
