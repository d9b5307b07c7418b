/-
  What the small methods of wire.reader do: fail, rest, took, blank.
-/
import Derived.Test.YtligkpcoajnjmaaDoorWireCmd
import Derived.Test.YtligkpcoajnjmaaDoorWireTail
import Derived.Test.YtligkpcoajnjmaaDoorButAid
import Derived.WalkLawsBesides
namespace Go.Proofs.YtligkpcoajnjmaaDoor
open Go.RowKit Go.Proofs.Aid Go.Proofs.Hd

/-- A reader in memory: the text, where it is, how many parts it counted. -/
def RdW (w : World) (rb : Nat) (s : ByteArray) (p c : Nat) : Prop := w.heap[rb]? = some (.cells #[.string s, .int .i64 (p : Int), .int .i64 (c : Int)] 71 (0, 0))
theorem RdW.kept {w w' : World} {rb p c : Nat} {s : ByteArray} (h : RdW w rb s p c) (hb : w'.heap[rb]? = w.heap[rb]?) : RdW w' rb s p c := hb.trans h
theorem RdW.lt {w : World} {rb p c : Nat} {s : ByteArray} (h : RdW w rb s p c) : rb < w.heap.size := (Array.getElem?_eq_some_iff.1 h).1
/-- What is thrown: an At in block N. -/
def thrownA (N : Nat) : Ending := .panicked [{ v := .iface 106 (.pointer (some ⟨N, 0, none⟩)), recovered := false }]
def AtIs (w : World) (N : Nat) (n : Int) (p : Nat) : Prop := w.heap[N]? = some (.cells #[.int .i64 n, .int .i64 (p : Int)] 110 (0, 0))
set_option maxHeartbeats 1000000 in
theorem fail_is (rb p c : Nat) (n : Int) (s : ByteArray) (w : World) (hr : RdW w rb s p c) :
    Calls Tryd.prog 24 #[.pointer (some ⟨rb, 0, none⟩), .int .i64 n] w fun e w' => e = thrownA w.heap.size ∧ AtIs w' w.heap.size n p ∧ Below w.heap.size w w' := by
  have p1 : w.cell? ⟨rb, 1, none⟩ = some (.int .i64 (p : Int)) := rd_cell hr rfl
  have h1 := heap_alloc_new w (.cells #[.int .i64 n, .int .i64 (p : Int)] 110)
  have b1 : Below w.heap.size w (w.alloc (.cells #[.int .i64 n, .int .i64 (p : Int)] 110)) := (Below.refl _ _).alloc (Nat.le_refl _) _
  have HD : Hid (AtIs (w.alloc (.cells #[.int .i64 n, .int .i64 (p : Int)] 110)) w.heap.size n p ∧ Below w.heap.size w (w.alloc (.cells #[.int .i64 n, .int .i64 (p : Int)] 110))) := ⟨h1, b1⟩
  clear h1 b1 hr
  unfold thrownA
  go_enter Tryd.func24, Tryd.ntmps24
  go_wp2_with fail
  exact ⟨rfl, rfl, HD.out⟩
set_option maxHeartbeats 1000000 in
theorem rest_is (rb p c : Nat) (s : ByteArray) (w : World) (hr : RdW w rb s p c) (hp : p ≤ s.size) :
    Calls Tryd.prog 51 #[.pointer (some ⟨rb, 0, none⟩)] w fun e w' => e = .returned (.string (s.extract p s.size)) ∧ Below w.heap.size w w' := by
  have p0 : w.cell? ⟨rb, 0, none⟩ = some (.string s) := rd_cell hr rfl
  have p1 : w.cell? ⟨rb, 1, none⟩ = some (.int .i64 (p : Int)) := rd_cell hr rfl
  clear hr
  go_enter Tryd.func51, Tryd.ntmps51
  go_wp2_with fail
  go_region
  all_goals
    go_wp2_with fail
    go_ret
    exact ⟨rfl, (Below.refl _ _).drew⟩
theorem rest_list (s : ByteArray) (p : Nat) : (s.extract p s.size).data.toList = s.data.toList.drop p := Lib.extract_to_end s p
theorem took_has (x : UInt8) (s : ByteArray) (p : Nat) : Lib.hasPrefix (s.extract p s.size).data.toList (⟨#[x]⟩ : ByteArray).data.toList = tookW [x] s.data.toList p := by rw [rest_list]; rfl
set_option maxHeartbeats 1000000 in
theorem took_no (x : UInt8) (rb p c : Nat) (s : ByteArray) (w : World) (hr : RdW w rb s p c) (hp : p ≤ s.size) (h : tookW [x] s.data.toList p = false) :
    Calls Tryd.prog 72 #[.pointer (some ⟨rb, 0, none⟩), .string ⟨#[x]⟩] w fun e w' => e = .returned (.bool false) ∧ Below w.heap.size w w' := by
  have cR := rest_is rb p c s w hr hp
  have hh := took_has x s p
  rw [h] at hh
  have cP : ∀ W, Calls Tryd.prog 74 #[.string (s.extract p s.size), .string ⟨#[x]⟩] W fun e w' => e = .returned (.bool false) ∧ w' = W := fun W => by
    have := Tryd.strings_HasPrefix (s.extract p s.size) ⟨#[x]⟩ W
    rw [hh] at this
    exact this
  clear hr hh
  go_enter Tryd.func72, Tryd.ntmps72
  go_wp2_with fail
  refine cR.mono ?_
  rintro e w1 ⟨rfl, hb⟩
  have HB : Hid (Below w.heap.size w w1) := hb
  clear cR hb
  go_wp2_with fail
  refine (cP _).mono ?_
  rintro e w2 ⟨rfl, hw⟩
  obtain rfl : w1 = w2 := hw.symm
  clear cP
  go_wp2_with fail
  go_ret
  exact ⟨rfl, HB.out⟩
set_option maxHeartbeats 1000000 in
theorem took_yes (x : UInt8) (rb p c : Nat) (s : ByteArray) (w : World) (hr : RdW w rb s p c) (hs : s.size ≤ 1000000) (hp : p ≤ s.size) (h : tookW [x] s.data.toList p = true) :
    Calls Tryd.prog 72 #[.pointer (some ⟨rb, 0, none⟩), .string ⟨#[x]⟩] w fun e w' => e = .returned (.bool true) ∧ RdW w' rb s (p + 1) c ∧ But w.heap.size rb w w' := by
  have cR := rest_is rb p c s w hr hp
  have hh := took_has x s p
  rw [h] at hh
  have cP : ∀ W, Calls Tryd.prog 74 #[.string (s.extract p s.size), .string ⟨#[x]⟩] W fun e w' => e = .returned (.bool true) ∧ w' = W := fun W => by
    have := Tryd.strings_HasPrefix (s.extract p s.size) ⟨#[x]⟩ W
    rw [hh] at this
    exact this
  have HR : Hid (RdW w rb s p c) := hr
  have q : (⟨#[x]⟩ : ByteArray).size = 1 := rfl
  clear hr hh
  go_enter Tryd.func72, Tryd.ntmps72
  go_wp2_with fail
  refine cR.mono ?_
  rintro e w1 ⟨rfl, hb⟩
  have hr1 : RdW w1 rb s p c := HR.out.kept (hb.block rb HR.out.lt)
  have p1 : w1.cell? ⟨rb, 1, none⟩ = some (.int .i64 (p : Int)) := rd_cell hr1 rfl
  have f1 : w1.frozen? ⟨rb, 1, none⟩ = false := rd_free hr1 1
  have hset : RdW (w1.setCell ⟨rb, 1, none⟩ (.int .i64 ((p : Int) + 1))) rb s (p + 1) c := rd_set (i := 1) (.int .i64 ((p : Int) + 1)) hr1
  have HD : Hid (RdW (w1.setCell ⟨rb, 1, none⟩ (.int .i64 ((p : Int) + 1))) rb s (p + 1) c ∧ But w.heap.size rb w (w1.setCell ⟨rb, 1, none⟩ (.int .i64 ((p : Int) + 1)))) := ⟨hset, (to_but hb).setB 1 _⟩
  clear cR hb hr1 hset
  go_wp2_with fail
  refine (cP _).mono ?_
  rintro e w2 ⟨rfl, hw⟩
  obtain rfl : w1 = w2 := hw.symm
  clear cP
  go_wp2_with fail
  go_ret
  exact ⟨rfl, HD.out⟩
/-- What a reader's function that gives a text leaves. -/
def OutT (w : World) (rb : Nat) (s : ByteArray) : Wd Tx → Ending → World → Prop
  | .bad n p, e, w' => ∃ N, e = thrownA N ∧ w.heap.size ≤ N ∧ AtIs w' N n p ∧ But w.heap.size rb w w'
  | .ok t p c, e, w' => ∃ tb : ByteArray, e = .returned (.string tb) ∧ tb.data.toList = t ∧ RdW w' rb s p c ∧ But w.heap.size rb w w'
def OutU (w : World) (rb : Nat) (s : ByteArray) : Wd Unit → Ending → World → Prop
  | .bad n p, e, w' => ∃ N, e = thrownA N ∧ w.heap.size ≤ N ∧ AtIs w' N n p ∧ But w.heap.size rb w w'
  | .ok _ p c, e, w' => e = .returned (.tuple #[]) ∧ RdW w' rb s p c ∧ But w.heap.size rb w w'
set_option maxHeartbeats 1000000 in
theorem blank_is (rb p c : Nat) (s : ByteArray) (w : World) (hr : RdW w rb s p c) (hs : s.size ≤ 1000000) (hp : p ≤ s.size) :
    Calls Tryd.prog 49 #[.pointer (some ⟨rb, 0, none⟩)] w fun e w' => OutU w rb s (blankW s.data.toList p c) e w' := by
  unfold blankW
  cases h : tookW [32] s.data.toList p with
  | true =>
    rw [if_pos rfl]
    have cT := took_yes 32 rb p c s w hr hs hp h
    clear hr
    go_enter Tryd.func49, Tryd.ntmps49
    go_wp2_with fail
    refine cT.mono ?_
    rintro e w1 ⟨rfl, hr1, hb1⟩
    have HD : Hid (RdW w1 rb s (p + 1) c ∧ But w.heap.size rb w w1) := ⟨hr1, hb1⟩
    clear cT hr1 hb1
    go_wp2_with fail
    go_end0
    exact ⟨rfl, HD.out⟩
  | false =>
    rw [if_neg (by simp)]
    have cT := took_no 32 rb p c s w hr hp h
    have HR : Hid (RdW w rb s p c) := hr
    clear hr
    go_enter Tryd.func49, Tryd.ntmps49
    go_wp2_with fail
    refine cT.mono ?_
    rintro e w1 ⟨rfl, hb1⟩
    have cF := fail_is rb p c 3 s w1 (HR.out.kept (hb1.block rb HR.out.lt))
    have HB : Hid (Below w.heap.size w w1) := hb1
    unfold thrownA at cF
    clear cT hb1
    go_wp2_with fail
    refine cF.mono ?_
    rintro e w2 ⟨rfl, ha, hb2⟩
    have HD : Hid (AtIs w2 w1.heap.size 3 p ∧ Below w.heap.size w w2) := ⟨ha, HB.out.trans (hb2.mono HB.out.size)⟩
    clear cF ha hb2
    go_wp2_with fail
    exact ⟨rfl, _, rfl, HB.out.size, HD.out.1, to_but HD.out.2⟩
end Go.Proofs.YtligkpcoajnjmaaDoor
