/-
  The library's contracts at this program's numbers: slices_Contains_int, and more.
-/
import Derived.Test.YtfdlopimncodcaaGreatDoorBpHxMath
import Derived.Test.YtfdlopimncodcaaGreatDoorMBoxRight
namespace Go.Proofs
open Go.Shelf
def Tryz.lays107_ren : Go.Shelf.Ren := ⟨fun | 107 => 109 | 108 => 149 | n => n, fun | 28 => 147 | 3 => 3 | 4 => 4 | 0 => 0 | n => n, fun | n => n⟩
theorem Tryz.lays107 : Go.Proofs.Lays.n107 Tryz.prog Tryz.lays107_ren := {
  mixed := by kernel_rfl
  f107 := Tryz.func109.trans (congrArg some (by kernel_rfl))
  f108 := Tryz.func149.trans (congrArg some (by kernel_rfl))
  t0 := Tryz.underlying0
  a0 := Tryz.isAgg0
  z0 := Tryz.sizeOf0
  v0 := Tryz.zeroValue0
  t3 := Tryz.underlying3
  a3 := Tryz.isAgg3
  z3 := Tryz.sizeOf3
  v3 := Tryz.zeroValue3
  t4 := Tryz.underlying4
  a4 := Tryz.isAgg4
  z4 := Tryz.sizeOf4
  v4 := Tryz.zeroValue4
  t28 := Tryz.underlying147
  a28 := Tryz.isAgg147
  z28 := Tryz.sizeOf147
  v28 := Tryz.zeroValue147 }
open Go.Lib in
theorem Tryz.slices_Contains_int (b off n c : Nat) (zs : List Int) (x : Int) (w : World) (hz : n ≤ zs.length) (hbig : n ≤ 9223372036854775807) (hc : ∀ j, j < zs.length → w.cell? ⟨b, off + j, none⟩ = some (.int .i64 (zs.getD j 0))) :
    Calls Tryz.prog 109 #[.slice (some ⟨b, off, none⟩) n c, .int .i64 x] w fun e w' => e = .returned (.bool ((zs.take n).contains x)) ∧ w' = w := Any.slices_Contains_int Tryz.lays107 b off n c zs x w hz hbig hc
open Go.Lib in
theorem Tryz.slices_Contains_int_empty (a : Option Addr) (c : Nat) (x : Int) (w : World) :
    Calls Tryz.prog 109 #[.slice a 0 c, .int .i64 x] w fun e w' => e = .returned (.bool false) ∧ w' = w := Any.slices_Contains_int_empty Tryz.lays107 a c x w
end Go.Proofs
namespace Go.Proofs
theorem Tryz.infoNo : (Tryz.prog.info? 3).map (fun i => (i.zero, i.size, i.bytes)) = some (some (.int .i64 0), 1, 8) := by kernel_rfl
end Go.Proofs
namespace Go.Proofs.YtfdlopimncodcaaGreatDoor
open Go.RowKit Go.Proofs.Aid Go.Proofs.Bx

/-- What a box is. -/
structure Bxd where
  v : Int
  n : Int
  ls : List Lt
def BxrAt (w : World) (b o : Nat) (x : Bxd) : Prop := w.cell? ⟨b, o, none⟩ = some (.int .i64 x.v) ∧ w.cell? ⟨b, o + 1, none⟩ = some (.int .i64 x.n) ∧ ∃ lv, w.cell? ⟨b, o + 2, none⟩ = some lv ∧ Lts w lv x.ls
/-- A slice of boxes. -/
def Bxr (w : World) (val : Value) (L : List Bxd) : Prop := ∃ a c, val = .slice a L.length c ∧ (L = [] ∨ ∃ b o, a = some ⟨b, o, none⟩ ∧ ∀ (j : Nat) x, L[j]? = some x → BxrAt w b (o + j * 3) x)
theorem Bxr.below {w w' : World} {v : Value} {B : Nat} {L : List Bxd} (h : Bxr w v L) (hb : Below B w w') (hB : w.heap.size ≤ B) : Bxr w' v L := by
  obtain ⟨a, c, h1, h2⟩ := h
  refine ⟨a, c, h1, ?_⟩
  rcases h2 with h2 | ⟨b, o, h3, h4⟩
  · exact Or.inl h2
  · refine Or.inr ⟨b, o, h3, fun j x hj => ?_⟩
    obtain ⟨q1, q2, lv, q3, q4⟩ := h4 j x hj
    have hlt : b < B := Nat.lt_of_lt_of_le (World.block_lt_of_cell? _ _ q1) hB
    exact ⟨(hb.cell (p := ⟨b, _, none⟩) hlt).trans q1, (hb.cell (p := ⟨b, _, none⟩) hlt).trans q2, lv, (hb.cell (p := ⟨b, _, none⟩) hlt).trans q3, q4.below hb hB⟩
theorem bxr_at {w : World} {a : Option Addr} {n c : Nat} {L : List Bxd} (h : Bxr w (.slice a n c) L) {k : Nat} {x : Bxd} (hk : L[k]? = some x) : ∃ b o, a = some ⟨b, o, none⟩ ∧ BxrAt w b (o + k * 3) x := by
  obtain ⟨a', c', h1, h2⟩ := h
  injection h1 with h1 _ _
  subst h1
  rcases h2 with h2 | ⟨b, o, h3, h4⟩
  · rw [h2] at hk
    simp at hk
  · exact ⟨b, o, h3, h4 k x hk⟩
/-- Numbers in a row of the call's own: is one of them there? -/
theorem contains_no (base : Nat) (v : Value) (zs : List Int) (x : Int) (w : World) (h : w.ownsRow base 3 1 v zs.length (zs.map fun z => Value.int .i64 z)) (hx : x ∉ zs) (hl : zs.length ≤ 1000) :
    Calls Tryz.prog 109 #[v, .int .i64 x] w fun e w' => e = .returned (.bool false) ∧ w' = w := by
  by_cases hz : zs = []
  · subst hz
    obtain ⟨a, c, rfl⟩ := row_form h
    exact Tryz.slices_Contains_int_empty a c x w
  · have hpos : 0 < zs.length := List.length_pos_iff.2 hz
    rcases h.2 with ⟨_, h2⟩ | ⟨g, cap, cur, hv, _, hh, _, _, hsz, htk⟩
    · omega
    · subst hv
      have hC := Tryz.slices_Contains_int g 0 zs.length cap zs x w (Nat.le_refl _) (by omega) (fun j hj => by
        rw [Nat.zero_add]
        refine rd_cell hh ?_
        have h1 : (zs.map fun z => Value.int .i64 z)[j]? = some (.int .i64 (zs.getD j 0)) := by
          rw [List.getElem?_map, List.getElem?_eq_getElem hj, List.getD_eq_getElem?_getD, List.getElem?_eq_getElem hj]
          rfl
        rw [← htk, List.getElem?_take] at h1
        split at h1
        · rw [Array.getElem?_toList] at h1; exact h1
        · cases h1)
      rw [List.take_of_length_le (Nat.le_refl _), show zs.contains x = false by simpa using hx] at hC
      exact hC
/-- A box that may be asked about. -/
def FitB (x : Bxd) : Prop := x.ls.length ≤ 1000 ∧ ∀ y ∈ x.ls, y.flags.length ≤ 400 ∧ (∀ s ∈ y.flags, s.length ≤ 1000000) ∧ (Fl.setOf y.flags).1.length ≤ 1000
set_option maxHeartbeats 8000000 in
set_option maxRecDepth 100000 in
theorem rboxes_true (val : Value) (L : List Bxd) (nx : Int) (w : World) (h : Bxr w val L) (hg : SysAt w) (hl : L.length ≤ 1000) (hr : ∀ x ∈ L, rightB x.v x.n x.ls = true ∧ x.v < nx ∧ FitB x) (hd : (L.map Bxd.v).Nodup) :
    Calls Tryz.prog 55 #[val, .int .i64 nx] w fun e w' => e = .returned (.bool true) ∧ Below w.heap.size w w' := by
  obtain ⟨a, c, rfl, _⟩ := id h
  obtain ⟨M, hM⟩ : ∃ m, L.length = m := ⟨_, rfl⟩
  have HX : Hid (Bxr w (.slice a M c) L ∧ L.length = M ∧ (∀ x ∈ L, rightB x.v x.n x.ls = true ∧ x.v < nx ∧ FitB x) ∧ (L.map Bxd.v).Nodup ∧ SysAt w) := ⟨by rw [← hM]; exact h, hM, hr, hd, hg⟩
  rw [hM] at hl ⊢
  clear h hM hr hd hg
  go_enter Tryz.func55, Tryz.ntmps55
  go_wp2_with fail
  go_loopw [5, 10] (fun tv iv wr => ∃ k : Nat, iv = .int .i64 (k : Int) ∧ k ≤ M ∧ wr.ownsRow w.heap.size 3 1 tv ((L.map Bxd.v).take k).length (((L.map Bxd.v).take k).map fun z => Value.int .i64 z) ∧ Below w.heap.size w wr) (fun _ iv _ => M - (intOf iv).toNat)
  case atStart => exact ⟨0, rfl, Nat.zero_le _, World.ownsRow_nil _ _ _ _, Below.refl _ _⟩
  case round =>
    obtain ⟨k, rfl, hk, hrow, hbw⟩ := hrel
    have hlen : ((L.map Bxd.v).take k).length ≤ 1000 := by rw [List.length_take]; omega
    obtain ⟨ZS, hZS⟩ : ∃ z, (L.map Bxd.v).take k = z := ⟨_, rfl⟩
    rw [hZS] at hrow hlen
    obtain ⟨XS, hXS⟩ : ∃ x, ZS.map (fun z => Value.int .i64 z) = x := ⟨_, rfl⟩
    obtain ⟨LL, hLL⟩ : ∃ n, ZS.length = n := ⟨_, rfl⟩
    have hrow0 := hrow
    rw [hLL, hXS] at hrow
    rw [hLL] at hlen
    have HZ : Hid ((L.map Bxd.v).take k = ZS ∧ ZS.map (fun z => Value.int .i64 z) = XS ∧ ZS.length = LL) := ⟨hZS, hXS, hLL⟩
    obtain ⟨oa, oc, rfl⟩ := row_form hrow
    by_cases hlt : k < M
    · have d1 : decide ((k : Int) < (M : Int)) = true := decide_eq_true (by omega)
      have i1 : (0 : Int) ≤ (k : Int) := by omega
      have i2 : (k : Int) < (M : Int) := by omega
      obtain ⟨x, hxk⟩ : ∃ x, L[k]? = some x := ⟨_, List.getElem?_eq_getElem (by have := HX.out.2.1; omega)⟩
      obtain ⟨b, o, rfl, q1, q2, lv, q3, q4⟩ := bxr_at (HX.out.1.below hbw (Nat.le_refl _)) hxk
      obtain ⟨xv, xn, xl⟩ := x
      obtain ⟨hr1, hr2, hr3, hr4⟩ := HX.out.2.2.1 _ (List.mem_of_getElem? hxk)
      have q1 : wr.cell? ⟨b, o + k * 3, none⟩ = some (.int .i64 xv) := q1
      have q2 : wr.cell? ⟨b, o + k * 3 + 1, none⟩ = some (.int .i64 xn) := q2
      have q3 : wr.cell? ⟨b, o + k * 3 + 2, none⟩ = some lv := q3
      have q4 : Lts wr lv xl := q4
      have hr1 : rightB xv xn xl = true := hr1
      have hr2 : xv < nx := hr2
      obtain ⟨la, lc, rfl, _⟩ := id q4
      have b1 : Below wr.heap.size wr (wr.alloc (.cells #[.int .i64 xv, .int .i64 xn, .slice la xl.length lc] 72)) := (Below.refl _ _).alloc (Nat.le_refl _) _
      have e1 := heap_alloc_new wr (.cells #[.int .i64 xv, .int .i64 xn, .slice la xl.length lc] 72)
      obtain ⟨W1, hW1⟩ : ∃ W, wr.alloc (.cells #[.int .i64 xv, .int .i64 xn, .slice la xl.length lc] 72) = W := ⟨_, rfl⟩
      rw [hW1] at b1 e1
      have hB1 : Below w.heap.size w W1 := hbw.trans (b1.mono hbw.size)
      have s0 : W1.cell? ⟨wr.heap.size, 0, none⟩ = some (.int .i64 xv) := rd_cell e1 rfl
      have s1 : W1.cell? ⟨wr.heap.size, 1, none⟩ = some (.int .i64 xn) := rd_cell e1 rfl
      have s2 : W1.cell? ⟨wr.heap.size, 2, none⟩ = some (.slice la xl.length lc) := rd_cell e1 rfl
      have hsl := HX.out.2.2.2.2.lt
      have cR := right_is xv xn xl (.slice la xl.length lc) W1 (q4.below b1 (Nat.le_refl _)) hr3 hr4 (HX.out.2.2.2.2.below hB1 hsl)
      rw [hr1] at cR
      have hnot : xv ∉ ZS := by
        rw [← hZS]
        intro hm
        obtain ⟨j, hj⟩ := List.getElem?_of_mem hm
        rw [List.getElem?_take] at hj
        split at hj
        · rename_i hjk
          obtain ⟨g1, e5⟩ := List.getElem?_eq_some_iff.1 hj
          have e6 : (L.map Bxd.v)[k]? = some xv := by rw [List.getElem?_map, hxk]; rfl
          obtain ⟨g2, e7⟩ := List.getElem?_eq_some_iff.1 e6
          exact (List.pairwise_iff_getElem.1 HX.out.2.2.2.1 j k g1 g2 hjk) (e5.trans e7.symm)
        · cases hj
      have HK2 : Hid ((L.map Bxd.v).take (k + 1) = ZS ++ [xv]) := by
        unfold Hid
        rw [List.take_add_one, hZS, List.getElem?_map, hxk]
        rfl
      have hrow1 : ∀ W, Below wr.heap.size wr W → W.ownsRow w.heap.size 3 1 (.slice oa LL oc) LL XS := fun W hW => row_below hW (Nat.le_refl _) hrow
      have hrow2 : ∀ W, Below wr.heap.size wr W → Calls Tryz.prog 109 #[.slice oa LL oc, .int .i64 xv] W fun e w' => e = .returned (.bool false) ∧ w' = W := fun W hW => by
        have := contains_no w.heap.size (.slice oa ZS.length oc) ZS xv W (by rw [hLL, hXS]; exact hrow1 W hW) hnot (by omega)
        rw [hLL] at this
        exact this
      have HR : Hid ((∀ W, Below wr.heap.size wr W → W.ownsRow w.heap.size 3 1 (.slice oa LL oc) LL XS) ∧ (∀ W, Below wr.heap.size wr W → Calls Tryz.prog 109 #[.slice oa LL oc, .int .i64 xv] W fun e w' => e = .returned (.bool false) ∧ w' = W) ∧ Below wr.heap.size wr W1 ∧ Below w.heap.size w wr ∧ W1.heap[wr.heap.size]? = some (.cells #[.int .i64 xv, .int .i64 xn, .slice la xl.length lc] 72 (0, 0))) := ⟨hrow1, hrow2, b1, hbw, e1⟩
      have d2 : decide (nx ≤ xv) = false := decide_eq_false (by omega)
      clear hrow hrow0 hrow1 hrow2 hnot hZS hXS hLL q4 hr1 hr3 hr4 hxk b1 hB1 e1 hbw hsl
      go_wp2_with fail
      refine cR.mono ?_
      rintro e w2 ⟨rfl, hb2⟩
      have hB2 : Below wr.heap.size wr w2 := HR.out.2.2.1.trans (hb2.mono HR.out.2.2.1.size)
      have t0 : w2.cell? ⟨wr.heap.size, 0, none⟩ = some (.int .i64 xv) := rd_cell ((hb2.block _ (Array.getElem?_eq_some_iff.1 HR.out.2.2.2.2).1).trans HR.out.2.2.2.2) rfl
      have cC := HR.out.2.1 w2 hB2
      have hrw := HR.out.1 w2 hB2
      have hbs : w.heap.size ≤ w2.heap.size := Nat.le_trans HR.out.2.2.2.1.size hB2.size
      have HB2 : Hid (Below w.heap.size w w2) := HR.out.2.2.2.1.trans (hB2.mono HR.out.2.2.2.1.size)
      clear cR hb2 hB2 s0 s1 s2 q1 q2 q3
      go_wp2_with fail
      refine cC.mono ?_
      rintro e w3 ⟨rfl, hw⟩
      obtain rfl : w2 = w3 := hw.symm
      clear cC hw
      go_wp2_with (at_builtin; go_must (refine wpList_push rfl (.tmp 29) (.tmp 32) 147 rfl _ w.heap.size 3 (.int .i64 0) 8 Tryz.underlying147 Tryz.infoNo rfl _ _ _ (by rfl) hrw [.int .i64 xv] _ (by rfl) (by simp) (by simp [Value.oneCell']) (by simp) (by rfl) (by decide) (by simp; omega) hbs ?_); intro g4 cap4 w4 hown4 hg4 hlt4)
      have HF : Hid (w4.ownsRow w.heap.size 3 1 (.slice (some ⟨g4, 0, none⟩) (LL + 1) cap4) ((L.map Bxd.v).take (k + 1)).length (((L.map Bxd.v).take (k + 1)).map fun z => Value.int .i64 z) ∧ Below w.heap.size w w4) := by
        refine ⟨?_, HB2.out.grown hg4 hbs (fun j e => (hrw.lt j e).1)⟩
        rw [HK2.out, List.length_append, List.map_append, HZ.out.2.1, HZ.out.2.2]
        exact hown4
      clear hown4 hg4 hrw
      go_roundw
      case rel => exact ⟨k + 1, by go_num, by omega, HF.out.1, HF.out.2⟩
      case measure => simp [intOf]; omega
    · have d1 : decide ((k : Int) < (M : Int)) = false := decide_eq_false (by omega)
      clear hrow hrow0
      go_wp2_with fail
      go_ret
      exact ⟨rfl, hbw⟩
end Go.Proofs.YtfdlopimncodcaaGreatDoor
