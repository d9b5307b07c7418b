/-
  The library's contracts at this program's numbers: slices_Contains_int, and more.
-/
import Derived.Test.YtdmplfflmdanlaaGreatDoorBpHsWhole
import Derived.Test.YtdmplfflmdanlaaGreatDoorMBoxRight
import Derived.Maps.AppendAt
namespace Go.Proofs
open Go.Shelf
def Tryz.lays107_ren : Go.Shelf.Ren := ⟨fun | 107 => 89 | 108 => 148 | n => n, fun | 28 => 117 | 3 => 3 | 4 => 4 | 0 => 0 | n => n, fun | n => n⟩
theorem Tryz.lays107 : Go.Proofs.Lays.n107 Tryz.prog Tryz.lays107_ren := {
  mixed := by kernel_rfl
  f107 := Tryz.func89.trans (congrArg some (by kernel_rfl))
  f108 := Tryz.func148.trans (congrArg some (by kernel_rfl))
  t0 := Tryz.underlying0
  a0 := Tryz.isAgg0
  z0 := Tryz.sizeOf0
  v0 := Tryz.zeroValue0
  t3 := Tryz.underlying3
  a3 := Tryz.isAgg3
  z3 := Tryz.sizeOf3
  v3 := Tryz.zeroValue3
  t4 := Tryz.underlying4
  a4 := Tryz.isAgg4
  z4 := Tryz.sizeOf4
  v4 := Tryz.zeroValue4
  t28 := Tryz.underlying117
  a28 := Tryz.isAgg117
  z28 := Tryz.sizeOf117
  v28 := Tryz.zeroValue117 }
open Go.Lib in
theorem Tryz.slices_Contains_int (b off n c : Nat) (zs : List Int) (x : Int) (w : World) (hz : n ≤ zs.length) (hbig : n ≤ 9223372036854775807) (hc : ∀ j, j < zs.length → w.cell? ⟨b, off + j, none⟩ = some (.int .i64 (zs.getD j 0))) :
    Calls Tryz.prog 89 #[.slice (some ⟨b, off, none⟩) n c, .int .i64 x] w fun e w' => e = .returned (.bool ((zs.take n).contains x)) ∧ w' = w := Any.slices_Contains_int Tryz.lays107 b off n c zs x w hz hbig hc
open Go.Lib in
theorem Tryz.slices_Contains_int_empty (a : Option Addr) (c : Nat) (x : Int) (w : World) :
    Calls Tryz.prog 89 #[.slice a 0 c, .int .i64 x] w fun e w' => e = .returned (.bool false) ∧ w' = w := Any.slices_Contains_int_empty Tryz.lays107 a c x w
end Go.Proofs
namespace Go.Proofs
theorem Tryz.infoNo : (Tryz.prog.info? 3).map (fun i => (i.zero, i.size, i.bytes)) = some (some (.int .i64 0), 1, 8) := by kernel_rfl
end Go.Proofs
namespace Go.Proofs.YtdmplfflmdanlaaGreatDoor
open Go.RowKit Go.Proofs.Aid Go.Proofs.Bx

/-- What a box is. -/
structure Bxd where
  v : Int
  n : Int
  ls : List Lt
def BxrAt (w : World) (b o : Nat) (x : Bxd) : Prop := w.cell? ⟨b, o, none⟩ = some (.int .i64 x.v) ∧ w.cell? ⟨b, o + 1, none⟩ = some (.int .i64 x.n) ∧ ∃ lv, w.cell? ⟨b, o + 2, none⟩ = some lv ∧ Lts w lv x.ls
/-- A slice of boxes. -/
def Bxr (w : World) (val : Value) (L : List Bxd) : Prop := ∃ a c, val = .slice a L.length c ∧ (L = [] ∨ ∃ b o, a = some ⟨b, o, none⟩ ∧ ∀ (j : Nat) x, L[j]? = some x → BxrAt w b (o + j * 3) x)
theorem Bxr.below {w w' : World} {v : Value} {B : Nat} {L : List Bxd} (h : Bxr w v L) (hb : Below B w w') (hB : w.heap.size ≤ B) : Bxr w' v L := by
  obtain ⟨a, c, h1, h2⟩ := h
  refine ⟨a, c, h1, ?_⟩
  rcases h2 with h2 | ⟨b, o, h3, h4⟩
  · exact Or.inl h2
  · refine Or.inr ⟨b, o, h3, fun j x hj => ?_⟩
    obtain ⟨q1, q2, lv, q3, q4⟩ := h4 j x hj
    have hlt : b < B := Nat.lt_of_lt_of_le (World.block_lt_of_cell? _ _ q1) hB
    exact ⟨(hb.cell (p := ⟨b, _, none⟩) hlt).trans q1, (hb.cell (p := ⟨b, _, none⟩) hlt).trans q2, lv, (hb.cell (p := ⟨b, _, none⟩) hlt).trans q3, q4.below hb hB⟩
theorem bxr_at {w : World} {a : Option Addr} {n c : Nat} {L : List Bxd} (h : Bxr w (.slice a n c) L) {k : Nat} {x : Bxd} (hk : L[k]? = some x) : ∃ b o, a = some ⟨b, o, none⟩ ∧ BxrAt w b (o + k * 3) x := by
  obtain ⟨a', c', h1, h2⟩ := h
  injection h1 with h1 _ _
  subst h1
  rcases h2 with h2 | ⟨b, o, h3, h4⟩
  · rw [h2] at hk
    simp at hk
  · exact ⟨b, o, h3, h4 k x hk⟩
/-- Numbers in a row of the call's own: is one of them there? -/
theorem contains_no (base : Nat) (v : Value) (zs : List Int) (x : Int) (w : World) (h : w.ownsRow base 3 1 v zs.length (zs.map fun z => Value.int .i64 z)) (hx : x ∉ zs) (hl : zs.length ≤ 1000) :
    Calls Tryz.prog 89 #[v, .int .i64 x] w fun e w' => e = .returned (.bool false) ∧ w' = w := by
  by_cases hz : zs = []
  · subst hz
    obtain ⟨a, c, rfl⟩ := row_form h
    exact Tryz.slices_Contains_int_empty a c x w
  · have hpos : 0 < zs.length := List.length_pos_iff.2 hz
    rcases h.2 with ⟨_, h2⟩ | ⟨g, cap, cur, hv, _, hh, _, _, hsz, htk⟩
    · omega
    · subst hv
      have hC := Tryz.slices_Contains_int g 0 zs.length cap zs x w (Nat.le_refl _) (by omega) (fun j hj => by
        rw [Nat.zero_add]
        refine rd_cell hh ?_
        have h1 : (zs.map fun z => Value.int .i64 z)[j]? = some (.int .i64 (zs.getD j 0)) := by
          rw [List.getElem?_map, List.getElem?_eq_getElem hj, List.getD_eq_getElem?_getD, List.getElem?_eq_getElem hj]
          rfl
        rw [← htk, List.getElem?_take] at h1
        split at h1
        · rw [Array.getElem?_toList] at h1; exact h1
        · cases h1)
      rw [List.take_of_length_le (Nat.le_refl _), show zs.contains x = false by simpa using hx] at hC
      exact hC
/-- A box that may be asked about. -/
def FitB (x : Bxd) : Prop := x.ls.length ≤ 1000 ∧ ∀ y ∈ x.ls, y.flags.length ≤ 400 ∧ (∀ s ∈ y.flags, s.length ≤ 1000000) ∧ (Fl.setOf y.flags).1.length ≤ 1000
set_option maxHeartbeats 8000000 in
set_option maxRecDepth 100000 in
theorem rboxes_true (val : Value) (L : List Bxd) (nx : Int) (w : World) (h : Bxr w val L) (hg : SysAt w) (hl : L.length ≤ 1000) (hr : ∀ x ∈ L, rightB x.v x.n x.ls = true ∧ x.v < nx ∧ FitB x) (hd : (L.map Bxd.v).Nodup) :
    Calls Tryz.prog 30 #[val, .int .i64 nx] w fun e w' => e = .returned (.bool true) ∧ Below w.heap.size w w' := by
  obtain ⟨a, c, rfl, _⟩ := id h
  obtain ⟨M, hM⟩ : ∃ m, L.length = m := ⟨_, rfl⟩
  have HX : Hid (Bxr w (.slice a M c) L ∧ L.length = M ∧ (∀ x ∈ L, rightB x.v x.n x.ls = true ∧ x.v < nx ∧ FitB x) ∧ (L.map Bxd.v).Nodup ∧ SysAt w) := ⟨by rw [← hM]; exact h, hM, hr, hd, hg⟩
  rw [hM] at hl ⊢
  clear h hM hr hd hg
  go_enter Tryz.func30, Tryz.ntmps30
  go_wp2_with fail
  go_loopw [5, 10] (fun tv iv wr => ∃ k : Nat, iv = .int .i64 (k : Int) ∧ k ≤ M ∧ wr.ownsRow w.heap.size 3 1 tv ((L.map Bxd.v).take k).length (((L.map Bxd.v).take k).map fun z => Value.int .i64 z) ∧ Below w.heap.size w wr) (fun _ iv _ => M - (intOf iv).toNat)
  case atStart => exact ⟨0, rfl, Nat.zero_le _, World.ownsRow_nil _ _ _ _, Below.refl _ _⟩
  case round =>
    obtain ⟨k, rfl, hk, hrow, hbw⟩ := hrel
    have hlen : ((L.map Bxd.v).take k).length ≤ 1000 := by rw [List.length_take]; omega
    obtain ⟨ZS, hZS⟩ : ∃ z, (L.map Bxd.v).take k = z := ⟨_, rfl⟩
    rw [hZS] at hrow hlen
    obtain ⟨XS, hXS⟩ : ∃ x, ZS.map (fun z => Value.int .i64 z) = x := ⟨_, rfl⟩
    obtain ⟨LL, hLL⟩ : ∃ n, ZS.length = n := ⟨_, rfl⟩
    have hrow0 := hrow
    rw [hLL, hXS] at hrow
    rw [hLL] at hlen
    have HZ : Hid ((L.map Bxd.v).take k = ZS ∧ ZS.map (fun z => Value.int .i64 z) = XS ∧ ZS.length = LL) := ⟨hZS, hXS, hLL⟩
    obtain ⟨oa, oc, rfl⟩ := row_form hrow
    by_cases hlt : k < M
    · have d1 : decide ((k : Int) < (M : Int)) = true := decide_eq_true (by omega)
      have i1 : (0 : Int) ≤ (k : Int) := by omega
      have i2 : (k : Int) < (M : Int) := by omega
      obtain ⟨x, hxk⟩ : ∃ x, L[k]? = some x := ⟨_, List.getElem?_eq_getElem (by have := HX.out.2.1; omega)⟩
      obtain ⟨b, o, rfl, q1, q2, lv, q3, q4⟩ := bxr_at (HX.out.1.below hbw (Nat.le_refl _)) hxk
      obtain ⟨xv, xn, xl⟩ := x
      obtain ⟨hr1, hr2, hr3, hr4⟩ := HX.out.2.2.1 _ (List.mem_of_getElem? hxk)
      have q1 : wr.cell? ⟨b, o + k * 3, none⟩ = some (.int .i64 xv) := q1
      have q2 : wr.cell? ⟨b, o + k * 3 + 1, none⟩ = some (.int .i64 xn) := q2
      have q3 : wr.cell? ⟨b, o + k * 3 + 2, none⟩ = some lv := q3
      have q4 : Lts wr lv xl := q4
      have hr1 : rightB xv xn xl = true := hr1
      have hr2 : xv < nx := hr2
      obtain ⟨la, lc, rfl, _⟩ := id q4
      have b1 : Below wr.heap.size wr (wr.alloc (.cells #[.int .i64 xv, .int .i64 xn, .slice la xl.length lc] 66)) := (Below.refl _ _).alloc (Nat.le_refl _) _
      have e1 := heap_alloc_new wr (.cells #[.int .i64 xv, .int .i64 xn, .slice la xl.length lc] 66)
      obtain ⟨W1, hW1⟩ : ∃ W, wr.alloc (.cells #[.int .i64 xv, .int .i64 xn, .slice la xl.length lc] 66) = W := ⟨_, rfl⟩
      rw [hW1] at b1 e1
      have hB1 : Below w.heap.size w W1 := hbw.trans (b1.mono hbw.size)
      have s0 : W1.cell? ⟨wr.heap.size, 0, none⟩ = some (.int .i64 xv) := rd_cell e1 rfl
      have s1 : W1.cell? ⟨wr.heap.size, 1, none⟩ = some (.int .i64 xn) := rd_cell e1 rfl
      have s2 : W1.cell? ⟨wr.heap.size, 2, none⟩ = some (.slice la xl.length lc) := rd_cell e1 rfl
      have hsl := HX.out.2.2.2.2.lt
      have cR := right_is xv xn xl (.slice la xl.length lc) W1 (q4.below b1 (Nat.le_refl _)) hr3 hr4 (HX.out.2.2.2.2.below hB1 hsl)
      rw [hr1] at cR
      have hnot : xv ∉ ZS := by
        rw [← hZS]
        intro hm
        obtain ⟨j, hj⟩ := List.getElem?_of_mem hm
        rw [List.getElem?_take] at hj
        split at hj
        · rename_i hjk
          obtain ⟨g1, e5⟩ := List.getElem?_eq_some_iff.1 hj
          have e6 : (L.map Bxd.v)[k]? = some xv := by rw [List.getElem?_map, hxk]; rfl
          obtain ⟨g2, e7⟩ := List.getElem?_eq_some_iff.1 e6
          exact (List.pairwise_iff_getElem.1 HX.out.2.2.2.1 j k g1 g2 hjk) (e5.trans e7.symm)
        · cases hj
      have HK2 : Hid ((L.map Bxd.v).take (k + 1) = ZS ++ [xv]) := by
        unfold Hid
        rw [List.take_add_one, hZS, List.getElem?_map, hxk]
        rfl
      have hrow1 : ∀ W, Below wr.heap.size wr W → W.ownsRow w.heap.size 3 1 (.slice oa LL oc) LL XS := fun W hW => row_below hW (Nat.le_refl _) hrow
      have hrow2 : ∀ W, Below wr.heap.size wr W → Calls Tryz.prog 89 #[.slice oa LL oc, .int .i64 xv] W fun e w' => e = .returned (.bool false) ∧ w' = W := fun W hW => by
        have := contains_no w.heap.size (.slice oa ZS.length oc) ZS xv W (by rw [hLL, hXS]; exact hrow1 W hW) hnot (by omega)
        rw [hLL] at this
        exact this
      have HR : Hid ((∀ W, Below wr.heap.size wr W → W.ownsRow w.heap.size 3 1 (.slice oa LL oc) LL XS) ∧ (∀ W, Below wr.heap.size wr W → Calls Tryz.prog 89 #[.slice oa LL oc, .int .i64 xv] W fun e w' => e = .returned (.bool false) ∧ w' = W) ∧ Below wr.heap.size wr W1 ∧ Below w.heap.size w wr ∧ W1.heap[wr.heap.size]? = some (.cells #[.int .i64 xv, .int .i64 xn, .slice la xl.length lc] 66 (0, 0))) := ⟨hrow1, hrow2, b1, hbw, e1⟩
      have d2 : decide (nx ≤ xv) = false := decide_eq_false (by omega)
      clear hrow hrow0 hrow1 hrow2 hnot hZS hXS hLL q4 hr1 hr3 hr4 hxk b1 hB1 e1 hbw hsl
      go_wp2_with fail
      refine cR.mono ?_
      rintro e w2 ⟨rfl, hb2⟩
      have hB2 : Below wr.heap.size wr w2 := HR.out.2.2.1.trans (hb2.mono HR.out.2.2.1.size)
      have t0 : w2.cell? ⟨wr.heap.size, 0, none⟩ = some (.int .i64 xv) := rd_cell ((hb2.block _ (Array.getElem?_eq_some_iff.1 HR.out.2.2.2.2).1).trans HR.out.2.2.2.2) rfl
      have cC := HR.out.2.1 w2 hB2
      have hrw := HR.out.1 w2 hB2
      have hbs : w.heap.size ≤ w2.heap.size := Nat.le_trans HR.out.2.2.2.1.size hB2.size
      have HB2 : Hid (Below w.heap.size w w2) := HR.out.2.2.2.1.trans (hB2.mono HR.out.2.2.2.1.size)
      clear cR hb2 hB2 s0 s1 s2 q1 q2 q3
      go_wp2_with fail
      refine cC.mono ?_
      rintro e w3 ⟨rfl, hw⟩
      obtain rfl : w2 = w3 := hw.symm
      clear cC hw
      go_wp2_with (at_builtin; go_must (refine wpList_push rfl (.tmp 29) (.tmp 32) 117 rfl _ w.heap.size 3 (.int .i64 0) 8 Tryz.underlying117 Tryz.infoNo rfl _ _ _ (by rfl) hrw [.int .i64 xv] _ (by rfl) (by simp) (by simp [Value.oneCell']) (by simp) (by rfl) (by decide) (by simp; omega) hbs ?_); intro g4 cap4 w4 hown4 hg4 hlt4)
      have HF : Hid (w4.ownsRow w.heap.size 3 1 (.slice (some ⟨g4, 0, none⟩) (LL + 1) cap4) ((L.map Bxd.v).take (k + 1)).length (((L.map Bxd.v).take (k + 1)).map fun z => Value.int .i64 z) ∧ Below w.heap.size w w4) := by
        refine ⟨?_, HB2.out.grown hg4 hbs (fun j e => (hrw.lt j e).1)⟩
        rw [HK2.out, List.length_append, List.map_append, HZ.out.2.1, HZ.out.2.2]
        exact hown4
      clear hown4 hg4 hrw
      go_roundw
      case rel => exact ⟨k + 1, by go_num, by omega, HF.out.1, HF.out.2⟩
      case measure => simp [intOf]; omega
    · have d1 : decide ((k : Int) < (M : Int)) = false := decide_eq_false (by omega)
      clear hrow hrow0
      go_wp2_with fail
      go_ret
      exact ⟨rfl, hbw⟩
end Go.Proofs.YtdmplfflmdanlaaGreatDoor
namespace Go.Proofs.YtdmplfflmdanlaaGreatDoor
open Go.RowKit Go.Proofs.Aid Go.Proofs.Bx

/-- All that a house has. -/
structure Svd where
  names : List Nm
  boxes : List Bxd
  wants : List Nm
  next : Int
/-- It lies there. -/
def SvAt (w : World) (nv bv wv : Value) (S : Svd) : Prop := Sl w nv S.names ∧ Bxr w bv S.boxes ∧ Sl w wv S.wants
theorem SvAt.below {w w' : World} {nv bv wv : Value} {S : Svd} {B : Nat} (h : SvAt w nv bv wv S) (hb : Below B w w') (hB : w.heap.size ≤ B) : SvAt w' nv bv wv S := ⟨h.1.below hb hB, h.2.1.below hb hB, h.2.2.below hb hB⟩
/-- A house may have it. -/
structure SvOk (S : Svd) : Prop where
  len : S.names.length = S.boxes.length
  most : S.names.length ≤ 30
  wmost : S.wants.length ≤ 60
  nsorted : S.names.Pairwise (· < ·)
  wsorted : S.wants.Pairwise (· < ·)
  nname : ∀ n ∈ S.names, nameB n = some n
  wname : ∀ n ∈ S.wants, nameB n = some n
  inbox : inboxN ∈ S.names
  whole : ∀ n ∈ S.names, hangB S.names ⟨n.toArray⟩ = false
  next : 1 ≤ S.next ∧ S.next ≤ 2147483647
  boxes : ∀ x ∈ S.boxes, rightB x.v x.n x.ls = true ∧ x.v < S.next ∧ FitB x
  once : (S.boxes.map Bxd.v).Nodup
set_option maxHeartbeats 8000000 in
set_option maxRecDepth 100000 in
theorem right_true (nv bv wv : Value) (S : Svd) (w : World) (h : SvAt w nv bv wv S) (hO : SvOk S) (hE : NEnv w) (hg : SysAt w) :
    Calls Tryz.prog 6 #[.agg #[nv, bv, wv, .int .i64 S.next]] w fun e w' => e = .returned (.bool true) ∧ Below w.heap.size w w' := by
  obtain ⟨na, nc, rfl, _⟩ := id h.1
  obtain ⟨ba, bc, rfl, _⟩ := id h.2.1
  obtain ⟨wa, wc, rfl, _⟩ := id h.2.2
  obtain ⟨N, hN⟩ : ∃ m, S.names.length = m := ⟨_, rfl⟩
  obtain ⟨M, hM⟩ : ∃ m, S.wants.length = m := ⟨_, rfl⟩
  obtain ⟨X, hX⟩ : ∃ m, S.next = m := ⟨_, rfl⟩
  have hBn : S.boxes.length = N := by rw [← hN, hO.len]
  have e0 : N ≤ 30 := by rw [← hN]; exact hO.most
  have e00 : M ≤ 60 := by rw [← hM]; exact hO.wmost
  have e01 : 1 ≤ X ∧ X ≤ 2147483647 := by rw [← hX]; exact hO.next
  have HC : Hid (∀ W, Below w.heap.size w W → (Calls Tryz.prog 28 #[.slice na N nc] W fun e w' => e = .returned (.bool true) ∧ Below W.heap.size W w') ∧ (Calls Tryz.prog 28 #[.slice wa M wc] W fun e w' => e = .returned (.bool true) ∧ Below W.heap.size W w') ∧
      (Calls Tryz.prog 29 #[.slice na N nc] W fun e w' => e = .returned (.bool true) ∧ Below W.heap.size W w') ∧ (Calls Tryz.prog 30 #[.slice ba N bc, .int .i64 X] W fun e w' => e = .returned (.bool true) ∧ Below W.heap.size W w')) := fun W hW => by
    have hS := h.below hW (Nat.le_refl _)
    have hl1 : S.names.length ≤ 1000 := by have := hO.most; omega
    have hl2 : S.wants.length ≤ 1000 := by have := hO.wmost; omega
    have hl3 : S.boxes.length ≤ 1000 := by omega
    have hxs : ∀ n ∈ S.names, n.length ≤ 1000 := fun n hn => by have := nameB_len (hO.nname n hn); omega
    refine ⟨?_, ?_, ?_, ?_⟩
    · have := rnames_true _ S.names W (hE.below hW) hS.1 hl1 hO.nname hO.nsorted
      rw [hN] at this
      exact this
    · have := rnames_true _ S.wants W (hE.below hW) hS.2.2 hl2 hO.wname hO.wsorted
      rw [hM] at this
      exact this
    · have := whole_true _ S.names W hS.1 hO.nsorted hl1 hxs hO.inbox hO.whole
      rw [hN] at this
      exact this
    · have := rboxes_true _ S.boxes S.next W hS.2.1 (hg.below hW hg.lt) hl3 hO.boxes hO.once
      rw [hBn, hX] at this
      exact this
  rw [hN, hBn, hM, hX]
  have b1 : Below w.heap.size w (w.alloc (.cells #[.slice na N nc, .slice ba N bc, .slice wa M wc, .int .i64 X] 26)) := (Below.refl _ _).alloc (Nat.le_refl _) _
  have e1 := heap_alloc_new w (.cells #[.slice na N nc, .slice ba N bc, .slice wa M wc, .int .i64 X] 26)
  obtain ⟨W1, hW1⟩ : ∃ W, w.alloc (.cells #[.slice na N nc, .slice ba N bc, .slice wa M wc, .int .i64 X] 26) = W := ⟨_, rfl⟩
  rw [hW1] at b1 e1
  have hlt1 : w.heap.size < W1.heap.size := (Array.getElem?_eq_some_iff.1 e1).1
  have HRD : Hid (∀ W, Below W1.heap.size W1 W → W.cell? ⟨w.heap.size, 0, none⟩ = some (.slice na N nc) ∧ W.cell? ⟨w.heap.size, 1, none⟩ = some (.slice ba N bc) ∧ W.cell? ⟨w.heap.size, 2, none⟩ = some (.slice wa M wc) ∧ W.cell? ⟨w.heap.size, 3, none⟩ = some (.int .i64 X)) := fun W hW => by
    have e2 := (hW.block _ hlt1).trans e1
    exact ⟨rd_cell e2 rfl, rd_cell e2 rfl, rd_cell e2 rfl, rd_cell e2 rfl⟩
  obtain ⟨s0, s1, s2, s3⟩ := HRD.out W1 (Below.refl _ _)
  obtain ⟨c1, _⟩ := HC.out W1 b1
  have HB1 : Hid (Below w.heap.size w W1) := b1
  have d1 : decide ((N : Int) ≤ 30) = true := decide_eq_true (by omega)
  have d2 : decide ((M : Int) ≤ 60) = true := decide_eq_true (by omega)
  have d3 : decide ((1 : Int) ≤ X) = true := decide_eq_true e01.1
  have d4 : decide (X ≤ 2147483647) = true := decide_eq_true e01.2
  clear h hO hE hg hN hM hX hBn b1 e1
  go_enter Tryz.func6, Tryz.ntmps6
  go_wp2_with fail
  refine c1.mono ?_
  rintro e w2 ⟨rfl, hb2⟩
  have hz2 := hb2.size
  have hB2 : Below w.heap.size w w2 := HB1.out.trans (hb2.mono HB1.out.size)
  obtain ⟨t0, t1, t2, t3⟩ := HRD.out w2 hb2
  obtain ⟨_, c2, _⟩ := HC.out w2 hB2
  have HB2 : Hid (Below w.heap.size w w2 ∧ Below W1.heap.size W1 w2) := ⟨hB2, hb2⟩
  clear c1 hb2 hB2 s0 s1 s2 s3
  go_wp2_with fail
  refine c2.mono ?_
  rintro e w3 ⟨rfl, hb3⟩
  have hB3 : Below w.heap.size w w3 := HB2.out.1.trans (hb3.mono HB2.out.1.size)
  have hA3 : Below W1.heap.size W1 w3 := HB2.out.2.trans (hb3.mono hz2)
  obtain ⟨t0', t1', t2', t3'⟩ := HRD.out w3 hA3
  obtain ⟨_, _, c3, _⟩ := HC.out w3 hB3
  have HB3 : Hid (Below w.heap.size w w3 ∧ Below W1.heap.size W1 w3) := ⟨hB3, hA3⟩
  have hz3 := hA3.size
  clear c2 hb3 hB3 hA3 t0 t1 t2 t3
  go_wp2_with fail
  refine c3.mono ?_
  rintro e w4 ⟨rfl, hb4⟩
  have hB4 : Below w.heap.size w w4 := HB3.out.1.trans (hb4.mono HB3.out.1.size)
  have hA4 : Below W1.heap.size W1 w4 := HB3.out.2.trans (hb4.mono hz3)
  obtain ⟨r0, r1, r2, r3⟩ := HRD.out w4 hA4
  obtain ⟨_, _, _, c4⟩ := HC.out w4 hB4
  have HB4 : Hid (Below w.heap.size w w4) := hB4
  clear c3 hb4 hB4 hA4 t0' t1' t2' t3'
  go_wp2_with fail
  refine c4.mono ?_
  rintro e w5 ⟨rfl, hb5⟩
  have HB5 : Hid (Below w.heap.size w w5) := HB4.out.trans (hb5.mono HB4.out.size)
  clear c4 hb5
  go_wp2_with fail
  go_ret
  exact ⟨rfl, HB5.out⟩
end Go.Proofs.YtdmplfflmdanlaaGreatDoor
namespace Go.Proofs.Aid
open Go.RowKit

/-- All cells of a block are of a kind. -/
def AllC (F : Value → Prop) (w : World) (g : Nat) : Prop := ∀ i u, w.cell? ⟨g, i, none⟩ = some u → F u
theorem AllC.same {F : Value → Prop} {w w' : World} {g : Nat} (h : AllC F w g) (e : w'.heap[g]? = w.heap[g]?) : AllC F w' g := fun i u hu => h i u (by rw [← hu]; exact (World.cell?_of_block (w := w) (a := ⟨g, i, none⟩) e).symm)
theorem allC_of {F : Value → Prop} {w : World} {g : Nat} {cs : Array Value} {t : TypeId} {fz : Nat × Nat} (h : w.heap[g]? = some (.cells cs t fz)) (hc : ∀ u ∈ cs.toList, F u) : AllC F w g := fun i u hu => by
  simp only [World.cell?, h] at hu
  have h1 : cs.toList[i]? = some u := by simpa using hu
  exact hc u (List.mem_of_getElem? h1)
theorem allC_all {F : Value → Prop} {w : World} {g : Nat} {cs : Array Value} {t : TypeId} {fz : Nat × Nat} (h : w.heap[g]? = some (.cells cs t fz)) (hc : AllC F w g) : ∀ u ∈ cs.toList, F u := fun u hu => by
  obtain ⟨i, hi⟩ := List.getElem?_of_mem hu
  exact hc i u (by simp only [World.cell?, h]; simpa using hi)
theorem zeroCells_all {F : Value → Prop} {z : Array Value} (hz : ∀ u ∈ z.toList, F u) (k : Nat) : ∀ u ∈ (Builtin.zeroCells z k).toList, F u := fun u hu => by
  unfold Builtin.zeroCells at hu
  simp only [Array.toList_map, Array.toList_range, List.mem_map, List.mem_range] at hu
  obtain ⟨a, ha, rfl⟩ := hu
  have h0 : 0 < z.size := by
    rcases Nat.eq_zero_or_pos z.size with h | h
    · rw [h, Nat.mul_zero] at ha; omega
    · exact h
  have hm := Nat.mod_lt a h0
  rw [getElem!_pos z (a % z.size) hm]
  exact hz _ (by simp)
variable {P : Program} (w : World)
theorem run_append_clean (F : Value → Prop) (t ty : TypeId) (base : Nat) (e : TypeId) (i : TypeInfo) (z : Value) (size bytes : Nat) (ht : P.underlying t = some (.slice e)) (hi : P.info? e = some i) (hz : i.zero = some z)
    (hsize : i.size = size) (hby : i.bytes = bytes) (hzs : z.cells.size = size) (hsz : 0 < size)
    (v : Value) (n : Nat) (xs : List Value) (hown : w.ownsRow base e size v n xs) (hF : ∀ g, v.ownBlock = some g → AllC F w g) (hFz : ∀ u ∈ z.cells.toList, F u)
    (ad : Addr) (m c : Nat) (news : List Value) (hl : news.length = m * size) (hnews : ∀ j u, news[j]? = some u → w.cell? (ad.add j) = some u) (h1 : ∀ u ∈ news, u.oneCell' = true) (hFn : ∀ u ∈ news, F u)
    (hm : 0 < m) (h63 : n + m ≤ maxLen) (hbytes : (n + m) * bytes ≤ 140737488355328) (hbase : base ≤ w.heap.size) :
    ∃ g cap w', (Builtin.append_ #[t, t] ty #[v, .slice (some ad) m c]).run P w = .ok (.slice (some ⟨g, 0, none⟩) (n + m) cap) w' ∧
      w'.ownsRow base e size (.slice (some ⟨g, 0, none⟩) (n + m) cap) (n + m) (xs ++ news) ∧ w.grownBy w' v.ownBlock ∧ (v.ownBlock = some g ∨ g = w.heap.size) ∧ g < w'.heap.size ∧ AllC F w' g := by
  obtain ⟨g, cap, w', hr, h2, h3, h4, h5⟩ := run_append_lies (P := P) w t ty base e i z size bytes ht hi hz hsize hby hzs hsz v n xs hown ad m c news hl hnews h1 hm h63 hbytes hbase _ rfl
  refine ⟨g, cap, w', hr, h2, h3, h4, h5, ?_⟩
  subst hsize
  subst hby
  have hsmall : n + m ≤ 9223372036854775807 := by simp only [maxLen] at h63; omega
  rcases hown.2 with ⟨rfl, rfl⟩ | ⟨g0, cap0, cur, rfl, hbg, hg, hnc, hcm, hcs, htake⟩
  · have hr2 := run_append_nil (P := P) w t ty e i z ht hi hz ad m c news hl hnews (by omega) (by omega) (by have hb := hbytes; simp only [Nat.zero_add] at hb; omega)
    rw [hr2] at hr
    injection hr with e1 e2
    injection e1 with e1 _ _
    injection e1 with e1
    injection e1 with e1 _ _
    subst e1
    subst e2
    refine allC_of (heap_alloc_new w.drew _) fun u hu => ?_
    rw [Array.toList_append] at hu
    rcases List.mem_append.1 hu with h | h
    · exact hFn u (by simpa using h)
    · exact zeroCells_all hFz _ u h
  · have hall := allC_all hg (hF g0 rfl)
    by_cases hroom : n + m ≤ cap0
    · have hfit : n * i.size + news.length ≤ cur.size := by rw [hl, hcs, ← Nat.add_mul]; exact Nat.mul_le_mul_right _ hroom
      have hr2 := run_append_room (P := P) w t ty e i ht hi g0 n cap0 cur hg ad m c news hl hnews h1 hroom hfit
      rw [hr2] at hr
      injection hr with e1 e2
      injection e1 with e1 _ _
      injection e1 with e1
      injection e1 with e1 _ _
      subst e1
      subst e2
      refine allC_of (setRow_heap w g0 cur _ e _ hg) fun u hu => ?_
      simp only [List.mem_append] at hu
      rcases hu with (h | h) | h
      · exact hall u (List.mem_of_mem_take h)
      · exact hFn u h
      · exact hall u (List.mem_of_mem_drop h)
    · have holds : ∀ j u, xs[j]? = some u → w.cell? ((⟨g0, 0, none⟩ : Addr).add j) = some u := hown.cells (g := g0) rfl
      have hr2 := run_append_grow (P := P) w t ty e i z ht hi hz ⟨g0, 0, none⟩ n cap0 xs hown.1 holds ad m c news hl hnews (by omega) (by omega) (growslice_fits (by omega) hbytes)
      rw [hr2] at hr
      injection hr with e1 e2
      injection e1 with e1 _ _
      injection e1 with e1
      injection e1 with e1 _ _
      subst e1
      subst e2
      refine allC_of (heap_alloc_new w.drew _) fun u hu => ?_
      rw [Array.toList_append, Array.toList_append] at hu
      rcases List.mem_append.1 hu with h | h
      · rcases List.mem_append.1 h with h | h
        · exact hall u (List.mem_of_mem_take (by rw [htake]; simpa using h))
        · exact hFn u (by simpa using h)
      · exact zeroCells_all hFz _ u h
end Go.Proofs.Aid
