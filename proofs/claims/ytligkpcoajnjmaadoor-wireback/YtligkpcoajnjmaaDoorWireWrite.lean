/-
  What a writer of package wire writes.
-/
import Derived.Test.YtligkpcoajnjmaaDoorWireStrT
import Derived.Test.YtligkpcoajnjmaaDoorBuildTag
import Derived.Test.YtligkpcoajnjmaaDoorArgRow
namespace Go.Proofs.YtligkpcoajnjmaaDoor
open Go.RowKit Go.Proofs.Aid Go.Proofs.Sq Go.Proofs.Hd
open Go.Proofs.Sr (Ar)

theorem tx_size (s : ByteArray) : s.data.toList.length = s.size := by show s.data.toList.length = s.data.size; simp
theorem isWr_alloc {B b : Nat} {l : List UInt8} {w : World} (h : IsWr B b l w) (o : Obj) : IsWr B b l (w.alloc o) := isBuilderW_below h ((Below.refl _ _).alloc (Nat.le_refl _) _)
theorem isWr_below {B b : Nat} {l : List UInt8} {w w' : World} (h : IsWr B b l w) (hb : Below w.heap.size w w') : IsWr B b l w' := isBuilderW_below h hb
set_option maxHeartbeats 4000000 in
set_option maxRecDepth 100000 in
theorem warg_at (B b d : Nat) (out : Hd.Tx) (a : Ar) (tb : ByteArray) (xa : Option Addr) (xn xc : Nat) (w : World) (h : IsWr B b out w) (hBw : B ≤ w.heap.size) (htb : tb.data.toList = a.text) (hz : tb.size ≤ 100000) (hd : d ≤ 1000)
    (hk : a.kind = 1 ∨ a.kind = 2 ∨ a.kind = 3) (hlen : out.length + (prA a).length ≤ 100000000)
    (hg : ∀ W, Below B w W → NumAt W ∧ ∃ m, W.cell? ⟨0, 0, none⟩ = some (.int .i64 m))
    (cL : a.kind = 3 → ∀ W, IsWr B b out W → Below B w W → Calls Tryd.prog 55 #[.pointer (some ⟨b, 0, none⟩), .slice xa xn xc, .int .i64 ((d : Int) + 1)] W fun e w' => e = .returned (.tuple #[]) ∧ IsWr B b (out ++ 40 :: (prL true a.list ++ [41])) w' ∧ Below B W w' ∧ Lib.OthersKept 5 (some b) W w') :
    Calls Tryd.prog 28 #[.pointer (some ⟨b, 0, none⟩), .agg #[.int .i64 a.kind, .string tb, .slice xa xn xc], .int .i64 (d : Int)] w fun e w' => e = .returned (.tuple #[]) ∧ IsWr B b (out ++ prA a) w' ∧ Below B w w' ∧ Lib.OthersKept 5 (some b) w w' := by
  have dd : decide ((65536 : Int) < (d : Int)) = false := decide_eq_false (by omega)
  obtain ⟨W1, hW1⟩ : ∃ W, w.alloc (.cells #[.int .i64 a.kind, .string tb, .slice xa xn xc] 68) = W := ⟨_, rfl⟩
  have e1 : W1.heap[w.heap.size]? = some (.cells #[.int .i64 a.kind, .string tb, .slice xa xn xc] 68 (0, 0)) := by rw [← hW1]; exact heap_alloc_new w _
  have hb1 : Below B w W1 := by rw [← hW1]; exact (Below.refl _ _).alloc hBw _
  have hz1 : w.heap.size < W1.heap.size := (Array.getElem?_eq_some_iff.1 e1).1
  have h1 : IsWr B b out W1 := by rw [← hW1]; exact isWr_alloc h _
  have c0 : W1.cell? ⟨w.heap.size, 0, none⟩ = some (.int .i64 a.kind) := rd_cell e1 rfl
  have c1 : W1.cell? ⟨w.heap.size, 1, none⟩ = some (.string tb) := rd_cell e1 rfl
  have c1d : W1.drew.cell? ⟨w.heap.size, 1, none⟩ = some (.string tb) := c1
  have c2 : W1.cell? ⟨w.heap.size, 2, none⟩ = some (.slice xa xn xc) := rd_cell e1 rfl
  have HB1 : Hid (Below B w W1) := hb1
  have HO1 : Hid (Lib.OthersKept 5 (some b) w W1) := (Lib.OthersKept.refl _ _ w).below (by rw [← hW1]; exact (Below.refl _ _).alloc (Nat.le_refl _) _)
  have hd1 : IntKind.i64.wrap ((d : Int) + 1) = (d : Int) + 1 := by rw [IntKind.wrap_i64]; omega
  rcases hk with hk | hk | hk
  · have hp := prA_1 hk
    rw [hp, ← htb] at hlen ⊢
    rw [tx_size] at hlen
    have cW := wr_text B b out tb W1.drew h1 (by omega) (Nat.le_trans hBw (Nat.le_of_lt hz1))
    rw [hk] at c0
    rw [hk]
    rw [hk] at hW1
    clear hk hp e1 hb1 h h1 cL hg htb hlen
    go_enter Tryd.func28, Tryd.ntmps28
    go_upto_region 5 with fail
    refine wp_region_any (by kernel_rfl) ?_
    change wpAny _ _ _ _ _ _ _ (World.drew _)
    refine wpAny_take (i := 0) (v := ?_) rfl (by kernel_rfl) (by kernel_rfl) (by kernel_rfl) (fun _ _ _ h => h) (Or.inl ⟨by rfl, ?_⟩) ?_
    rotate_left
    · intro w; go_simp; with_reducible rfl
    refine wpAny_take (i := 1) (v := ?_) rfl (by kernel_rfl) (by kernel_rfl) (by kernel_rfl) (fun _ _ _ h => h) (Or.inl ⟨by rfl, ?_⟩) ?_
    rotate_left
    · intro w; go_simp; with_reducible rfl
    refine wpAny_take (i := 2) (v := ?_) rfl (by kernel_rfl) (by kernel_rfl) (by kernel_rfl) (fun _ _ _ h => h) (Or.inl ⟨by rfl, ?_⟩) ?_
    rotate_left
    · intro w; go_simp; with_reducible rfl
    refine wpAny_take (i := 3) (v := ?_) rfl (by kernel_rfl) (by kernel_rfl) (by kernel_rfl) (fun _ _ _ h => h) (Or.inl ⟨by rfl, ?_⟩) ?_
    rotate_left
    · intro w; go_simp; with_reducible rfl
    refine wpAny_ready (rs := [4]) (by kernel_rfl) (by simp) ?_
    refine AllReady.cons rfl (fun K hK => ?_) AllReady.nil
    go_simp
    refine hK _ _ ?_
    refine wpAny_ready (rs := [5]) (by kernel_rfl) (by simp) ?_
    refine AllReady.cons rfl (fun K hK => ?_) AllReady.nil
    go_simp
    refine cW.mono ?_
    rintro e w2 ⟨rfl, h2, hb2, ho2⟩
    refine hK _ _ ?_
    refine wpAny_done (by kernel_rfl) ?_ _
    go_wp2_with fail
    go_end0
    exact ⟨rfl, h2, HB1.out.drew.trans (hb2.mono (Nat.le_refl _)), HO1.out.trans ho2⟩
  · have hp := prA_2 hk
    rw [hp, ← htb] at hlen ⊢
    obtain ⟨hn, mx, hm⟩ := hg W1.drew hb1.drew
    have cS := stringText_is tb mx W1.drew hz hm hn
    have cW : ∀ (t : ByteArray) W, t.data.toList = strW tb.data.toList → Below W1.drew.heap.size W1.drew W → Calls Tryd.prog 27 #[.pointer (some ⟨b, 0, none⟩), .string t] W fun e w' => e = .returned (.tuple #[.int .i64 t.size, .nilIface]) ∧ IsWr B b (out ++ strW tb.data.toList) w' ∧ Below B w w' ∧ Lib.OthersKept 5 (some b) w w' := fun t W ht hW => by
      rw [← ht] at hlen ⊢
      rw [tx_size] at hlen
      have hs1 : W1.drew.heap.size = W1.heap.size := rfl
      exact (wr_text B b out t W (isWr_below (show IsWr B b out W1.drew from h1) hW) (by omega) (by have := hW.size; omega)).mono fun e w' h => ⟨h.1, h.2.1, (HB1.out.drew.trans (hW.mono (by omega))).trans (h.2.2.1.mono (Nat.le_refl _)), (Lib.OthersKept.trans (show Lib.OthersKept 5 (some b) w W1.drew from HO1.out) ((Lib.OthersKept.refl _ _ _).below hW)).trans h.2.2.2⟩
    rw [hk] at c0
    rw [hk]
    rw [hk] at hW1
    clear hk hp e1 hb1 h h1 cL hg htb hlen hn hm
    go_enter Tryd.func28, Tryd.ntmps28
    go_upto_region 7 with fail
    refine wp_region_any (by kernel_rfl) ?_
    change wpAny _ _ _ _ _ _ _ (World.drew _)
    refine wpAny_take (i := 0) (v := ?_) rfl (by kernel_rfl) (by kernel_rfl) (by kernel_rfl) (fun _ _ _ h => h) (Or.inl ⟨by rfl, ?_⟩) ?_
    rotate_left
    · intro w; go_simp; with_reducible rfl
    refine wpAny_take (i := 1) (v := ?_) rfl (by kernel_rfl) (by kernel_rfl) (by kernel_rfl) (fun _ _ _ h => h) (Or.inl ⟨by rfl, ?_⟩) ?_
    rotate_left
    · intro w; go_simp; with_reducible rfl
    refine wpAny_take (i := 2) (v := ?_) rfl (by kernel_rfl) (by kernel_rfl) (by kernel_rfl) (fun _ _ _ h => h) (Or.inl ⟨by rfl, ?_⟩) ?_
    rotate_left
    · intro w; go_simp; with_reducible rfl
    refine wpAny_take (i := 3) (v := ?_) rfl (by kernel_rfl) (by kernel_rfl) (by kernel_rfl) (fun _ _ _ h => h) (Or.inl ⟨by rfl, ?_⟩) ?_
    rotate_left
    · intro w; go_simp; with_reducible rfl
    refine wpAny_ready (rs := [4]) (by kernel_rfl) (by simp) ?_
    refine AllReady.cons rfl (fun K hK => ?_) AllReady.nil
    go_simp
    refine hK _ _ ?_
    refine wpAny_ready (rs := [5]) (by kernel_rfl) (by simp) ?_
    refine AllReady.cons rfl (fun K hK => ?_) AllReady.nil
    go_simp
    refine cS.mono ?_
    rintro e w2 ⟨⟨t, rfl, ht⟩, hb2⟩
    refine hK _ _ ?_
    refine wpAny_ready (rs := [6]) (by kernel_rfl) (by simp) ?_
    refine AllReady.cons rfl (fun K hK => ?_) AllReady.nil
    go_simp
    refine (cW t w2 ht hb2).mono ?_
    rintro e w3 ⟨rfl, h3, hb3, ho3⟩
    refine hK _ _ ?_
    refine wpAny_done (by kernel_rfl) ?_ _
    go_wp2_with fail
    go_end0
    exact ⟨rfl, h3, hb3, ho3⟩
  · have hp := prA_3 hk
    have cQ := cL hk W1 h1 hb1
    rw [hp]
    rw [hk] at c0
    rw [hk]
    rw [hk] at hW1
    clear hk hp e1 hb1 h h1 cL hg htb hlen
    go_enter Tryd.func28, Tryd.ntmps28
    go_wp2_with fail
    refine cQ.mono ?_
    rintro e w2 ⟨rfl, h2, hb2, ho2⟩
    clear cQ
    go_wp2_with fail
    go_end0
    exact ⟨rfl, h2, HB1.out.trans (hb2.mono (Nat.le_refl _)), HO1.out.trans ho2⟩
end Go.Proofs.YtligkpcoajnjmaaDoor
