/-
  What the small methods of letterboxref.command do: ok, fails, see, gap, and which bytes may stand in a WORD.
-/
import Derived.Test.YtogigccbnohjjaaGreatDoorBpWireRd
import Derived.Deep.RegionHeld3
namespace Go.Proofs.YtogigccbnohjjaaGreatDoor
open Go.RowKit Go.Proofs.Aid Go.Proofs.Hd
set_option maxHeartbeats 2000000
set_option maxRecDepth 100000
def CdW (w : World) (cb : Nat) (s : ByteArray) (p c : Nat) (e q : Int) : Prop := w.heap[cb]? = some (.cells #[.string s, .int .i64 (p : Int), .int .i64 (c : Int), .int .i64 e, .int .i64 q] 82 (0, 0))
theorem CdW.kept {w w' : World} {cb p c : Nat} {s : ByteArray} {e q : Int} (h : CdW w cb s p c e q) (hb : w'.heap[cb]? = w.heap[cb]?) : CdW w' cb s p c e q := hb.trans h
theorem CdW.lt {w : World} {cb p c : Nat} {s : ByteArray} {e q : Int} (h : CdW w cb s p c e q) : cb < w.heap.size := (Array.getElem?_eq_some_iff.1 h).1
def FineAt (w : World) : Prop := w.cell? ⟨0, 0, none⟩ = some (.int .i64 0) ∧ w.cell? ⟨0, 1, none⟩ = some (.int .i64 (-1))
theorem FineAt.but {w W : World} {cb : Nat} (h : FineAt w) (hb : But w.heap.size cb w W) (hc : cb ≠ 0) : FineAt W :=
 ⟨(hb.cell (World.block_lt_of_cell? _ _ h.1) (Ne.symm hc)).trans h.1, (hb.cell (World.block_lt_of_cell? _ _ h.2) (Ne.symm hc)).trans h.2⟩
theorem FineAt.below {w W : World} {B : Nat} (h : FineAt w) (hb : Below B w W) (hB : w.heap.size ≤ B) : FineAt W :=
 ⟨(hb.cell (Nat.lt_of_lt_of_le (World.block_lt_of_cell? _ _ h.1) hB)).trans h.1, (hb.cell (Nat.lt_of_lt_of_le (World.block_lt_of_cell? _ _ h.2) hB)).trans h.2⟩
theorem rok_yes (cb p c : Nat) (s : ByteArray) (w : World) (hr : CdW w cb s p c 0 (-1)) (hf : FineAt w) :
  Calls Tryz.prog 32 #[.pointer (some ⟨cb, 0, none⟩)] w fun e w' => e = .returned (.bool true) ∧ Below w.heap.size w w' := by
 have p3 : w.cell? ⟨cb, 3, none⟩ = some (.int .i64 0) := rd_cell hr rfl
 have p4 : w.cell? ⟨cb, 4, none⟩ = some (.int .i64 (-1)) := rd_cell hr rfl
 obtain ⟨f0, f1⟩ := hf
 clear hr
 go_enter Tryz.func32, Tryz.ntmps32
 go_wp2_with fail
 go_region
 all_goals
  go_wp2_with fail
  go_ret
  exact ⟨rfl, (Below.refl _ _).drew⟩
theorem rok_no (cb p c : Nat) (E q : Int) (s : ByteArray) (w : World) (hr : CdW w cb s p c E q) (hE : E ≠ 0) (hf : FineAt w) :
  Calls Tryz.prog 32 #[.pointer (some ⟨cb, 0, none⟩)] w fun e w' => e = .returned (.bool false) ∧ Below w.heap.size w w' := by
 have p3 : w.cell? ⟨cb, 3, none⟩ = some (.int .i64 E) := rd_cell hr rfl
 have p4 : w.cell? ⟨cb, 4, none⟩ = some (.int .i64 q) := rd_cell hr rfl
 have hb : (E == 0) = false := by simpa using hE
 obtain ⟨f0, f1⟩ := hf
 clear hr
 go_enter Tryz.func32, Tryz.ntmps32
 go_wp2_with fail
 go_region
 all_goals
  go_wp2_with fail
  go_ret
  exact ⟨rfl, (Below.refl _ _).drew⟩
theorem rfail_yes (cb p c : Nat) (n : Int) (s : ByteArray) (w : World) (hr : CdW w cb s p c 0 (-1)) (hf : FineAt w) :
  Calls Tryz.prog 36 #[.pointer (some ⟨cb, 0, none⟩), .int .i64 n] w fun e w' => e = .returned (.tuple #[]) ∧ CdW w' cb s p c n (p : Int) ∧ But w.heap.size cb w w' := by
 have cO := rok_yes cb p c s w hr hf
 have HR : Hid (CdW w cb s p c 0 (-1)) := hr
 clear hr hf
 go_enter Tryz.func36, Tryz.ntmps36
 go_wp2_with fail
 refine cO.mono ?_
 rintro e w1 ⟨rfl, hb⟩
 have hr1 : CdW w1 cb s p c 0 (-1) := HR.out.kept (hb.block cb HR.out.lt)
 have p1 : w1.cell? ⟨cb, 1, none⟩ = some (.int .i64 (p : Int)) := rd_cell hr1 rfl
 have p3 : w1.cell? ⟨cb, 3, none⟩ = some (.int .i64 0) := rd_cell hr1 rfl
 have p4 : w1.cell? ⟨cb, 4, none⟩ = some (.int .i64 (-1)) := rd_cell hr1 rfl
 have f3 : w1.frozen? ⟨cb, 3, none⟩ = false := rd_free hr1 3
 have f4 : w1.frozen? ⟨cb, 4, none⟩ = false := rd_free hr1 4
 have h3 := rd_set (i := 3) (.int .i64 n) hr1
 have h4 := rd_set (i := 4) (.int .i64 (p : Int)) h3
 have HD : Hid (CdW ((w1.setCell ⟨cb, 3, none⟩ (.int .i64 n)).setCell ⟨cb, 4, none⟩ (.int .i64 (p : Int))) cb s p c n (p : Int) ∧ But w.heap.size cb w ((w1.setCell ⟨cb, 3, none⟩ (.int .i64 n)).setCell ⟨cb, 4, none⟩ (.int .i64 (p : Int)))) := ⟨h4, ((to_but hb).setB 3 _).setB 4 _⟩
 clear cO hb hr1 h3 h4
 go_wp2_with fail
 go_end0
 exact ⟨rfl, HD.out⟩
theorem rfail_no (cb p c : Nat) (n E q : Int) (s : ByteArray) (w : World) (hr : CdW w cb s p c E q) (hE : E ≠ 0) (hf : FineAt w) :
  Calls Tryz.prog 36 #[.pointer (some ⟨cb, 0, none⟩), .int .i64 n] w fun e w' => e = .returned (.tuple #[]) ∧ Below w.heap.size w w' := by
 have cO := rok_no cb p c E q s w hr hE hf
 clear hr hf
 go_enter Tryz.func36, Tryz.ntmps36
 go_wp2_with fail
 refine cO.mono ?_
 rintro e w1 ⟨rfl, hb⟩
 have HD : Hid (Below w.heap.size w w1) := hb
 clear cO hb
 go_wp2_with fail
 go_end0
 exact ⟨rfl, HD.out⟩
theorem rsee_yes (cb p c : Nat) (b : UInt8) (s : ByteArray) (w : World) (hr : CdW w cb s p c 0 (-1)) (hf : FineAt w) (hs : s.size ≤ 1000000) (h : seeW s.data.toList p = some b) :
  Calls Tryz.prog 53 #[.pointer (some ⟨cb, 0, none⟩)] w fun e w' => e = .returned (.tuple #[.int .u8 (b.toNat : Int), .bool true]) ∧ Below w.heap.size w w' := by
 obtain ⟨hlt, hb⟩ := see_some h
 rw [wsize] at hlt
 have HR : Hid (CdW w cb s p c 0 (-1) ∧ FineAt w) := ⟨hr, hf⟩
 have cO : ∀ W, Below w.heap.size w W → Calls Tryz.prog 32 #[.pointer (some ⟨cb, 0, none⟩)] W fun e w' => e = .returned (.bool true) ∧ Below w.heap.size w w' := fun W hW =>
  (rok_yes cb p c s W (HR.out.1.kept (hW.block cb HR.out.1.lt)) (HR.out.2.below hW (Nat.le_refl _))).mono fun e w' h => ⟨h.1, hW.trans (h.2.mono hW.size)⟩
 have hlt2 : p < s.size := by omega
 have hsb : (s[p]'hlt2) = b := by
  rw [List.getElem?_eq_getElem (by rw [wsize]; exact hlt2)] at hb
  injection hb with hb
 obtain ⟨Z, hZ⟩ : ∃ Z : Nat, Z = s.size - 2 := ⟨_, rfl⟩
 have hwr : IntKind.i64.wrap ((s.size : Int) - 2) = (Z : Int) := by rw [IntKind.wrap_i64]; omega
 have d1 : decide (Z ≤ p) = false := decide_eq_false (by omega)
 have K : Hid (∀ W, Below w.heap.size w W → W.cell? ⟨cb, 0, none⟩ = some (.string s) ∧ W.cell? ⟨cb, 1, none⟩ = some (.int .i64 (p : Int))) := fun W hW => ⟨(hW.cell HR.out.1.lt).trans (rd_cell HR.out.1 rfl), (hW.cell HR.out.1.lt).trans (rd_cell HR.out.1 rfl)⟩
 clear hr hf h hb
 go_enter Tryz.func53, Tryz.ntmps53
 go_wp2_with fail
 first
  | (go_region_held3 (fun W => W.cell? ⟨cb, 0, none⟩ = some (.string s) ∧ W.cell? ⟨cb, 1, none⟩ = some (.int .i64 (p : Int)))
    ((refine K.out _ ?_; (repeat (first | (with_reducible assumption) | (with_reducible refine Below.drew ?_) | (with_reducible exact Below.refl _ _)))))
    (first | (go_at_call 32; with_reducible refine (cO _ ?_).mono ?_; (focus (repeat (first | (with_reducible assumption) | (with_reducible refine Below.drew ?_) | (with_reducible exact Below.refl _ _)))); rintro e wA ⟨rfl, kA⟩)))
  | fail
 all_goals
  obtain ⟨k0, k1⟩ := K.out _ kA
  go_wp2_with fail
  go_region
 all_goals
  go_wp2_with fail
  go_ret2
  exact ⟨by rw [← hsb]; rfl, kA.drew⟩
theorem rsee_end (cb p c : Nat) (s : ByteArray) (w : World) (hr : CdW w cb s p c 0 (-1)) (hf : FineAt w) (hs : s.size ≤ 1000000) (h2 : 2 ≤ s.size) (h : seeW s.data.toList p = none) :
  Calls Tryz.prog 53 #[.pointer (some ⟨cb, 0, none⟩)] w fun e w' => e = .returned (.tuple #[.int .u8 0, .bool false]) ∧ Below w.heap.size w w' := by
 have hlt := see_none h
 rw [wsize] at hlt
 have HR : Hid (CdW w cb s p c 0 (-1) ∧ FineAt w) := ⟨hr, hf⟩
 have cO : ∀ W, Below w.heap.size w W → Calls Tryz.prog 32 #[.pointer (some ⟨cb, 0, none⟩)] W fun e w' => e = .returned (.bool true) ∧ Below w.heap.size w w' := fun W hW =>
  (rok_yes cb p c s W (HR.out.1.kept (hW.block cb HR.out.1.lt)) (HR.out.2.below hW (Nat.le_refl _))).mono fun e w' h => ⟨h.1, hW.trans (h.2.mono hW.size)⟩
 obtain ⟨Z, hZ⟩ : ∃ Z : Nat, Z = s.size - 2 := ⟨_, rfl⟩
 have hwr : IntKind.i64.wrap ((s.size : Int) - 2) = (Z : Int) := by rw [IntKind.wrap_i64]; omega
 have d1 : decide (Z ≤ p) = true := decide_eq_true (by omega)
 have K : Hid (∀ W, Below w.heap.size w W → W.cell? ⟨cb, 0, none⟩ = some (.string s) ∧ W.cell? ⟨cb, 1, none⟩ = some (.int .i64 (p : Int))) := fun W hW => ⟨(hW.cell HR.out.1.lt).trans (rd_cell HR.out.1 rfl), (hW.cell HR.out.1.lt).trans (rd_cell HR.out.1 rfl)⟩
 clear hr hf h
 go_enter Tryz.func53, Tryz.ntmps53
 go_wp2_with fail
 first
  | (go_region_held3 (fun W => W.cell? ⟨cb, 0, none⟩ = some (.string s) ∧ W.cell? ⟨cb, 1, none⟩ = some (.int .i64 (p : Int)))
    ((refine K.out _ ?_; (repeat (first | (with_reducible assumption) | (with_reducible refine Below.drew ?_) | (with_reducible exact Below.refl _ _)))))
    (first | (go_at_call 32; with_reducible refine (cO _ ?_).mono ?_; (focus (repeat (first | (with_reducible assumption) | (with_reducible refine Below.drew ?_) | (with_reducible exact Below.refl _ _)))); rintro e wA ⟨rfl, kA⟩)))
  | fail
 all_goals
  go_wp2_with fail
  go_ret2
  exact ⟨rfl, kA⟩
theorem rsee_bad (cb p c : Nat) (E q : Int) (s : ByteArray) (w : World) (hr : CdW w cb s p c E q) (hE : E ≠ 0) (hf : FineAt w) :
  Calls Tryz.prog 53 #[.pointer (some ⟨cb, 0, none⟩)] w fun e w' => e = .returned (.tuple #[.int .u8 0, .bool false]) ∧ Below w.heap.size w w' := by
 have HR : Hid (CdW w cb s p c E q ∧ FineAt w) := ⟨hr, hf⟩
 have cO : ∀ W, Below w.heap.size w W → Calls Tryz.prog 32 #[.pointer (some ⟨cb, 0, none⟩)] W fun e w' => e = .returned (.bool false) ∧ Below w.heap.size w w' := fun W hW =>
  (rok_no cb p c E q s W (HR.out.1.kept (hW.block cb HR.out.1.lt)) hE (HR.out.2.below hW (Nat.le_refl _))).mono fun e w' h => ⟨h.1, hW.trans (h.2.mono hW.size)⟩
 clear hr hf
 go_enter Tryz.func53, Tryz.ntmps53
 go_wp2_with fail
 refine wp_region_any (by kernel_rfl) ?_
 change wpAny _ _ _ _ _ _ _ (World.drew _)
 refine wpAny_take (i := 0) (v := ?_) rfl (by kernel_rfl) (by kernel_rfl) (by kernel_rfl) (fun _ _ _ h => h) (Or.inl ⟨by rfl, ?_⟩) ?_
 rotate_left
 ·intro w; go_simp; with_reducible rfl
 change wpAny _ _ _ _ _ _ (Act.put _ (some 4) _) _; simp only [Act.put, List.setIfInBounds_toArray, List.set_cons_zero, List.set_cons_succ]
 refine wpAny_ready (rs := [1]) (by kernel_rfl) (by simp) ?_
 refine AllReady.cons rfl (fun K hK => ?_) AllReady.nil
 go_simp
 refine (cO _ (Below.refl _ _).drew).mono ?_
 rintro e wA ⟨rfl, kA⟩
 refine hK _ _ ?_
 clear hK K
 refine wpAny_take (i := 2) (v := ?_) rfl (by kernel_rfl) (by kernel_rfl) (by kernel_rfl) (fun _ _ _ h => h) (Or.inl ⟨by rfl, ?_⟩) ?_
 rotate_left
 ·intro w; go_simp; with_reducible rfl
 change wpAny _ _ _ _ _ _ (Act.put _ (some 6) _) _; simp only [Act.put, List.setIfInBounds_toArray, List.set_cons_zero, List.set_cons_succ]
 refine wpAny_take (i := 3) (v := ?_) rfl (by kernel_rfl) (by kernel_rfl) (by kernel_rfl) (fun _ _ _ h => h) (Or.inl ⟨by rfl, ?_⟩) ?_
 rotate_left
 ·intro w; go_simp; with_reducible rfl
 change wpAny _ _ _ _ _ _ (Act.put _ (some 7) _) _; simp only [Act.put, List.setIfInBounds_toArray, List.set_cons_zero, List.set_cons_succ]
 refine wpAny_take (i := 4) (v := undef) rfl (by kernel_rfl) (by kernel_rfl) (by kernel_rfl) (fun _ _ _ h => h) (Or.inr ⟨by rfl, rfl⟩) ?_
 change wpAny _ _ _ _ _ _ (Act.put _ (some 8) _) _; simp only [Act.put, List.setIfInBounds_toArray, List.set_cons_zero, List.set_cons_succ]
 refine wpAny_take (i := 5) (v := undef) rfl (by kernel_rfl) (by kernel_rfl) (by kernel_rfl) (fun _ _ _ h => h) (Or.inr ⟨by rfl, rfl⟩) ?_
 change wpAny _ _ _ _ _ _ (Act.put _ (some 9) _) _; simp only [Act.put, List.setIfInBounds_toArray, List.set_cons_zero, List.set_cons_succ]
 refine wpAny_take (i := 6) (v := undef) rfl (by kernel_rfl) (by kernel_rfl) (by kernel_rfl) (fun _ _ _ h => h) (Or.inr ⟨by rfl, rfl⟩) ?_
 change wpAny _ _ _ _ _ _ (Act.put _ (some 10) _) _; simp only [Act.put, List.setIfInBounds_toArray, List.set_cons_zero, List.set_cons_succ]
 refine wpAny_take (i := 7) (v := undef) rfl (by kernel_rfl) (by kernel_rfl) (by kernel_rfl) (fun _ _ _ h => h) (Or.inr ⟨by rfl, rfl⟩) ?_
 change wpAny _ _ _ _ _ _ (Act.put _ (some 11) _) _; simp only [Act.put, List.setIfInBounds_toArray, List.set_cons_zero, List.set_cons_succ]
 refine wpAny_take (i := 8) (v := undef) rfl (by kernel_rfl) (by kernel_rfl) (by kernel_rfl) (fun _ _ _ h => h) (Or.inr ⟨by rfl, rfl⟩) ?_
 change wpAny _ _ _ _ _ _ (Act.put _ (some 12) _) _; simp only [Act.put, List.setIfInBounds_toArray, List.set_cons_zero, List.set_cons_succ]
 refine wpAny_take (i := 9) (v := undef) rfl (by kernel_rfl) (by kernel_rfl) (by kernel_rfl) (fun _ _ _ h => h) (Or.inr ⟨by rfl, rfl⟩) ?_
 change wpAny _ _ _ _ _ _ (Act.put _ (some 13) _) _; simp only [Act.put, List.setIfInBounds_toArray, List.set_cons_zero, List.set_cons_succ]
 refine wpAny_take (i := 10) (v := undef) rfl (by kernel_rfl) (by kernel_rfl) (by kernel_rfl) (fun _ _ _ h => h) (Or.inr ⟨by rfl, rfl⟩) ?_
 change wpAny _ _ _ _ _ _ (Act.put _ (some 14) _) _; simp only [Act.put, List.setIfInBounds_toArray, List.set_cons_zero, List.set_cons_succ]
 refine wpAny_take (i := 11) (v := undef) rfl (by kernel_rfl) (by kernel_rfl) (by kernel_rfl) (fun _ _ _ h => h) (Or.inr ⟨by rfl, rfl⟩) ?_
 change wpAny _ _ _ _ _ _ (Act.put _ (some 15) _) _; simp only [Act.put, List.setIfInBounds_toArray, List.set_cons_zero, List.set_cons_succ]
 refine wpAny_take (i := 12) (v := undef) rfl (by kernel_rfl) (by kernel_rfl) (by kernel_rfl) (fun _ _ _ h => h) (Or.inr ⟨by rfl, rfl⟩) ?_
 change wpAny _ _ _ _ _ _ (Act.put _ (some 16) _) _; simp only [Act.put, List.setIfInBounds_toArray, List.set_cons_zero, List.set_cons_succ]
 refine wpAny_take (i := 13) (v := undef) rfl (by kernel_rfl) (by kernel_rfl) (by kernel_rfl) (fun _ _ _ h => h) (Or.inr ⟨by rfl, rfl⟩) ?_
 change wpAny _ _ _ _ _ _ (Act.put _ (some 17) _) _; simp only [Act.put, List.setIfInBounds_toArray, List.set_cons_zero, List.set_cons_succ]
 refine wpAny_take (i := 14) (v := undef) rfl (by kernel_rfl) (by kernel_rfl) (by kernel_rfl) (fun _ _ _ h => h) (Or.inr ⟨by rfl, rfl⟩) ?_
 change wpAny _ _ _ _ _ _ (Act.put _ (some 18) _) _; simp only [Act.put, List.setIfInBounds_toArray, List.set_cons_zero, List.set_cons_succ]
 refine wpAny_take (i := 15) (v := ?_) rfl (by kernel_rfl) (by kernel_rfl) (by kernel_rfl) (fun _ _ _ h => h) (Or.inl ⟨by rfl, ?_⟩) ?_
 rotate_left
 ·intro w; go_simp; with_reducible rfl
 change wpAny _ _ _ _ _ _ (Act.put _ (some 19) _) _; simp only [Act.put, List.setIfInBounds_toArray, List.set_cons_zero, List.set_cons_succ]
 refine wpAny_done (by kernel_rfl) ?_ _
 go_wp2_with fail
 go_ret2
 exact ⟨rfl, kA⟩
theorem rgap_yes (cb p c : Nat) (s : ByteArray) (w : World) (hr : CdW w cb s p c 0 (-1)) (hf : FineAt w) (hs : s.size ≤ 1000000) (h : seeW s.data.toList p = some 32) :
  Calls Tryz.prog 33 #[.pointer (some ⟨cb, 0, none⟩)] w fun e w' => e = .returned (.tuple #[]) ∧ CdW w' cb s (p + 1) c 0 (-1) ∧ But w.heap.size cb w w' := by
 have cS := rsee_yes cb p c 32 s w hr hf hs h
 rw [show ((32 : UInt8).toNat : Int) = 32 from rfl] at cS
 have hlt := (see_some h).1
 rw [wsize] at hlt
 have HR : Hid (CdW w cb s p c 0 (-1)) := hr
 clear hr hf h
 go_enter Tryz.func33, Tryz.ntmps33
 go_wp2_with fail
 refine cS.mono ?_
 rintro e w1 ⟨rfl, hb⟩
 have hr1 : CdW w1 cb s p c 0 (-1) := HR.out.kept (hb.block cb HR.out.lt)
 have p1 : w1.cell? ⟨cb, 1, none⟩ = some (.int .i64 (p : Int)) := rd_cell hr1 rfl
 have f1 : w1.frozen? ⟨cb, 1, none⟩ = false := rd_free hr1 1
 have hset : CdW (w1.setCell ⟨cb, 1, none⟩ (.int .i64 ((p : Int) + 1))) cb s (p + 1) c 0 (-1) := rd_set (i := 1) (.int .i64 ((p : Int) + 1)) hr1
 have HD : Hid (CdW (w1.setCell ⟨cb, 1, none⟩ (.int .i64 ((p : Int) + 1))) cb s (p + 1) c 0 (-1) ∧ But w.heap.size cb w (w1.setCell ⟨cb, 1, none⟩ (.int .i64 ((p : Int) + 1)))) := ⟨hset, (to_but hb).setB 1 _⟩
 clear cS hb hr1 hset
 go_wp2_with fail
 go_end0
 exact ⟨rfl, HD.out⟩
theorem rgap_no (cb p c : Nat) (s : ByteArray) (w : World) (hr : CdW w cb s p c 0 (-1)) (hf : FineAt w) (hs : s.size ≤ 1000000) (h2 : 2 ≤ s.size) (h : seeW s.data.toList p ≠ some 32) :
  Calls Tryz.prog 33 #[.pointer (some ⟨cb, 0, none⟩)] w fun e w' => e = .returned (.tuple #[]) ∧ CdW w' cb s p c 3 (p : Int) ∧ But w.heap.size cb w w' := by
 have HR : Hid (CdW w cb s p c 0 (-1) ∧ FineAt w) := ⟨hr, hf⟩
 cases hq : seeW s.data.toList p with
 | none =>
  have cS := rsee_end cb p c s w hr hf hs h2 hq
  clear hr hf h hq
  go_enter Tryz.func33, Tryz.ntmps33
  go_wp2_with fail
  refine cS.mono ?_
  rintro e w1 ⟨rfl, hb⟩
  have cF := rfail_yes cb p c 3 s w1 (HR.out.1.kept (hb.block cb HR.out.1.lt)) (HR.out.2.below hb (Nat.le_refl _))
  have HB : Hid (Below w.heap.size w w1) := hb
  clear cS hb
  go_wp2_with fail
  refine cF.mono ?_
  rintro e w2 ⟨rfl, hr2, hb2⟩
  have HD : Hid (CdW w2 cb s p c 3 (p : Int) ∧ But w.heap.size cb w w2) := ⟨hr2, (to_but HB.out).trans (hb2.less HB.out.size)⟩
  clear cF hr2 hb2
  go_wp2_with fail
  (try simp only [Exit.inBlock, Exit.then]); refine bodyPost_ret (results_none rfl _ _ _) rfl ?_
  exact ⟨rfl, HD.out⟩
 | some b =>
  have cS := rsee_yes cb p c b s w hr hf hs hq
  have hb32 : b ≠ 32 := fun e => h (by rw [hq, e])
  have d1 : ((b.toNat : Int) != 32) = true := by
   rw [bne_iff_ne]
   intro e
   exact hb32 (UInt8.toNat_inj.1 (by show b.toNat = 32; omega))
  clear hr hf h hq
  go_enter Tryz.func33, Tryz.ntmps33
  go_wp2_with fail
  refine cS.mono ?_
  rintro e w1 ⟨rfl, hb⟩
  have cF := rfail_yes cb p c 3 s w1 (HR.out.1.kept (hb.block cb HR.out.1.lt)) (HR.out.2.below hb (Nat.le_refl _))
  have HB : Hid (Below w.heap.size w w1) := hb
  clear cS hb
  go_wp2_with fail
  refine cF.mono ?_
  rintro e w2 ⟨rfl, hr2, hb2⟩
  have HD : Hid (CdW w2 cb s p c 3 (p : Int) ∧ But w.heap.size cb w w2) := ⟨hr2, (to_but HB.out).trans (hb2.less HB.out.size)⟩
  clear cF hr2 hb2
  go_wp2_with fail
  (try simp only [Exit.inBlock, Exit.then]); refine bodyPost_ret (results_none rfl _ _ _) rfl ?_
  exact ⟨rfl, HD.out⟩
theorem rwordy_is (c : UInt8) (w : World) :
  Calls Tryz.prog 54 #[.int .u8 (c.toNat : Int)] w fun e w' => e = .returned (.bool (wordy c)) ∧ w' = w := by
 have h256 := c.toNat_lt
 have cI := ref_in (c.toNat : Int) 33 126 w
 have hw := wordy_iff c
 have hwr : wrap64 (c.toNat : Int) = (c.toNat : Int) := by unfold wrap64; omega
 by_cases h0 : 33 ≤ c.toNat ∧ c.toNat ≤ 126
 ·rw [decide_eq_true (by omega)] at cI
  by_cases h1 : c.toNat = 40 ∨ c.toNat = 41 ∨ c.toNat = 123 ∨ c.toNat = 34
  ·have hf : wordy c = false := by rw [hw]; rcases h1 with h | h | h | h <;> simp [h]
   rw [hf]
   clear hw hf
   rcases h1 with h | h | h | h
   all_goals
    rw [h] at cI hwr ⊢
    clear h0 h256 h
    go_enter Tryz.func54, Tryz.ntmps54
    go_wp2_with fail
    refine cI.mono ?_
    rintro e w1 ⟨rfl, hw⟩
    obtain rfl : w = w1 := hw.symm
    go_wp2_with fail
    go_ret
    exact ⟨rfl, rfl⟩
  ·have hf : wordy c = true := by rw [hw]; simp; omega
   rw [hf]
   have q3 : ((c.toNat : Int) != 40) = true := by simp; omega
   have q4 : ((c.toNat : Int) != 41) = true := by simp; omega
   have q5 : ((c.toNat : Int) != 123) = true := by simp; omega
   have q6 : ((c.toNat : Int) != 34) = true := by simp; omega
   clear hw hf h1
   go_enter Tryz.func54, Tryz.ntmps54
   go_wp2_with fail
   refine cI.mono ?_
   rintro e w1 ⟨rfl, hw⟩
   obtain rfl : w = w1 := hw.symm
   go_wp2_with fail
   go_ret
   exact ⟨rfl, rfl⟩
 ·rw [decide_eq_false (by omega)] at cI
  have hf : wordy c = false := by rw [hw]; simp; omega
  rw [hf]
  clear hw hf
  go_enter Tryz.func54, Tryz.ntmps54
  go_wp2_with fail
  refine cI.mono ?_
  rintro e w1 ⟨rfl, hw⟩
  obtain rfl : w = w1 := hw.symm
  go_wp2_with fail
  go_ret
  exact ⟨rfl, rfl⟩
end Go.Proofs.YtogigccbnohjjaaGreatDoor
