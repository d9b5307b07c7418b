/-
  One deed at a box: post.
-/
import Derived.Test.YtkneeoaeoiaefaaDoorPostMem
import Derived.Deep.RegionHeld3
namespace Go.Proofs.YtkneeoaeoiaefaaDoor
open Go.RowKit Go.Proofs.Aid Go.Proofs.Bx

theorem set_out (fv : Value) (F : List Fl.Tx) (w : World) (h : Sl w fv F) (hl : F.length ≤ 40) (hs : ∀ t ∈ F, t.length ≤ 100) (hg : SysAt w) : Calls Tryd.prog 29 #[fv] w fun e w' => SetOut w (Fl.setOf F) e w' :=
  set_any fv F w h (by omega) (fun t ht => by have := hs t ht; omega) hg
def saidB (N u : Int) : Bool := decide (N.tmod 3 = 0) || decide (u.tmod 2 = 0)
set_option maxHeartbeats 1000000 in
theorem said_is (PB : Nat) (N u : Int) (w : World) (h : w.cell? ⟨PB, 2, none⟩ = some (.int .i64 N)) : Calls Tryd.prog 20 #[.int .i64 u, .pointer (some ⟨PB, 0, none⟩)] w fun e w' => e = .returned (.bool (saidB N u)) ∧ Below w.heap.size w w' := by
  unfold saidB
  by_cases h1 : N.tmod 3 = 0
  · have d1 : (N.tmod 3 == 0) = true := by simpa using h1
    rw [decide_eq_true h1]
    go_enter Tryd.func20, Tryd.ntmps20
    go_wp2_with fail
    go_ret
    exact ⟨rfl, Below.refl _ _⟩
  · have d1 : (N.tmod 3 == 0) = false := by simpa using h1
    rw [decide_eq_false h1]
    by_cases h2 : u.tmod 2 = 0
    · have d2 : (u.tmod 2 == 0) = true := by simpa using h2
      rw [decide_eq_true h2]
      go_enter Tryd.func20, Tryd.ntmps20
      go_wp2_with fail
      go_ret
      exact ⟨rfl, Below.refl _ _⟩
    · have d2 : (u.tmod 2 == 0) = false := by simpa using h2
      rw [decide_eq_false h2]
      go_enter Tryd.func20, Tryd.ntmps20
      go_wp2_with fail
      go_ret
      exact ⟨rfl, Below.refl _ _⟩
/-- What a deed leaves. -/
def PostOut (w : World) (bb : Nat) (n : Int) (l : List Lt) (what : Int) (e : Ending) (w' : World) : Prop :=
  ∃ (ev : Value) (n' : Int) (l' : List Lt), e = .returned ev ∧ ((ev = .nilIface ∧ (what = 0 → n' = n + 1)) ∨ ((∃ E : Int, ev = .iface 73 (.int .i64 E)) ∧ n' = n ∧ l' = l)) ∧ BStep n l n' l' ∧ BoxAt w' bb 1 n' l' ∧ But w.heap.size bb w w'
theorem appE_zero {E n : Int} {k z : Nat} {day : Int} (h : appE E n k day z = 0) : E = 0 := by
  unfold appE at h
  split at h
  · simp at h
  · split at h
    · next h1 => exact absurd h h1
    · next h1 => simpa using h1
set_option maxHeartbeats 4000000 in
set_option maxRecDepth 100000 in
theorem post_is (bb : Nat) (n : Int) (l : List Lt) (x : Ps) (fv : Value) (w : World) (h : BoxAt w bb 1 n l) (hI : BInv n l) (hl : l.length ≤ 900) (hn : n ≤ 4000000) (hs : Sl w fv x.flags) (hsh : shortP x = true) (hg : SysAt w) :
    Calls Tryd.prog 8 #[.pointer (some ⟨bb, 0, none⟩), .agg #[.int .i64 x.what, .int .i64 x.uid, .int .i64 x.n, fv, .string x.text]] w fun e w' => PostOut w bb n l x.what e w' := by
  have hsh' : (x.flags.length ≤ 40 ∧ ∀ t ∈ x.flags, t.length ≤ 100) ∧ x.text.size ≤ 300 := by
    unfold shortP at hsh
    simpa using hsh
  have hfl : ∀ y ∈ l, y.flags.length ≤ 400 := fun y hy => by have := (hI.ok y hy).1.2.2; omega
  obtain ⟨fa, fc, rfl, _⟩ := id hs
  obtain ⟨FL, hFL⟩ : ∃ k, x.flags.length = k := ⟨_, rfl⟩
  rw [hFL] at hs ⊢
  obtain ⟨WH, hWH⟩ : ∃ z, x.what = z := ⟨_, rfl⟩
  obtain ⟨UI, hUI⟩ : ∃ z, x.uid = z := ⟨_, rfl⟩
  obtain ⟨NN, hNN⟩ : ∃ z, x.n = z := ⟨_, rfl⟩
  obtain ⟨TX, hTX⟩ : ∃ z, x.text = z := ⟨_, rfl⟩
  rw [hWH, hUI, hNN, hTX]
  rw [hTX] at hsh'
  have b1 : Below w.heap.size w (w.alloc (.cells #[.int .i64 WH, .int .i64 UI, .int .i64 NN, .slice fa FL fc, .string TX] 36)) := (Below.refl _ _).alloc (Nat.le_refl _) _
  have e1 := heap_alloc_new w (.cells #[.int .i64 WH, .int .i64 UI, .int .i64 NN, .slice fa FL fc, .string TX] 36)
  have z1 : (w.alloc (.cells #[.int .i64 WH, .int .i64 UI, .int .i64 NN, .slice fa FL fc, .string TX] 36)).heap.size = w.heap.size + 1 := by simp
  have hbl := h.lt
  have hgl := hg.lt
  go_enter Tryd.func8, Tryd.ntmps8
  go_upto_region 1 with fail
  obtain ⟨w1, hw1⟩ : ∃ W, w.alloc (.cells #[.int .i64 WH, .int .i64 UI, .int .i64 NN, .slice fa FL fc, .string TX] 36) = W := ⟨_, rfl⟩
  rw [hw1] at b1 e1 z1 ⊢
  obtain ⟨PB, hPB⟩ : ∃ B, w.heap.size = B := ⟨_, rfl⟩
  rw [hPB] at b1 e1 z1 hbl hgl ⊢
  have HS : Hid (BoxAt w1 bb 1 n l ∧ Sl w1 (.slice fa FL fc) x.flags ∧ SysAt w1 ∧ Below PB w w1 ∧ w.heap.size = PB ∧ w1.heap.size = PB + 1) := ⟨h.below b1 (by omega), hs.below b1 (by omega), hg.below b1 hgl, b1, hPB, z1⟩
  have p0 : w1.cell? ⟨PB, 0, none⟩ = some (.int .i64 WH) := rd_cell e1 rfl
  have p1 : w1.cell? ⟨PB, 1, none⟩ = some (.int .i64 UI) := rd_cell e1 rfl
  have p2 : w1.cell? ⟨PB, 2, none⟩ = some (.int .i64 NN) := rd_cell e1 rfl
  have p3 : w1.cell? ⟨PB, 3, none⟩ = some (.slice fa FL fc) := rd_cell e1 rfl
  have p4 : w1.cell? ⟨PB, 4, none⟩ = some (.string TX) := rd_cell e1 rfl
  have HIN : Hid (BInv n l ∧ l.length ≤ 900 ∧ n ≤ 4000000 ∧ (∀ y ∈ l, y.flags.length ≤ 400) ∧ ((x.flags.length ≤ 40 ∧ ∀ t ∈ x.flags, t.length ≤ 100) ∧ TX.size ≤ 300)) := ⟨hI, hl, hn, hfl, hsh'⟩
  have HBW : Hid (∀ (W : World), But w1.heap.size bb w1 W → But w.heap.size bb w W) := fun W hb => by
    have hz := HS.out.2.2.2.2
    exact (to_but (by rw [hz.1]; exact b1)).trans (hb.less (by omega))
  clear h hs hg hI hl hn hfl hsh hsh' e1 b1 hw1 hFL hWH hUI hNN hTX z1
  by_cases h0 : WH = 0
  · subst h0
    obtain ⟨F, hF⟩ : ∃ F, Fl.setOf x.flags = F := ⟨_, rfl⟩
    have cP := pick_n NN 100 (by decide) (by decide) w1.drew
    go_upto_region 3 with fail
    refine wp_region_held_drew (S := fun W => W.cell? ⟨PB, 2, none⟩ = some (.int .i64 NN) ∧ W.cell? ⟨PB, 3, none⟩ = some (.slice fa FL fc) ∧ W.cell? ⟨PB, 4, none⟩ = some (.string TX)) (by kernel_rfl) ?_ (fun hHeld => ?_)
    · first | exact ⟨by simpa using p2, by simpa using p3, by simpa using p4⟩ | exact ⟨(World.cell?_of_block (a := ⟨PB, _, none⟩) hblk).trans (by simpa using p2), (World.cell?_of_block (a := ⟨PB, _, none⟩) hblk).trans (by simpa using p3), (World.cell?_of_block (a := ⟨PB, _, none⟩) hblk).trans (by simpa using p4)⟩
    refine wpAnyH_take (i := 0) (v := ?_) rfl (by kernel_rfl) (by kernel_rfl) (by kernel_rfl) (fun _ _ _ h => h) (Or.inl ⟨by rfl, ?_⟩) (by assumption) ?_
    rotate_left
    · intro w hSw; go_simp; (try with_reducible rfl)
    change wpAnyH _ _ _ _ _ _ _ (Act.put _ (some 12) _) _; simp only [Act.put, List.setIfInBounds_toArray, List.set_cons_zero, List.set_cons_succ]
    refine wpAnyH_take (i := 1) (v := ?_) rfl (by kernel_rfl) (by kernel_rfl) (by kernel_rfl) (fun _ _ _ h => h) (Or.inl ⟨by rfl, ?_⟩) (by assumption) ?_
    rotate_left
    · intro w hSw; go_simp; (try with_reducible rfl)
    change wpAnyH _ _ _ _ _ _ _ (Act.put _ (some 13) _) _; simp only [Act.put, List.setIfInBounds_toArray, List.set_cons_zero, List.set_cons_succ]
    refine wpAnyH_take (i := 2) (v := ?_) rfl (by kernel_rfl) (by kernel_rfl) (by kernel_rfl) (fun _ _ _ h => h) (Or.inl ⟨by rfl, ?_⟩) (by assumption) ?_
    rotate_left
    · intro w hSw; go_simp; (try with_reducible rfl)
    change wpAnyH _ _ _ _ _ _ _ (Act.put _ (some 14) _) _; simp only [Act.put, List.setIfInBounds_toArray, List.set_cons_zero, List.set_cons_succ]
    refine wpAnyH_take (i := 3) (v := ?_) rfl (by kernel_rfl) (by kernel_rfl) (by kernel_rfl) (fun _ _ _ h => h) (Or.inl ⟨by rfl, ?_⟩) (by assumption) ?_
    rotate_left
    · intro w hSw; go_simp; (try with_reducible rfl)
    change wpAnyH _ _ _ _ _ _ _ (Act.put _ (some 15) _) _; simp only [Act.put, List.setIfInBounds_toArray, List.set_cons_zero, List.set_cons_succ]
    refine wpAnyH_take (i := 4) (v := ?_) rfl (by kernel_rfl) (by kernel_rfl) (by kernel_rfl) (fun _ _ _ h => h) (Or.inl ⟨by rfl, ?_⟩) (by assumption) ?_
    rotate_left
    · intro w hSw; go_simp; (try with_reducible rfl)
    change wpAnyH _ _ _ _ _ _ _ (Act.put _ (some 16) _) _; simp only [Act.put, List.setIfInBounds_toArray, List.set_cons_zero, List.set_cons_succ]
    refine wpAnyH_take (i := 6) (v := ?_) rfl (by kernel_rfl) (by kernel_rfl) (by kernel_rfl) (fun _ _ _ h => h) (Or.inl ⟨by rfl, ?_⟩) (by assumption) ?_
    rotate_left
    · intro w hSw; go_simp; (try with_reducible rfl)
    change wpAnyH _ _ _ _ _ _ _ (Act.put _ (some 18) _) _; simp only [Act.put, List.setIfInBounds_toArray, List.set_cons_zero, List.set_cons_succ]
    refine wpAnyH_take (i := 7) (v := ?_) rfl (by kernel_rfl) (by kernel_rfl) (by kernel_rfl) (fun _ _ _ h => h) (Or.inl ⟨by rfl, ?_⟩) (by assumption) ?_
    rotate_left
    · intro w hSw; go_simp; (try with_reducible rfl)
    change wpAnyH _ _ _ _ _ _ _ (Act.put _ (some 19) _) _; simp only [Act.put, List.setIfInBounds_toArray, List.set_cons_zero, List.set_cons_succ]
    refine wpAnyH_ready (rs := [5]) (by kernel_rfl) (by simp) ?_
    refine AllReadyH.cons rfl (fun K hK => ?_) AllReadyH.nil
    go_simp
    refine cP.mono ?_
    rintro e w4 ⟨⟨r, hr, rfl⟩, hw4⟩
    obtain rfl : w1.drew = w4 := hw4.symm
    clear hw4
    refine hK.out _ _ ?_ (fun hHeld => ?_)
    · first | exact ⟨by simpa using p2, by simpa using p3, by simpa using p4⟩ | exact ⟨(World.cell?_of_block (a := ⟨PB, _, none⟩) hblk).trans (by simpa using p2), (World.cell?_of_block (a := ⟨PB, _, none⟩) hblk).trans (by simpa using p3), (World.cell?_of_block (a := ⟨PB, _, none⟩) hblk).trans (by simpa using p4)⟩
    clear hK K
    refine wpAnyH_ready (rs := [8]) (by kernel_rfl) (by simp) ?_
    refine AllReadyH.cons rfl (fun K hK => ?_) AllReadyH.nil
    go_simp
    have hbd : Below w1.heap.size w1 w1.drew := (Below.refl _ _).drew
    have cS := set_out (.slice fa FL fc) x.flags w1.drew (HS.out.2.1.below hbd (Nat.le_refl _)) HIN.out.2.2.2.2.1.1 HIN.out.2.2.2.2.1.2 HS.out.2.2.1
    rw [hF] at cS
    have cA := box_append bb 1 n (r : Int) l (.slice fa FL fc) F TX w1.drew (HS.out.1.below hbd (Nat.le_refl _)) (by have := HIN.out.2.1; omega) ⟨by have := HIN.out.1.next; omega, by have := HIN.out.2.2.1; omega⟩ cS
    clear cS
    refine cA.mono ?_
    clear cA
    intro e w5 h5
    have HP : Hid (∃ ev : Value, (∃ v0, e = .returned (.tuple #[v0, ev])) ∧ PostOut w bb n l 0 (.returned ev) w5 ∧ w5.heap[PB]? = w1.heap[PB]?) := by
      have hz := HS.out.2.2.2.2
      rcases h5 with ⟨hE, rfl, hb5⟩ | ⟨hE, rfl, hb5, hbut⟩
      · exact ⟨_, ⟨_, rfl⟩, ⟨_, n, l, rfl, Or.inr ⟨⟨_, rfl⟩, rfl, rfl⟩, BStep.refl HIN.out.1, (HS.out.1.below hbd (Nat.le_refl _)).below hb5 (Nat.le_refl _), HBW.out _ (to_but (hbd.trans hb5))⟩, (hbd.trans hb5).block PB (by omega)⟩
      · have hF0 := appE_zero hE
        have hok : SetOk F.1 := by rw [← hF] at hF0 ⊢; exact setOf_ok hF0
        have hb2 : But w1.heap.size bb w1 w5 := (to_but hbd).trans hbut
        exact ⟨_, ⟨_, rfl⟩, ⟨_, n + 1, _, rfl, Or.inl ⟨rfl, fun _ => rfl⟩, step_append HIN.out.1 hok ⟨by omega, by omega⟩ (by have := HIN.out.2.2.2.2.2; show TX.data.toList.length ≤ 300; have e9 : TX.data.toList.length = TX.size := Array.length_toList; omega), hb5, HBW.out _ hb2⟩, hb2.block PB (by omega) (by omega)⟩
    obtain ⟨ev, ⟨v0, rfl⟩, hpo, hblk⟩ := HP.out
    clear h5 HP
    have HPO : Hid (PostOut w bb n l 0 (.returned ev) w5) := hpo
    clear hpo
    refine hK.out _ _ ?_ (fun hHeld => ?_)
    · first | exact ⟨by simpa using p2, by simpa using p3, by simpa using p4⟩ | exact ⟨(World.cell?_of_block (a := ⟨PB, _, none⟩) hblk).trans (by simpa using p2), (World.cell?_of_block (a := ⟨PB, _, none⟩) hblk).trans (by simpa using p3), (World.cell?_of_block (a := ⟨PB, _, none⟩) hblk).trans (by simpa using p4)⟩
    clear hK K
    refine wpAnyH_take (i := 9) (v := ?_) rfl (by kernel_rfl) (by kernel_rfl) (by kernel_rfl) (fun _ _ _ h => h) (Or.inl ⟨by rfl, ?_⟩) (by assumption) ?_
    rotate_left
    · intro w hSw; go_simp; (try with_reducible rfl)
    change wpAnyH _ _ _ _ _ _ _ (Act.put _ (some 11) _) _; simp only [Act.put, List.setIfInBounds_toArray, List.set_cons_zero, List.set_cons_succ]
    refine wpAnyH_take (i := 10) (v := ?_) rfl (by kernel_rfl) (by kernel_rfl) (by kernel_rfl) (fun _ _ _ h => h) (Or.inl ⟨by rfl, ?_⟩) (by assumption) ?_
    rotate_left
    · intro w hSw; go_simp; (try with_reducible rfl)
    change wpAnyH _ _ _ _ _ _ _ (Act.put _ (some 21) _) _; simp only [Act.put, List.setIfInBounds_toArray, List.set_cons_zero, List.set_cons_succ]
    refine wpAnyH_take (i := 11) (v := ?_) rfl (by kernel_rfl) (by kernel_rfl) (by kernel_rfl) (fun _ _ _ h => h) (Or.inl ⟨by rfl, ?_⟩) (by assumption) ?_
    rotate_left
    · intro w hSw; go_simp; (try with_reducible rfl)
    change wpAnyH _ _ _ _ _ _ _ (Act.put _ (some 22) _) _; simp only [Act.put, List.setIfInBounds_toArray, List.set_cons_zero, List.set_cons_succ]
    refine wpAnyH_take (i := 12) (v := ?_) rfl (by kernel_rfl) (by kernel_rfl) (by kernel_rfl) (fun _ _ _ h => h) (Or.inl ⟨by rfl, ?_⟩) (by assumption) ?_
    rotate_left
    · intro w hSw; go_simp; (try with_reducible rfl)
    change wpAnyH _ _ _ _ _ _ _ (Act.put _ (some 5) _) _; simp only [Act.put, List.setIfInBounds_toArray, List.set_cons_zero, List.set_cons_succ]
    refine wpAnyH_take (i := 13) (v := ?_) rfl (by kernel_rfl) (by kernel_rfl) (by kernel_rfl) (fun _ _ _ h => h) (Or.inl ⟨by rfl, ?_⟩) (by assumption) ?_
    rotate_left
    · intro w hSw; go_simp; (try with_reducible rfl)
    change wpAnyH _ _ _ _ _ _ _ (Act.put _ (some 6) _) _; simp only [Act.put, List.setIfInBounds_toArray, List.set_cons_zero, List.set_cons_succ]
    refine wpAnyH_done (by kernel_rfl) ?_ _
    go_wp2_with fail
    go_ret
    exact HPO.out
  · have d0 : (WH == 0) = false := by simpa using h0
    by_cases h1 : WH = 1
    · subst h1
      obtain ⟨F, hF⟩ : ∃ F, Fl.setOf x.flags = F := ⟨_, rfl⟩
      have cP := pick_n NN 3 (by decide) (by decide) w1.drew
      go_upto_region 6 with fail
      refine wp_region_held_drew (S := fun W => W.cell? ⟨PB, 1, none⟩ = some (.int .i64 UI) ∧ W.cell? ⟨PB, 2, none⟩ = some (.int .i64 NN) ∧ W.cell? ⟨PB, 3, none⟩ = some (.slice fa FL fc)) (by kernel_rfl) ?_ (fun hHeld => ?_)
      · first | exact ⟨by simpa using p1, by simpa using p2, by simpa using p3⟩ | exact ⟨(World.cell?_of_block (a := ⟨PB, _, none⟩) hblk).trans (by simpa using p1), (World.cell?_of_block (a := ⟨PB, _, none⟩) hblk).trans (by simpa using p2), (World.cell?_of_block (a := ⟨PB, _, none⟩) hblk).trans (by simpa using p3)⟩
      refine wpAnyH_take (i := 0) (v := ?_) rfl (by kernel_rfl) (by kernel_rfl) (by kernel_rfl) (fun _ _ _ h => h) (Or.inl ⟨by rfl, ?_⟩) (by assumption) ?_
      rotate_left
      · intro w hSw; go_simp; (try with_reducible rfl)
      change wpAnyH _ _ _ _ _ _ _ (Act.put _ (some 26) _) _; simp only [Act.put, List.setIfInBounds_toArray, List.set_cons_zero, List.set_cons_succ]
      refine wpAnyH_take (i := 1) (v := ?_) rfl (by kernel_rfl) (by kernel_rfl) (by kernel_rfl) (fun _ _ _ h => h) (Or.inl ⟨by rfl, ?_⟩) (by assumption) ?_
      rotate_left
      · intro w hSw; go_simp; (try with_reducible rfl)
      change wpAnyH _ _ _ _ _ _ _ (Act.put _ (some 27) _) _; simp only [Act.put, List.setIfInBounds_toArray, List.set_cons_zero, List.set_cons_succ]
      refine wpAnyH_take (i := 2) (v := ?_) rfl (by kernel_rfl) (by kernel_rfl) (by kernel_rfl) (fun _ _ _ h => h) (Or.inl ⟨by rfl, ?_⟩) (by assumption) ?_
      rotate_left
      · intro w hSw; go_simp; (try with_reducible rfl)
      change wpAnyH _ _ _ _ _ _ _ (Act.put _ (some 28) _) _; simp only [Act.put, List.setIfInBounds_toArray, List.set_cons_zero, List.set_cons_succ]
      refine wpAnyH_take (i := 3) (v := ?_) rfl (by kernel_rfl) (by kernel_rfl) (by kernel_rfl) (fun _ _ _ h => h) (Or.inl ⟨by rfl, ?_⟩) (by assumption) ?_
      rotate_left
      · intro w hSw; go_simp; (try with_reducible rfl)
      change wpAnyH _ _ _ _ _ _ _ (Act.put _ (some 29) _) _; simp only [Act.put, List.setIfInBounds_toArray, List.set_cons_zero, List.set_cons_succ]
      refine wpAnyH_take (i := 4) (v := ?_) rfl (by kernel_rfl) (by kernel_rfl) (by kernel_rfl) (fun _ _ _ h => h) (Or.inl ⟨by rfl, ?_⟩) (by assumption) ?_
      rotate_left
      · intro w hSw; go_simp; (try with_reducible rfl)
      change wpAnyH _ _ _ _ _ _ _ (Act.put _ (some 30) _) _; simp only [Act.put, List.setIfInBounds_toArray, List.set_cons_zero, List.set_cons_succ]
      refine wpAnyH_take (i := 6) (v := ?_) rfl (by kernel_rfl) (by kernel_rfl) (by kernel_rfl) (fun _ _ _ h => h) (Or.inl ⟨by rfl, ?_⟩) (by assumption) ?_
      rotate_left
      · intro w hSw; go_simp; (try with_reducible rfl)
      change wpAnyH _ _ _ _ _ _ _ (Act.put _ (some 32) _) _; simp only [Act.put, List.setIfInBounds_toArray, List.set_cons_zero, List.set_cons_succ]
      refine wpAnyH_take (i := 7) (v := ?_) rfl (by kernel_rfl) (by kernel_rfl) (by kernel_rfl) (fun _ _ _ h => h) (Or.inl ⟨by rfl, ?_⟩) (by assumption) ?_
      rotate_left
      · intro w hSw; go_simp; (try with_reducible rfl)
      change wpAnyH _ _ _ _ _ _ _ (Act.put _ (some 33) _) _; simp only [Act.put, List.setIfInBounds_toArray, List.set_cons_zero, List.set_cons_succ]
      refine wpAnyH_ready (rs := [5]) (by kernel_rfl) (by simp) ?_
      refine AllReadyH.cons rfl (fun K hK => ?_) AllReadyH.nil
      go_simp
      refine cP.mono ?_
      rintro e w4 ⟨⟨r, hr, rfl⟩, hw4⟩
      obtain rfl : w1.drew = w4 := hw4.symm
      clear hw4
      refine hK.out _ _ ?_ (fun hHeld => ?_)
      · first | exact ⟨by simpa using p1, by simpa using p2, by simpa using p3⟩ | exact ⟨(World.cell?_of_block (a := ⟨PB, _, none⟩) hblk).trans (by simpa using p1), (World.cell?_of_block (a := ⟨PB, _, none⟩) hblk).trans (by simpa using p2), (World.cell?_of_block (a := ⟨PB, _, none⟩) hblk).trans (by simpa using p3)⟩
      clear hK K
      refine wpAnyH_ready (rs := [8]) (by kernel_rfl) (by simp) ?_
      refine AllReadyH.cons rfl (fun K hK => ?_) AllReadyH.nil
      go_simp
      have hbd : Below w1.heap.size w1 w1.drew := (Below.refl _ _).drew
      have hok : F.2 = 0 → SetOk F.1 := fun h9 => by rw [← hF] at h9 ⊢; exact setOf_ok h9
      have hF4 : F.1.length ≤ 400 := by
        by_cases h9 : F.2 = 0
        · have := (hok h9).2.2; omega
        · rw [← hF] at h9 ⊢
          unfold Fl.setOf at h9 ⊢
          split at h9
          · simp_all
          · split at h9
            · simp_all
            · simp at h9
      have cA := box_flag bb 1 n UI (r : Int) l (.slice fa FL fc) F w1.drew (HS.out.1.below hbd (Nat.le_refl _)) HIN.out.1.rise (by have := HIN.out.2.1; omega) HIN.out.2.2.2.1 hF4 HS.out.2.2.1 (fun W hW => by
        have := set_out (.slice fa FL fc) x.flags W ((HS.out.2.1.below hbd (Nat.le_refl _)).below hW (Nat.le_refl _)) HIN.out.2.2.2.2.1.1 HIN.out.2.2.2.2.1.2 (HS.out.2.2.1.below (hbd.trans (by simpa using hW)) (by have := HS.out.2.2.2.2; omega))
        rw [hF] at this
        exact this)
      refine cA.mono ?_
      clear cA
      intro e w5 h5
      have HP : Hid (∃ ev : Value, e = .returned ev ∧ PostOut w bb n l 1 (.returned ev) w5 ∧ w5.heap[PB]? = w1.heap[PB]?) := by
        have hz := HS.out.2.2.2.2
        rcases h5 with ⟨E, hE, _, _, _, rfl, hb5⟩ | ⟨hfb, hF0, rfl, y, hy, hc, hb5, hbut⟩
        · exact ⟨_, rfl, ⟨_, n, l, rfl, Or.inr ⟨⟨_, rfl⟩, rfl, rfl⟩, BStep.refl HIN.out.1, (HS.out.1.below hbd (Nat.le_refl _)).below hb5 (Nat.le_refl _), HBW.out _ (to_but (hbd.trans hb5))⟩, (hbd.trans hb5).block PB (by omega)⟩
        · have hym : y ∈ l := List.mem_of_getElem? hy
          have hb2 : But w1.heap.size bb w1 w5 := (to_but hbd).trans hbut
          exact ⟨_, rfl, ⟨_, n, _, rfl, Or.inl ⟨rfl, fun h => by simp at h⟩, step_flag HIN.out.1 hy (chg_ok (HIN.out.1.ok y hym).1 (hok hF0) hc), hb5, HBW.out _ hb2⟩, hb2.block PB (by omega) (by omega)⟩
      obtain ⟨ev, rfl, hpo, hblk⟩ := HP.out
      clear h5 HP
      have HPO : Hid (PostOut w bb n l 1 (.returned ev) w5) := hpo
      clear hpo
      refine hK.out _ _ ?_ (fun hHeld => ?_)
      · first | exact ⟨by simpa using p1, by simpa using p2, by simpa using p3⟩ | exact ⟨(World.cell?_of_block (a := ⟨PB, _, none⟩) hblk).trans (by simpa using p1), (World.cell?_of_block (a := ⟨PB, _, none⟩) hblk).trans (by simpa using p2), (World.cell?_of_block (a := ⟨PB, _, none⟩) hblk).trans (by simpa using p3)⟩
      clear hK K
      refine wpAnyH_take (i := 9) (v := ?_) rfl (by kernel_rfl) (by kernel_rfl) (by kernel_rfl) (fun _ _ _ h => h) (Or.inl ⟨by rfl, ?_⟩) (by assumption) ?_
      rotate_left
      · intro w hSw; go_simp; (try with_reducible rfl)
      change wpAnyH _ _ _ _ _ _ _ (Act.put _ (some 4) _) _; simp only [Act.put, List.setIfInBounds_toArray, List.set_cons_zero, List.set_cons_succ]
      refine wpAnyH_done (by kernel_rfl) ?_ _
      go_wp2_with fail
      go_ret
      exact HPO.out
    · have d1 : (WH == 1) = false := by simpa using h1
      by_cases h2 : WH = 2
      · subst h2
        have eg : ∀ args w, (callFunc 20 args).run Tryd.prog w = .ok (.enter 20 args) w := enters_of Tryd.func20 (by kernel_rfl) rfl
        have cE := box_expunge bb 1 n l 20 [.pointer (some ⟨PB, 0, none⟩)] (saidB NN) w1 HS.out.1 (by have := HIN.out.2.1; omega) (fun y hy => by have := HIN.out.2.2.2.1 y hy; omega) HS.out.2.2.1 eg (fun y _ W hW => said_is PB NN y.uid W ((hW.cell (p := ⟨PB, 2, none⟩) (by have := HS.out.2.2.2.2.2; show PB < _; omega)).trans p2))
        go_wp2_with fail
        refine cE.mono ?_
        rintro e w5 ⟨ov, rfl, _, hb5, hbut⟩
        have HF : Hid (PostOut w bb n l 2 (.returned .nilIface) w5) := ⟨_, n, _, rfl, Or.inl ⟨rfl, fun h => by simp at h⟩, step_stay HIN.out.1 _, hb5, HBW.out _ hbut⟩
        clear cE hb5 hbut
        go_wp2_with fail
        go_ret
        exact HF.out
      · have d2 : (WH == 2) = false := by simpa using h2
        have HF : Hid (PostOut w bb n l WH (.returned .nilIface) w1) := ⟨_, n, l, rfl, Or.inl ⟨rfl, fun h => absurd h h0⟩, BStep.refl HIN.out.1, HS.out.1, HBW.out _ (to_but (Below.refl _ _))⟩
        go_wp2_with fail
        go_ret
        exact HF.out
end Go.Proofs.YtkneeoaeoiaefaaDoor
