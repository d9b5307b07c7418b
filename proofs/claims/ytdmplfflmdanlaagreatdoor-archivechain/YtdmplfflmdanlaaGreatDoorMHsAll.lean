/-
  All that a house has, as one text.
-/
import Derived.Test.YtdmplfflmdanlaaGreatDoorMHsSave
namespace Go.Proofs.YtdmplfflmdanlaaGreatDoor
open Go.RowKit Go.Proofs.Aid Go.Proofs.Bx

/-- A letter, as it is told. -/
def lineL (y : Lt) : Nm := 32 :: (Lib.itoa y.uid ++ (40 :: 41 :: (Lib.itoa y.day ++ 58 :: (Lib.itoa (y.text.length : Int) ++ y.text))))
def headL (n : Nm) (x : Bxd) : Nm := 124 :: (n ++ 32 :: (Lib.itoa x.v ++ 32 :: Lib.itoa x.n))
def boxL (p : Nm × Bxd) : Nm := headL p.1 p.2 ++ p.2.ls.flatMap lineL
def frontL (S : Svd) : Nm := Lib.itoa S.next ++ Lib.join S.wants [44]
def allB (S : Svd) : Nm := frontL S ++ (S.names.zip S.boxes).flatMap boxL
theorem itoa21 {n : Int} (h : 0 ≤ n ∧ n ≤ 9000000000) : (Lib.itoa n).length ≤ 21 := Lib.itoa_length_le n (by omega) (by omega)
theorem flat_next {α : Type} {f : α → Nm} {l : List α} {k : Nat} {x : α} (h : l[k]? = some x) : (l.take (k + 1)).flatMap f = (l.take k).flatMap f ++ f x := by
  rw [List.take_add_one, h, List.flatMap_append]
  simp
/-- The table of powers of ten is there, and stays. -/
def TabB (w : World) : Prop := ∀ W, Below w.heap.size w W → Lib.TabIs Tryz.prog W "internal/strconv.uint64pow10" .u64 Lib.pow10Tab
theorem TabB.below {w w' : World} (h : TabB w) (hb : Below w.heap.size w w') : TabB w' := fun W hW => h W (hb.trans (hW.mono hb.size))
theorem hitoa_is (n : Int) (w : World) (h : 0 ≤ n ∧ n ≤ 9000000000) (htab : Lib.TabIs Tryz.prog w "internal/strconv.uint64pow10" .u64 Lib.pow10Tab) :
    Calls Tryz.prog 79 #[.int .i64 n] w fun e w' => e = .returned (.string ⟨(Lib.itoa n).toArray⟩) ∧ Below w.heap.size w w' := by
  refine (Tryz.strconv_Itoa n (by omega) (by omega) w htab).mono ?_
  rintro e w' ⟨rfl, k, os, rfl⟩
  exact ⟨rfl, Lib.below_grow w.heap.size w (Nat.le_refl _) k os⟩
theorem tail_len : ∀ (l : List Nm), (∀ s ∈ l, s.length ≤ 60) → (Lib.joinTail [44] l).length ≤ l.length * 61
  | [], _ => by simp [Lib.joinTail]
  | a :: l, h => by
    have h1 := h a List.mem_cons_self
    have h2 := tail_len l fun s hs => h s (List.mem_cons_of_mem _ hs)
    have e : Lib.joinTail [44] (a :: l) = 44 :: a ++ Lib.joinTail [44] l := by simp [Lib.joinTail]
    rw [e, List.length_append, List.length_cons, List.length_cons]
    omega
theorem join_len (l : List Nm) (h : ∀ s ∈ l, s.length ≤ 60) : (Lib.join l [44]).length ≤ l.length * 61 := by
  cases l with
  | nil => simp [Lib.join]
  | cons a l =>
    have h1 := h a List.mem_cons_self
    have h2 := tail_len l fun s hs => h s (List.mem_cons_of_mem _ hs)
    rw [Lib.join_cons, List.length_append, List.length_cons]
    omega
theorem hjoin_is (v : Value) (l : List Nm) (w : World) (h : Sl w v l) (hl : l.length ≤ 1000) (hj : ∀ s ∈ l, s.length ≤ 60) :
    Calls Tryz.prog 80 #[v, .string ⟨#[44]⟩] w fun e w' => e = .returned (.string ⟨(Lib.join l [44]).toArray⟩) ∧ Below w.heap.size w w' := by
  obtain ⟨a, c, rfl, h0, ha⟩ := h
  by_cases hne : l = []
  · subst hne
    refine (Tryz.strings_Join_none a c ⟨#[44]⟩ w).mono ?_
    rintro e w' ⟨rfl, rfl⟩
    exact ⟨rfl, Below.refl _ _⟩
  · obtain ⟨b, o, rfl, hat⟩ : ∃ b o, a = some ⟨b, o, none⟩ ∧ ∀ (j : Nat) t, l[j]? = some t → w.cell? ⟨b, o + j, none⟩ = some (encStr t) := by
      rcases ha with ha | ha
      · exact absurd ha hne
      · exact ha
    have hb : b < w.heap.size := World.block_lt_of_cell? _ _ (hat 0 _ (List.getElem?_eq_getElem (List.length_pos_iff.2 hne)))
    have hmm : (l.map fun t => (⟨t.toArray⟩ : ByteArray)).map (·.data.toList) = l := by
      rw [List.map_map]
      exact List.map_id' l
    have hjl := join_len l hj
    have := Tryz.strings_Join b o c (l.map fun t => (⟨t.toArray⟩ : ByteArray)) ⟨#[44]⟩ w (fun j x hx => by
      rw [List.getElem?_map] at hx
      obtain ⟨y, hy, rfl⟩ := Option.map_eq_some_iff.1 hx
      exact hat j y hy) hb (by rw [List.length_map]; omega) (by rw [List.length_map]; exact h0.2) (by rw [hmm]; show (Lib.join l [44]).length ≤ _; omega)
    rw [hmm, List.length_map] at this
    exact this
theorem hcat_list (a b : ByteArray) : (a ++ b).data.toList = a.data.toList ++ b.data.toList := by simp
theorem hcat_size (a b : ByteArray) : (a ++ b).size = a.size + b.size := by simp
set_option maxHeartbeats 1000000 in
theorem print_none (a : Option Addr) (c : Nat) (w : World) : Calls Tryz.prog 81 #[.slice a 0 c] w fun e w' => (∃ s : ByteArray, e = .returned (.string s) ∧ s.data.toList = [40, 41]) ∧ w' = w := by
  have cJ := Tryz.strings_Join_none a c ⟨#[32]⟩ w
  go_enter Tryz.func81, Tryz.ntmps81
  go_wp2_with fail
  refine cJ.mono ?_
  rintro e w1 ⟨rfl, hw⟩
  obtain rfl : w = w1 := hw.symm
  clear cJ hw
  go_wp2_with fail
  go_ret
  exact ⟨⟨_, rfl, by simp⟩, rfl⟩
/-- All that is saved may be told. -/
structure SaOk (K : Nat) (S : Svd) : Prop where
  ok : SvOk S
  bx : ∀ x ∈ S.boxes, GoodBx K S.next x
  nxt : 1 ≤ S.next ∧ S.next ≤ 30 * (K : Int) + 1000
theorem HI.saOk {H K : Nat} {l : Bxs} {nx : Int} {W : List Nm} {C : Nat → Bxd} (h : HI H K l nx W C) (hK : K ≤ 400) : SaOk K (svOf l W nx C) := ⟨h.svOk (by omega), fun x hx => by
  obtain ⟨p, hp, rfl⟩ := List.mem_map.1 hx
  exact h.bx p hp, h.nxt⟩
theorem SaOk.sml {K : Nat} {l : Bxs} {nx : Int} {W : List Nm} {C : Nat → Bxd} (h : SaOk K (svOf l W nx C)) (hK : K ≤ 400) : Sml l W C where
  len := by have := h.ok.most; simpa [svOf, namesB] using this
  wlen := h.ok.wmost
  nm := fun p hp => nameB_len60 (h.ok.nname _ (List.mem_map_of_mem hp))
  ls := fun p hp => by
    have := (h.bx (C p.2) (List.mem_map_of_mem (f := fun p : Nm × Nat => C p.2) hp)).len
    omega
  fl := fun p hp y hy => by rw [((h.bx (C p.2) (List.mem_map_of_mem (f := fun p : Nm × Nat => C p.2) hp)).plain y hy).1]; simp
set_option maxHeartbeats 16000000 in
set_option maxRecDepth 100000 in
theorem all_is (K hb mb : Nat) (l : Bxs) (nx : Int) (wv : Value) (Ws : List Nm) (C : Nat → Bxd) (w : World) (h : Hse w hb mb l nx wv Ws C) (hA : SaOk K (svOf l Ws nx C)) (hK : K ≤ 400) (htab : TabB w) :
    Calls Tryz.prog 24 #[.pointer (some ⟨hb, 0, none⟩)] w fun e w' => (∃ t : ByteArray, e = .returned (.string t) ∧ t.data.toList = allB (svOf l Ws nx C)) ∧ Below w.heap.size w w' := by
  have cS := save_is hb mb l nx wv Ws C w h (hA.sml hK)
  obtain ⟨S, hS⟩ : ∃ S, svOf l Ws nx C = S := ⟨_, rfl⟩
  rw [hS] at hA
  have hSn : S.next = nx := by rw [← hS]; rfl
  have hSw : S.wants = Ws := by rw [← hS]; rfl
  have hlen : S.names.length = S.boxes.length := hA.ok.len
  have hN30 : S.names.length ≤ 30 := hA.ok.most
  have hnm : ∀ n ∈ S.names, n.length ≤ 60 := fun n hn => nameB_len60 (hA.ok.nname n hn)
  have hbx : ∀ x ∈ S.boxes, GoodBx K nx x := fun x hx => hSn ▸ hA.bx x hx
  have hnx : 1 ≤ nx ∧ nx ≤ 30 * (K : Int) + 1000 := hSn ▸ hA.nxt
  have hwl : Ws.length ≤ 60 := hSw ▸ hA.ok.wmost
  have hwn : ∀ n ∈ Ws, n.length ≤ 60 := fun n hn => nameB_len60 (hA.ok.wname n (hSw ▸ hn))
  have HIT : Hid (∀ n W, Below w.heap.size w W → 0 ≤ n ∧ n ≤ 9000000000 → Calls Tryz.prog 79 #[.int .i64 n] W fun e w' => e = .returned (.string ⟨(Lib.itoa n).toArray⟩) ∧ Below W.heap.size W w') := fun n W hW hn => hitoa_is n W hn (htab W hW)
  obtain ⟨N, hN⟩ : ∃ m, S.names.length = m := ⟨_, rfl⟩
  obtain ⟨M, hM⟩ : ∃ m, Ws.length = m := ⟨_, rfl⟩
  have HS : Hid (S.next = nx ∧ S.wants = Ws ∧ S.names.length = N ∧ S.boxes.length = N ∧ N ≤ 30 ∧ (∀ n ∈ S.names, n.length ≤ 60) ∧ (∀ x ∈ S.boxes, GoodBx K nx x) ∧ (1 ≤ nx ∧ nx ≤ 30 * (K : Int) + 1000) ∧ Ws.length = M ∧ M ≤ 60 ∧ (∀ n ∈ Ws, n.length ≤ 60) ∧ K ≤ 400) := ⟨hSn, hSw, hN, by omega, by omega, hnm, hbx, hnx, hM, by rw [← hM]; exact hwl, hwn, hK⟩
  rw [hS] at cS ⊢
  clear h hA htab hS hSn hSw hlen hN30 hnm hbx hnx hM hN hwl hwn
  go_enter Tryz.func24, Tryz.ntmps24
  go_wp2_with fail
  refine cS.mono ?_
  rintro e w4 ⟨⟨nv, bv, wv', rfl, hsv⟩, hb4⟩
  obtain ⟨na, nc, rfl⟩ : ∃ a c, nv = .slice a N c := by obtain ⟨a, c, e, _⟩ := hsv.1; exact ⟨a, c, by rw [e, HS.out.2.2.1]⟩
  obtain ⟨ba, bc, rfl⟩ : ∃ a c, bv = .slice a N c := by obtain ⟨a, c, e, _⟩ := hsv.2.1; exact ⟨a, c, by rw [e, HS.out.2.2.2.1]⟩
  obtain ⟨wa, wc, rfl⟩ : ∃ a c, wv' = .slice a M c := by obtain ⟨a, c, e, _⟩ := hsv.2.2; exact ⟨a, c, by rw [e, HS.out.2.1, HS.out.2.2.2.2.2.2.2.2.1]⟩
  have b5 : Below w4.heap.size w4 (w4.alloc (.cells #[.slice na N nc, .slice ba N bc, .slice wa M wc, .int .i64 nx] 26)) := (Below.refl _ _).alloc (Nat.le_refl _) _
  have e5 := heap_alloc_new w4 (.cells #[.slice na N nc, .slice ba N bc, .slice wa M wc, .int .i64 nx] 26)
  obtain ⟨sb, hsb⟩ : ∃ n, w4.heap.size = n := ⟨_, rfl⟩
  obtain ⟨W5, hW5⟩ : ∃ W, w4.alloc (.cells #[.slice na N nc, .slice ba N bc, .slice wa M wc, .int .i64 nx] 26) = W := ⟨_, rfl⟩
  rw [hW5] at b5 e5
  have HB5 : Hid (Below w.heap.size w W5) := hb4.trans (b5.mono hb4.size)
  have HV : Hid (SvAt W5 (.slice na N nc) (.slice ba N bc) (.slice wa M wc) S) := hsv.below b5 (Nat.le_refl _)
  rw [hsb] at e5
  have HE5 : Hid (W5.heap[sb]? = some (.cells #[.slice na N nc, .slice ba N bc, .slice wa M wc, .int .i64 nx] 26 (0, 0))) := e5
  have hsl : sb < W5.heap.size := (Array.getElem?_eq_some_iff.1 e5).1
  have HR2 : Hid (∀ W, Below W5.heap.size W5 W → W.cell? ⟨sb, 3, none⟩ = some (.int .i64 nx) ∧ W.cell? ⟨sb, 2, none⟩ = some (.slice wa M wc)) := fun W hW => by
    have e6 := (hW.block _ hsl).trans HE5.out
    exact ⟨rd_cell e6 rfl, rd_cell e6 rfl⟩
  obtain ⟨t3, t2⟩ := HR2.out W5 (Below.refl _ _)
  obtain ⟨WD, hWD⟩ : ∃ W, W5.drew = W := ⟨_, rfl⟩
  have hbD : Hid (Below W5.heap.size W5 WD) := by rw [← hWD]; exact (Below.refl _ _).drew
  obtain ⟨I1, hI1⟩ : ∃ s : ByteArray, (⟨(Lib.itoa nx).toArray⟩ : ByteArray) = s := ⟨_, rfl⟩
  obtain ⟨J1, hJ1⟩ : ∃ s : ByteArray, (⟨(Lib.join Ws [44]).toArray⟩ : ByteArray) = s := ⟨_, rfl⟩
  have cX : ∀ W, Below W5.heap.size W5 W → Calls Tryz.prog 79 #[.int .i64 nx] W fun e w' => e = .returned (.string I1) ∧ Below W.heap.size W w' := fun W hW => by
    rw [← hI1]
    exact HIT.out nx W (HB5.out.trans (hW.mono HB5.out.size)) (by have := HS.out.2.2.2.2.2.2.2.1; have := HS.out.2.2.2.2.2.2.2.2.2.2.2; omega)
  have HJO : Hid (∀ W, Below W5.heap.size W5 W → Calls Tryz.prog 80 #[.slice wa M wc, .string ⟨#[44]⟩] W fun e w' => e = .returned (.string J1) ∧ Below W.heap.size W w') := fun W hW => by
    rw [← hJ1, ← HS.out.2.1]
    exact hjoin_is _ S.wants W (HV.out.2.2.below hW (Nat.le_refl _)) (by rw [HS.out.2.1]; have := HS.out.2.2.2.2.2.2.2.2.1; have := HS.out.2.2.2.2.2.2.2.2.2.1; omega) (by rw [HS.out.2.1]; exact HS.out.2.2.2.2.2.2.2.2.2.2.1)
  have hI1z : I1.size ≤ 21 := by
    rw [← hI1, ba_size]
    exact itoa21 (by have := HS.out.2.2.2.2.2.2.2.1; have := HS.out.2.2.2.2.2.2.2.2.2.2.2; omega)
  have hJ1z : J1.size ≤ 3660 := by
    rw [← hJ1, ba_size]
    have := join_len Ws HS.out.2.2.2.2.2.2.2.2.2.2.1
    have := HS.out.2.2.2.2.2.2.2.2.1
    have := HS.out.2.2.2.2.2.2.2.2.2.1
    omega
  have q1 : (9223372036854775807 < I1.size + J1.size) = False := eq_false (by omega)
  obtain ⟨T0, hT0⟩ : ∃ s : ByteArray, I1 ++ J1 = s := ⟨_, rfl⟩
  have HT0 : Hid (T0.data.toList = frontL S ∧ T0.size ≤ 4000) := by
    rw [← hT0]
    refine ⟨?_, by rw [hcat_size]; omega⟩
    rw [hcat_list, ← hI1, ← hJ1]
    unfold frontL
    rw [HS.out.1, HS.out.2.1]
  clear hb4 b5 e5 hsv cS hI1 hJ1 hI1z hJ1z
  go_upto_region 2 with fail
  refine wp_region_held_drew (S := fun W => W.cell? ⟨sb, 3, none⟩ = some (.int .i64 nx) ∧ W.cell? ⟨sb, 2, none⟩ = some (.slice wa M wc)) (by kernel_rfl) ?_ (fun hHeld => ?_)
  · exact ⟨by simpa using t3, by simpa using t2⟩
  rw [hWD] at hHeld ⊢
  refine wpAnyH_take (i := 0) (v := ?_) rfl (by kernel_rfl) (by kernel_rfl) (by kernel_rfl) (fun _ _ _ h => h) (Or.inl ⟨by rfl, ?_⟩) (by first | assumption | trivial) ?_
  rotate_left
  · intro w hSw; go_simp; (try with_reducible rfl)
  change wpAnyH _ _ _ _ _ _ _ (Act.put _ (some 10) _) _; simp only [Act.put, List.setIfInBounds_toArray, List.set_cons_zero, List.set_cons_succ]
  refine wpAnyH_take (i := 1) (v := ?_) rfl (by kernel_rfl) (by kernel_rfl) (by kernel_rfl) (fun _ _ _ h => h) (Or.inl ⟨by rfl, ?_⟩) (by first | assumption | trivial) ?_
  rotate_left
  · intro w hSw; go_simp; (try with_reducible rfl)
  change wpAnyH _ _ _ _ _ _ _ (Act.put _ (some 11) _) _; simp only [Act.put, List.setIfInBounds_toArray, List.set_cons_zero, List.set_cons_succ]
  refine wpAnyH_take (i := 3) (v := ?_) rfl (by kernel_rfl) (by kernel_rfl) (by kernel_rfl) (fun _ _ _ h => h) (Or.inl ⟨by rfl, ?_⟩) (by first | assumption | trivial) ?_
  rotate_left
  · intro w hSw; go_simp; (try with_reducible rfl)
  change wpAnyH _ _ _ _ _ _ _ (Act.put _ (some 13) _) _; simp only [Act.put, List.setIfInBounds_toArray, List.set_cons_zero, List.set_cons_succ]
  refine wpAnyH_take (i := 4) (v := ?_) rfl (by kernel_rfl) (by kernel_rfl) (by kernel_rfl) (fun _ _ _ h => h) (Or.inl ⟨by rfl, ?_⟩) (by first | assumption | trivial) ?_
  rotate_left
  · intro w hSw; go_simp; (try with_reducible rfl)
  change wpAnyH _ _ _ _ _ _ _ (Act.put _ (some 14) _) _; simp only [Act.put, List.setIfInBounds_toArray, List.set_cons_zero, List.set_cons_succ]
  refine wpAnyH_ready (rs := [2]) (by kernel_rfl) (by simp) ?_
  refine AllReadyH.cons rfl (fun K hK => ?_) AllReadyH.nil
  go_simp
  refine (cX WD hbD.out).mono ?_
  rintro e w7 ⟨rfl, hb7⟩
  have hl7 : Below W5.heap.size W5 w7 := hbD.out.trans (hb7.mono hbD.out.size)
  have k7 := HR2.out w7 hl7
  refine hK.out _ _ ?_ (fun hHeld => ?_)
  · exact k7
  clear hK K
  refine wpAnyH_ready (rs := [5]) (by kernel_rfl) (by simp) ?_
  refine AllReadyH.cons rfl (fun K hK => ?_) AllReadyH.nil
  go_simp
  refine (HJO.out w7 hl7).mono ?_
  rintro e w8 ⟨rfl, hb8⟩
  have hl8 : Below W5.heap.size W5 w8 := hl7.trans (hb8.mono hl7.size)
  have k8 := HR2.out w8 hl8
  refine hK.out _ _ ?_ (fun hHeld => ?_)
  · exact k8
  clear hK K
  refine wpAnyH_take (i := 6) (v := ?_) rfl (by kernel_rfl) (by kernel_rfl) (by kernel_rfl) (fun _ _ _ h => h) (Or.inl ⟨by rfl, ?_⟩) (by first | assumption | trivial) ?_
  rotate_left
  · intro w hSw; go_simp; (try with_reducible rfl)
  change wpAnyH _ _ _ _ _ _ _ (Act.put _ (some 16) _) _; simp only [Act.put, List.setIfInBounds_toArray, List.set_cons_zero, List.set_cons_succ]
  refine wpAnyH_take (i := 7) (v := ?_) rfl (by kernel_rfl) (by kernel_rfl) (by kernel_rfl) (fun _ _ _ h => h) (Or.inl ⟨by rfl, ?_⟩) (by first | assumption | trivial) ?_
  rotate_left
  · intro w hSw; go_simp; (try with_reducible rfl)
  change wpAnyH _ _ _ _ _ _ _ (Act.put _ (some 4) _) _; simp only [Act.put, List.setIfInBounds_toArray, List.set_cons_zero, List.set_cons_succ]
  refine wpAnyH_done (by kernel_rfl) ?_ _
  clear hHeld
  have HL8 : Hid (Below W5.heap.size W5 w8) := hl8
  have hN30 : N ≤ 30 := HS.out.2.2.2.2.1
  have HR0 : Hid (∀ W, Below W5.heap.size W5 W → W.cell? ⟨sb, 0, none⟩ = some (.slice na N nc) ∧ W.cell? ⟨sb, 1, none⟩ = some (.slice ba N bc)) := fun W hW => by
    have e6 := (hW.block _ hsl).trans HE5.out
    exact ⟨rd_cell e6 rfl, rd_cell e6 rfl⟩
  have u0 := (HR0.out w8 hl8).1
  clear hT0 q1 k7 k8 hb7 hb8 hl7 hl8 cX hbD t3 t2 hWD HR2 HJO
  go_wp2_with fail
  go_loopw [4, 5] (fun ov iv wr => ∃ (k : Nat) (t : ByteArray), iv = .int .i64 (k : Int) ∧ k ≤ N ∧ ov = .string t ∧ Hid (t.data.toList = frontL S ++ ((S.names.zip S.boxes).take k).flatMap boxL ∧ t.size ≤ 4000 + k * 12000 ∧ Below W5.heap.size W5 wr)) (fun _ iv _ => N - (intOf iv).toNat)
  case atStart => exact ⟨0, T0, rfl, Nat.zero_le _, rfl, by rw [HT0.out.1]; simp, HT0.out.2, HL8.out⟩
  case round =>
    clear HT0 HL8 u0
    obtain ⟨k, t, rfl, hk, rfl, HI⟩ := hrel
    by_cases hlt : k < N
    · have d1 : decide ((k : Int) < (N : Int)) = true := decide_eq_true (by omega)
      have i1 : (0 : Int) ≤ (k : Int) := by omega
      have i2 : (k : Int) < (N : Int) := by omega
      obtain ⟨nm, hnk⟩ : ∃ p, S.names[k]? = some p := ⟨_, List.getElem?_eq_getElem (by have := HS.out.2.2.1; omega)⟩
      obtain ⟨x, hxk⟩ : ∃ p, S.boxes[k]? = some p := ⟨_, List.getElem?_eq_getElem (by have := HS.out.2.2.2.1; omega)⟩
      have hg := HS.out.2.2.2.2.2.2.1 x (List.mem_of_getElem? hxk)
      have hnl := HS.out.2.2.2.2.2.1 nm (List.mem_of_getElem? hnk)
      have hKK := HS.out.2.2.2.2.2.2.2
      have hzk : (S.names.zip S.boxes)[k]? = some (nm, x) := by rw [List.getElem?_zip_eq_some]; exact ⟨hnk, hxk⟩
      obtain ⟨nb, no, rfl, hnc⟩ := sl_at HV.out.1 hnk
      have nmc := hnc k nm hnk
      obtain ⟨b, o, rfl, b1, b2, lv, b3, b4⟩ := bxr_at HV.out.2.1 hxk
      obtain ⟨xv, xn, xl⟩ := x
      have b1 : W5.cell? ⟨b, o + k * 3, none⟩ = some (.int .i64 xv) := b1
      have b2 : W5.cell? ⟨b, o + k * 3 + 1, none⟩ = some (.int .i64 xn) := b2
      have b3 : W5.cell? ⟨b, o + k * 3 + 2, none⟩ = some lv := b3
      have b4 : Lts W5 lv xl := b4
      obtain ⟨la, lc, rfl, _⟩ := id b4
      obtain ⟨LN, hLN⟩ : ∃ m, xl.length = m := ⟨_, rfl⟩
      rw [hLN] at b3 b4
      obtain ⟨nms, hnms⟩ : ∃ s : ByteArray, (⟨nm.toArray⟩ : ByteArray) = s := ⟨_, rfl⟩
      have hnz : nms.data.toList = nm := by rw [← hnms]
      have hns : nms.size ≤ 60 := by rw [← hnms, ba_size]; exact hnl
      have nmc : W5.cell? ⟨nb, no + k, none⟩ = some (.string nms) := by rw [← hnms]; exact nmc
      have hbl1 : b < W5.heap.size := World.block_lt_of_cell? _ _ b1
      have hbl2 : nb < W5.heap.size := World.block_lt_of_cell? _ _ nmc
      have HR6 : Hid (∀ W, Below W5.heap.size W5 W → W.cell? ⟨sb, 0, none⟩ = some (.slice (some ⟨nb, no, none⟩) N nc) ∧ W.cell? ⟨sb, 1, none⟩ = some (.slice (some ⟨b, o, none⟩) N bc) ∧ W.cell? ⟨nb, no + k, none⟩ = some (.string nms) ∧ W.cell? ⟨b, o + k * 3, none⟩ = some (.int .i64 xv) ∧ W.cell? ⟨b, o + k * 3 + 1, none⟩ = some (.int .i64 xn)) := fun W hW =>
        ⟨(HR0.out W hW).1, (HR0.out W hW).2, (hW.cell (p := ⟨nb, _, none⟩) hbl2).trans nmc, (hW.cell (p := ⟨b, _, none⟩) hbl1).trans b1, (hW.cell (p := ⟨b, _, none⟩) hbl1).trans b2⟩
      have HR8 : Hid (∀ W, Below W5.heap.size W5 W → W.cell? ⟨b, o + k * 3 + 2, none⟩ = some (.slice la LN lc)) := fun W hW => (hW.cell (p := ⟨b, _, none⟩) hbl1).trans b3
      have HLT : Hid (Lts W5 (.slice la LN lc) xl ∧ xl.length = LN ∧ LN ≤ 60 ∧ (∀ y ∈ xl, PlainL y) ∧ (∀ y ∈ xl, 1 ≤ y.uid ∧ y.uid ≤ 1000)) := by
        have g1 : xl.length ≤ 60 := hg.most
        have g2 : xn ≤ (K : Int) + 1 := hg.next
        have g3 := hKK.2.2.2.2
        refine ⟨b4, hLN, by omega, hg.plain, fun y hy => ?_⟩
        have g4 : 1 ≤ y.uid ∧ y.uid < xn := hg.inv.uid y hy
        omega
      have hvb : 0 ≤ xv ∧ xv ≤ 9000000000 := by
        have g1 : 1 ≤ xv ∧ xv < nx := hg.num
        have g2 := hKK.1
        have g3 := hKK.2.2.2.2
        omega
      have hnb2 : 0 ≤ xn ∧ xn ≤ 9000000000 := by
        have g1 : xn ≤ (K : Int) + 1 := hg.next
        have g2 : 1 ≤ xn := hg.inv.next
        have g3 := hKK.2.2.2.2
        omega
      obtain ⟨IV, hIV⟩ : ∃ s : ByteArray, (⟨(Lib.itoa xv).toArray⟩ : ByteArray) = s := ⟨_, rfl⟩
      obtain ⟨IN, hIN⟩ : ∃ s : ByteArray, (⟨(Lib.itoa xn).toArray⟩ : ByteArray) = s := ⟨_, rfl⟩
      have cV : ∀ W, Below W5.heap.size W5 W → Calls Tryz.prog 79 #[.int .i64 xv] W fun e w' => e = .returned (.string IV) ∧ Below W.heap.size W w' := fun W hW => by
        rw [← hIV]
        exact HIT.out xv W (HB5.out.trans (hW.mono HB5.out.size)) hvb
      have cN : ∀ W, Below W5.heap.size W5 W → Calls Tryz.prog 79 #[.int .i64 xn] W fun e w' => e = .returned (.string IN) ∧ Below W.heap.size W w' := fun W hW => by
        rw [← hIN]
        exact HIT.out xn W (HB5.out.trans (hW.mono HB5.out.size)) hnb2
      have hIVz : IV.size ≤ 21 := by rw [← hIV, ba_size]; exact itoa21 hvb
      have hINz : IN.size ≤ 21 := by rw [← hIN, ba_size]; exact itoa21 hnb2
      have htz := HI.out.2.1
      have q1 : (9223372036854775807 < 1 + nms.size) = False := eq_false (by omega)
      have q2 : (9223372036854775807 < 1 + nms.size + 1) = False := eq_false (by omega)
      have q3 : (9223372036854775807 < 1 + nms.size + 1 + IV.size) = False := eq_false (by omega)
      have q4 : (9223372036854775807 < 1 + nms.size + 1 + IV.size + 1) = False := eq_false (by omega)
      have q5 : (9223372036854775807 < 1 + nms.size + 1 + IV.size + 1 + IN.size) = False := eq_false (by omega)
      have q6 : (9223372036854775807 < t.size + (1 + nms.size + 1 + IV.size + 1 + IN.size)) = False := eq_false (by omega)
      obtain ⟨T1, hT1⟩ : ∃ s : ByteArray, t ++ (⟨#[124]⟩ ++ nms ++ ⟨#[32]⟩ ++ IV ++ ⟨#[32]⟩ ++ IN) = s := ⟨_, rfl⟩
      have HT1 : Hid (T1.data.toList = (frontL S ++ ((S.names.zip S.boxes).take k).flatMap boxL) ++ headL nm ⟨xv, xn, xl⟩ ∧ T1.size ≤ 4000 + k * 12000 + 110 ∧ (S.names.zip S.boxes)[k]? = some (nm, ⟨xv, xn, xl⟩)) := by
        rw [← hT1]
        refine ⟨?_, ?_, hzk⟩
        · rw [hcat_list, HI.out.1, hcat_list, hcat_list, hcat_list, hcat_list, hcat_list, hnz, ← hIV, ← hIN]
          unfold headL
          simp
        · rw [hcat_size, hcat_size, hcat_size, hcat_size, hcat_size, hcat_size]
          show t.size + (1 + nms.size + 1 + IV.size + 1 + IN.size) ≤ _
          omega
      have HWR : Hid (Below W5.heap.size W5 wr) := HI.out.2.2
      obtain ⟨p0, p1, p2, p3, p4⟩ := HR6.out wr HWR.out
      obtain ⟨WD, hWD⟩ : ∃ W, wr.drew = W := ⟨_, rfl⟩
      have hbD : Hid (Below W5.heap.size W5 WD) := by rw [← hWD]; exact HWR.out.drew
      clear HI hnk hxk hg hnl hzk hnc nmc b1 b2 b3 b4 hnms hnz hns hbl1 hbl2 hvb hnb2 hIV hIN hIVz hINz htz hKK hLN
      go_upto_region 6 with fail
      refine wp_region_held_drew (S := fun W => W.cell? ⟨sb, 0, none⟩ = some (.slice (some ⟨nb, no, none⟩) N nc) ∧ W.cell? ⟨sb, 1, none⟩ = some (.slice (some ⟨b, o, none⟩) N bc) ∧ W.cell? ⟨nb, no + k, none⟩ = some (.string nms) ∧ W.cell? ⟨b, o + k * 3, none⟩ = some (.int .i64 xv) ∧ W.cell? ⟨b, o + k * 3 + 1, none⟩ = some (.int .i64 xn)) (by kernel_rfl) ?_ (fun hHeld => ?_)
      · exact ⟨by simpa using p0, by simpa using p1, by simpa using p2, by simpa using p3, by simpa using p4⟩
      rw [hWD] at hHeld ⊢
      refine wpAnyH_take (i := 0) (v := ?_) rfl (by kernel_rfl) (by kernel_rfl) (by kernel_rfl) (fun _ _ _ h => h) (Or.inl ⟨by rfl, ?_⟩) (by first | assumption | trivial) ?_
      rotate_left
      · intro w hSw; go_simp; (try with_reducible rfl)
      change wpAnyH _ _ _ _ _ _ _ (Act.put _ (some 24) _) _; simp only [Act.put, List.setIfInBounds_toArray, List.set_cons_zero, List.set_cons_succ]
      refine wpAnyH_take (i := 1) (v := ?_) rfl (by kernel_rfl) (by kernel_rfl) (by kernel_rfl) (fun _ _ _ h => h) (Or.inl ⟨by rfl, ?_⟩) (by first | assumption | trivial) ?_
      rotate_left
      · intro w hSw; go_simp; (try with_reducible rfl)
      change wpAnyH _ _ _ _ _ _ _ (Act.put _ (some 25) _) _; simp only [Act.put, List.setIfInBounds_toArray, List.set_cons_zero, List.set_cons_succ]
      refine wpAnyH_take (i := 2) (v := ?_) rfl (by kernel_rfl) (by kernel_rfl) (by kernel_rfl) (fun _ _ _ h => h) (Or.inl ⟨by rfl, ?_⟩) (by first | assumption | trivial) ?_
      rotate_left
      · intro w hSw; go_simp; (try with_reducible rfl)
      change wpAnyH _ _ _ _ _ _ _ (Act.put _ (some 26) _) _; simp only [Act.put, List.setIfInBounds_toArray, List.set_cons_zero, List.set_cons_succ]
      refine wpAnyH_take (i := 3) (v := ?_) rfl (by kernel_rfl) (by kernel_rfl) (by kernel_rfl) (fun _ _ _ h => h) (Or.inl ⟨by rfl, ?_⟩) (by first | assumption | trivial) ?_
      rotate_left
      · intro w hSw; go_simp; (try with_reducible rfl)
      change wpAnyH _ _ _ _ _ _ _ (Act.put _ (some 27) _) _; simp only [Act.put, List.setIfInBounds_toArray, List.set_cons_zero, List.set_cons_succ]
      refine wpAnyH_take (i := 4) (v := ?_) rfl (by kernel_rfl) (by kernel_rfl) (by kernel_rfl) (fun _ _ _ h => h) (Or.inl ⟨by rfl, ?_⟩) (by first | assumption | trivial) ?_
      rotate_left
      · intro w hSw; go_simp; (try with_reducible rfl)
      change wpAnyH _ _ _ _ _ _ _ (Act.put _ (some 28) _) _; simp only [Act.put, List.setIfInBounds_toArray, List.set_cons_zero, List.set_cons_succ]
      refine wpAnyH_take (i := 5) (v := ?_) rfl (by kernel_rfl) (by kernel_rfl) (by kernel_rfl) (fun _ _ _ h => h) (Or.inl ⟨by rfl, ?_⟩) (by first | assumption | trivial) ?_
      rotate_left
      · intro w hSw; go_simp; (try with_reducible rfl)
      change wpAnyH _ _ _ _ _ _ _ (Act.put _ (some 29) _) _; simp only [Act.put, List.setIfInBounds_toArray, List.set_cons_zero, List.set_cons_succ]
      refine wpAnyH_take (i := 6) (v := ?_) rfl (by kernel_rfl) (by kernel_rfl) (by kernel_rfl) (fun _ _ _ h => h) (Or.inl ⟨by rfl, ?_⟩) (by first | assumption | trivial) ?_
      rotate_left
      · intro w hSw; go_simp; (try with_reducible rfl)
      change wpAnyH _ _ _ _ _ _ _ (Act.put _ (some 30) _) _; simp only [Act.put, List.setIfInBounds_toArray, List.set_cons_zero, List.set_cons_succ]
      refine wpAnyH_take (i := 7) (v := ?_) rfl (by kernel_rfl) (by kernel_rfl) (by kernel_rfl) (fun _ _ _ h => h) (Or.inl ⟨by rfl, ?_⟩) (by first | assumption | trivial) ?_
      rotate_left
      · intro w hSw; go_simp; (try with_reducible rfl)
      change wpAnyH _ _ _ _ _ _ _ (Act.put _ (some 31) _) _; simp only [Act.put, List.setIfInBounds_toArray, List.set_cons_zero, List.set_cons_succ]
      refine wpAnyH_take (i := 8) (v := ?_) rfl (by kernel_rfl) (by kernel_rfl) (by kernel_rfl) (fun _ _ _ h => h) (Or.inl ⟨by rfl, ?_⟩) (by first | assumption | trivial) ?_
      rotate_left
      · intro w hSw; go_simp; (try with_reducible rfl)
      change wpAnyH _ _ _ _ _ _ _ (Act.put _ (some 32) _) _; simp only [Act.put, List.setIfInBounds_toArray, List.set_cons_zero, List.set_cons_succ]
      refine wpAnyH_take (i := 9) (v := ?_) rfl (by kernel_rfl) (by kernel_rfl) (by kernel_rfl) (fun _ _ _ h => h) (Or.inl ⟨by rfl, ?_⟩) (by first | assumption | trivial) ?_
      rotate_left
      · intro w hSw; go_simp; (try with_reducible rfl)
      change wpAnyH _ _ _ _ _ _ _ (Act.put _ (some 33) _) _; simp only [Act.put, List.setIfInBounds_toArray, List.set_cons_zero, List.set_cons_succ]
      refine wpAnyH_take (i := 10) (v := ?_) rfl (by kernel_rfl) (by kernel_rfl) (by kernel_rfl) (fun _ _ _ h => h) (Or.inl ⟨by rfl, ?_⟩) (by first | assumption | trivial) ?_
      rotate_left
      · intro w hSw; go_simp; (try with_reducible rfl)
      change wpAnyH _ _ _ _ _ _ _ (Act.put _ (some 34) _) _; simp only [Act.put, List.setIfInBounds_toArray, List.set_cons_zero, List.set_cons_succ]
      refine wpAnyH_take (i := 11) (v := ?_) rfl (by kernel_rfl) (by kernel_rfl) (by kernel_rfl) (fun _ _ _ h => h) (Or.inl ⟨by rfl, ?_⟩) (by first | assumption | trivial) ?_
      rotate_left
      · intro w hSw; go_simp; (try with_reducible rfl)
      change wpAnyH _ _ _ _ _ _ _ (Act.put _ (some 35) _) _; simp only [Act.put, List.setIfInBounds_toArray, List.set_cons_zero, List.set_cons_succ]
      refine wpAnyH_take (i := 12) (v := ?_) rfl (by kernel_rfl) (by kernel_rfl) (by kernel_rfl) (fun _ _ _ h => h) (Or.inl ⟨by rfl, ?_⟩) (by first | assumption | trivial) ?_
      rotate_left
      · intro w hSw; go_simp; (try with_reducible rfl)
      change wpAnyH _ _ _ _ _ _ _ (Act.put _ (some 36) _) _; simp only [Act.put, List.setIfInBounds_toArray, List.set_cons_zero, List.set_cons_succ]
      refine wpAnyH_take (i := 13) (v := ?_) rfl (by kernel_rfl) (by kernel_rfl) (by kernel_rfl) (fun _ _ _ h => h) (Or.inl ⟨by rfl, ?_⟩) (by first | assumption | trivial) ?_
      rotate_left
      · intro w hSw; go_simp; (try with_reducible rfl)
      change wpAnyH _ _ _ _ _ _ _ (Act.put _ (some 37) _) _; simp only [Act.put, List.setIfInBounds_toArray, List.set_cons_zero, List.set_cons_succ]
      refine wpAnyH_take (i := 17) (v := ?_) rfl (by kernel_rfl) (by kernel_rfl) (by kernel_rfl) (fun _ _ _ h => h) (Or.inl ⟨by rfl, ?_⟩) (by first | assumption | trivial) ?_
      rotate_left
      · intro w hSw; go_simp; (try with_reducible rfl)
      change wpAnyH _ _ _ _ _ _ _ (Act.put _ (some 41) _) _; simp only [Act.put, List.setIfInBounds_toArray, List.set_cons_zero, List.set_cons_succ]
      refine wpAnyH_take (i := 18) (v := ?_) rfl (by kernel_rfl) (by kernel_rfl) (by kernel_rfl) (fun _ _ _ h => h) (Or.inl ⟨by rfl, ?_⟩) (by first | assumption | trivial) ?_
      rotate_left
      · intro w hSw; go_simp; (try with_reducible rfl)
      change wpAnyH _ _ _ _ _ _ _ (Act.put _ (some 42) _) _; simp only [Act.put, List.setIfInBounds_toArray, List.set_cons_zero, List.set_cons_succ]
      refine wpAnyH_take (i := 19) (v := ?_) rfl (by kernel_rfl) (by kernel_rfl) (by kernel_rfl) (fun _ _ _ h => h) (Or.inl ⟨by rfl, ?_⟩) (by first | assumption | trivial) ?_
      rotate_left
      · intro w hSw; go_simp; (try with_reducible rfl)
      change wpAnyH _ _ _ _ _ _ _ (Act.put _ (some 43) _) _; simp only [Act.put, List.setIfInBounds_toArray, List.set_cons_zero, List.set_cons_succ]
      refine wpAnyH_take (i := 20) (v := ?_) rfl (by kernel_rfl) (by kernel_rfl) (by kernel_rfl) (fun _ _ _ h => h) (Or.inl ⟨by rfl, ?_⟩) (by first | assumption | trivial) ?_
      rotate_left
      · intro w hSw; go_simp; (try with_reducible rfl)
      change wpAnyH _ _ _ _ _ _ _ (Act.put _ (some 44) _) _; simp only [Act.put, List.setIfInBounds_toArray, List.set_cons_zero, List.set_cons_succ]
      refine wpAnyH_take (i := 21) (v := ?_) rfl (by kernel_rfl) (by kernel_rfl) (by kernel_rfl) (fun _ _ _ h => h) (Or.inl ⟨by rfl, ?_⟩) (by first | assumption | trivial) ?_
      rotate_left
      · intro w hSw; go_simp; (try with_reducible rfl)
      change wpAnyH _ _ _ _ _ _ _ (Act.put _ (some 45) _) _; simp only [Act.put, List.setIfInBounds_toArray, List.set_cons_zero, List.set_cons_succ]
      refine wpAnyH_take (i := 22) (v := ?_) rfl (by kernel_rfl) (by kernel_rfl) (by kernel_rfl) (fun _ _ _ h => h) (Or.inl ⟨by rfl, ?_⟩) (by first | assumption | trivial) ?_
      rotate_left
      · intro w hSw; go_simp; (try with_reducible rfl)
      change wpAnyH _ _ _ _ _ _ _ (Act.put _ (some 46) _) _; simp only [Act.put, List.setIfInBounds_toArray, List.set_cons_zero, List.set_cons_succ]
      refine wpAnyH_ready (rs := [14]) (by kernel_rfl) (by simp) ?_
      refine AllReadyH.cons rfl (fun K hK => ?_) AllReadyH.nil
      go_simp
      refine (cV WD hbD.out).mono ?_
      rintro e w7 ⟨rfl, hb7⟩
      have hl7 : Below W5.heap.size W5 w7 := hbD.out.trans (hb7.mono hbD.out.size)
      have k7 := HR6.out w7 hl7
      refine hK.out _ _ ?_ (fun hHeld => ?_)
      · exact k7
      clear hK K
      refine wpAnyH_take (i := 15) (v := ?_) rfl (by kernel_rfl) (by kernel_rfl) (by kernel_rfl) (fun _ _ _ h => h) (Or.inl ⟨by rfl, ?_⟩) (by first | assumption | trivial) ?_
      rotate_left
      · intro w hSw; go_simp; (try with_reducible rfl)
      change wpAnyH _ _ _ _ _ _ _ (Act.put _ (some 39) _) _; simp only [Act.put, List.setIfInBounds_toArray, List.set_cons_zero, List.set_cons_succ]
      refine wpAnyH_take (i := 16) (v := ?_) rfl (by kernel_rfl) (by kernel_rfl) (by kernel_rfl) (fun _ _ _ h => h) (Or.inl ⟨by rfl, ?_⟩) (by first | assumption | trivial) ?_
      rotate_left
      · intro w hSw; go_simp; (try with_reducible rfl)
      change wpAnyH _ _ _ _ _ _ _ (Act.put _ (some 40) _) _; simp only [Act.put, List.setIfInBounds_toArray, List.set_cons_zero, List.set_cons_succ]
      refine wpAnyH_ready (rs := [23]) (by kernel_rfl) (by simp) ?_
      refine AllReadyH.cons rfl (fun K hK => ?_) AllReadyH.nil
      go_simp
      refine (cN w7 hl7).mono ?_
      rintro e w8 ⟨rfl, hb8⟩
      have hl8 : Below W5.heap.size W5 w8 := hl7.trans (hb8.mono hl7.size)
      have k8 := HR6.out w8 hl8
      refine hK.out _ _ ?_ (fun hHeld => ?_)
      · exact k8
      clear hK K
      refine wpAnyH_take (i := 24) (v := ?_) rfl (by kernel_rfl) (by kernel_rfl) (by kernel_rfl) (fun _ _ _ h => h) (Or.inl ⟨by rfl, ?_⟩) (by first | assumption | trivial) ?_
      rotate_left
      · intro w hSw; go_simp; (try with_reducible rfl)
      change wpAnyH _ _ _ _ _ _ _ (Act.put _ (some 48) _) _; simp only [Act.put, List.setIfInBounds_toArray, List.set_cons_zero, List.set_cons_succ]
      refine wpAnyH_take (i := 25) (v := ?_) rfl (by kernel_rfl) (by kernel_rfl) (by kernel_rfl) (fun _ _ _ h => h) (Or.inl ⟨by rfl, ?_⟩) (by first | assumption | trivial) ?_
      rotate_left
      · intro w hSw; go_simp; (try with_reducible rfl)
      change wpAnyH _ _ _ _ _ _ _ (Act.put _ (some 49) _) _; simp only [Act.put, List.setIfInBounds_toArray, List.set_cons_zero, List.set_cons_succ]
      refine wpAnyH_take (i := 26) (v := ?_) rfl (by kernel_rfl) (by kernel_rfl) (by kernel_rfl) (fun _ _ _ h => h) (Or.inl ⟨by rfl, ?_⟩) (by first | assumption | trivial) ?_
      rotate_left
      · intro w hSw; go_simp; (try with_reducible rfl)
      change wpAnyH _ _ _ _ _ _ _ (Act.put _ (some 4) _) _; simp only [Act.put, List.setIfInBounds_toArray, List.set_cons_zero, List.set_cons_succ]
      refine wpAnyH_done (by kernel_rfl) ?_ _
      clear hHeld
      have HL8 : Hid (Below W5.heap.size W5 w8) := hl8
      have u1 := (HR0.out w8 hl8).2
      have u2 := HR8.out w8 hl8
      clear hT1 q1 q2 q3 q4 q5 q6 k7 k8 hb7 hb8 hl7 hl8 cV cN hbD p0 p1 p2 p3 p4 hWD
      go_wp2_with fail
      go_loopw [4, 6] (fun ov jv wr => ∃ (j : Nat) (t2 : ByteArray), jv = .int .i64 (j : Int) ∧ j ≤ LN ∧ ov = .string t2 ∧ Hid (t2.data.toList = ((frontL S ++ ((S.names.zip S.boxes).take k).flatMap boxL) ++ headL nm ⟨xv, xn, xl⟩) ++ (xl.take j).flatMap lineL ∧ t2.size ≤ 4000 + k * 12000 + 110 + j * 170 ∧ Below W5.heap.size W5 wr)) (fun _ jv _ => LN - (intOf jv).toNat)
      case atStart => exact ⟨0, T1, rfl, Nat.zero_le _, rfl, by rw [HT1.out.1]; simp, HT1.out.2.1, HL8.out⟩
      case round =>
        clear HL8 u1 u2
        obtain ⟨j, t2, rfl, hj, rfl, HJ⟩ := hrel
        have u1 := (HR0.out _ HJ.out.2.2).2
        have u2 := HR8.out _ HJ.out.2.2
        have hLN45 : LN ≤ 60 := HLT.out.2.2.1
        by_cases hjl : j < LN
        · have d2 : decide ((j : Int) < (LN : Int)) = true := decide_eq_true (by omega)
          have i3 : (0 : Int) ≤ (j : Int) := by omega
          have i4 : (j : Int) < (LN : Int) := by omega
          obtain ⟨y, hyj⟩ : ∃ y, xl[j]? = some y := ⟨_, List.getElem?_eq_getElem (by have := HLT.out.2.1; omega)⟩
          obtain ⟨hp1, hp2, hp3⟩ := HLT.out.2.2.2.1 y (List.mem_of_getElem? hyj)
          have hyu := HLT.out.2.2.2.2 y (List.mem_of_getElem? hyj)
          obtain ⟨a9, c9, e9, _, h9⟩ := HLT.out.1
          injection e9 with e9 _ _
          subst e9
          obtain ⟨lb, lo, rfl, h8⟩ : ∃ b o, la = some ⟨b, o, none⟩ ∧ ∀ (j : Nat) x, xl[j]? = some x → LtAt W5 b (o + j * 4) x := by
            rcases h9 with h9 | h9
            · rw [h9] at hyj
              simp at hyj
            · exact h9
          obtain ⟨y0, ⟨fv, y1, y1s⟩, y2, y3⟩ := h8 j y hyj
          rw [hp1] at y1s
          rw [hp2] at y2
          obtain ⟨fa, fc, rfl, _⟩ : ∃ a c, fv = .slice a 0 c ∧ True := by obtain ⟨a, c, e, _⟩ := y1s; exact ⟨a, c, e, trivial⟩
          obtain ⟨yu, hyu0⟩ : ∃ n, y.uid = n := ⟨_, rfl⟩
          obtain ⟨yt, hyt⟩ : ∃ s : ByteArray, (⟨y.text.toArray⟩ : ByteArray) = s := ⟨_, rfl⟩
          rw [hyu0] at y0 hyu
          rw [hyt] at y3
          have hytz : yt.size ≤ 100 := by rw [← hyt, ba_size]; exact hp3
          have hytl : yt.data.toList = y.text := by rw [← hyt]
          have hyts : y.text.length = yt.size := by rw [← hyt, ba_size]
          have hlbl : lb < W5.heap.size := World.block_lt_of_cell? _ _ y0
          have v0 : wr.cell? ⟨lb, lo + j * 4, none⟩ = some (.int .i64 yu) := (HJ.out.2.2.cell (p := ⟨lb, _, none⟩) hlbl).trans y0
          have v1 : wr.cell? ⟨lb, lo + j * 4 + 1, none⟩ = some (.slice fa 0 fc) := (HJ.out.2.2.cell (p := ⟨lb, _, none⟩) hlbl).trans y1
          have v2 : wr.cell? ⟨lb, lo + j * 4 + 2, none⟩ = some (.int .i64 1) := (HJ.out.2.2.cell (p := ⟨lb, _, none⟩) hlbl).trans y2
          have v3 : wr.cell? ⟨lb, lo + j * 4 + 3, none⟩ = some (.string yt) := (HJ.out.2.2.cell (p := ⟨lb, _, none⟩) hlbl).trans y3
          have b1 : Below wr.heap.size wr (wr.alloc (.cells #[.int .i64 yu, .slice fa 0 fc, .int .i64 1, .string yt] 71)) := (Below.refl _ _).alloc (Nat.le_refl _) _
          have e1 := heap_alloc_new wr (.cells #[.int .i64 yu, .slice fa 0 fc, .int .i64 1, .string yt] 71)
          obtain ⟨yb, hyb⟩ : ∃ n, wr.heap.size = n := ⟨_, rfl⟩
          obtain ⟨W1, hW1⟩ : ∃ W, wr.alloc (.cells #[.int .i64 yu, .slice fa 0 fc, .int .i64 1, .string yt] 71) = W := ⟨_, rfl⟩
          rw [hW1] at b1 e1
          have hB1 : Hid (Below W5.heap.size W5 W1) := HJ.out.2.2.trans (b1.mono HJ.out.2.2.size)
          rw [hyb] at e1
          have hybl : yb < W1.heap.size := (Array.getElem?_eq_some_iff.1 e1).1
          have HR11 : Hid (∀ W, Below W1.heap.size W1 W → W.cell? ⟨yb, 0, none⟩ = some (.int .i64 yu) ∧ W.cell? ⟨yb, 1, none⟩ = some (.slice fa 0 fc) ∧ W.cell? ⟨yb, 2, none⟩ = some (.int .i64 1) ∧ W.cell? ⟨yb, 3, none⟩ = some (.string yt)) := fun W hW => by
            have e6 := (hW.block _ hybl).trans e1
            exact ⟨rd_cell e6 rfl, rd_cell e6 rfl, rd_cell e6 rfl, rd_cell e6 rfl⟩
          obtain ⟨z0, z1, z2, z3⟩ := HR11.out W1 (Below.refl _ _)
          obtain ⟨WE, hWE⟩ : ∃ W, W1.drew = W := ⟨_, rfl⟩
          have hbE : Hid (Below W1.heap.size W1 WE) := by rw [← hWE]; exact (Below.refl _ _).drew
          obtain ⟨IU, hIU⟩ : ∃ s : ByteArray, (⟨(Lib.itoa yu).toArray⟩ : ByteArray) = s := ⟨_, rfl⟩
          obtain ⟨ID, hID⟩ : ∃ s : ByteArray, (⟨(Lib.itoa 1).toArray⟩ : ByteArray) = s := ⟨_, rfl⟩
          obtain ⟨IL, hIL⟩ : ∃ s : ByteArray, (⟨(Lib.itoa (yt.size : Int)).toArray⟩ : ByteArray) = s := ⟨_, rfl⟩
          obtain ⟨PF, hPF⟩ : ∃ s : ByteArray, s.data.toList = [40, 41] := ⟨⟨#[40, 41]⟩, rfl⟩
          have hlw : ∀ W, Below W1.heap.size W1 W → Below w.heap.size w W := fun W hW => HB5.out.trans ((hB1.out.trans (hW.mono hB1.out.size)).mono HB5.out.size)
          have cU : ∀ W, Below W1.heap.size W1 W → Calls Tryz.prog 79 #[.int .i64 yu] W fun e w' => e = .returned (.string IU) ∧ Below W.heap.size W w' := fun W hW => by
            rw [← hIU]
            exact HIT.out yu W (hlw W hW) (by omega)
          have cD : ∀ W, Below W1.heap.size W1 W → Calls Tryz.prog 79 #[.int .i64 1] W fun e w' => e = .returned (.string ID) ∧ Below W.heap.size W w' := fun W hW => by
            rw [← hID]
            exact HIT.out 1 W (hlw W hW) (by omega)
          have cL : ∀ W, Below W1.heap.size W1 W → Calls Tryz.prog 79 #[.int .i64 (yt.size : Int)] W fun e w' => e = .returned (.string IL) ∧ Below W.heap.size W w' := fun W hW => by
            rw [← hIL]
            exact HIT.out _ W (hlw W hW) (by omega)
          have cF : ∀ W, Below W1.heap.size W1 W → Calls Tryz.prog 81 #[.slice fa 0 fc] W fun e w' => e = .returned (.string PF) ∧ Below W.heap.size W w' := fun W _ => (print_none fa fc W).mono fun e w' ⟨⟨s, h1, h2⟩, h3⟩ => ⟨by rw [h1, ba_list h2, ba_list hPF], by rw [h3]; exact Below.refl _ _⟩
          have hIUz : IU.size ≤ 21 := by rw [← hIU, ba_size]; exact itoa21 (by omega)
          have hIDz : ID.size ≤ 21 := by rw [← hID, ba_size]; exact itoa21 (by omega)
          have hILz : IL.size ≤ 21 := by rw [← hIL, ba_size]; exact itoa21 (by omega)
          have hPFz : PF.size = 2 := by rw [ba_list hPF, ba_size]; rfl
          have htz := HJ.out.2.1
          have q1 : (9223372036854775807 < 1 + IU.size) = False := eq_false (by omega)
          have q2 : (9223372036854775807 < 1 + IU.size + PF.size) = False := eq_false (by omega)
          have q3 : (9223372036854775807 < 1 + IU.size + PF.size + ID.size) = False := eq_false (by omega)
          have q4 : (9223372036854775807 < 1 + IU.size + PF.size + ID.size + 1) = False := eq_false (by omega)
          have q5 : (9223372036854775807 < 1 + IU.size + PF.size + ID.size + 1 + IL.size) = False := eq_false (by omega)
          have q6 : (9223372036854775807 < 1 + IU.size + PF.size + ID.size + 1 + IL.size + yt.size) = False := eq_false (by omega)
          have q7 : (9223372036854775807 < t2.size + (1 + IU.size + PF.size + ID.size + 1 + IL.size + yt.size)) = False := eq_false (by omega)
          obtain ⟨T2, hT2⟩ : ∃ s : ByteArray, t2 ++ (⟨#[32]⟩ ++ IU ++ PF ++ ID ++ ⟨#[58]⟩ ++ IL ++ yt) = s := ⟨_, rfl⟩
          have HT2 : Hid (T2.data.toList = ((frontL S ++ ((S.names.zip S.boxes).take k).flatMap boxL) ++ headL nm ⟨xv, xn, xl⟩) ++ (xl.take (j + 1)).flatMap lineL ∧ T2.size ≤ 4000 + k * 12000 + 110 + (j + 1) * 170) := by
            rw [← hT2, flat_next hyj]
            refine ⟨?_, ?_⟩
            · rw [hcat_list, HJ.out.1, hcat_list, hcat_list, hcat_list, hcat_list, hcat_list, hcat_list, hPF, hytl, ← hIU, ← hID, ← hIL]
              unfold lineL
              rw [hp2, hyu0, hyts]
              simp
            · rw [hcat_size, hcat_size, hcat_size, hcat_size, hcat_size, hcat_size, hcat_size]
              show t2.size + (1 + IU.size + PF.size + ID.size + 1 + IL.size + yt.size) ≤ _
              omega
          have hk45 : k ≤ 30 := by omega
          have HWX : Hid (Below W5.heap.size W5 W1) := hB1.out
          clear HJ hyj hp1 hp2 hp3 hyu h9 h8 y0 y1 y1s y2 y3 hyu0 hyt hytl hyts hlbl b1 e1 hybl hlw hIU hID hIL hPF hIUz hIDz hILz hPFz htz hB1
          go_upto_region 11 with fail
          refine wp_region_held_drew (S := fun W => W.cell? ⟨yb, 0, none⟩ = some (.int .i64 yu) ∧ W.cell? ⟨yb, 1, none⟩ = some (.slice fa 0 fc) ∧ W.cell? ⟨yb, 2, none⟩ = some (.int .i64 1) ∧ W.cell? ⟨yb, 3, none⟩ = some (.string yt)) (by kernel_rfl) ?_ (fun hHeld => ?_)
          · exact ⟨by simpa using z0, by simpa using z1, by simpa using z2, by simpa using z3⟩
          rw [hWE] at hHeld ⊢
          refine wpAnyH_take (i := 0) (v := ?_) rfl (by kernel_rfl) (by kernel_rfl) (by kernel_rfl) (fun _ _ _ h => h) (Or.inl ⟨by rfl, ?_⟩) (by first | assumption | trivial) ?_
          rotate_left
          · intro w hSw; go_simp; (try with_reducible rfl)
          change wpAnyH _ _ _ _ _ _ _ (Act.put _ (some 70) _) _; simp only [Act.put, List.setIfInBounds_toArray, List.set_cons_zero, List.set_cons_succ]
          refine wpAnyH_take (i := 1) (v := ?_) rfl (by kernel_rfl) (by kernel_rfl) (by kernel_rfl) (fun _ _ _ h => h) (Or.inl ⟨by rfl, ?_⟩) (by first | assumption | trivial) ?_
          rotate_left
          · intro w hSw; go_simp; (try with_reducible rfl)
          change wpAnyH _ _ _ _ _ _ _ (Act.put _ (some 71) _) _; simp only [Act.put, List.setIfInBounds_toArray, List.set_cons_zero, List.set_cons_succ]
          refine wpAnyH_take (i := 2) (v := ?_) rfl (by kernel_rfl) (by kernel_rfl) (by kernel_rfl) (fun _ _ _ h => h) (Or.inl ⟨by rfl, ?_⟩) (by first | assumption | trivial) ?_
          rotate_left
          · intro w hSw; go_simp; (try with_reducible rfl)
          change wpAnyH _ _ _ _ _ _ _ (Act.put _ (some 72) _) _; simp only [Act.put, List.setIfInBounds_toArray, List.set_cons_zero, List.set_cons_succ]
          refine wpAnyH_take (i := 5) (v := ?_) rfl (by kernel_rfl) (by kernel_rfl) (by kernel_rfl) (fun _ _ _ h => h) (Or.inl ⟨by rfl, ?_⟩) (by first | assumption | trivial) ?_
          rotate_left
          · intro w hSw; go_simp; (try with_reducible rfl)
          change wpAnyH _ _ _ _ _ _ _ (Act.put _ (some 75) _) _; simp only [Act.put, List.setIfInBounds_toArray, List.set_cons_zero, List.set_cons_succ]
          refine wpAnyH_take (i := 6) (v := ?_) rfl (by kernel_rfl) (by kernel_rfl) (by kernel_rfl) (fun _ _ _ h => h) (Or.inl ⟨by rfl, ?_⟩) (by first | assumption | trivial) ?_
          rotate_left
          · intro w hSw; go_simp; (try with_reducible rfl)
          change wpAnyH _ _ _ _ _ _ _ (Act.put _ (some 76) _) _; simp only [Act.put, List.setIfInBounds_toArray, List.set_cons_zero, List.set_cons_succ]
          refine wpAnyH_take (i := 9) (v := ?_) rfl (by kernel_rfl) (by kernel_rfl) (by kernel_rfl) (fun _ _ _ h => h) (Or.inl ⟨by rfl, ?_⟩) (by first | assumption | trivial) ?_
          rotate_left
          · intro w hSw; go_simp; (try with_reducible rfl)
          change wpAnyH _ _ _ _ _ _ _ (Act.put _ (some 79) _) _; simp only [Act.put, List.setIfInBounds_toArray, List.set_cons_zero, List.set_cons_succ]
          refine wpAnyH_take (i := 10) (v := ?_) rfl (by kernel_rfl) (by kernel_rfl) (by kernel_rfl) (fun _ _ _ h => h) (Or.inl ⟨by rfl, ?_⟩) (by first | assumption | trivial) ?_
          rotate_left
          · intro w hSw; go_simp; (try with_reducible rfl)
          change wpAnyH _ _ _ _ _ _ _ (Act.put _ (some 80) _) _; simp only [Act.put, List.setIfInBounds_toArray, List.set_cons_zero, List.set_cons_succ]
          refine wpAnyH_take (i := 14) (v := ?_) rfl (by kernel_rfl) (by kernel_rfl) (by kernel_rfl) (fun _ _ _ h => h) (Or.inl ⟨by rfl, ?_⟩) (by first | assumption | trivial) ?_
          rotate_left
          · intro w hSw; go_simp; (try with_reducible rfl)
          change wpAnyH _ _ _ _ _ _ _ (Act.put _ (some 84) _) _; simp only [Act.put, List.setIfInBounds_toArray, List.set_cons_zero, List.set_cons_succ]
          refine wpAnyH_take (i := 15) (v := ?_) rfl (by kernel_rfl) (by kernel_rfl) (by kernel_rfl) (fun _ _ _ h => h) (Or.inl ⟨by rfl, ?_⟩) (by first | assumption | trivial) ?_
          rotate_left
          · intro w hSw; go_simp; (try with_reducible rfl)
          change wpAnyH _ _ _ _ _ _ _ (Act.put _ (some 85) _) _; simp only [Act.put, List.setIfInBounds_toArray, List.set_cons_zero, List.set_cons_succ]
          refine wpAnyH_take (i := 16) (v := ?_) rfl (by kernel_rfl) (by kernel_rfl) (by kernel_rfl) (fun _ _ _ h => h) (Or.inl ⟨by rfl, ?_⟩) (by first | assumption | trivial) ?_
          rotate_left
          · intro w hSw; go_simp; (try with_reducible rfl)
          change wpAnyH _ _ _ _ _ _ _ (Act.put _ (some 86) _) _; simp only [Act.put, List.setIfInBounds_toArray, List.set_cons_zero, List.set_cons_succ]
          refine wpAnyH_take (i := 19) (v := ?_) rfl (by kernel_rfl) (by kernel_rfl) (by kernel_rfl) (fun _ _ _ h => h) (Or.inl ⟨by rfl, ?_⟩) (by first | assumption | trivial) ?_
          rotate_left
          · intro w hSw; go_simp; (try with_reducible rfl)
          change wpAnyH _ _ _ _ _ _ _ (Act.put _ (some 89) _) _; simp only [Act.put, List.setIfInBounds_toArray, List.set_cons_zero, List.set_cons_succ]
          refine wpAnyH_take (i := 20) (v := ?_) rfl (by kernel_rfl) (by kernel_rfl) (by kernel_rfl) (fun _ _ _ h => h) (Or.inl ⟨by rfl, ?_⟩) (by first | assumption | trivial) ?_
          rotate_left
          · intro w hSw; go_simp; (try with_reducible rfl)
          change wpAnyH _ _ _ _ _ _ _ (Act.put _ (some 90) _) _; simp only [Act.put, List.setIfInBounds_toArray, List.set_cons_zero, List.set_cons_succ]
          refine wpAnyH_ready (rs := [3]) (by kernel_rfl) (by simp) ?_
          refine AllReadyH.cons rfl (fun K hK => ?_) AllReadyH.nil
          go_simp
          refine (cU WE hbE.out).mono ?_
          rintro e w7 ⟨rfl, hbw7⟩
          have hl7 : Below W1.heap.size W1 w7 := (hbE.out).trans (hbw7.mono (hbE.out).size)
          have k7 := HR11.out w7 hl7
          refine hK.out _ _ ?_ (fun hHeld => ?_)
          · exact k7
          clear hK K
          refine wpAnyH_take (i := 4) (v := ?_) rfl (by kernel_rfl) (by kernel_rfl) (by kernel_rfl) (fun _ _ _ h => h) (Or.inl ⟨by rfl, ?_⟩) (by first | assumption | trivial) ?_
          rotate_left
          · intro w hSw; go_simp; (try with_reducible rfl)
          change wpAnyH _ _ _ _ _ _ _ (Act.put _ (some 74) _) _; simp only [Act.put, List.setIfInBounds_toArray, List.set_cons_zero, List.set_cons_succ]
          refine wpAnyH_ready (rs := [7]) (by kernel_rfl) (by simp) ?_
          refine AllReadyH.cons rfl (fun K hK => ?_) AllReadyH.nil
          go_simp
          refine (cF w7 hl7).mono ?_
          rintro e w8 ⟨rfl, hbw8⟩
          have hl8 : Below W1.heap.size W1 w8 := (hl7).trans (hbw8.mono (hl7).size)
          have k8 := HR11.out w8 hl8
          refine hK.out _ _ ?_ (fun hHeld => ?_)
          · exact k8
          clear hK K
          refine wpAnyH_take (i := 8) (v := ?_) rfl (by kernel_rfl) (by kernel_rfl) (by kernel_rfl) (fun _ _ _ h => h) (Or.inl ⟨by rfl, ?_⟩) (by first | assumption | trivial) ?_
          rotate_left
          · intro w hSw; go_simp; (try with_reducible rfl)
          change wpAnyH _ _ _ _ _ _ _ (Act.put _ (some 78) _) _; simp only [Act.put, List.setIfInBounds_toArray, List.set_cons_zero, List.set_cons_succ]
          refine wpAnyH_ready (rs := [11]) (by kernel_rfl) (by simp) ?_
          refine AllReadyH.cons rfl (fun K hK => ?_) AllReadyH.nil
          go_simp
          refine (cD w8 hl8).mono ?_
          rintro e w9 ⟨rfl, hbw9⟩
          have hl9 : Below W1.heap.size W1 w9 := (hl8).trans (hbw9.mono (hl8).size)
          have k9 := HR11.out w9 hl9
          refine hK.out _ _ ?_ (fun hHeld => ?_)
          · exact k9
          clear hK K
          refine wpAnyH_take (i := 12) (v := ?_) rfl (by kernel_rfl) (by kernel_rfl) (by kernel_rfl) (fun _ _ _ h => h) (Or.inl ⟨by rfl, ?_⟩) (by first | assumption | trivial) ?_
          rotate_left
          · intro w hSw; go_simp; (try with_reducible rfl)
          change wpAnyH _ _ _ _ _ _ _ (Act.put _ (some 82) _) _; simp only [Act.put, List.setIfInBounds_toArray, List.set_cons_zero, List.set_cons_succ]
          refine wpAnyH_take (i := 13) (v := ?_) rfl (by kernel_rfl) (by kernel_rfl) (by kernel_rfl) (fun _ _ _ h => h) (Or.inl ⟨by rfl, ?_⟩) (by first | assumption | trivial) ?_
          rotate_left
          · intro w hSw; go_simp; (try with_reducible rfl)
          change wpAnyH _ _ _ _ _ _ _ (Act.put _ (some 83) _) _; simp only [Act.put, List.setIfInBounds_toArray, List.set_cons_zero, List.set_cons_succ]
          refine wpAnyH_ready (rs := [17]) (by kernel_rfl) (by simp) ?_
          refine AllReadyH.cons rfl (fun K hK => ?_) AllReadyH.nil
          go_simp
          refine (cL w9 hl9).mono ?_
          rintro e w10 ⟨rfl, hbw10⟩
          have hl10 : Below W1.heap.size W1 w10 := (hl9).trans (hbw10.mono (hl9).size)
          have k10 := HR11.out w10 hl10
          refine hK.out _ _ ?_ (fun hHeld => ?_)
          · exact k10
          clear hK K
          refine wpAnyH_take (i := 18) (v := ?_) rfl (by kernel_rfl) (by kernel_rfl) (by kernel_rfl) (fun _ _ _ h => h) (Or.inl ⟨by rfl, ?_⟩) (by first | assumption | trivial) ?_
          rotate_left
          · intro w hSw; go_simp; (try with_reducible rfl)
          change wpAnyH _ _ _ _ _ _ _ (Act.put _ (some 88) _) _; simp only [Act.put, List.setIfInBounds_toArray, List.set_cons_zero, List.set_cons_succ]
          refine wpAnyH_take (i := 21) (v := ?_) rfl (by kernel_rfl) (by kernel_rfl) (by kernel_rfl) (fun _ _ _ h => h) (Or.inl ⟨by rfl, ?_⟩) (by first | assumption | trivial) ?_
          rotate_left
          · intro w hSw; go_simp; (try with_reducible rfl)
          change wpAnyH _ _ _ _ _ _ _ (Act.put _ (some 91) _) _; simp only [Act.put, List.setIfInBounds_toArray, List.set_cons_zero, List.set_cons_succ]
          refine wpAnyH_take (i := 22) (v := ?_) rfl (by kernel_rfl) (by kernel_rfl) (by kernel_rfl) (fun _ _ _ h => h) (Or.inl ⟨by rfl, ?_⟩) (by first | assumption | trivial) ?_
          rotate_left
          · intro w hSw; go_simp; (try with_reducible rfl)
          change wpAnyH _ _ _ _ _ _ _ (Act.put _ (some 92) _) _; simp only [Act.put, List.setIfInBounds_toArray, List.set_cons_zero, List.set_cons_succ]
          refine wpAnyH_take (i := 23) (v := ?_) rfl (by kernel_rfl) (by kernel_rfl) (by kernel_rfl) (fun _ _ _ h => h) (Or.inl ⟨by rfl, ?_⟩) (by first | assumption | trivial) ?_
          rotate_left
          · intro w hSw; go_simp; (try with_reducible rfl)
          change wpAnyH _ _ _ _ _ _ _ (Act.put _ (some 4) _) _; simp only [Act.put, List.setIfInBounds_toArray, List.set_cons_zero, List.set_cons_succ]
          refine wpAnyH_done (by kernel_rfl) ?_ _
          clear hHeld
          have HN2 : Hid (T2.data.toList = ((frontL S ++ ((S.names.zip S.boxes).take k).flatMap boxL) ++ headL nm ⟨xv, xn, xl⟩) ++ (xl.take (j + 1)).flatMap lineL ∧ T2.size ≤ 4000 + k * 12000 + 110 + (j + 1) * 170 ∧ Below W5.heap.size W5 w10) := ⟨HT2.out.1, HT2.out.2, HWX.out.trans (hl10.mono HWX.out.size)⟩
          clear HT2 hl7 hl8 hl9 hl10 hbw7 hbw8 hbw9 hbw10 k7 k8 k9 k10 z0 z1 z2 z3 q1 q2 q3 q4 q5 q6 q7 cU cD cL cF HR11
          go_wp2_with fail
          go_roundw
          case rel => exact ⟨j + 1, T2, by go_num, by omega, rfl, HN2⟩
          case measure => simp [intOf]; omega
        · have d2 : decide ((j : Int) < (LN : Int)) = false := decide_eq_false (by omega)
          obtain rfl : j = LN := by omega
          have HN : Hid (t2.data.toList = frontL S ++ ((S.names.zip S.boxes).take (k + 1)).flatMap boxL ∧ t2.size ≤ 4000 + (k + 1) * 12000 ∧ Below W5.heap.size W5 wr) := by
            refine ⟨?_, by have := HJ.out.2.1; omega, HJ.out.2.2⟩
            have hx : xl.take j = xl := List.take_of_length_le (by have := HLT.out.2.1; omega)
            rw [HJ.out.1, flat_next HT1.out.2.2, hx]
            unfold boxL
            simp [List.append_assoc]
          clear HJ HT1 HLT
          go_wp2_with fail
          go_roundw
          case rel => exact ⟨k + 1, t2, by go_num, by omega, rfl, HN⟩
          case measure => simp [intOf]; omega
    · have d1 : decide ((k : Int) < (N : Int)) = false := decide_eq_false (by omega)
      obtain rfl : k = N := by omega
      have u0 := (HR0.out wr HI.out.2.2).1
      have HF : Hid (t.data.toList = allB S ∧ Below w.heap.size w wr) := by
        refine ⟨?_, HB5.out.trans (HI.out.2.2.mono HB5.out.size)⟩
        rw [HI.out.1, List.take_of_length_le (by rw [List.length_zip]; have := HS.out.2.2.1; omega)]
        rfl
      clear HI
      go_wp2_with fail
      go_ret
      exact ⟨⟨t, rfl, HF.out.1⟩, HF.out.2⟩
end Go.Proofs.YtdmplfflmdanlaaGreatDoor
