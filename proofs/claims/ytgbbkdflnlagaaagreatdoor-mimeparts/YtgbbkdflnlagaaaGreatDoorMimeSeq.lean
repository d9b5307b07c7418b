/-
  What strings.SplitSeq does with CR LF as separator: the function that it gives hands on the pieces between.
-/
import Derived.Test.YtgbbkdflnlagaaaGreatDoorHeadSeq
import Derived.Test.YtgbbkdflnlagaaaGreatDoorTurnRangeK
namespace Go.Proofs.YtgbbkdflnlagaaaGreatDoor
open Go.RowKit Go.Proofs.Aid Go.Proofs.Sq Go.Proofs.Hd
attribute [local go_sem] Oper.semAt_some

set_option maxRecDepth 100000 in
set_option maxHeartbeats 2000000 in
theorem split2_in (n : Nat) (hn : 1 ≤ n) (l Bp Bs Bv : Nat) (hps : Bp ≠ Bs) (hvs : Bv ≠ Bs) (hgs : 1 ≠ Bs)
    (s : ByteArray) (hs : s.size ≤ 1000000) (m : Int) (J Jx : List Pt → World → Prop) (W : World) (hJ : ∀ s A B, J s A → A.grownBy B (some Bs) → J s B)
    (hY : ∀ pre x W1, J pre W1 → pre.length < (pieces s.data.toList).length → YieldAt Fence.wide (n - 1) Tryz.prog l #[.string x.1] W1 fun e W' =>
      (e = .returned (.bool true) ∧ J (pre ++ [x]) W' ∧ ∀ k, (k = Bp ∨ k = Bs ∨ k = Bv ∨ k = 1) → W'.heap[k]? = W1.heap[k]?) ∨ (e = .returned (.bool false) ∧ Jx (pre ++ [x]) W'))
    (bP : Boxed W Bp 9 (.string ⟨#[13, 10]⟩)) (bS : Boxed W Bs 9 (.string s)) (bV : Boxed W Bv 3 (.int .i64 0)) (hm : W.cell? ⟨1, 0, none⟩ = some (.int .i64 m)) (h0 : J [] W) :
    CallsIn Fence.wide n Tryz.prog 186 #[.func (.yield l) #[] #[], .pointer (some ⟨Bp, 0, none⟩), .pointer (some ⟨Bs, 0, none⟩), .pointer (some ⟨Bv, 0, none⟩)] W fun e W' => (∃ v, e = .returned v) ∧
      ((∃ ys : List Pt, ys.map Pt.l = pieces s.data.toList ∧ J ys W') ∨ (∃ pre : List Pt, pre.map Pt.l <+: pieces s.data.toList ∧ Jx pre W')) := by
  obtain ⟨PS, hPS⟩ : ∃ PS, pieces s.data.toList = PS := ⟨_, rfl⟩
  rw [hPS] at hY ⊢
  have cP := bP.cell
  refine callsIn_of_wp Tryz.func186 rfl trivial ?_ rfl
  simp only [Tryz.ntmps186, List.size_toArray, List.length_cons, List.length_nil, Nat.reduceAdd, Nat.reduceSub, Array.replicate_succ, Array.replicate_zero, List.push_toArray, List.append_toArray, List.nil_append, List.cons_append]
  gi_wp2
  gi_loopw [7] (fun _ wr => ∃ (pre : List Pt) (t : ByteArray), t.size ≤ 1000000 ∧ pre.map Pt.l ++ pieces t.data.toList = PS ∧ J pre wr ∧ Boxed wr Bp 9 (.string ⟨#[13, 10]⟩) ∧ Boxed wr Bs 9 (.string t) ∧ Boxed wr Bv 3 (.int .i64 0) ∧ wr.cell? ⟨1, 0, none⟩ = some (.int .i64 m))
    (fun _ wr => cellLen Bs wr)
  case atStart => exact ⟨[], s, hs, by simpa using hPS, h0, bP, bS, bV, hm⟩
  case round =>
    obtain ⟨pre, t, ht, hps', hJs, kP, kS, kV, hmr⟩ := hrel
    clear hPS bP bS bV hm h0 cP
    have cI := Tryz.strings_Index t ⟨#[13, 10]⟩ m wr (by omega) hmr
    rw [show (⟨#[13, 10]⟩ : ByteArray).data.toList = [13, 10] from rfl] at cI
    have hbi := pieces_index t.data.toList
    have hge := Lib.index_ge t.data.toList [13, 10]
    have hrm := Lib.index_room t.data.toList [13, 10]
    rw [list_size, show ([13, 10] : Tx).length = 2 from rfl] at hrm
    rw [hbi] at hps'
    have HP : Hid (pre.map Pt.l ++ (if Lib.index t.data.toList [13, 10] = -1 then [t.data.toList] else t.data.toList.take (Lib.index t.data.toList [13, 10]).toNat :: pieces (t.data.toList.drop ((Lib.index t.data.toList [13, 10]).toNat + 2))) = PS) := hps'
    clear hps' hbi
    generalize Lib.index t.data.toList [13, 10] = z at cI hge hrm HP
    have qS := kS.cell
    have qP := kP.cell
    gi_wp2_with fail
    refine ⟨trivial, ?_⟩
    refine (callsIn_wide.2 cI).mono ?_
    rintro e w1 ⟨rfl, hw⟩
    obtain rfl : wr = w1 := hw.symm
    by_cases hz : z < 0
    · have HE : Hid ((pre ++ [(⟨t, ht⟩ : Pt)]).map Pt.l = PS) := by
        show _ = _
        have := HP.out
        rw [if_pos (by omega)] at this
        rw [← this, List.map_append]; rfl
      have hlt : pre.length < PS.length := by rw [← HE.out]; simp
      obtain ⟨fn, tmps, assign, body, hy, hR⟩ := hY pre ⟨t, ht⟩ wr hJs hlt
      dsimp only at hy
      clear HP
      gi_wp2
      refine hR.mono ?_
      rintro e W3 (⟨rfl, hJ3, hk3⟩ | ⟨rfl, hJx3⟩)
      · gi_wp2
        go_end0
        exact ⟨⟨_, rfl⟩, .inl ⟨_, HE.out, hJ3⟩⟩
      · gi_wp2
        go_end0
        exact ⟨⟨_, rfl⟩, .inr ⟨_, by rw [HE.out]; exact List.prefix_refl _, hJx3⟩⟩
    · obtain ⟨q, rfl⟩ : ∃ q : Nat, z = q := ⟨z.toNat, by omega⟩
      have hq := hrm (by omega)
      have hq' : q + 2 ≤ t.size := by omega
      have hx : (t.extract 0 q).size ≤ 1000000 := by rw [Lib.size_eq, Lib.extract_from_zero, List.length_take]; omega
      have hr : (t.extract (q + 2) t.size).size ≤ 1000000 := by rw [Lib.size_eq, Lib.extract_to_end, List.length_drop, list_size]; omega
      have hrl : (t.extract (q + 2) t.size).size < t.size := by rw [Lib.size_eq, Lib.extract_to_end, List.length_drop, list_size]; omega
      have HE : Hid ((pre ++ [(⟨t.extract 0 q, hx⟩ : Pt)]).map Pt.l ++ pieces (t.extract (q + 2) t.size).data.toList = PS) := by
        show _ = _
        have := HP.out
        rw [if_neg (by omega), Int.toNat_natCast] at this
        rw [← this, List.map_append, List.append_assoc, Lib.extract_to_end]
        show _ ++ (Pt.l ⟨t.extract 0 q, hx⟩ :: _) = _
        unfold Pt.l
        rw [Lib.extract_from_zero]
        rfl
      have hlt : pre.length < PS.length := by
        rw [← HE.out, List.length_append, List.length_map, List.length_append]
        simp; omega
      obtain ⟨fn, tmps, assign, body, hy, hR⟩ := hY pre ⟨t.extract 0 q, hx⟩ wr hJs hlt
      dsimp only at hy
      have qV := kV.cell
      clear HP
      gi_wp2_with fail
      refine hR.mono ?_
      rintro e W3 (⟨rfl, hJ3, hk3⟩ | ⟨rfl, hJx3⟩)
      · have k3P : Boxed W3 Bp 9 (.string ⟨#[13, 10]⟩) := (hk3 Bp (by simp)).trans kP
        have k3S : Boxed W3 Bs 9 (.string t) := (hk3 Bs (by simp)).trans kS
        have k3V : Boxed W3 Bv 3 (.int .i64 0) := (hk3 Bv (by simp)).trans kV
        have q3P := k3P.cell
        have q3S := k3S.cell
        have q3f := k3S.frozen
        have hm3 : W3.cell? ⟨1, 0, none⟩ = some (.int .i64 m) := (World.cell?_of_block (hk3 1 (by simp))).trans hmr
        gi_wp2
        go_roundw
        case rel => exact ⟨_, _, hr, HE.out, hJ _ _ _ hJ3 (grownBy_setCell' W3 Bs _), box_far k3P hps _, k3S.set _, box_far k3V hvs _, ((grownBy_setCell' W3 Bs _).block _ (World.block_lt_of_cell? _ _ hm3) (by intro e; cases e; exact hgs rfl) |> World.cell?_of_block).trans hm3⟩
        case measure =>
          rw [cellLen_of kS, cellLen_of (k3S.set _)]
          exact hrl
      · gi_wp2
        refine bodyPost_ret (results_none rfl _ _ _) rfl ?_
        exact ⟨⟨_, rfl⟩, .inr ⟨_, ⟨_, HE.out⟩, hJx3⟩⟩
theorem splitSeq2_any (s : ByteArray) (w : World) : Calls Tryz.prog 105 #[.string s, .string ⟨#[13, 10]⟩] w fun e w' =>
    e = .returned (.func (.func 186) #[] #[.pointer (some ⟨w.heap.size + 1, 0, none⟩), .pointer (some ⟨w.heap.size, 0, none⟩), .pointer (some ⟨w.heap.size + 1 + 1, 0, none⟩)]) ∧
    w' = ((w.alloc (.cells #[.string s] 9)).alloc (.cells #[.string ⟨#[13, 10]⟩] 9)).alloc (.cells #[.int .i64 0] 3) := by
  have c : Calls Tryz.prog 159 #[.string s, .string ⟨#[13, 10]⟩, .int .i64 0] w fun e w' =>
      e = .returned (.func (.func 186) #[] #[.pointer (some ⟨w.heap.size + 1, 0, none⟩), .pointer (some ⟨w.heap.size, 0, none⟩), .pointer (some ⟨w.heap.size + 1 + 1, 0, none⟩)]) ∧
      w' = ((w.alloc (.cells #[.string s] 9)).alloc (.cells #[.string ⟨#[13, 10]⟩] 9)).alloc (.cells #[.int .i64 0] 3) := by
    go_enter Tryz.func159, Tryz.ntmps159
    go_wp2
    go_ret
    exact ⟨rfl, rfl⟩
  go_enter Tryz.func105, Tryz.ntmps105
  go_wp2_with fail
  refine c.mono ?_
  rintro e w1 ⟨rfl, rfl⟩
  go_wp2_with fail
  go_ret
  exact ⟨rfl, rfl⟩
/-- The three cells as SplitSeq lays them, and what it hands on. -/
def SeqKp (B k : Nat) : Prop := k = B + 1 ∨ k = B ∨ k = B + 1 + 1 ∨ k = 1
theorem split2_hands (n : Nat) (hn : 1 ≤ n) (B : Nat) (s : ByteArray) (hs : s.size ≤ 1000000) (m : Int) (w : World) (hg : 1 < B)
    (bS : Boxed w B 9 (.string s)) (bP : Boxed w (B + 1) 9 (.string ⟨#[13, 10]⟩)) (bV : Boxed w (B + 1 + 1) 3 (.int .i64 0)) (hm : w.cell? ⟨1, 0, none⟩ = some (.int .i64 m)) :
    HandsK Fence.wide n Tryz.prog 186 #[.pointer (some ⟨B + 1, 0, none⟩), .pointer (some ⟨B, 0, none⟩), .pointer (some ⟨B + 1 + 1, 0, none⟩)] (fun x : Pt => #[Value.string x.1]) B (SeqKp B)
      (fun ys => ys.map Pt.l = pieces s.data.toList) (fun pre => pre.map Pt.l <+: pieces s.data.toList) (pieces s.data.toList).length w :=
  fun l J Jx W hW hJ hY h0 => split2_in n hn l (B + 1) B (B + 1 + 1) (by omega) (by omega) (by omega) s hs m J Jx W hJ hY
    ((hW (B + 1) (.inl rfl)).trans bP) ((hW B (.inr (.inl rfl))).trans bS) ((hW (B + 1 + 1) (.inr (.inr (.inl rfl)))).trans bV) ((World.cell?_of_block (hW 1 (.inr (.inr (.inr rfl))))).trans hm) h0
end Go.Proofs.YtgbbkdflnlagaaaGreatDoor
