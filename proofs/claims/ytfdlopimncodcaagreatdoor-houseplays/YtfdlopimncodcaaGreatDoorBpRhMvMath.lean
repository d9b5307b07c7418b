/-
  The document's way to move boxes: the same boxes, in another order; a , and more.
-/
import Derived.Test.YtfdlopimncodcaaGreatDoorMRhPour
namespace Go.Proofs.YtfdlopimncodcaaGreatDoor
open Go.RowKit Go.Proofs.Aid
theorem pairs_ext : ∀ {A B : Bxs}, SortedB A → SortedB B → (∀ m c, (m, c) ∈ A ↔ (m, c) ∈ B) → A = B
  | [], [], _, _, _ => rfl
  | [], b :: B, _, _, h => absurd ((h b.1 b.2).2 List.mem_cons_self) List.not_mem_nil
  | a :: A, [], _, _, h => absurd ((h a.1 a.2).1 List.mem_cons_self) List.not_mem_nil
  | a :: A, b :: B, h1, h2, h => by
    obtain ⟨p1, p2⟩ := List.pairwise_cons.1 h1
    obtain ⟨q1, q2⟩ := List.pairwise_cons.1 h2
    have hab : a = b := by
      rcases List.mem_cons.1 ((h a.1 a.2).1 List.mem_cons_self) with e | e
      · exact e
      · rcases List.mem_cons.1 ((h b.1 b.2).2 List.mem_cons_self) with e2 | e2
        · exact e2.symm
        · exact absurd (List.lt_trans (q1 a e) (p1 b e2)) (List.lt_irrefl _)
    subst hab
    congr 1
    refine pairs_ext p2 q2 fun m c => ⟨fun hx => ?_, fun hx => ?_⟩
    · rcases List.mem_cons.1 ((h m c).1 (List.mem_cons_of_mem _ hx)) with e | e
      · exact absurd (p1 _ hx) (by rw [← e]; exact List.lt_irrefl _)
      · exact e
    · rcases List.mem_cons.1 ((h m c).2 (List.mem_cons_of_mem _ hx)) with e | e
      · exact absurd (q1 _ hx) (by rw [← e]; exact List.lt_irrefl _)
      · exact e
def mvList (l : Bxs) (n : Nm) : List Nm := n :: withinB l n
theorem mvl_mem {l : Bxs} {n x : Nm} : x ∈ mvList l n ↔ x ∈ mvNames l n := by
  unfold mvList mvNames
  rw [List.mem_cons, List.mem_append, List.mem_singleton]
  exact Or.comm
theorem mvl_nodup {l : Bxs} (hs : SortedB l) (n : Nm) : (mvList l n).Nodup := by
  have h := mvNames_nodup hs n
  unfold mvNames at h
  exact (List.perm_append_comm.nodup_iff (l₂ := [n] ++ withinB l n)).1 h
theorem mv0 {l : Bxs} {N T : Nm} (hw : Wh l) (hN : hasB l N = true) (hT : hasB l T = false) :
    (∀ x ∈ mvList l N, hasB l x = true ∧ hasB l (calledB T N x) = false) ∧ ∀ x ∈ mvList l N, ∀ y ∈ mvList l N, calledB T N x = calledB T N y → x = y := by
  refine ⟨fun x hx => ?_, fun x hx y hy e => ?_⟩
  · obtain ⟨q1, t, q2, rfl⟩ := (mem_mvNames hN).1 (mvl_mem.1 hx)
    refine ⟨q1, ?_⟩
    rw [called_app, ← Bool.not_eq_true]
    intro h
    rcases q2 with rfl | ⟨u, rfl⟩
    · rw [List.append_nil, hT] at h
      cases h
    · have := hw _ h T.length (by simp)
      rw [List.take_left, hT] at this
      cases this
  · obtain ⟨_, t, _, rfl⟩ := (mem_mvNames hN).1 (mvl_mem.1 hx)
    obtain ⟨_, u, _, rfl⟩ := (mem_mvNames hN).1 (mvl_mem.1 hy)
    rw [called_app, called_app] at e
    rw [List.append_cancel_left e]
theorem mv0_mem {l : Bxs} {N T : Nm} (hs : SortedB l) (hw : Wh l) (hN : hasB l N = true) (hT : hasB l T = false) (k : Nat) (m : Nm) (c : Nat) :
    (m, c) ∈ mvAll T N ((mvList l N).take k) l ↔ ((m, c) ∈ l ∧ m ∉ (mvList l N).take k) ∨ ∃ x ∈ (mvList l N).take k, (x, c) ∈ l ∧ m = calledB T N x := by
  obtain ⟨h1, h2⟩ := mv0 hw hN hT
  have hsub : ∀ x ∈ (mvList l N).take k, x ∈ mvList l N := fun x hx => List.mem_of_mem_take hx
  exact mem_mvAll_iff _ l hs ((mvl_nodup hs N).sublist (List.take_sublist k _)) (fun x hx => h1 x (hsub x hx)) (fun x hx y hy => h2 x (hsub x hx) y (hsub y hy)) m c
theorem mv0_step {l : Bxs} {N T : Nm} (hs : SortedB l) (hw : Wh l) (hN : hasB l N = true) (hT : hasB l T = false) {k : Nat} {x : Nm} (hk : (mvList l N)[k]? = some x) :
    (∃ b, (x, b) ∈ mvAll T N ((mvList l N).take k) l ∧ putB (calledB T N x) b (delB (mvAll T N ((mvList l N).take k) l) x) = mvAll T N ((mvList l N).take (k + 1)) l) := by
  obtain ⟨h1, h2⟩ := mv0 hw hN hT
  have hx := List.mem_of_getElem? hk
  obtain ⟨b, hb⟩ := hasB_true.1 (h1 x hx).1
  have hnk := take_not (mvl_nodup hs N) hk
  have hin : (x, b) ∈ mvAll T N ((mvList l N).take k) l := (mv0_mem hs hw hN hT k x b).2 (Or.inl ⟨hb, hnk⟩)
  have hso := mvAll_sorted (t := T) (n := N) ((mvList l N).take k) l hs
  have hno : hasB (mvAll T N ((mvList l N).take k) l) (calledB T N x) = false := hasB_false.2 fun c hc => by
    rcases (mv0_mem hs hw hN hT k _ c).1 hc with ⟨q1, _⟩ | ⟨y, q1, _, q3⟩
    · exact hasB_false.1 (h1 x hx).2 c q1
    · have := h2 x hx y (List.mem_of_mem_take q1) q3
      exact hnk (this ▸ q1)
  refine ⟨b, hin, ?_⟩
  rw [mvAll_next hk]
  refine pairs_ext (sorted_putB (sorted_delB hso x)) (mvStep_sorted hso) fun m c => ?_
  rw [mem_mvStep_iff hso (hasB_true.2 ⟨b, hin⟩) hno, mem_putB (sorted_delB hso x), mem_delB]
  constructor
  · rintro (⟨rfl, rfl⟩ | ⟨_, q2, q3⟩)
    · exact Or.inr ⟨hin, rfl⟩
    · exact Or.inl ⟨q3, q2⟩
  · rintro (⟨q1, q2⟩ | ⟨q1, q2⟩)
    · refine Or.inr ⟨fun e => ?_, q2, q1⟩
      exact hasB_false.1 hno c (e ▸ q1)
    · exact Or.inl ⟨q2, sorted_one hso q1 hin⟩
theorem Tryz.strNil (x : Addr) (w : World) : (Builtin.append_ #[32, 32] 32 #[.slice (some x) 1 1, .slice none 0 0]).run Tryz.prog w = .ok (.slice (some x) 1 1) w := by kernel_rfl
theorem Tryz.strNone (x b : Addr) (c : Nat) (w : World) : (Builtin.append_ #[32, 32] 32 #[.slice (some x) 1 1, .slice (some b) 0 c]).run Tryz.prog w = .ok (.slice (some x) 1 1) w := by kernel_rfl
theorem cons_names (w : World) (nb : Nat) (n : ByteArray) (v : Value) (xs : List Nm) (hn : w.heap[nb]? = some (.cells #[.string n] 9 (0, 0))) (hv : Sl w v xs) (hl : xs.length ≤ 1000) :
    ∃ a c w', (Builtin.append_ #[32, 32] 32 #[.slice (some ⟨nb, 0, none⟩) 1 1, v]).run Tryz.prog w = .ok (.slice a (xs.length + 1) c) w' ∧ Sl w' (.slice a (xs.length + 1) c) (n.data.toList :: xs) ∧ Below w.heap.size w w' := by
  obtain ⟨a, c, rfl, ⟨h0, hc⟩, h1⟩ := hv
  have hone : Sl w (.slice (some ⟨nb, 0, none⟩) 1 1) [n.data.toList] := ⟨some ⟨nb, 0, none⟩, 1, rfl, ⟨fun e => (by cases e), Nat.le_refl _⟩, Or.inr ⟨nb, 0, rfl, fun j t hj => by
    cases j with
    | zero =>
      obtain rfl := Option.some.inj hj
      rw [enc_ba]
      exact rd_cell hn rfl
    | succ j => simp at hj⟩⟩
  by_cases hx : xs = []
  · subst hx
    cases a with
    | none =>
      obtain rfl := h0 rfl
      exact ⟨_, _, w, Tryz.strNil _ w, hone, Below.refl _ _⟩
    | some ad => exact ⟨_, _, w, Tryz.strNone _ ad c w, hone, Below.refl _ _⟩
  · obtain ⟨b, o, rfl, hat⟩ := h1.resolve_left hx
    have hpos := List.length_pos_iff.2 hx
    obtain ⟨j0, hj, hz, hs, hby⟩ := info_parts Tryz.infoNm
    obtain ⟨v', w', hrun, hown, hgr⟩ := run_append_arg_grows (P := Tryz.prog) (w := w) 32 32 9 j0 (.string ⟨#[]⟩) 1 16 Tryz.underlying32 hj hz hs hby rfl (by decide) ⟨nb, 0, none⟩ 1 1 [.string n] rfl (fun j u h => by
      cases j with
      | zero =>
        obtain rfl := Option.some.inj h
        exact rd_cell hn rfl
      | succ j => simp at h) ⟨b, o, none⟩ xs.length c (xs.map encStr) (by simp) (fun k u hk => by
      rw [Addr.add_lit]
      rw [List.getElem?_map] at hk
      obtain ⟨t, ht, rfl⟩ := Option.map_eq_some_iff.1 hk
      exact hat k t ht) (by omega) (by unfold maxLen; omega) (by omega)
    have hrow : NRow w' w.heap.size v' (n.data.toList :: xs) := by
      unfold NRow
      rw [List.length_cons, List.map_cons, enc_ba, Nat.add_comm]
      exact hown
    obtain ⟨va, vc, rfl⟩ := row_form hrow
    exact ⟨va, vc, w', hrun, sl_of_nrow hrow, ⟨hgr.os, hgr.tape, hgr.output, hgr.size, fun k hk => hgr.block k hk (by simp)⟩⟩
end Go.Proofs.YtfdlopimncodcaaGreatDoor
namespace Go.Proofs.YtfdlopimncodcaaGreatDoor
open Go.RowKit Go.Proofs.Aid Go.Proofs.Bx Go.Lib
set_option maxHeartbeats 8000000
set_option maxRecDepth 100000
def longB (l : Bxs) (N T : Nm) : Bool := (mvNames l N).any fun x => decide (60 < (calledB T N x).length)
theorem longB_list (l : Bxs) (N T : Nm) : longB l N T = (mvList l N).any fun x => decide (60 < (calledB T N x).length) := by
 unfold longB
 rw [Bool.eq_iff_iff, List.any_eq_true, List.any_eq_true]
 exact ⟨fun ⟨x, h1, h2⟩ => ⟨x, mvl_mem.2 h1, h2⟩, fun ⟨x, h1, h2⟩ => ⟨x, mvl_mem.1 h1, h2⟩⟩
def RMoveOut (hb mb wb : Nat) (l Wl : Bxs) (nx : Int) (C : Nat → Bxd) (N T : Nm) (w : World) (e : Ending) (w' : World) : Prop :=
 (inB T N = true ∧ e = .returned (.int .i64 6) ∧ Below w.heap.size w w') ∨
 (inB T N = false ∧ longB l N T = true ∧ e = .returned (.int .i64 4) ∧ Below w.heap.size w w') ∨
 (inB T N = false ∧ longB l N T = false ∧ 30 < l.length + (lackB l T).length ∧ e = .returned (.int .i64 12) ∧ Below w.heap.size w w') ∨
 (inB T N = false ∧ longB l N T = false ∧ l.length + (lackB l T).length ≤ 30 ∧ e = .returned (.int .i64 0) ∧ Tn (DS hb mb wb l) w w' ∧ ∃ ps, Made w.heap.size (lackB l T) ps ∧
  RSt w' hb mb wb (putAll (mvAll T N (mvList l N) l) ps) Wl (nx + ((lackB l T).length : Int)) (withNew w.heap.size nx ps C))
theorem rren_move (hb mb wb : Nat) (l Wl : Bxs) (nx : Int) (C : Nat → Bxd) (s u : ByteArray) (N T : Nm) (w : World) (hE : NEnv w) (h : RSt w hb mb wb l Wl nx C) (hw : Wh l) (hs : s.size ≤ 1000) (hu : u.size ≤ 1000) (hl : l.length ≤ 30) (hsm : ∀ p ∈ l, p.1.length ≤ 60) (hn : 0 ≤ nx ∧ nx ≤ 900000)
  (e1 : nameB s.data.toList = some N) (e2 : hasB l N = true) (e3 : nameB u.data.toList = some T) (e4 : hasB l T = false) (e5 : N ≠ inboxN) :
  Calls Tryz.prog 45 #[.pointer (some ⟨hb, 0, none⟩), .string s, .string u] w fun e w' => RMoveOut hb mb wb l Wl nx C N T w e w' := by
 have cG := rget_is hb mb wb l nx s w hE h.rhs hs
 have HH : Hid (RSt w hb mb wb l Wl nx C ∧ NEnv w ∧ nameB s.data.toList = some N ∧ hasB l N = true ∧ nameB u.data.toList = some T ∧ hasB l T = false ∧ N ≠ inboxN ∧ Wh l ∧ (∀ p ∈ l, p.1.length ≤ 60)) := ⟨h, hE, e1, e2, e3, e4, e5, hw, hsm⟩
 clear hE h e1 e2 e3 e4 e5 hw hsm
 go_enter Tryz.func45, Tryz.ntmps45
 go_wp2_with fail
 refine cG.mono ?_
 rintro e w1 ⟨hb1, ⟨r, ib, hr, hm, rfl⟩ | ⟨r, hr, hno, rfl⟩ | ⟨hr, rfl⟩⟩
 ·have cN1 := rname_is s w1 (HH.out.2.1.below hb1) hs
  have HR : Hid (Below w.heap.size w w1) := hb1
  clear cG hb1 hr hm
  go_wp2_with fail
  refine cN1.mono ?_
  rintro e w2 ⟨hb2, ⟨n, hn2, hn3, rfl⟩ | ⟨hn2, rfl⟩⟩
  ·have hB2 : Below w.heap.size w w2 := HR.out.trans (hb2.mono HR.out.size)
   have hnN : n.data.toList = N := by rw [HH.out.2.2.1] at hn2; exact (Option.some.inj hn2).symm
   have hE2 : (n.toList == [73, 78, 66, 79, 88]) = false := beq_eq_false_iff_ne.2 (by rw [Lib.toList_data, hnN]; exact HH.out.2.2.2.2.2.2.1)
   have hE1 : ¬ n.toList = [73, 78, 66, 79, 88] := by rw [Lib.toList_data, hnN]; exact HH.out.2.2.2.2.2.2.1
   have cN2 := rname_is u w2 (HH.out.2.1.below hB2) hu
   have hnz : n.size ≤ 60 := by have := nameB_short HH.out.2.2.1; rw [← hnN, Array.length_toList] at this; exact this
   have HB2 : Hid (Below w.heap.size w w2 ∧ n.data.toList = N) := ⟨hB2, hnN⟩
   clear cN1 hb2 hn2 hB2 hnN hn3
   go_wp2_with fail
   refine cN2.mono ?_
   rintro e w3 ⟨hb3, ⟨q, hq, hq2, rfl⟩ | ⟨hq, rfl⟩⟩
   ·have hqT : q.data.toList = T := by rw [HH.out.2.2.2.2.1] at hq; exact (Option.some.inj hq).symm
    have hB3 : Below w.heap.size w w3 := HB2.out.1.trans (hb3.mono HB2.out.1.size)
    have h3 := HH.out.1.below hB3
    have c0 := h3.rhs.cell.1
    have hlk := rmp_none h3.rhs.2 q (by omega) (by rw [hqT]; exact HH.out.2.2.2.2.2.1)
    have hqz : q.size ≤ 60 := by have := nameB_short HH.out.2.2.2.2.1; rw [← hqT, Array.length_toList] at this; exact this
    have cP := Tryz.strings_HasPrefix q (n ++ ⟨#[47]⟩) w3
    rw [show (n ++ (⟨#[47]⟩ : ByteArray)).data.toList = n.data.toList ++ [47] by simp, HB2.out.2, hqT] at cP
    have hlim : (9223372036854775807 < n.size + 1) = False := eq_false (by omega)
    have HB3 : Hid (Below w.heap.size w w3 ∧ RSt w3 hb mb wb l Wl nx C ∧ q.data.toList = T) := ⟨hB3, h3, hqT⟩
    obtain ⟨IN, hIN⟩ : ∃ b, Lib.hasPrefix T (N ++ [47]) = b := ⟨_, rfl⟩
    rw [hIN] at cP
    have HIN : Hid (inB T N = IN) := hIN
    have HNW : Hid (withinB l n.data.toList = withinB l N) := by rw [HB2.out.2]; rfl
    clear cN2 hb3 hq hB3 h3 hqT hIN hq2
    go_wp2_with fail
    refine cP.mono ?_
    rintro e w4 ⟨rfl, hw4⟩
    obtain rfl : w3 = w4 := hw4.symm
    clear hw4 cP
    cases IN with
    | true =>
     clear hlk c0
     go_wp2_with fail
     go_ret
     exact Or.inl ⟨HIN.out, rfl, HB3.out.1⟩
    | false =>
     have e5 := heap_alloc_new w3 (.cells #[.string n] 9)
     have b5 : Below w3.heap.size w3 (w3.alloc (.cells #[.string n] 9)) := (Below.refl _ _).alloc (Nat.le_refl _) _
     obtain ⟨W5, hW5⟩ : ∃ W, w3.alloc (.cells #[.string n] 9) = W := ⟨_, rfl⟩
     rw [hW5] at e5 b5
     have h5 := HB3.out.2.1.below b5
     have cL := rlies_is hb mb wb l nx n W5 h5.rhs (by omega) (fun p hp => by have := HH.out.2.2.2.2.2.2.2.2 p hp; omega) (by omega)
     rw [HNW.out] at cL
     obtain ⟨nb, hnb⟩ : ∃ k, w3.heap.size = k := ⟨_, rfl⟩
     rw [hnb] at e5
     have HB5 : Hid (Below w.heap.size w W5 ∧ W5.heap[nb]? = some (.cells #[.string n] 9 (0, 0)) ∧ RSt W5 hb mb wb l Wl nx C) := ⟨HB3.out.1.trans (b5.mono HB3.out.1.size), e5, h5⟩
     clear hlk c0 e5 b5 h5
     go_wp2_with fail
     refine cL.mono ?_
     rintro e w6 ⟨⟨v6, rfl, hrow6⟩, hb6⟩
     obtain ⟨LW, hLW⟩ : ∃ n, (withinB l N).length = n := ⟨_, rfl⟩
     have hLW30 : LW ≤ 30 := by rw [← hLW]; unfold withinB; refine Nat.le_trans (List.length_filter_le _ _) ?_; unfold namesB; rw [List.length_map]; exact hl
     obtain ⟨a7, c7, W7, hap, hsl7, hb7⟩ := cons_names w6 nb n v6 (withinB l N) ((hb6.block nb (Array.getElem?_eq_some_iff.1 HB5.out.2.1).1).trans HB5.out.2.1) (sl_of_nrow hrow6) (by omega)
     rw [HB2.out.2] at hsl7
     have hB7 : Below w.heap.size w W7 := HB5.out.1.trans ((hb6.trans (hb7.mono hb6.size)).mono HB5.out.1.size)
     have h7 := (HB5.out.2.2.below hb6).below hb7
     obtain ⟨K, hK⟩ : ∃ n, LW + 1 = n := ⟨_, rfl⟩
     rw [hLW, hK] at hap hsl7
     have HB7 : Hid (Below w.heap.size w W7 ∧ RSt W7 hb mb wb l Wl nx C ∧ Sl W7 (.slice a7 K c7) (mvList l N) ∧ (mvList l N).length = K) := ⟨hB7, h7, hsl7, by rw [← hK, ← hLW]; rfl⟩
     obtain ⟨a6, c6, hv6⟩ := row_form hrow6
     rw [hLW] at hv6
     subst hv6
     have hK31 : K ≤ 31 := by omega
     clear cL hrow6 hb6 hsl7 hb7 hB7 h7 hLW hK hLW30
     go_wp2_with (at_builtin; go_must (refine wpList_append_run _ rfl (.tmp 89) (.tmp 92) 32 32 rfl _ _ rfl rfl _ _ hap ?_))
     go_loopw [96] (fun iv wr => ∃ k : Nat, iv = .int .i64 (k : Int) ∧ k ≤ K ∧ Hid ((∀ x ∈ (mvList l N).take k, ¬ 60 < (calledB T N x).length) ∧ Below W7.heap.size W7 wr)) (fun iv _ => K - (intOf iv).toNat)
     case atStart => exact ⟨0, rfl, Nat.zero_le _, fun x hx => absurd hx (by simp), Below.refl _ _⟩
     case round =>
      obtain ⟨k, rfl, hk, HK1⟩ := hrel
      by_cases hlt : k < K
      ·have d1 : decide ((k : Int) < (K : Int)) = true := decide_eq_true (by omega)
       have i1 : (0 : Int) ≤ (k : Int) := by omega
       have i2 : (k : Int) < (K : Int) := by omega
       obtain ⟨x, hxk⟩ : ∃ x, (mvList l N)[k]? = some x := ⟨_, List.getElem?_eq_getElem (by have := HB7.out.2.2.2; omega)⟩
       obtain ⟨b8, o8, rfl, hat⟩ := sl_at (HB7.out.2.2.1.below HK1.out.2 (Nat.le_refl _)) hxk
       have hcx0 := hat k x hxk
       obtain ⟨xs, hxs⟩ : ∃ s : ByteArray, (⟨x.toArray⟩ : ByteArray) = s := ⟨_, rfl⟩
       have hcx : wr.cell? ⟨b8, o8 + k, none⟩ = some (.string xs) := by rw [← hxs]; exact hcx0
       have hxl : xs.data.toList = x := by rw [← hxs]
       obtain ⟨xt, hxt⟩ : ∃ t, x = N ++ t := by
        obtain ⟨_, t, _, e⟩ := (mem_mvNames HH.out.2.2.2.1).1 (mvl_mem.1 (List.mem_of_getElem? hxk))
        exact ⟨t, e⟩
       have hxz : xs.size = n.size + xt.length := by
        have h1 := congrArg List.length (hxl.trans hxt)
        rw [List.length_append, ← HB2.out.2, Array.length_toList, Array.length_toList] at h1
        exact h1
       have hcl : (calledB T N x).length = q.size + (xs.size - n.size) := by
        rw [hxt, called_app, List.length_append, ← HB3.out.2.2, Array.length_toList, hxz, Nat.add_sub_cancel_left]
        rfl
       have hxs60 : xs.size ≤ 60 := by
        obtain ⟨h1, _⟩ := (mem_mvNames HH.out.2.2.2.1).1 (mvl_mem.1 (List.mem_of_getElem? hxk))
        obtain ⟨b9, hb9⟩ := hasB_true.1 h1
        have h2 := HH.out.2.2.2.2.2.2.2.2 _ hb9
        have h2 : x.length ≤ 60 := h2
        rw [← hxl, Array.length_toList] at h2
        exact h2
       have hle : n.size ≤ xs.size := by omega
       have hle1 : (n.size : Int) ≤ (xs.size : Int) := by omega
       have hn0 : (0 : Int) ≤ (n.size : Int) := by omega
       have hlim2 : (9223372036854775807 < q.size + (xs.size - n.size)) = False := eq_false (by omega)
       have HCX : Hid ((mvList l N)[k]? = some x ∧ (calledB T N x).length = q.size + (xs.size - n.size)) := ⟨hxk, hcl⟩
       clear hat hxk hxs hxl hxt hxz hcl hcx0
       by_cases hlong : 60 < q.size + (xs.size - n.size)
       ·have dl : decide ((60 : Int) < ((q.size + (xs.size - n.size) : Nat) : Int)) = true := decide_eq_true (by omega)
        have dl2 : decide ((60 : Int) < (q.size : Int) + ((xs.size - n.size : Nat) : Int)) = true := decide_eq_true (by omega)
        have HF : Hid (longB l N T = true ∧ Below w.heap.size w wr) := by
         refine ⟨?_, HB7.out.1.trans (HK1.out.2.mono HB7.out.1.size)⟩
         rw [longB_list, List.any_eq_true]
         exact ⟨x, List.mem_of_getElem? HCX.out.1, decide_eq_true (by rw [HCX.out.2]; exact hlong)⟩
        go_wp2_with fail
        go_ret
        exact Or.inr (Or.inl ⟨HIN.out, HF.out.1, rfl, HF.out.2⟩)
       ·have dl : decide ((60 : Int) < ((q.size + (xs.size - n.size) : Nat) : Int)) = false := decide_eq_false (by omega)
        have dl2 : decide ((60 : Int) < (q.size : Int) + ((xs.size - n.size : Nat) : Int)) = false := decide_eq_false (by omega)
        have HN1 : Hid ((∀ y ∈ (mvList l N).take (k + 1), ¬ 60 < (calledB T N y).length) ∧ Below W7.heap.size W7 wr) := by
         refine ⟨fun y hy => ?_, HK1.out.2⟩
         rw [List.take_add_one, HCX.out.1] at hy
         rcases List.mem_append.1 hy with hy | hy
         ·exact HK1.out.1 y hy
         ·obtain rfl : y = x := by simpa using hy
          rw [HCX.out.2]
          exact hlong
        clear HK1
        go_wp2_with fail
        go_roundw
        case rel => exact ⟨k + 1, by go_num, by omega, HN1⟩
        case measure => simp [intOf]; omega
      ·have d1 : decide ((k : Int) < (K : Int)) = false := decide_eq_false (by omega)
       obtain ⟨W8, hW8⟩ : ∃ W, W = wr := ⟨_, rfl⟩
       subst hW8
       have HNL : Hid (longB l N T = false) := by
        unfold Hid
        rw [longB_list, List.any_eq_false]
        intro x hx
        rw [decide_eq_true_iff]
        exact HK1.out.1 x (by rw [List.take_of_length_le (by rw [HB7.out.2.2.2]; omega)]; exact hx)
       have h8 := HB7.out.2.1.below HK1.out.2
       have hB8 : Below w.heap.size w W8 := HB7.out.1.trans (HK1.out.2.mono HB7.out.1.size)
       have cO := rover_is hb mb wb l nx q W8 (HH.out.2.1.below hB8) h8.rhs (by omega)
       rw [HB3.out.2.2] at cO
       have HB8 : Hid (Below w.heap.size w W8 ∧ RSt W8 hb mb wb l Wl nx C ∧ Sl W8 (.slice a7 K c7) (mvList l N)) := ⟨hB8, h8, HB7.out.2.2.1.below HK1.out.2 (Nat.le_refl _)⟩
       clear HK1 h8 hB8
       go_wp2_with fail
       refine cO.mono ?_
       rintro e w9 ⟨⟨v9, rfl, hrow9⟩, hb9⟩
       obtain ⟨LO, hLO⟩ : ∃ n, (lackB l T).length = n := ⟨_, rfl⟩
       have hLO60 : LO ≤ 60 := by
        have h1 := lackTo_len l T T.length
        have h2 := nameB_short HH.out.2.2.2.2.1
        have h3 : (lackB l T).length ≤ T.length := h1
        omega
       obtain ⟨oa, oc, hv9⟩ := row_form hrow9
       rw [hLO] at hv9
       subst hv9
       have h9 := HB8.out.2.1.below hb9
       have c9 := h9.rhs.cell.1
       have hlen9 := rmp_len h9.rhs.2 3
       have HB9 : Hid (Below w.heap.size w w9 ∧ RSt w9 hb mb wb l Wl nx C ∧ Sl w9 (.slice a7 K c7) (mvList l N) ∧ NRow w9 (W8.heap.size + 1) (.slice oa LO oc) (lackB l T) ∧ (lackB l T).length = LO) := ⟨HB8.out.1.trans (hb9.mono HB8.out.1.size), h9, HB8.out.2.2.below hb9 (Nat.le_refl _), hrow9, hLO⟩
       clear cO hrow9 hb9 h9 hLO
       by_cases hful : 30 < l.length + LO
       ·have dF : decide ((30 : Int) < (l.length : Int) + (LO : Int)) = true := decide_eq_true (by omega)
        go_wp2_with fail
        go_ret
        exact Or.inr (Or.inr (Or.inl ⟨HIN.out, HNL.out, by rw [HB9.out.2.2.2.2]; exact hful, rfl, HB9.out.1⟩))
       ·have dF : decide ((30 : Int) < (l.length : Int) + (LO : Int)) = false := decide_eq_false (by omega)
        go_wp2_with fail
        go_loopw [123] (fun iv wx => ∃ k : Nat, iv = .int .i64 (k : Int) ∧ k ≤ K ∧ Hid (HK hb mb w9 wx ∧ RHs wx hb mb wb (mvAll T N ((mvList l N).take k) l) nx)) (fun iv _ => K - (intOf iv).toNat)
        case atStart => exact ⟨0, rfl, Nat.zero_le _, HK.refl _ _ _, HB9.out.2.1.rhs⟩
        case round =>
         clear c9 hlen9
         obtain ⟨k, rfl, hk, HK2⟩ := hrel
         by_cases hlt2 : k < K
         ·have d2 : decide ((k : Int) < (K : Int)) = true := decide_eq_true (by omega)
          have i1 : (0 : Int) ≤ (k : Int) := by omega
          have i2 : (k : Int) < (K : Int) := by omega
          obtain ⟨x, hxk⟩ : ∃ x, (mvList l N)[k]? = some x := ⟨_, List.getElem?_eq_getElem (by have := HB7.out.2.2.2; omega)⟩
          obtain ⟨b8, o8, rfl, hat⟩ := sl_at (HB9.out.2.2.1.tx (TxKeep.rhk HB9.out.2.1.rhs HK2.out.1)) hxk
          have hcx0 := hat k x hxk
          obtain ⟨xs, hxs⟩ : ∃ s : ByteArray, (⟨x.toArray⟩ : ByteArray) = s := ⟨_, rfl⟩
          have hcx : wr.cell? ⟨b8, o8 + k, none⟩ = some (.string xs) := by rw [← hxs]; exact hcx0
          have hxl : xs.data.toList = x := by rw [← hxs]
          obtain ⟨xt, hxt⟩ : ∃ t, x = N ++ t := by
           obtain ⟨_, t, _, e⟩ := (mem_mvNames HH.out.2.2.2.1).1 (mvl_mem.1 (List.mem_of_getElem? hxk))
           exact ⟨t, e⟩
          have hxz : xs.size = n.size + xt.length := by
           have h1 := congrArg List.length (hxl.trans hxt)
           rw [List.length_append, ← HB2.out.2, Array.length_toList, Array.length_toList] at h1
           exact h1
          have hxs60 : xs.size ≤ 60 := by
           obtain ⟨h1, _⟩ := (mem_mvNames HH.out.2.2.2.1).1 (mvl_mem.1 (List.mem_of_getElem? hxk))
           obtain ⟨b9, hb9⟩ := hasB_true.1 h1
           have h2 := HH.out.2.2.2.2.2.2.2.2 _ hb9
           have h2 : x.length ≤ 60 := h2
           rw [← hxl, Array.length_toList] at h2
           exact h2
          have hle : n.size ≤ xs.size := by omega
          have hle1 : (n.size : Int) ≤ (xs.size : Int) := by omega
          have hn0 : (0 : Int) ≤ (n.size : Int) := by omega
          have hlim2 : (9223372036854775807 < q.size + (xs.size - n.size)) = False := eq_false (by omega)
          have hcy : (q ++ xs.extract n.size xs.size).data.toList = calledB T N x := by
           have h1 : (xs.extract n.size xs.size).data.toList = xt := by
            rw [ext_list, hxl, hxt, List.drop_append_of_le_length (by rw [← HB2.out.2, Array.length_toList]; exact Nat.le_refl _)]
            have h2 : N.length = n.size := by rw [← HB2.out.2, Array.length_toList]; rfl
            rw [← h2, List.drop_length, List.nil_append]
            try exact List.take_of_length_le (by omega)
           rw [hxt, called_app, show (q ++ xs.extract n.size xs.size).data.toList = q.data.toList ++ (xs.extract n.size xs.size).data.toList by simp, h1, HB3.out.2.2]
          have hyz : (q ++ xs.extract n.size xs.size).size ≤ 1000 := by rw [ByteArray.size_append, ByteArray.size_extract]; omega
          obtain ⟨bx, hbx, hst⟩ := mv0_step HH.out.1.rhs.2.sorted HH.out.2.2.2.2.2.2.2.1 HH.out.2.2.2.1 HH.out.2.2.2.2.2.1 hxk
          have hlkx := rmp_look HK2.out.2.2 xs (by omega) (b := bx) (by rw [hxl]; exact hbx)
          have c2 := HK2.out.2.cell.1
          obtain ⟨WA, hdel, hmA, htA⟩ := rmp_del HK2.out.2.2 xs (by omega) 0
          have hA : RHs WA hb mb wb (delB (mvAll T N ((mvList l N).take k) l) xs.data.toList) nx := ⟨((turned_but htA).block hb HK2.out.2.lt HK2.out.2.ne).trans HK2.out.2.1, hmA⟩
          have cA := hA.cell.1
          obtain ⟨WD, hWD⟩ : ∃ W, WA.drew = W := ⟨_, rfl⟩
          have bD : Below WA.heap.size WA WD := by rw [← hWD]; exact (Below.refl _ _).drew
          have hD := hA.below bD (Nat.le_refl _)
          have hlenD : (delB (mvAll T N ((mvList l N).take k) l) xs.data.toList).length ≤ 1000000 := by
           have h1 := mvAll_len (t := T) (n := N) (xs := (mvList l N).take k) (l := l)
           have h2 : ((mvList l N).take k).length ≤ K := by rw [List.length_take]; omega
           have h3 : (delB (mvAll T N ((mvList l N).take k) l) xs.data.toList).length ≤ _ := List.length_filter_le _ _
           omega
          obtain ⟨WB, hput, hmB, htB⟩ := rmp_put hD.2 (q ++ xs.extract n.size xs.size) (by omega) hlenD bx
          have hB : RHs WB hb mb wb (putB (q ++ xs.extract n.size xs.size).data.toList bx (delB (mvAll T N ((mvList l N).take k) l) xs.data.toList)) nx := ⟨((turned_but htB).block hb hD.lt hD.ne).trans hD.1, hmB⟩
          have cB := hB.cell.1
          have HN2 : Hid (HK hb mb w9 WB ∧ RHs WB hb mb wb (mvAll T N ((mvList l N).take (k + 1)) l) nx) := by
           refine ⟨(HK2.out.1.trans (HK.turned htA)).trans ((HK.of bD).trans (HK.turned htB)), ?_⟩
           rw [hcy, hxl, hst] at hB
           exact hB
          clear hat hxk hcx0 hxs hxl hxt hxz hcy hbx hst HK2 hA hD bD hmA htA hmB htB hB hlenD
          go_upto_region 33 with fail
          refine wp_region_held_drew (S := fun W => W.cell? ⟨hb, 0, none⟩ = some (.map (some mb))) (by kernel_rfl) ?_ (fun hHeld => ?_)
          ·simpa using cA
          rw [hWD] at hHeld ⊢
          refine wpAnyH_take (i := 0) (v := ?_) rfl (by kernel_rfl) (by kernel_rfl) (by kernel_rfl) (fun _ _ _ h => h) (Or.inl ⟨by rfl, ?_⟩) (by assumption) ?_
          rotate_left
          ·intro w hSw; go_simp; (try with_reducible rfl)
          change wpAnyH _ _ _ _ _ _ _ (Act.put _ (some 138) _) _; simp only [Act.put, List.setIfInBounds_toArray, List.set_cons_zero, List.set_cons_succ]
          refine wpAnyH_take (i := 1) (v := ?_) rfl (by kernel_rfl) (by kernel_rfl) (by kernel_rfl) (fun _ _ _ h => h) (Or.inl ⟨by rfl, ?_⟩) (by assumption) ?_
          rotate_left
          ·intro w hSw; go_simp; (try with_reducible rfl)
          change wpAnyH _ _ _ _ _ _ _ (Act.put _ (some 139) _) _; simp only [Act.put, List.setIfInBounds_toArray, List.set_cons_zero, List.set_cons_succ]
          refine wpAnyH_take (i := 2) (v := ?_) rfl (by kernel_rfl) (by kernel_rfl) (by kernel_rfl) (fun _ _ _ h => h) (Or.inl ⟨by rfl, ?_⟩) (by assumption) ?_
          rotate_left
          ·intro w hSw; go_simp; (try with_reducible rfl)
          change wpAnyH _ _ _ _ _ _ _ (Act.put _ (some 140) _) _; simp only [Act.put, List.setIfInBounds_toArray, List.set_cons_zero, List.set_cons_succ]
          refine wpAnyH_take (i := 3) (v := ?_) rfl (by kernel_rfl) (by kernel_rfl) (by kernel_rfl) (fun _ _ _ h => h) (Or.inl ⟨by rfl, ?_⟩) (by assumption) ?_
          rotate_left
          ·intro w hSw; go_simp; (try with_reducible rfl)
          change wpAnyH _ _ _ _ _ _ _ (Act.put _ (some 141) _) _; simp only [Act.put, List.setIfInBounds_toArray, List.set_cons_zero, List.set_cons_succ]
          refine wpAnyH_take (i := 4) (v := ?_) rfl (by kernel_rfl) (by kernel_rfl) (by kernel_rfl) (fun _ _ _ h => h) (Or.inl ⟨by rfl, ?_⟩) (by assumption) ?_
          rotate_left
          ·intro w hSw; go_simp; (try with_reducible rfl)
          change wpAnyH _ _ _ _ _ _ _ (Act.put _ (some 142) _) _; simp only [Act.put, List.setIfInBounds_toArray, List.set_cons_zero, List.set_cons_succ]
          refine wpAnyH_take (i := 5) (v := ?_) rfl (by kernel_rfl) (by kernel_rfl) (by kernel_rfl) (fun _ _ _ h => h) (Or.inl ⟨by rfl, ?_⟩) (by assumption) ?_
          rotate_left
          ·intro w hSw; go_simp; (try with_reducible rfl)
          change wpAnyH _ _ _ _ _ _ _ (Act.put _ (some 143) _) _; simp only [Act.put, List.setIfInBounds_toArray, List.set_cons_zero, List.set_cons_succ]
          refine wpAnyH_take (i := 6) (v := ?_) rfl (by kernel_rfl) (by kernel_rfl) (by kernel_rfl) (fun _ _ _ h => h) (Or.inl ⟨by rfl, ?_⟩) (by assumption) ?_
          rotate_left
          ·intro w hSw; go_simp; (try with_reducible rfl)
          change wpAnyH _ _ _ _ _ _ _ (Act.put _ (some 144) _) _; simp only [Act.put, List.setIfInBounds_toArray, List.set_cons_zero, List.set_cons_succ]
          refine wpAnyH_take (i := 7) (v := ?_) rfl (by kernel_rfl) (by kernel_rfl) (by kernel_rfl) (fun _ _ _ h => h) (Or.inl ⟨by rfl, ?_⟩) (by assumption) ?_
          rotate_left
          ·intro w hSw; go_simp; (try with_reducible rfl)
          change wpAnyH _ _ _ _ _ _ _ (Act.put _ (some 145) _) _; simp only [Act.put, List.setIfInBounds_toArray, List.set_cons_zero, List.set_cons_succ]
          refine wpAnyH_take (i := 8) (v := ?_) rfl (by kernel_rfl) (by kernel_rfl) (by kernel_rfl) (fun _ _ _ h => h) (Or.inl ⟨by rfl, ?_⟩) (by assumption) ?_
          rotate_left
          ·intro w hSw; go_simp; (try with_reducible rfl)
          change wpAnyH _ _ _ _ _ _ _ (Act.put _ (some 146) _) _; simp only [Act.put, List.setIfInBounds_toArray, List.set_cons_zero, List.set_cons_succ]
          refine wpAnyH_take (i := 9) (v := ?_) rfl (by kernel_rfl) (by kernel_rfl) (by kernel_rfl) (fun _ _ _ h => h) (Or.inl ⟨by rfl, ?_⟩) (by assumption) ?_
          rotate_left
          ·intro w hSw; go_simp; (try with_reducible rfl)
          change wpAnyH _ _ _ _ _ _ _ (Act.put _ (some 147) _) _; simp only [Act.put, List.setIfInBounds_toArray, List.set_cons_zero, List.set_cons_succ]
          refine wpAnyH_take (i := 10) (v := ?_) rfl (by kernel_rfl) (by kernel_rfl) (by kernel_rfl) (fun _ _ _ h => h) (Or.inl ⟨by rfl, ?_⟩) (by assumption) ?_
          rotate_left
          ·intro w hSw; go_simp; (try with_reducible rfl)
          change wpAnyH _ _ _ _ _ _ _ (Act.put _ (some 148) _) _; simp only [Act.put, List.setIfInBounds_toArray, List.set_cons_zero, List.set_cons_succ]
          refine wpAnyH_ready (rs := [11]) (by kernel_rfl) (by simp) ?_
          refine AllReadyH.cons rfl (fun K hK => ?_) AllReadyH.nil
          go_simp
          refine hK.out _ _ ?_ (fun hHeld => ?_)
          ·exact cB
          clear hK K
          refine wpAnyH_done (by kernel_rfl) ?_ _
          clear hHeld
          go_wp2_with fail
          go_roundw
          case rel => exact ⟨k + 1, by go_num, by omega, HN2⟩
          case measure => simp [intOf]; omega
         ·have d2 : decide ((k : Int) < (K : Int)) = false := decide_eq_false (by omega)
          have hfull : (mvList l N).take k = mvList l N := List.take_of_length_le (by rw [HB7.out.2.2.2]; omega)
          have hS := HK2.out.2
          rw [hfull] at hS
          have hsz := HK2.out.1.size
          have hrowx : NRow wr (W8.heap.size + 1) (.slice oa LO oc) (lackB l T) := own_same HB9.out.2.2.2.1 fun g hg => by
           rcases HB9.out.2.2.2.1.2 with ⟨h1, _⟩ | ⟨g', cap, cur, h1, _, h2, _⟩
           ·rw [h1] at hg; cases hg
           ·rw [h1] at hg
            obtain rfl : g' = g := by simpa [Value.ownBlock] using hg
            have hne := rhs_kind HB9.out.2.1.rhs h2 (by decide)
            exact HK2.out.1.block _ (Array.getElem?_eq_some_iff.1 h2).1 hne.1 hne.2
          have hllen : (mvAll T N (mvList l N) l).length ≤ 100 := by
           have h1 := mvAll_len (t := T) (n := N) (xs := mvList l N) (l := l)
           have h2 := HB7.out.2.2.2
           omega
          have cA := radd_is hb mb wb (W8.heap.size + 1) (mvAll T N (mvList l N) l) nx (.slice oa LO oc) (lackB l T) wr hS hrowx (fun m hm => by
           have h1 := lack_short hm
           have h2 := nameB_short HH.out.2.2.2.2.1
           omega) hllen (by have := HB9.out.2.2.2.2; omega) hn
          have HK3 : Hid (HK hb mb w9 wr) := HK2.out.1
          clear HK2 hS hrowx hfull hllen hsz
          go_wp2_with fail
          refine cA.mono ?_
          rintro e wz ⟨rfl, z1, ps, z2, z3⟩
          have HF : Hid (Tn (DS hb mb wb l) w wz ∧ ∃ ps, Made w.heap.size (lackB l T) ps ∧ RSt wz hb mb wb (putAll (mvAll T N (mvList l N) l) ps) Wl (nx + ((lackB l T).length : Int)) (withNew w.heap.size nx ps C)) := by
           have hkz : HK hb mb w9 wz := HK3.out.trans z1
           have hw9 : w.heap.size ≤ w9.heap.size := HB9.out.1.size
           have hwr : w.heap.size ≤ wr.heap.size := Nat.le_trans hw9 HK3.out.size
           have hps : Made w.heap.size (lackB l T) ps := ⟨z2.1, fun j p hj => Nat.le_trans hwr (z2.2.1 j p hj).1, z2.2.2⟩
           refine ⟨(Tn.of HB9.out.1).trans (Tn.hk hkz (Or.inl rfl) (Or.inr (Or.inl rfl))), ps, hps, ?_⟩
           refine HB9.out.2.1.hk hkz z3 fun p hp => ?_
           rcases mem_putAll ps _ (mvAll_sorted (t := T) (n := N) (mvList l N) l HH.out.1.rhs.2.sorted) hp with h1 | h1
           ·obtain ⟨x, hx⟩ : ∃ x, (x, p.2) ∈ l := by
             have h2 := (mv0_mem HH.out.1.rhs.2.sorted HH.out.2.2.2.2.2.2.2.1 HH.out.2.2.2.1 HH.out.2.2.2.2.2.1 (mvList l N).length p.1 p.2).1 (by rw [List.take_length]; exact h1)
             rcases h2 with ⟨h3, _⟩ | ⟨x, _, h3, _⟩
             ·exact ⟨_, h3⟩
             ·exact ⟨x, h3⟩
            have h4 := HH.out.1.old _ hx
            have h4 : p.2 < w.heap.size := h4
            rw [withNew_old h4]
            exact HB9.out.2.1.box hkz (p := (x, p.2)) hx
           ·obtain ⟨j, hj⟩ := List.getElem?_of_mem h1
            rw [made_new hps hj]
            exact ⟨_, rnew_box (z2.2.1 j p hj).2⟩
          clear cA z1 z2 z3
          go_wp2_with fail
          go_ret
          exact Or.inr (Or.inr (Or.inr ⟨HIN.out, HNL.out, by rw [HB9.out.2.2.2.2]; omega, rfl, HF.out.1, HF.out.2⟩))
   ·rw [HH.out.2.2.2.2.1] at hq
    cases hq
  ·rw [HH.out.2.2.1] at hn2
   cases hn2
 ·rw [HH.out.2.2.1] at hr
  rw [← Option.some.inj hr, HH.out.2.2.2.1] at hno
  cases hno
 ·rw [HH.out.2.2.1] at hr
  cases hr
end Go.Proofs.YtfdlopimncodcaaGreatDoor
