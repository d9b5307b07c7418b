/-
  Messages go: Expunge.
-/
import Derived.Test.YtgpcnacpefficaaGreatDoorBpBoxFlag
namespace Go.Proofs.YtgpcnacpefficaaGreatDoor
open Go.RowKit Go.Proofs.Aid Go.Proofs.Bx

/-- A row of numbers that is nobody else's. -/
def NOwn (w : World) (base : Nat) (v : Value) (ns : List Int) : Prop := w.ownsRow base 3 1 v ns.length (ns.map (Value.int .i64))
theorem lown_form {w0 w : World} {base : Nat} {v : Value} {l : List Lt} (h : LOwn w0 w base v l) : ∃ a c, v = .slice a l.length c := by
  obtain ⟨rows, h1, _⟩ := h
  rcases h1.2 with ⟨h2, h3⟩ | ⟨g, cap, cur, hv, _⟩
  · exact ⟨none, 0, by rw [h2, h3]⟩
  · exact ⟨_, _, hv⟩
theorem nown_form {w : World} {base : Nat} {v : Value} {ns : List Int} (h : NOwn w base v ns) : ∃ a c, v = .slice a ns.length c := by
  rcases h.2 with ⟨h2, h3⟩ | ⟨g, cap, cur, hv, _⟩
  · exact ⟨none, 0, by rw [h2, h3]⟩
  · exact ⟨_, _, hv⟩
/-- Two rows of different types lie apart. -/
theorem own_apart {w : World} {base e e' size size' n n' : Nat} {v v' : Value} {xs xs' : List Value} (h : w.ownsRow base e size v n xs) (h' : w.ownsRow base e' size' v' n' xs') (hne : e ≠ e') {q : Nat} (hq : v.ownBlock = some q) : v'.ownBlock ≠ some q := by
  intro hq'
  rcases h.2 with ⟨rfl, _⟩ | ⟨g, cap, cur, rfl, _, hh, _⟩
  · cases hq
  rcases h'.2 with ⟨rfl, _⟩ | ⟨g', cap', cur', rfl, _, hh', _⟩
  · cases hq'
  obtain rfl : g = q := by simpa [Value.ownBlock] using hq
  obtain rfl : g' = g := by simpa [Value.ownBlock] using hq'
  rw [hh] at hh'
  injection hh' with hh'
  injection hh' with _ e1 _
  exact hne e1
theorem LOwn.below {w0 w w' : World} {base : Nat} {v : Value} {l : List Lt} (h : LOwn w0 w base v l) (hb : Below w.heap.size w w') : LOwn w0 w' base v l := by
  obtain ⟨rows, h1, h2, h3, h4⟩ := h
  exact ⟨rows, own_same h1 fun q hq => hb.block q (h1.lt q hq).2, h2, h3, h4⟩
theorem NOwn.below {w w' : World} {base : Nat} {v : Value} {ns : List Int} (h : NOwn w base v ns) (hb : Below w.heap.size w w') : NOwn w' base v ns := own_same h fun q hq => hb.block q (h.lt q hq).2
/-- One message more for those that stay. -/
theorem push_stay {w0 w : World} {base : Nat} {va vb : Option Addr} {ca cb : Nat} {L : List Lt} {ns : List Int} (h : LOwn w0 w base (.slice va L.length ca) L) (hn : NOwn w base (.slice vb ns.length cb) ns) (hL : L.length ≤ 1000) (x : Lt) (xs : List Value) (hx : LtRow w0 x xs) (hcell : ∀ u ∈ xs, u.oneCell' = true) (hbase : base ≤ w.heap.size) :
    ∃ g cap W, (Builtin.append_ #[22, 22] 22 #[.slice va L.length ca, .slice (some ⟨w.heap.size, 0, none⟩) 1 1]).run Tryz.prog (w.alloc (.cells xs.toArray 51)) = .ok (.slice (some ⟨g, 0, none⟩) (L.length + 1) cap) W ∧
      LOwn w0 W base (.slice (some ⟨g, 0, none⟩) (L.length + 1) cap) (L ++ [x]) ∧ NOwn W base (.slice vb ns.length cb) ns ∧ Below base w W := by
  obtain ⟨rows, h1, h2, h3, h4⟩ := h
  obtain ⟨j0, hj, hz, hs, hby⟩ := info_parts Tryz.infoLt
  have hlen := hx.len
  have b8 : Below w.heap.size w (w.alloc (.cells xs.toArray 51)) := (Below.refl _ _).alloc (Nat.le_refl _) _
  have hnews := World.news_of_block (heap_alloc_new w (.cells xs.toArray 51))
  obtain ⟨g9, cap9, W9, hrun, hown9, hg9, hor9, hlt9⟩ := run_append_lies (P := Tryz.prog) (w.alloc (.cells xs.toArray 51)) 22 22 base 51 j0 (.agg #[.int .i64 0, .slice none 0 0, .int .i64 0, .string ⟨#[]⟩]) 4 56 Tryz.underlying22 hj hz hs hby rfl (by decide) (.slice va L.length ca) L.length _ (h1.alloc _) ⟨w.heap.size, 0, none⟩ 1 1 xs (by rw [hlen]) (by simpa using hnews) hcell (by decide) (by unfold maxLen; omega) (by omega) (by simp; omega) _ rfl
  refine ⟨g9, cap9, W9, hrun, ⟨rows ++ [xs], ?_, by simp [h2], fun j y ys hj hy => ?_, fun ys hy => ?_⟩, ?_, ?_⟩
  · rw [List.length_append, List.flatten_append, List.flatten_cons, List.flatten_nil, List.append_nil]
    exact hown9
  · by_cases hjl : j < L.length
    · rw [List.getElem?_append_left hjl] at hj
      rw [List.getElem?_append_left (by omega)] at hy
      exact h3 j y ys hj hy
    · have : j < (L ++ [x]).length := (List.getElem?_eq_some_iff.1 hj).1
      obtain rfl : j = L.length := by simp at this; omega
      rw [List.getElem?_append_right (Nat.le_refl _), Nat.sub_self] at hj
      rw [List.getElem?_append_right (by omega), h2, Nat.sub_self] at hy
      obtain rfl : x = y := by simpa using hj
      obtain rfl := Option.some.inj hy
      exact hx
  · rcases List.mem_append.1 hy with h | h
    · exact h4 ys h
    · rw [List.mem_singleton.1 h]; exact hlen
  · refine own_same hn fun q hq => ?_
    have hql := hn.lt q hq
    exact (hg9.block q (Nat.lt_of_lt_of_le hql.2 b8.size) (fun e => own_apart hn h1 (by decide) hq e.symm)).trans (b8.block q hql.2)
  · refine ⟨hg9.os.trans b8.os, hg9.tape.trans b8.tape, hg9.output.trans b8.output, Nat.le_trans b8.size hg9.size, fun q hq => (hg9.block q (by have := b8.size; omega) (fun e => by have := (h1.lt q e.symm).1; omega)).trans (b8.block q (by omega))⟩
/-- One number more for those that go. -/
theorem push_went {w0 w : World} {base : Nat} {va vb : Option Addr} {ca cb : Nat} {L : List Lt} {ns : List Int} (h : LOwn w0 w base (.slice va L.length ca) L) (hn : NOwn w base (.slice vb ns.length cb) ns) (hL : ns.length ≤ 1000) (u : Int) (hbase : base ≤ w.heap.size) :
    ∃ g cap W, (Builtin.append_ #[46, 46] 46 #[.slice vb ns.length cb, .slice (some ⟨w.heap.size, 0, none⟩) 1 1]).run Tryz.prog (w.alloc (.cells #[.int .i64 u] 3)) = .ok (.slice (some ⟨g, 0, none⟩) (ns.length + 1) cap) W ∧
      LOwn w0 W base (.slice va L.length ca) L ∧ NOwn W base (.slice (some ⟨g, 0, none⟩) (ns.length + 1) cap) (ns ++ [u]) ∧ Below base w W := by
  obtain ⟨rows, h1, h2, h3, h4⟩ := h
  obtain ⟨j0, hj, hz, hs, hby⟩ := info_parts Tryz.infoInt
  have b8 : Below w.heap.size w (w.alloc (.cells #[.int .i64 u] 3)) := (Below.refl _ _).alloc (Nat.le_refl _) _
  have hnews := World.news_of_block (heap_alloc_new w (.cells #[.int .i64 u] 3))
  obtain ⟨g9, cap9, W9, hrun, hown9, hg9, hor9, hlt9⟩ := run_append_lies (P := Tryz.prog) (w.alloc (.cells #[.int .i64 u] 3)) 46 46 base 3 j0 (.int .i64 0) 1 8 Tryz.underlying46 hj hz hs hby rfl (by decide) (.slice vb ns.length cb) ns.length _ (World.ownsRow.alloc hn _) ⟨w.heap.size, 0, none⟩ 1 1 [.int .i64 u] rfl hnews (by simp [Value.oneCell']) (by decide) (by unfold maxLen; omega) (by omega) (by simp; omega) _ rfl
  refine ⟨g9, cap9, W9, hrun, ⟨rows, own_same h1 fun q hq => ?_, h2, h3, h4⟩, ?_, ?_⟩
  · have hql := h1.lt q hq
    exact (hg9.block q (Nat.lt_of_lt_of_le hql.2 b8.size) (fun e => own_apart h1 hn (by decide) hq e.symm)).trans (b8.block q hql.2)
  · unfold NOwn
    rw [List.length_append, List.map_append]
    exact hown9
  · refine ⟨hg9.os.trans b8.os, hg9.tape.trans b8.tape, hg9.output.trans b8.output, Nat.le_trans b8.size hg9.size, fun q hq => (hg9.block q (by have := b8.size; omega) (fun e => by have := (hn.lt q e.symm).1; omega)).trans (b8.block q (by omega))⟩
theorem stay_next {p : Int → Bool} {l : List Lt} {k : Nat} {x : Lt} (h : l[k]? = some x) : stay p (l.take (k + 1)) = stay p (l.take k) ++ (if (Fl.hasF x.flags [92, 68, 101, 108, 101, 116, 101, 100] && p x.uid) = true then [] else [x]) := by
  unfold stay
  rw [List.take_add_one, h]
  show List.filter _ (l.take k ++ [x]) = _
  rw [List.filter_append]
  cases hb : (Fl.hasF x.flags [92, 68, 101, 108, 101, 116, 101, 100] && p x.uid) <;> simp [List.filter, hb]
theorem went_next {p : Int → Bool} {l : List Lt} {k : Nat} {x : Lt} (h : l[k]? = some x) : went p (l.take (k + 1)) = went p (l.take k) ++ (if (Fl.hasF x.flags [92, 68, 101, 108, 101, 116, 101, 100] && p x.uid) = true then [x.uid] else []) := by
  unfold went
  rw [List.take_add_one, h]
  show List.map _ (List.filter _ (l.take k ++ [x])) = _
  rw [List.filter_append, List.map_append]
  cases hb : (Fl.hasF x.flags [92, 68, 101, 108, 101, 116, 101, 100] && p x.uid) <;> simp [List.filter, hb]
theorem stay_le (p : Int → Bool) (l : List Lt) : (stay p l).length ≤ l.length := List.length_filter_le _ _
theorem went_le (p : Int → Bool) (l : List Lt) : (went p l).length ≤ l.length := by unfold went; rw [List.length_map]; exact List.length_filter_le _ _
set_option maxHeartbeats 4000000 in
set_option maxRecDepth 100000 in
theorem box_expunge_new (bb : Nat) (vv n : Int) (l : List Lt) (f : FuncId) (caps : List Value) (p : Int → Bool) (w : World) (h : BoxAt w bb vv n l) (hl : l.length ≤ 1000) (hfl : ∀ x ∈ l, x.flags.length ≤ 1000) (hg : SysAt w)
    (eg : ∀ args w, (callFunc f args).run Tryz.prog w = .ok (.enter f args) w)
    (cH : ∀ x ∈ l, ∀ W, Below w.heap.size w W → Calls Tryz.prog f (Value.int .i64 x.uid :: caps).toArray W fun e w' => e = .returned (.bool (p x.uid)) ∧ Below W.heap.size W w') :
    Calls Tryz.prog 29 #[.pointer (some ⟨bb, 0, none⟩), .func (.func f) #[] caps.toArray] w fun e w' =>
      ∃ ov, e = .returned ov ∧ NOwn w' w.heap.size ov (went p l) ∧ BoxNew w.heap.size w' bb vv n (stay p l) ∧ But w.heap.size bb w w' := by
  obtain ⟨lv, y1, y2⟩ := h
  obtain ⟨a, c, rfl, hcap, hrest⟩ := id y2
  have p2 : w.cell? ⟨bb, 2, none⟩ = some (.slice a l.length c) := rd_cell y1 rfl
  have hbl : bb < w.heap.size := (Array.getElem?_eq_some_iff.1 y1).1
  have hns : NoStr w bb := noStr_box y1 ⟨_, _, _, rfl⟩
  have HL : Hid (l = [] ∨ ∃ b o, a = some ⟨b, o, none⟩ ∧ ∀ (j : Nat) x, l[j]? = some x → LtAt w b (o + j * 4) x) := hrest
  have HY : Hid (w.heap[bb]? = some (.cells #[.int .i64 vv, .int .i64 n, .slice a l.length c] 28 (0, 0)) ∧ NoStr w bb) := ⟨y1, hns⟩
  have HSY : Hid (SysAt w) := hg
  have hsl := hg.lt
  have HCH : Hid (∀ x ∈ l, ∀ W, Below w.heap.size w W → Calls Tryz.prog f (Value.int .i64 x.uid :: caps).toArray W fun e w' => e = .returned (.bool (p x.uid)) ∧ Below W.heap.size W w') := cH
  obtain ⟨m, hm⟩ : ∃ m, l.length = m := ⟨_, rfl⟩
  have HM : Hid (l.length = m) := hm
  have HSL : Hid (∀ k, (stay p (l.take k)).length ≤ 1000 ∧ (went p (l.take k)).length ≤ 1000) := fun k => by
    have h1 := stay_le p (l.take k)
    have h2 := went_le p (l.take k)
    have h3 : (l.take k).length ≤ l.length := by rw [List.length_take]; omega
    omega
  rw [hm] at p2 hl
  have HDONE : Hid (∀ W sv ov, LOwn w W w.heap.size sv (stay p l) → NOwn W w.heap.size ov (went p l) → Below w.heap.size w W → W.cell? ⟨bb, 2, none⟩ = some (.slice a m c) ∧ W.frozen? ⟨bb, 2, none⟩ = false ∧ NOwn (W.setCell ⟨bb, 2, none⟩ sv) w.heap.size ov (went p l) ∧ BoxNew w.heap.size (W.setCell ⟨bb, 2, none⟩ sv) bb vv n (stay p l) ∧ But w.heap.size bb w (W.setCell ⟨bb, 2, none⟩ sv)) := fun W sv ov h1 h2 hb => by
    have z := (hb.block bb hbl).trans y1
    have hb2 : But w.heap.size bb w (W.setCell ⟨bb, 2, none⟩ sv) := (to_but hb).setB 2 _
    rw [hm] at z
    refine ⟨rd_cell z rfl, rd_free z 2, own_same h2 fun q hq => Below.heap_setCell _ _ _ _ (by have := (h2.lt q hq).1; show q ≠ bb; omega), ⟨sv, rd_set (i := 2) sv z, ?_, fun q hq => (by obtain ⟨rows, r1, _⟩ := h1; exact (r1.lt q hq).1)⟩, hb2⟩
    obtain ⟨rows, r1, r2, r3, r4⟩ := h1
    refine lts_own (own_same r1 fun q hq => Below.heap_setCell _ _ _ _ (by have := (r1.lt q hq).1; show q ≠ bb; omega)) r2 (fun j x xs h1 h2 => ?_) r4
    obtain ⟨fv, e1, e2⟩ := r3 j x xs h1 h2
    exact ⟨fv, e1, e2.but hns hb2 (Nat.le_refl _)⟩
  clear y1 y2 hcap hrest hns hg cH hm
  go_enter Tryz.func29, Tryz.ntmps29
  go_wp2_with fail
  go_loopw [5, 6, 14] (fun sv ov i wr => ∃ (k : Nat) (va vb : Option Addr) (n1 n2 c1 c2 : Nat), i = .int .i64 (k : Int) ∧ k ≤ m ∧ sv = .slice va n1 c1 ∧ ov = .slice vb n2 c2 ∧ Hid (n1 = (stay p (l.take k)).length ∧ n2 = (went p (l.take k)).length ∧ LOwn w wr w.heap.size (.slice va n1 c1) (stay p (l.take k)) ∧ NOwn wr w.heap.size (.slice vb n2 c2) (went p (l.take k)) ∧ Below w.heap.size w wr)) (fun _ _ i _ => m - (intOf i).toNat)
  case atStart => exact ⟨0, none, none, 0, 0, 0, 0, rfl, Nat.zero_le _, rfl, rfl, rfl, rfl, ⟨[], World.ownsRow_nil _ _ _ _, rfl, fun j x xs h => (by simp [stay] at h), fun xs h => (by cases h)⟩, World.ownsRow_nil _ _ _ _, Below.refl _ _⟩
  case round =>
    obtain ⟨k, va, vb, n1, n2, c1, c2, rfl, hk, rfl, rfl, HI⟩ := hrel
    by_cases hlt : k < m
    · have hkl : k < l.length := by rw [HM.out]; exact hlt
      obtain ⟨x, hx⟩ : ∃ x, l[k] = x := ⟨_, rfl⟩
      have hxk : l[k]? = some x := by rw [List.getElem?_eq_getElem hkl, hx]
      have hmem := List.mem_of_getElem? hxk
      obtain ⟨b, o, rfl, hat⟩ : ∃ b o, a = some ⟨b, o, none⟩ ∧ ∀ (j : Nat) x, l[j]? = some x → LtAt w b (o + j * 4) x := by
        rcases HL.out with h | h
        · rw [h] at hkl; simp at hkl
        · exact h
      obtain ⟨_, ⟨fw, gw, sw⟩, _, _⟩ := hat k x hxk
      obtain ⟨q0, ⟨fv, q1, hsf⟩, q3, q4⟩ := (hat k x hxk).below HI.out.2.2.2.2 (Nat.le_refl _)
      obtain rfl : fw = fv := by
        have := (HI.out.2.2.2.2.cell (p := ⟨b, _, none⟩) (World.block_lt_of_cell? _ _ gw)).trans gw
        rw [this] at q1
        exact Option.some.inj q1
      obtain ⟨fa, fc, hfv, _⟩ := id hsf
      have hrow : LtRow w x [.int .i64 x.uid, fw, .int .i64 x.day, .string ⟨x.text.toArray⟩] := ⟨fw, rfl, sw⟩
      have hst := stay_next (p := p) hxk
      have hwt := went_next (p := p) hxk
      have hle1 := (HSL.out k).1
      have hle2 := (HSL.out k).2
      obtain ⟨XU, hXU⟩ : ∃ z, x.uid = z := ⟨_, rfl⟩
      obtain ⟨XD, hXD⟩ : ∃ z, x.day = z := ⟨_, rfl⟩
      obtain ⟨XT, hXT⟩ : ∃ z : ByteArray, ⟨x.text.toArray⟩ = z := ⟨_, rfl⟩
      obtain ⟨FL, hFL⟩ : ∃ n, x.flags.length = n := ⟨_, rfl⟩
      have cP := HCH.out x hmem
      rw [hXU] at q0 hrow hst hwt cP
      rw [hXD] at q3 hrow
      rw [hXT] at q4 hrow
      rw [hFL] at hfv
      have hfx := hfl x hmem
      have eA := heap_alloc_new wr (.cells #[.int .i64 XU, fw, .int .i64 XD, .string XT] 51)
      have bA : Below wr.heap.size wr (wr.alloc (.cells #[.int .i64 XU, fw, .int .i64 XD, .string XT] 51)) := (Below.refl _ _).alloc (Nat.le_refl _) _
      obtain ⟨XB, hXB⟩ : ∃ n, wr.heap.size = n := ⟨_, rfl⟩
      obtain ⟨W2, hW2⟩ : ∃ W, wr.alloc (.cells #[.int .i64 XU, fw, .int .i64 XD, .string XT] 51) = W := ⟨_, rfl⟩
      rw [hW2] at eA bA
      have z2 : W2.heap.size = wr.heap.size + 1 := by rw [← hW2]; simp
      have hb02 : Below w.heap.size w W2 := HI.out.2.2.2.2.trans (bA.mono HI.out.2.2.2.2.size)
      have cHas := has_txs fw x.flags ⟨#[92, 68, 101, 108, 101, 116, 101, 100]⟩ W2 (hsf.below bA (Nat.le_refl _)) hfx (by decide) (HSY.out.below hb02 hsl)
      obtain ⟨HB, hHB⟩ : ∃ z, Fl.hasF x.flags [92, 68, 101, 108, 101, 116, 101, 100] = z := ⟨_, rfl⟩
      rw [show (⟨#[92, 68, 101, 108, 101, 116, 101, 100]⟩ : ByteArray).data.toList = [92, 68, 101, 108, 101, 116, 101, 100] from rfl, hHB] at cHas
      rw [hHB] at hst hwt
      have K2 : Hid (∀ W, Below W2.heap.size W2 W → W.cell? ⟨wr.heap.size, 0, none⟩ = some (.int .i64 XU) ∧ W.cell? ⟨wr.heap.size, 1, none⟩ = some fw ∧ W.cell? ⟨wr.heap.size, 2, none⟩ = some (.int .i64 XD) ∧ W.cell? ⟨wr.heap.size, 3, none⟩ = some (.string XT) ∧ Below w.heap.size w W ∧ LOwn w W w.heap.size (.slice va n1 c1) (stay p (l.take k)) ∧ NOwn W w.heap.size (.slice vb n2 c2) (went p (l.take k))) := fun W hW => by
        have e := (hW.block wr.heap.size (by omega)).trans eA
        have hbW := bA.trans (hW.mono (by omega))
        exact ⟨rd_cell e rfl, rd_cell e rfl, rd_cell e rfl, rd_cell e rfl, hb02.trans (hW.mono hb02.size), HI.out.2.2.1.below hbW, HI.out.2.2.2.1.below hbW⟩
      obtain ⟨a0, a1, a2, a3, _⟩ := K2.out W2 (Below.refl _ _)
      have HN12 : Hid (n1 = (stay p (l.take k)).length ∧ n2 = (went p (l.take k)).length) := ⟨HI.out.1, HI.out.2.1⟩
      have HROW : Hid (LtRow w x [.int .i64 XU, fw, .int .i64 XD, .string XT]) := hrow
      have HNX : Hid (stay p (l.take (k + 1)) = stay p (l.take k) ++ (if (HB && p XU) = true then [] else [x]) ∧ went p (l.take (k + 1)) = went p (l.take k) ++ (if (HB && p XU) = true then [XU] else [])) := ⟨hst, hwt⟩
      have HZ2 : Hid (w.heap.size ≤ W2.heap.size ∧ Below w.heap.size w W2) := ⟨hb02.size, hb02⟩
      have HPU : Hid (∀ W, Below w.heap.size w W → Calls Tryz.prog f (Value.int .i64 XU :: caps).toArray W fun e w' => e = .returned (.bool (p XU)) ∧ Below W.heap.size W w') := cP
      subst hfv
      clear hx hxk hmem hat hsf hst hwt hXU hXD hXT hFL hHB eA bA z2 hb02 hrow sw gw HI hkl hXB cP hfx
      go_wp2_with fail
      refine cHas.mono ?_
      rintro e w3 ⟨rfl, hb3⟩
      have H3 : Hid (Below W2.heap.size W2 w3) := hb3
      obtain ⟨d0, d1, d2, d3, hb03, _⟩ := K2.out w3 hb3
      clear cHas a0 a1 a2 a3
      cases HB with
      | false =>
        clear HPU hb3 d0 d1 d2 d3
        obtain ⟨k0, k1, k2, k3, kb, kL, kN⟩ := K2.out w3 H3.out
        rw [HN12.out.1] at kL
        rw [HN12.out.2] at kN
        obtain ⟨g9, cap9, W9, hrun, hL9, hN9, hb9⟩ := push_stay kL kN hle1 x _ HROW.out (by simp [Value.oneCell']) kb.size
        rw [← HN12.out.1] at hrun hL9
        rw [← HN12.out.2] at hN9
        have HRUN : Hid ((Builtin.append_ #[22, 22] 22 #[.slice va n1 c1, .slice (some ⟨w3.heap.size, 0, none⟩) 1 1]).run Tryz.prog (w3.alloc (.cells #[.int .i64 XU, .slice fa FL fc, .int .i64 XD, .string XT] 51)) = .ok (.slice (some ⟨g9, 0, none⟩) (n1 + 1) cap9) W9) := hrun
        have HD : Hid (n1 + 1 = (stay p (l.take (k + 1))).length ∧ n2 = (went p (l.take (k + 1))).length ∧ LOwn w W9 w.heap.size (.slice (some ⟨g9, 0, none⟩) (n1 + 1) cap9) (stay p (l.take (k + 1))) ∧ NOwn W9 w.heap.size (.slice vb n2 c2) (went p (l.take (k + 1))) ∧ Below w.heap.size w W9) := by
          obtain ⟨u1, u2⟩ := HNX.out
          rw [if_neg (by simp)] at u1 u2
          rw [List.append_nil] at u2
          rw [u1, u2]
          exact ⟨by rw [List.length_append, ← HN12.out.1]; rfl, HN12.out.2, hL9, hN9, kb.trans hb9⟩
        clear hrun hL9 hN9 hb9 kL kN kb
        go_wp2_with (at_builtin; go_must (refine Go.Lib.wpList_append_run _ rfl (.tmp 32) (.tmp 34) 22 22 rfl _ _ rfl rfl _ W9 HRUN.out ?_))
        go_roundw
        case rel => exact ⟨k + 1, _, _, _, _, _, _, by go_num, by omega, rfl, rfl, HD⟩
        case measure => simp [intOf]; omega
      | true =>
        have cSy := says_is f caps XU (p XU) w3 eg (HPU.out w3 hb03)
        obtain ⟨PB, hPB⟩ : ∃ z, p XU = z := ⟨_, rfl⟩
        rw [hPB] at cSy
        have HPB : Hid (p XU = PB) := hPB
        clear hPB HPU
        go_wp2_with fail
        refine cSy.mono ?_
        rintro e w4 ⟨rfl, hb4⟩
        have H4 : Hid (Below W2.heap.size W2 w4) := hb3.trans (hb4.mono hb3.size)
        clear cSy hb3 hb4 d0 d1 d2 d3
        cases PB with
        | false =>
          obtain ⟨k0, k1, k2, k3, kb, kL, kN⟩ := K2.out w4 H4.out
          rw [HN12.out.1] at kL
          rw [HN12.out.2] at kN
          obtain ⟨g9, cap9, W9, hrun, hL9, hN9, hb9⟩ := push_stay kL kN hle1 x _ HROW.out (by simp [Value.oneCell']) kb.size
          rw [← HN12.out.1] at hrun hL9
          rw [← HN12.out.2] at hN9
          have HRUN : Hid ((Builtin.append_ #[22, 22] 22 #[.slice va n1 c1, .slice (some ⟨w4.heap.size, 0, none⟩) 1 1]).run Tryz.prog (w4.alloc (.cells #[.int .i64 XU, .slice fa FL fc, .int .i64 XD, .string XT] 51)) = .ok (.slice (some ⟨g9, 0, none⟩) (n1 + 1) cap9) W9) := hrun
          have HD : Hid (n1 + 1 = (stay p (l.take (k + 1))).length ∧ n2 = (went p (l.take (k + 1))).length ∧ LOwn w W9 w.heap.size (.slice (some ⟨g9, 0, none⟩) (n1 + 1) cap9) (stay p (l.take (k + 1))) ∧ NOwn W9 w.heap.size (.slice vb n2 c2) (went p (l.take (k + 1))) ∧ Below w.heap.size w W9) := by
            obtain ⟨u1, u2⟩ := HNX.out
            rw [if_neg (by simp [HPB.out])] at u1 u2
            rw [List.append_nil] at u2
            rw [u1, u2]
            exact ⟨by rw [List.length_append, ← HN12.out.1]; rfl, HN12.out.2, hL9, hN9, kb.trans hb9⟩
          clear hrun hL9 hN9 hb9 kL kN kb
          go_wp2_with (at_builtin; go_must (refine Go.Lib.wpList_append_run _ rfl (.tmp 32) (.tmp 34) 22 22 rfl _ _ rfl rfl _ W9 HRUN.out ?_))
          go_roundw
          case rel => exact ⟨k + 1, _, _, _, _, _, _, by go_num, by omega, rfl, rfl, HD⟩
          case measure => simp [intOf]; omega
        | true =>
          obtain ⟨k0, k1, k2, k3, kb, kL, kN⟩ := K2.out w4 H4.out
          rw [HN12.out.1] at kL
          rw [HN12.out.2] at kN
          obtain ⟨g9, cap9, W9, hrun, hL9, hN9, hb9⟩ := push_went kL kN hle2 XU kb.size
          rw [← HN12.out.1] at hL9
          rw [← HN12.out.2] at hrun hN9
          have HRUN : Hid ((Builtin.append_ #[46, 46] 46 #[.slice vb n2 c2, .slice (some ⟨w4.heap.size, 0, none⟩) 1 1]).run Tryz.prog (w4.alloc (.cells #[.int .i64 XU] 3)) = .ok (.slice (some ⟨g9, 0, none⟩) (n2 + 1) cap9) W9) := hrun
          have HD : Hid (n1 = (stay p (l.take (k + 1))).length ∧ n2 + 1 = (went p (l.take (k + 1))).length ∧ LOwn w W9 w.heap.size (.slice va n1 c1) (stay p (l.take (k + 1))) ∧ NOwn W9 w.heap.size (.slice (some ⟨g9, 0, none⟩) (n2 + 1) cap9) (went p (l.take (k + 1))) ∧ Below w.heap.size w W9) := by
            obtain ⟨u1, u2⟩ := HNX.out
            rw [if_pos (by simp [HPB.out])] at u1 u2
            rw [List.append_nil] at u1
            rw [u1, u2]
            exact ⟨HN12.out.1, by rw [List.length_append, ← HN12.out.2]; rfl, hL9, hN9, kb.trans hb9⟩
          clear hrun hL9 hN9 hb9 kL kN kb
          go_wp2_with (at_builtin; go_must (refine Go.Lib.wpList_append_run _ rfl (.tmp 27) (.tmp 30) 46 46 rfl _ _ rfl rfl _ W9 HRUN.out ?_))
          go_roundw
          case rel => exact ⟨k + 1, _, _, _, _, _, _, by go_num, by omega, rfl, rfl, HD⟩
          case measure => simp [intOf]; omega
    · obtain rfl : k = m := by omega
      have hI := HI.out
      rw [List.take_of_length_le (by rw [HM.out]; exact Nat.le_refl _)] at hI
      obtain ⟨r1, r2, r3, r4, r5⟩ := HDONE.out wr _ _ hI.2.2.1 hI.2.2.2.1 hI.2.2.2.2
      have HF : Hid (NOwn (wr.setCell ⟨bb, 2, none⟩ (.slice va n1 c1)) w.heap.size (.slice vb n2 c2) (went p l) ∧ BoxNew w.heap.size (wr.setCell ⟨bb, 2, none⟩ (.slice va n1 c1)) bb vv n (stay p l) ∧ But w.heap.size bb w (wr.setCell ⟨bb, 2, none⟩ (.slice va n1 c1))) := ⟨r3, r4, r5⟩
      clear hI r3 r4 r5 HI
      go_wp2_with fail
      go_ret
      exact ⟨_, rfl, HF.out⟩
theorem box_expunge (bb : Nat) (vv n : Int) (l : List Lt) (f : FuncId) (caps : List Value) (p : Int → Bool) (w : World) (h : BoxAt w bb vv n l) (hl : l.length ≤ 1000) (hfl : ∀ x ∈ l, x.flags.length ≤ 1000) (hg : SysAt w)
    (eg : ∀ args w, (callFunc f args).run Tryz.prog w = .ok (.enter f args) w)
    (cH : ∀ x ∈ l, ∀ W, Below w.heap.size w W → Calls Tryz.prog f (Value.int .i64 x.uid :: caps).toArray W fun e w' => e = .returned (.bool (p x.uid)) ∧ Below W.heap.size W w') :
    Calls Tryz.prog 29 #[.pointer (some ⟨bb, 0, none⟩), .func (.func f) #[] caps.toArray] w fun e w' =>
      ∃ ov, e = .returned ov ∧ NOwn w' w.heap.size ov (went p l) ∧ BoxAt w' bb vv n (stay p l) ∧ But w.heap.size bb w w' :=
  (box_expunge_new bb vv n l f caps p w h hl hfl hg eg cH).mono fun _ _ ⟨ov, h1, h2, h3, h4⟩ => ⟨ov, h1, h2, h3.at, h4⟩
end Go.Proofs.YtgpcnacpefficaaGreatDoor
