/-
  , and more.
-/
import Derived.Test.YtfdlopimncodcaaGreatDoorMBoxApp
import Derived.Test.YtfdlopimncodcaaGreatDoorBpFlagsName
-- PRUNED
/-
  Flags of a message are changed: changed, Flag.
-/
namespace Go.Proofs.YtfdlopimncodcaaGreatDoor
open Go.RowKit Go.Proofs.Aid Go.Proofs.Bx

def limF (x : List Fl.Tx) : List Fl.Tx × Int := if 12 < x.length then ([], 4) else (x, 0)
/-- What flags are, when something was done with them. -/
def chgF (had : List Fl.Tx) (what : Int) (set : List Fl.Tx) : List Fl.Tx × Int :=
  if what = 0 then limF set else if what = 1 then limF (Fl.order (had ++ set)) else if what = 2 then limF (Fl.order (Fl.without had (Fl.order set))) else ([], 1)
def ChgOut (w : World) (F : List Fl.Tx × Int) (e : Ending) (w' : World) : Prop :=
  ((F.2 = 0 ∧ ∃ v', e = .returned (.tuple #[v', .nilIface]) ∧ Sl w' v' F.1) ∨ (F.2 ≠ 0 ∧ e = .returned (.tuple #[.slice none 0 0, .iface 42 (.int .i64 F.2)]))) ∧ Below w.heap.size w w'
theorem lim_out {w w' : World} {x : List Fl.Tx} {v : Value} (h : Sl w' v x) (hb : Below w.heap.size w w') (hl : ¬ 12 < x.length) : ChgOut w (limF x) (.returned (.tuple #[v, .nilIface])) w' := by
  unfold limF
  rw [if_neg hl]
  exact ⟨Or.inl ⟨rfl, v, rfl, h⟩, hb⟩
theorem lim_bad {w w' : World} {x : List Fl.Tx} (hb : Below w.heap.size w w') (hl : 12 < x.length) : ChgOut w (limF x) (.returned (.tuple #[.slice none 0 0, .iface 42 (.int .i64 4)])) w' := by
  unfold limF
  rw [if_pos hl]
  exact ⟨Or.inr ⟨by decide, rfl⟩, hb⟩
/-- A message with other flags. -/
def Lt.withF (x : Lt) (G : List Fl.Tx) : Lt := ⟨x.uid, G, x.day, x.text⟩
/-- The row with one message's flags put anew. -/
theorem put_flags {w0 w : World} {base g cap i bb : Nat} {v : Value} {l : List Lt} {x : Lt} (h : LOwn w0 w base v l) (hv : v = .slice (some ⟨g, 0, none⟩) l.length cap) (hi : l[i]? = some x) (hg0 : w0.heap.size ≤ g) (hns : NoStr w0 bb)
    (hb : But w0.heap.size bb w0 w) (nv : Value) (G : List Fl.Tx) (hs : Sl w0 nv G) :
    Lts (w.setCell ⟨g, i * 4 + 1, none⟩ nv) v (l.set i (Lt.withF x G)) ∧ (∃ u, w.cell? ⟨g, i * 4 + 1, none⟩ = some u) ∧ w.frozen? ⟨g, i * 4 + 1, none⟩ = false := by
  obtain ⟨rows, hown, hrl, hrw, h4⟩ := h
  have hil : i < l.length := (List.getElem?_eq_some_iff.1 hi).1
  rcases hown.2 with ⟨_, h0⟩ | ⟨g', cap', cur, hv', hbase, hh, hcp, hcm, hsz, htk⟩
  · omega
  rw [hv] at hv'
  injection hv' with e1 _ e3
  injection e1 with e1
  injection e1 with e1 _ _
  subst e1
  subst e3
  have hfl := flat4_len h4
  have hcur : ∀ k, k < l.length * 4 → cur[k]? = rows.flatten[k]? := fun k hk => by rw [← htk, List.getElem?_take_of_lt hk]; simp
  have hset := rd_set (i := i * 4 + 1) nv hh
  have hbw : But w0.heap.size bb w0 (w.setCell ⟨g, i * 4 + 1, none⟩ nv) := hb.trans (to_but ((Below.refl _ _).setCell (p := ⟨g, i * 4 + 1, none⟩) hg0 nv))
  have hcell : ∀ k u, k < l.length * 4 → k ≠ i * 4 + 1 → rows.flatten[k]? = some u → (w.setCell ⟨g, i * 4 + 1, none⟩ nv).cell? ⟨g, k, none⟩ = some u := fun k u hk hne hu => by
    refine rd_cell hset ?_
    rw [Array.getElem?_setIfInBounds, if_neg (Ne.symm hne), hcur k hk]
    exact hu
  refine ⟨⟨some ⟨g, 0, none⟩, cap, by rw [hv, List.length_set], ⟨fun e => (by cases e), by rw [List.length_set]; exact hcp, by unfold maxLen at hcm; omega⟩, Or.inr ⟨g, 0, rfl, fun j y hj => ?_⟩⟩, ?_, rd_free hh _⟩
  · have hjl : j < l.length := by have := (List.getElem?_eq_some_iff.1 hj).1; rwa [List.length_set] at this
    obtain ⟨z, hz⟩ : ∃ z, l[j]? = some z := ⟨l[j], List.getElem?_eq_getElem hjl⟩
    have hjr : rows[j]? = some (rows[j]'(by omega)) := List.getElem?_eq_getElem (by omega)
    obtain ⟨fv, hx, hsf⟩ := hrw j z _ hz hjr
    have hf : ∀ m u, m < 4 → (rows[j]'(by omega))[m]? = some u → rows.flatten[j * 4 + m]? = some u := fun m u hm hu => by rw [flat4_get h4 hjr hm]; exact hu
    have c0 := hcell (j * 4 + 0) (.int .i64 z.uid) (by omega) (by omega) (hf 0 _ (by omega) (by rw [hx]; rfl))
    have c2 := hcell (j * 4 + 2) (.int .i64 z.day) (by omega) (by omega) (hf 2 _ (by omega) (by rw [hx]; rfl))
    have c3 := hcell (j * 4 + 3) (.string ⟨z.text.toArray⟩) (by omega) (by omega) (hf 3 _ (by omega) (by rw [hx]; rfl))
    rw [Nat.add_zero] at c0
    rw [Nat.zero_add]
    by_cases hji : j = i
    · subst hji
      rw [hi] at hz
      obtain rfl := Option.some.inj hz
      rw [List.getElem?_set_self hjl] at hj
      obtain rfl := Option.some.inj hj
      refine ⟨c0, ⟨nv, rd_cell hset ?_, hs.but hns hbw (Nat.le_refl _)⟩, c2, c3⟩
      rw [Array.getElem?_setIfInBounds, if_pos rfl, if_pos (by rw [hsz]; omega)]
    · rw [List.getElem?_set_ne (Ne.symm hji), hz] at hj
      obtain rfl := Option.some.inj hj
      refine ⟨c0, ⟨fv, hcell (j * 4 + 1) fv (by omega) (by omega) (hf 1 _ (by omega) (by rw [hx]; rfl)), hsf.but hns hbw (Nat.le_refl _)⟩, c2, c3⟩
  · have hk : i * 4 + 1 < cur.size := by rw [hsz]; omega
    exact ⟨_, rd_cell hh (Array.getElem?_eq_getElem hk)⟩
/-- What Flag leaves. -/
def FlagOut (w : World) (bb : Nat) (vv n u what : Int) (l : List Lt) (F : List Fl.Tx × Int) (e : Ending) (w' : World) : Prop :=
  (∃ E : Int, E ≠ 0 ∧ (findB l u = false → E = 7) ∧ (findB l u = true → F.2 ≠ 0 → E = F.2) ∧ (∀ x, findB l u = true → F.2 = 0 → l[findI l u]? = some x → E = (chgF x.flags what F.1).2) ∧ e = .returned (.iface 42 (.int .i64 E)) ∧ Below w.heap.size w w') ∨
  (findB l u = true ∧ F.2 = 0 ∧ e = .returned .nilIface ∧ ∃ x, l[findI l u]? = some x ∧ (chgF x.flags what F.1).2 = 0 ∧ BoxAt w' bb vv n (l.set (findI l u) (Lt.withF x (chgF x.flags what F.1).1)) ∧ But w.heap.size bb w w')
/-- What Flag leaves, its row new. -/
def FlagNew (w : World) (bb : Nat) (vv n u what : Int) (l : List Lt) (F : List Fl.Tx × Int) (e : Ending) (w' : World) : Prop :=
  (∃ E : Int, E ≠ 0 ∧ (findB l u = false → E = 7) ∧ (findB l u = true → F.2 ≠ 0 → E = F.2) ∧ (∀ x, findB l u = true → F.2 = 0 → l[findI l u]? = some x → E = (chgF x.flags what F.1).2) ∧ e = .returned (.iface 42 (.int .i64 E)) ∧ Below w.heap.size w w') ∨
  (findB l u = true ∧ F.2 = 0 ∧ e = .returned .nilIface ∧ ∃ x, l[findI l u]? = some x ∧ (chgF x.flags what F.1).2 = 0 ∧ BoxNew w.heap.size w' bb vv n (l.set (findI l u) (Lt.withF x (chgF x.flags what F.1).1)) ∧ But w.heap.size bb w w')
end Go.Proofs.YtfdlopimncodcaaGreatDoor
-- PRUNED
/-
  What saysYes says, of what does not panic.
-/
namespace Go.Proofs.YtfdlopimncodcaaGreatDoor
open Go.RowKit Go.Proofs.Aid Go.Proofs.Bx

/-- Where the numbers of messages go. -/
theorem Tryz.infoInt : (Tryz.prog.info? 3).map (fun i => (i.zero, i.size, i.bytes)) = some (some (.int .i64 0), 1, 8) := by kernel_rfl
/-- Those that stay, and the numbers of those that go. -/
def stay (p : Int → Bool) (l : List Lt) : List Lt := l.filter fun x => !(Fl.hasF x.flags [92, 68, 101, 108, 101, 116, 101, 100] && p x.uid)
def went (p : Int → Bool) (l : List Lt) : List Int := (l.filter fun x => Fl.hasF x.flags [92, 68, 101, 108, 101, 116, 101, 100] && p x.uid).map (·.uid)
end Go.Proofs.YtfdlopimncodcaaGreatDoor
-- PRUNED
/-
  Messages go: Expunge.
-/
namespace Go.Proofs.YtfdlopimncodcaaGreatDoor
open Go.RowKit Go.Proofs.Aid Go.Proofs.Bx

/-- A row of numbers that is nobody else's. -/
def NOwn (w : World) (base : Nat) (v : Value) (ns : List Int) : Prop := w.ownsRow base 3 1 v ns.length (ns.map (Value.int .i64))
theorem lown_form {w0 w : World} {base : Nat} {v : Value} {l : List Lt} (h : LOwn w0 w base v l) : ∃ a c, v = .slice a l.length c := by
  obtain ⟨rows, h1, _⟩ := h
  rcases h1.2 with ⟨h2, h3⟩ | ⟨g, cap, cur, hv, _⟩
  · exact ⟨none, 0, by rw [h2, h3]⟩
  · exact ⟨_, _, hv⟩
theorem nown_form {w : World} {base : Nat} {v : Value} {ns : List Int} (h : NOwn w base v ns) : ∃ a c, v = .slice a ns.length c := by
  rcases h.2 with ⟨h2, h3⟩ | ⟨g, cap, cur, hv, _⟩
  · exact ⟨none, 0, by rw [h2, h3]⟩
  · exact ⟨_, _, hv⟩
/-- Two rows of different types lie apart. -/
theorem own_apart {w : World} {base e e' size size' n n' : Nat} {v v' : Value} {xs xs' : List Value} (h : w.ownsRow base e size v n xs) (h' : w.ownsRow base e' size' v' n' xs') (hne : e ≠ e') {q : Nat} (hq : v.ownBlock = some q) : v'.ownBlock ≠ some q := by
  intro hq'
  rcases h.2 with ⟨rfl, _⟩ | ⟨g, cap, cur, rfl, _, hh, _⟩
  · cases hq
  rcases h'.2 with ⟨rfl, _⟩ | ⟨g', cap', cur', rfl, _, hh', _⟩
  · cases hq'
  obtain rfl : g = q := by simpa [Value.ownBlock] using hq
  obtain rfl : g' = g := by simpa [Value.ownBlock] using hq'
  rw [hh] at hh'
  injection hh' with hh'
  injection hh' with _ e1 _
  exact hne e1
theorem LOwn.below {w0 w w' : World} {base : Nat} {v : Value} {l : List Lt} (h : LOwn w0 w base v l) (hb : Below w.heap.size w w') : LOwn w0 w' base v l := by
  obtain ⟨rows, h1, h2, h3, h4⟩ := h
  exact ⟨rows, own_same h1 fun q hq => hb.block q (h1.lt q hq).2, h2, h3, h4⟩
theorem NOwn.below {w w' : World} {base : Nat} {v : Value} {ns : List Int} (h : NOwn w base v ns) (hb : Below w.heap.size w w') : NOwn w' base v ns := own_same h fun q hq => hb.block q (h.lt q hq).2
/-- One message more for those that stay. -/
theorem push_stay {w0 w : World} {base : Nat} {va vb : Option Addr} {ca cb : Nat} {L : List Lt} {ns : List Int} (h : LOwn w0 w base (.slice va L.length ca) L) (hn : NOwn w base (.slice vb ns.length cb) ns) (hL : L.length ≤ 1000) (x : Lt) (xs : List Value) (hx : LtRow w0 x xs) (hcell : ∀ u ∈ xs, u.oneCell' = true) (hbase : base ≤ w.heap.size) :
    ∃ g cap W, (Builtin.append_ #[70, 70] 70 #[.slice va L.length ca, .slice (some ⟨w.heap.size, 0, none⟩) 1 1]).run Tryz.prog (w.alloc (.cells xs.toArray 127)) = .ok (.slice (some ⟨g, 0, none⟩) (L.length + 1) cap) W ∧
      LOwn w0 W base (.slice (some ⟨g, 0, none⟩) (L.length + 1) cap) (L ++ [x]) ∧ NOwn W base (.slice vb ns.length cb) ns ∧ Below base w W := by
  obtain ⟨rows, h1, h2, h3, h4⟩ := h
  obtain ⟨j0, hj, hz, hs, hby⟩ := info_parts Tryz.infoLt
  have hlen := hx.len
  have b8 : Below w.heap.size w (w.alloc (.cells xs.toArray 127)) := (Below.refl _ _).alloc (Nat.le_refl _) _
  have hnews := World.news_of_block (heap_alloc_new w (.cells xs.toArray 127))
  obtain ⟨g9, cap9, W9, hrun, hown9, hg9, hor9, hlt9⟩ := run_append_lies (P := Tryz.prog) (w.alloc (.cells xs.toArray 127)) 70 70 base 127 j0 (.agg #[.int .i64 0, .slice none 0 0, .int .i64 0, .string ⟨#[]⟩]) 4 56 Tryz.underlying70 hj hz hs hby rfl (by decide) (.slice va L.length ca) L.length _ (h1.alloc _) ⟨w.heap.size, 0, none⟩ 1 1 xs (by rw [hlen]) (by simpa using hnews) hcell (by decide) (by unfold maxLen; omega) (by omega) (by simp; omega) _ rfl
  refine ⟨g9, cap9, W9, hrun, ⟨rows ++ [xs], ?_, by simp [h2], fun j y ys hj hy => ?_, fun ys hy => ?_⟩, ?_, ?_⟩
  · rw [List.length_append, List.flatten_append, List.flatten_cons, List.flatten_nil, List.append_nil]
    exact hown9
  · by_cases hjl : j < L.length
    · rw [List.getElem?_append_left hjl] at hj
      rw [List.getElem?_append_left (by omega)] at hy
      exact h3 j y ys hj hy
    · have : j < (L ++ [x]).length := (List.getElem?_eq_some_iff.1 hj).1
      obtain rfl : j = L.length := by simp at this; omega
      rw [List.getElem?_append_right (Nat.le_refl _), Nat.sub_self] at hj
      rw [List.getElem?_append_right (by omega), h2, Nat.sub_self] at hy
      obtain rfl : x = y := by simpa using hj
      obtain rfl := Option.some.inj hy
      exact hx
  · rcases List.mem_append.1 hy with h | h
    · exact h4 ys h
    · rw [List.mem_singleton.1 h]; exact hlen
  · refine own_same hn fun q hq => ?_
    have hql := hn.lt q hq
    exact (hg9.block q (Nat.lt_of_lt_of_le hql.2 b8.size) (fun e => own_apart hn h1 (by decide) hq e.symm)).trans (b8.block q hql.2)
  · refine ⟨hg9.os.trans b8.os, hg9.tape.trans b8.tape, hg9.output.trans b8.output, Nat.le_trans b8.size hg9.size, fun q hq => (hg9.block q (by have := b8.size; omega) (fun e => by have := (h1.lt q e.symm).1; omega)).trans (b8.block q (by omega))⟩
/-- One number more for those that go. -/
theorem push_went {w0 w : World} {base : Nat} {va vb : Option Addr} {ca cb : Nat} {L : List Lt} {ns : List Int} (h : LOwn w0 w base (.slice va L.length ca) L) (hn : NOwn w base (.slice vb ns.length cb) ns) (hL : ns.length ≤ 1000) (u : Int) (hbase : base ≤ w.heap.size) :
    ∃ g cap W, (Builtin.append_ #[147, 147] 147 #[.slice vb ns.length cb, .slice (some ⟨w.heap.size, 0, none⟩) 1 1]).run Tryz.prog (w.alloc (.cells #[.int .i64 u] 3)) = .ok (.slice (some ⟨g, 0, none⟩) (ns.length + 1) cap) W ∧
      LOwn w0 W base (.slice va L.length ca) L ∧ NOwn W base (.slice (some ⟨g, 0, none⟩) (ns.length + 1) cap) (ns ++ [u]) ∧ Below base w W := by
  obtain ⟨rows, h1, h2, h3, h4⟩ := h
  obtain ⟨j0, hj, hz, hs, hby⟩ := info_parts Tryz.infoInt
  have b8 : Below w.heap.size w (w.alloc (.cells #[.int .i64 u] 3)) := (Below.refl _ _).alloc (Nat.le_refl _) _
  have hnews := World.news_of_block (heap_alloc_new w (.cells #[.int .i64 u] 3))
  obtain ⟨g9, cap9, W9, hrun, hown9, hg9, hor9, hlt9⟩ := run_append_lies (P := Tryz.prog) (w.alloc (.cells #[.int .i64 u] 3)) 147 147 base 3 j0 (.int .i64 0) 1 8 Tryz.underlying147 hj hz hs hby rfl (by decide) (.slice vb ns.length cb) ns.length _ (World.ownsRow.alloc hn _) ⟨w.heap.size, 0, none⟩ 1 1 [.int .i64 u] rfl hnews (by simp [Value.oneCell']) (by decide) (by unfold maxLen; omega) (by omega) (by simp; omega) _ rfl
  refine ⟨g9, cap9, W9, hrun, ⟨rows, own_same h1 fun q hq => ?_, h2, h3, h4⟩, ?_, ?_⟩
  · have hql := h1.lt q hq
    exact (hg9.block q (Nat.lt_of_lt_of_le hql.2 b8.size) (fun e => own_apart h1 hn (by decide) hq e.symm)).trans (b8.block q hql.2)
  · unfold NOwn
    rw [List.length_append, List.map_append]
    exact hown9
  · refine ⟨hg9.os.trans b8.os, hg9.tape.trans b8.tape, hg9.output.trans b8.output, Nat.le_trans b8.size hg9.size, fun q hq => (hg9.block q (by have := b8.size; omega) (fun e => by have := (hn.lt q e.symm).1; omega)).trans (b8.block q (by omega))⟩
theorem stay_next {p : Int → Bool} {l : List Lt} {k : Nat} {x : Lt} (h : l[k]? = some x) : stay p (l.take (k + 1)) = stay p (l.take k) ++ (if (Fl.hasF x.flags [92, 68, 101, 108, 101, 116, 101, 100] && p x.uid) = true then [] else [x]) := by
  unfold stay
  rw [List.take_add_one, h]
  show List.filter _ (l.take k ++ [x]) = _
  rw [List.filter_append]
  cases hb : (Fl.hasF x.flags [92, 68, 101, 108, 101, 116, 101, 100] && p x.uid) <;> simp [List.filter, hb]
theorem went_next {p : Int → Bool} {l : List Lt} {k : Nat} {x : Lt} (h : l[k]? = some x) : went p (l.take (k + 1)) = went p (l.take k) ++ (if (Fl.hasF x.flags [92, 68, 101, 108, 101, 116, 101, 100] && p x.uid) = true then [x.uid] else []) := by
  unfold went
  rw [List.take_add_one, h]
  show List.map _ (List.filter _ (l.take k ++ [x])) = _
  rw [List.filter_append, List.map_append]
  cases hb : (Fl.hasF x.flags [92, 68, 101, 108, 101, 116, 101, 100] && p x.uid) <;> simp [List.filter, hb]
theorem stay_le (p : Int → Bool) (l : List Lt) : (stay p l).length ≤ l.length := List.length_filter_le _ _
theorem went_le (p : Int → Bool) (l : List Lt) : (went p l).length ≤ l.length := by unfold went; rw [List.length_map]; exact List.length_filter_le _ _
end Go.Proofs.YtfdlopimncodcaaGreatDoor
namespace Go.Proofs.YtfdlopimncodcaaGreatDoor
open Go.RowKit Go.Proofs.Aid Go.Proofs.Fl Go.Sort Go.Lib

theorem equal_len (a0 a1 : Option Addr) (n m c0 c1 : Nat) (w : World) (h : n ≠ m) :
    Calls Tryz.prog 28 #[.slice a0 n c0, .slice a1 m c1] w fun e w' => e = .returned (.bool false) ∧ w' = w := by
  have h' : ((n : Int) == (m : Int)) = false := by rw [beq_eq_false_iff_ne]; omega
  go_enter Tryz.func28, Tryz.ntmps28
  go_wp2
  go_ret
  exact ⟨rfl, rfl⟩
theorem equal_txs (va vb : Value) (x y : List Tx) (w : World) (ha : Sl w va x) (hb : Sl w vb y) (hx : x.length ≤ 1000) (hy : y.length ≤ 1000) :
    Calls Tryz.prog 28 #[va, vb] w fun e w' => e = .returned (.bool (decide (x = y))) ∧ ∃ q, w' = w.drewN q := by
  obtain ⟨a0, c0, rfl, _, ha⟩ := ha
  obtain ⟨a1, c1, rfl, _, hb⟩ := hb
  rcases ha with rfl | ⟨b, o, rfl, hat⟩
  · have := Tryz.slices_Equal_string_empty a0 a1 c0 y.length c1 w (by omega)
    refine this.mono ?_
    rintro e w' ⟨rfl, rfl⟩
    refine ⟨?_, 0, rfl⟩
    congr 2
    rw [Bool.eq_iff_iff]
    cases y <;> simp
  · by_cases hxy : x.length = y.length
    · rcases hb with rfl | ⟨b', o', rfl, hbt⟩
      · have h0 : x = [] := List.eq_nil_of_length_eq_zero hxy
        subst h0
        have := Tryz.slices_Equal_string_empty (some ⟨b, o, none⟩) a1 c0 0 c1 w (by omega)
        refine this.mono ?_
        rintro e w' ⟨rfl, rfl⟩
        exact ⟨rfl, 0, rfl⟩
      · have := Tryz.slices_Equal_string b o x.length c0 b' o' y.length c1 (bas x) (bas y) w (by rw [bas_length]; exact Nat.le_refl _) (by rw [bas_length]; exact Nat.le_refl _) (by omega) (by omega) (cells_bas hat) (cells_bas hbt)
        rw [List.take_of_length_le (by rw [bas_length]; exact Nat.le_refl _), List.take_of_length_le (by rw [bas_length]; exact Nat.le_refl _)] at this
        refine this.mono ?_
        rintro e w' ⟨rfl, q, rfl⟩
        refine ⟨?_, q, rfl⟩
        have e1 : decide (bas x = bas y) = decide (x = y) := by
          rw [Bool.eq_iff_iff, decide_eq_true_eq, decide_eq_true_eq]
          exact ⟨bas_inj, fun h => by rw [h]⟩
        rw [e1]
    · refine (equal_len _ a1 x.length y.length c0 c1 w hxy).mono ?_
      rintro e w' ⟨rfl, rfl⟩
      refine ⟨?_, 0, rfl⟩
      rw [decide_eq_false (fun h => hxy (by rw [h]))]
end Go.Proofs.YtfdlopimncodcaaGreatDoor
