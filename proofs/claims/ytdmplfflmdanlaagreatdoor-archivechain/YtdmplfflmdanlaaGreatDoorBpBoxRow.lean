/-
  Rows of messages: clipped, cloned, with one more, and more.
-/
import Derived.Test.YtdmplfflmdanlaaGreatDoorBpHwIdem
import Derived.ArgAppend
import Derived.Lib.AppendZeros
namespace Go.Proofs
theorem Tryz.infoLt : (Tryz.prog.info? 71).map (fun i => (i.zero, i.size, i.bytes)) = some (some (.agg #[.int .i64 0, .slice none 0 0, .int .i64 0, .string ⟨#[]⟩]), 4, 56) := by kernel_rfl
end Go.Proofs
namespace Go.Proofs.YtdmplfflmdanlaaGreatDoor
open Go.RowKit Go.Proofs.Aid Go.Proofs.Bx

theorem flat4_get : ∀ {rows : List (List Value)} {j i : Nat} {xs : List Value}, (∀ ys ∈ rows, ys.length = 4) → rows[j]? = some xs → i < 4 → rows.flatten[j * 4 + i]? = xs[i]?
  | [], j, i, xs, _, h, _ => by simp at h
  | r :: rs, 0, i, xs, h6, h, hi => by
    obtain rfl : r = xs := by simpa using h
    have := h6 r List.mem_cons_self
    rw [List.flatten_cons, Nat.zero_mul, Nat.zero_add, List.getElem?_append_left (by omega)]
  | r :: rs, j + 1, i, xs, h6, h, hi => by
    have h1 := h6 r List.mem_cons_self
    rw [List.flatten_cons, List.getElem?_append_right (by omega), h1, show (j + 1) * 4 + i - 4 = j * 4 + i by omega]
    exact flat4_get (fun ys hy => h6 ys (List.mem_cons_of_mem _ hy)) (by simpa using h) hi
theorem flat4_len : ∀ {rows : List (List Value)}, (∀ ys ∈ rows, ys.length = 4) → rows.flatten.length = rows.length * 4
  | [], _ => rfl
  | r :: rs, h => by
    rw [List.flatten_cons, List.length_append, flat4_len (fun ys hy => h ys (List.mem_cons_of_mem _ hy)), h r List.mem_cons_self, List.length_cons]
    omega
/-- Four values are a message. -/
def LtRow (w : World) (x : Lt) (xs : List Value) : Prop := ∃ fv, xs = [.int .i64 x.uid, fv, .int .i64 x.day, .string ⟨x.text.toArray⟩] ∧ Sl w fv x.flags
theorem LtRow.below {w w' : World} {x : Lt} {xs : List Value} {B : Nat} (h : LtRow w x xs) (hb : Below B w w') (hB : w.heap.size ≤ B) : LtRow w' x xs := by
  obtain ⟨fv, h1, h2⟩ := h
  exact ⟨fv, h1, h2.below hb hB⟩
theorem LtRow.len {w : World} {x : Lt} {xs : List Value} (h : LtRow w x xs) : xs.length = 4 := by obtain ⟨_, rfl, _⟩ := h; rfl
/-- The values of messages that lie in a row. -/
theorem lts_rows {w : World} {b : Nat} : ∀ {l : List Lt} {o : Nat}, (∀ (j : Nat) x, l[j]? = some x → LtAt w b (o + j * 4) x) →
    ∃ rows : List (List Value), rows.length = l.length ∧ (∀ (j : Nat) x xs, l[j]? = some x → rows[j]? = some xs → LtRow w x xs) ∧ (∀ xs ∈ rows, xs.length = 4) ∧ ∀ k u, rows.flatten[k]? = some u → w.cell? ⟨b, o + k, none⟩ = some u
  | [], o, _ => ⟨[], rfl, fun j x xs h => (by simp at h), fun xs h => (by cases h), fun k u h => (by simp at h)⟩
  | x :: l, o, h => by
    obtain ⟨rows, h1, h2, h3, h4⟩ := lts_rows (l := l) (o := o + 4) fun j y hj => by
      have := h (j + 1) y (by simpa using hj)
      rwa [show o + (j + 1) * 4 = o + 4 + j * 4 by omega] at this
    obtain ⟨q1, ⟨fv, q2, q5⟩, q3, q4⟩ := h 0 x rfl
    rw [Nat.zero_mul, Nat.add_zero] at q1 q2 q3 q4
    refine ⟨[.int .i64 x.uid, fv, .int .i64 x.day, .string ⟨x.text.toArray⟩] :: rows, by simp [h1], fun j y ys hj hy => ?_, fun xs hx => ?_, fun k u hk => ?_⟩
    · cases j with
      | zero =>
        obtain rfl : x = y := by simpa using hj
        obtain rfl := Option.some.inj hy
        exact ⟨fv, rfl, q5⟩
      | succ j => exact h2 j y ys (by simpa using hj) (by simpa using hy)
    · rcases List.mem_cons.1 hx with rfl | hx
      · rfl
      · exact h3 xs hx
    · rw [List.flatten_cons] at hk
      match k, hk with
      | 0, hk => obtain rfl := Option.some.inj hk; exact q1
      | 1, hk => obtain rfl := Option.some.inj hk; exact q2
      | 2, hk => obtain rfl := Option.some.inj hk; exact q3
      | 3, hk => obtain rfl := Option.some.inj hk; exact q4
      | k + 4, hk =>
        have := h4 k u (by simpa using hk)
        rwa [show o + 4 + k = o + (k + 4) by omega] at this
/-- What owns the values of messages is a slice of them. -/
theorem lts_own {w : World} {base : Nat} {v : Value} {l : List Lt} {rows : List (List Value)} (hown : w.ownsRow base 71 4 v l.length rows.flatten) (hl : rows.length = l.length)
    (h1 : ∀ (j : Nat) x xs, l[j]? = some x → rows[j]? = some xs → LtRow w x xs) (h4 : ∀ xs ∈ rows, xs.length = 4) : Lts w v l := by
  by_cases h0 : l.length = 0
  · have hl0 : l = [] := List.eq_nil_of_length_eq_zero h0
    subst hl0
    rcases hown.2 with ⟨h1, _⟩ | ⟨g, cap, cur, hv, _, _, hcp, hcm, _⟩
    · rw [h1]; exact Lts.nil w
    · exact ⟨_, cap, hv, ⟨fun e => (by cases e), hcp, by unfold maxLen at hcm; omega⟩, Or.inl rfl⟩
  · rcases hown.2 with ⟨_, h2⟩ | ⟨g, cap, cur, hv, hg, hh, hcp, hcm, r⟩
    · exact absurd h2 h0
    · have hown' : w.ownsRow base 71 4 (.slice (some ⟨g, 0, none⟩) l.length cap) l.length rows.flatten := by rw [← hv]; exact hown
      refine ⟨_, cap, hv, ⟨fun e => (by cases e), hcp, by unfold maxLen at hcm; omega⟩, Or.inr ⟨g, 0, rfl, fun j x hj => ?_⟩⟩
      have hjl : j < l.length := (List.getElem?_eq_some_iff.1 hj).1
      have hjr : rows[j]? = some (rows[j]'(by omega)) := List.getElem?_eq_getElem (by omega)
      obtain ⟨fv, hx, hs⟩ := h1 j x _ hj hjr
      have hc : ∀ i u, i < 4 → (rows[j]'(by omega))[i]? = some u → w.cell? ⟨g, 0 + j * 4 + i, none⟩ = some u := fun i u hi hu => by
        rw [Nat.zero_add, hown'.cellAt (j * 4 + i) (by omega), flat4_get h4 hjr hi]
        exact hu
      refine ⟨?_, ⟨fv, ?_, hs⟩, ?_, ?_⟩
      · have := hc 0 (.int .i64 x.uid) (by omega) (by rw [hx]; rfl)
        rwa [Nat.add_zero] at this
      · exact hc 1 _ (by omega) (by rw [hx]; rfl)
      · exact hc 2 _ (by omega) (by rw [hx]; rfl)
      · exact hc 3 _ (by omega) (by rw [hx]; rfl)
set_option maxHeartbeats 1000000 in
theorem clip_is (a : Option Addr) (n c : Nat) (w : World) (hn : n ≤ c) :
    Calls Tryz.prog 135 #[.slice a n c] w fun e w' => e = .returned (.slice a n n) ∧ w' = w := by
  have h1 : (n : Int) ≤ (c : Int) := by omega
  go_enter Tryz.func135, Tryz.ntmps135
  go_wp2_with fail
  go_ret
  exact ⟨rfl, rfl⟩
/-- One message more behind a row that has no room. -/
theorem append_lt {w : World} {a : Option Addr} {l : List Lt} {c : Nat} (h : Lts w (.slice a l.length c) l) (hl : l.length ≤ 1000) (x : Lt) (xs : List Value) (hx : LtRow w x xs) (nb : Nat) (hnb : ∀ j u, xs[j]? = some u → w.cell? ⟨nb, j, none⟩ = some u) (hcell : ∀ u ∈ xs, u.oneCell' = true) :
    ∃ v' w', (Builtin.append_ #[64, 64] 64 #[.slice a l.length l.length, .slice (some ⟨nb, 0, none⟩) 1 1]).run Tryz.prog w = .ok v' w' ∧ Lts w' v' (l ++ [x]) ∧ Below w.heap.size w w' ∧ ∃ g cap, v' = .slice (some ⟨g, 0, none⟩) (l.length + 1) cap ∧ w.heap.size ≤ g := by
  obtain ⟨j0, hj, hz, hs, hby⟩ := info_parts Tryz.infoLt
  have hlen := hx.len
  have hnews : ∀ j u, xs[j]? = some u → w.cell? ((⟨nb, 0, none⟩ : Addr).add j) = some u := fun j u hu => by
    rw [Addr.add_lit, Nat.zero_add]
    exact hnb j u hu
  have fin : ∀ (v' : Value) (w' : World) (rows : List (List Value)), rows.length = l.length → (∀ (j : Nat) y ys, l[j]? = some y → rows[j]? = some ys → LtRow w y ys) → (∀ ys ∈ rows, ys.length = 4) → w'.ownsRow w.heap.size 71 4 v' (l.length + 1) (rows.flatten ++ xs) → Below w.heap.size w w' →
      Lts w' v' (l ++ [x]) ∧ ∃ g cap, v' = .slice (some ⟨g, 0, none⟩) (l.length + 1) cap ∧ w.heap.size ≤ g := fun v' w' rows h1 h2 h3 h4 hb => by
    obtain ⟨g0, c0, hv0⟩ := row_some h4 (by omega)
    refine ⟨lts_own (base := w.heap.size) (rows := rows ++ [xs]) ?_ (by simp [h1]) (fun j y ys hj hy => ?_) (fun ys hy => ?_), ⟨g0, c0, hv0, (h4.lt g0 (by rw [hv0]; rfl)).1⟩⟩
    · rw [List.length_append, List.flatten_append, List.flatten_cons, List.flatten_nil, List.append_nil]
      exact h4
    · by_cases hjl : j < l.length
      · rw [List.getElem?_append_left hjl] at hj
        rw [List.getElem?_append_left (by omega)] at hy
        exact (h2 j y ys hj hy).below hb (Nat.le_refl _)
      · have : j < (l ++ [x]).length := (List.getElem?_eq_some_iff.1 hj).1
        obtain rfl : j = l.length := by simp at this; omega
        rw [List.getElem?_append_right (Nat.le_refl _), Nat.sub_self] at hj
        rw [List.getElem?_append_right (by omega), h1, Nat.sub_self] at hy
        obtain rfl : x = y := by simpa using hj
        obtain rfl := Option.some.inj hy
        exact hx.below hb (Nat.le_refl _)
    · rcases List.mem_append.1 hy with h | h
      · exact h3 ys h
      · rw [List.mem_singleton.1 h]; exact hlen
  obtain ⟨a', c', hv, ⟨hn0, _, _⟩, ha⟩ := h
  injection hv with e1 e2 e3
  subst e1
  subst e3
  cases a with
  | none =>
    have hc0 : c = 0 := hn0 rfl
    have hl0 : l = [] := by
      rcases ha with h | ⟨b, o, h, _⟩
      · exact h
      · cases h
    subst hl0
    obtain ⟨g9, cap9, W9, hrun, hown9, hg9, _, _⟩ := run_append_lies (P := Tryz.prog) w 64 64 w.heap.size 71 j0 (.agg #[.int .i64 0, .slice none 0 0, .int .i64 0, .string ⟨#[]⟩]) 4 56 Tryz.underlying64 hj hz hs hby rfl (by decide) (.slice none 0 0) 0 [] (World.ownsRow_nil _ _ _ _) ⟨nb, 0, none⟩ 1 1 xs (by rw [hlen]) hnews hcell (by decide) (by unfold maxLen; omega) (by omega) (by omega) _ rfl
    have hbel : Below w.heap.size w W9 := ⟨hg9.os, hg9.tape, hg9.output, hg9.size, fun k hk => hg9.block k hk (by simp [Value.ownBlock])⟩
    obtain ⟨f1, f2⟩ := fin _ W9 [] rfl (fun j y ys h => (by simp at h)) (fun ys h => (by cases h)) hown9 hbel
    exact ⟨_, W9, hrun, f1, hbel, f2⟩
  | some b =>
    obtain ⟨rows, r1, r2, r3, r4⟩ : ∃ rows : List (List Value), rows.length = l.length ∧ (∀ (j : Nat) y ys, l[j]? = some y → rows[j]? = some ys → LtRow w y ys) ∧ (∀ ys ∈ rows, ys.length = 4) ∧ ∀ k u, rows.flatten[k]? = some u → w.cell? (b.add k) = some u := by
      rcases ha with rfl | ⟨bb, o, hb, hat⟩
      · exact ⟨[], rfl, fun j y ys h => (by simp at h), fun ys h => (by cases h), fun k u h => (by simp at h)⟩
      · obtain rfl := Option.some.inj hb
        obtain ⟨rows, r1, r2, r3, r4⟩ := lts_rows hat
        exact ⟨rows, r1, r2, r3, fun k u hk => by rw [Addr.add_lit]; exact r4 k u hk⟩
    obtain ⟨v', w', hrun, hown, hg⟩ := run_append_arg_grows (P := Tryz.prog) (w := w) 64 64 71 j0 (.agg #[.int .i64 0, .slice none 0 0, .int .i64 0, .string ⟨#[]⟩]) 4 56 Tryz.underlying64 hj hz hs hby rfl (by decide) b l.length l.length rows.flatten (by rw [flat4_len r3, r1]) r4 ⟨nb, 0, none⟩ 1 1 xs (by rw [hlen]) hnews (by omega) (by unfold maxLen; omega) (by omega)
    have hbel : Below w.heap.size w w' := ⟨hg.os, hg.tape, hg.output, hg.size, fun k hk => hg.block k hk (by simp)⟩
    obtain ⟨f1, f2⟩ := fin v' w' rows r1 r2 r3 hown hbel
    exact ⟨v', w', hrun, f1, hbel, f2⟩
end Go.Proofs.YtdmplfflmdanlaaGreatDoor
namespace Go.Proofs.YtdmplfflmdanlaaGreatDoor
open Go.RowKit Go.Proofs.Aid Go.Proofs.Bx

theorem Tryz.nilLts (w : World) : (binOp BinOp.eql 64 (.slice none 0 0) (.slice none 0 0)).run Tryz.prog w = .ok (.bool true) w := by kernel_rfl
theorem Tryz.someLts (b : Addr) (n c : Nat) (w : World) : (binOp BinOp.eql 64 (.slice (some b) n c) (.slice none 0 0)).run Tryz.prog w = .ok (.bool false) w := by kernel_rfl
theorem Tryz.noneLts (x b : Addr) (c : Nat) (w : World) : (Builtin.append_ #[64, 64] 64 #[.slice (some x) 0 0, .slice (some b) 0 c]).run Tryz.prog w = .ok (.slice (some x) 0 0) w := by kernel_rfl
set_option maxHeartbeats 1000000 in
set_option maxRecDepth 100000 in
theorem clone_nil (w : World) : Calls Tryz.prog 123 #[.slice none 0 0] w fun e w' => e = .returned (.slice none 0 0) ∧ w' = w := by
  have h := Tryz.nilLts w
  go_enter Tryz.func123, Tryz.ntmps123
  go_wp2_with fail
  go_ret
  exact ⟨rfl, rfl⟩
set_option maxHeartbeats 1000000 in
set_option maxRecDepth 100000 in
theorem clone_run (b : Addr) (n c : Nat) (w : World) (v' : Value) (w' : World) (hr : (Builtin.append_ #[64, 64] 64 #[.slice (some ⟨w.heap.size, 0, none⟩) 0 0, .slice (some b) n c]).run Tryz.prog (w.alloc (.cells #[] 71)) = .ok v' w') :
    Calls Tryz.prog 123 #[.slice (some b) n c] w fun e w2 => e = .returned v' ∧ w2 = w' := by
  have h := Tryz.someLts b n c w
  have HR : Hid ((Builtin.append_ #[64, 64] 64 #[.slice (some ⟨w.heap.size, 0, none⟩) 0 0, .slice (some b) n c]).run Tryz.prog (w.alloc (.cells #[] 71)) = .ok v' w') := hr
  clear hr
  go_enter Tryz.func123, Tryz.ntmps123
  go_wp2_with (at_builtin; go_must (refine Go.Lib.wpList_append_run _ rfl (.tmp 5) (.tmp 6) 64 64 rfl _ _ rfl rfl v' w' HR.out ?_))
  go_ret
  exact ⟨rfl, rfl⟩
/-- A row of messages that is nobody else's; their flags lie where they lay in w0. -/
def LOwn (w0 w : World) (base : Nat) (v : Value) (l : List Lt) : Prop := ∃ rows : List (List Value), w.ownsRow base 71 4 v l.length rows.flatten ∧ rows.length = l.length ∧ (∀ (j : Nat) x xs, l[j]? = some x → rows[j]? = some xs → LtRow w0 x xs) ∧ ∀ xs ∈ rows, xs.length = 4
theorem own_lower {w : World} {base base' : Nat} {e : TypeId} {size n : Nat} {v : Value} {xs : List Value} (h : w.ownsRow base e size v n xs) (hb : base' ≤ base) : w.ownsRow base' e size v n xs :=
  ⟨h.1, h.2.imp id fun ⟨g, cap, cur, h1, h2, r⟩ => ⟨g, cap, cur, h1, Nat.le_trans hb h2, r⟩⟩
theorem clone_lts (v : Value) (l : List Lt) (w : World) (h : Lts w v l) (hl : l.length ≤ 1000) :
    Calls Tryz.prog 123 #[v] w fun e w' => (∃ v', e = .returned v' ∧ Lts w' v' l ∧ (l ≠ [] → LOwn w w' w.heap.size v' l)) ∧ Below w.heap.size w w' := by
  obtain ⟨a, c, rfl, ⟨h0, hc1, hc2⟩, ha⟩ := h
  cases a with
  | none =>
    have hn : l = [] := by
      rcases ha with h | ⟨b, o, h, _⟩
      · exact h
      · cases h
    subst hn
    obtain rfl := h0 rfl
    refine (clone_nil w).mono ?_
    rintro e w' ⟨rfl, rfl⟩
    exact ⟨⟨_, rfl, Lts.nil _, fun h => absurd rfl h⟩, Below.refl _ _⟩
  | some ad =>
    have b1 : Below w.heap.size w (w.alloc (.cells #[] 71)) := (Below.refl _ _).alloc (Nat.le_refl _) _
    have z1 : (w.alloc (.cells #[] 71)).heap.size = w.heap.size + 1 := by simp
    by_cases hl0 : l = []
    · subst hl0
      refine (clone_run ad 0 c w _ _ (Tryz.noneLts ⟨w.heap.size, 0, none⟩ ad c _)).mono ?_
      rintro e w' ⟨rfl, rfl⟩
      exact ⟨⟨_, rfl, ⟨_, 0, rfl, ⟨fun e => (by cases e), Nat.le_refl _, by decide⟩, Or.inl rfl⟩, fun h => absurd rfl h⟩, b1⟩
    · rcases ha with rfl | ⟨b, o, h1, hat⟩
      · exact absurd rfl hl0
      · obtain rfl := Option.some.inj h1
        obtain ⟨rows, r1, r2, r3, r4⟩ := lts_rows hat
        obtain ⟨j0, hj, hz, hs, hby⟩ := info_parts Tryz.infoLt
        have hlp : 0 < l.length := List.length_pos_iff.2 hl0
        obtain ⟨v', w', hrun, hown, hg⟩ := run_append_arg_grows (P := Tryz.prog) (w := w.alloc (.cells #[] 71)) 64 64 71 j0 (.agg #[.int .i64 0, .slice none 0 0, .int .i64 0, .string ⟨#[]⟩]) 4 56 Tryz.underlying64 hj hz hs hby rfl (by decide) ⟨w.heap.size, 0, none⟩ 0 0 [] rfl (fun j u h => (by simp at h)) ⟨b, o, none⟩ l.length c rows.flatten (by rw [flat4_len r3, r1]) (fun k u hk => by rw [Addr.add_lit]; have h9 := r4 k u hk; exact (b1.cell (p := ⟨b, _, none⟩) (World.block_lt_of_cell? _ _ h9)).trans h9) (by omega) (by unfold maxLen; omega) (by omega)
        refine (clone_run ⟨b, o, none⟩ l.length c w v' w' hrun).mono ?_
        rintro e w2 ⟨rfl, rfl⟩
        have hb2 : Below (w.heap.size + 1) (w.alloc (.cells #[] 71)) w2 := ⟨hg.os, hg.tape, hg.output, hg.size, fun k hk => hg.block k (by rw [z1]; exact hk) (by simp)⟩
        rw [Nat.zero_add, List.nil_append] at hown
        have hb3 : Below w.heap.size w w2 := b1.trans (hb2.mono (by omega))
        have hown2 := own_lower hown (show w.heap.size ≤ _ by rw [z1]; omega)
        exact ⟨⟨v', rfl, lts_own hown2 r1 (fun j x xs h1 h2 => (r2 j x xs h1 h2).below hb3 (Nat.le_refl _)) r3, fun _ => ⟨rows, hown2, r1, r2, r3⟩⟩, hb3⟩
end Go.Proofs.YtdmplfflmdanlaaGreatDoor
namespace Go.Proofs.YtdmplfflmdanlaaGreatDoor
open Go.RowKit Go.Proofs.Aid Go.Proofs.Bx

/-- A block that holds no text. -/
def NoStr (w : World) (bb : Nat) : Prop := ∀ i s, w.cell? ⟨bb, i, none⟩ ≠ some (.string s)
theorem noStr_box {w : World} {bb : Nat} {x y : Int} {lv : Value} {t : TypeId} (h : w.heap[bb]? = some (.cells #[.int .i64 x, .int .i64 y, lv] t (0, 0))) (hl : ∃ a n c, lv = .slice a n c) : NoStr w bb := by
  intro i s hc
  obtain ⟨a, n, c, rfl⟩ := hl
  simp only [World.cell?, h] at hc
  match i, hc with
  | 0, hc => simp at hc
  | 1, hc => simp at hc
  | 2, hc => simp at hc
  | i + 3, hc => simp at hc
theorem Sl.but {w w' : World} {v : Value} {l : List Fl.Tx} {bb B : Nat} (h : Sl w v l) (hn : NoStr w bb) (hb : But B bb w w') (hB : w.heap.size ≤ B) : Sl w' v l := by
  obtain ⟨a, c, h1, h0, h2⟩ := h
  refine ⟨a, c, h1, h0, ?_⟩
  rcases h2 with h2 | ⟨b, o, h3, h4⟩
  · exact Or.inl h2
  · refine Or.inr ⟨b, o, h3, fun j z hj => ?_⟩
    have h5 := h4 j z hj
    have hne : b ≠ bb := fun e => by subst e; exact hn _ _ h5
    exact (hb.cell (p := ⟨b, _, none⟩) (Nat.lt_of_lt_of_le (World.block_lt_of_cell? _ _ h5) hB) hne).trans h5
theorem LtAt.but {w w' : World} {b o bb B : Nat} {x : Lt} (h : LtAt w b o x) (hn : NoStr w bb) (hb : But B bb w w') (hB : w.heap.size ≤ B) : LtAt w' b o x := by
  obtain ⟨h1, ⟨fv, h2, h3⟩, h4, h5⟩ := h
  have hne : b ≠ bb := fun e => by subst e; exact hn _ _ h5
  have hlt : b < B := Nat.lt_of_lt_of_le (World.block_lt_of_cell? _ _ h1) hB
  exact ⟨(hb.cell (p := ⟨b, _, none⟩) hlt hne).trans h1, ⟨fv, (hb.cell (p := ⟨b, _, none⟩) hlt hne).trans h2, h3.but hn hb hB⟩, (hb.cell (p := ⟨b, _, none⟩) hlt hne).trans h4, (hb.cell (p := ⟨b, _, none⟩) hlt hne).trans h5⟩
theorem Lts.but {w w' : World} {v : Value} {l : List Lt} {bb B : Nat} (h : Lts w v l) (hn : NoStr w bb) (hb : But B bb w w') (hB : w.heap.size ≤ B) : Lts w' v l := by
  obtain ⟨a, c, h1, h0, h2⟩ := h
  refine ⟨a, c, h1, h0, ?_⟩
  rcases h2 with h2 | ⟨b, o, h3, h4⟩
  · exact Or.inl h2
  · exact Or.inr ⟨b, o, h3, fun j x hj => (h4 j x hj).but hn hb hB⟩
/-- What Append says is wrong: a text that is too long, its flags (E), its day, no room. -/
def appE (E : Int) (n : Int) (k : Nat) (day : Int) (z : Nat) : Int :=
  if 2000 < z then 4 else if E ≠ 0 then E else if day < 0 ∨ 2147483647 < day then 2 else if 60 ≤ k ∨ 2147483647 ≤ n then 12 else 0
set_option maxHeartbeats 1000000 in
theorem isDay_is (d : Int) (w : World) : Calls Tryz.prog 134 #[.int .i64 d] w fun e w' => e = .returned (.bool (decide (0 ≤ d ∧ d ≤ 2147483647))) ∧ w' = w := by
  by_cases h1 : 0 ≤ d
  · have d1 : decide (0 ≤ d) = true := decide_eq_true h1
    by_cases h2 : d ≤ 2147483647
    · have d2 : decide (d ≤ 2147483647) = true := decide_eq_true h2
      rw [decide_eq_true ⟨h1, h2⟩]
      go_enter Tryz.func134, Tryz.ntmps134
      go_wp2_with fail
      go_ret
      exact ⟨rfl, rfl⟩
    · have d2 : decide (d ≤ 2147483647) = false := decide_eq_false h2
      rw [decide_eq_false (fun h => h2 h.2)]
      go_enter Tryz.func134, Tryz.ntmps134
      go_wp2_with fail
      go_ret
      exact ⟨rfl, rfl⟩
  · have d1 : decide (0 ≤ d) = false := decide_eq_false h1
    rw [decide_eq_false (fun h => h1 h.1)]
    go_enter Tryz.func134, Tryz.ntmps134
    go_wp2_with fail
    go_ret
    exact ⟨rfl, rfl⟩
/-- What flags.Set leaves, where it tells F. -/
def SetOut (w : World) (F : List Fl.Tx × Int) (e : Ending) (w' : World) : Prop :=
  ((F.2 = 0 ∧ ∃ v', e = .returned (.tuple #[v', .nilIface]) ∧ Sl w' v' F.1) ∨ (F.2 ≠ 0 ∧ e = .returned (.tuple #[.slice none 0 0, .iface 34 (.int .i64 F.2)]))) ∧ Below w.heap.size w w'
set_option maxHeartbeats 4000000 in
set_option maxRecDepth 100000 in
theorem box_append_new (bb : Nat) (vv n day : Int) (l : List Lt) (fv : Value) (F : List Fl.Tx × Int) (t : ByteArray) (w : World) (h : BoxAt w bb vv n l) (hl : l.length ≤ 1000) (hn : 0 ≤ n ∧ n ≤ 4000000000)
    (cS : Calls Tryz.prog 133 #[fv] w fun e w' => SetOut w F e w') :
    Calls Tryz.prog 78 #[.pointer (some ⟨bb, 0, none⟩), fv, .int .i64 day, .string t] w fun e w' =>
      (appE F.2 n l.length day t.size ≠ 0 ∧ e = .returned (.tuple #[.int .i64 0, .iface 34 (.int .i64 (appE F.2 n l.length day t.size))]) ∧ Below w.heap.size w w') ∨
      (appE F.2 n l.length day t.size = 0 ∧ e = .returned (.tuple #[.int .i64 n, .nilIface]) ∧ BoxNew w.heap.size w' bb vv (n + 1) (l ++ [⟨n, F.1, day, t.data.toList⟩]) ∧ But w.heap.size bb w w') := by
  obtain ⟨R, hR⟩ : ∃ R, appE F.2 n l.length day t.size = R := ⟨_, rfl⟩
  rw [hR]
  obtain ⟨x, hx0⟩ : ∃ x : Lt, (⟨n, F.1, day, t.data.toList⟩ : Lt) = x := ⟨_, rfl⟩
  rw [hx0]
  have HXX : Hid (x = ⟨n, F.1, day, t.data.toList⟩) := hx0.symm
  clear hx0
  unfold appE at hR
  have HBX : Hid (BoxAt w bb vv n l) := h
  have hbl := h.lt
  by_cases h1 : 2000 < t.size
  · rw [if_pos h1] at hR
    subst hR
    have d1 : decide ((2000 : Int) < (t.size : Int)) = true := decide_eq_true (by omega)
    clear h cS
    go_enter Tryz.func78, Tryz.ntmps78
    go_wp2_with fail
    go_ret2
    exact Or.inl ⟨by decide, rfl, Below.refl _ _⟩
  rw [if_neg h1] at hR
  have d1 : decide ((2000 : Int) < (t.size : Int)) = false := decide_eq_false (by omega)
  have HR : Hid ((if F.2 ≠ 0 then F.2 else if day < 0 ∨ 2147483647 < day then 2 else if 60 ≤ l.length ∨ 2147483647 ≤ n then 12 else 0) = R) := hR
  clear h hR
  go_enter Tryz.func78, Tryz.ntmps78
  go_wp2_with fail
  refine cS.mono ?_
  rintro e w1 ⟨hout, hb1⟩
  have HB1 : Hid (Below w.heap.size w w1) := hb1
  clear cS
  rcases hout with ⟨hF, sv, rfl, hsv⟩ | ⟨hF, rfl⟩
  rotate_left
  · have hR := HR.out
    rw [if_pos hF] at hR
    subst hR
    clear HR hb1
    go_wp2_with fail
    go_ret2
    exact Or.inl ⟨hF, rfl, HB1.out⟩
  have hR := HR.out
  rw [if_neg (by simpa using hF)] at hR
  have cD := isDay_is day w1
  by_cases h2 : day < 0 ∨ 2147483647 < day
  · rw [if_pos h2] at hR
    subst hR
    rw [decide_eq_false (by omega)] at cD
    clear HR hb1 hsv hF
    go_wp2_with fail
    refine cD.mono ?_
    rintro e w2 ⟨rfl, hw⟩
    obtain rfl : w1 = w2 := hw.symm
    go_wp2_with fail
    go_ret2
    exact Or.inl ⟨by decide, rfl, HB1.out⟩
  rw [if_neg h2] at hR
  rw [decide_eq_true (by omega)] at cD
  obtain ⟨lv, x1, x2⟩ := HBX.out.below hb1 (Nat.le_refl _)
  obtain ⟨a, c, rfl, hcap, hrest⟩ := id x2
  have p2 : w1.cell? ⟨bb, 2, none⟩ = some (.slice a l.length c) := rd_cell x1 rfl
  have p1 : w1.cell? ⟨bb, 1, none⟩ = some (.int .i64 n) := rd_cell x1 rfl
  by_cases h3 : 60 ≤ l.length
  · rw [if_pos (Or.inl h3)] at hR
    subst hR
    have d3 : decide ((60 : Int) ≤ (l.length : Int)) = true := decide_eq_true (by omega)
    have d4 : decide (60 ≤ l.length) = true := decide_eq_true h3
    clear HR hb1 hsv hF x1 x2 hcap hrest h2
    go_wp2_with fail
    refine cD.mono ?_
    rintro e w2 ⟨rfl, hw⟩
    obtain rfl : w1 = w2 := hw.symm
    go_wp2_with fail
    go_ret2
    exact Or.inl ⟨by decide, rfl, HB1.out⟩
  have d3 : decide ((60 : Int) ≤ (l.length : Int)) = false := decide_eq_false (by omega)
  have d4 : decide (60 ≤ l.length) = false := decide_eq_false h3
  by_cases h4 : 2147483647 ≤ n
  · rw [if_pos (Or.inr h4)] at hR
    subst hR
    have d5 : decide ((2147483647 : Int) ≤ n) = true := decide_eq_true h4
    clear HR hb1 hsv hF x1 x2 hcap hrest h2
    go_wp2_with fail
    refine cD.mono ?_
    rintro e w2 ⟨rfl, hw⟩
    obtain rfl : w1 = w2 := hw.symm
    go_wp2_with fail
    go_ret2
    exact Or.inl ⟨by decide, rfl, HB1.out⟩
  rw [if_neg (by omega)] at hR
  subst hR
  have d5 : decide ((2147483647 : Int) ≤ n) = false := decide_eq_false h4
  have cC := clip_is a l.length c w1 hcap.2.1
  have hns : NoStr w1 bb := noStr_box x1 ⟨_, _, _, rfl⟩
  obtain ⟨sa, sn, sc, hsvf⟩ : ∃ sa sn sc, sv = .slice sa sn sc := by obtain ⟨a, c, h, _⟩ := hsv; exact ⟨_, _, _, h⟩
  have htt : (⟨t.data.toList.toArray⟩ : ByteArray) = t := by cases t; simp
  have b2 : Below w1.heap.size w1 (w1.alloc (.cells #[.int .i64 n, sv, .int .i64 day, .string t] 71)) := (Below.refl _ _).alloc (Nat.le_refl _) _
  have e2 := heap_alloc_new w1 (.cells #[.int .i64 n, sv, .int .i64 day, .string t] 71)
  have hrow : LtRow (w1.alloc (.cells #[.int .i64 n, sv, .int .i64 day, .string t] 71)) x [.int .i64 n, sv, .int .i64 day, .string t] := ⟨sv, by rw [HXX.out, htt], by rw [HXX.out]; exact hsv.below b2 (Nat.le_refl _)⟩
  obtain ⟨v', w', hrun, hlts, hb3, g, cap, hv', hgf⟩ := append_lt (x2.below b2 (Nat.le_refl _)) hl x _ hrow w1.heap.size (fun j u hu => rd_cell e2 (by simpa using hu)) (by rw [hsvf]; simp [Value.oneCell'])
  have z2 : (w1.alloc (.cells #[.int .i64 n, sv, .int .i64 day, .string t] 71)).heap.size = w1.heap.size + 1 := by simp
  have hbw : bb < w1.heap.size := Nat.lt_of_lt_of_le hbl hb1.size
  have x3 := (hb3.block bb (by omega)).trans ((b2.block bb hbw).trans x1)
  have q2 : w'.cell? ⟨bb, 2, none⟩ = some (.slice a l.length c) := rd_cell x3 rfl
  have q1 : w'.cell? ⟨bb, 1, none⟩ = some (.int .i64 n) := rd_cell x3 rfl
  have f2 : w'.frozen? ⟨bb, 2, none⟩ = false := rd_free x3 2
  have f1 : w'.frozen? ⟨bb, 1, none⟩ = false := rd_free x3 1
  have hns3 : NoStr w' bb := noStr_box x3 ⟨_, _, _, rfl⟩
  have x4 := rd_set (i := 1) (.int .i64 (n + 1)) (rd_set (i := 2) v' x3)
  have hbut : But w'.heap.size bb w' ((w'.setCell ⟨bb, 2, none⟩ v').setCell ⟨bb, 1, none⟩ (.int .i64 (n + 1))) := ((to_but (Below.refl _ _)).setB 2 _).setB 1 _
  have hb13 : Below w1.heap.size w1 w' := b2.trans (hb3.mono (by omega))
  have r1 : (w'.setCell ⟨bb, 2, none⟩ v').cell? ⟨bb, 1, none⟩ = some (.int .i64 n) := rd_cell (rd_set (i := 2) v' x3) rfl
  have HD : Hid (BoxNew w.heap.size ((w'.setCell ⟨bb, 2, none⟩ v').setCell ⟨bb, 1, none⟩ (.int .i64 (n + 1))) bb vv (n + 1) (l ++ [x]) ∧ But w.heap.size bb w ((w'.setCell ⟨bb, 2, none⟩ v').setCell ⟨bb, 1, none⟩ (.int .i64 (n + 1)))) :=
    ⟨⟨v', x4, hlts.but hns3 hbut (Nat.le_refl _), fun q hq => by rw [hv'] at hq; obtain rfl : g = q := (by simpa [Value.ownBlock] using hq); have := hb1.size; omega⟩, (to_but (hb1.trans (hb13.mono hb1.size))).trans (hbut.less (by have := hb13.size; have := hb1.size; omega))⟩
  have HRUN : Hid ((Builtin.append_ #[64, 64] 64 #[.slice a l.length l.length, .slice (some ⟨w1.heap.size, 0, none⟩) 1 1]).run Tryz.prog (w1.alloc (.cells #[.int .i64 n, sv, .int .i64 day, .string t] 71)) = .ok v' w') := hrun
  subst hv'
  subst hsvf
  clear HR hb1 hsv hF x1 x2 hcap hrest h2 hns htt b2 e2 hrow hrun hlts hb3 x3 x4 hns3 hbut hb13 HBX z2
  go_wp2_with fail
  refine cD.mono ?_
  rintro e w2 ⟨rfl, hw⟩
  obtain rfl : w1 = w2 := hw.symm
  clear cD hw
  go_wp2_with fail
  refine cC.mono ?_
  rintro e w2 ⟨rfl, hw⟩
  obtain rfl : w1 = w2 := hw.symm
  clear cC hw
  go_wp2_with (at_builtin; go_must (refine Go.Lib.wpList_append_run _ rfl (.tmp 52) (.tmp 58) 64 64 rfl _ _ rfl rfl _ w' HRUN.out ?_))
  go_ret2
  exact ⟨rfl, HD.out⟩
theorem box_append (bb : Nat) (vv n day : Int) (l : List Lt) (fv : Value) (F : List Fl.Tx × Int) (t : ByteArray) (w : World) (h : BoxAt w bb vv n l) (hl : l.length ≤ 1000) (hn : 0 ≤ n ∧ n ≤ 4000000000)
    (cS : Calls Tryz.prog 133 #[fv] w fun e w' => SetOut w F e w') :
    Calls Tryz.prog 78 #[.pointer (some ⟨bb, 0, none⟩), fv, .int .i64 day, .string t] w fun e w' =>
      (appE F.2 n l.length day t.size ≠ 0 ∧ e = .returned (.tuple #[.int .i64 0, .iface 34 (.int .i64 (appE F.2 n l.length day t.size))]) ∧ Below w.heap.size w w') ∨
      (appE F.2 n l.length day t.size = 0 ∧ e = .returned (.tuple #[.int .i64 n, .nilIface]) ∧ BoxAt w' bb vv (n + 1) (l ++ [⟨n, F.1, day, t.data.toList⟩]) ∧ But w.heap.size bb w w') :=
  (box_append_new bb vv n day l fv F t w h hl hn cS).mono fun _ _ h => h.imp id fun ⟨h1, h2, h3, h4⟩ => ⟨h1, h2, h3.at, h4⟩
end Go.Proofs.YtdmplfflmdanlaaGreatDoor
