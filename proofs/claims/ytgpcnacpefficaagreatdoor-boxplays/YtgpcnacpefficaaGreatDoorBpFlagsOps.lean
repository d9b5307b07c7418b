/-
  Rows of texts: copied, appended, put behind one another; flags.Not's closure; flags.Not.
  A copy of texts, as a slice; a new view: Open.
  What is told, in memory: rows of three cells.
-/
import Derived.Test.YtgpcnacpefficaaGreatDoorBpFlagsRow
import Derived.Laws.AppendOwnNone
import Derived.Test.YtgpcnacpefficaaGreatDoorMViewMeet
namespace Go.Proofs.YtgpcnacpefficaaGreatDoor
open Go.RowKit Go.Proofs.Aid Go.Proofs.Fl Go.Sort Go.Lib

def bas (l : List Tx) : List ByteArray := l.map fun t => ⟨t.toArray⟩
theorem bas_length (l : List Tx) : (bas l).length = l.length := by simp [bas]
theorem bas_map (l : List Tx) : (bas l).map Value.string = l.map encStr := by simp [bas, Function.comp_def]
theorem bas_inj {a b : List Tx} (h : bas a = bas b) : a = b := by
  have := congrArg (List.map fun s : ByteArray => s.data.toList) h
  simpa [bas, Function.comp_def] using this
theorem cells_bas {w : World} {b o : Nat} {l : List Tx} (h : ∀ (j : Nat) t, l[j]? = some t → w.cell? ⟨b, o + j, none⟩ = some (encStr t)) : ∀ j, j < (bas l).length → w.cell? ⟨b, o + j, none⟩ = some (.string ((bas l).getD j ByteArray.empty)) := by
  intro j hj
  rw [bas_length] at hj
  rw [h j _ (List.getElem?_eq_getElem hj)]
  simp [bas, List.getD_eq_getElem?_getD, hj]
theorem clone_txs (v : Value) (l : List Tx) (w : World) (h : Sl w v l) (hl : l.length ≤ 1000) :
    Calls Tryz.prog 45 #[v] w fun e w' => (∃ v', e = .returned v' ∧ Row w' w.heap.size v' l) ∧ Below w.heap.size w w' := by
  obtain ⟨a, c, rfl, h0, ha⟩ := h
  cases a with
  | none =>
    have hn : l = [] := by
      rcases ha with h | ⟨b, o, h, _⟩
      · exact h
      · cases h
    subst hn
    refine (Tryz.slices_Clone_string_nil _ c w).mono ?_
    rintro e w' ⟨rfl, rfl⟩
    exact ⟨⟨_, rfl, World.ownsRow_nil _ _ _ _⟩, Below.refl _ _⟩
  | some ad =>
    rcases ha with rfl | ⟨b, o, h1, hat⟩
    · refine (Tryz.slices_Clone_string_zero ad c w).mono ?_
      rintro e w' ⟨v', rfl, hrow, _, hb⟩
      exact ⟨⟨v', rfl, hrow⟩, hb⟩
    · cases h1
      refine (Tryz.slices_Clone_string b o l.length c (bas l) w (by rw [bas_length]; exact Nat.le_refl _) (by omega) (cells_bas hat)).mono ?_
      rintro e w' ⟨v', rfl, hrow, _, hb⟩
      rw [List.take_of_length_le (by rw [bas_length]; exact Nat.le_refl _), bas_map] at hrow
      exact ⟨⟨v', rfl, hrow⟩, hb⟩
theorem Tryz.infoStr : (Tryz.prog.info? 9).map (fun i => (i.zero, i.size, i.bytes)) = some (some (.string ⟨#[]⟩), 1, 16) := by kernel_rfl
theorem enc_at {w : World} {b o : Nat} {l : List Tx} (h : ∀ (j : Nat) t, l[j]? = some t → w.cell? ⟨b, o + j, none⟩ = some (encStr t)) : ∀ (j : Nat) (u : Value), (l.map encStr)[j]? = some u → w.cell? ((⟨b, o, none⟩ : Addr).add j) = some u := by
  intro j u hj
  rw [Addr.add_lit]
  rw [List.getElem?_map, Option.map_eq_some_iff] at hj
  obtain ⟨t, ht, rfl⟩ := hj
  exact h j t ht
theorem wpList_append_sl {ops : Array Oper} {rest : List Oper} {o : Oper} {a : Act} {Q : Exit → Act → World → Prop} {w : World} (hgd : o.guard = none) (s x : Operand)
    (ho : o.op = .call { callee := .builtin .append, args := #[s, x], argTypes := #[35, 35] })
    (base : Nat) (v : Value) (n : Nat) (xs : List Value) (hs : a.eval s = v) (hown : w.ownsRow base 9 1 v n xs)
    (vx : Value) (l : List Tx) (hx : a.eval x = vx) (hsl : Sl w vx l) (hlen : n + l.length ≤ 1000) (hbase : base ≤ w.heap.size)
    (h : ∀ v' w', w'.ownsRow base 9 1 v' (n + l.length) (xs ++ l.map encStr) → w.grownBy w' v.ownBlock → wpList Tryz.prog ops Q rest (a.put o.dst v') w') : wpList Tryz.prog ops Q (o :: rest) a w := by
  obtain ⟨i0, hi, hz0, hz1, hz2⟩ := info_parts Tryz.infoStr
  obtain ⟨ad, c, rfl, hnil, hc⟩ := hsl
  cases ad with
  | none =>
    obtain rfl := hnil.1 rfl
    have hl : l = [] := by
      rcases hc with h1 | ⟨b, o', h1, _⟩
      · exact h1
      · cases h1
    subst hl
    refine wpList_append_own_none hgd s x 35 ho base 9 i0 1 Tryz.underlying35 hi v n xs hs hown hx ?_
    refine h v w (by simpa using hown) ⟨rfl, rfl, rfl, Nat.le_refl _, fun _ _ _ => rfl⟩
  | some ad =>
    have hnews : ∀ (j : Nat) (u : Value), (l.map encStr)[j]? = some u → w.cell? (ad.add j) = some u := by
      rcases hc with rfl | ⟨b, o', h1, h2⟩
      · intro j u hj; simp at hj
      · cases h1
        exact enc_at h2
    refine wpList_append_own w hgd s x 35 ho base 9 i0 (.string ⟨#[]⟩) 1 16 Tryz.underlying35 hi hz0 hz1 hz2 rfl (by decide) v n xs hs hown ad l.length c (l.map encStr) hx (by simp) hnews (by intro u hu; obtain ⟨t, _, rfl⟩ := List.mem_map.1 hu; rfl) (by unfold maxLen; omega) (by omega) hbase ?_
    intro v' w' h1 h2 _
    exact h v' w' h1 h2
/-- flags.Not's closure: is the flag one of the others? -/
theorem taken_any (x : Tx) (p : Nat) (vo : Value) (l : List Tx) (W : World) (hc : W.cell? ⟨p, 0, none⟩ = some vo) (h : Sl W vo l) (ho : Ord l) (hg : SysAt W) (hl : l.length ≤ 1000) :
    Calls Tryz.prog 83 #[encStr x, .pointer (some ⟨p, 0, none⟩)] W fun e w' => e = .returned (.bool (l.contains x)) ∧ ∃ q, w' = W.drewN q := by
  have cS := search_txs vo l x W h ho hg hl
  obtain ⟨C, hC⟩ : ∃ C, l.contains x = C := ⟨_, rfl⟩
  rw [hC] at cS ⊢
  obtain ⟨X, hX⟩ : ∃ X : ByteArray, ⟨x.toArray⟩ = X := ⟨_, rfl⟩
  change Calls Tryz.prog _ #[_, .string ⟨x.toArray⟩, _] W _ at cS
  show Calls Tryz.prog _ #[.string ⟨x.toArray⟩, _] W _
  rw [hX] at cS ⊢
  clear h ho hg hC hX
  go_enter Tryz.func83, Tryz.ntmps83
  go_wp2_with fail
  refine cS.mono ?_
  rintro e w' ⟨⟨i, rfl⟩, q, rfl⟩
  go_wp2_with fail
  go_ret
  exact ⟨rfl, q, rfl⟩
end Go.Proofs.YtgpcnacpefficaaGreatDoor
namespace Go.Proofs.YtgpcnacpefficaaGreatDoor
open Go.RowKit Go.Proofs.Aid Go.Proofs.Bx

theorem clone_sl : CloneAt := fun v l w h hl => by
  refine (clone_txs v l w h hl).mono ?_
  rintro e w' ⟨⟨v', rfl, hr⟩, hb⟩
  exact ⟨⟨v', rfl, Sl.of_row hr⟩, hb⟩
set_option maxHeartbeats 1000000 in
theorem open_is (vv nn : Int) (lv : Value) (l : List Lt) (w : World) (hl : Lts w lv l) (hS : l.length ≤ 900) (hfl : ∀ x ∈ l, x.flags.length ≤ 1000) :
    Calls Tryz.prog 7 #[.agg #[.int .i64 vv, .int .i64 nn, lv]] w fun e w' =>
      ∃ vb sv, e = .returned (.pointer (some ⟨vb, 0, none⟩)) ∧ w.heap.size ≤ vb ∧ ViewAt w' vb sv (newS 0 l) ∧ (∀ q, sv.ownBlock = some q → w.heap.size ≤ q) ∧ Below w.heap.size w w' := by
  obtain ⟨la, lc, rfl, lcap, lrest⟩ := id hl
  obtain ⟨m, hm⟩ : ∃ m, l.length = m := ⟨_, rfl⟩
  rw [hm] at hl ⊢
  have b1 : Below w.heap.size w ((w.alloc (.cells #[.int .i64 vv, .int .i64 nn, .slice la m lc] 28)).alloc (.cells #[.slice none 0 0] 62)) := ((Below.refl _ _).alloc (Nat.le_refl _) _).alloc (by simp) _
  have e1 := heap_alloc_new (w.alloc (.cells #[.int .i64 vv, .int .i64 nn, .slice la m lc] 28)) (.cells #[.slice none 0 0] 62)
  have cM := meet_is clone_sl _ (.slice none 0 0) [] vv nn (.slice la m lc) l ((w.alloc (.cells #[.int .i64 vv, .int .i64 nn, .slice la m lc] 28)).alloc (.cells #[.slice none 0 0] 62)) ⟨e1, Sgs.nil _⟩ (hl.below b1 (Nat.le_refl _)) (by simp; omega) hfl
  rw [World.size_alloc] at cM
  have HB1 : Hid (Below w.heap.size w ((w.alloc (.cells #[.int .i64 vv, .int .i64 nn, .slice la m lc] 28)).alloc (.cells #[.slice none 0 0] 62))) := b1
  clear b1 e1 hl lrest lcap hfl hm
  go_enter Tryz.func7, Tryz.ntmps7
  go_wp2_with fail
  refine cM.mono ?_
  rintro e w1 ⟨rfl, sv, hv, hk, hn⟩
  have HV : Hid (w.heap.size ≤ w.heap.size + 1 ∧ ViewAt w1 (w.heap.size + 1) sv (newS 0 l) ∧ (∀ q, sv.ownBlock = some q → w.heap.size ≤ q) ∧ Below w.heap.size w w1) := by
    have hz : ((w.alloc (.cells #[.int .i64 vv, .int .i64 nn, .slice la m lc] 28)).alloc (.cells #[.slice none 0 0] 62)).heap.size = w.heap.size + 1 + 1 := by simp
    refine ⟨by omega, hv, fun q hq => ?_, HB1.out.trans ⟨hk.os, hk.tape, hk.output, hk.size, fun q hq => hk.block q (by omega) (by omega) (by simp [Value.ownBlock])⟩⟩
    rcases hn q hq with h | h
    · cases h
    · rw [hz] at h; omega
  clear cM hv hk hn
  go_wp2_with fail
  go_ret
  exact ⟨_, sv, rfl, HV.out⟩
end Go.Proofs.YtgpcnacpefficaaGreatDoor
namespace Go.Proofs
theorem Tryz.infoNw : (Tryz.prog.info? 103).map (fun i => (i.zero, i.size, i.bytes)) = some (some (.agg #[.int .i64 0, .int .i64 0, .slice none 0 0]), 3, 40) := by kernel_rfl
end Go.Proofs
namespace Go.Proofs.YtgpcnacpefficaaGreatDoor
open Go.RowKit Go.Proofs.Aid Go.Proofs.Bx

/-- What is told. -/
structure Nw where
  kind : Int
  n : Int
  flags : List Fl.Tx
theorem flat3_get : ∀ {rows : List (List Value)} {j i : Nat} {xs : List Value}, (∀ ys ∈ rows, ys.length = 3) → rows[j]? = some xs → i < 3 → rows.flatten[j * 3 + i]? = xs[i]?
  | [], j, i, xs, _, h, _ => by simp at h
  | r :: rs, 0, i, xs, h6, h, hi => by
    obtain rfl : r = xs := by simpa using h
    have := h6 r List.mem_cons_self
    rw [List.flatten_cons, Nat.zero_mul, Nat.zero_add, List.getElem?_append_left (by omega)]
  | r :: rs, j + 1, i, xs, h6, h, hi => by
    have h1 := h6 r List.mem_cons_self
    rw [List.flatten_cons, List.getElem?_append_right (by omega), h1, show (j + 1) * 3 + i - 3 = j * 3 + i by omega]
    exact flat3_get (fun ys hy => h6 ys (List.mem_cons_of_mem _ hy)) (by simpa using h) hi
/-- Three values are what is told; its flags lie elsewhere than the row. -/
def NwRow (w : World) (v : Value) (x : Nw) (xs : List Value) : Prop := ∃ fv, xs = [.int .i64 x.kind, .int .i64 x.n, fv] ∧ Sl w fv x.flags ∧ (x.flags = [] ∨ ∀ q, fv.ownBlock = some q → v.ownBlock ≠ some q)
/-- A row of news that is nobody else's; no text lies in its block. -/
def Nws (w : World) (v : Value) (S : List Nw) : Prop := ∃ rows : List (List Value), w.ownsRow 0 103 3 v S.length rows.flatten ∧ rows.length = S.length ∧ (∀ (j : Nat) x xs, S[j]? = some x → rows[j]? = some xs → NwRow w v x xs) ∧ (∀ xs ∈ rows, xs.length = 3) ∧ ∀ g, v.ownBlock = some g → AllC NoT w g
theorem Nws.nil (w : World) : Nws w (.slice none 0 0) [] := ⟨[], World.ownsRow_nil _ _ _ _, rfl, fun j x xs h => (by simp at h), fun xs h => (by cases h), fun g h => (by cases h)⟩
theorem NwRow.same {w w' : World} {v : Value} {x : Nw} {xs : List Value} (h : NwRow w v x xs) (hk : ∀ q, q < w.heap.size → v.ownBlock ≠ some q → ¬ NoStr w q → w'.heap[q]? = w.heap[q]?) : NwRow w' v x xs := by
  obtain ⟨fv, h1, h2, h3⟩ := h
  refine ⟨fv, h1, h2.same fun q hq hl hlt => hk q hlt ?_ fun hn => ?_, h3⟩
  · rcases h3 with h | h
    · exact absurd h hl
    · exact h q hq
  · obtain ⟨a, c, e1, _, e2⟩ := h2
    rcases e2 with e2 | ⟨b, o, e3, e4⟩
    · exact hl e2
    · cases hx : x.flags with
      | nil => exact hl hx
      | cons y ys =>
        rw [e1, e3] at hq
        obtain rfl : b = q := by simpa [Value.ownBlock] using hq
        exact hn _ _ (e4 0 y (by rw [hx]; rfl))
theorem Nws.same {w w' : World} {v : Value} {S : List Nw} (h : Nws w v S) (hk : ∀ q, q < w.heap.size → v.ownBlock = some q ∨ ¬ NoStr w q → w'.heap[q]? = w.heap[q]?) : Nws w' v S := by
  obtain ⟨rows, h1, h2, h3, h4, h5⟩ := h
  exact ⟨rows, own_same h1 fun q hq => hk q (h1.lt q hq).2 (Or.inl hq), h2, fun j x xs hj hx => (h3 j x xs hj hx).same fun q hq _ hn => hk q hq (Or.inr hn), h4, fun g hg => (h5 g hg).same (hk g (h1.lt g hg).2 (Or.inl hg))⟩
theorem Nws.below {w w' : World} {v : Value} {S : List Nw} (h : Nws w v S) (hb : Below w.heap.size w w') : Nws w' v S := h.same fun q hq _ => hb.block q hq
theorem nws_form {w : World} {v : Value} {S : List Nw} (h : Nws w v S) : ∃ a c, v = .slice a S.length c := by
  obtain ⟨rows, h1, _⟩ := h
  rcases h1.2 with ⟨h2, h3⟩ | ⟨g, cap, cur, hv, _⟩
  · exact ⟨none, 0, by rw [h2, h3]⟩
  · exact ⟨_, _, hv⟩
theorem Nws.lt {w : World} {v : Value} {S : List Nw} (h : Nws w v S) {q : Nat} (hq : v.ownBlock = some q) : q < w.heap.size := by
  obtain ⟨rows, h1, _⟩ := h
  exact (h1.lt q hq).2
theorem Nws.noStr {w : World} {v : Value} {S : List Nw} (h : Nws w v S) {q : Nat} (hq : v.ownBlock = some q) : NoStr w q := by
  obtain ⟨rows, _, _, _, _, h5⟩ := h
  exact noT_str (h5 q hq)
/-- A sight that is in the row can be read. -/
theorem nws_at {w : World} {v : Value} {S : List Nw} (h : Nws w v S) {j : Nat} {x : Nw} (hj : S[j]? = some x) : ∃ g c fv, v = .slice (some ⟨g, 0, none⟩) S.length c ∧ g < w.heap.size ∧
    w.cell? ⟨g, j * 3, none⟩ = some (.int .i64 x.kind) ∧ w.cell? ⟨g, j * 3 + 1, none⟩ = some (.int .i64 x.n) ∧ w.cell? ⟨g, j * 3 + 2, none⟩ = some fv ∧ Sl w fv x.flags := by
  obtain ⟨rows, h1, h2, h3, h4, h5⟩ := h
  have hjl : j < S.length := (List.getElem?_eq_some_iff.1 hj).1
  rcases h1.2 with ⟨_, h0⟩ | ⟨g, cap, cur, rfl, hg, hh, _⟩
  · omega
  · have hjr : rows[j]? = some (rows[j]'(by omega)) := List.getElem?_eq_getElem (by omega)
    obtain ⟨fv, hx, hs, ho⟩ := h3 j x _ hj hjr
    have hc : ∀ i u, i < 3 → (rows[j]'(by omega))[i]? = some u → w.cell? ⟨g, j * 3 + i, none⟩ = some u := fun i u hi hu => by
      rw [h1.cellAt (j * 3 + i) (by omega), flat3_get h4 hjr hi]
      exact hu
    refine ⟨g, cap, fv, rfl, (Array.getElem?_eq_some_iff.1 hh).1, ?_, hc 1 (.int .i64 x.n) (by omega) (by rw [hx]; rfl), hc 2 fv (by omega) (by rw [hx]; rfl), hs⟩
    have := hc 0 (.int .i64 x.kind) (by omega) (by rw [hx]; rfl)
    rwa [Nat.add_zero] at this
/-- One news more behind the others. -/
theorem nws_push {w : World} {va : Option Addr} {ca : Nat} {S : List Nw} (h : Nws w (.slice va S.length ca) S) (hL : S.length ≤ 1000) (x : Nw) (fv : Value) (hf : Sl w fv x.flags) :
    ∃ g cap W, (Builtin.append_ #[77, 77] 77 #[.slice va S.length ca, .slice (some ⟨w.heap.size, 0, none⟩) 1 1]).run Tryz.prog (w.alloc (.cells #[.int .i64 x.kind, .int .i64 x.n, fv] 103)) = .ok (.slice (some ⟨g, 0, none⟩) (S.length + 1) cap) W ∧
      Nws W (.slice (some ⟨g, 0, none⟩) (S.length + 1) cap) (S ++ [x]) ∧ (W.os = w.os ∧ W.tape = w.tape ∧ W.output = w.output ∧ w.heap.size ≤ W.heap.size ∧ ∀ q, q < w.heap.size → (Value.slice va S.length ca).ownBlock ≠ some q → W.heap[q]? = w.heap[q]?) ∧ Near w (.slice va S.length ca) (.slice (some ⟨g, 0, none⟩) (S.length + 1) cap) := by
  obtain ⟨rows, h1, h2, h3, h4, h5⟩ := id h
  obtain ⟨j0, hj, hz, hs, hby⟩ := info_parts Tryz.infoNw
  have b8 : Below w.heap.size w (w.alloc (.cells #[.int .i64 x.kind, .int .i64 x.n, fv] 103)) := (Below.refl _ _).alloc (Nat.le_refl _) _
  have hnews := World.news_of_block (heap_alloc_new w (.cells #[.int .i64 x.kind, .int .i64 x.n, fv] 103))
  obtain ⟨fa, fc, hfv, _⟩ := id hf
  have hcell : ∀ u ∈ [Value.int .i64 x.kind, Value.int .i64 x.n, fv], u.oneCell' = true := by
    rw [hfv]
    simp [Value.oneCell']
  have hnt : ∀ u ∈ [Value.int .i64 x.kind, Value.int .i64 x.n, fv], NoT u := by
    rw [hfv]
    intro u hu s
    rcases List.mem_cons.1 hu with rfl | hu
    · exact fun e => by cases e
    rcases List.mem_cons.1 hu with rfl | hu
    · exact fun e => by cases e
    · rw [List.mem_singleton.1 hu]; exact fun e => by cases e
  obtain ⟨g9, cap9, W9, hrun, hown9, hg9, hor9, hlt9, hnt9⟩ := run_append_clean (P := Tryz.prog) (w.alloc (.cells #[.int .i64 x.kind, .int .i64 x.n, fv] 103)) NoT 77 77 0 103 j0 (.agg #[.int .i64 0, .int .i64 0, .slice none 0 0]) 3 40 Tryz.underlying77 hj hz hs hby rfl (by decide) (.slice va S.length ca) S.length _ (h1.alloc _) (fun g hg => (h5 g hg).same (b8.block g (h1.lt g hg).2)) (fun u hu s => by
    have : u = .int .i64 0 ∨ u = .slice none 0 0 := by simpa [Value.cells] using hu
    rcases this with rfl | rfl <;> (intro e; cases e)) ⟨w.heap.size, 0, none⟩ 1 1 [.int .i64 x.kind, .int .i64 x.n, fv] rfl hnews hcell hnt (by decide) (by unfold maxLen; omega) (by omega) (Nat.zero_le _)
  have hz9 : (w.alloc (.cells #[.int .i64 x.kind, .int .i64 x.n, fv] 103)).heap.size = w.heap.size + 1 := by simp
  have hkeep : ∀ q, q < w.heap.size → (Value.slice va S.length ca).ownBlock ≠ some q → W9.heap[q]? = w.heap[q]? := fun q hq hne => (hg9.block q (by omega) (fun e => hne e.symm)).trans (b8.block q hq)
  have hns : ∀ q, (Value.slice va S.length ca).ownBlock = some q → NoStr w q := fun q hq => noT_str (h5 q hq)
  have hrow : ∀ y fu, Sl w fu y → Sl W9 fu y ∧ (y = [] ∨ ∀ q, fu.ownBlock = some q → (Value.slice (some ⟨g9, 0, none⟩) (S.length + 1) cap9).ownBlock ≠ some q) := fun y fu hy => by
    refine ⟨hy.same fun q hq hy0 hlt => hkeep q hlt fun e => hy.noStr hy0 hq (hns q e), ?_⟩
    by_cases hy0 : y = []
    · exact Or.inl hy0
    · refine Or.inr fun q hq e => ?_
      have hlt := hy.blk hy0 hq
      obtain rfl : g9 = q := by simpa [Value.ownBlock] using e
      rcases hor9 with e9 | e9
      · exact hy.noStr hy0 hq (hns _ e9)
      · rw [hz9] at e9
        omega
  refine ⟨g9, cap9, W9, hrun, ⟨rows ++ [[.int .i64 x.kind, .int .i64 x.n, fv]], ?_, by simp [h2], fun j y ys hj hy => ?_, fun ys hy => ?_, fun g hg => ?_⟩, ⟨hg9.os.trans b8.os, hg9.tape.trans b8.tape, hg9.output.trans b8.output, Nat.le_trans b8.size hg9.size, hkeep⟩, fun q hq => ?_⟩
  · rw [List.length_append, List.flatten_append, List.flatten_cons, List.flatten_nil, List.append_nil]
    exact hown9
  · by_cases hjl : j < S.length
    · rw [List.getElem?_append_left hjl] at hj
      rw [List.getElem?_append_left (by omega)] at hy
      obtain ⟨fu, e1, e2, e3⟩ := h3 j y ys hj hy
      obtain ⟨r1, r2⟩ := hrow _ fu e2
      exact ⟨fu, e1, r1, r2⟩
    · have : j < (S ++ [x]).length := (List.getElem?_eq_some_iff.1 hj).1
      obtain rfl : j = S.length := by simp at this; omega
      rw [List.getElem?_append_right (Nat.le_refl _), Nat.sub_self] at hj
      rw [List.getElem?_append_right (by omega), h2, Nat.sub_self] at hy
      obtain rfl : x = y := by simpa using hj
      obtain rfl := Option.some.inj hy
      obtain ⟨r1, r2⟩ := hrow _ fv hf
      exact ⟨fv, rfl, r1, r2⟩
  · rcases List.mem_append.1 hy with h | h
    · exact h4 ys h
    · rw [List.mem_singleton.1 h]; rfl
  · obtain rfl : g9 = g := by simpa [Value.ownBlock] using hg
    exact hnt9
  · obtain rfl : g9 = q := by simpa [Value.ownBlock] using hq
    rcases hor9 with e9 | e9
    · exact Or.inl e9
    · rw [hz9] at e9
      exact Or.inr (by omega)
end Go.Proofs.YtgpcnacpefficaaGreatDoor
