/-
  Those that a box does not have any more are seen no more: forget.
-/
import Derived.Test.YtgpcnacpefficaaGreatDoorBpViewBack
import Derived.Test.YtgpcnacpefficaaGreatDoorMViewDelIs
namespace Go.Proofs.YtgpcnacpefficaaGreatDoor
open Go.RowKit Go.Proofs.Aid Go.Proofs.Bx
attribute [local go_sem] Oper.semAt_some

/-- News of those that are gone. -/
def goneN (p : Int → Bool) (L : List (Nat × Int)) : List Nw := (L.filter fun x => p x.2).map fun x => ⟨1, (x.1 : Int) + 1, []⟩
def gcells (ns : List Int) : List Value := ns.flatMap fun n => [.int .i64 1, .int .i64 n, .slice none 0 0]
/-- A row of news without flags. -/
def GRow (w : World) (v : Value) (ns : List Int) : Prop := w.ownsRow 0 103 3 v ns.length (gcells ns) ∧ ∀ g, v.ownBlock = some g → AllC NoT w g
theorem GRow.same {w w' : World} {v : Value} {ns : List Int} (h : GRow w v ns) (hk : ∀ q, v.ownBlock = some q → w'.heap[q]? = w.heap[q]?) : GRow w' v ns := ⟨own_same h.1 hk, fun g hg => (h.2 g hg).same (hk g hg)⟩
theorem GRow.nws {w : World} {v : Value} {ns : List Int} (h : GRow w v ns) : Nws w v (ns.map fun n => ⟨1, n, []⟩) := by
  refine ⟨ns.map fun n => [.int .i64 1, .int .i64 n, .slice none 0 0], ?_, by simp, fun j x xs hj hx => ?_, fun xs hx => ?_, h.2⟩
  · rw [List.length_map]
    exact h.1
  · rw [List.getElem?_map] at hj hx
    cases hn : ns[j]? with
    | none => rw [hn] at hj; cases hj
    | some n =>
      rw [hn] at hj hx
      obtain rfl := Option.some.inj hj
      obtain rfl := Option.some.inj hx
      exact ⟨_, rfl, ⟨none, 0, rfl, ⟨fun _ => rfl, Nat.le_refl _⟩, Or.inl rfl⟩, Or.inl rfl⟩
  · obtain ⟨n, _, rfl⟩ := List.mem_map.1 hx
    rfl
theorem grow_push {w : World} {va : Option Addr} {ca : Nat} {ns : List Int} (h : GRow w (.slice va ns.length ca) ns) (hL : ns.length ≤ 1000) (n : Int) :
    ∃ g cap W, (Builtin.append_ #[77, 77] 77 #[.slice va ns.length ca, .slice (some ⟨w.heap.size, 0, none⟩) 1 1]).run Tryz.prog (w.alloc (.cells #[.int .i64 1, .int .i64 n, .slice none 0 0] 103)) = .ok (.slice (some ⟨g, 0, none⟩) (ns.length + 1) cap) W ∧
      GRow W (.slice (some ⟨g, 0, none⟩) (ns.length + 1) cap) (ns ++ [n]) ∧ VKeep w.heap.size (.slice va ns.length ca) w W ∧ Near w (.slice va ns.length ca) (.slice (some ⟨g, 0, none⟩) (ns.length + 1) cap) := by
  obtain ⟨h1, h5⟩ := h
  obtain ⟨j0, hj, hz, hs, hby⟩ := info_parts Tryz.infoNw
  have b8 : Below w.heap.size w (w.alloc (.cells #[.int .i64 1, .int .i64 n, .slice none 0 0] 103)) := (Below.refl _ _).alloc (Nat.le_refl _) _
  have hnews := World.news_of_block (heap_alloc_new w (.cells #[.int .i64 1, .int .i64 n, .slice none 0 0] 103))
  obtain ⟨g9, cap9, W9, hrun, hown9, hg9, hor9, hlt9, hnt9⟩ := run_append_clean (P := Tryz.prog) (w.alloc (.cells #[.int .i64 1, .int .i64 n, .slice none 0 0] 103)) NoT 77 77 0 103 j0 (.agg #[.int .i64 0, .int .i64 0, .slice none 0 0]) 3 40 Tryz.underlying77 hj hz hs hby rfl (by decide) (.slice va ns.length ca) ns.length _ (h1.alloc _) (fun g hg => (h5 g hg).same (b8.block g (h1.lt g hg).2)) (fun u hu s => by
    have : u = .int .i64 0 ∨ u = .slice none 0 0 := by simpa [Value.cells] using hu
    rcases this with rfl | rfl <;> (intro e; cases e)) ⟨w.heap.size, 0, none⟩ 1 1 [.int .i64 1, .int .i64 n, .slice none 0 0] rfl hnews (by simp [Value.oneCell']) (fun u hu s => by
    have : u = .int .i64 1 ∨ u = .int .i64 n ∨ u = .slice none 0 0 := by simpa using hu
    rcases this with rfl | rfl | rfl <;> (intro e; cases e)) (by decide) (by unfold maxLen; omega) (by omega) (Nat.zero_le _)
  have hz9 : (w.alloc (.cells #[.int .i64 1, .int .i64 n, .slice none 0 0] 103)).heap.size = w.heap.size + 1 := by simp
  refine ⟨g9, cap9, W9, hrun, ⟨?_, fun g hg => ?_⟩, ⟨hg9.os.trans b8.os, hg9.tape.trans b8.tape, hg9.output.trans b8.output, Nat.le_trans b8.size hg9.size, fun q hq _ hne => (hg9.block q (by omega) (fun e => hne e.symm)).trans (b8.block q hq)⟩, fun q hq => ?_⟩
  · rw [List.length_append]
    unfold gcells
    rw [List.flatMap_append]
    exact hown9
  · obtain rfl : g9 = g := by simpa [Value.ownBlock] using hg
    exact hnt9
  · obtain rfl : g9 = q := by simpa [Value.ownBlock] using hq
    rcases hor9 with e9 | e9
    · exact Or.inl e9
    · rw [hz9] at e9
      exact Or.inr (by omega)
theorem goneN_snoc (p : Int → Bool) (L : List (Nat × Int)) (x : Nat × Int) : goneN p (L ++ [x]) = goneN p L ++ (if p x.2 = true then [⟨1, (x.1 : Int) + 1, []⟩] else []) := by
  unfold goneN
  rw [List.filter_append, List.map_append]
  cases hb : p x.2 <;> simp [List.filter, hb]
theorem goneN_le (p : Int → Bool) (L : List (Nat × Int)) : (goneN p L).length ≤ L.length := by unfold goneN; rw [List.length_map]; exact List.length_filter_le _ _
/-- The numbers of those that are gone. -/
def goneI (p : Int → Bool) (L : List (Nat × Int)) : List Int := (L.filter fun x => p x.2).map fun x => (x.1 : Int) + 1
theorem goneI_map (p : Int → Bool) (L : List (Nat × Int)) : (goneI p L).map (fun n => (⟨1, n, []⟩ : Nw)) = goneN p L := by unfold goneI goneN; rw [List.map_map]; rfl
theorem goneI_snoc (p : Int → Bool) (L : List (Nat × Int)) (x : Nat × Int) : goneI p (L ++ [x]) = goneI p L ++ (if p x.2 = true then [(x.1 : Int) + 1] else []) := by
  unfold goneI
  rw [List.filter_append, List.map_append]
  cases hb : p x.2 <;> simp [List.filter, hb]
theorem goneI_le (p : Int → Bool) (L : List (Nat × Int)) : (goneI p L).length ≤ L.length := by unfold goneI; rw [List.length_map]; exact List.length_filter_le _ _
/-- Behind some rounds of forget. -/
def FoI (H : Nat) (p : Int → Bool) (W4 : World) (pre : List Bk) (W : World) : Prop :=
  ∃ ov, W.heap[H + 1 + 1]? = some (.cells #[ov] 77 (0, 0)) ∧ GRow W ov (goneI p (pre.map Bk.key)) ∧ (∀ q, ov.ownBlock = some q → H + 1 + 1 + 1 + 1 ≤ q) ∧ (W.os = W4.os ∧ W.tape = W4.tape ∧ W.output = W4.output ∧ W4.heap.size ≤ W.heap.size) ∧ ∀ q, q < H + 1 + 1 + 1 + 1 → q ≠ H + 1 + 1 → q ≠ H + 1 + 1 + 1 → W.heap[q]? = W4.heap[q]?
theorem foI_bears (H : Nat) (p : Int → Bool) (W4 : World) : Aid.Bears (H + 1 + 1 + 1) (H + 1 + 1 + 1 + 1) (FoI H p W4) := by
  rintro s A B ⟨ov, h1, h2, h3, ⟨o1, o2, o3, o4⟩, h4⟩ ⟨row, hg, hr⟩
  have hk : ∀ q, q < A.heap.size → (q ≠ H + 1 + 1 + 1 ∧ q < H + 1 + 1 + 1 + 1) ∨ (∃ cs t fz, A.heap[q]? = some (.cells cs t fz)) ∧ q ≠ H + 1 + 1 + 1 → B.heap[q]? = A.heap[q]? := fun q hq hh => hg.block q hq fun e => by
    rcases hr q e.symm with h | ⟨h5, o, h6, h7⟩
    · rcases hh with h8 | h8
      · exact h8.1 h
      · exact h8.2 h
    · rcases hh with h8 | ⟨⟨cs, t, fz, h9⟩, _⟩
      · omega
      · rw [h9] at h6
        obtain rfl := Option.some.inj h6
        cases h7
  refine ⟨ov, (hk _ (Array.getElem?_eq_some_iff.1 h1).1 (Or.inl ⟨by omega, by omega⟩)).trans h1, h2.same fun q hq => hk q (h2.1.lt q hq).2 (Or.inr ⟨?_, by have := h3 q hq; omega⟩), h3, ⟨hg.os.trans o1, hg.tape.trans o2, hg.output.trans o3, Nat.le_trans o4 hg.size⟩, fun q hq n1 n2 => ?_⟩
  · rcases h2.1.2 with ⟨h8, _⟩ | ⟨g, _, cur, h8, _, hh, _⟩
    · rw [h8] at hq; cases hq
    · rw [h8] at hq
      obtain rfl : g = q := by simpa [Value.ownBlock] using hq
      exact ⟨cur, _, _, hh⟩
  · by_cases hqA : q < A.heap.size
    · exact (hk q hqA (Or.inl ⟨n2, hq⟩)).trans (h4 q hq n1 n2)
    · have h5 := (Array.getElem?_eq_some_iff.1 h1).1
      omega
/-- Left at its end alone. -/
def onlyN (Q : Exit → Act → World → Prop) : Exit → Act → World → Prop
  | .normal, a, w => Q .normal a w
  | _, _, _ => False
theorem onlyN_le (Q : Exit → Act → World → Prop) : ∀ e a w, onlyN Q e a w → Q e a w := fun e _ _ h => by
  cases e <;> first | exact h | exact h.elim
theorem wpListIn_append_run {F : Fence} {n : Nat} {P : Program} (w : World) {ops : Array Oper} {rest : List Oper} {o : Oper} {a : Act} {Q : Exit → Act → World → Prop} (hg : o.guard = none) (s x : Operand) (t : TypeId) (hop : o.op = Op.call { callee := Callee.builtin Builtin.append, args := #[s, x], argTypes := #[t, t] })
    (vs vx : Value) (hs : a.eval s = vs) (hx : a.eval x = vx) (v' : Value) (w' : World) (hr : (Builtin.append_ #[t, t] o.type #[vs, vx]).run P w = .ok v' w') (h : wpListIn F n P ops Q rest (a.put o.dst v') w') : wpListIn F n P ops Q (o :: rest) a w := by
  refine wpListIn_plain hg fun K hK' => ?_
  unfold Oper.wpIn
  refine ⟨?_, ?_⟩
  · simp [Oper.about, hop, resolve, Target.leads, Sem.run_pure]
  · rw [Oper.semAt_plain F _ _ (by rw [hop]; intro c hc'; cases hc')]
    simp [execOp, hop, resolve, invoke, builtin, hs, hx, hr, Result.andThen]
    exact hK' _ _ h
set_option maxRecDepth 100000 in
set_option maxHeartbeats 4000000 in
theorem forget_in (p : Int → Bool) (vb : Nat) (sv : Value) (S : List Sg) (vv nn : Int) (lv : Value) (l : List Lt) (w : World) (h : ViewAt w vb sv S) (hl : Lts w lv l) (hr : Rise l) (hS : S.length ≤ 900) (hll : l.length ≤ 900) (hp : ∀ u, p u = !findB l u) :
    CallsIn Fence.wide 3 Tryz.prog 56 #[.pointer (some ⟨vb, 0, none⟩), .agg #[.int .i64 vv, .int .i64 nn, lv]] w fun e w' =>
      ∃ ov, e = .returned ov ∧ Nws w' ov (goneN p (bk S 0)) ∧ VNext w vb sv w' (keepS p S) ∧ ∀ q, ov.ownBlock = some q → w.heap.size ≤ q := by
  obtain ⟨a, c, rfl⟩ := sgs_form h.2
  obtain ⟨la, lc, rfl, lcap, lrest⟩ := id hl
  obtain ⟨N, hN⟩ : ∃ N, S.length = N := ⟨_, rfl⟩
  obtain ⟨m, hm⟩ : ∃ m, l.length = m := ⟨_, rfl⟩
  have HN : Hid (S.length = N) := hN
  have HM : Hid (l.length = m) := hm
  have HRI : Hid (Rise l) := hr
  have HPP : Hid (∀ u, p u = !findB l u) := hp
  rw [hN] at hS h
  rw [hm] at hll hl
  rw [hN, hm]
  have hvl := h.lt
  have HV : Hid (ViewAt w vb (.slice a N c) S) := h
  have HL : Hid (Lts w (.slice la m lc) l) := hl
  have pv : w.cell? ⟨vb, 0, none⟩ = some (.slice a N c) := rd_cell h.1 rfl
  have bF : Boxed ((w.alloc (.cells #[.int .i64 vv, .int .i64 nn, .slice la m lc] 28)).alloc (.cells #[.nilFunc] 116)) (w.heap.size + 1) 116 .nilFunc := by
    have := Boxed.new (w.alloc (.cells #[.int .i64 vv, .int .i64 nn, .slice la m lc] 28)) 116 .nilFunc
    simpa only [World.size_alloc] using this
  have hst := run_store_func Tryz.prog ((w.alloc (.cells #[.int .i64 vv, .int .i64 nn, .slice la m lc] 28)).alloc (.cells #[.nilFunc] 116)) ⟨w.heap.size + 1, 0, none⟩ 70 #[.pointer (some ⟨w.heap.size, 0, none⟩)] .nilFunc bF.cell bF.frozen
  have pv3 : (((w.alloc (.cells #[.int .i64 vv, .int .i64 nn, .slice la m lc] 28)).alloc (.cells #[.func (.func 70) #[] #[.pointer (some ⟨w.heap.size, 0, none⟩)]] 116)).alloc (.cells #[.slice none 0 0] 77)).cell? ⟨vb, 0, none⟩ = some (.slice a N c) := (((((Below.refl w.heap.size w).alloc (Nat.le_refl _) (.cells #[.int .i64 vv, .int .i64 nn, .slice la m lc] 28)).alloc (by simp) (.cells #[.func (.func 70) #[] #[.pointer (some ⟨w.heap.size, 0, none⟩)]] 116)).alloc (by simp; omega) (.cells #[.slice none 0 0] 77)).cell (p := ⟨vb, 0, none⟩) hvl).trans pv
  clear h hl lrest lcap hN hm hr hp
  refine callsIn_of_wp_marks Tryz.func56 rfl trivial ?_ rfl
  simp only [Tryz.ntmps56, List.size_toArray, List.length_cons, List.length_nil, Nat.reduceAdd, Nat.reduceSub, Array.replicate_succ, Array.replicate_zero, List.push_toArray, List.append_toArray, List.nil_append, List.cons_append]
  gi_wp2_with fail
  refine ⟨trivial, ?_⟩
  refine (callsIn_wide.2 (backward_is (.slice a N c) ⟨_, _, _, rfl⟩ _)).mono ?_
  rintro e w4 ⟨rfl, rfl⟩
  gi_wp2_with fail
  obtain ⟨W1, hW1⟩ : ∃ W, w.alloc (.cells #[.int .i64 vv, .int .i64 nn, .slice la m lc] 28) = W := ⟨_, rfl⟩
  obtain ⟨W2, hW2⟩ : ∃ W, W1.alloc (.cells #[.func (.func 70) #[] #[.pointer (some ⟨w.heap.size, 0, none⟩)]] 116) = W := ⟨_, rfl⟩
  obtain ⟨W3, hW3⟩ : ∃ W, W2.alloc (.cells #[.slice none 0 0] 77) = W := ⟨_, rfl⟩
  obtain ⟨W4, hW4⟩ : ∃ W, W3.alloc (.cells #[.slice a N c] 60) = W := ⟨_, rfl⟩
  obtain ⟨H, hH⟩ : ∃ H, w.heap.size = H := ⟨_, rfl⟩
  have z1 : W1.heap.size = H + 1 := by rw [← hW1, World.size_alloc, hH]
  have z2 : W2.heap.size = H + 1 + 1 := by rw [← hW2, World.size_alloc, z1]
  have z3 : W3.heap.size = H + 1 + 1 + 1 := by rw [← hW3, World.size_alloc, z2]
  have z4 : W4.heap.size = H + 1 + 1 + 1 + 1 := by rw [← hW4, World.size_alloc, z3]
  have l1 : Below H w W1 := by rw [← hW1, ← hH]; exact (Below.refl _ _).alloc (Nat.le_refl _) _
  have l2 : Below (H + 1) W1 W2 := by rw [← hW2, ← z1]; exact (Below.refl _ _).alloc (Nat.le_refl _) _
  have l3 : Below (H + 1 + 1) W2 W3 := by rw [← hW3, ← z2]; exact (Below.refl _ _).alloc (Nat.le_refl _) _
  have l4 : Below (H + 1 + 1 + 1) W3 W4 := by rw [← hW4, ← z3]; exact (Below.refl _ _).alloc (Nat.le_refl _) _
  have L24 : Below (H + 1 + 1) W2 W4 := l3.trans (l4.mono (by omega))
  have L14 : Below (H + 1) W1 W4 := l2.trans (L24.mono (by omega))
  have L04 : Below H w W4 := l1.trans (L14.mono (by omega))
  have c0 : W4.heap[H]? = some (.cells #[.int .i64 vv, .int .i64 nn, .slice la m lc] 28 (0, 0)) := (L14.block H (by omega)).trans (by rw [← hW1, ← hH]; exact heap_alloc_new _ _)
  have c1 : W4.heap[H + 1]? = some (.cells #[.func (.func 70) #[] #[.pointer (some ⟨H, 0, none⟩)]] 116 (0, 0)) := (L24.block (H + 1) (by omega)).trans (by rw [← hW2, ← z1, ← hH]; exact heap_alloc_new _ _)
  have c2 : W4.heap[H + 1 + 1]? = some (.cells #[.slice none 0 0] 77 (0, 0)) := (l4.block (H + 1 + 1) (by omega)).trans (by rw [← hW3, ← z2]; exact heap_alloc_new _ _)
  have c3 : W4.heap[H + 1 + 1 + 1]? = some (.cells #[.slice a N c] 60 (0, 0)) := by rw [← hW4, ← z3]; exact heap_alloc_new _ _
  rw [hH] at hvl
  have hv4 : ViewAt W4 vb (.slice a N c) S := HV.out.below (by rw [hH]; exact L04)
  have hrow4 : ∀ q, (Value.slice a N c).ownBlock = some q → q < H := fun q hq => by rw [← hH]; exact HV.out.2.lt hq
  have HW4 : Hid (ViewAt W4 vb (.slice a N c) S ∧ Lts W4 (.slice la m lc) l ∧ (∀ q, (Value.slice a N c).ownBlock = some q → q < H) ∧ Below H w W4 ∧ w.heap.size = H) := ⟨hv4, HL.out.below L04 (by omega), hrow4, L04, hH⟩
  rw [hW1, hW2, hW3, hW4]
  rw [hH]
  clear hv4 l1 l2 l3 l4 L24 L14 pv pv3 hst bF hW1 hW2 hW3 hW4 z1 z2 z3
  have hKp : ∀ k, (k = H + 1 + 1 + 1 ∨ (Value.slice a N c).ownBlock = some k) → k < H + 1 + 1 + 1 + 1 := by
    rintro k (rfl | h)
    · omega
    · have := hrow4 k h; omega
  have hI4 : FoI H p W4 [] W4 := ⟨.slice none 0 0, c2, ⟨World.ownsRow_nil _ _ _ _, fun g hg => (by cases hg)⟩, fun q hq => (by cases hq), ⟨rfl, rfl, rfl, Nat.le_refl _⟩, fun _ _ _ _ => rfl⟩
  have HBW : Hid (∀ pre W, FoI H p W4 pre W → Below H w W ∧ W.heap[H]? = some (.cells #[.int .i64 vv, .int .i64 nn, .slice la m lc] 28 (0, 0)) ∧ W.heap[H + 1]? = some (.cells #[.func (.func 70) #[] #[.pointer (some ⟨H, 0, none⟩)]] 116 (0, 0)) ∧ BoxAt W H vv nn l) := by
    rintro pre W ⟨ov, h1, h2, h3, ⟨o1, o2, o3, o4⟩, h4⟩
    have hb : Below H w W := HW4.out.2.2.2.1.trans ⟨o1, o2, o3, o4, fun q hq => h4 q (by omega) (by omega) (by omega)⟩
    have e0 := (h4 H (by omega) (by omega) (by omega)).trans c0
    exact ⟨hb, e0, (h4 (H + 1) (by omega) (by omega) (by omega)).trans c1, ⟨_, e0, HL.out.below hb (by rw [HW4.out.2.2.2.2]; exact Nat.le_refl _)⟩⟩
  have eg : ∀ args w, (callFunc 70 args).run Tryz.prog w = .ok (.enter 70 args) w := enters_of Tryz.func70 (by kernel_rfl) rfl
  refine wpIn_range_turnA (α := Bk) (b := H + 1 + 1 + 1) (by omega) (Kp := fun k => k = H + 1 + 1 + 1 ∨ (Value.slice a N c).ownBlock = some k) (fun k hk => by rw [z4]; exact hKp k hk) rfl (by decide) (gf := 86) (lb := #[.pointer (some ⟨H + 1 + 1 + 1, 0, none⟩)]) rfl trivial (enters_of Tryz.func86 (by kernel_rfl) rfl)
    (encs := Bk.enc) (S := fun ys => ys.map Bk.key = bk S 0) (Sp := fun _ => True) (N := N) ?hands (fun _ => rfl)
    (FoI H p W4) (fun _ _ => False) (by rw [z4]; exact foI_bears H p W4) (fun _ _ _ h _ => h) hI4
    (fun x B => { tmps := #[.pointer (some ⟨vb, 0, none⟩), .agg #[.int .i64 vv, .int .i64 nn, .slice la m lc], undef, .pointer (some ⟨H, 0, none⟩), .slice none 0 0, .pointer (some ⟨H + 1, 0, none⟩), .pointer (some ⟨H + 1 + 1, 0, none⟩), .int .i64 (x.1.i : Int), .pointer (some ⟨B, 0, none⟩), .func (.func 70) #[] #[.pointer (some ⟨H, 0, none⟩)], .pointer (some ⟨vb, 0, none⟩), .pointer (some ⟨vb, 0, none⟩), .pointer (some ⟨vb, 0, none⟩), .slice a N c, .func (.func 86) #[] #[.pointer (some ⟨H + 1 + 1 + 1, 0, none⟩)], .int .i64 (x.1.i : Int), .agg #[.int .i64 x.1.u, .slice x.1.fa x.1.fn x.1.fc], undef, undef, undef, undef, undef, undef, undef, undef, undef, undef, undef, undef, undef, undef, undef, undef, undef, undef, undef], defers := [] }) (fun x => .cells #[.int .i64 x.1.u, .slice x.1.fa x.1.fn x.1.fc] 86 (0, 0)) ?assign ?body ?done ?stop
  case hands =>
    intro l' J Jx W hW _ hY h0
    have hs3 := (hW _ (Or.inl rfl)).trans c3
    have hsg : SgR W (.slice a N c) S := HW4.out.1.2.row.same fun q hq => hW q (Or.inr hq)
    exact back_in _ (by decide) l' (H + 1 + 1 + 1) N c a S _ J Jx W HN.out hS hsg hs3 ⟨Or.inl rfl, fun q hq => Or.inr hq⟩ hY h0
  case assign =>
    intro l' x W K hK
    dsimp only [Bk.enc]
    gi_wp2
    exact hK
  case body =>
    rintro l' pre ⟨⟨i, u, fa, fn, fc⟩, hx⟩ B W hBs hWs hob hI hpl
    dsimp only at hob hx ⊢
    obtain ⟨ov, h1, h2, h3, ⟨o1, o2, o3, o4⟩, h4⟩ := id hI
    obtain ⟨hb, e0, e1, hbat⟩ := HBW.out pre W hI
    have cG := gone1_is H vv nn u (.slice fa fn fc) l W hbat HRI.out (by rw [HM.out]; omega) ⟨_, _, _, rfl⟩
    rw [← HPP.out u] at cG
    obtain ⟨pb, hpb⟩ : ∃ b, p u = b := ⟨_, rfl⟩
    rw [hpb] at cG
    have q1 : W.cell? ⟨H + 1, 0, none⟩ = some (.func (.func 70) #[] #[.pointer (some ⟨H, 0, none⟩)]) := rd_cell e1 rfl
    have qb0 : W.cell? ⟨B, 0, none⟩ = some (.int .i64 u) := rd_cell hob rfl
    have qb1 : W.cell? ⟨B, 1, none⟩ = some (.slice fa fn fc) := rd_cell hob rfl
    obtain ⟨ns, hns⟩ : ∃ ns, goneI p (pre.map Bk.key) = ns := ⟨_, rfl⟩
    rw [hns] at h2
    have hnl : ns.length ≤ 900 := by
      rw [← hns]
      have := goneI_le p (pre.map Bk.key)
      rw [List.length_map] at this
      omega
    have HNX : Hid (goneI p ((pre ++ [(⟨⟨i, u, fa, fn, fc⟩, hx⟩ : Bk)]).map Bk.key) = ns ++ (if pb = true then [(i : Int) + 1] else [])) := by
      show _ = _
      rw [List.map_append, List.map_cons, List.map_nil, goneI_snoc, hns]
      show _ ++ (if p u = true then _ else _) = _
      rw [hpb]
      rfl
    have HFX : Hid (∀ W9 ov9, VKeep (H + 1 + 1) ov W W9 → Near W ov ov9 → W9.heap[H + 1 + 1]? = some (.cells #[ov9] 77 (0, 0)) → GRow W9 ov9 (ns ++ (if pb = true then [(i : Int) + 1] else [])) →
        leftByK (fun k => k = H + 1 + 1 + 1 ∨ (Value.slice a N c).ownBlock = some k) (FoI H p W4) (fun _ _ => False) (pre ++ [(⟨⟨i, u, fa, fn, fc⟩, hx⟩ : Bk)]) W .normal { tmps := #[], defers := [] } W9) := by
      intro W9 ov9 hk hn hO hG
      refine ⟨hk.size, fun k o hko hoc => ?_, fun k hkp => ?_, ov9, hO, by rw [HNX.out]; exact hG, fun q hq => ?_, ⟨hk.os.trans o1, hk.tape.trans o2, hk.output.trans o3, Nat.le_trans o4 hk.size⟩, fun q hq n1 n2 => ?_⟩
      · refine (hk.block k (Array.getElem?_eq_some_iff.1 hko).1 (fun e => ?_) fun e => ?_).trans hko
        · rw [e, h1] at hko
          obtain rfl := Option.some.inj hko
          cases hoc
        · rcases h2.1.2 with ⟨h8, _⟩ | ⟨g, _, cur, h8, _, hh, _⟩
          · rw [h8] at e; cases e
          · rw [h8] at e
            obtain rfl : g = k := by simpa [Value.ownBlock] using e
            rw [hh] at hko
            obtain rfl := Option.some.inj hko
            cases hoc
      · have hlt := hKp k hkp
        refine hk.block k (by omega) (fun e => ?_) (fun e => by have := h3 k e; omega)
        rcases hkp with h | h
        · omega
        · have := HW4.out.2.2.1 k h; omega
      · rcases hn q hq with h | h
        · exact h3 q h
        · omega
      · refine (hk.block q (by omega) n1 (fun e => by have := h3 q e; omega)).trans (h4 q hq n1 n2)
    have HST : Hid (W.heap[H + 1 + 1]? = some (.cells #[ov] 77 (0, 0)) ∧ GRow W ov ns ∧ (∀ q, ov.ownBlock = some q → H + 1 + 1 + 1 + 1 ≤ q)) := ⟨h1, h2, h3⟩
    have hWsz : H + 1 + 1 + 1 + 1 ≤ W.heap.size := by omega
    clear h1 h2 h3 h4 o1 o2 o3 o4 hns hpb hI hob e0 e1 hbat hb
    gi_wp2_with fail
    refine ⟨trivial, ?_⟩
    refine (CallsIn.inRound l' (callsIn_wide.2 cG)).mono ?_
    clear cG
    rintro e w5 ⟨rfl, hb5⟩
    have HB5 : Hid (Below W.heap.size W w5) := hb5
    clear hb5
    cases pb with
    | false =>
      have HF := HFX.out w5 ov (VKeep.of HB5.out) (Near.refl _ _) ((HB5.out.block _ (by omega)).trans HST.out.1) (by rw [if_neg (by decide), List.append_nil]; exact HST.out.2.1.same fun q hq => HB5.out.block q (HST.out.2.1.1.lt q hq).2)
      gi_wp2_with fail
      exact HF
    | true =>
      obtain ⟨va, ca, rfl⟩ : ∃ va ca, ov = .slice va ns.length ca := by
        rcases HST.out.2.1.1.2 with ⟨h8, h9⟩ | ⟨g, cap, cur, h8, _⟩
        · exact ⟨none, 0, by rw [h8, h9]⟩
        · exact ⟨_, _, h8⟩
      have hg5 : GRow w5 (.slice va ns.length ca) ns := HST.out.2.1.same fun q hq => HB5.out.block q (HST.out.2.1.1.lt q hq).2
      have ho5 := (HB5.out.block (H + 1 + 1) (by omega)).trans HST.out.1
      have hz5 := HB5.out.size
      obtain ⟨g9, cap9, W9, hrun, hG9, hk9, hn9⟩ := grow_push hg5 (by omega) ((i : Int) + 1)
      have hne9 : (Value.slice va ns.length ca).ownBlock ≠ some (H + 1 + 1) := fun e => by have := HST.out.2.2 _ e; omega
      have ho9 := (hk9.block (H + 1 + 1) (by omega) (by omega) hne9).trans ho5
      have qo5 : w5.cell? ⟨H + 1 + 1, 0, none⟩ = some (.slice va ns.length ca) := rd_cell ho5 rfl
      have qo9 : W9.cell? ⟨H + 1 + 1, 0, none⟩ = some (.slice va ns.length ca) := rd_cell ho9 rfl
      have qf9 : W9.frozen? ⟨H + 1 + 1, 0, none⟩ = false := rd_free ho9 0
      have HF := HFX.out (W9.setCell ⟨H + 1 + 1, 0, none⟩ (.slice (some ⟨g9, 0, none⟩) (ns.length + 1) cap9)) (.slice (some ⟨g9, 0, none⟩) (ns.length + 1) cap9)
        ⟨hk9.os.trans HB5.out.os, hk9.tape.trans HB5.out.tape, hk9.output.trans HB5.out.output, by have := hk9.size; simp; omega, fun q hq n1 n2 => (Below.heap_setCell _ _ _ _ n1).trans ((hk9.block q (by omega) (by omega) n2).trans (HB5.out.block q hq))⟩
        (fun q hq => by
          rcases hn9 q hq with h | h
          · exact Or.inl h
          · exact Or.inr (by omega))
        (rd_set (i := 0) _ ho9)
        (by
          rw [if_pos rfl]
          refine hG9.same fun q hq => Below.heap_setCell _ _ _ _ fun e => ?_
          have e : q = H + 1 + 1 := e
          rcases hn9 q hq with h | h
          · exact hne9 (by rw [← e]; exact h)
          · omega)
      obtain ⟨nl, hnl2⟩ : ∃ k, ns.length = k := ⟨_, rfl⟩
      rw [hnl2] at hrun qo5 qo9 hnl HF
      have HRUN : Hid ((Builtin.append_ #[77, 77] 77 #[.slice va nl ca, .slice (some ⟨w5.heap.size, 0, none⟩) 1 1]).run Tryz.prog (w5.alloc (.cells #[.int .i64 1, .int .i64 ((i : Int) + 1), .slice none 0 0] 103)) = .ok (.slice (some ⟨g9, 0, none⟩) (nl + 1) cap9) W9) := hrun
      clear hrun hG9 hk9 hn9 hg5 ho5 ho9 hnl2 HFX HST HB5
      gi_wp2_with (gi_at_builtin; refine wpListIn_append_run _ rfl (.tmp 20) (.tmp 24) 77 rfl _ _ rfl rfl _ W9 HRUN.out ?_)
      exact HF
  case done =>
    rintro D ys W hD hys hI hK
    obtain ⟨hb, e0, e1, hbat⟩ := HBW.out ys W hI
    obtain ⟨ov, h1, h2, h3, ⟨o1, o2, o3, o4⟩, h4⟩ := hI
    rw [hys] at h2
    have hvw : ViewAt W vb (.slice a N c) S := HV.out.below (by rw [HW4.out.2.2.2.2]; exact hb)
    have hWz : H + 1 + 1 + 1 + 1 ≤ W.heap.size := by omega
    have hDl : D < W.heap.size := (Array.getElem?_eq_some_iff.1 hK).1
    obtain ⟨K, hKK⟩ : ∃ K, (keepS p S).length = K := ⟨_, rfl⟩
    have cD : ∀ k, Calls Tryz.prog 72 #[.slice a N c, .func (.func 70) #[] #[.pointer (some ⟨H, 0, none⟩)]] (W.drewN k) fun e w' =>
        e = .returned (.slice a K c) ∧ Sgs w' (.slice a K c) (keepS p S) ∧ VKeep W.heap.size (.slice a N c) W w' := fun k => by
      have bk : Below W.heap.size W (W.drewN k) := below_drewN (Below.refl _ _) _
      have zk : (W.drewN k).heap.size = W.heap.size := by simp
      rw [← hKK]
      refine (del_any 70 [.pointer (some ⟨H, 0, none⟩)] a c N p S (W.drewN k) (hvw.2.below bk) HN.out hS eg (fun g hn hg W' hB hz u fa fn fc => ?_)).mono ?_
      · have hHg : H ≠ g := by
          rcases hg with h | h
          · have := HW4.out.2.2.1 g h; omega
          · omega
        obtain ⟨lv', d1, d2⟩ := hbat.below bk (Nat.le_refl _)
        rw [HPP.out u]
        exact gone1_is H vv nn u _ l W' ⟨lv', (hB.block H (by rw [zk]; omega) hHg).trans d1, d2.but hn hB (Nat.le_refl _)⟩ HRI.out (by rw [HM.out]; omega) ⟨_, _, _, rfl⟩
      · rintro e w' ⟨rfl, k1, k2⟩
        refine ⟨rfl, k1, ⟨k2.os.trans bk.os, k2.tape.trans bk.tape, k2.output.trans bk.output, by have := k2.size; omega, fun q hq _ h6 => (k2.block q (by omega) (by omega) h6).trans (bk.block q hq)⟩⟩
    have q1 : W.cell? ⟨H + 1, 0, none⟩ = some (.func (.func 70) #[] #[.pointer (some ⟨H, 0, none⟩)]) := rd_cell e1 rfl
    have qv : W.cell? ⟨vb, 0, none⟩ = some (.slice a N c) := rd_cell hvw.1 rfl
    obtain ⟨oa, on, oc, rfl⟩ : ∃ a n c, ov = .slice a n c := by
      rcases h2.1.2 with ⟨h8, h9⟩ | ⟨g, cap, cur, h8, _⟩
      · exact ⟨none, 0, 0, h8⟩
      · exact ⟨_, _, _, h8⟩
    have HST : Hid (W.heap[H + 1 + 1]? = some (.cells #[.slice oa on oc] 77 (0, 0)) ∧ GRow W (.slice oa on oc) (goneI p (bk S 0)) ∧ (∀ q, (Value.slice oa on oc).ownBlock = some q → H + 1 + 1 + 1 + 1 ≤ q) ∧ ViewAt W vb (.slice a N c) S ∧ W.heap[D]? = some (.deferred (some [])) ∧ Below H w W) := ⟨h1, h2, h3, hvw, hK, hb⟩
    clear h1 h2 h3 h4 o1 o2 o3 o4 hbat e0 e1 hvw hys hb hK hKK
    have HV6 : Hid (∀ w', VKeep W.heap.size (.slice a N c) W w' → w'.heap[vb]? = some (.cells #[.slice a N c] 62 (0, 0))) := fun w' hk => (hk.block vb (by omega) (by omega) HST.out.2.2.2.1.apart).trans HST.out.2.2.2.1.1
    have hmx : Tryz.prog.follows .mixedOrders = true := by kernel_rfl
    gi_wp2_with fail
    refine wpIn_mono (Q := onlyN (Exit.then _ _)) ?_ (onlyN_le _)
    gi_region_with_o (refine ⟨trivial, ?_⟩; refine (callsIn_wide.2 (cD _)).mono ?_; rintro e w6 ⟨rfl, s6, k6⟩; have v6 := HV6.out w6 k6; have qv6 : w6.cell? ⟨vb, 0, none⟩ = some (.slice a N c) := rd_cell v6 rfl; have qf6 : w6.frozen? ⟨vb, 0, none⟩ = false := rd_free v6 0)
    all_goals
      have ho6 : (w6.setCell ⟨vb, 0, none⟩ (.slice a K c)).heap[H + 1 + 1]? = some (.cells #[.slice oa on oc] 77 (0, 0)) := (Below.heap_setCell _ _ _ _ (show H + 1 + 1 ≠ vb by omega)).trans ((k6.block (H + 1 + 1) (by omega) (by omega) (fun e => by have := HW4.out.2.2.1 _ e; omega)).trans HST.out.1)
      have qo6 : (w6.setCell ⟨vb, 0, none⟩ (.slice a K c)).cell? ⟨H + 1 + 1, 0, none⟩ = some (.slice oa on oc) := rd_cell ho6 rfl
      have hK6 : (w6.setCell ⟨vb, 0, none⟩ (.slice a K c)).heap[D]? = some (.deferred (some [])) := (Below.heap_setCell _ _ _ _ (show D ≠ vb by omega)).trans ((k6.block D hDl (by omega) (fun e => by have := HW4.out.2.2.1 _ e; omega)).trans HST.out.2.2.2.2.1)
      have hsz6 := k6.size
      have hFIN : Nws ((w6.setCell ⟨vb, 0, none⟩ (.slice a K c)).putObj D (.deferred none)) (.slice oa on oc) (goneN p (bk S 0)) ∧ VNext w vb (.slice a N c) ((w6.setCell ⟨vb, 0, none⟩ (.slice a K c)).putObj D (.deferred none)) (keepS p S) ∧ ∀ q, (Value.slice oa on oc).ownBlock = some q → w.heap.size ≤ q := by
        have hown : ∀ q, (Value.slice a K c).ownBlock = some q → (Value.slice a N c).ownBlock = some q := fun q h => by cases a <;> exact h
        have hob := HST.out.2.2.1
        have hvr := HW4.out.2.2.1
        have bP : Below D (w6.setCell ⟨vb, 0, none⟩ (.slice a K c)) ((w6.setCell ⟨vb, 0, none⟩ (.slice a K c)).putObj D (.deferred none)) := below_put _ _ (Nat.le_refl _)
        have hput : ∀ q, q ≠ D → ((w6.setCell ⟨vb, 0, none⟩ (.slice a K c)).putObj D (.deferred none)).heap[q]? = (w6.setCell ⟨vb, 0, none⟩ (.slice a K c)).heap[q]? := fun q hq => World.putObj_heap_other hq
        have hset : ∀ q, q ≠ vb → (w6.setCell ⟨vb, 0, none⟩ (.slice a K c)).heap[q]? = w6.heap[q]? := fun q hq => Below.heap_setCell _ _ _ _ hq
        have hD6 : w6.heap[D]? = some (.deferred (some [])) := (hset D (by omega)).symm.trans hK6
        have hnD : NoStr w6 D := fun i s hc => by
          simp only [World.cell?, hD6] at hc
          cases hc
        have hnv : NoStr w6 vb := fun i s hc => by
          simp only [World.cell?, v6] at hc
          match i, hc with
          | 0, hc => simp at hc
          | i + 1, hc => simp at hc
        refine ⟨?_, ⟨.slice a K c, ⟨(hput vb (by omega)).trans (rd_set (i := 0) _ v6), ?_⟩, ?_, fun q hq => Or.inl (hown q hq)⟩, fun q hq => ?_⟩
        · rw [← goneI_map]
          refine (HST.out.2.1.same fun q hq => ?_).nws
          have hq1 := (HST.out.2.1.1.lt q hq).2
          have hq2 := hob q hq
          have hqD : q ≠ D := fun e => by
            rcases HST.out.2.1.1.2 with ⟨h8, _⟩ | ⟨g, _, cur, h8, _, hh, _⟩
            · rw [h8] at hq; cases hq
            · rw [h8] at hq
              obtain rfl : g = q := by simpa [Value.ownBlock] using hq
              rw [e, HST.out.2.2.2.2.1] at hh
              cases hh
          exact (hput q hqD).trans ((hset q (by omega)).trans (k6.block q hq1 (by omega) (fun e => by have := hvr q e; omega)))
        · refine s6.same fun q hq h => (hput q fun e => ?_).trans (hset q fun e => ?_)
          · rcases h with h | h
            · have := hvr q (hown q h); omega
            · exact h (by rw [e]; exact hnD)
          · rcases h with h | h
            · exact HST.out.2.2.2.1.apart (by rw [← e]; exact hown q h)
            · exact h (by rw [e]; exact hnv)
        · have hbw := HST.out.2.2.2.2.2
          have hzw := HW4.out.2.2.2.2
          exact ⟨bP.os.trans (k6.os.trans hbw.os), bP.tape.trans (k6.tape.trans hbw.tape), bP.output.trans (k6.output.trans hbw.output), by have h7 := bP.size; simp at h7; simp; have := hbw.size; omega, fun q hq n1 n2 => (hput q (by omega)).trans ((hset q n1).trans ((k6.block q (by omega) (by omega) n2).trans (hbw.block q (by omega))))⟩
        · have := hob q hq
          have := HW4.out.2.2.2.2
          omega
    all_goals
      rw [onlyN]
      clear s6 k6 v6 qv6 qf6 ho6 cD HST HV6 HBW
      gi_wp2_with fail
      refine ⟨by simp, .inl ⟨_, _, rfl, run_takeDeferred hK6, ?_⟩⟩
      refine ⟨.slice oa on oc, ?_, .slice oa on oc, rfl, hFIN⟩
      simp [results, Tryz.f56, go_sem]
  case stop =>
    rintro D pre W hD _ h _
    exact h.elim
theorem forget_is (vb : Nat) (sv : Value) (S : List Sg) (vv nn : Int) (lv : Value) (l : List Lt) (w : World) (h : ViewAt w vb sv S) (hl : Lts w lv l) (hr : Rise l) (hS : S.length ≤ 900) (hll : l.length ≤ 900) :
    Calls Tryz.prog 56 #[.pointer (some ⟨vb, 0, none⟩), .agg #[.int .i64 vv, .int .i64 nn, lv]] w fun e w' =>
      ∃ ov, e = .returned ov ∧ Nws w' ov (goneN (fun u => !findB l u) (bk S 0)) ∧ VNext w vb sv w' (keepS (fun u => !findB l u) S) ∧ ∀ q, ov.ownBlock = some q → w.heap.size ≤ q :=
  callsIn_wide.1 (forget_in _ vb sv S vv nn lv l w h hl hr hS hll fun _ => rfl)
end Go.Proofs.YtgpcnacpefficaaGreatDoor
