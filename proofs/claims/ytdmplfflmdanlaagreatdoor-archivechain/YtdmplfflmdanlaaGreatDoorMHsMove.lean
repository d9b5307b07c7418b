/-
  A box, and all that lie in it, are called otherwise.
-/
import Derived.Test.YtdmplfflmdanlaaGreatDoorBpWShelf
namespace Go.Proofs.YtdmplfflmdanlaaGreatDoor
open Go.RowKit Go.Proofs.Aid Go.Lib

/-- One more name behind a row of names that the call owns; what is put there lies at nb. -/
theorem nrow_push {w : World} {base n ca : Nat} {va : Option Addr} {xs : List Value} (h : w.ownsRow base 9 1 (.slice va n ca) n xs) (hn : n ≤ 1000) (x : ByteArray) (nb : Nat) (hnb : w.cell? ⟨nb, 0, none⟩ = some (.string x)) (hbase : base ≤ w.heap.size) :
    ∃ g cap W, (Builtin.append_ #[22, 22] 22 #[.slice va n ca, .slice (some ⟨nb, 0, none⟩) 1 1]).run Tryz.prog w = .ok (.slice (some ⟨g, 0, none⟩) (n + 1) cap) W ∧
      W.ownsRow base 9 1 (.slice (some ⟨g, 0, none⟩) (n + 1) cap) (n + 1) (xs ++ [.string x]) ∧ w.grownBy W (Value.slice va n ca).ownBlock := by
  obtain ⟨j0, hj, hz, hs, hby⟩ := info_parts Tryz.infoNm
  have hnews : ∀ (j : Nat) (u : Value), ([.string x] : List Value)[j]? = some u → w.cell? ((⟨nb, 0, none⟩ : Addr).add j) = some u := fun j u hu => by
    cases j with
    | zero =>
      rw [Addr.add_lit]
      obtain rfl : Value.string x = u := by simpa using hu
      exact hnb
    | succ j => simp at hu
  obtain ⟨g9, cap9, W9, hrun, hown9, hg9, hor9, hlt9⟩ := run_append_lies (P := Tryz.prog) w 22 22 base 9 j0 (.string ⟨#[]⟩) 1 16 Tryz.underlying22 hj hz hs hby rfl (by decide) (.slice va n ca) n _ h ⟨nb, 0, none⟩ 1 1 [.string x] rfl hnews (by simp [Value.oneCell']) (by decide) (by unfold maxLen; omega) (by omega) hbase _ rfl
  exact ⟨g9, cap9, W9, hrun, hown9, hg9⟩
theorem nstep_app {P : Program} {w w' : World} {ops : Array Oper} {o : Oper} {a : Act} {K : Act → World → Prop} {Q : Exit → Act → World → Prop} {E : Prop} (hgd : o.guard = none) (s x : Operand) (t : TypeId)
    (ho : o.op = .call { callee := .builtin .append, args := #[s, x], argTypes := #[t, t] }) (v xv r : Value) (hs : a.eval s = v) (hx : a.eval x = xv) (hr : (Builtin.append_ #[t, t] o.type #[v, xv]).run P w = .ok r w') (h : K (a.put o.dst r) w') :
    if Region.wanted o (yielded ops a.tmps) = true then Oper.wp P o a w K Q else E := by
  have hw : Region.wanted o (yielded ops a.tmps) = true := by simp [Region.wanted, hgd]
  rw [if_pos hw]
  unfold Oper.wp execOp
  simp only [ho, resolve, invoke, builtin, Sem.run_bind, Sem.run_pure, Result.andThen_ok, List.map_toArray, List.map_cons, List.map_nil, hs, hx, hr]
  exact h
theorem store_new (w : World) (T : TypeId) (f : Nat) (bs : Array Value) (P : Program) : (store ⟨w.heap.size, 0, none⟩ (.func (.func f) #[] bs)).run P (w.alloc (.cells #[.nilFunc] T)) = .ok () (w.alloc (.cells #[.func (.func f) #[] bs] T)) := by
  have z4 := heap_alloc_new w (.cells #[.nilFunc] T)
  rw [run_store_func P _ ⟨w.heap.size, 0, none⟩ f bs .nilFunc (rd_cell z4 rfl) (rd_free z4 0)]
  refine congrArg _ ?_
  have e : ((w.alloc (.cells #[.nilFunc] T)).setCell ⟨w.heap.size, 0, none⟩ (.func (.func f) #[] bs)).heap = (w.alloc (.cells #[.func (.func f) #[] bs] T)).heap := Array.ext_getElem? fun i => by
    by_cases hi : i = w.heap.size
    · rw [hi, one_setCell z4]
      exact (heap_alloc_new _ _).symm
    · rw [Below.heap_setCell _ _ _ _ hi]
      by_cases hl : i < w.heap.size
      · rw [Below.heap_alloc _ _ _ hl, Below.heap_alloc _ _ _ hl]
      · rw [Array.getElem?_eq_none (by rw [World.size_alloc]; omega), Array.getElem?_eq_none (by rw [World.size_alloc]; omega)]
  exact congrArg (fun h => ({ w with heap := h } : World)) e
/-- What the map tells of a name. -/
def lookB (l : Bxs) (x : Nm) : Option Nat := (l.find? fun p => p.1 == x).map Prod.snd
theorem lookB_some {l : Bxs} {x : Nm} (h : hasB l x = true) : ∃ b, lookB l x = some b ∧ (x, b) ∈ l := by
  unfold hasB at h
  rw [List.any_eq_true] at h
  obtain ⟨p, hp, hx⟩ := h
  cases hf : l.find? fun p => p.1 == x with
  | none => exact absurd hx (by simpa using List.find?_eq_none.1 hf p hp)
  | some q =>
    have hq := List.mem_of_find?_eq_some hf
    have hqx : (q.1 == x) = true := List.find?_some (p := fun p : Nm × Nat => p.1 == x) hf
    obtain ⟨q1, q2⟩ := q
    obtain rfl : q1 = x := by simpa using hqx
    exact ⟨q2, by unfold lookB; rw [hf]; rfl, hq⟩
/-- One box is called otherwise. -/
def mvStep (t n : Nm) (l : Bxs) (x : Nm) : Bxs := match lookB l x with
  | some b => delB (putB (calledB t n x) b l) x
  | none => l
def mvAll (t n : Nm) (xs : List Nm) (l : Bxs) : Bxs := xs.foldl (mvStep t n) l
theorem has_put {l : Bxs} (hs : SortedB l) {c y : Nm} {b : Nat} (h : hasB l y = true) : hasB (putB c b l) y = true := by
  obtain ⟨d, hd⟩ := hasB_true.1 h
  by_cases e : y = c
  · exact hasB_true.2 ⟨b, (mem_putB hs).2 (Or.inl ⟨e, rfl⟩)⟩
  · exact hasB_true.2 ⟨d, (mem_putB hs).2 (Or.inr ⟨e, hd⟩)⟩
theorem has_del {l : Bxs} {x y : Nm} (h : hasB l y = true) (hne : y ≠ x) : hasB (delB l x) y = true := by
  obtain ⟨d, hd⟩ := hasB_true.1 h
  exact hasB_true.2 ⟨d, mem_delB.2 ⟨hne, hd⟩⟩
theorem mvStep_sorted {t n : Nm} {l : Bxs} {x : Nm} (hs : SortedB l) : SortedB (mvStep t n l x) := by
  unfold mvStep
  split
  · exact sorted_delB (sorted_putB hs) _
  · exact hs
theorem mvStep_has {t n : Nm} {l : Bxs} {x y : Nm} (hs : SortedB l) (h : hasB l y = true) (hne : y ≠ x) : hasB (mvStep t n l x) y = true := by
  unfold mvStep
  split
  · exact has_del (has_put hs h) hne
  · exact h
theorem mvStep_len (t n : Nm) (l : Bxs) (x : Nm) : (mvStep t n l x).length ≤ l.length + 1 := by
  unfold mvStep
  split
  · exact Nat.le_trans (List.length_filter_le _ _) (putB_len _ _ _)
  · omega
theorem mvAll_sorted {t n : Nm} : ∀ (xs : List Nm) (l : Bxs), SortedB l → SortedB (mvAll t n xs l)
  | [], _, h => h
  | _ :: xs, _, h => mvAll_sorted xs _ (mvStep_sorted h)
theorem mvAll_has {t n : Nm} {y : Nm} : ∀ (xs : List Nm) (l : Bxs), SortedB l → hasB l y = true → y ∉ xs → hasB (mvAll t n xs l) y = true
  | [], _, _, h, _ => h
  | x :: xs, l, hs, h, hne => mvAll_has xs _ (mvStep_sorted hs) (mvStep_has hs h fun e => hne (by rw [e]; exact List.mem_cons_self)) fun e => hne (List.mem_cons_of_mem _ e)
theorem mvAll_len {t n : Nm} : ∀ (xs : List Nm) (l : Bxs), (mvAll t n xs l).length ≤ l.length + xs.length
  | [], _ => Nat.le_refl _
  | x :: xs, l => by
    have h1 := mvAll_len (t := t) (n := n) xs (mvStep t n l x)
    have h2 := mvStep_len t n l x
    show (mvAll t n xs (mvStep t n l x)).length ≤ l.length + (xs.length + 1)
    omega
theorem mvAll_next {t n : Nm} {xs : List Nm} {k : Nat} {x : Nm} (hk : xs[k]? = some x) (l : Bxs) : mvAll t n (xs.take (k + 1)) l = mvStep t n (mvAll t n (xs.take k) l) x := by
  unfold mvAll
  rw [List.take_add_one, hk, List.foldl_append]
  rfl
theorem take_not {xs : List Nm} (h : xs.Nodup) {k : Nat} {x : Nm} (hk : xs[k]? = some x) : x ∉ xs.take k := fun hm => by
  obtain ⟨j, hj⟩ := List.getElem?_of_mem hm
  rw [List.getElem?_take] at hj
  split at hj
  · rename_i hlt
    obtain ⟨h1, e1⟩ := List.getElem?_eq_some_iff.1 hj
    obtain ⟨h2, e2⟩ := List.getElem?_eq_some_iff.1 hk
    exact (List.pairwise_iff_getElem.1 h j k h1 h2 hlt) (e1.trans e2.symm)
  · cases hj
theorem in_not_self (n : Nm) : inB n n = false := by
  unfold inB Lib.hasPrefix
  rw [← Bool.not_eq_true]
  intro h
  have := (List.isPrefixOf_iff_prefix.1 h).length_le
  rw [List.length_append, List.length_singleton] at this
  omega
/-- Those that are called otherwise: all that lie in it, and itself. -/
def mvNames (l : Bxs) (n : Nm) : List Nm := withinB l n ++ [n]
theorem mvNames_nodup {l : Bxs} (hs : SortedB l) (n : Nm) : (mvNames l n).Nodup := by
  unfold mvNames withinB
  rw [List.nodup_append]
  refine ⟨(keys_nodup hs).filter _, by simp, fun a ha b hb' e => ?_⟩
  rw [List.mem_singleton.1 hb'] at e
  have := (List.mem_filter.1 ha).2
  rw [e, in_not_self] at this
  cases this
theorem mvNames_has {l : Bxs} {n : Nm} (hn : hasB l n = true) {y : Nm} (hy : y ∈ mvNames l n) : hasB l y = true := by
  rcases List.mem_append.1 hy with h | h
  · obtain ⟨p, hp, rfl⟩ := List.mem_map.1 (List.mem_filter.1 h).1
    exact hasB_true.2 ⟨p.2, hp⟩
  · rw [List.mem_singleton.1 h]; exact hn
theorem putAll_sorted : ∀ (ps l : Bxs), SortedB l → SortedB (putAll l ps)
  | [], _, h => h
  | p :: ps, l, h => putAll_sorted ps (putB p.1 p.2 l) (sorted_putB h)
theorem putAll_has {y : Nm} : ∀ (ps l : Bxs), SortedB l → hasB l y = true → hasB (putAll l ps) y = true
  | [], _, _, h => h
  | p :: ps, l, hs, h => putAll_has ps (putB p.1 p.2 l) (sorted_putB hs) (has_put hs h)
theorem rd_low {w W W2 : World} {n t : ByteArray} (hb : Below W2.heap.size W2 W) (h : Below w.heap.size w W2 ∧ W2.heap.size = w.heap.size + 2 ∧ W2.heap[w.heap.size]? = some (.cells #[.string n] 9 (0, 0)) ∧ W2.heap[w.heap.size + 1]? = some (.cells #[.string t] 9 (0, 0))) : W.heap[w.heap.size]? = some (.cells #[.string n] 9 (0, 0)) := (hb.block _ (by have := h.2.1; omega)).trans h.2.2.1
theorem rd_low1 {w W W2 : World} {n t : ByteArray} (hb : Below W2.heap.size W2 W) (h : Below w.heap.size w W2 ∧ W2.heap.size = w.heap.size + 2 ∧ W2.heap[w.heap.size]? = some (.cells #[.string n] 9 (0, 0)) ∧ W2.heap[w.heap.size + 1]? = some (.cells #[.string t] 9 (0, 0))) : W.heap[w.heap.size + 1]? = some (.cells #[.string t] 9 (0, 0)) := (hb.block _ (by have := h.2.1; omega)).trans h.2.2.2
/-- What stands while boxes are called otherwise. -/
def MvEnv (W : World) (NB FB base : Nat) (n t : ByteArray) (fv v : Value) (xs : List Nm) : Prop :=
  W.heap[NB]? = some (.cells #[.string n] 9 (0, 0)) ∧ W.heap[NB + 1]? = some (.cells #[.string t] 9 (0, 0)) ∧ W.heap[FB]? = some (.cells #[fv] 153 (0, 0)) ∧ NRow W base v xs
theorem ne_of_kind {W : World} {hb mb g : Nat} {l : Bxs} {nx : Int} {wv : Value} {cs : Array Value} {ty : TypeId} {fz : Nat × Nat} (hH : HsAt W hb mb l nx wv) (hg : W.heap[g]? = some (.cells cs ty fz)) (hty : ty ≠ 130) : g ≠ hb ∧ g ≠ mb := by
  refine ⟨fun e => ?_, fun e => ?_⟩
  · rw [e, hH.1] at hg
    injection hg with hg
    injection hg with _ e2 _
    exact hty e2.symm
  · obtain ⟨_, _, D, ⟨es, clock, h2, _⟩, _⟩ := hH
    rw [e, h2] at hg
    cases hg
theorem MvEnv.hk {W W' : World} {NB FB base hb mb : Nat} {n t : ByteArray} {fv v : Value} {xs : List Nm} {l : Bxs} {nx : Int} {wv : Value} (h : MvEnv W NB FB base n t fv v xs) (hH : HsAt W hb mb l nx wv) (hk : HK hb mb W W') : MvEnv W' NB FB base n t fv v xs := by
  obtain ⟨h1, h2, h3, h4⟩ := h
  have k : ∀ {g : Nat} {cs : Array Value} {ty : TypeId} {fz : Nat × Nat}, W.heap[g]? = some (.cells cs ty fz) → ty ≠ 130 → W'.heap[g]? = some (.cells cs ty fz) := fun {g cs ty fz} hg hty =>
    (hk.block g (Array.getElem?_eq_some_iff.1 hg).1 (ne_of_kind hH hg hty).1 (ne_of_kind hH hg hty).2).trans hg
  exact ⟨k h1 (by decide), k h2 (by decide), k h3 (by decide), h4.hk hH hk⟩
/-- Names that are short. -/
abbrev Short := { x : Nm // x.length ≤ 1000 }
instance : Inhabited Short := ⟨⟨[], Nat.zero_le _⟩⟩
def encShort (x : Short) : Value := encStr x.1
theorem any_long (FB base : Nat) (n t : ByteArray) (v : Value) (xs : List Nm) (W : World) (NB : Nat) (h : MvEnv W NB FB base n t (.func (.func 183) #[] #[.pointer (some ⟨NB + 1, 0, none⟩), .pointer (some ⟨NB, 0, none⟩)]) v xs) (hx : xs.length ≤ 1000) (hxs : ∀ x ∈ xs, x.length ≤ 1000) (ht : t.size ≤ 1000) :
    Calls Tryz.prog 87 #[v, .func (.func 184) #[] #[.pointer (some ⟨FB, 0, none⟩)]] W fun e w' => e = .returned (.bool (xs.any fun x => decide (60 < (calledB t.data.toList n.data.toList x).length))) ∧ ∃ q, w' = W.drewN q := by
  obtain ⟨h1, h2, h3, h4⟩ := h
  have hp : PredAt Tryz.prog 184 #[.pointer (some ⟨FB, 0, none⟩)] encShort (fun x => decide (60 < (calledB t.data.toList n.data.toList x.1).length)) W := fun V x hV => by
    have k0 : V.cell? ⟨FB, 0, none⟩ = some (.func (.func 183) #[] #[.pointer (some ⟨NB + 1, 0, none⟩), .pointer (some ⟨NB, 0, none⟩)]) := rd_cell ((hV.block _ (Array.getElem?_eq_some_iff.1 h3).1).trans h3) rfl
    have k1 : V.cell? ⟨NB + 1, 0, none⟩ = some (.string t) := rd_cell ((hV.block _ (Array.getElem?_eq_some_iff.1 h2).1).trans h2) rfl
    have k2 : V.cell? ⟨NB, 0, none⟩ = some (.string n) := rd_cell ((hV.block _ (Array.getElem?_eq_some_iff.1 h1).1).trans h1) rfl
    have := move2_is ⟨x.1.toArray⟩ t n (NB + 1) NB FB V k0 k1 k2 (by show x.1.toArray.size ≤ _; rw [List.size_toArray]; have := x.2; omega) (by omega)
    refine this.mono ?_
    rintro e w' ⟨rfl, rfl⟩
    exact ⟨by simp, 1, rfl⟩
  have hany : (xs.any fun x => decide (60 < (calledB t.data.toList n.data.toList x).length)) = ((xs.attach.map fun x => (⟨x.1, hxs x.1 x.2⟩ : Short)).any fun x => decide (60 < (calledB t.data.toList n.data.toList x.1).length)) := by
    conv => lhs; rw [← List.attach_map_subtype_val xs]
    rw [List.any_map, List.any_map]
    rfl
  rw [hany]
  obtain ⟨zs, hzs⟩ : ∃ z, (xs.attach.map fun x => (⟨x.1, hxs x.1 x.2⟩ : Short)) = z := ⟨_, rfl⟩
  have hzx : zs.map (·.1) = xs := by rw [← hzs, List.map_map]; exact List.attach_map_subtype_val xs
  have hzl : zs.length = xs.length := by rw [← hzx, List.length_map]
  rw [hzs]
  clear hany hzs
  by_cases hv : xs = []
  · subst hv
    obtain rfl : zs = [] := List.eq_nil_of_length_eq_zero hzl
    obtain ⟨a, c, rfl⟩ := row_form h4
    refine (Tryz.slices_ContainsFunc_empty (α := Short) a c _ W).mono ?_
    rintro e w' ⟨rfl, rfl⟩
    exact ⟨rfl, 0, rfl⟩
  · have hne : 0 < xs.length := List.length_pos_iff.2 hv
    obtain ⟨g, cap, rfl, _⟩ := nrow_at h4 (List.getElem?_eq_getElem hne)
    have hC := Tryz.slices_ContainsFunc encShort (fun x => decide (60 < (calledB t.data.toList n.data.toList x.1).length)) 184 #[.pointer (some ⟨FB, 0, none⟩)] (enters_of Tryz.func184 (by kernel_rfl) rfl) g 0 xs.length cap zs W hp (by omega) (by omega) (fun j hj => by
      have hjx : j < xs.length := by omega
      obtain ⟨g', cap', e1, hc⟩ := nrow_at h4 (List.getElem?_eq_getElem hjx)
      injection e1 with e1 _ _
      injection e1 with e1
      injection e1 with e1 _ _
      subst e1
      rw [Nat.zero_add, hc]
      have e2 : zs[j]!.1 = xs[j] := by
        rw [getElem!_pos zs j hj]
        have := congrArg (fun l => l[j]?) hzx
        simp only [List.getElem?_map, List.getElem?_eq_getElem hj, List.getElem?_eq_getElem hjx, Option.map_some, Option.some.injEq] at this
        exact this
      show _ = some (encStr zs[j]!.1)
      rw [e2])
    rw [List.take_of_length_le (by omega)] at hC
    exact hC
theorem Built.hk {B : Nat} {w w' : World} {nx mx : Int} {ns : List Nm} {ps L : Bxs} {hb mb : Nat} {wv : Value} (h : Built B w nx ns ps) (hH : HsAt w hb mb L mx wv) (hk : HK hb mb w w') : Built B w' nx ns ps :=
  ⟨h.1, fun j p hj => ⟨(h.2.1 j p hj).1, (hk.block p.2 (Array.getElem?_eq_some_iff.1 (h.2.1 j p hj).2).1 (ne_of_kind hH (h.2.1 j p hj).2 (by decide)).1 (ne_of_kind hH (h.2.1 j p hj).2 (by decide)).2).trans (h.2.1 j p hj).2⟩, h.2.2⟩
theorem mvNames_short {l : Bxs} {n : Nm} (hs : ∀ p ∈ l, p.1.length ≤ 1000) (hn : hasB l n = true) : ∀ x ∈ mvNames l n, x.length ≤ 1000 := fun x hx => by
  obtain ⟨b, hb⟩ := hasB_true.1 (mvNames_has hn hx)
  exact hs _ hb
set_option maxHeartbeats 8000000 in
set_option maxRecDepth 100000 in
theorem move_is (hb mb : Nat) (l : Bxs) (nx : Int) (wv : Value) (n t : ByteArray) (w : World) (h : HsAt w hb mb l nx wv) (hns : n.size ≤ 1000) (hts : t.size ≤ 60) (hl : l.length ≤ 100) (hsm : ∀ p ∈ l, p.1.length ≤ 1000) (hhas : hasB l n.data.toList = true) (hn : 0 ≤ nx ∧ nx ≤ 900000) :
    Calls Tryz.prog 130 #[.pointer (some ⟨hb, 0, none⟩), .string n, .string t] w fun e w' =>
      (inB t.data.toList n.data.toList = true ∧ e = .returned (errN 6) ∧ Below w.heap.size w w') ∨
      (inB t.data.toList n.data.toList = false ∧ ((mvNames l n.data.toList).any fun x => decide (60 < (calledB t.data.toList n.data.toList x).length)) = true ∧ e = .returned (errN 4) ∧ Below w.heap.size w w') ∨
      (inB t.data.toList n.data.toList = false ∧ ((mvNames l n.data.toList).any fun x => decide (60 < (calledB t.data.toList n.data.toList x).length)) = false ∧ 30 < l.length + (lackB l t.data.toList).length ∧ e = .returned (errN 12) ∧ Below w.heap.size w w') ∨
      (inB t.data.toList n.data.toList = false ∧ ((mvNames l n.data.toList).any fun x => decide (60 < (calledB t.data.toList n.data.toList x).length)) = false ∧ l.length + (lackB l t.data.toList).length ≤ 30 ∧ e = .returned .nilIface ∧ HK hb mb w w' ∧ ∃ ps, Built w.heap.size w' nx (lackB l t.data.toList) ps ∧ HsAt w' hb mb (mvAll t.data.toList n.data.toList (mvNames l n.data.toList) (putAll l ps)) (nx + ((lackB l t.data.toList).length : Int)) wv) := by
  obtain ⟨W2, hW2, HB2⟩ : ∃ W2, (w.alloc (.cells #[.string n] 9)).alloc (.cells #[.string t] 9) = W2 ∧ Hid (Below w.heap.size w W2 ∧ W2.heap.size = w.heap.size + 2 ∧ W2.heap[w.heap.size]? = some (.cells #[.string n] 9 (0, 0)) ∧ W2.heap[w.heap.size + 1]? = some (.cells #[.string t] 9 (0, 0))) := by
    refine ⟨_, rfl, ((Below.refl _ _).alloc (Nat.le_refl _) _).alloc (by simp) _, by simp, ?_, ?_⟩
    · exact (Below.heap_alloc _ _ _ (by simp)).trans (heap_alloc_new _ _)
    · have := heap_alloc_new (w.alloc (.cells #[.string n] 9)) (.cells #[.string t] 9)
      rw [World.size_alloc] at this
      exact this
  have cn : W2.cell? ⟨w.heap.size, 0, none⟩ = some (.string n) := rd_cell HB2.out.2.2.1 rfl
  have ct : W2.cell? ⟨w.heap.size + 1, 0, none⟩ = some (.string t) := rd_cell HB2.out.2.2.2 rfl
  have h2 := h.below HB2.out.1 (Nat.le_refl _)
  have HH : Hid (HsAt W2 hb mb l nx wv ∧ hb < w.heap.size ∧ mb < w.heap.size) := ⟨h2, h.lt, h.2.lt⟩
  have HSM : Hid ((∀ p ∈ l, p.1.length ≤ 1000) ∧ hasB l n.data.toList = true) := ⟨hsm, hhas⟩
  have cL := liesIn_is t n W2 (by omega)
  clear h h2 hsm hhas
  cases hIN : inB t.data.toList n.data.toList with
  | true =>
    rw [hIN] at cL
    clear hIN
    go_enter Tryz.func130, Tryz.ntmps130
    go_wp2_with fail
    refine cL.mono ?_
    rintro e w1 ⟨rfl, hw⟩
    obtain rfl : W2 = w1 := hw.symm
    clear hw cL
    go_wp2_with fail
    go_ret
    exact Or.inl ⟨by first | rfl | trivial, rfl, HB2.out.1⟩
  | false =>
    rw [hIN] at cL
    clear hIN
    obtain ⟨NS, hNS⟩ : ∃ x, mvNames l n.data.toList = x := ⟨_, rfl⟩
    have HNS : Hid (mvNames l n.data.toList = NS) := hNS
    rw [hNS]
    obtain ⟨AN, hAN⟩ : ∃ b, (NS.any fun x => decide (60 < (calledB t.data.toList n.data.toList x).length)) = b := ⟨_, rfl⟩
    have HAN : Hid ((NS.any fun x => decide (60 < (calledB t.data.toList n.data.toList x).length)) = AN) := hAN
    rw [hAN]
    obtain ⟨LN, hLN⟩ : ∃ m, (lackB l t.data.toList).length = m := ⟨_, rfl⟩
    have HLN : Hid ((lackB l t.data.toList).length = LN) := hLN
    rw [hLN]
    clear hAN hLN
    obtain ⟨LL, hLL⟩ : ∃ m, (withinB l n.data.toList).length = m := ⟨_, rfl⟩
    obtain ⟨XS, hXS⟩ : ∃ x, (withinB l n.data.toList).map encStr = x := ⟨_, rfl⟩
    have HLL : Hid ((withinB l n.data.toList).length = LL ∧ (withinB l n.data.toList).map encStr = XS) := ⟨hLL, hXS⟩
    have hLL1 : LL ≤ 100 := by
      rw [← hLL]
      unfold withinB
      refine Nat.le_trans (List.length_filter_le _ _) ?_
      unfold namesB
      rw [List.length_map]
      exact hl
    have HNL : Hid (NS.length = LL + 1 ∧ NS.map encStr = XS ++ [.string n]) := by
      rw [← hNS, ← hLL, ← hXS]
      unfold Hid mvNames
      refine ⟨by rw [List.length_append]; rfl, ?_⟩
      rw [List.map_append, List.map_cons, enc_ba]
      rfl
    clear hLL hXS hNS
    obtain ⟨WD, hWD⟩ : ∃ W, W2.drew = W := ⟨_, rfl⟩
    have HBD : Hid (Below W2.heap.size W2 WD) := by rw [← hWD]; exact (Below.refl _ _).drew
    have hzD : WD.heap.size = W2.heap.size := by rw [← hWD]; rfl
    obtain ⟨W8, hW8⟩ : ∃ W, WD.alloc (.cells #[.string n] 9) = W := ⟨_, rfl⟩
    have HB8 : Hid (Below W2.heap.size W2 W8 ∧ W8.heap.size = WD.heap.size + 1 ∧ W8.heap[WD.heap.size]? = some (.cells #[.string n] 9 (0, 0))) := by
      rw [← hW8]
      exact ⟨HBD.out.alloc HBD.out.size _, World.size_alloc _ _, heap_alloc_new _ _⟩
    have HK8 : Hid (W8.cell? ⟨w.heap.size, 0, none⟩ = some (.string n)) := rd_cell (rd_low HB8.out.1 HB2.out) rfl
    have HWI : Hid (∀ W, Below W2.heap.size W2 W → Calls Tryz.prog 128 #[.pointer (some ⟨hb, 0, none⟩), .string n] W fun e w' => (∃ v, e = .returned v ∧ NRow w' W.heap.size v (withinB l n.data.toList)) ∧ Below W.heap.size W w') := fun W hW => within_is hb mb l nx wv n W (HH.out.1.below hW (Nat.le_refl _)) (by omega) (by omega)
    clear hzD
    go_enter Tryz.func130, Tryz.ntmps130
    go_upto_region 3 with (refine cL.mono ?_; rintro e w1 ⟨rfl, hw⟩; obtain rfl : W2 = w1 := hw.symm; clear hw cL)
    go_cut [7] (fun nv wx => ∃ g cap, nv = .slice (some ⟨g, 0, none⟩) (LL + 1) cap ∧ Hid (wx.ownsRow W2.heap.size 9 1 (.slice (some ⟨g, 0, none⟩) (LL + 1) cap) (LL + 1) (XS ++ [.string n]) ∧ Below W2.heap.size W2 wx))
    case first =>
      refine wp_region_held_drew (S := fun W => W.cell? ⟨w.heap.size, 0, none⟩ = some (.string n)) (by kernel_rfl) ?_ (fun hHeld => ?_)
      · simpa using cn
      rw [hWD] at hHeld ⊢
      refine wpAnyH_take (i := 0) (v := ?_) rfl (by kernel_rfl) (by kernel_rfl) (by kernel_rfl) (fun _ _ _ h => h) (Or.inl ⟨by rfl, ?_⟩) (by first | assumption | trivial) ?_
      rotate_left
      · intro w hSw; go_simp; (try with_reducible rfl)
      change wpAnyH _ _ _ _ _ _ _ (Act.put _ (some 16) _) _; simp only [Act.put, List.setIfInBounds_toArray, List.set_cons_zero, List.set_cons_succ]
      refine wpAnyH_take (i := 1) (v := ?_) rfl (by kernel_rfl) (by kernel_rfl) (by kernel_rfl) (fun _ _ _ h => h) (Or.inl ⟨by rfl, ?_⟩) (by first | assumption | trivial) ?_
      rotate_left
      · intro w hSw; go_simp; (try with_reducible rfl)
      change wpAnyH _ _ _ _ _ _ _ (Act.put _ (some 17) _) _; simp only [Act.put, List.setIfInBounds_toArray, List.set_cons_zero, List.set_cons_succ]
      refine wpAnyH_take (i := 3) (v := ?_) rfl (by kernel_rfl) (by kernel_rfl) (by kernel_rfl) (fun _ _ _ h => h) (Or.inl ⟨by rfl, ?_⟩) (by first | assumption | trivial) ?_
      rotate_left
      · intro w hSw; go_simp; (try with_reducible rfl)
      change wpAnyH _ _ _ _ _ _ _ (Act.put _ (some 19) _) _; simp only [Act.put, List.setIfInBounds_toArray, List.set_cons_zero, List.set_cons_succ]
      refine wpAnyH_ready (rs := [2, 4]) (by kernel_rfl) (by simp) ?_
      refine AllReadyH.cons rfl (fun K hK => ?_) ?_
      · go_simp
        refine (HWI.out WD HBD.out).mono ?_
        rintro e w3 ⟨⟨v3, rfl, hrow3⟩, hb3⟩
        unfold NRow at hrow3
        rw [HLL.out.1, HLL.out.2] at hrow3
        obtain ⟨oa, oc, rfl⟩ := row_form hrow3
        have k3 : w3.cell? ⟨w.heap.size, 0, none⟩ = some (.string n) := rd_cell ((hb3.block _ (by have := HB2.out.2.1; have := HBD.out.size; omega)).trans (rd_low HBD.out HB2.out)) rfl
        have b5 : Below w3.heap.size w3 (w3.alloc (.cells #[.string n] 9)) := (Below.refl _ _).alloc (Nat.le_refl _) _
        have e5 := heap_alloc_new w3 (.cells #[.string n] 9)
        obtain ⟨W5, hW5⟩ : ∃ W, w3.alloc (.cells #[.string n] 9) = W := ⟨_, rfl⟩
        rw [hW5] at b5 e5
        have k5 : W5.cell? ⟨w.heap.size, 0, none⟩ = some (.string n) := (b5.cell (p := ⟨w.heap.size, 0, none⟩) (by have := HB2.out.2.1; have := HBD.out.size; have := hb3.size; show w.heap.size < _; omega)).trans k3
        have en : W5.cell? ⟨w3.heap.size, 0, none⟩ = some (.string n) := rd_cell e5 rfl
        obtain ⟨g4, cap4, w4, hap, hown4, hg4⟩ := nrow_push (row_below b5 (Nat.le_refl _) hrow3) (by omega) n w3.heap.size en (Nat.le_trans hb3.size b5.size)
        have b4 : Below WD.heap.size WD w4 := (hb3.trans (b5.mono hb3.size)).grown hg4 (Nat.le_trans hb3.size b5.size) (fun j e => (hrow3.lt j e).1)
        have k4 : w4.cell? ⟨w.heap.size, 0, none⟩ = some (.string n) := rd_cell ((b4.block _ (by have := HB2.out.2.1; have := HBD.out.size; omega)).trans (rd_low HBD.out HB2.out)) rfl
        have HF : Hid (w4.ownsRow W2.heap.size 9 1 (.slice (some ⟨g4, 0, none⟩) (LL + 1) cap4) (LL + 1) (XS ++ [.string n]) ∧ Below W2.heap.size W2 w4) := ⟨ownsRow_base_a hown4 HBD.out.size, HBD.out.trans (b4.mono HBD.out.size)⟩
        clear hrow3 hb3 hown4 hg4 b4 b5 e5 en
        refine hK.out _ _ ?_ (fun hHeld => ?_)
        · exact k3
        clear hK K
        refine wpAnyH_ready (rs := [4]) (by kernel_rfl) (by simp) ?_
        refine AllReadyH.cons rfl (fun K hK => ?_) AllReadyH.nil
        go_simp
        refine hK.out _ _ ?_ (fun hHeld => ?_)
        · exact k5
        clear hK K
        refine wpAnyH_ready (rs := [5]) (by kernel_rfl) (by simp) ?_
        refine AllReadyH.cons rfl (fun K hK => ?_) AllReadyH.nil
        refine nstep_app rfl (.tmp 18) (.tmp 20) 22 rfl _ _ _ rfl rfl hap ?_
        refine hK.out _ _ ?_ (fun hHeld => ?_)
        · exact k4
        clear hK K
        refine wpAnyH_take (i := 6) (v := ?_) rfl (by kernel_rfl) (by kernel_rfl) (by kernel_rfl) (fun _ _ _ h => h) (Or.inl ⟨by rfl, ?_⟩) (by first | assumption | trivial) ?_
        rotate_left
        · intro w hSw; go_simp; (try with_reducible rfl)
        refine wpAnyH_done (by kernel_rfl) ?_ _
        clear hHeld k4 k3
        go_wp2_with fail
        go_meet
        exact ⟨g4, cap4, rfl, HF⟩
      refine AllReadyH.cons rfl (fun K hK => ?_) AllReadyH.nil
      go_simp
      refine hK.out _ _ ?_ (fun hHeld => ?_)
      · exact HK8.out
      clear hK K
      refine wpAnyH_ready (rs := [2]) (by kernel_rfl) (by simp) ?_
      refine AllReadyH.cons rfl (fun K hK => ?_) AllReadyH.nil
      go_simp
      refine (HWI.out W8 HB8.out.1).mono ?_
      rintro e w3 ⟨⟨v3, rfl, hrow3⟩, hb3⟩
      unfold NRow at hrow3
      rw [HLL.out.1, HLL.out.2] at hrow3
      obtain ⟨oa, oc, rfl⟩ := row_form hrow3
      have hz8 := HB8.out.2.2
      have e3 : w3.heap[w.heap.size]? = some (.cells #[.string n] 9 (0, 0)) := (hb3.block _ (by have := HB2.out.2.1; have := HBD.out.size; have := HB8.out.2.1; omega)).trans (rd_low HB8.out.1 HB2.out)
      have k3 : w3.cell? ⟨w.heap.size, 0, none⟩ = some (.string n) := rd_cell e3 rfl
      have en : w3.cell? ⟨WD.heap.size, 0, none⟩ = some (.string n) := rd_cell ((hb3.block _ (by have := HB8.out.2.1; omega)).trans HB8.out.2.2) rfl
      obtain ⟨g4, cap4, w4, hap, hown4, hg4⟩ := nrow_push hrow3 (by omega) n WD.heap.size en hb3.size
      have b4 : Below W8.heap.size W8 w4 := hb3.grown hg4 hb3.size (fun j e => (hrow3.lt j e).1)
      have k4 : w4.cell? ⟨w.heap.size, 0, none⟩ = some (.string n) := rd_cell ((b4.block _ (by have := HB2.out.2.1; have := HBD.out.size; have := HB8.out.2.1; omega)).trans (rd_low HB8.out.1 HB2.out)) rfl
      have HF : Hid (w4.ownsRow W2.heap.size 9 1 (.slice (some ⟨g4, 0, none⟩) (LL + 1) cap4) (LL + 1) (XS ++ [.string n]) ∧ Below W2.heap.size W2 w4) := ⟨ownsRow_base_a hown4 HB8.out.1.size, HB8.out.1.trans (b4.mono HB8.out.1.size)⟩
      clear hrow3 hb3 hown4 hg4 b4 e3 en hz8
      refine hK.out _ _ ?_ (fun hHeld => ?_)
      · exact k3
      clear hK K
      refine wpAnyH_ready (rs := [5]) (by kernel_rfl) (by simp) ?_
      refine AllReadyH.cons rfl (fun K hK => ?_) AllReadyH.nil
      refine nstep_app rfl (.tmp 18) (.tmp 20) 22 rfl _ _ _ rfl rfl hap ?_
      refine hK.out _ _ ?_ (fun hHeld => ?_)
      · exact k4
      clear hK K
      refine wpAnyH_take (i := 6) (v := ?_) rfl (by kernel_rfl) (by kernel_rfl) (by kernel_rfl) (fun _ _ _ h => h) (Or.inl ⟨by rfl, ?_⟩) (by first | assumption | trivial) ?_
      rotate_left
      · intro w hSw; go_simp; (try with_reducible rfl)
      refine wpAnyH_done (by kernel_rfl) ?_ _
      clear hHeld k4 k3
      go_wp2_with fail
      go_meet
      exact ⟨g4, cap4, rfl, HF⟩
    case rest =>
      obtain ⟨g4, cap4, rfl, HF⟩ := hcut
      rename World => W5
      clear HB8 HK8 HWI hW8 hWD HBD W8 WD
      obtain ⟨TN, hTN⟩ : ∃ x, t.data.toList = x := ⟨_, rfl⟩
      have b6 : Below W5.heap.size W5 (W5.alloc (.cells #[(.func (.func 183) #[] #[.pointer (some ⟨w.heap.size + 1, 0, none⟩), .pointer (some ⟨w.heap.size, 0, none⟩)])] 153)) := (Below.refl _ _).alloc (Nat.le_refl _) _
      have e6 := heap_alloc_new W5 (.cells #[(.func (.func 183) #[] #[.pointer (some ⟨w.heap.size + 1, 0, none⟩), .pointer (some ⟨w.heap.size, 0, none⟩)])] 153)
      have hst := store_new W5 153 183 #[.pointer (some ⟨w.heap.size + 1, 0, none⟩), .pointer (some ⟨w.heap.size, 0, none⟩)] Tryz.prog
      obtain ⟨W6, hW6⟩ : ∃ W, W5.alloc (.cells #[(.func (.func 183) #[] #[.pointer (some ⟨w.heap.size + 1, 0, none⟩), .pointer (some ⟨w.heap.size, 0, none⟩)])] 153) = W := ⟨_, rfl⟩
      rw [hW6] at b6 e6 hst
      have h5 := HH.out.1.below HF.out.2 (Nat.le_refl _)
      have h6 := h5.below b6 (Nat.le_refl _)
      have hz5 := HF.out.2.size
      have hEnv : MvEnv W6 w.heap.size W5.heap.size W2.heap.size n t (.func (.func 183) #[] #[.pointer (some ⟨w.heap.size + 1, 0, none⟩), .pointer (some ⟨w.heap.size, 0, none⟩)]) (.slice (some ⟨g4, 0, none⟩) (LL + 1) cap4) NS := by
        refine ⟨(b6.block _ (by have := HB2.out.2.1; omega)).trans (rd_low HF.out.2 HB2.out), (b6.block _ (by have := HB2.out.2.1; omega)).trans (rd_low1 HF.out.2 HB2.out), e6, ?_⟩
        unfold NRow
        rw [HNL.out.1, HNL.out.2]
        exact row_below b6 (Nat.le_refl _) HF.out.1
      have hshort : ∀ x ∈ NS, x.length ≤ 1000 := by rw [← HNS.out]; exact mvNames_short HSM.out.1 HSM.out.2
      have cA := any_long W5.heap.size W2.heap.size n t (.slice (some ⟨g4, 0, none⟩) (LL + 1) cap4) NS W6 w.heap.size hEnv (by rw [HNL.out.1]; omega) hshort (by omega)
      have HB6 : Hid (Below w.heap.size w W6 ∧ HsAt W6 hb mb l nx wv ∧ MvEnv W6 w.heap.size W5.heap.size W2.heap.size n t (.func (.func 183) #[] #[.pointer (some ⟨w.heap.size + 1, 0, none⟩), .pointer (some ⟨w.heap.size, 0, none⟩)]) (.slice (some ⟨g4, 0, none⟩) (LL + 1) cap4) NS) := ⟨HB2.out.1.trans ((HF.out.2.trans (b6.mono hz5)).mono (by have := HB2.out.2.1; omega)), h6, hEnv⟩
      obtain ⟨FB, hFB⟩ : ∃ k, W5.heap.size = k := ⟨_, rfl⟩
      have ct6 : W6.cell? ⟨w.heap.size + 1, 0, none⟩ = some (.string t) := rd_cell hEnv.2.1 rfl
      rw [HAN.out, hFB] at cA
      rw [hFB] at hst HB6
      clear hshort h5 h6 hEnv b6 e6 hTN hW6
      rcases Bool.eq_false_or_eq_true AN with hA | hA
      · rw [hA] at cA
        have HA : Hid (AN = true) := hA
        clear hA
        go_wp2_with fail
        refine cA.mono ?_
        rintro e w7 ⟨rfl, q, hq⟩
        have HB7 : Hid (Below w.heap.size w w7) := by rw [hq]; exact below_drewN HB6.out.1 q
        clear hq cA
        go_wp2_with fail
        go_ret
        exact Or.inr (Or.inl ⟨by first | rfl | trivial, HA.out, rfl, HB7.out⟩)
      · rw [hA] at cA
        have HA : Hid (AN = false) := hA
        clear hA
        go_wp2_with fail
        refine cA.mono ?_
        rintro e w7 ⟨rfl, q, hq⟩
        have b7 : Below W6.heap.size W6 w7 := by rw [hq]; exact below_drewN (Below.refl _ _) q
        have h7 := HB6.out.2.1.below b7 (Nat.le_refl _)
        have env7 := HB6.out.2.2.hk HB6.out.2.1 (HK.of b7)
        have cK := lacking_is hb mb l nx wv t w7 h7 (by omega)
        have HB7 : Hid (Below w.heap.size w w7 ∧ HsAt w7 hb mb l nx wv ∧ MvEnv w7 w.heap.size FB W2.heap.size n t (.func (.func 183) #[] #[.pointer (some ⟨w.heap.size + 1, 0, none⟩), .pointer (some ⟨w.heap.size, 0, none⟩)]) (.slice (some ⟨g4, 0, none⟩) (LL + 1) cap4) NS) := ⟨HB6.out.1.trans (b7.mono HB6.out.1.size), h7, env7⟩
        have ct7 : w7.cell? ⟨w.heap.size + 1, 0, none⟩ = some (.string t) := rd_cell env7.2.1 rfl
        clear hq cA HB6 b7 h7 env7 ct6
        go_wp2_with fail
        refine cK.mono ?_
        rintro e w8 ⟨⟨v8, rfl, hrow8⟩, hb8⟩
        have hrow9 := hrow8
        unfold NRow at hrow9
        rw [HLN.out] at hrow9
        obtain ⟨va, vc, rfl⟩ := row_form hrow9
        clear hrow9
        have h8 := HB7.out.2.1.below hb8 (Nat.le_refl _)
        have hll : (lackB l t.data.toList).length ≤ 60 := by
          have h1 := lackTo_len l t.data.toList t.data.toList.length
          have h2 : t.data.toList.length = t.size := by rw [Array.length_toList]; rfl
          unfold lackB
          omega
        have cB := build_is hb mb w7.heap.size l nx wv (.slice va LN vc) (lackB l t.data.toList) w8 h8 hrow8 (fun m hm => by
          have h1 := lack_short hm
          have h2 : t.data.toList.length = t.size := by rw [Array.length_toList]; rfl
          omega) hl (by omega) hn
        have HB8 : Hid (Below w.heap.size w w8 ∧ HsAt w8 hb mb l nx wv ∧ MvEnv w8 w.heap.size FB W2.heap.size n t (.func (.func 183) #[] #[.pointer (some ⟨w.heap.size + 1, 0, none⟩), .pointer (some ⟨w.heap.size, 0, none⟩)]) (.slice (some ⟨g4, 0, none⟩) (LL + 1) cap4) NS) := ⟨HB7.out.1.trans (hb8.mono HB7.out.1.size), h8, HB7.out.2.2.hk HB7.out.2.1 (HK.of hb8)⟩
        rw [HLN.out] at cB hll
        clear hrow8 hb8 h8 cK HB7 ct7
        go_wp2_with fail
        refine cB.mono ?_
        rintro e w9 (⟨q1, rfl, hw⟩ | ⟨q1, rfl, q2, ps, q3, q4⟩)
        · obtain rfl : w8 = w9 := hw.symm
          clear hw cB
          go_wp2_with fail
          go_ret
          exact Or.inr (Or.inr (Or.inl ⟨by first | rfl | trivial, HA.out, q1, rfl, HB8.out.1⟩))
        · have HB9 : Hid (HK hb mb w w9 ∧ Built w.heap.size w9 nx (lackB l t.data.toList) ps ∧ HsAt w9 hb mb (putAll l ps) (nx + (LN : Int)) wv ∧ MvEnv w9 w.heap.size FB W2.heap.size n t (.func (.func 183) #[] #[.pointer (some ⟨w.heap.size + 1, 0, none⟩), .pointer (some ⟨w.heap.size, 0, none⟩)]) (.slice (some ⟨g4, 0, none⟩) (LL + 1) cap4) NS) :=
            ⟨(HK.of HB8.out.1).trans q2, ⟨q3.1, fun j p hj => ⟨Nat.le_trans HB8.out.1.size (q3.2.1 j p hj).1, (q3.2.1 j p hj).2⟩, q3.2.2⟩, q4, HB8.out.2.2.hk HB8.out.2.1 q2⟩
          have HPS : Hid (ps.length = LN ∧ LL ≤ 100 ∧ LN ≤ 60) := by
            refine ⟨?_, hLL1, hll⟩
            have e1 := congrArg List.length q3.1
            rw [List.length_map] at e1
            have e2 := HLN.out
            omega
          clear q2 q3 q4 cB HB8
          go_wp2_with fail
          go_loopw [37] (fun iv wr => ∃ k : Nat, iv = .int .i64 (k : Int) ∧ k ≤ LL + 1 ∧ Hid (HK hb mb w9 wr ∧ HsAt wr hb mb (mvAll t.data.toList n.data.toList (NS.take k) (putAll l ps)) (nx + (LN : Int)) wv)) (fun iv _ => LL + 1 - (intOf iv).toNat)
          case atStart => exact ⟨0, rfl, Nat.zero_le _, HK.refl _ _ _, HB9.out.2.2.1⟩
          case round =>
            obtain ⟨k, rfl, hk, HI⟩ := hrel
            by_cases hlt : k < LL + 1
            · have d1 : decide ((k : Int) < (LL : Int) + 1) = true := decide_eq_true (by omega)
              have i1 : (0 : Int) ≤ (k : Int) := by omega
              have i2 : (k : Int) < (LL : Int) + 1 := by omega
              obtain ⟨x, hxk⟩ : ∃ x, NS[k]? = some x := ⟨_, List.getElem?_eq_getElem (by have := HNL.out.1; omega)⟩
              obtain ⟨hk0, hS⟩ := HI.out
              have hE := HB9.out.2.2.2.hk HB9.out.2.2.1 hk0
              obtain ⟨g', cap', hvg, hcg0⟩ := nrow_at hE.2.2.2 hxk
              injection hvg with hva hvb hvc
              injection hva with hva
              injection hva with hva hva2 hva3
              subst hva
              clear hvb hvc hva2 hva3
              have hcg : wr.cell? ⟨g4, k, none⟩ = some (.string ⟨x.toArray⟩) := hcg0
              have hxs : x.length ≤ 1000 := by
                have hm := List.mem_of_getElem? hxk
                rw [← HNS.out] at hm
                exact mvNames_short HSM.out.1 HSM.out.2 x hm
              have hxz : (⟨x.toArray⟩ : ByteArray).size ≤ 1000 := by show x.toArray.size ≤ _; rw [List.size_toArray]; exact hxs
              have hcl : (mvAll t.data.toList n.data.toList (NS.take k) (putAll l ps)).length ≤ 900 := by
                have h1 := mvAll_len (t := t.data.toList) (n := n.data.toList) (NS.take k) (putAll l ps)
                have h2 := putAll_len l LN ps HPS.out.1
                have h3 : (NS.take k).length ≤ k := by rw [List.length_take]; omega
                have h4 := HPS.out
                omega
              have hin : hasB (mvAll t.data.toList n.data.toList (NS.take k) (putAll l ps)) x = true := by
                refine mvAll_has _ _ (putAll_sorted ps l HH.out.1.2.sorted) (putAll_has ps l HH.out.1.2.sorted ?_) ?_
                · have hm := List.mem_of_getElem? hxk
                  rw [← HNS.out] at hm
                  exact mvNames_has HSM.out.2 hm
                · exact take_not (by rw [← HNS.out]; exact mvNames_nodup HH.out.1.2.sorted _) hxk
              obtain ⟨b, hlb, hbm⟩ := lookB_some hin
              obtain ⟨C, hC⟩ : ∃ C, mvAll t.data.toList n.data.toList (NS.take k) (putAll l ps) = C := ⟨_, rfl⟩
              have HNXT : Hid (mvAll t.data.toList n.data.toList (NS.take (k + 1)) (putAll l ps) = delB (putB (calledB t.data.toList n.data.toList x) b C) x) := by
                unfold Hid
                rw [mvAll_next hxk, hC]
                unfold mvStep
                rw [← hC, hlb]
              rw [hC] at hS hcl hin hbm
              obtain ⟨WQ, hWQ⟩ : ∃ W, wr.drew = W := ⟨_, rfl⟩
              have bQ : Below wr.heap.size wr WQ := by rw [← hWQ]; exact (Below.refl _ _).drew
              obtain ⟨WE, hWE⟩ : ∃ W, WQ.drew = W := ⟨_, rfl⟩
              have bE : Below wr.heap.size wr WE := by rw [← hWE]; exact bQ.drew
              have hSQ := hS.below bQ (Nat.le_refl _)
              have hSE := hS.below bE (Nat.le_refl _)
              have eQ := hE.hk hS (HK.of bQ)
              have eE := hE.hk hS (HK.of bE)
              have hlk1 := mp_look hSQ.2 ⟨x.toArray⟩ (by omega) (b := b) hbm
              have hlk2 := mp_look hSE.2 ⟨x.toArray⟩ (by omega) (b := b) hbm
              obtain ⟨Y, hY⟩ : ∃ y : ByteArray, ⟨(calledB t.data.toList n.data.toList x).toArray⟩ = y := ⟨_, rfl⟩
              have hYl : Y.data.toList = calledB t.data.toList n.data.toList x := by rw [← hY]
              have hYz : Y.size ≤ 5000 := by
                rw [← hY]
                show (calledB t.data.toList n.data.toList x).toArray.size ≤ _
                rw [List.size_toArray]
                unfold calledB
                rw [List.length_append]
                have h1 := trim_len x n.data.toList
                have h2 : t.data.toList.length = t.size := by rw [Array.length_toList]; rfl
                omega
              have cC := move1_is ⟨x.toArray⟩ t n (w.heap.size + 1) w.heap.size WQ (rd_cell eQ.2.1 rfl) (rd_cell eQ.1 rfl) (by omega) (by omega)
              rw [show (⟨(calledB t.data.toList n.data.toList (⟨x.toArray⟩ : ByteArray).data.toList).toArray⟩ : ByteArray) = Y from hY] at cC
              obtain ⟨W9, hput, hm9, ht9⟩ := mp_put hSE.2 Y (by omega) (by omega) b
              have hh9 := ((turned_but ht9).block hb hSE.lt hSE.ne).trans hSE.1
              have hS9 : HsAt W9 hb mb (putB Y.data.toList b C) (nx + (LN : Int)) wv := ⟨hh9, hm9⟩
              have e9 := eE.hk hSE (HK.turned ht9)
              obtain ⟨WX, hdel, hmX, htX⟩ := mp_del hS9.2 ⟨x.toArray⟩ (by omega) 0
              have hSX : HsAt WX hb mb (delB (putB Y.data.toList b C) x) (nx + (LN : Int)) wv := ⟨((turned_but htX).block hb hS9.lt hS9.ne).trans hS9.1, hmX⟩
              have HN : Hid (HK hb mb w9 WX ∧ HsAt WX hb mb (mvAll t.data.toList n.data.toList (NS.take (k + 1)) (putAll l ps)) (nx + (LN : Int)) wv) := by
                refine ⟨hk0.trans (((HK.of bE).trans (HK.turned ht9)).trans (HK.turned htX)), ?_⟩
                rw [HNXT.out, ← hYl]
                exact hSX
              have m0 := hS.cell.1
              have m1 : wr.cell? ⟨FB, 0, none⟩ = some (.func (.func 183) #[] #[.pointer (some ⟨w.heap.size + 1, 0, none⟩), .pointer (some ⟨w.heap.size, 0, none⟩)]) := rd_cell hE.2.2.1 rfl
              have n0 := hSE.cell.1
              have n1 : WE.cell? ⟨FB, 0, none⟩ = some (.func (.func 183) #[] #[.pointer (some ⟨w.heap.size + 1, 0, none⟩), .pointer (some ⟨w.heap.size, 0, none⟩)]) := rd_cell eE.2.2.1 rfl
              have p0 : W9.cell? ⟨hb, 0, none⟩ = some (.map (some mb)) := hS9.cell.1
              have p1 : W9.cell? ⟨FB, 0, none⟩ = some (.func (.func 183) #[] #[.pointer (some ⟨w.heap.size + 1, 0, none⟩), .pointer (some ⟨w.heap.size, 0, none⟩)]) := rd_cell e9.2.2.1 rfl
              clear hk0 hS hE hcg0 hin hlb hbm hC HNXT bQ bE hSQ hSE eQ eE hY hYl hm9 ht9 hh9 hS9 e9 hmX htX hSX HI hcl
              go_upto_region 13 with fail
              refine wp_region_held_drew (S := fun W => W.cell? ⟨hb, 0, none⟩ = some (.map (some mb)) ∧ W.cell? ⟨FB, 0, none⟩ = some (.func (.func 183) #[] #[.pointer (some ⟨w.heap.size + 1, 0, none⟩), .pointer (some ⟨w.heap.size, 0, none⟩)])) (by kernel_rfl) ?_ (fun hHeld => ?_)
              · exact ⟨by simpa using m0, by simpa using m1⟩
              rw [hWQ] at hHeld ⊢
              refine wpAnyH_take (i := 0) (v := ?_) rfl (by kernel_rfl) (by kernel_rfl) (by kernel_rfl) (fun _ _ _ h => h) (Or.inl ⟨by rfl, ?_⟩) (by first | assumption | trivial) ?_
              rotate_left
              · intro w hSw; go_simp; (try with_reducible rfl)
              change wpAnyH _ _ _ _ _ _ _ (Act.put _ (some 41) _) _; simp only [Act.put, List.setIfInBounds_toArray, List.set_cons_zero, List.set_cons_succ]
              refine wpAnyH_take (i := 1) (v := ?_) rfl (by kernel_rfl) (by kernel_rfl) (by kernel_rfl) (fun _ _ _ h => h) (Or.inl ⟨by rfl, ?_⟩) (by first | assumption | trivial) ?_
              rotate_left
              · intro w hSw; go_simp; (try with_reducible rfl)
              change wpAnyH _ _ _ _ _ _ _ (Act.put _ (some 42) _) _; simp only [Act.put, List.setIfInBounds_toArray, List.set_cons_zero, List.set_cons_succ]
              refine wpAnyH_take (i := 2) (v := ?_) rfl (by kernel_rfl) (by kernel_rfl) (by kernel_rfl) (fun _ _ _ h => h) (Or.inl ⟨by rfl, ?_⟩) (by first | assumption | trivial) ?_
              rotate_left
              · intro w hSw; go_simp; (try with_reducible rfl)
              change wpAnyH _ _ _ _ _ _ _ (Act.put _ (some 43) _) _; simp only [Act.put, List.setIfInBounds_toArray, List.set_cons_zero, List.set_cons_succ]
              refine wpAnyH_take (i := 3) (v := ?_) rfl (by kernel_rfl) (by kernel_rfl) (by kernel_rfl) (fun _ _ _ h => h) (Or.inl ⟨by rfl, ?_⟩) (by first | assumption | trivial) ?_
              rotate_left
              · intro w hSw; go_simp; (try with_reducible rfl)
              change wpAnyH _ _ _ _ _ _ _ (Act.put _ (some 44) _) _; simp only [Act.put, List.setIfInBounds_toArray, List.set_cons_zero, List.set_cons_succ]
              refine wpAnyH_take (i := 4) (v := ?_) rfl (by kernel_rfl) (by kernel_rfl) (by kernel_rfl) (fun _ _ _ h => h) (Or.inl ⟨by rfl, ?_⟩) (by first | assumption | trivial) ?_
              rotate_left
              · intro w hSw; go_simp; (try with_reducible rfl)
              change wpAnyH _ _ _ _ _ _ _ (Act.put _ (some 45) _) _; simp only [Act.put, List.setIfInBounds_toArray, List.set_cons_zero, List.set_cons_succ]
              refine wpAnyH_take (i := 5) (v := ?_) rfl (by kernel_rfl) (by kernel_rfl) (by kernel_rfl) (fun _ _ _ h => h) (Or.inl ⟨by rfl, ?_⟩) (by first | assumption | trivial) ?_
              rotate_left
              · intro w hSw; go_simp; (try with_reducible rfl)
              change wpAnyH _ _ _ _ _ _ _ (Act.put _ (some 46) _) _; simp only [Act.put, List.setIfInBounds_toArray, List.set_cons_zero, List.set_cons_succ]
              refine wpAnyH_take (i := 7) (v := ?_) rfl (by kernel_rfl) (by kernel_rfl) (by kernel_rfl) (fun _ _ _ h => h) (Or.inl ⟨by rfl, ?_⟩) (by first | assumption | trivial) ?_
              rotate_left
              · intro w hSw; go_simp; (try with_reducible rfl)
              change wpAnyH _ _ _ _ _ _ _ (Act.put _ (some 48) _) _; simp only [Act.put, List.setIfInBounds_toArray, List.set_cons_zero, List.set_cons_succ]
              refine wpAnyH_take (i := 8) (v := ?_) rfl (by kernel_rfl) (by kernel_rfl) (by kernel_rfl) (fun _ _ _ h => h) (Or.inl ⟨by rfl, ?_⟩) (by first | assumption | trivial) ?_
              rotate_left
              · intro w hSw; go_simp; (try with_reducible rfl)
              change wpAnyH _ _ _ _ _ _ _ (Act.put _ (some 49) _) _; simp only [Act.put, List.setIfInBounds_toArray, List.set_cons_zero, List.set_cons_succ]
              refine wpAnyH_take (i := 9) (v := ?_) rfl (by kernel_rfl) (by kernel_rfl) (by kernel_rfl) (fun _ _ _ h => h) (Or.inl ⟨by rfl, ?_⟩) (by first | assumption | trivial) ?_
              rotate_left
              · intro w hSw; go_simp; (try with_reducible rfl)
              change wpAnyH _ _ _ _ _ _ _ (Act.put _ (some 50) _) _; simp only [Act.put, List.setIfInBounds_toArray, List.set_cons_zero, List.set_cons_succ]
              refine wpAnyH_take (i := 10) (v := ?_) rfl (by kernel_rfl) (by kernel_rfl) (by kernel_rfl) (fun _ _ _ h => h) (Or.inl ⟨by rfl, ?_⟩) (by first | assumption | trivial) ?_
              rotate_left
              · intro w hSw; go_simp; (try with_reducible rfl)
              change wpAnyH _ _ _ _ _ _ _ (Act.put _ (some 51) _) _; simp only [Act.put, List.setIfInBounds_toArray, List.set_cons_zero, List.set_cons_succ]
              refine wpAnyH_take (i := 11) (v := ?_) rfl (by kernel_rfl) (by kernel_rfl) (by kernel_rfl) (fun _ _ _ h => h) (Or.inl ⟨by rfl, ?_⟩) (by first | assumption | trivial) ?_
              rotate_left
              · intro w hSw; go_simp; (try with_reducible rfl)
              change wpAnyH _ _ _ _ _ _ _ (Act.put _ (some 52) _) _; simp only [Act.put, List.setIfInBounds_toArray, List.set_cons_zero, List.set_cons_succ]
              refine wpAnyH_ready (rs := [6, 12]) (by kernel_rfl) (by simp) ?_
              refine AllReadyH.cons rfl (fun K hK => ?_) ?_
              · go_simp
                refine cC.mono ?_
                rintro e w7 ⟨rfl, hw⟩
                rw [hWE] at hw
                obtain rfl : WE = w7 := hw.symm
                clear hw cC
                refine hK.out _ _ ?_ (fun hHeld => ?_)
                · exact ⟨n0, n1⟩
                clear hK K
                refine wpAnyH_ready (rs := [12]) (by kernel_rfl) (by simp) ?_
                refine AllReadyH.cons rfl (fun K hK => ?_) AllReadyH.nil
                go_simp
                refine hK.out _ _ ?_ (fun hHeld => ?_)
                · exact hHeld
                clear hK K
                refine wpAnyH_ready (rs := [13]) (by kernel_rfl) (by simp) ?_
                refine AllReadyH.cons rfl (fun K hK => ?_) AllReadyH.nil
                go_simp
                refine hK.out _ _ ?_ (fun hHeld => ?_)
                · exact ⟨p0, p1⟩
                clear hK K
                refine wpAnyH_done (by kernel_rfl) ?_ _
                clear hHeld n0 n1 m0 m1 hlk1 hlk2 hput
                go_wp2_with fail
                go_roundw
                case rel => exact ⟨k + 1, by go_num, by omega, HN⟩
                case measure => simp [intOf]; omega
              refine AllReadyH.cons rfl (fun K hK => ?_) AllReadyH.nil
              go_simp
              refine hK.out _ _ ?_ (fun hHeld => ?_)
              · exact hHeld
              clear hK K
              refine wpAnyH_ready (rs := [6]) (by kernel_rfl) (by simp) ?_
              refine AllReadyH.cons rfl (fun K hK => ?_) AllReadyH.nil
              go_simp
              refine cC.mono ?_
              rintro e w7 ⟨rfl, hw⟩
              rw [hWE] at hw
              obtain rfl : WE = w7 := hw.symm
              clear hw cC
              refine hK.out _ _ ?_ (fun hHeld => ?_)
              · exact ⟨n0, n1⟩
              clear hK K
              refine wpAnyH_ready (rs := [13]) (by kernel_rfl) (by simp) ?_
              refine AllReadyH.cons rfl (fun K hK => ?_) AllReadyH.nil
              go_simp
              refine hK.out _ _ ?_ (fun hHeld => ?_)
              · exact ⟨p0, p1⟩
              clear hK K
              refine wpAnyH_done (by kernel_rfl) ?_ _
              clear hHeld n0 n1 m0 m1 hlk1 hlk2 hput
              go_wp2_with fail
              go_roundw
              case rel => exact ⟨k + 1, by go_num, by omega, HN⟩
              case measure => simp [intOf]; omega
            · have d1 : decide ((k : Int) < (LL : Int) + 1) = false := decide_eq_false (by omega)
              obtain rfl : k = LL + 1 := by omega
              have HFIN : Hid (HK hb mb w wr ∧ ∃ ps, Built w.heap.size wr nx (lackB l t.data.toList) ps ∧ HsAt wr hb mb (mvAll t.data.toList n.data.toList NS (putAll l ps)) (nx + (LN : Int)) wv) := by
                obtain ⟨q1, q2⟩ := HI.out
                rw [List.take_of_length_le (by have := HNL.out.1; omega)] at q2
                exact ⟨HB9.out.1.trans q1, ps, HB9.out.2.1.hk HB9.out.2.2.1 q1, q2⟩
              clear HI
              go_wp2_with fail
              go_ret
              exact Or.inr (Or.inr (Or.inr ⟨by first | rfl | trivial, HA.out, q1, rfl, HFIN.out.1, HFIN.out.2⟩))
end Go.Proofs.YtdmplfflmdanlaaGreatDoor
