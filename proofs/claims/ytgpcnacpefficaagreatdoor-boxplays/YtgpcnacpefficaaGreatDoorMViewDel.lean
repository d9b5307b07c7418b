/-
  Sights that go: slices.IndexFunc and slices.DeleteFunc over sights.
-/
import Derived.Test.YtgpcnacpefficaaGreatDoorBpFlagsOr
import Derived.Laws.IdiomCopy
namespace Go.Proofs.YtgpcnacpefficaaGreatDoor
open Go.RowKit Go.Proofs.Aid Go.Proofs.Bx

set_option maxHeartbeats 1000000 in
/-- Whether one is gone. -/
theorem gone1_is (BB : Nat) (vv nn u : Int) (fv : Value) (l : List Lt) (w : World) (h : BoxAt w BB vv nn l) (hr : Rise l) (hl : l.length ≤ 1000) (hf : ∃ a n c, fv = .slice a n c) :
    Calls Tryz.prog 70 #[.agg #[.int .i64 u, fv], .pointer (some ⟨BB, 0, none⟩)] w fun e w' => e = .returned (.bool (!findB l u)) ∧ Below w.heap.size w w' := by
  obtain ⟨fa, fn, fc, rfl⟩ := hf
  have b1 : Below w.heap.size w (w.alloc (.cells #[.int .i64 u, .slice fa fn fc] 86)) := (Below.refl _ _).alloc (Nat.le_refl _) _
  have cF := find_is BB vv nn u l _ (h.below b1 (Nat.le_refl _)) hr hl
  obtain ⟨FI, hFI⟩ : ∃ C, findI l u = C := ⟨_, rfl⟩
  obtain ⟨FB, hFB⟩ : ∃ C, findB l u = C := ⟨_, rfl⟩
  rw [hFI, hFB] at cF
  rw [hFB]
  have HB1 : Hid (Below w.heap.size w (w.alloc (.cells #[.int .i64 u, .slice fa fn fc] 86))) := b1
  clear h hFI hFB b1
  go_enter Tryz.func70, Tryz.ntmps70
  go_wp2_with fail
  refine cF.mono ?_
  rintro e w1 ⟨rfl, hb⟩
  have HB : Hid (Below w.heap.size w w1) := HB1.out.trans (hb.mono (by simp))
  clear cF hb
  go_wp2_with fail
  go_ret
  exact ⟨rfl, HB.out⟩
/-- What says of a sight whether it goes, as long as nothing but block g is changed. -/
def Goes (f : FuncId) (caps : List Value) (g : Nat) (p : Int → Bool) (w : World) : Prop :=
  ∀ W, But w.heap.size g w W → w.heap.size ≤ W.heap.size → ∀ (u : Int) (fa : Option Addr) (fn fc : Nat), Calls Tryz.prog f (Value.agg #[.int .i64 u, .slice fa fn fc] :: caps).toArray W fun e w' => e = .returned (.bool (p u)) ∧ Below W.heap.size W w'
def idxS (p : Int → Bool) (S : List Sg) : Nat := (S.takeWhile fun s => !p s.uid).length
def keepS (p : Int → Bool) (S : List Sg) : List Sg := S.filter fun s => !p s.uid
theorem idxS_at (p : Int → Bool) : ∀ {S : List Sg} {k : Nat}, (∀ j s, S[j]? = some s → j < k → p s.uid = false) → k ≤ S.length → (∀ s, S[k]? = some s → p s.uid = true) → idxS p S = k
  | [], k, _, hk, _ => by
    have : k = 0 := by simpa using hk
    subst this
    rfl
  | x :: S, 0, _, _, h2 => by
    have := h2 x (by simp)
    unfold idxS
    rw [List.takeWhile_cons_of_neg (by simp [this])]
    rfl
  | x :: S, k + 1, h1, hk, h2 => by
    have h0 := h1 0 x (by simp) (by omega)
    unfold idxS
    rw [List.takeWhile_cons_of_pos (by simp [h0]), List.length_cons]
    have := idxS_at p (S := S) (k := k) (fun j s hs hj => h1 (j + 1) s (by simpa using hs) (by omega)) (by simpa using hk) (fun s hs => h2 s (by simpa using hs))
    unfold idxS at this
    rw [this]
theorem keepS_next {p : Int → Bool} {S : List Sg} {k : Nat} {s : Sg} (h : S[k]? = some s) : keepS p (S.take (k + 1)) = keepS p (S.take k) ++ (if p s.uid = true then [] else [s]) := by
  unfold keepS
  rw [List.take_add_one, h]
  show List.filter _ (S.take k ++ [s]) = _
  rw [List.filter_append]
  cases hb : p s.uid <;> simp [List.filter, hb]
theorem keepS_all {p : Int → Bool} {S : List Sg} (h : ∀ s ∈ S, p s.uid = false) : keepS p S = S := by
  unfold keepS
  rw [List.filter_eq_self]
  intro s hs
  simp [h s hs]
set_option maxHeartbeats 2000000 in
set_option maxRecDepth 100000 in
theorem index_is (f : FuncId) (caps : List Value) (g : Nat) (p : Int → Bool) (v : Value) (S : List Sg) (w : World) (h : Sgs w v S) (hS : S.length ≤ 900) (eg : ∀ args w, (callFunc f args).run Tryz.prog w = .ok (.enter f args) w) (hp : Goes f caps g p w) :
    Calls Tryz.prog 87 #[v, .func (.func f) #[] caps.toArray] w fun e w' => e = .returned (.int .i64 (if idxS p S < S.length then (idxS p S : Int) else -1)) ∧ Below w.heap.size w w' := by
  obtain ⟨a, c, rfl⟩ := sgs_form h
  obtain ⟨N, hN⟩ : ∃ N, S.length = N := ⟨_, rfl⟩
  have HN : Hid (S.length = N) := hN
  rw [hN] at hS h ⊢
  have HH : Hid (Sgs w (.slice a N c) S) := h
  have HP : Hid (Goes f caps g p w) := hp
  obtain ⟨R, hR⟩ : ∃ r : Int, (if idxS p S < N then (idxS p S : Int) else -1) = r := ⟨_, rfl⟩
  rw [hR]
  have HR : Hid ((if idxS p S < N then (idxS p S : Int) else -1) = R) := hR
  clear h hp hN hR
  go_enter Tryz.func87, Tryz.ntmps87
  go_wp2_with fail
  go_loopw [8] (fun i wr => ∃ k : Nat, i = .int .i64 (k : Int) ∧ k ≤ N ∧ Hid (∀ j s, S[j]? = some s → j < k → p s.uid = false) ∧ Hid (Below w.heap.size w wr)) (fun i _ => N - (intOf i).toNat)
  case atStart => exact ⟨0, rfl, Nat.zero_le _, fun j s _ hj => absurd hj (by omega), Below.refl _ _⟩
  case round =>
    obtain ⟨k, rfl, hk, HJ, HB⟩ := hrel
    by_cases hlt : k < N
    · have hkl : k < S.length := by rw [HN.out]; exact hlt
      obtain ⟨s, hs⟩ : ∃ s, S[k] = s := ⟨_, rfl⟩
      have hsk : S[k]? = some s := by rw [List.getElem?_eq_getElem hkl, hs]
      have HSK : Hid (S[k]? = some s) := hsk
      obtain ⟨g2, c2, fv, e0, hgl, q0, q1, hsf⟩ := sgs_at HH.out hsk
      rw [HN.out] at e0
      injection e0 with e0 _ e00
      subst e0
      subst e00
      replace q0 := (HB.out.cell (p := ⟨g2, _, none⟩) hgl).trans q0
      replace q1 := (HB.out.cell (p := ⟨g2, _, none⟩) hgl).trans q1
      obtain ⟨fa, fc, rfl, _⟩ := id hsf
      obtain ⟨U, hU⟩ : ∃ u, s.uid = u := ⟨_, rfl⟩
      obtain ⟨FLs, hFLs⟩ : ∃ n, s.flags.length = n := ⟨_, rfl⟩
      rw [hU] at q0
      rw [hFLs] at q1
      have HU : Hid (s.uid = U) := hU
      have cP := HP.out wr (to_but HB.out) HB.out.size U fa FLs fc
      obtain ⟨pb, hpb⟩ : ∃ b, p U = b := ⟨_, rfl⟩
      rw [hpb] at cP
      have HPB : Hid (p U = pb) := hpb
      clear hs hsk hU hFLs hsf hpb
      cases pb with
      | true =>
        have HRR : Hid (R = (k : Int)) := by
          have h1 := idxS_at p HJ.out (by rw [HN.out]; omega) (fun s' h' => by rw [HSK.out] at h'; obtain rfl := Option.some.inj h'; rw [HU.out]; exact HPB.out)
          show R = _
          rw [← HR.out, h1, if_pos hlt]
        go_wp2_with fail
        refine cP.mono ?_
        rintro e w' ⟨rfl, hb2⟩
        have HB2 : Hid (Below w.heap.size w w') := HB.out.trans (hb2.mono HB.out.size)
        clear cP hb2
        go_wp2_with fail
        go_ret
        exact ⟨by rw [HRR.out]; rfl, HB2.out⟩
      | false =>
        go_wp2_with fail
        refine cP.mono ?_
        rintro e w' ⟨rfl, hb2⟩
        have HB2 : Hid (Below w.heap.size w w') := HB.out.trans (hb2.mono HB.out.size)
        clear cP hb2
        go_wp2_with fail
        go_roundw
        case rel =>
          refine ⟨k + 1, by go_num, by omega, fun j s' hs' hj => ?_, HB2.out⟩
          by_cases hjk : j < k
          · exact HJ.out j s' hs' hjk
          · obtain rfl : j = k := by omega
            rw [HSK.out] at hs'
            obtain rfl := Option.some.inj hs'
            rw [HU.out]
            exact HPB.out
        case measure => simp [intOf]; omega
    · obtain rfl : k = N := by omega
      have HRR : Hid (R = -1) := by
        have h1 := idxS_at p HJ.out (by rw [HN.out]; omega) (fun s' h' => by have := (List.getElem?_eq_some_iff.1 h').1; have := HN.out; omega)
        show R = _
        rw [← HR.out, h1, if_neg (by omega)]
      have hRR := HRR.out
      subst hRR
      go_wp2_with fail
      go_ret
      exact ⟨rfl, HB.out⟩
/-- A sight's number is turned. -/
theorem sgs_uid {w : World} {va : Option Addr} {g ca : Nat} {S : List Sg} {k : Nat} {x : Sg} (h : Sgs w (.slice va S.length ca) S) (hva : va = some ⟨g, 0, none⟩) (hk : S[k]? = some x) (u' : Int) :
    Sgs (w.setCell ⟨g, k * 2, none⟩ (.int .i64 u')) (.slice va S.length ca) (S.set k ⟨u', x.flags⟩) := by
  obtain ⟨rows, h1, h2, h3, h4, h5⟩ := id h
  subst hva
  have hkl := (List.getElem?_eq_some_iff.1 hk).1
  have hns := h5 g rfl
  rcases h1.2 with ⟨hz, _⟩ | ⟨g', cap, cur, hv, hb, hh, hnc, hcm, hcs, htk⟩
  · cases hz
  injection hv with hv _ hv2
  injection hv with hv
  injection hv with hv _ _
  subst hv
  subst hv2
  have e9 := rd_set (i := k * 2) (.int .i64 u') hh
  have hot : ∀ q, q ≠ g → (w.setCell ⟨g, k * 2, none⟩ (.int .i64 u')).heap[q]? = w.heap[q]? := fun q hq => Below.heap_setCell _ _ _ _ hq
  have hsl : ∀ y fu, Sl w fu y → Sl (w.setCell ⟨g, k * 2, none⟩ (.int .i64 u')) fu y := fun y fu hy => hy.same fun q hq hl _ => hot q fun e => hy.noStr hl hq (by rw [e]; exact noT_str hns)
  have hrk : rows[k]? = some (rows[k]'(by omega)) := List.getElem?_eq_getElem (by omega)
  obtain ⟨fu, e1, e2, e3⟩ := h3 k x _ hk hrk
  refine ⟨rows.set k [.int .i64 u', fu], ⟨?_, Or.inr ⟨g, ca, _, by rw [List.length_set], hb, e9, by rw [List.length_set]; exact hnc, hcm, by rw [Array.size_setIfInBounds]; exact hcs, ?_⟩⟩, by simp [h2], fun j y ys hj hy => ?_, fun xs hx => ?_, fun q hq => ?_⟩
  · rw [List.length_set]
    have : ∀ (R : List (List Value)), (∀ xs ∈ R, xs.length = 2) → R.flatten.length = R.length * 2 := by
      intro R
      induction R with
      | nil => simp
      | cons a R ih => intro hR; rw [List.flatten_cons, List.length_append, ih (fun xs hx => hR xs (List.mem_cons_of_mem _ hx)), hR a List.mem_cons_self, List.length_cons]; omega
    rw [this _ (fun xs hx => by
      rcases List.mem_or_eq_of_mem_set hx with h | h
      · exact h4 xs h
      · rw [h]; rfl), List.length_set, h2]
  · rw [List.length_set, Array.toList_setIfInBounds, List.take_set, htk]
    apply List.ext_getElem?
    intro i
    rw [List.getElem?_set]
    by_cases hi : i < S.length * 2
    · have hd : i = i / 2 * 2 + i % 2 := by omega
      have hjr : rows[i / 2]? = some (rows[i / 2]'(by omega)) := List.getElem?_eq_getElem (by omega)
      have hfl := flat2_get (i := i % 2) h4 hjr (by omega)
      rw [← hd] at hfl
      have h4' : ∀ xs ∈ rows.set k [.int .i64 u', fu], xs.length = 2 := fun xs hx => by
        rcases List.mem_or_eq_of_mem_set hx with h | h
        · exact h4 xs h
        · rw [h]; rfl
      have hlt' : i / 2 < (rows.set k [.int .i64 u', fu]).length := by rw [List.length_set]; omega
      have hfl' := flat2_get (i := i % 2) h4' (List.getElem?_eq_getElem hlt') (by omega)
      rw [← hd] at hfl'
      rw [hfl']
      by_cases hik : i / 2 = k
      · rw [List.getElem_set, if_pos hik.symm]
        by_cases hi1 : k * 2 = i
        · rw [if_pos hi1, if_pos (by rw [h1.1]; omega), show i % 2 = 0 by omega]; rfl
        · rw [if_neg hi1, hfl, show i % 2 = 1 by omega]
          have : rows[i / 2]'(by omega) = [.int .i64 x.uid, fu] := by rw [← e1]; simp only [hik]
          rw [this]; rfl
      · have hne : ¬ (k * 2 = i) := by omega
        rw [if_neg hne, hfl, List.getElem_set, if_neg (fun e => hik e.symm)]
    · rw [if_neg (by omega), List.getElem?_eq_none (by rw [h1.1]; omega), List.getElem?_eq_none]
      have : ∀ (R : List (List Value)), (∀ xs ∈ R, xs.length = 2) → R.flatten.length = R.length * 2 := by
        intro R
        induction R with
        | nil => simp
        | cons a R ih => intro hR; rw [List.flatten_cons, List.length_append, ih (fun xs hx => hR xs (List.mem_cons_of_mem _ hx)), hR a List.mem_cons_self, List.length_cons]; omega
      rw [this _ (fun xs hx => by
        rcases List.mem_or_eq_of_mem_set hx with h | h
        · exact h4 xs h
        · rw [h]; rfl), List.length_set, h2]
      omega
  · by_cases hjk : k = j
    · subst hjk
      rw [List.getElem?_set, if_pos rfl, if_pos hkl] at hj
      rw [List.getElem?_set, if_pos rfl, if_pos (by omega)] at hy
      obtain rfl := Option.some.inj hj
      obtain rfl := Option.some.inj hy
      refine ⟨fu, rfl, hsl _ _ e2, e3.imp id fun h q hq => ?_⟩
      have := h q hq
      simpa [Value.ownBlock] using this
    · rw [List.getElem?_set, if_neg hjk] at hj
      rw [List.getElem?_set, if_neg hjk] at hy
      obtain ⟨fu2, e12, e22, e32⟩ := h3 j y ys hj hy
      refine ⟨fu2, e12, hsl _ _ e22, e32.imp id fun h q hq => ?_⟩
      have := h q hq
      simpa [Value.ownBlock] using this
  · rcases List.mem_or_eq_of_mem_set hx with h | h
    · exact h4 xs h
    · rw [h]; rfl
  · obtain rfl : g = q := by simpa [Value.ownBlock] using hq
    refine allC_of e9 fun u hu => ?_
    rw [Array.toList_setIfInBounds] at hu
    rcases List.mem_or_eq_of_mem_set hu with h | h
    · exact allC_all hh hns u h
    · rw [h]; exact fun s e => by cases e
/-- A whole sight is put. -/
theorem sgs_put {w : World} {g ca N : Nat} {S : List Sg} {k : Nat} {x : Sg} (h : Sgs w (.slice (some ⟨g, 0, none⟩) N ca) S) (hN : S.length = N) (hk : k < S.length) {fv : Value} (hf : Sl w fv x.flags) :
    Sgs ((w.setCell ⟨g, k * 2, none⟩ (.int .i64 x.uid)).setCell ⟨g, k * 2 + 1, none⟩ fv) (.slice (some ⟨g, 0, none⟩) N ca) (S.set k x) := by
  subst hN
  have h0 : S[k]? = some S[k] := List.getElem?_eq_getElem hk
  have h1 := sgs_uid h rfl h0 x.uid
  have hl : (S.set k ⟨x.uid, S[k].flags⟩).length = S.length := by rw [List.length_set]
  rw [← hl] at h1
  have hns := h.noStr (q := g) rfl
  have h2 := sgs_set (k := k) (x := ⟨x.uid, S[k].flags⟩) h1 rfl (by rw [List.getElem?_set, if_pos rfl, if_pos hk]) (fv := fv) (F := x.flags) (hf.same fun q hq hl' _ => Below.heap_setCell _ _ _ _ (fun e => hf.noStr hl' hq (by have e : q = g := e; rw [e]; exact hns)))
  rw [hl, List.set_set] at h2
  exact h2
/-- 'clear(s)', s a slice of elements of some cells each. -/
theorem run_clear_rows {P : Program} (w : World) (t e ty : TypeId) (z : Value) (ht : P.underlying t = some (.slice e)) (hv : ∀ w, (zeroValue e).run P w = .ok z w) (b o n c : Nat) (hn : 0 < n) (h1 : ∀ u ∈ (Builtin.zeroCells z.cells n).toList, u.oneCell' = true)
    (hc : ∀ j, j < (Builtin.zeroCells z.cells n).toList.length → (w.cell? ⟨b, o + j, none⟩).isSome = true) (hf : ∀ j, j < (Builtin.zeroCells z.cells n).toList.length → w.frozen? ⟨b, o + j, none⟩ = false) :
    (Builtin.clear_ #[t] ty #[.slice (some ⟨b, o, none⟩) n c]).run P w = .ok (.tuple #[]) (w.setCells b o (Builtin.zeroCells z.cells n).toList) := by
  have hst := run_storeCells_cells (P := P) b o (Builtin.zeroCells z.cells n).toList 0 w (by simpa using hc) (by simpa using hf) h1
  simp only [Nat.add_zero] at hst
  obtain ⟨m, rfl⟩ : ∃ m, n = m + 1 := ⟨n - 1, by omega⟩
  simp [Builtin.clear_, run_underlying ht, hv, hst]
theorem setCells_other (b : Nat) : ∀ (vs : List Value) (o : Nat) (w : World) (q : Nat), q ≠ b → (w.setCells b o vs).heap[q]? = w.heap[q]?
  | [], o, w, q, h => rfl
  | v :: vs, o, w, q, h => by
    rw [World.setCells, setCells_other b vs (o + 1) _ q h]
    exact Below.heap_setCell _ _ _ _ h
theorem setCells_row (b : Nat) (t : TypeId) : ∀ (vs : List Value) (o : Nat) (w : World) (cur : Array Value), w.heap[b]? = some (.cells cur t (0, 0)) → ∃ cur', (w.setCells b o vs).heap[b]? = some (.cells cur' t (0, 0)) ∧ cur'.size = cur.size ∧ cur'.toList.take o = cur.toList.take o ∧ ∀ u ∈ cur'.toList, u ∈ cur.toList ∨ u ∈ vs
  | [], o, w, cur, h => ⟨cur, h, rfl, rfl, fun u hu => Or.inl hu⟩
  | v :: vs, o, w, cur, h => by
    have h1 := rd_set (i := o) v h
    obtain ⟨cur', e1, e2, e3, e4⟩ := setCells_row b t vs (o + 1) (w.setCell ⟨b, o, none⟩ v) _ h1
    refine ⟨cur', e1, by rw [e2, Array.size_setIfInBounds], ?_, fun u hu => ?_⟩
    · have e5 := congrArg (List.take o) e3
      rw [List.take_take, List.take_take, Nat.min_eq_left (by omega), Array.toList_setIfInBounds, List.take_set_of_le (by omega)] at e5
      exact e5
    · rcases e4 u hu with h2 | h2
      · rw [Array.toList_setIfInBounds] at h2
        rcases List.mem_or_eq_of_mem_set h2 with h3 | h3
        · exact Or.inl h3
        · exact Or.inr (by rw [h3]; exact List.mem_cons_self)
      · exact Or.inr (List.mem_cons_of_mem _ h2)
theorem setCells_os (b : Nat) : ∀ (vs : List Value) (o : Nat) (w : World), (w.setCells b o vs).os = w.os ∧ (w.setCells b o vs).tape = w.tape ∧ (w.setCells b o vs).output = w.output ∧ (w.setCells b o vs).heap.size = w.heap.size
  | [], o, w => ⟨rfl, rfl, rfl, rfl⟩
  | v :: vs, o, w => by
    rw [World.setCells]
    obtain ⟨h1, h2, h3, h4⟩ := setCells_os b vs (o + 1) (w.setCell ⟨b, o, none⟩ v)
    exact ⟨h1, h2, h3, h4.trans (by simp)⟩
/-- The first ones, behind what clears the others. -/
theorem sgs_cut {w : World} {g ca N i : Nat} {T : List Sg} (h : Sgs w (.slice (some ⟨g, 0, none⟩) N ca) T) (hN : T.length = N) (hi : i ≤ N) (vs : List Value) (hv : ∀ u ∈ vs, NoT u) :
    Sgs (w.setCells g (i * 2) vs) (.slice (some ⟨g, 0, none⟩) i ca) (T.take i) := by
  obtain ⟨rows, h1, h2, h3, h4, h5⟩ := id h
  have hl : (T.take i).length = i := by rw [List.length_take]; omega
  have hns := h5 g rfl
  rcases h1.2 with ⟨hz, _⟩ | ⟨g', cap, cur, hvv, hb, hh, hnc, hcm, hcs, htk⟩
  · cases hz
  injection hvv with hvv _ hv2
  injection hvv with hvv
  injection hvv with hvv _ _
  subst hvv
  subst hv2
  obtain ⟨cur', e1, e2, e3, e4⟩ := setCells_row g _ vs (i * 2) w cur hh
  have hot : ∀ q, q ≠ g → (w.setCells g (i * 2) vs).heap[q]? = w.heap[q]? := fun q hq => setCells_other g vs _ w q hq
  have hsl : ∀ y fu, Sl w fu y → Sl (w.setCells g (i * 2) vs) fu y := fun y fu hy => hy.same fun q hq hl _ => hot q fun e => hy.noStr hl hq (by rw [e]; exact noT_str hns)
  have hfl : ∀ (R : List (List Value)) (i : Nat), (∀ xs ∈ R, xs.length = 2) → (R.take i).flatten = R.flatten.take (i * 2) := by
    intro R
    induction R with
    | nil => intro i _; simp
    | cons a R ih =>
      intro i hR
      cases i with
      | zero => simp
      | succ i =>
        have ha := hR a List.mem_cons_self
        rw [List.take_succ_cons, List.flatten_cons, List.flatten_cons, ih i (fun xs hx => hR xs (List.mem_cons_of_mem _ hx)), List.take_append, List.take_of_length_le (l := a) (by omega), ha, show (i + 1) * 2 - 2 = i * 2 by omega]
  have h4' : ∀ xs ∈ rows.take i, xs.length = 2 := fun xs hx => h4 xs (List.mem_of_mem_take hx)
  refine ⟨rows.take i, ⟨?_, Or.inr ⟨g, ca, cur', by rw [hl], hb, e1, by rw [hl]; omega, hcm, by rw [e2]; exact hcs, ?_⟩⟩, by rw [hl, List.length_take]; omega, fun j y ys hj hy => ?_, h4', fun q hq => ?_⟩
  · rw [hfl _ _ h4, List.length_take, hl, h1.1]; omega
  · rw [hl, e3, hfl _ _ h4, ← htk, List.take_take, hN, Nat.min_eq_left (by omega)]
  · have hji : j < i := by have := (List.getElem?_eq_some_iff.1 hj).1; omega
    rw [List.getElem?_take_of_lt hji] at hj hy
    obtain ⟨fu, f1, f2, f3⟩ := h3 j y ys hj hy
    refine ⟨fu, f1, hsl _ _ f2, f3.imp id fun h q hq => ?_⟩
    have := h q hq
    simpa [Value.ownBlock] using this
  · obtain rfl : g = q := by simpa [Value.ownBlock] using hq
    refine allC_of e1 fun u hu => ?_
    rcases e4 u hu with h6 | h6
    · exact allC_all hh hns u h6
    · exact hv u h6
end Go.Proofs.YtgpcnacpefficaaGreatDoor
