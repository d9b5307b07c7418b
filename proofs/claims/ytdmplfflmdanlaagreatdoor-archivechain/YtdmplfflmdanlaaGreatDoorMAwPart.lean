/-
  What was there before, and what was not: lettersOf and parted.
-/
import Derived.Test.YtdmplfflmdanlaaGreatDoorBpAwSame
namespace Go.Proofs.YtdmplfflmdanlaaGreatDoor
open Go.RowKit Go.Proofs.Aid Go.Proofs.Bx

/-- The letters of a house's box of that number. -/
def lettersB (L : List Bxd) (valid : Int) : List Lt := ((L.find? fun x => x.v == valid).map Bxd.ls).getD []
theorem lettersB_hit {valid : Int} : ∀ {L : List Bxd} {k : Nat} {x : Bxd}, (∀ j y, L[j]? = some y → j < k → y.v ≠ valid) → L[k]? = some x → x.v = valid → lettersB L valid = x.ls
  | [], k, x, _, h, _ => by simp at h
  | y :: L, 0, x, _, h, e => by
    obtain rfl : y = x := by simpa using h
    unfold lettersB
    rw [List.find?_cons_of_pos (by simp [e])]
    rfl
  | y :: L, k + 1, x, h1, h, e => by
    have h0 := h1 0 y (by simp) (by omega)
    have := lettersB_hit (L := L) (k := k) (fun j z hj hlt => h1 (j + 1) z (by simpa using hj) (by omega)) (by simpa using h) e
    unfold lettersB at this ⊢
    rw [List.find?_cons_of_neg (by simpa using h0)]
    exact this
theorem lettersB_none {valid : Int} {L : List Bxd} (h : ∀ x ∈ L, x.v ≠ valid) : lettersB L valid = [] := by
  unfold lettersB
  rw [List.find?_eq_none.2 (fun x hx => by simpa using h x hx)]
  rfl
set_option maxHeartbeats 4000000 in
set_option maxRecDepth 100000 in
theorem let1_is (v n valid : Int) (la : Option Addr) (ln lc vb : Nat) (w : World) (hc : w.cell? ⟨vb, 0, none⟩ = some (.int .i64 valid)) :
    Calls Tryz.prog 112 #[.agg #[.int .i64 v, .int .i64 n, .slice la ln lc], .pointer (some ⟨vb, 0, none⟩)] w fun e w' => e = .returned (.bool (v == valid)) ∧ Below w.heap.size w w' := by
  obtain ⟨W1, hW1⟩ : ∃ W, w.alloc (.cells #[.int .i64 v, .int .i64 n, .slice la ln lc] 66) = W := ⟨_, rfl⟩
  have b1 : Below w.heap.size w W1 := by rw [← hW1]; exact (Below.refl _ _).alloc (Nat.le_refl _) _
  have e1 : W1.heap[w.heap.size]? = some (.cells #[.int .i64 v, .int .i64 n, .slice la ln lc] 66 (0, 0)) := by rw [← hW1]; exact heap_alloc_new _ _
  have c0 : W1.cell? ⟨w.heap.size, 0, none⟩ = some (.int .i64 v) := rd_cell e1 rfl
  have c1 : W1.cell? ⟨vb, 0, none⟩ = some (.int .i64 valid) := (b1.cell (p := ⟨vb, 0, none⟩) (World.block_lt_of_cell? _ _ hc)).trans hc
  have HB : Hid (Below w.heap.size w W1) := b1
  clear e1 b1 hc
  go_enter Tryz.func112, Tryz.ntmps112
  go_wp2_with fail
  go_ret
  exact ⟨rfl, HB.out⟩
theorem bxr_at2 {w : World} {a : Option Addr} {n c : Nat} {L : List Bxd} (h : Bxr w (.slice a n c) L) {k : Nat} {x : Bxd} (hk : L[k]? = some x) : ∃ b o, a = some ⟨b, o, none⟩ ∧ BxrAt w b (o + k * 3) x := by
  obtain ⟨a', c', h1, h2⟩ := h
  injection h1 with h1 _ _
  subst h1
  rcases h2 with h2 | ⟨b, o, h3, h4⟩
  · rw [h2] at hk; simp at hk
  · exact ⟨b, o, h3, h4 k x hk⟩
/-- Where a box of that number is. -/
def BxIdx (L : List Bxd) (valid i : Int) : Prop := (i = -1 ∧ lettersB L valid = []) ∨ ∃ (k : Nat) (x : Bxd), i = (k : Int) ∧ L[k]? = some x ∧ lettersB L valid = x.ls
def BxAt (e : Ending) (L : List Bxd) (valid : Int) : Prop := ∃ i : Int, e = .returned (.int .i64 i) ∧ BxIdx L valid i
set_option maxHeartbeats 4000000 in
set_option maxRecDepth 100000 in
theorem bindex_is (bv : Value) (L : List Bxd) (valid : Int) (vb : Nat) (w : World) (h : Bxr w bv L) (hl : L.length ≤ 1000) (hc : w.cell? ⟨vb, 0, none⟩ = some (.int .i64 valid)) :
    Calls Tryz.prog 111 #[bv, .func (.func 112) #[] #[.pointer (some ⟨vb, 0, none⟩)]] w fun e w' => BxAt e L valid ∧ Below w.heap.size w w' := by
  obtain ⟨a, c, rfl, _⟩ := id h
  obtain ⟨M, hM⟩ : ∃ m, L.length = m := ⟨_, rfl⟩
  have HX : Hid (Bxr w (.slice a M c) L ∧ L.length = M ∧ w.cell? ⟨vb, 0, none⟩ = some (.int .i64 valid)) := ⟨by rw [← hM]; exact h, hM, hc⟩
  rw [hM] at hl ⊢
  clear h hM hc
  go_enter Tryz.func111, Tryz.ntmps111
  go_wp2_with fail
  go_loopw [8] (fun iv wr => ∃ k : Nat, iv = .int .i64 (k : Int) ∧ k ≤ M ∧ Hid (Below w.heap.size w wr ∧ ∀ j x, L[j]? = some x → j < k → x.v ≠ valid)) (fun iv _ => M - (intOf iv).toNat)
  case atStart => exact ⟨0, rfl, Nat.zero_le _, Below.refl _ _, fun j x _ hj => absurd hj (by omega)⟩
  case round =>
    obtain ⟨k, rfl, hk, HB⟩ := hrel
    by_cases hlt : k < M
    · have d1 : decide ((k : Int) < (M : Int)) = true := decide_eq_true (by omega)
      have i1 : (0 : Int) ≤ (k : Int) := by omega
      have i2 : (k : Int) < (M : Int) := by omega
      obtain ⟨x, hxk⟩ : ∃ x, L[k]? = some x := ⟨_, List.getElem?_eq_getElem (by have := HX.out.2.1; omega)⟩
      obtain ⟨g, o, hva, q1, q2, lv, q3, q4⟩ := bxr_at2 (HX.out.1.below HB.out.1 (Nat.le_refl _)) hxk
      subst hva
      obtain ⟨la, lc, rfl, _⟩ := id q4
      have HK : Hid (L[k]? = some x) := hxk
      obtain ⟨xv, xn, xl⟩ := x
      obtain ⟨XL, hXL⟩ : ∃ n, xl.length = n := ⟨_, rfl⟩
      simp only at q1 q2 q3
      rw [hXL] at q3
      have cP := let1_is xv xn valid la XL lc vb wr ((HB.out.1.cell (p := ⟨vb, 0, none⟩) (World.block_lt_of_cell? _ _ HX.out.2.2)).trans HX.out.2.2)
      clear hxk q4 hXL
      by_cases hv : xv = valid
      · have HV : Hid (xv = valid) := hv
        rw [beq_iff_eq.2 hv] at cP
        clear hv
        go_wp2_with fail
        refine cP.mono ?_
        rintro e w1 ⟨rfl, hb1⟩
        have HF : Hid (BxIdx L valid (k : Int) ∧ Below w.heap.size w w1) := ⟨Or.inr ⟨k, _, rfl, HK.out, lettersB_hit HB.out.2 HK.out HV.out⟩, HB.out.1.trans (hb1.mono HB.out.1.size)⟩
        clear cP hb1
        go_wp2_with fail
        go_ret
        exact ⟨⟨_, rfl, HF.out.1⟩, HF.out.2⟩
      · have HV : Hid (¬ xv = valid) := hv
        rw [beq_eq_false_iff_ne.2 hv] at cP
        clear hv
        go_wp2_with fail
        refine cP.mono ?_
        rintro e w1 ⟨rfl, hb1⟩
        have HB1 : Hid (Below w.heap.size w w1 ∧ ∀ j x, L[j]? = some x → j < k + 1 → x.v ≠ valid) := by
          refine ⟨HB.out.1.trans (hb1.mono HB.out.1.size), fun j x hj hlt2 => ?_⟩
          by_cases e : j = k
          · rw [e, HK.out] at hj
            obtain rfl := Option.some.inj hj
            exact HV.out
          · exact HB.out.2 j x hj (by omega)
        clear cP hb1
        go_wp2_with fail
        go_roundw
        case rel => exact ⟨k + 1, by go_num, by omega, HB1⟩
        case measure => simp [intOf]; omega
    · have d1 : decide ((k : Int) < (M : Int)) = false := decide_eq_false (by omega)
      have HF : Hid (BxIdx L valid (-1) ∧ Below w.heap.size w wr) := by
        refine ⟨Or.inl ⟨rfl, lettersB_none fun x hx => ?_⟩, HB.out.1⟩
        obtain ⟨j, hj⟩ := List.getElem?_of_mem hx
        exact HB.out.2 j x hj (by have := (List.getElem?_eq_some_iff.1 hj).1; have := HX.out.2.1; omega)
      clear HB
      go_wp2_with fail
      go_ret
      exact ⟨⟨_, rfl, HF.out.1⟩, HF.out.2⟩
set_option maxHeartbeats 4000000 in
set_option maxRecDepth 100000 in
theorem lettersOf_is (na ba wa : Option Addr) (nl nc bl bc wl wc : Nat) (nx valid : Int) (L : List Bxd) (w : World) (h : Bxr w (.slice ba bl bc) L) (hl : L.length ≤ 1000) :
    Calls Tryz.prog 60 #[.agg #[.slice na nl nc, .slice ba bl bc, .slice wa wl wc, .int .i64 nx], .int .i64 valid] w fun e w' => (∃ lv, e = .returned lv ∧ Lts w lv (lettersB L valid)) ∧ Below w.heap.size w w' := by
  obtain ⟨W1, hW1⟩ : ∃ W, w.alloc (.cells #[.slice na nl nc, .slice ba bl bc, .slice wa wl wc, .int .i64 nx] 26) = W := ⟨_, rfl⟩
  have b1 : Below w.heap.size w W1 := by rw [← hW1]; exact (Below.refl _ _).alloc (Nat.le_refl _) _
  have e1 : W1.heap[w.heap.size]? = some (.cells #[.slice na nl nc, .slice ba bl bc, .slice wa wl wc, .int .i64 nx] 26 (0, 0)) := by rw [← hW1]; exact heap_alloc_new _ _
  obtain ⟨vb, hvb⟩ : ∃ n, W1.heap.size = n := ⟨_, rfl⟩
  obtain ⟨W2, hW2⟩ : ∃ W, W1.alloc (.cells #[.int .i64 valid] 3) = W := ⟨_, rfl⟩
  have b2 : Below W1.heap.size W1 W2 := by rw [← hW2]; exact (Below.refl _ _).alloc (Nat.le_refl _) _
  have e2 : W2.heap[W1.heap.size]? = some (.cells #[.int .i64 valid] 3 (0, 0)) := by rw [← hW2]; exact heap_alloc_new _ _
  rw [hvb] at e2
  have hlt1 : w.heap.size < W1.heap.size := (Array.getElem?_eq_some_iff.1 e1).1
  have e1' := (b2.block _ hlt1).trans e1
  have b12 : Below w.heap.size w W2 := b1.trans (b2.mono b1.size)
  have cI := bindex_is (.slice ba bl bc) L valid vb W2 (h.below b12 (Nat.le_refl _)) hl (rd_cell e2 rfl)
  have HX : Hid (Bxr w (.slice ba bl bc) L ∧ Below w.heap.size w W2 ∧ W2.heap[w.heap.size]? = some (.cells #[.slice na nl nc, .slice ba bl bc, .slice wa wl wc, .int .i64 nx] 26 (0, 0)) ∧ L.length = bl) := ⟨h, b12, e1', by obtain ⟨a', c', e, _⟩ := h; injection e with _ e _; exact e.symm⟩
  have c1 : W2.cell? ⟨w.heap.size, 1, none⟩ = some (.slice ba bl bc) := rd_cell e1' rfl
  clear h hl b1 e1 b2 e2 hlt1 e1' b12
  go_enter Tryz.func60, Tryz.ntmps60
  go_wp2_with fail
  refine cI.mono ?_
  rintro e w3 ⟨⟨i, rfl, hi⟩, hb3⟩
  have HB3 : Hid (Below w.heap.size w w3 ∧ Below W2.heap.size W2 w3) := ⟨HX.out.2.1.trans (hb3.mono HX.out.2.1.size), hb3⟩
  clear cI hb3 c1
  rcases hi with ⟨rfl, hi⟩ | ⟨k, x, rfl, hk, hi⟩
  · have HF : Hid (Lts w (.slice none 0 0) (lettersB L valid)) := by rw [hi]; exact Lts.nil w
    clear hi
    go_wp2_with fail
    go_ret
    exact ⟨⟨_, rfl, HF.out⟩, HB3.out.1⟩
  · have d1 : decide ((k : Int) < 0) = false := decide_eq_false (by omega)
    have hkl : k < bl := by rw [← HX.out.2.2.2]; exact (List.getElem?_eq_some_iff.1 hk).1
    have i1 : (0 : Int) ≤ (k : Int) := by omega
    have i2 : (k : Int) < (bl : Int) := by omega
    obtain ⟨g, o, hva, q1, q2, lv, q3, q4⟩ := bxr_at2 HX.out.1 hk
    subst hva
    obtain ⟨la, lc, rfl, _⟩ := id q4
    have HF : Hid (Lts w (.slice la x.ls.length lc) (lettersB L valid)) := by rw [hi]; exact q4
    obtain ⟨XL, hXL⟩ : ∃ n, x.ls.length = n := ⟨_, rfl⟩
    rw [hXL] at q3 HF
    have c1 : w3.cell? ⟨w.heap.size, 1, none⟩ = some (.slice (some ⟨g, o, none⟩) bl bc) := rd_cell ((HB3.out.2.block _ (Array.getElem?_eq_some_iff.1 HX.out.2.2.1).1).trans HX.out.2.2.1) rfl
    have c2 : w3.cell? ⟨g, o + k * 3 + 2, none⟩ = some (.slice la XL lc) := (HB3.out.1.cell (p := ⟨g, o + k * 3 + 2, none⟩) (World.block_lt_of_cell? _ _ q3)).trans q3
    clear hi hk hkl q1 q2 q3 q4 hXL
    go_wp2_with fail
    go_ret
    exact ⟨⟨_, rfl, HF.out⟩, HB3.out.1⟩
/-- A row of letters of the call's own; their flags lie in all these worlds. -/
def LOwQ (P : World → Prop) (w : World) (base : Nat) (v : Value) (l : List Lt) : Prop := ∃ rows : List (List Value), w.ownsRow base 71 4 v l.length rows.flatten ∧ rows.length = l.length ∧ (∀ (j : Nat) x xs, l[j]? = some x → rows[j]? = some xs → ∀ W, P W → LtRow W x xs) ∧ ∀ xs ∈ rows, xs.length = 4
theorem LOwQ.nil (P : World → Prop) (w : World) (base : Nat) : LOwQ P w base (.slice none 0 0) [] := ⟨[], World.ownsRow_nil _ _ _ _, rfl, fun j x xs h => (by simp at h), fun xs h => (by cases h)⟩
theorem LOwQ.form {P : World → Prop} {w : World} {base : Nat} {v : Value} {l : List Lt} (h : LOwQ P w base v l) : ∃ a c, v = .slice a l.length c := by
  obtain ⟨rows, h1, _⟩ := h
  exact row_form h1
theorem LOwQ.same {P : World → Prop} {w w' : World} {base : Nat} {v : Value} {l : List Lt} (h : LOwQ P w base v l) (hk : ∀ q, v.ownBlock = some q → w'.heap[q]? = w.heap[q]?) : LOwQ P w' base v l := by
  obtain ⟨rows, h1, h2, h3, h4⟩ := h
  exact ⟨rows, own_same h1 hk, h2, h3, h4⟩
theorem LOwQ.lt {P : World → Prop} {w : World} {base : Nat} {v : Value} {l : List Lt} (h : LOwQ P w base v l) {q : Nat} (hq : v.ownBlock = some q) : base ≤ q ∧ q < w.heap.size := by
  obtain ⟨rows, h1, _⟩ := h
  exact h1.lt q hq
theorem LOwQ.below {P : World → Prop} {w w' : World} {base : Nat} {v : Value} {l : List Lt} (h : LOwQ P w base v l) (hb : Below w.heap.size w w') : LOwQ P w' base v l := h.same fun q hq => hb.block q (h.lt hq).2
/-- It reads as a slice of letters, wherever its block stays. -/
theorem LOwQ.ltq {P Q : World → Prop} {w : World} {base : Nat} {v : Value} {l : List Lt} (h : LOwQ P w base v l) (hq : ∀ W, Q W → P W ∧ ∀ q, v.ownBlock = some q → W.heap[q]? = w.heap[q]?) : LtQ Q v l := by
  obtain ⟨rows, h1, h2, h3, h4⟩ := id h
  rcases h1.2 with ⟨e1, e2⟩ | ⟨g, cap, cur, hv, _, hh, hc, hm, _⟩
  · exact ⟨none, 0, by rw [e1, e2], ⟨fun _ => rfl, by omega, by decide⟩, Or.inl (List.eq_nil_of_length_eq_zero e2)⟩
  · refine ⟨_, cap, hv, ⟨fun e => (by cases e), hc, by unfold maxLen at hm; omega⟩, Or.inr ⟨g, 0, rfl, fun j x hj => ?_⟩⟩
    have hjl : j < l.length := (List.getElem?_eq_some_iff.1 hj).1
    have hjr : rows[j]? = some (rows[j]'(by omega)) := List.getElem?_eq_getElem (by omega)
    obtain ⟨fv, hfv⟩ : ∃ fv, rows[j]'(by omega) = [.int .i64 x.uid, fv, .int .i64 x.day, .string ⟨x.text.toArray⟩] ∨ ∀ W, ¬ Q W := by
      by_cases hne : ∃ W, Q W
      · obtain ⟨W, hW⟩ := hne
        obtain ⟨fv, e, _⟩ := h3 j x _ hj hjr W (hq W hW).1
        exact ⟨fv, Or.inl e⟩
      · exact ⟨.nilIface, Or.inr fun W hW => hne ⟨W, hW⟩⟩
    refine ⟨fv, fun W hW => ?_⟩
    rcases hfv with hfv | hfv
    · obtain ⟨fv', e, hs⟩ := h3 j x _ hj hjr W (hq W hW).1
      rw [hfv] at e
      obtain rfl : fv = fv' := by simpa using e
      have hsame := (hq W hW).2
      have hown := own_same h1 hsame
      rw [hv] at hown
      have hc : ∀ i u, i < 4 → (rows[j]'(by omega))[i]? = some u → W.cell? ⟨g, j * 4 + i, none⟩ = some u := fun i u hi hu => by
        rw [hown.cellAt (j * 4 + i) (by omega), flat4_get h4 hjr hi]
        exact hu
      rw [Nat.zero_add]
      refine ⟨?_, hc 1 fv (by omega) (by rw [hfv]; rfl), hs, hc 2 (.int .i64 x.day) (by omega) (by rw [hfv]; rfl), hc 3 (.string ⟨x.text.toArray⟩) (by omega) (by rw [hfv]; rfl)⟩
      have := hc 0 (.int .i64 x.uid) (by omega) (by rw [hfv]; rfl)
      rwa [Nat.add_zero] at this
    · exact absurd hW (hfv W)
/-- One letter more behind a row of the call's own; what is put there lies at nb. -/
theorem lowq_push {P : World → Prop} {w : World} {base : Nat} {va : Option Addr} {ca : Nat} {L : List Lt} (h : LOwQ P w base (.slice va L.length ca) L) (hL : L.length ≤ 1000) (x : Lt) (xs : List Value) (hx : ∀ W, P W → LtRow W x xs) (hlen : xs.length = 4) (nb : Nat) (hnb : ∀ j u, xs[j]? = some u → w.cell? ⟨nb, j, none⟩ = some u) (hcell : ∀ u ∈ xs, u.oneCell' = true) (hbase : base ≤ w.heap.size) :
    ∃ g cap W, (Builtin.append_ #[64, 64] 64 #[.slice va L.length ca, .slice (some ⟨nb, 0, none⟩) 1 1]).run Tryz.prog w = .ok (.slice (some ⟨g, 0, none⟩) (L.length + 1) cap) W ∧
      LOwQ P W base (.slice (some ⟨g, 0, none⟩) (L.length + 1) cap) (L ++ [x]) ∧ (W.os = w.os ∧ W.tape = w.tape ∧ W.output = w.output ∧ w.heap.size ≤ W.heap.size ∧ ∀ q, q < w.heap.size → (Value.slice va L.length ca).ownBlock ≠ some q → W.heap[q]? = w.heap[q]?) ∧ ((Value.slice va L.length ca).ownBlock = some g ∨ w.heap.size ≤ g) := by
  obtain ⟨rows, h1, h2, h3, h4⟩ := h
  obtain ⟨j0, hj, hz, hs, hby⟩ := info_parts Tryz.infoLt
  have hnews : ∀ j u, xs[j]? = some u → w.cell? ((⟨nb, 0, none⟩ : Addr).add j) = some u := fun j u hu => by
    rw [Addr.add_lit, Nat.zero_add]
    exact hnb j u hu
  obtain ⟨g9, cap9, W9, hrun, hown9, hg9, hor9, hlt9⟩ := run_append_lies (P := Tryz.prog) w 64 64 base 71 j0 (.agg #[.int .i64 0, .slice none 0 0, .int .i64 0, .string ⟨#[]⟩]) 4 56 Tryz.underlying64 hj hz hs hby rfl (by decide) (.slice va L.length ca) L.length _ h1 ⟨nb, 0, none⟩ 1 1 xs (by rw [hlen]) hnews hcell (by decide) (by unfold maxLen; omega) (by omega) hbase _ rfl
  refine ⟨g9, cap9, W9, hrun, ⟨rows ++ [xs], ?_, by simp [h2], fun j y ys hj hy => ?_, fun ys hy => ?_⟩, ⟨hg9.os, hg9.tape, hg9.output, hg9.size, fun q hq hne => hg9.block q hq (fun e => hne e.symm)⟩, hor9.imp id fun e => by omega⟩
  · rw [List.length_append, List.flatten_append, List.flatten_cons, List.flatten_nil, List.append_nil]
    exact hown9
  · by_cases hjl : j < L.length
    · rw [List.getElem?_append_left hjl] at hj
      rw [List.getElem?_append_left (by omega)] at hy
      exact h3 j y ys hj hy
    · have : j < (L ++ [x]).length := (List.getElem?_eq_some_iff.1 hj).1
      obtain rfl : j = L.length := by simp at this; omega
      rw [List.getElem?_append_right (Nat.le_refl _), Nat.sub_self] at hj
      rw [List.getElem?_append_right (by omega), h2, Nat.sub_self] at hy
      obtain rfl : x = y := by simpa using hj
      obtain rfl := Option.some.inj hy
      exact hx
  · rcases List.mem_append.1 hy with h | h
    · exact h4 ys h
    · rw [List.mem_singleton.1 h]; exact hlen
/-- One number more behind a row of the call's own. -/
theorem num_push {w : World} {base : Nat} {vb : Option Addr} {cb : Nat} {ns : List Int} (hn : NOwn w base (.slice vb ns.length cb) ns) (hL : ns.length ≤ 1000) (u : Int) (hbase : base ≤ w.heap.size) :
    ∃ g cap W, (Builtin.append_ #[117, 117] 117 #[.slice vb ns.length cb, .slice (some ⟨w.heap.size, 0, none⟩) 1 1]).run Tryz.prog (w.alloc (.cells #[.int .i64 u] 3)) = .ok (.slice (some ⟨g, 0, none⟩) (ns.length + 1) cap) W ∧
      NOwn W base (.slice (some ⟨g, 0, none⟩) (ns.length + 1) cap) (ns ++ [u]) ∧ (W.os = w.os ∧ W.tape = w.tape ∧ W.output = w.output ∧ w.heap.size ≤ W.heap.size ∧ ∀ q, q < w.heap.size → (Value.slice vb ns.length cb).ownBlock ≠ some q → W.heap[q]? = w.heap[q]?) := by
  obtain ⟨j0, hj, hz, hs, hby⟩ := info_parts Tryz.infoInt
  have b8 : Below w.heap.size w (w.alloc (.cells #[.int .i64 u] 3)) := (Below.refl _ _).alloc (Nat.le_refl _) _
  have hnews := World.news_of_block (heap_alloc_new w (.cells #[.int .i64 u] 3))
  obtain ⟨g9, cap9, W9, hrun, hown9, hg9, hor9, hlt9⟩ := run_append_lies (P := Tryz.prog) (w.alloc (.cells #[.int .i64 u] 3)) 117 117 base 3 j0 (.int .i64 0) 1 8 Tryz.underlying117 hj hz hs hby rfl (by decide) (.slice vb ns.length cb) ns.length _ (World.ownsRow.alloc hn _) ⟨w.heap.size, 0, none⟩ 1 1 [.int .i64 u] rfl hnews (by simp [Value.oneCell']) (by decide) (by unfold maxLen; omega) (by omega) (by simp; omega) _ rfl
  refine ⟨g9, cap9, W9, hrun, ?_, hg9.os.trans b8.os, hg9.tape.trans b8.tape, hg9.output.trans b8.output, Nat.le_trans b8.size hg9.size, fun q hq hne => (hg9.block q (by have := b8.size; omega) (fun e => hne e.symm)).trans (b8.block q hq)⟩
  unfold NOwn
  rw [List.length_append, List.map_append]
  exact hown9
end Go.Proofs.YtdmplfflmdanlaaGreatDoor
