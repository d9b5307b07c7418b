/-
  What letterboxref.argText and letterboxref.PrintCommand do.
-/
import Derived.Test.YtmcpohnilgbicaaGreatDoorQuoteAll
import Derived.Test.YtmcpohnilgbicaaGreatDoorWriteAll
namespace Go.Proofs.YtmcpohnilgbicaaGreatDoor
open Go.RowKit Go.Proofs.Aid Go.Proofs.Hd
open Go.Proofs.Sr (Ar)

theorem esc_bare : ∀ {s : Tx}, s.all okB = true → esc s = s
  | [], _ => rfl
  | c :: r, h => by
    rw [List.all_cons, Bool.and_eq_true] at h
    have hc : ¬ (c = 92 ∨ c = 34) := by
      rintro (rfl | rfl)
      · exact absurd h.1 (by decide)
      · exact absurd h.1 (by decide)
    have ih := esc_bare h.2
    unfold esc at ih ⊢
    rw [List.flatMap_cons, if_neg hc, ih]
    rfl
theorem esc_ge : ∀ s : Tx, s.length ≤ (esc s).length
  | [] => Nat.le_refl _
  | c :: r => by
    have ih := esc_ge r
    unfold esc at ih ⊢
    rw [List.flatMap_cons, List.length_append, List.length_cons]
    split
    · simp only [List.length_cons]; omega
    · simp only [List.length_cons, List.length_nil]; omega
/-- How a String is written, by how it is quoted. -/
theorem str_by (s : Tx) : strW s = if quoteW s = s then 34 :: (s ++ [34]) else quoteW s := by
  unfold strW
  cases hb : bareW s with
  | true =>
    have hq : quoteW s = s := by unfold quoteW; rw [hb, if_pos rfl]
    rw [bare_all, Bool.and_eq_true] at hb
    rw [if_pos rfl, if_pos hq, esc_bare hb.2]
  | false =>
    have hq : quoteW s ≠ s := fun h => by
      have hl := congrArg List.length h
      unfold quoteW at hl
      rw [hb, if_neg (by simp)] at hl
      split at hl
      · have := esc_ge s
        simp only [List.length_cons, List.length_append, List.length_nil] at hl
        omega
      · simp only [List.length_cons, List.length_append, List.length_nil] at hl
        omega
    rw [if_neg (by simp), if_neg hq]
theorem text_eq {a b : ByteArray} (h : a.data.toList = b.data.toList) : a = b := ByteArray.ext (Array.ext' h)
set_option maxHeartbeats 4000000 in
set_option maxRecDepth 100000 in
theorem rtext_1 (x : Ar) (tb : ByteArray) (xa : Option Addr) (xn xc : Nat) (w : World) (hk : x.kind = 1) (htb : tb.data.toList = x.text) :
    Calls Tryz.prog 37 #[.agg #[.int .i64 x.kind, .string tb, .slice xa xn xc]] w fun e w' => (∃ t : ByteArray, e = .returned (.string t) ∧ t.data.toList = prA x) ∧ Below w.heap.size w w' := by
  rw [hk, prA_1 hk, ← htb]
  go_enter Tryz.func37, Tryz.ntmps37
  go_wp2_with fail
  go_ret
  exact ⟨⟨tb, rfl, rfl⟩, (Below.refl _ _).alloc (Nat.le_refl _) _⟩
set_option maxHeartbeats 4000000 in
set_option maxRecDepth 100000 in
theorem rtext_2 (x : Ar) (tb : ByteArray) (xa : Option Addr) (xn xc : Nat) (w : World) (hk : x.kind = 2) (htb : tb.data.toList = x.text) (hz : tb.size ≤ 100000) (hg : NumAt w) :
    Calls Tryz.prog 37 #[.agg #[.int .i64 x.kind, .string tb, .slice xa xn xc]] w fun e w' => (∃ t : ByteArray, e = .returned (.string t) ∧ t.data.toList = prA x) ∧ Below w.heap.size w w' := by
  rw [hk, prA_2 hk, str_by, ← htb]
  obtain ⟨T, hT⟩ : ∃ T, (if quoteW tb.data.toList = tb.data.toList then 34 :: (tb.data.toList ++ [34]) else quoteW tb.data.toList) = T := ⟨_, rfl⟩
  rw [hT]
  have HT : Hid ((if quoteW tb.data.toList = tb.data.toList then 34 :: (tb.data.toList ++ [34]) else quoteW tb.data.toList) = T) := hT
  clear hT
  have eA := heap_alloc_new w (.cells #[.int .i64 2, .string tb, .slice xa xn xc] 59)
  have bA : Below w.heap.size w (w.alloc (.cells #[.int .i64 2, .string tb, .slice xa xn xc] 59)) := (Below.refl _ _).alloc (Nat.le_refl _) _
  obtain ⟨W1, hW1⟩ : ∃ W, w.alloc (.cells #[.int .i64 2, .string tb, .slice xa xn xc] 59) = W := ⟨_, rfl⟩
  rw [hW1] at eA bA
  have z1 : W1.heap.size = w.heap.size + 1 := by rw [← hW1]; simp
  have cQ := rquote_is tb W1 hz (hg.below bA)
  have a0 : W1.cell? ⟨w.heap.size, 0, none⟩ = some (.int .i64 2) := rd_cell eA rfl
  have a1 : W1.cell? ⟨w.heap.size, 1, none⟩ = some (.string tb) := rd_cell eA rfl
  have HA : Hid (W1.heap[w.heap.size]? = some (.cells #[.int .i64 2, .string tb, .slice xa xn xc] 59 (0, 0)) ∧ Below w.heap.size w W1 ∧ W1.heap.size = w.heap.size + 1) := ⟨eA, bA, z1⟩
  clear eA bA z1 htb hg
  go_enter Tryz.func37, Tryz.ntmps37
  go_wp2_with fail
  refine cQ.mono ?_
  rintro e w2 ⟨⟨t, rfl, ht⟩, hb⟩
  have c1 : w2.cell? ⟨w.heap.size, 1, none⟩ = some (.string tb) := (hb.cell (by show w.heap.size < _; have := HA.out.2.2; omega)).trans a1
  have HB : Hid (Below w.heap.size w w2) := HA.out.2.1.trans (hb.mono HA.out.2.1.size)
  clear cQ hb
  by_cases hq : quoteW tb.data.toList = tb.data.toList
  · obtain rfl : t = tb := text_eq (ht.trans hq)
    have hT := HT.out
    rw [if_pos hq] at hT
    have v1 : (9223372036854775807 < 1 + t.size) = False := eq_false (by omega)
    have v2 : (9223372036854775807 < 1 + t.size + 1) = False := eq_false (by omega)
    have HF : Hid (((⟨#[34]⟩ : ByteArray) ++ t ++ ⟨#[34]⟩).data.toList = T) := by
      show _ = _
      rw [cat_text, cat_text, ← hT]
      simp
    clear ht hq hT HT
    go_wp2_with fail
    go_ret
    exact ⟨⟨_, rfl, HF.out⟩, HB.out⟩
  · have hT := HT.out
    rw [if_neg hq] at hT
    have hne : (t.toList == tb.toList) = false := by
      rw [beq_eq_false_iff_ne, Lib.toList_data, Lib.toList_data, ht]
      exact hq
    have hne2 : (t.toList != tb.toList) = true := by rw [bne, hne]; rfl
    have HF : Hid (t.data.toList = T) := ht.trans hT
    clear ht hq hT HT
    go_wp2_with fail
    go_ret
    exact ⟨⟨_, rfl, HF.out⟩, HB.out⟩
set_option maxHeartbeats 4000000 in
set_option maxRecDepth 100000 in
theorem rtext_3 (x : Ar) (tb : ByteArray) (xa : Option Addr) (N xc : Nat) (w : World) (hk : x.kind = 3) (hl : Agw w (fun k => k < w.heap.size) x.list (.slice xa N xc)) (hN : x.list.length = N) (hll : N ≤ 100000) (hlen : (prL true x.list).length ≤ 100000000) (hg : NumAt w)
    (cR : ∀ y ∈ x.list, ∀ (tb : ByteArray) (ya : Option Addr) (yn yc : Nat) (W : World), tb.data.toList = y.text → Agw W (fun k => k < W.heap.size) y.list (.slice ya yn yc) → NumAt W → (prA y).length ≤ 100000000 →
      Calls Tryz.prog 37 #[.agg #[.int .i64 y.kind, .string tb, .slice ya yn yc]] W fun e w' => (∃ t : ByteArray, e = .returned (.string t) ∧ t.data.toList = prA y) ∧ Below W.heap.size W w') :
    Calls Tryz.prog 37 #[.agg #[.int .i64 x.kind, .string tb, .slice xa N xc]] w fun e w' => (∃ t : ByteArray, e = .returned (.string t) ∧ t.data.toList = prA x) ∧ Below w.heap.size w w' := by
  rw [hk, prA_3 hk]
  obtain ⟨l, hxl⟩ : ∃ l, x.list = l := ⟨_, rfl⟩
  rw [hxl] at hl hN hlen cR ⊢
  have eA := heap_alloc_new w (.cells #[.int .i64 3, .string tb, .slice xa N xc] 59)
  have bA : Below w.heap.size w (w.alloc (.cells #[.int .i64 3, .string tb, .slice xa N xc] 59)) := (Below.refl _ _).alloc (Nat.le_refl _) _
  obtain ⟨W1, hW1⟩ : ∃ W, w.alloc (.cells #[.int .i64 3, .string tb, .slice xa N xc] 59) = W := ⟨_, rfl⟩
  rw [hW1] at eA bA
  have a0 : W1.cell? ⟨w.heap.size, 0, none⟩ = some (.int .i64 3) := rd_cell eA rfl
  have a2 : W1.cell? ⟨w.heap.size, 2, none⟩ = some (.slice xa N xc) := rd_cell eA rfl
  have HB1 : Hid (Below w.heap.size w W1) := bA
  have HL : Hid (∀ W, Below w.heap.size w W → Agw W (fun k => k < w.heap.size) l (.slice xa N xc)) := fun W hW => hl.kept fun k hk _ => ⟨hk, hW.block k hk⟩
  have HN : Hid (l.length = N) := hN
  have HT : Hid (∀ k, (prL true (l.take k)).length ≤ (prL true l).length) := fun k => prL_take_le l true k
  have HG : Hid (NumAt w) := hg
  have HC : Hid (∀ y ∈ l, ∀ (tb : ByteArray) (ya : Option Addr) (yn yc : Nat) (W : World), tb.data.toList = y.text → Agw W (fun k => k < W.heap.size) y.list (.slice ya yn yc) → NumAt W → (prA y).length ≤ 100000000 →
      Calls Tryz.prog 37 #[.agg #[.int .i64 y.kind, .string tb, .slice ya yn yc]] W fun e w' => (∃ t : ByteArray, e = .returned (.string t) ∧ t.data.toList = prA y) ∧ Below W.heap.size W w') := cR
  obtain ⟨PL, hPL⟩ : ∃ n, (prL true l).length = n := ⟨_, rfl⟩
  rw [hPL] at hlen HT
  clear hl cR hN hg hxl hk eA bA hPL
  go_enter Tryz.func37, Tryz.ntmps37
  go_wp2_with fail
  go_loopw [4, 30] (fun sv i wr => ∃ (k : Nat) (t : ByteArray), i = .int .i64 (k : Int) ∧ k ≤ N ∧ sv = .string t ∧ t.size ≤ 1 + PL ∧ Hid (t.data.toList = 40 :: prL true (l.take k)) ∧ Below w.heap.size w wr) (fun _ i _ => N - (intOf i).toNat)
  case atStart => exact ⟨0, ⟨#[40]⟩, rfl, by omega, rfl, by show 1 ≤ _; omega, by rw [List.take_zero, prL]; exact rfl, HB1.out⟩
  case round =>
    obtain ⟨k, t, rfl, hk, rfl, htz, HV, hb⟩ := hrel
    have HB : Hid (Below w.heap.size w wr) := hb
    by_cases hlt : k < N
    · have hkl : k < l.length := by rw [HN.out]; exact hlt
      obtain ⟨y, hy⟩ : ∃ y, l[k] = y := ⟨_, rfl⟩
      have hyk : l[k]? = some y := by rw [List.getElem?_eq_getElem hkl, hy]
      obtain ⟨bb, o, yb, ya, yn, yc, rfl, hyb, hag, q0, q1, q2⟩ := agw_at (HL.out wr hb) hyk
      have hnext := prL_next hyk
      have hmem : y ∈ l := List.mem_of_getElem? hyk
      have hT1 := HT.out (k + 1)
      have eA := heap_alloc_new wr (.cells #[.int .i64 y.kind, .string yb, .slice ya yn yc] 59)
      have hbA : Below wr.heap.size wr (wr.alloc (.cells #[.int .i64 y.kind, .string yb, .slice ya yn yc] 59)) := (Below.refl _ _).alloc (Nat.le_refl _) _
      obtain ⟨W2, hW2⟩ : ∃ W, wr.alloc (.cells #[.int .i64 y.kind, .string yb, .slice ya yn yc] 59) = W := ⟨_, rfl⟩
      rw [hW2] at eA hbA
      have hb2 : Below w.heap.size w W2 := hb.trans (hbA.mono hb.size)
      have hz2 := hb.size
      have hag2 : Agw W2 (fun k => k < W2.heap.size) y.list (.slice ya yn yc) := hag.kept fun q hq hlt => ⟨by have := hbA.size; omega, hbA.block q hlt⟩
      have c0 : W2.cell? ⟨wr.heap.size, 0, none⟩ = some (.int .i64 y.kind) := rd_cell eA rfl
      have c1 : W2.cell? ⟨wr.heap.size, 1, none⟩ = some (.string yb) := rd_cell eA rfl
      have c2 : W2.cell? ⟨wr.heap.size, 2, none⟩ = some (.slice ya yn yc) := rd_cell eA rfl
      have htl : t.size = 1 + (prL true (l.take k)).length := by rw [← wsize, HV.out, List.length_cons]; omega
      by_cases hk0 : k = 0
      · rw [if_pos hk0, List.nil_append] at hnext
        rw [hnext, List.length_append] at hT1
        have cQ := HC.out y hmem yb ya yn yc W2 hyb hag2 (HG.out.below hb2) (by omega)
        have HX : Hid (∀ u : ByteArray, u.data.toList = prA y → (t ++ u).data.toList = 40 :: prL true (l.take (k + 1)) ∧ (t ++ u).size ≤ 1 + PL ∧ t.size + u.size ≤ 100000001) := fun u hu => by
          have hus : u.size = (prA y).length := by rw [← wsize, hu]
          refine ⟨by rw [cat_text, HV.out, hu, hnext]; simp, ?_, by omega⟩
          rw [cat_sz]; omega
        have HB2 : Hid (Below w.heap.size w W2) := hb2
        have dk : decide ((0 : Int) < (k : Int)) = false := decide_eq_false (by omega)
        have dn : decide (0 < k) = false := decide_eq_false (by omega)
        clear hnext hy hyk hag hag2 hyb hmem hT1 eA hbA hb hb2 hkl hk0 htl
        go_wp2_with fail
        refine cQ.mono ?_
        rintro e w3 ⟨⟨u, rfl, hu⟩, hb3⟩
        obtain ⟨x1, x2, x3⟩ := HX.out u hu
        have HY : Hid ((t ++ u).data.toList = 40 :: prL true (l.take (k + 1)) ∧ (t ++ u).size ≤ 1 + PL ∧ Below w.heap.size w w3) := ⟨x1, x2, HB2.out.trans (hb3.mono HB2.out.size)⟩
        have v1 : (9223372036854775807 < t.size + u.size) = False := eq_false (by omega)
        clear cQ hu hb3 x1 x2 x3 HX
        go_wp2_with fail
        go_roundw
        case rel => exact ⟨k + 1, t ++ u, by go_num, by omega, rfl, HY.out.2.1, HY.out.1, HY.out.2.2⟩
        case measure => simp [intOf]; omega
      · rw [if_neg hk0] at hnext
        rw [hnext, List.length_append, List.length_append, List.length_singleton] at hT1
        have cQ := HC.out y hmem yb ya yn yc W2 hyb hag2 (HG.out.below hb2) (by omega)
        have HX : Hid (∀ u : ByteArray, u.data.toList = prA y → (t ++ ⟨#[32]⟩ ++ u).data.toList = 40 :: prL true (l.take (k + 1)) ∧ (t ++ ⟨#[32]⟩ ++ u).size ≤ 1 + PL ∧ t.size + 1 + u.size ≤ 100000001) := fun u hu => by
          have hus : u.size = (prA y).length := by rw [← wsize, hu]
          refine ⟨by rw [cat_text, cat_text, HV.out, hu, hnext]; simp, ?_, by omega⟩
          rw [cat_sz, cat_sz]
          show t.size + 1 + u.size ≤ _
          omega
        have HB2 : Hid (Below w.heap.size w W2) := hb2
        have dk : decide ((0 : Int) < (k : Int)) = true := decide_eq_true (by omega)
        have dn : decide (0 < k) = true := decide_eq_true (by omega)
        have v0 : (9223372036854775807 < t.size + 1) = False := eq_false (by omega)
        clear hnext hy hyk hag hag2 hyb hmem hT1 eA hbA hb hb2 hkl hk0 htl
        go_wp2_with fail
        refine cQ.mono ?_
        rintro e w3 ⟨⟨u, rfl, hu⟩, hb3⟩
        obtain ⟨x1, x2, x3⟩ := HX.out u hu
        have HY : Hid ((t ++ ⟨#[32]⟩ ++ u).data.toList = 40 :: prL true (l.take (k + 1)) ∧ (t ++ ⟨#[32]⟩ ++ u).size ≤ 1 + PL ∧ Below w.heap.size w w3) := ⟨x1, x2, HB2.out.trans (hb3.mono HB2.out.size)⟩
        have v1 : (9223372036854775807 < t.size + 1 + u.size) = False := eq_false (by omega)
        clear cQ hu hb3 x1 x2 x3 HX
        go_wp2_with fail
        go_roundw
        case rel => exact ⟨k + 1, t ++ (⟨#[32]⟩ : ByteArray) ++ u, by go_num, by omega, rfl, HY.out.2.1, HY.out.1, HY.out.2.2⟩
        case measure => simp [intOf]; omega
    · obtain rfl : k = N := by omega
      have v0 : (9223372036854775807 < t.size + 1) = False := eq_false (by omega)
      have HF : Hid ((t ++ ⟨#[41]⟩).data.toList = 40 :: (prL true l ++ [41])) := by
        have h1 := HV.out
        rw [List.take_of_length_le (by rw [HN.out]; exact Nat.le_refl _)] at h1
        show _ = _
        rw [cat_text, h1]
        simp
      clear HV hb
      go_wp2_with fail
      go_ret
      exact ⟨⟨_, rfl, HF.out⟩, HB.out⟩
theorem prA_le : ∀ {l : List Ar} {first : Bool} {y : Ar}, y ∈ l → (prA y).length ≤ (prL first l).length
  | a :: l, first, y, h => by
    rw [prL]
    simp only [List.length_append]
    rcases List.mem_cons.1 h with rfl | h
    · omega
    · have := prA_le (first := false) h
      omega
theorem agw_len {w : World} {Ok : Nat → Prop} {l : List Ar} {va : Option Addr} {N vc : Nat} (h : Agw w Ok l (.slice va N vc)) : l.length = N := by
  obtain ⟨a, c, hv⟩ := h.form
  injection hv with _ h2 _
  exact h2.symm
theorem rtext_is : ∀ (f : Nat) (x : Ar) (tb : ByteArray) (xa : Option Addr) (xn xc : Nat) (w : World), x.text.length ≤ 100000 → (x.kind = 1 ∨ x.kind = 2 ∨ (x.kind = 3 ∧ Pr f x.list)) → tb.data.toList = x.text → Agw w (fun k => k < w.heap.size) x.list (.slice xa xn xc) → NumAt w → (prA x).length ≤ 100000000 →
    Calls Tryz.prog 37 #[.agg #[.int .i64 x.kind, .string tb, .slice xa xn xc]] w fun e w' => (∃ t : ByteArray, e = .returned (.string t) ∧ t.data.toList = prA x) ∧ Below w.heap.size w w'
  | f, x, tb, xa, xn, xc, w, hx, hk, htb, hl, hg, hlen => by
    rcases hk with hk | hk | ⟨hk, hp⟩
    · exact rtext_1 x tb xa xn xc w hk htb
    · exact rtext_2 x tb xa xn xc w hk htb (by rw [← wsize, htb]; exact hx) hg
    · have hN := agw_len hl
      rw [prA_3 hk] at hlen
      simp only [List.length_cons, List.length_append, List.length_nil] at hlen
      match f, hp with
      | f + 1, hp =>
        refine rtext_3 x tb xa xn xc w hk hl hN (by rw [← hN]; exact hp.1) (by omega) hg fun y hy yb ya yn yc W h1 h2 h3 h4 => ?_
        exact rtext_is f y yb ya yn yc W (hp.2 y hy).1 (hp.2 y hy).2 h1 h2 h3 h4
set_option maxHeartbeats 4000000 in
set_option maxRecDepth 100000 in
theorem rprint_is (tb nb : ByteArray) (l : List Ar) (va : Option Addr) (vc N : Nat) (w : World) (hN : l.length = N) (hl : Agw w (fun k => k < w.heap.size) l (.slice va N vc)) (hp : Pr 900 l) (htb : tb.size ≤ 100000) (hnb : nb.size ≤ 100000) (hlen : (prL false l).length ≤ 10000000) (hg : NumAt w) :
    Calls Tryz.prog 12 #[.agg #[.string tb, .string nb, .slice va N vc]] w fun e w' => (∃ t : ByteArray, e = .returned (.string t) ∧ t.data.toList = prC tb.data.toList nb.data.toList l) ∧ Below w.heap.size w w' := by
  have hll : N ≤ 100000 := by rw [← hN]; exact hp.1
  have eA := heap_alloc_new w (.cells #[.string tb, .string nb, .slice va N vc] 32)
  have bA : Below w.heap.size w (w.alloc (.cells #[.string tb, .string nb, .slice va N vc] 32)) := (Below.refl _ _).alloc (Nat.le_refl _) _
  obtain ⟨W1, hW1⟩ : ∃ W, w.alloc (.cells #[.string tb, .string nb, .slice va N vc] 32) = W := ⟨_, rfl⟩
  rw [hW1] at eA bA
  have a0 : W1.cell? ⟨w.heap.size, 0, none⟩ = some (.string tb) := rd_cell eA rfl
  have a1 : W1.cell? ⟨w.heap.size, 1, none⟩ = some (.string nb) := rd_cell eA rfl
  have a2 : W1.cell? ⟨w.heap.size, 2, none⟩ = some (.slice va N vc) := rd_cell eA rfl
  have HB1 : Hid (Below w.heap.size w W1) := bA
  have HL : Hid (∀ W, Below w.heap.size w W → Agw W (fun k => k < w.heap.size) l (.slice va N vc)) := fun W hW => hl.kept fun k hk _ => ⟨hk, hW.block k hk⟩
  have HN : Hid (l.length = N) := hN
  have HT : Hid (∀ k, (prL false (l.take k)).length ≤ (prL false l).length) := fun k => prL_take_le l false k
  have HG : Hid (NumAt w) := hg
  have HP : Hid (∀ y ∈ l, y.text.length ≤ 100000 ∧ (y.kind = 1 ∨ y.kind = 2 ∨ (y.kind = 3 ∧ Pr 899 y.list))) := hp.2
  obtain ⟨PL, hPL⟩ : ∃ n, (prL false l).length = n := ⟨_, rfl⟩
  rw [hPL] at hlen HT
  obtain ⟨hd, hhd⟩ : ∃ t : ByteArray, tb ++ ⟨#[32]⟩ ++ nb = t := ⟨_, rfl⟩
  have hhz : hd.size = tb.size + 1 + nb.size := by rw [← hhd, cat_sz, cat_sz]; rfl
  have HH : Hid (hd.data.toList = tb.data.toList ++ 32 :: nb.data.toList) := by show _ = _; rw [← hhd, cat_text, cat_text]; simp
  have hs1 : (9223372036854775807 < tb.size + 1) = False := eq_false (by omega)
  have hs2 : (9223372036854775807 < tb.size + 1 + nb.size) = False := eq_false (by omega)
  have hhz2 : hd.size ≤ 200001 := by omega
  clear hl hN hg hp eA bA hPL hhz
  go_enter Tryz.func12, Tryz.ntmps12
  go_wp2_with fail
  go_loopw [3, 15] (fun sv i wr => ∃ (k : Nat) (t : ByteArray), i = .int .i64 (k : Int) ∧ k ≤ N ∧ sv = .string t ∧ t.size ≤ 200001 + PL ∧ Hid (t.data.toList = hd.data.toList ++ prL false (l.take k)) ∧ Below w.heap.size w wr) (fun _ i _ => N - (intOf i).toNat)
  case atStart => exact ⟨0, hd, rfl, by omega, rfl, by omega, by rw [List.take_zero, prL]; exact (List.append_nil _).symm, HB1.out⟩
  case round =>
    obtain ⟨k, t, rfl, hk, rfl, htz, HV, hb⟩ := hrel
    have HB : Hid (Below w.heap.size w wr) := hb
    by_cases hlt : k < N
    · have hkl : k < l.length := by rw [HN.out]; exact hlt
      obtain ⟨y, hy⟩ : ∃ y, l[k] = y := ⟨_, rfl⟩
      have hyk : l[k]? = some y := by rw [List.getElem?_eq_getElem hkl, hy]
      obtain ⟨bb, o, yb, ya, yn, yc, rfl, hyb, hag, q0, q1, q2⟩ := agw_at (HL.out wr hb) hyk
      have hnext := prF_next hyk
      have hmem : y ∈ l := List.mem_of_getElem? hyk
      have hT1 := HT.out (k + 1)
      have eA := heap_alloc_new wr (.cells #[.int .i64 y.kind, .string yb, .slice ya yn yc] 59)
      have hbA : Below wr.heap.size wr (wr.alloc (.cells #[.int .i64 y.kind, .string yb, .slice ya yn yc] 59)) := (Below.refl _ _).alloc (Nat.le_refl _) _
      obtain ⟨W2, hW2⟩ : ∃ W, wr.alloc (.cells #[.int .i64 y.kind, .string yb, .slice ya yn yc] 59) = W := ⟨_, rfl⟩
      rw [hW2] at eA hbA
      have hb2 : Below w.heap.size w W2 := hb.trans (hbA.mono hb.size)
      have hz2 := hb.size
      have hag2 : Agw W2 (fun k => k < W2.heap.size) y.list (.slice ya yn yc) := hag.kept fun q hq hlt => ⟨by have := hbA.size; omega, hbA.block q hlt⟩
      have c0 : W2.cell? ⟨wr.heap.size, 0, none⟩ = some (.int .i64 y.kind) := rd_cell eA rfl
      have c1 : W2.cell? ⟨wr.heap.size, 1, none⟩ = some (.string yb) := rd_cell eA rfl
      have c2 : W2.cell? ⟨wr.heap.size, 2, none⟩ = some (.slice ya yn yc) := rd_cell eA rfl
      have htl : t.size = hd.size + (prL false (l.take k)).length := by rw [← wsize, HV.out, List.length_append, wsize]
      rw [hnext, List.length_append, List.length_cons] at hT1
      have cQ := rtext_is 899 y yb ya yn yc W2 (HP.out y hmem).1 (HP.out y hmem).2 hyb hag2 (HG.out.below hb2) (by omega)
      have HX : Hid (∀ u : ByteArray, u.data.toList = prA y → (t ++ (⟨#[32]⟩ ++ u)).data.toList = hd.data.toList ++ prL false (l.take (k + 1)) ∧ (t ++ (⟨#[32]⟩ ++ u)).size ≤ 200001 + PL ∧ t.size + (1 + u.size) ≤ 100000001) := fun u hu => by
        have hus : u.size = (prA y).length := by rw [← wsize, hu]
        refine ⟨by rw [cat_text, cat_text, HV.out, hu, hnext]; simp, ?_, by omega⟩
        rw [cat_sz, cat_sz]
        show t.size + (1 + u.size) ≤ _
        omega
      have HB2 : Hid (Below w.heap.size w W2) := hb2
      clear hnext hy hyk hag hag2 hyb hmem hT1 eA hbA hb hb2 hkl htl
      go_wp2_with fail
      refine cQ.mono ?_
      rintro e w3 ⟨⟨u, rfl, hu⟩, hb3⟩
      obtain ⟨x1, x2, x3⟩ := HX.out u hu
      have HY : Hid ((t ++ (⟨#[32]⟩ ++ u)).data.toList = hd.data.toList ++ prL false (l.take (k + 1)) ∧ (t ++ (⟨#[32]⟩ ++ u)).size ≤ 200001 + PL ∧ Below w.heap.size w w3) := ⟨x1, x2, HB2.out.trans (hb3.mono HB2.out.size)⟩
      have v1 : (9223372036854775807 < 1 + u.size) = False := eq_false (by omega)
      have v2 : (9223372036854775807 < t.size + (1 + u.size)) = False := eq_false (by omega)
      clear cQ hu hb3 x1 x2 x3 HX
      go_wp2_with fail
      go_roundw
      case rel => exact ⟨k + 1, t ++ ((⟨#[32]⟩ : ByteArray) ++ u), by go_num, by omega, rfl, HY.out.2.1, HY.out.1, HY.out.2.2⟩
      case measure => simp [intOf]; omega
    · obtain rfl : k = N := by omega
      have v0 : (9223372036854775807 < t.size + 2) = False := eq_false (by omega)
      have HF : Hid ((t ++ ⟨#[13, 10]⟩).data.toList = prC tb.data.toList nb.data.toList l) := by
        have h1 := HV.out
        rw [List.take_of_length_le (by rw [HN.out]; exact Nat.le_refl _)] at h1
        show _ = _
        rw [cat_text, h1, HH.out]
        simp [prC]
      clear HV hb
      go_wp2_with fail
      go_ret
      exact ⟨⟨_, rfl, HF.out⟩, HB.out⟩
end Go.Proofs.YtmcpohnilgbicaaGreatDoor
