/-
  The document's view: how it is opened, what it is told to know.
-/
import Derived.Test.YtgpcnacpefficaaGreatDoorBpBoxRow
import Derived.Test.YtgpcnacpefficaaGreatDoorMViewMeet
namespace Go.Proofs.YtgpcnacpefficaaGreatDoor
open Go.RowKit Go.Proofs.Aid Go.Proofs.Bx

/-- One message more behind a row of the call's own; what is put there lies at nb. -/
theorem lown_push {w0 w : World} {base : Nat} {va : Option Addr} {ca : Nat} {L : List Lt} (h : LOwn w0 w base (.slice va L.length ca) L) (hL : L.length ≤ 1000) (x : Lt) (xs : List Value) (hx : LtRow w0 x xs) (nb : Nat) (hnb : ∀ j u, xs[j]? = some u → w.cell? ⟨nb, j, none⟩ = some u) (hcell : ∀ u ∈ xs, u.oneCell' = true) (hbase : base ≤ w.heap.size) :
    ∃ g cap W, (Builtin.append_ #[22, 22] 22 #[.slice va L.length ca, .slice (some ⟨nb, 0, none⟩) 1 1]).run Tryz.prog w = .ok (.slice (some ⟨g, 0, none⟩) (L.length + 1) cap) W ∧
      LOwn w0 W base (.slice (some ⟨g, 0, none⟩) (L.length + 1) cap) (L ++ [x]) ∧ (W.os = w.os ∧ W.tape = w.tape ∧ W.output = w.output ∧ w.heap.size ≤ W.heap.size ∧ ∀ q, q < w.heap.size → (Value.slice va L.length ca).ownBlock ≠ some q → W.heap[q]? = w.heap[q]?) ∧ ((Value.slice va L.length ca).ownBlock = some g ∨ w.heap.size ≤ g) := by
  obtain ⟨rows, h1, h2, h3, h4⟩ := h
  obtain ⟨j0, hj, hz, hs, hby⟩ := info_parts Tryz.infoLt
  have hlen := hx.len
  have hnews : ∀ j u, xs[j]? = some u → w.cell? ((⟨nb, 0, none⟩ : Addr).add j) = some u := fun j u hu => by
    rw [Addr.add_lit, Nat.zero_add]
    exact hnb j u hu
  obtain ⟨g9, cap9, W9, hrun, hown9, hg9, hor9, hlt9⟩ := run_append_lies (P := Tryz.prog) w 22 22 base 51 j0 (.agg #[.int .i64 0, .slice none 0 0, .int .i64 0, .string ⟨#[]⟩]) 4 56 Tryz.underlying22 hj hz hs hby rfl (by decide) (.slice va L.length ca) L.length _ h1 ⟨nb, 0, none⟩ 1 1 xs (by rw [hlen]) hnews hcell (by decide) (by unfold maxLen; omega) (by omega) hbase _ rfl
  refine ⟨g9, cap9, W9, hrun, ⟨rows ++ [xs], ?_, by simp [h2], fun j y ys hj hy => ?_, fun ys hy => ?_⟩, ⟨hg9.os, hg9.tape, hg9.output, hg9.size, fun q hq hne => hg9.block q hq (fun e => hne e.symm)⟩, hor9.imp id fun e => by omega⟩
  · rw [List.length_append, List.flatten_append, List.flatten_cons, List.flatten_nil, List.append_nil]
    exact hown9
  · by_cases hjl : j < L.length
    · rw [List.getElem?_append_left hjl] at hj
      rw [List.getElem?_append_left (by omega)] at hy
      exact h3 j y ys hj hy
    · have : j < (L ++ [x]).length := (List.getElem?_eq_some_iff.1 hj).1
      obtain rfl : j = L.length := by simp at this; omega
      rw [List.getElem?_append_right (Nat.le_refl _), Nat.sub_self] at hj
      rw [List.getElem?_append_right (by omega), h2, Nat.sub_self] at hy
      obtain rfl : x = y := by simpa using hj
      obtain rfl := Option.some.inj hy
      exact hx
  · rcases List.mem_append.1 hy with h | h
    · exact h4 ys h
    · rw [List.mem_singleton.1 h]; exact hlen
/-- A row of the call's own stays where its block does. -/
theorem LOwn.same {w0 w w' : World} {base : Nat} {v : Value} {l : List Lt} (h : LOwn w0 w base v l) (hk : ∀ q, base ≤ q → q < w.heap.size → v.ownBlock = some q → w'.heap[q]? = w.heap[q]?) : LOwn w0 w' base v l := by
  obtain ⟨rows, h1, h2, h3, h4⟩ := h
  exact ⟨rows, own_same h1 fun q hq => hk q (h1.lt q hq).1 (h1.lt q hq).2 hq, h2, h3, h4⟩
theorem LOwn.low {w0 w : World} {base base' : Nat} {v : Value} {l : List Lt} (h : LOwn w0 w base v l) (hb : base' ≤ base) : LOwn w0 w base' v l := by
  obtain ⟨rows, h1, h2, h3, h4⟩ := h
  exact ⟨rows, own_lower h1 hb, h2, h3, h4⟩
theorem LOwn.nil (w0 w : World) (base : Nat) : LOwn w0 w base (.slice none 0 0) [] := ⟨[], World.ownsRow_nil _ _ _ _, rfl, fun j x xs h => (by simp at h), fun xs h => (by cases h)⟩
theorem LOwn.form {w0 w : World} {base : Nat} {v : Value} {l : List Lt} (h : LOwn w0 w base v l) : ∃ a c, v = .slice a l.length c := by
  obtain ⟨rows, h1, _⟩ := h
  rcases h1.2 with ⟨h2, h3⟩ | ⟨g, cap, cur, hv, _⟩
  · exact ⟨none, 0, by rw [h2, h3]⟩
  · exact ⟨_, _, hv⟩
theorem LOwn.blk {w0 w : World} {base : Nat} {v : Value} {l : List Lt} (h : LOwn w0 w base v l) {q : Nat} (hq : v.ownBlock = some q) : base ≤ q ∧ q < w.heap.size := by
  obtain ⟨rows, h1, _⟩ := h
  exact h1.lt q hq
theorem LOwn.now {w0 w : World} {base : Nat} {v : Value} {l : List Lt} (h : LOwn w0 w base v l) (hs : ∀ fv F, Sl w0 fv F → Sl w fv F) : LOwn w w base v l := by
  obtain ⟨rows, h1, h2, h3, h4⟩ := h
  exact ⟨rows, h1, h2, fun j x xs h5 h6 => (by obtain ⟨fv, e1, e2⟩ := h3 j x xs h5 h6; exact ⟨fv, e1, hs fv _ e2⟩), h4⟩
/-- A message as a view has it. -/
def sgLt (x : Sg) : Lt := ⟨x.uid, x.flags, 0, []⟩
/-- The document's view in memory. -/
def RView (w : World) (ub : Nat) (uv : Value) (S : List Sg) : Prop := w.heap[ub]? = some (.cells #[uv] 49 (0, 0)) ∧ LOwn w w 0 uv (S.map sgLt)
/-- One more is put behind what a view has. -/
theorem vw_push {w0 w : World} {base ub LB n c : Nat} {va : Option Addr} {L : List Lt} {U : Int} {F : List Fl.Tx} {x2 x3 fv : Value} {t : TypeId}
    (hub : w.heap[ub]? = some (.cells #[.slice va n c] 49 (0, 0))) (hub2 : ub < base) (hL : LOwn w0 w base (.slice va n c) L) (hn : L.length = n) (hn9 : n ≤ 999) (hf : Sl w0 fv F) (hbase : base ≤ w.heap.size)
    (hLB : w.heap[LB]? = some (.cells #[.int .i64 U, fv, x2, x3] t (0, 0))) (hLn : (Value.slice va n c).ownBlock ≠ some LB) (hLu : LB ≠ ub) :
    ∃ (W8 : World) (g9 cap9 : Nat) (W9 : World), w.alloc (.cells #[.int .i64 U, fv, .int .i64 0, .string ⟨#[]⟩] 51) = W8 ∧ W8.cell? ⟨ub, 0, none⟩ = some (.slice va n c) ∧
      (Builtin.append_ #[22, 22] 22 #[.slice va n c, .slice (some ⟨w.heap.size, 0, none⟩) 1 1]).run Tryz.prog W8 = .ok (.slice (some ⟨g9, 0, none⟩) (n + 1) cap9) W9 ∧ W9.cell? ⟨ub, 0, none⟩ = some (.slice va n c) ∧ W9.frozen? ⟨ub, 0, none⟩ = false ∧
      Hid (∀ W, W = W8 ∨ W = W9 ∨ W = W9.setCell ⟨ub, 0, none⟩ (.slice (some ⟨g9, 0, none⟩) (n + 1) cap9) → W.cell? ⟨LB, 0, none⟩ = some (.int .i64 U) ∧ W.cell? ⟨LB, 1, none⟩ = some fv) ∧
      Hid ((W9.setCell ⟨ub, 0, none⟩ (.slice (some ⟨g9, 0, none⟩) (n + 1) cap9)).heap[ub]? = some (.cells #[.slice (some ⟨g9, 0, none⟩) (n + 1) cap9] 49 (0, 0)) ∧
        LOwn w0 (W9.setCell ⟨ub, 0, none⟩ (.slice (some ⟨g9, 0, none⟩) (n + 1) cap9)) base (.slice (some ⟨g9, 0, none⟩) (n + 1) cap9) (L ++ [⟨U, F, 0, []⟩]) ∧
        But base ub w (W9.setCell ⟨ub, 0, none⟩ (.slice (some ⟨g9, 0, none⟩) (n + 1) cap9)) ∧
        ∀ q, q < w.heap.size → q ≠ ub → (Value.slice va n c).ownBlock ≠ some q → (W9.setCell ⟨ub, 0, none⟩ (.slice (some ⟨g9, 0, none⟩) (n + 1) cap9)).heap[q]? = w.heap[q]?) := by
  subst hn
  obtain ⟨fa, fc, hfv, _⟩ := id hf
  have b8 : Below w.heap.size w (w.alloc (.cells #[.int .i64 U, fv, .int .i64 0, .string ⟨#[]⟩] 51)) := (Below.refl _ _).alloc (Nat.le_refl _) _
  have e8 := heap_alloc_new w (.cells #[.int .i64 U, fv, .int .i64 0, .string ⟨#[]⟩] 51)
  have hL8 : LOwn w0 (w.alloc (.cells #[.int .i64 U, fv, .int .i64 0, .string ⟨#[]⟩] 51)) base (.slice va L.length c) L := hL.same fun q _ hq _ => b8.block q hq
  obtain ⟨g9, cap9, W9, hrun, hO, ⟨k1, k2, k3, k4, k5⟩, hor⟩ := lown_push hL8 (by omega) ⟨U, F, 0, []⟩ [.int .i64 U, fv, .int .i64 0, .string ⟨#[]⟩] ⟨fv, rfl, hf⟩ w.heap.size (fun j u hu => rd_cell e8 (by simpa using hu)) (by rw [hfv]; simp [Value.oneCell']) (by have := b8.size; omega)
  have hubl := (Array.getElem?_eq_some_iff.1 hub).1
  have hLl := (Array.getElem?_eq_some_iff.1 hLB).1
  have hz8 := b8.size
  have hno : (Value.slice va L.length c).ownBlock ≠ some ub := fun e => by have := (hL.blk e).1; omega
  have u8 := (b8.block ub hubl).trans hub
  have u9 := (k5 ub (by omega) hno).trans u8
  have l8 := (b8.block LB hLl).trans hLB
  have l9 := (k5 LB (by omega) hLn).trans l8
  have hset : ∀ q, q ≠ ub → (W9.setCell ⟨ub, 0, none⟩ (.slice (some ⟨g9, 0, none⟩) (L.length + 1) cap9)).heap[q]? = W9.heap[q]? := fun q hq => Below.heap_setCell _ _ _ _ hq
  have lX := (hset LB hLu).trans l9
  have hfr : ∀ q, q < w.heap.size → q ≠ ub → (Value.slice va L.length c).ownBlock ≠ some q → (W9.setCell ⟨ub, 0, none⟩ (.slice (some ⟨g9, 0, none⟩) (L.length + 1) cap9)).heap[q]? = w.heap[q]? := fun q hq h1 h2 => (hset q h1).trans ((k5 q (by omega) h2).trans (b8.block q hq))
  refine ⟨_, g9, cap9, W9, rfl, rd_cell u8 rfl, hrun, rd_cell u9 rfl, rd_free u9 0, ?_, rd_set (i := 0) _ u9, hO.same fun q hq _ _ => hset q (by omega), ⟨?_, ?_, ?_, ?_, fun q hq h1 => hfr q (by omega) h1 fun e => by have := (hL.blk e).1; omega⟩, hfr⟩
  · rintro W (rfl | rfl | rfl)
    · exact ⟨rd_cell l8 rfl, rd_cell l8 rfl⟩
    · exact ⟨rd_cell l9 rfl, rd_cell l9 rfl⟩
    · exact ⟨rd_cell lX rfl, rd_cell lX rfl⟩
  · exact k1.trans b8.os
  · exact k2.trans b8.tape
  · exact k3.trans b8.output
  · have : (W9.setCell ⟨ub, 0, none⟩ (.slice (some ⟨g9, 0, none⟩) (L.length + 1) cap9)).heap.size = W9.heap.size := by simp
    rw [this]; omega
/-- How far Open is. -/
def OpI (w : World) (l : List Lt) (k : Nat) (wr : World) : Prop :=
  ∃ (va : Option Addr) (c : Nat), wr.heap[w.heap.size + 1]? = some (.cells #[.slice va k c] 49 (0, 0)) ∧ LOwn w wr (w.heap.size + 2) (.slice va k c) (((l.take k).map sgOf).map sgLt) ∧ Below w.heap.size w wr ∧ w.heap.size + 2 ≤ wr.heap.size
set_option maxHeartbeats 4000000 in
set_option maxRecDepth 100000 in
theorem ropen_is (vv nn : Int) (lv : Value) (l : List Lt) (w : World) (hl : Lts w lv l) (hS : l.length ≤ 900) :
    Calls Tryz.prog 8 #[.agg #[.int .i64 vv, .int .i64 nn, lv]] w fun e w' =>
      ∃ ub uv, e = .returned (.pointer (some ⟨ub, 0, none⟩)) ∧ w.heap.size ≤ ub ∧ RView w' ub uv (l.map sgOf) ∧ (∀ q, uv.ownBlock = some q → w.heap.size ≤ q) ∧ Below w.heap.size w w' := by
  obtain ⟨a, c, rfl, hcap, hrest⟩ := id hl
  have HL : Hid (l = [] ∨ ∃ b o, a = some ⟨b, o, none⟩ ∧ ∀ (j : Nat) x, l[j]? = some x → LtAt w b (o + j * 4) x) := hrest
  obtain ⟨m, hm⟩ : ∃ m, l.length = m := ⟨_, rfl⟩
  have HM : Hid (l.length = m) := hm
  rw [hm] at hS ⊢
  have bA : Below w.heap.size w ((w.alloc (.cells #[.int .i64 vv, .int .i64 nn, .slice a m c] 26)).alloc (.cells #[.slice none 0 0] 49)) := ((Below.refl _ _).alloc (Nat.le_refl _) _).alloc (by simp) _
  have eA := heap_alloc_new (w.alloc (.cells #[.int .i64 vv, .int .i64 nn, .slice a m c] 26)) (.cells #[.slice none 0 0] 49)
  have eB := heap_alloc_new w (.cells #[.int .i64 vv, .int .i64 nn, .slice a m c] 26)
  have eC : ((w.alloc (.cells #[.int .i64 vv, .int .i64 nn, .slice a m c] 26)).alloc (.cells #[.slice none 0 0] 49)).heap[w.heap.size]? = some (.cells #[.int .i64 vv, .int .i64 nn, .slice a m c] 26 (0, 0)) := (((Below.refl _ _).alloc (Nat.le_refl _) _).block _ (by simp)).trans eB
  rw [World.size_alloc] at eA
  have HS0 : Hid (OpI w l 0 ((w.alloc (.cells #[.int .i64 vv, .int .i64 nn, .slice a m c] 26)).alloc (.cells #[.slice none 0 0] 49))) := ⟨none, 0, eA, LOwn.nil _ _ _, bA, by simp⟩
  have k2 : ((w.alloc (.cells #[.int .i64 vv, .int .i64 nn, .slice a m c] 26)).alloc (.cells #[.slice none 0 0] 49)).cell? ⟨w.heap.size, 2, none⟩ = some (.slice a m c) := rd_cell eC rfl
  clear hl hcap hrest hm bA eA eB eC
  go_enter Tryz.func8, Tryz.ntmps8
  go_wp2_with fail
  go_loopw [11] (fun i wr => ∃ k : Nat, i = .int .i64 (k : Int) ∧ k ≤ m ∧ Hid (OpI w l k wr)) (fun i _ => m - (intOf i).toNat)
  case atStart => exact ⟨0, rfl, Nat.zero_le _, HS0.out⟩
  case round =>
    clear HS0 k2
    obtain ⟨k, rfl, hk, HI⟩ := hrel
    by_cases hlt : k < m
    · have hkl : k < l.length := by rw [HM.out]; exact hlt
      obtain ⟨x, hx⟩ : ∃ x, l[k] = x := ⟨_, rfl⟩
      have hxk : l[k]? = some x := by rw [List.getElem?_eq_getElem hkl, hx]
      obtain ⟨b, o, rfl, hat⟩ : ∃ b o, a = some ⟨b, o, none⟩ ∧ ∀ (j : Nat) x, l[j]? = some x → LtAt w b (o + j * 4) x := by
        rcases HL.out with h | h
        · rw [h] at hkl; simp at hkl
        · exact h
      obtain ⟨va, vc, y1, y2, y3, y4⟩ := HI.out
      obtain ⟨w0q0, ⟨fv, w0q1, hsf⟩, w0q3, w0q4⟩ := hat k x hxk
      have hbl := World.block_lt_of_cell? _ _ w0q0
      have ec : ∀ i, wr.cell? ⟨b, i, none⟩ = w.cell? ⟨b, i, none⟩ := fun i => y3.cell (p := ⟨b, i, none⟩) hbl
      have q0 := (ec _).trans w0q0
      have q1 := (ec _).trans w0q1
      have q3 := (ec _).trans w0q3
      have q4 := (ec _).trans w0q4
      obtain ⟨fa, fc, hfv, _⟩ := id hsf
      obtain ⟨XU, hXU⟩ : ∃ z, x.uid = z := ⟨_, rfl⟩
      obtain ⟨XD, hXD⟩ : ∃ z, x.day = z := ⟨_, rfl⟩
      obtain ⟨XT, hXT⟩ : ∃ z : ByteArray, ⟨x.text.toArray⟩ = z := ⟨_, rfl⟩
      obtain ⟨FL, hFL⟩ : ∃ z, x.flags.length = z := ⟨_, rfl⟩
      rw [hFL] at hfv
      rw [hXU] at q0
      rw [hXD] at q3
      rw [hXT] at q4
      have HXK : Hid (((l.take (k + 1)).map sgOf).map sgLt = ((l.take k).map sgOf).map sgLt ++ [⟨XU, x.flags, 0, []⟩]) := by
        unfold Hid
        rw [List.take_add_one, hxk, Option.toList_some, List.map_append, List.map_append, ← hXU]
        rfl
      have HLK : Hid ((((l.take k).map sgOf).map sgLt).length = k) := by
        unfold Hid
        rw [List.length_map, List.length_map, List.length_take]; omega
      subst hfv
      have bB : Below wr.heap.size wr (wr.alloc (.cells #[.int .i64 XU, .slice fa FL fc, .int .i64 XD, .string XT] 51)) := (Below.refl _ _).alloc (Nat.le_refl _) _
      have eB := heap_alloc_new wr (.cells #[.int .i64 XU, .slice fa FL fc, .int .i64 XD, .string XT] 51)
      have HSF : Hid (Sl w (.slice fa FL fc) x.flags) := hsf
      clear hx hxk hXU hXD hXT hFL hat hsf w0q0 w0q1 w0q3 w0q4 ec hkl HI
      go_upto_region 5 with fail
      obtain ⟨WA, hWA⟩ : ∃ W, wr.alloc (.cells #[.int .i64 XU, .slice fa FL fc, .int .i64 XD, .string XT] 51) = W := ⟨_, rfl⟩
      rw [hWA] at bB eB ⊢
      obtain ⟨LB, hLB⟩ : ∃ B, wr.heap.size = B := ⟨_, rfl⟩
      rw [hLB] at bB eB y4 ⊢
      have zA : WA.heap.size = LB + 1 := by rw [← hWA, World.size_alloc, hLB]
      have a0 : WA.cell? ⟨LB, 0, none⟩ = some (.int .i64 XU) := rd_cell eB rfl
      have a1 : WA.cell? ⟨LB, 1, none⟩ = some (.slice fa FL fc) := rd_cell eB rfl
      have uA := (bB.block (w.heap.size + 1) (by omega)).trans y1
      have av : WA.cell? ⟨w.heap.size + 1, 0, none⟩ = some (.slice va k vc) := rd_cell uA rfl
      obtain ⟨WD, hWD⟩ : ∃ W, WA.drew = W := ⟨_, rfl⟩
      have hDh : WD.heap = WA.heap := by rw [← hWD]; rfl
      have uD : WD.heap[w.heap.size + 1]? = some (.cells #[.slice va k vc] 49 (0, 0)) := by rw [hDh]; exact uA
      have eD : WD.heap[LB]? = some (.cells #[.int .i64 XU, .slice fa FL fc, .int .i64 XD, .string XT] 51 (0, 0)) := by rw [hDh]; exact eB
      have d0 : WD.cell? ⟨w.heap.size + 1, 0, none⟩ = some (.slice va k vc) := rd_cell uD rfl
      have zD : WD.heap.size = LB + 1 := by rw [hDh]; exact zA
      have hLA : LOwn w WD (w.heap.size + 2) (.slice va k vc) (((l.take k).map sgOf).map sgLt) := y2.same fun q _ hq _ => by rw [hDh]; exact bB.block q (by omega)
      obtain ⟨W8, g9, cap9, W9, hW8, k8, hrun, k9, kf9, HLX, HS9⟩ := vw_push (w := WD) (ub := w.heap.size + 1) (LB := LB) (U := XU) uD (by omega) hLA HLK.out (by omega) HSF.out (by omega) eD (fun e => by have := (y2.blk e).2; omega) (by omega)
      have hbD : Below w.heap.size w WD := by rw [← hWD]; exact (y3.trans (bB.mono (by omega))).trans (Below.refl _ _).drew
      have HFIN : Hid (OpI w l (k + 1) (W9.setCell ⟨w.heap.size + 1, 0, none⟩ (.slice (some ⟨g9, 0, none⟩) (k + 1) cap9))) := by
        obtain ⟨f1, f2, f3, _⟩ := HS9.out
        refine ⟨_, _, f1, by rw [HXK.out]; exact f2, ?_, by have := f3.size; omega⟩
        exact hbD.trans (f3.below (by omega) (by omega))
      clear hWA eB bB hLA hbD HS9 y1 y2 y3 uA uD eD hDh zD zA
      refine wp_region_held_drew (S := fun W => W.cell? ⟨LB, 0, none⟩ = some (.int .i64 XU) ∧ W.cell? ⟨LB, 1, none⟩ = some (.slice fa FL fc)) (by kernel_rfl) ?_ (fun hHeld => ?_)
      · exact ⟨by simpa using a0, by simpa using a1⟩
      rw [hWD] at hHeld ⊢
      refine wpAnyH_take (i := 0) (v := ?_) rfl (by kernel_rfl) (by kernel_rfl) (by kernel_rfl) (fun _ _ _ h => h) (Or.inl ⟨by rfl, ?_⟩) (by assumption) ?_
      rotate_left
      · intro w hSw; go_simp; (try with_reducible rfl)
      change wpAnyH _ _ _ _ _ _ _ (Act.put _ (some 15) _) _; simp only [Act.put, List.setIfInBounds_toArray, List.set_cons_zero, List.set_cons_succ]
      refine wpAnyH_take (i := 1) (v := ?_) rfl (by kernel_rfl) (by kernel_rfl) (by kernel_rfl) (fun _ _ _ h => h) (Or.inl ⟨by rfl, ?_⟩) (by assumption) ?_
      rotate_left
      · intro w hSw; go_simp; (try with_reducible rfl)
      change wpAnyH _ _ _ _ _ _ _ (Act.put _ (some 16) _) _; simp only [Act.put, List.setIfInBounds_toArray, List.set_cons_zero, List.set_cons_succ]
      refine wpAnyH_take (i := 2) (v := ?_) rfl (by kernel_rfl) (by kernel_rfl) (by kernel_rfl) (fun _ _ _ h => h) (Or.inl ⟨by rfl, ?_⟩) (by assumption) ?_
      rotate_left
      · intro w hSw; go_simp; (try with_reducible rfl)
      change wpAnyH _ _ _ _ _ _ _ (Act.put _ (some 17) _) _; simp only [Act.put, List.setIfInBounds_toArray, List.set_cons_zero, List.set_cons_succ]
      refine wpAnyH_take (i := 3) (v := ?_) rfl (by kernel_rfl) (by kernel_rfl) (by kernel_rfl) (fun _ _ _ h => h) (Or.inl ⟨by rfl, ?_⟩) (by assumption) ?_
      rotate_left
      · intro w hSw; go_simp; (try with_reducible rfl)
      change wpAnyH _ _ _ _ _ _ _ (Act.put _ (some 18) _) _; simp only [Act.put, List.setIfInBounds_toArray, List.set_cons_zero, List.set_cons_succ]
      refine wpAnyH_take (i := 5) (v := ?_) rfl (by kernel_rfl) (by kernel_rfl) (by kernel_rfl) (fun _ _ _ h => h) (Or.inl ⟨by rfl, ?_⟩) (by assumption) ?_
      rotate_left
      · intro w hSw; go_simp; (try with_reducible rfl)
      change wpAnyH _ _ _ _ _ _ _ (Act.put _ (some 20) _) _; simp only [Act.put, List.setIfInBounds_toArray, List.set_cons_zero, List.set_cons_succ]
      refine wpAnyH_take (i := 6) (v := ?_) rfl (by kernel_rfl) (by kernel_rfl) (by kernel_rfl) (fun _ _ _ h => h) (Or.inl ⟨by rfl, ?_⟩) (by assumption) ?_
      rotate_left
      · intro w hSw; go_simp; (try with_reducible rfl)
      change wpAnyH _ _ _ _ _ _ _ (Act.put _ (some 21) _) _; simp only [Act.put, List.setIfInBounds_toArray, List.set_cons_zero, List.set_cons_succ]
      refine wpAnyH_take (i := 7) (v := ?_) rfl (by kernel_rfl) (by kernel_rfl) (by kernel_rfl) (fun _ _ _ h => h) (Or.inl ⟨by rfl, ?_⟩) (by assumption) ?_
      rotate_left
      · intro w hSw; go_simp; (try with_reducible rfl)
      change wpAnyH _ _ _ _ _ _ _ (Act.put _ (some 22) _) _; simp only [Act.put, List.setIfInBounds_toArray, List.set_cons_zero, List.set_cons_succ]
      refine wpAnyH_take (i := 8) (v := ?_) rfl (by kernel_rfl) (by kernel_rfl) (by kernel_rfl) (fun _ _ _ h => h) (Or.inl ⟨by rfl, ?_⟩) (by assumption) ?_
      rotate_left
      · intro w hSw; go_simp; (try with_reducible rfl)
      change wpAnyH _ _ _ _ _ _ _ (Act.put _ (some 23) _) _; simp only [Act.put, List.setIfInBounds_toArray, List.set_cons_zero, List.set_cons_succ]
      refine wpAnyH_take (i := 9) (v := ?_) rfl (by kernel_rfl) (by kernel_rfl) (by kernel_rfl) (fun _ _ _ h => h) (Or.inl ⟨by rfl, ?_⟩) (by assumption) ?_
      rotate_left
      · intro w hSw; go_simp; (try with_reducible rfl)
      change wpAnyH _ _ _ _ _ _ _ (Act.put _ (some 24) _) _; simp only [Act.put, List.setIfInBounds_toArray, List.set_cons_zero, List.set_cons_succ]
      refine wpAnyH_ready (rs := [4, 10]) (by kernel_rfl) (by simp) ?_
      refine AllReadyH.cons rfl (fun K hK => ?_) ?_
      · go_simp
        refine hK.out _ _ ?_ (fun hHeld => ?_)
        · exact hHeld
        clear hK K
        refine wpAnyH_ready (rs := [10]) (by kernel_rfl) (by simp) ?_
        refine AllReadyH.cons rfl (fun K hK => ?_) AllReadyH.nil
        go_simp
        refine hK.out _ _ ?_ (fun hHeld => ?_)
        · exact HLX.out _ (Or.inl rfl)
        clear hK K
        refine wpAnyH_ready (rs := [11]) (by kernel_rfl) (by simp) ?_
        refine AllReadyH.cons rfl (fun K hK => ?_) AllReadyH.nil
        refine step_app rfl (.tmp 19) (.tmp 25) 22 rfl _ _ _ rfl rfl hrun ?_
        refine hK.out _ _ ?_ (fun hHeld => ?_)
        · exact HLX.out _ (Or.inr (Or.inl rfl))
        clear hK K
        refine wpAnyH_take (i := 12) (v := ?_) rfl (by kernel_rfl) (by kernel_rfl) (by kernel_rfl) (fun _ _ _ h => h) (Or.inl ⟨by rfl, ?_⟩) (by assumption) ?_
        rotate_left
        · intro w hSw; go_simp; (try with_reducible rfl)
        refine wpAnyH_take (i := 13) (v := ?_) rfl (by kernel_rfl) (by kernel_rfl) (by kernel_rfl) (fun _ _ _ h => h) (Or.inl ⟨by rfl, ?_⟩) (by assumption) ?_
        rotate_left
        · intro w hSw; go_simp; (try with_reducible rfl)
        refine wpAnyH_ready (rs := [14]) (by kernel_rfl) (by simp) ?_
        refine AllReadyH.cons rfl (fun K hK => ?_) AllReadyH.nil
        go_simp
        refine hK.out _ _ ?_ (fun hHeld => ?_)
        · exact HLX.out _ (Or.inr (Or.inr rfl))
        clear hK K
        refine wpAnyH_done (by kernel_rfl) ?_ _
        go_wp2_with fail
        go_roundw
        case rel => exact ⟨k + 1, by go_num, by omega, HFIN.out⟩
        case measure => simp [intOf]; omega
      refine AllReadyH.cons rfl (fun K hK => ?_) AllReadyH.nil
      go_simp
      refine hK.out _ _ ?_ (fun hHeld => ?_)
      · exact HLX.out _ (Or.inl rfl)
      clear hK K
      refine wpAnyH_ready (rs := [4]) (by kernel_rfl) (by simp) ?_
      refine AllReadyH.cons rfl (fun K hK => ?_) AllReadyH.nil
      go_simp
      refine hK.out _ _ ?_ (fun hHeld => ?_)
      · exact hHeld
      clear hK K
      refine wpAnyH_ready (rs := [11]) (by kernel_rfl) (by simp) ?_
      refine AllReadyH.cons rfl (fun K hK => ?_) AllReadyH.nil
      refine step_app rfl (.tmp 19) (.tmp 25) 22 rfl _ _ _ rfl rfl hrun ?_
      refine hK.out _ _ ?_ (fun hHeld => ?_)
      · exact HLX.out _ (Or.inr (Or.inl rfl))
      clear hK K
      refine wpAnyH_take (i := 12) (v := ?_) rfl (by kernel_rfl) (by kernel_rfl) (by kernel_rfl) (fun _ _ _ h => h) (Or.inl ⟨by rfl, ?_⟩) (by assumption) ?_
      rotate_left
      · intro w hSw; go_simp; (try with_reducible rfl)
      refine wpAnyH_take (i := 13) (v := ?_) rfl (by kernel_rfl) (by kernel_rfl) (by kernel_rfl) (fun _ _ _ h => h) (Or.inl ⟨by rfl, ?_⟩) (by assumption) ?_
      rotate_left
      · intro w hSw; go_simp; (try with_reducible rfl)
      refine wpAnyH_ready (rs := [14]) (by kernel_rfl) (by simp) ?_
      refine AllReadyH.cons rfl (fun K hK => ?_) AllReadyH.nil
      go_simp
      refine hK.out _ _ ?_ (fun hHeld => ?_)
      · exact HLX.out _ (Or.inr (Or.inr rfl))
      clear hK K
      refine wpAnyH_done (by kernel_rfl) ?_ _
      go_wp2_with fail
      go_roundw
      case rel => exact ⟨k + 1, by go_num, by omega, HFIN.out⟩
      case measure => simp [intOf]; omega
    · obtain rfl : k = m := by omega
      obtain ⟨va, vc, y1, y2, y3, y4⟩ := HI.out
      rw [List.take_of_length_le (by rw [HM.out]; exact Nat.le_refl _)] at y2
      have HF : Hid (RView wr (w.heap.size + 1) (.slice va k vc) (l.map sgOf) ∧ (∀ q, (Value.slice va k vc).ownBlock = some q → w.heap.size ≤ q) ∧ Below w.heap.size w wr) := ⟨⟨y1, (y2.low (Nat.zero_le _)).now fun fv F h => h.below y3 (Nat.le_refl _)⟩, fun q hq => by have := (y2.blk hq).1; omega, y3⟩
      clear y1 y2 y3 HI
      go_wp2_with fail
      go_ret
      exact ⟨_, _, rfl, by omega, HF.out⟩
end Go.Proofs.YtgpcnacpefficaaGreatDoor
