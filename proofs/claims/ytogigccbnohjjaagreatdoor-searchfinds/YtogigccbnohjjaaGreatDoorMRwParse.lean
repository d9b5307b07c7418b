/-
  What letterboxref.ParseCommand does.
-/
import Derived.Test.YtogigccbnohjjaaGreatDoorBpRwList
namespace Go.Proofs.YtogigccbnohjjaaGreatDoor
open Go.RowKit Go.Proofs.Aid Go.Proofs.Hd
open Go.Proofs.Sr (Ar)
set_option maxHeartbeats 8000000
set_option maxRecDepth 100000
structure EnvC (w : World) (cb XB : Nat) (wr : World) : Prop where
 below : Below w.heap.size w wr
 r1 : wr.heap[w.heap.size]? = some (.cells #[.string ⟨#[]⟩, .string ⟨#[]⟩, .slice none 0 0] 48 (0, 0))
 r2 : wr.heap[w.heap.size + 1]? = some (.cells #[.int .i64 0, .int .i64 0] 50 (0, 0))
 lt1 : w.heap.size + 1 < cb
 lt2 : cb < XB
 lt3 : XB < wr.heap.size
theorem EnvC.step {w W W' : World} {cb XB : Nat} (h : EnvC w cb XB W) (hb : But W.heap.size cb W W') : EnvC w cb XB W' :=
 have h1 := h.lt1
 have h2 := h.lt2
 have h3 := h.lt3
 ⟨h.below.trans (hb.below (by omega) (by omega)), (hb.block _ (by omega) (by omega)).trans h.r1, (hb.block _ (by omega) (by omega)).trans h.r2, h1, h2, Nat.lt_of_lt_of_le h3 hb.size⟩
theorem EnvC.set {w W : World} {cb XB : Nat} (h : EnvC w cb XB W) (i : Nat) (v : Value) : EnvC w cb XB (W.setCell ⟨XB, i, none⟩ v) :=
 have h1 := h.lt1
 have h2 := h.lt2
 have h3 := h.lt3
 ⟨h.below.setCell (p := ⟨XB, i, none⟩) (by show w.heap.size ≤ XB; omega) v, (Below.heap_setCell _ _ _ _ (show w.heap.size ≠ XB by omega)).trans h.r1, (Below.heap_setCell _ _ _ _ (show w.heap.size + 1 ≠ XB by omega)).trans h.r2, h1, h2, by simpa using h3⟩
theorem EnvC.row {w W W' : World} {cb XB : Nat} (h : EnvC w cb XB W) (hb : But XB cb W W') (hs : XB < W'.heap.size) : EnvC w cb XB W' :=
 have h1 := h.lt1
 have h2 := h.lt2
 ⟨h.below.trans (hb.below (by omega) (by omega)), (hb.block _ (by omega) (by omega)).trans h.r1, (hb.block _ (by omega) (by omega)).trans h.r2, h1, h2, hs⟩
theorem EnvC.num {w W : World} {cb XB : Nat} (h : EnvC w cb XB W) (hn : NumAt w) : ∀ W', But W.heap.size cb W W' → NumAt W' := fun _ hb => hn.below (h.step hb).below
theorem EnvC.fine {w W : World} {cb XB : Nat} (h : EnvC w cb XB W) (hn : FineAt w) : FineAt W := hn.below h.below (Nat.le_refl _)
theorem rok_any (cb p c : Nat) (E q : Int) (s : ByteArray) (w : World) (hr : CdW w cb s p c E q) (h0 : E = 0 → q = -1) (hf : FineAt w) :
  Calls Tryz.prog 32 #[.pointer (some ⟨cb, 0, none⟩)] w fun e w' => e = .returned (.bool (decide (E = 0))) ∧ Below w.heap.size w w' := by
 by_cases h : E = 0
 ·obtain rfl := h0 h
  subst h
  exact rok_yes cb p c s w hr hf
 ·rw [decide_eq_false h]
  exact rok_no cb p c E q s w hr h hf
def OutRC (w : World) : Wd Cmd → Ending → World → Prop
 | .bad n p, e, w' => e = .returned (.tuple #[.agg #[.string ⟨#[]⟩, .string ⟨#[]⟩, .slice none 0 0], .agg #[.int .i64 n, .int .i64 (p : Int)]]) ∧ n ≠ 0 ∧ Below w.heap.size w w'
 | .ok k _ _, e, w' => ∃ (tb nb : ByteArray) (v : Value), e = .returned (.tuple #[.agg #[.string tb, .string nb, v], .agg #[.int .i64 0, .int .i64 (-1)]]) ∧ tb.data.toList = k.tag ∧ nb.data.toList = k.name ∧ Agw w' (fun q => w.heap.size ≤ q) k.args v ∧ Below w.heap.size w w'
def XSt (T : Wd Cmd) (cb XB : Nat) (s : ByteArray) (w : World) (Q : ByteArray → ByteArray → Nat → Prop) (wr : World) : Prop :=
 ∃ (tb nb : ByteArray) (P c : Nat) (E q : Int), CdW wr cb s P c E q ∧ EnvC w cb XB wr ∧ wr.heap[XB]? = some (.cells #[.string tb, .string nb, .slice none 0 0] 48 (0, 0)) ∧
  ((E = 0 ∧ q = -1 ∧ c = 0 ∧ Q tb nb P) ∨ (E ≠ 0 ∧ ∃ p0 : Nat, q = (p0 : Int) ∧ T = .bad E p0))
def CxAt (T : Wd Cmd) (cb XB : Nat) (s : ByteArray) (w wr : World) : Prop :=
 ∃ (tb nb : ByteArray) (acc : List Ar) (P c : Nat) (E q : Int) (va : Option Addr) (N vc : Nat), acc.length = N ∧ CdW wr cb s P c E q ∧ EnvC w cb XB wr ∧ wr.heap[XB]? = some (.cells #[.string tb, .string nb, .slice va N vc] 48 (0, 0)) ∧ ARow (XB + 1) acc (.slice va acc.length vc) wr ∧
  ((E = 0 ∧ q = -1 ∧ P ≤ s.size ∧ c ≤ 60 ∧ N ≤ c ∧ ∃ n, 62 ≤ c + n ∧ T = (argsW s.data.toList n acc P c).map (fun l => ⟨tb.data.toList, nb.data.toList, l⟩)) ∨ (E ≠ 0 ∧ ∃ p0 : Nat, q = (p0 : Int) ∧ T = .bad E p0))
theorem cx_next {T : Wd Cmd} {cb XB N P c m cap g9 : Nat} {s tb nb : ByteArray} {w W6 W' : World} {acc : List Ar}
  (HR : ∃ (a : Ar) (p c' : Nat) (E q : Int), ResA (argW s.data.toList 7 P c) a p c' E q ∧ CdW W' cb s p c' E q ∧ But XB cb W6 W' ∧ W'.heap[XB]? = some (.cells #[.string tb, .string nb, .slice (some ⟨g9, 0, none⟩) (N + 1) cap] 48 (0, 0)) ∧ ARow (XB + 1) (acc ++ [a]) (.slice (some ⟨g9, 0, none⟩) (acc ++ [a]).length cap) W')
  (hT : T = ((argW s.data.toList 7 P c).then fun a p c => argsW s.data.toList m (acc ++ [a]) p c).map (fun l => ⟨tb.data.toList, nb.data.toList, l⟩)) (h62 : 62 ≤ c + 1 + m) (hN : acc.length = N) (hNc : N ≤ c) (hp : P + 2 ≤ s.size) (hE : Ends s.data.toList)
  (he : EnvC w cb XB W6) : CxAt T cb XB s w W' ∧ lenOf W' XB = N + 1 := by
 obtain ⟨a, p, c', E, q, hres, hr, hb', hA, hrow⟩ := HR
 refine ⟨⟨tb, nb, acc ++ [a], p, c', E, q, some ⟨g9, 0, none⟩, N + 1, cap, by rw [List.length_append, hN]; rfl, hr, he.row hb' (Array.getElem?_eq_some_iff.1 hA).1, hA, hrow, ?_⟩, lenOf_is hA⟩
 cases hg : argW s.data.toList 7 P c with
 | bad n p0 =>
  rw [hg] at hres hT
  obtain ⟨rfl, rfl, hn⟩ := hres
  exact Or.inr ⟨hn, p0, rfl, hT⟩
 | ok a0 p0 c0 =>
  rw [hg] at hres hT
  obtain ⟨rfl, rfl, rfl, rfl, rfl⟩ := hres
  have h9 := arg_ok hE 7 P c a p c' (by rw [wsize]; exact hp) hg
  rw [wsize] at h9
  exact Or.inl ⟨rfl, rfl, h9.1, h9.2.2, by omega, m, by omega, hT⟩
theorem two_other (W : World) {R k : Nat} (h : k ≠ R) (x0 x1 : Value) : ((W.setCell ⟨R, 0, none⟩ x0).setCell ⟨R, 1, none⟩ x1).heap[k]? = W.heap[k]? := by
 rw [Below.heap_setCell _ _ _ _ h, Below.heap_setCell _ _ _ _ h]
theorem two_facts {W : World} {R : Nat} {a0 a1 : Value} {t : TypeId} (hh : W.heap[R]? = some (.cells #[a0, a1] t (0, 0))) (x0 x1 : Value) :
  (W.cell? ⟨R, 0, none⟩ = some a0 ∧ W.cell? ⟨R, 1, none⟩ = some a1) ∧ (W.frozen? ⟨R, 0, none⟩ = false ∧ W.frozen? ⟨R, 1, none⟩ = false) ∧
  ((W.setCell ⟨R, 0, none⟩ x0).cell? ⟨R, 0, none⟩ = some x0 ∧ ((W.setCell ⟨R, 0, none⟩ x0).setCell ⟨R, 1, none⟩ x1).cell? ⟨R, 1, none⟩ = some x1) := by
 have h0 := rd_set (i := 0) x0 hh
 exact ⟨⟨rd_cell hh rfl, rd_cell hh rfl⟩, ⟨rd_free hh 0, rd_free hh 1⟩, setm_read hh (by simp) x0, setm_read h0 (by simp) x1⟩
theorem ret_five {R : Ending → World → Prop} {a : Act} {W : World} {R1 R2 : Nat} {x0 x1 x2 y0 y1 : Value} {t1 t2 : TypeId} (a2 : a.tmps[2]?.getD undef = .pointer (some ⟨R1, 0, none⟩)) (a3 : a.tmps[3]?.getD undef = .pointer (some ⟨R2, 0, none⟩))
  (h1 : W.heap[R1]? = some (.cells #[x0, x1, x2] t1 (0, 0))) (h2 : W.heap[R2]? = some (.cells #[y0, y1] t2 (0, 0))) (hd : a.defers = []) (hR : R (.returned (.tuple #[.agg #[x0, x1, x2], .agg #[y0, y1]])) W) :
  bodyPost Tryz.prog Tryz.f12 R .ret a W := by
 have c0 : W.cell? ⟨R1, 0, none⟩ = some x0 := rd_cell h1 rfl
 have c1 : W.cell? ⟨R1, 1, none⟩ = some x1 := rd_cell h1 rfl
 have c2 : W.cell? ⟨R1, 2, none⟩ = some x2 := rd_cell h1 rfl
 have c3 : W.cell? ⟨R2, 0, none⟩ = some y0 := rd_cell h2 rfl
 have c4 : W.cell? ⟨R2, 1, none⟩ = some y1 := rd_cell h2 rfl
 exact bodyPost_ret (v := .tuple #[.agg #[x0, x1, x2], .agg #[y0, y1]]) (by simp [results, Tryz.results12, go_sem, a2, a3, c0, c1, c2, c3, c4]) hd hR
theorem five_heap {W : World} {R1 R2 : Nat} {a0 a1 a2 b0 b1 : Value} {t1 t2 : TypeId} (h1 : W.heap[R1]? = some (.cells #[a0, a1, a2] t1 (0, 0))) (h2 : W.heap[R2]? = some (.cells #[b0, b1] t2 (0, 0))) (hne : R1 ≠ R2) (x0 x1 x2 y0 y1 : Value) :
  (((((W.setCell ⟨R1, 0, none⟩ x0).setCell ⟨R1, 1, none⟩ x1).setCell ⟨R1, 2, none⟩ x2).setCell ⟨R2, 0, none⟩ y0).setCell ⟨R2, 1, none⟩ y1).heap[R1]? = some (.cells #[x0, x1, x2] t1 (0, 0)) ∧
  (((((W.setCell ⟨R1, 0, none⟩ x0).setCell ⟨R1, 1, none⟩ x1).setCell ⟨R1, 2, none⟩ x2).setCell ⟨R2, 0, none⟩ y0).setCell ⟨R2, 1, none⟩ y1).heap[R2]? = some (.cells #[y0, y1] t2 (0, 0)) := by
 have e1 := rd_set (i := 2) x2 (rd_set (i := 1) x1 (rd_set (i := 0) x0 h1))
 have e2 : (((W.setCell ⟨R1, 0, none⟩ x0).setCell ⟨R1, 1, none⟩ x1).setCell ⟨R1, 2, none⟩ x2).heap[R2]? = some (.cells #[b0, b1] t2 (0, 0)) := (three_other W (Ne.symm hne) x0 x1 x2).trans h2
 exact ⟨(two_other _ hne _ _).trans e1, rd_set (i := 1) y1 (rd_set (i := 0) y0 e2)⟩
theorem five_below {w W : World} {R1 R2 B : Nat} (h : Below B w W) (h1 : B ≤ R1) (h2 : B ≤ R2) (x0 x1 x2 y0 y1 : Value) :
  Below B w (((((W.setCell ⟨R1, 0, none⟩ x0).setCell ⟨R1, 1, none⟩ x1).setCell ⟨R1, 2, none⟩ x2).setCell ⟨R2, 0, none⟩ y0).setCell ⟨R2, 1, none⟩ y1) :=
 ((((h.setCell (p := ⟨R1, 0, none⟩) h1 _).setCell (p := ⟨R1, 1, none⟩) h1 _).setCell (p := ⟨R1, 2, none⟩) h1 _).setCell (p := ⟨R2, 0, none⟩) h2 _).setCell (p := ⟨R2, 1, none⟩) h2 _
theorem five_far {W : World} {R1 R2 k : Nat} (h1 : k ≠ R1) (h2 : k ≠ R2) (x0 x1 x2 y0 y1 : Value) :
  (((((W.setCell ⟨R1, 0, none⟩ x0).setCell ⟨R1, 1, none⟩ x1).setCell ⟨R1, 2, none⟩ x2).setCell ⟨R2, 0, none⟩ y0).setCell ⟨R2, 1, none⟩ y1).heap[k]? = W.heap[k]? := (two_other _ h2 _ _).trans (three_other _ h1 _ _ _)
theorem rparse_is (s : ByteArray) (w : World) (hs : s.size ≤ 1000000) (hf : FineAt w) (hn : NumAt w) :
  Calls Tryz.prog 12 #[.string s] w fun e w' => OutRC w (parseW s.data.toList) e w' := by
 have cX : ∀ W, Calls Tryz.prog 30 #[.string s, .string ⟨#[13, 10]⟩] W fun e w' => e = .returned (.bool (Lib.hasSuffix s.data.toList [13, 10])) ∧ w' = W := fun W => Tryz.strings_HasSuffix s ⟨#[13, 10]⟩ W (by omega)
 obtain ⟨T, hT⟩ : ∃ T, parseW s.data.toList = T := ⟨_, rfl⟩
 rw [hT]
 have HT : Hid ((if Lib.hasSuffix s.data.toList [13, 10] = true then commandW s.data.toList else .bad 3 0) = T) := hT
 have hfl := World.block_lt_of_cell? _ _ hf.1
 have b1 : Below w.heap.size w (w.alloc (.cells #[.string ⟨#[]⟩, .string ⟨#[]⟩, .slice none 0 0] 48)) := (Below.refl _ _).alloc (Nat.le_refl _) _
 have e1 := heap_alloc_new w (.cells #[.string ⟨#[]⟩, .string ⟨#[]⟩, .slice none 0 0] 48)
 obtain ⟨W1, hW1⟩ : ∃ W, w.alloc (.cells #[.string ⟨#[]⟩, .string ⟨#[]⟩, .slice none 0 0] 48) = W := ⟨_, rfl⟩
 have z1 : W1.heap.size = w.heap.size + 1 := by rw [← hW1]; simp
 rw [hW1] at b1 e1
 have b2 : Below W1.heap.size W1 (W1.alloc (.cells #[.int .i64 0, .int .i64 0] 50)) := (Below.refl _ _).alloc (Nat.le_refl _) _
 have e2 := heap_alloc_new W1 (.cells #[.int .i64 0, .int .i64 0] 50)
 obtain ⟨W2, hW2⟩ : ∃ W, W1.alloc (.cells #[.int .i64 0, .int .i64 0] 50) = W := ⟨_, rfl⟩
 have z2 : W2.heap.size = w.heap.size + 2 := by rw [← hW2]; simp [z1]
 rw [hW2, z1] at b2
 rw [hW2, z1] at e2
 have e12 := (b2.block w.heap.size (by omega)).trans e1
 have b02 : Below w.heap.size w W2 := b1.trans (b2.mono (by omega))
 have f2 : FineAt W2 := hf.below b02 (Nat.le_refl _)
 have HX2 : Hid (Below w.heap.size w W2 ∧ W2.heap[w.heap.size]? = some (.cells #[.string ⟨#[]⟩, .string ⟨#[]⟩, .slice none 0 0] 48 (0, 0)) ∧ W2.heap[w.heap.size + 1]? = some (.cells #[.int .i64 0, .int .i64 0] 50 (0, 0)) ∧ FineAt w ∧ NumAt w) := ⟨b02, e12, e2, hf, hn⟩
 obtain ⟨g0, g1⟩ := f2
 clear hT b1 e1 b2 e12 e2 b02 hf hn
 go_enter Tryz.func12, Tryz.ntmps12
 go_wp2_with fail
 refine (cX _).mono ?_
 rintro e w3 ⟨rfl, hw3⟩
 obtain rfl : W2 = w3 := hw3.symm
 clear cX hw3
 cases hsf : Lib.hasSuffix s.data.toList [13, 10] with
 | false =>
  have hT := HT.out
  rw [hsf, if_neg (by simp)] at hT
  subst hT
  obtain ⟨⟨s0, s1, s2⟩, ⟨sf0, sf1, sf2⟩, u0, u1, u2⟩ := three_facts HX2.out.2.1 (.string ⟨#[]⟩) (.string ⟨#[]⟩) (.slice none 0 0)
  obtain ⟨⟨t0, t1⟩, ⟨tf0, tf1⟩, v0, v1⟩ := two_facts HX2.out.2.2.1 (.int .i64 3) (.int .i64 0)
  clear hsf HT
  go_wp2_with fail
  obtain ⟨q1, q2⟩ := five_heap HX2.out.2.1 HX2.out.2.2.1 (by omega) (.string ⟨#[]⟩) (.string ⟨#[]⟩) (.slice none 0 0) (.int .i64 3) (.int .i64 0)
  exact ret_five rfl rfl q1 q2 rfl ⟨rfl, by decide, five_below HX2.out.1 (Nat.le_refl _) (by omega) _ _ _ _ _⟩
 | true =>
  have hT := HT.out
  rw [hsf, if_pos rfl, commandW] at hT
  have hE := ends_of hsf
  have HEN : Hid (Ends s.data.toList) := hE
  have hlen := hE.len
  rw [wsize] at hlen
  obtain ⟨cb, hcb⟩ : ∃ n, W2.heap.size = n := ⟨_, rfl⟩
  have b3 : Below W2.heap.size W2 (W2.alloc (.cells #[.string s, .int .i64 0, .int .i64 0, .int .i64 0, .int .i64 (-1)] 82)) := (Below.refl _ _).alloc (Nat.le_refl _) _
  have e3 := heap_alloc_new W2 (.cells #[.string s, .int .i64 0, .int .i64 0, .int .i64 0, .int .i64 (-1)] 82)
  obtain ⟨W3, hW3⟩ : ∃ W, W2.alloc (.cells #[.string s, .int .i64 0, .int .i64 0, .int .i64 0, .int .i64 (-1)] 82) = W := ⟨_, rfl⟩
  have z3 : W3.heap.size = cb + 1 := by rw [← hW3, ← hcb]; simp
  rw [hW3, hcb] at b3 e3
  have b4 : Below W3.heap.size W3 (W3.alloc (.cells #[.string ⟨#[]⟩, .string ⟨#[]⟩, .slice none 0 0] 48)) := (Below.refl _ _).alloc (Nat.le_refl _) _
  have e4 := heap_alloc_new W3 (.cells #[.string ⟨#[]⟩, .string ⟨#[]⟩, .slice none 0 0] 48)
  obtain ⟨XB, hXB⟩ : ∃ n, W3.heap.size = n := ⟨_, rfl⟩
  obtain ⟨W4, hW4⟩ : ∃ W, W3.alloc (.cells #[.string ⟨#[]⟩, .string ⟨#[]⟩, .slice none 0 0] 48) = W := ⟨_, rfl⟩
  have z4 : W4.heap.size = XB + 1 := by rw [← hW4, ← hXB]; simp
  rw [hW4, hXB] at b4 e4
  have hr4 : CdW W4 cb s 0 0 0 (-1) := (b4.block cb (by omega)).trans e3
  have he4 : EnvC w cb XB W4 := ⟨(HX2.out.1.trans (b3.mono (by omega))).trans (b4.mono (by omega)), (b4.block _ (by omega)).trans ((b3.block _ (by omega)).trans HX2.out.2.1), (b4.block _ (by omega)).trans ((b3.block _ (by omega)).trans HX2.out.2.2.1), by omega, by omega, by omega⟩
  have hcf : cb ≠ 0 := by omega
  have cW := rword_is cb 0 0 s W4 hr4 (he4.fine HX2.out.2.2.2.1) hcf hs hE (by omega)
  have HFN : Hid (FineAt w ∧ NumAt w) := HX2.out.2.2.2
  have H4 : Hid (EnvC w cb XB W4 ∧ W4.heap[XB]? = some (.cells #[.string ⟨#[]⟩, .string ⟨#[]⟩, .slice none 0 0] 48 (0, 0))) := ⟨he4, e4⟩
  obtain ⟨R1, hR1⟩ : ∃ R, wordW s.data.toList 0 0 = R := ⟨_, rfl⟩
  rw [hR1] at cW hT
  have HR1 : Hid (wordW s.data.toList 0 0 = R1 ∧ (R1.then fun t p c => (blankW s.data.toList p c).then fun _ p c => (wordW s.data.toList p c).then fun n p c => (argsW s.data.toList 62 [] p c).map fun l => (⟨t, great n, l⟩ : Cmd)) = T) := ⟨hR1, hT⟩
  have hXBl : cb < XB := by omega
  have hcbl : w.heap.size + 1 < cb := by omega
  clear hsf HT hT hE b3 e3 b4 e4 hr4 he4 hR1 HX2 z3 z4 z1 z2 hfl
  go_wp2_with fail
  refine cW.mono ?_
  intro e w5 h5
  have hx5 : ∃ (tb : ByteArray) (P c : Nat) (E q : Int), e = .returned (.string tb) ∧ CdW w5 cb s P c E q ∧ But W4.heap.size cb W4 w5 ∧
    ((E = 0 ∧ q = -1 ∧ c = 0 ∧ P ≤ s.size ∧ T = (blankW s.data.toList P 0).then fun _ p c => (wordW s.data.toList p c).then fun n p c => (argsW s.data.toList 62 [] p c).map fun l => (⟨tb.data.toList, great n, l⟩ : Cmd)) ∨ (E ≠ 0 ∧ ∃ p0 : Nat, q = (p0 : Int) ∧ T = .bad E p0)) := by
   obtain ⟨h1, h2⟩ := HR1.out
   cases R1 with
   | bad n p =>
    obtain ⟨tb, p', c', rfl, hn, _, hr, hb⟩ := h5
    exact ⟨tb, p', c', n, p, rfl, hr, hb, Or.inr ⟨hn, p, rfl, h2.symm⟩⟩
   | ok t p c =>
    obtain ⟨tb, rfl, ht, hr, hb⟩ := h5
    have hw := word_wok (by omega) h1
    rw [wsize] at hw
    obtain ⟨hp, rfl⟩ := hw
    exact ⟨tb, p, 0, 0, -1, rfl, hr, hb, Or.inl ⟨rfl, rfl, rfl, hp, by rw [ht]; exact h2.symm⟩⟩
  obtain ⟨tb, P5, c5, E5, q5, rfl, hr5, hb5, hst5⟩ := hx5
  have e5 := (hb5.block XB H4.out.1.lt3 (by omega)).trans H4.out.2
  have he5 := H4.out.1.step hb5
  obtain ⟨⟨s0, s1, s2⟩, ⟨sf0, sf1, sf2⟩, _, _, _⟩ := three_facts e5 (.string tb) (.string ⟨#[]⟩) (.slice none 0 0)
  have e6 : (w5.setCell ⟨XB, 0, none⟩ (.string tb)).heap[XB]? = some (.cells #[.string tb, .string ⟨#[]⟩, .slice none 0 0] 48 (0, 0)) := rd_set (i := 0) (.string tb) e5
  have hr6 : CdW (w5.setCell ⟨XB, 0, none⟩ (.string tb)) cb s P5 c5 E5 q5 := hr5.kept (Below.heap_setCell _ _ _ _ (show cb ≠ XB by omega))
  have he6 := he5.set 0 (.string tb)
  obtain ⟨W6, hW6⟩ : ∃ W, w5.setCell ⟨XB, 0, none⟩ (.string tb) = W := ⟨_, rfl⟩
  rw [hW6] at e6 hr6 he6
  have cO := rok_any cb P5 c5 E5 q5 s W6 hr6 (fun h => by rcases hst5 with h1 | h1; exact h1.2.1; exact absurd h h1.1) (he6.fine HFN.out.1)
  have H6 : Hid (CdW W6 cb s P5 c5 E5 q5 ∧ EnvC w cb XB W6 ∧ W6.heap[XB]? = some (.cells #[.string tb, .string ⟨#[]⟩, .slice none 0 0] 48 (0, 0)) ∧
    ((E5 = 0 ∧ q5 = -1 ∧ c5 = 0 ∧ P5 ≤ s.size ∧ T = (blankW s.data.toList P5 0).then fun _ p c => (wordW s.data.toList p c).then fun n p c => (argsW s.data.toList 62 [] p c).map fun l => (⟨tb.data.toList, great n, l⟩ : Cmd)) ∨ (E5 ≠ 0 ∧ ∃ p0 : Nat, q5 = (p0 : Int) ∧ T = .bad E5 p0))) := ⟨hr6, he6, e6, hst5⟩
  clear h5 hr5 hb5 hst5 e5 he5 e6 hr6 he6 H4 HR1 cW
  go_wp2_with fail
  refine cO.mono ?_
  rintro e w7 ⟨rfl, hb7⟩
  have H7 : Hid (CdW w7 cb s P5 c5 E5 q5 ∧ EnvC w cb XB w7 ∧ w7.heap[XB]? = some (.cells #[.string tb, .string ⟨#[]⟩, .slice none 0 0] 48 (0, 0))) :=
   ⟨H6.out.1.kept (hb7.block cb (by have := H6.out.2.1.lt3; omega)), H6.out.2.1.step (to_but hb7), (hb7.block XB H6.out.2.1.lt3).trans H6.out.2.2.1⟩
  have HST : Hid ((E5 = 0 ∧ q5 = -1 ∧ c5 = 0 ∧ P5 ≤ s.size ∧ T = (blankW s.data.toList P5 0).then fun _ p c => (wordW s.data.toList p c).then fun n p c => (argsW s.data.toList 62 [] p c).map fun l => (⟨tb.data.toList, great n, l⟩ : Cmd)) ∨ (E5 ≠ 0 ∧ ∃ p0 : Nat, q5 = (p0 : Int) ∧ T = .bad E5 p0)) := H6.out.2.2.2
  clear cO hb7 H6 hW6 s0 s1 s2 sf0 sf1 sf2 hW1 hW2 hW3 hW4 hcb hXB g0 g1
  go_upto_if 19 with fail
  have HQ2 : Hid (∀ P, P + 2 ≤ s.size → T = ((wordW s.data.toList P 0).then fun n p c => (argsW s.data.toList 62 [] p c).map fun l => (⟨tb.data.toList, great n, l⟩ : Cmd)) → ∀ nb W, CdW W cb s P 0 0 (-1) → EnvC w cb XB W → W.heap[XB]? = some (.cells #[.string tb, .string nb, .slice none 0 0] 48 (0, 0)) → XSt T cb XB s w (fun tb nb P => P + 2 ≤ s.size ∧ T = ((wordW s.data.toList P 0).then fun n p c => (argsW s.data.toList 62 [] p c).map fun l => (⟨tb.data.toList, great n, l⟩ : Cmd))) W) :=
   fun P h1 h2 nb W h3 h4 h5 => ⟨tb, nb, P, 0, 0, -1, h3, h4, h5, Or.inl ⟨rfl, rfl, rfl, h1, h2⟩⟩
  go_cut [] (fun wx => Hid (XSt T cb XB s w (fun tb nb P => P + 2 ≤ s.size ∧ T = ((wordW s.data.toList P 0).then fun n p c => (argsW s.data.toList 62 [] p c).map fun l => (⟨tb.data.toList, great n, l⟩ : Cmd))) wx))
  case first =>
   rcases HST.out with ⟨rfl, rfl, rfl, hPs, hTT⟩ | ⟨hE9, p0, rfl, hTT⟩
   ·have hlt3 := H7.out.2.1.lt3
    by_cases h32 : seeW s.data.toList P5 = some 32
    ·have cG := rgap_yes cb P5 0 s w7 H7.out.1 (H7.out.2.1.fine HFN.out.1) hs h32
     have hP2 := (see_some h32).1
     rw [wsize] at hP2
     rw [blankW, if_pos (took_one.2 (see_some h32).2)] at hTT
     have HTU : Hid (T = ((wordW s.data.toList (P5 + 1) 0).then fun n p c => (argsW s.data.toList 62 [] p c).map fun l => (⟨tb.data.toList, great n, l⟩ : Cmd))) := hTT
     clear h32 hTT HST
     go_wp2_with fail
     refine cG.mono ?_
     rintro e wG ⟨rfl, hrG, hbG⟩
     have HZ : Hid (XSt T cb XB s w (fun tb nb P => P + 2 ≤ s.size ∧ T = ((wordW s.data.toList P 0).then fun n p c => (argsW s.data.toList 62 [] p c).map fun l => (⟨tb.data.toList, great n, l⟩ : Cmd))) wG) := HQ2.out (P5 + 1) (by omega) HTU.out ⟨#[]⟩ wG hrG (H7.out.2.1.step hbG) ((hbG.block XB hlt3 (by omega)).trans H7.out.2.2)
     clear cG hrG hbG HQ2
     go_wp2_with fail
     go_meet
     case rel => exact HZ
    ·have cG := rgap_no cb P5 0 s w7 H7.out.1 (H7.out.2.1.fine HFN.out.1) hs hlen h32
     rw [blankW, if_neg (fun h => h32 ((see_took HEN.out (by decide) (by decide)).2 h))] at hTT
     have HTU : Hid (T = .bad 3 P5) := hTT
     clear h32 hTT HST HQ2
     go_wp2_with fail
     refine cG.mono ?_
     rintro e wG ⟨rfl, hrG, hbG⟩
     have HZ : Hid (XSt T cb XB s w (fun tb nb P => P + 2 ≤ s.size ∧ T = ((wordW s.data.toList P 0).then fun n p c => (argsW s.data.toList 62 [] p c).map fun l => (⟨tb.data.toList, great n, l⟩ : Cmd))) wG) := ⟨tb, ⟨#[]⟩, P5, 0, 3, (P5 : Int), hrG, H7.out.2.1.step hbG, (hbG.block XB hlt3 (by omega)).trans H7.out.2.2, Or.inr ⟨by decide, P5, rfl, HTU.out⟩⟩
     clear cG hrG hbG
     go_wp2_with fail
     go_meet
     case rel => exact HZ
   ·have d0 : decide (E5 = 0) = false := decide_eq_false hE9
    have HZ : Hid (XSt T cb XB s w (fun tb nb P => P + 2 ≤ s.size ∧ T = ((wordW s.data.toList P 0).then fun n p c => (argsW s.data.toList 62 [] p c).map fun l => (⟨tb.data.toList, great n, l⟩ : Cmd))) w7) := ⟨tb, ⟨#[]⟩, P5, c5, E5, (p0 : Int), H7.out.1, H7.out.2.1, H7.out.2.2, Or.inr ⟨hE9, p0, rfl, hTT⟩⟩
    clear HST HQ2 hTT H7
    go_wp2_with fail
    go_meet
    case rel => exact HZ
  case rest =>
   obtain ⟨tb, nb, P, c, E, q, hr, he, eX, hst⟩ := hcut.out
   clear hcut HQ2 HST H7
   have cO := rok_any cb P c E q s wc hr (fun h => by rcases hst with h1 | h1; exact h1.2.1; exact absurd h h1.1) (he.fine HFN.out.1)
   have H6 : Hid (CdW wc cb s P c E q ∧ EnvC w cb XB wc ∧ wc.heap[XB]? = some (.cells #[.string tb, .string nb, .slice none 0 0] 48 (0, 0)) ∧
    ((E = 0 ∧ q = -1 ∧ c = 0 ∧ P + 2 ≤ s.size ∧ T = (wordW s.data.toList P 0).then fun n p c => (argsW s.data.toList 62 [] p c).map fun l => (⟨tb.data.toList, great n, l⟩ : Cmd)) ∨ (E ≠ 0 ∧ ∃ p0 : Nat, q = (p0 : Int) ∧ T = .bad E p0))) := ⟨hr, he, eX, hst⟩
   clear hr he eX hst
   go_wp2_with fail
   refine cO.mono ?_
   rintro e w8 ⟨rfl, hb8⟩
   have hlt3 : XB < w8.heap.size := Nat.lt_of_lt_of_le H6.out.2.1.lt3 hb8.size
   have H8 : Hid (CdW w8 cb s P c E q ∧ EnvC w cb XB w8 ∧ w8.heap[XB]? = some (.cells #[.string tb, .string nb, .slice none 0 0] 48 (0, 0))) :=
    ⟨H6.out.1.kept (hb8.block cb (by have := H6.out.2.1.lt3; omega)), H6.out.2.1.step (to_but hb8), (hb8.block XB H6.out.2.1.lt3).trans H6.out.2.2.1⟩
   have HST : Hid ((E = 0 ∧ q = -1 ∧ c = 0 ∧ P + 2 ≤ s.size ∧ T = (wordW s.data.toList P 0).then fun n p c => (argsW s.data.toList 62 [] p c).map fun l => (⟨tb.data.toList, great n, l⟩ : Cmd)) ∨ (E ≠ 0 ∧ ∃ p0 : Nat, q = (p0 : Int) ∧ T = .bad E p0)) := H6.out.2.2.2
   clear cO hb8 H6
   go_upto_if 23 with fail
   go_cut [] (fun wx => Hid (XSt T cb XB s w (fun tb nb P => P ≤ s.size ∧ T = (argsW s.data.toList 62 [] P 0).map fun l => (⟨tb.data.toList, nb.data.toList, l⟩ : Cmd)) wx))
   case first =>
    rcases HST.out with ⟨rfl, rfl, rfl, hPs, hTT⟩ | ⟨hE9, p0, rfl, hTT⟩
    ·have cW := rword_is cb P 0 s w8 H8.out.1 (H8.out.2.1.fine HFN.out.1) hcf hs HEN.out hPs
     obtain ⟨R1, hR1⟩ : ∃ R, wordW s.data.toList P 0 = R := ⟨_, rfl⟩
     rw [hR1] at cW hTT
     have HR1 : Hid (wordW s.data.toList P 0 = R1 ∧ T = (R1.then fun n p c => (argsW s.data.toList 62 [] p c).map fun l => (⟨tb.data.toList, great n, l⟩ : Cmd))) := ⟨hR1, hTT⟩
     clear HST hR1 hTT
     go_wp2_with fail
     refine cW.mono ?_
     intro e w5 h5
     have hx5 : ∃ (xb : ByteArray) (P' c' : Nat) (E q : Int), e = .returned (.string xb) ∧ xb.size ≤ 1000000 ∧ CdW w5 cb s P' c' E q ∧ But w8.heap.size cb w8 w5 ∧
       ((E = 0 ∧ q = -1 ∧ c' = 0 ∧ P' ≤ s.size ∧ T = (argsW s.data.toList 62 [] P' 0).map fun l => (⟨tb.data.toList, great xb.data.toList, l⟩ : Cmd)) ∨ (E ≠ 0 ∧ ∃ p0 : Nat, q = (p0 : Int) ∧ T = .bad E p0)) := by
      obtain ⟨h1, h2⟩ := HR1.out
      cases R1 with
      | bad n p =>
       obtain ⟨xb, p', c', rfl, hn, hz, hr, hb⟩ := h5
       exact ⟨xb, p', c', n, p, rfl, by omega, hr, hb, Or.inr ⟨hn, p, rfl, h2⟩⟩
      | ok t p c =>
       obtain ⟨xb, rfl, ht, hr, hb⟩ := h5
       have hw := word_wok (by rw [wsize]; omega) h1
       rw [wsize] at hw
       obtain ⟨hp, rfl⟩ := hw
       have hz : xb.size ≤ 1000000 := by
        unfold wordW at h1
        split at h1
        ·cases h1
        ·injection h1 with h1 _ _
         have h9 := wordT_le (s.data.toList.drop P)
         rw [h1, List.length_drop, wsize, ← ht, wsize] at h9
         omega
       exact ⟨xb, p, 0, 0, -1, rfl, hz, hr, hb, Or.inl ⟨rfl, rfl, rfl, hp, by rw [ht]; exact h2⟩⟩
     obtain ⟨xb, P9, c9, E9, q9, rfl, hz9, hr9, hb9, hst9⟩ := hx5
     have cGr := ref_great xb w5 hz9
     have H9 : Hid (CdW w5 cb s P9 c9 E9 q9 ∧ EnvC w cb XB w5 ∧ w5.heap[XB]? = some (.cells #[.string tb, .string nb, .slice none 0 0] 48 (0, 0))) := ⟨hr9, H8.out.2.1.step hb9, (hb9.block XB hlt3 (by omega)).trans H8.out.2.2⟩
     have HS9 : Hid ((E9 = 0 ∧ q9 = -1 ∧ c9 = 0 ∧ P9 ≤ s.size ∧ T = (argsW s.data.toList 62 [] P9 0).map fun l => (⟨tb.data.toList, great xb.data.toList, l⟩ : Cmd)) ∨ (E9 ≠ 0 ∧ ∃ p0 : Nat, q9 = (p0 : Int) ∧ T = .bad E9 p0)) := hst9
     clear h5 hr9 hb9 hst9 HR1 cW H8 hz9
     go_wp2_with fail
     refine cGr.mono ?_
     rintro e wG ⟨⟨gb, rfl, hgb⟩, hbG⟩
     have hr10 := H9.out.1.kept (hbG.block cb (by have := H9.out.2.1.lt3; omega))
     have he10 := H9.out.2.1.step (to_but hbG)
     have e10 := (hbG.block XB H9.out.2.1.lt3).trans H9.out.2.2
     have o1 : wG.cell? ⟨XB, 1, none⟩ = some (.string nb) := rd_cell e10 rfl
     have of1 : wG.frozen? ⟨XB, 1, none⟩ = false := rd_free e10 1
     have e11 : (wG.setCell ⟨XB, 1, none⟩ (.string gb)).heap[XB]? = some (.cells #[.string tb, .string gb, .slice none 0 0] 48 (0, 0)) := rd_set (i := 1) (.string gb) e10
     have HZ : Hid (XSt T cb XB s w (fun tb nb P => P ≤ s.size ∧ T = (argsW s.data.toList 62 [] P 0).map fun l => (⟨tb.data.toList, nb.data.toList, l⟩ : Cmd)) (wG.setCell ⟨XB, 1, none⟩ (.string gb))) := by
      refine ⟨tb, gb, P9, c9, E9, q9, hr10.kept (Below.heap_setCell _ _ _ _ (show cb ≠ XB by omega)), he10.set 1 _, e11, ?_⟩
      rcases HS9.out with ⟨h1, h2, h3, h4, h5⟩ | h1
      ·exact Or.inl ⟨h1, h2, h3, h4, by rw [hgb]; exact h5⟩
      ·exact Or.inr h1
     clear cGr hr10 he10 e10 e11 hgb hbG H9 HS9
     go_wp2_with fail
     go_meet
     case rel => exact HZ
    ·have d0 : decide (E = 0) = false := decide_eq_false hE9
     have HZ : Hid (XSt T cb XB s w (fun tb nb P => P ≤ s.size ∧ T = (argsW s.data.toList 62 [] P 0).map fun l => (⟨tb.data.toList, nb.data.toList, l⟩ : Cmd)) w8) := ⟨tb, nb, P, c, E, (p0 : Int), H8.out.1, H8.out.2.1, H8.out.2.2, Or.inr ⟨hE9, p0, rfl, hTT⟩⟩
     clear HST hTT H8
     go_wp2_with fail
     go_meet
     case rel => exact HZ
   case rest =>
    have HS : Hid (CxAt T cb XB s w wc) := by
     obtain ⟨tb, nb, P, c, E, q, hr, he, eX, hst⟩ := hcut.out
     refine ⟨tb, nb, [], P, c, E, q, none, 0, 0, rfl, hr, he, eX, arow_nil _ _, ?_⟩
     rcases hst with ⟨h1, h2, rfl, h4, h5⟩ | h1
     ·exact Or.inl ⟨h1, h2, h4, by omega, by omega, 62, by omega, h5⟩
     ·exact Or.inr h1
    clear hcut HST H8
    go_wp2_with fail
    go_loopw [] (fun wr => Hid (CxAt T cb XB s w wr)) (fun wr => 2 * (62 - lenOf wr XB) + okOf wr cb)
    case atStart => exact HS
    case round =>
     clear HS
     obtain ⟨tb, nb, acc, P, c, E, q, va, N, vc, hN, hr, he, eX, hrow, hst⟩ := hrel.out
     clear hrel
     have HLN : Hid (lenOf wr XB = N) := lenOf_is eX
     have HOK : Hid (okOf wr cb = if E = 0 then 1 else 0) := okOf_is hr
     have hlt3 := he.lt3
     rcases hst with ⟨rfl, rfl, hPs, hc60, hNc, hTT⟩ | ⟨hE9, p0, rfl, hTT⟩
     rotate_left
     ·have cO := rok_no cb P c E (p0 : Int) s wr hr hE9 (he.fine HFN.out.1)
      have HX : Hid (CdW wr cb s P c E (p0 : Int) ∧ EnvC w cb XB wr) := ⟨hr, he⟩
      subst hTT
      clear hr he eX hrow
      go_wp2_with fail
      refine cO.mono ?_
      rintro e w8 ⟨rfl, hb8⟩
      have hs8 := hb8.size
      have H8 : Hid (CdW w8 cb s P c E (p0 : Int) ∧ EnvC w cb XB w8) := ⟨HX.out.1.kept (hb8.block cb (by omega)), HX.out.2.step (to_but hb8)⟩
      clear cO hb8 HX
      have cO := rok_no cb P c E (p0 : Int) s w8 H8.out.1 hE9 (H8.out.2.fine HFN.out.1)
      go_wp2_with fail
      refine cO.mono ?_
      rintro e w9 ⟨rfl, hb9⟩
      have hs9 := hb9.size
      have H9 : Hid (CdW w9 cb s P c E (p0 : Int) ∧ EnvC w cb XB w9) := ⟨H8.out.1.kept (hb9.block cb (by omega)), H8.out.2.step (to_but hb9)⟩
      clear cO hb9 H8
      have cO := rok_no cb P c E (p0 : Int) s w9 H9.out.1 hE9 (H9.out.2.fine HFN.out.1)
      go_wp2_with fail
      refine cO.mono ?_
      rintro e wA ⟨rfl, hbA⟩
      have HA : Hid (CdW wA cb s P c E (p0 : Int) ∧ EnvC w cb XB wA) := ⟨H9.out.1.kept (hbA.block cb (by omega)), H9.out.2.step (to_but hbA)⟩
      clear cO hbA H9
      have y3 : wA.cell? ⟨cb, 3, none⟩ = some (.int .i64 E) := rd_cell HA.out.1 rfl
      have y4 : wA.cell? ⟨cb, 4, none⟩ = some (.int .i64 (p0 : Int)) := rd_cell HA.out.1 rfl
      obtain ⟨⟨s0, s1, s2⟩, ⟨sf0, sf1, sf2⟩, _, _, _⟩ := three_facts HA.out.2.r1 (.string ⟨#[]⟩) (.string ⟨#[]⟩) (.slice none 0 0)
      obtain ⟨⟨t0, t1⟩, ⟨tf0, tf1⟩, _, _⟩ := two_facts HA.out.2.r2 (.int .i64 E) (.int .i64 (p0 : Int))
      have HF5 := five_heap (W := wA.drew) HA.out.2.r1 HA.out.2.r2 (by omega) (.string ⟨#[]⟩) (.string ⟨#[]⟩) (.slice none 0 0) (.int .i64 E) (.int .i64 (p0 : Int))
      have HB5 : Below w.heap.size w _ := five_below (W := wA.drew) (R1 := w.heap.size) (R2 := w.heap.size + 1) HA.out.2.below.drew (Nat.le_refl _) (by omega) (.string ⟨#[]⟩) (.string ⟨#[]⟩) (.slice none 0 0) (.int .i64 E) (.int .i64 (p0 : Int))
      have H5 : Hid _ := (show Hid (_ ∧ _ ∧ _) from ⟨HF5.1, HF5.2, HB5⟩)
      clear HF5 HB5
      go_upto_region 17 with fail
      go_region
      all_goals
       go_wp2_with fail
       exact ret_five rfl rfl H5.out.1 H5.out.2.1 rfl ⟨rfl, hE9, H5.out.2.2⟩
     ·have HO1 : Hid (okOf wr cb = 1) := by show okOf wr cb = 1; rw [HOK.out]; rfl
      clear HOK
      obtain ⟨n, h62, hTT⟩ := hTT
      obtain ⟨m, rfl⟩ : ∃ m, n = m + 1 := ⟨n - 1, by omega⟩
      rw [argsW] at hTT
      have cO := rok_yes cb P c s wr hr (he.fine HFN.out.1)
      have HX : Hid (CdW wr cb s P c 0 (-1) ∧ EnvC w cb XB wr ∧ wr.heap[XB]? = some (.cells #[.string tb, .string nb, .slice va N vc] 48 (0, 0)) ∧ ARow (XB + 1) acc (.slice va acc.length vc) wr) := ⟨hr, he, eX, hrow⟩
      have HN : Hid (acc.length = N) := hN
      clear hr he eX hrow hN
      have HTT : Hid (T = (if s.data.toList.drop P = [13, 10] then Wd.ok acc P c else (blankW s.data.toList P c).then fun _ p c => (argW s.data.toList 7 p c).then fun a p c => argsW s.data.toList m (acc ++ [a]) p c).map fun l => (⟨tb.data.toList, nb.data.toList, l⟩ : Cmd)) := hTT
      clear hTT
      by_cases hlt : P + 2 < s.size
      ·have d1 : decide ((P : Int) < (s.size : Int) - 2) = true := decide_eq_true (by omega)
       have hnd : ¬ s.data.toList.drop P = [13, 10] := fun h => by
        have := congrArg List.length h
        rw [List.length_drop, wsize] at this
        simp at this
        omega
       have hTT := HTT.out
       rw [if_neg hnd] at hTT
       clear hnd HTT
       go_wp2_with fail
       refine cO.mono ?_
       rintro e w8 ⟨rfl, hb8⟩
       have hs8 := hb8.size
       have H8 : Hid (CdW w8 cb s P c 0 (-1) ∧ EnvC w cb XB w8 ∧ w8.heap[XB]? = some (.cells #[.string tb, .string nb, .slice va N vc] 48 (0, 0)) ∧ ARow (XB + 1) acc (.slice va acc.length vc) w8) := ⟨HX.out.1.kept (hb8.block cb (by omega)), HX.out.2.1.step (to_but hb8), (hb8.block XB hlt3).trans HX.out.2.2.1, HX.out.2.2.2.kept fun q _ hlt => hb8.block q hlt⟩
       have y1 : w8.cell? ⟨cb, 1, none⟩ = some (.int .i64 (P : Int)) := rd_cell H8.out.1 rfl
       clear cO hb8 HX
       have hlt8 : XB < w8.heap.size := by omega
       by_cases h32 : seeW s.data.toList P = some 32
       ·have cG := rgap_yes cb P c s w8 H8.out.1 (H8.out.2.1.fine HFN.out.1) hs h32
        rw [blankW, if_pos (took_one.2 (see_some h32).2)] at hTT
        have HTU : Hid (T = ((argW s.data.toList 7 (P + 1) c).then fun a p c => argsW s.data.toList m (acc ++ [a]) p c).map fun l => (⟨tb.data.toList, nb.data.toList, l⟩ : Cmd)) := hTT
        clear h32 hTT
        go_wp2_with fail
        refine cG.mono ?_
        rintro e wG ⟨rfl, hrG, hbG⟩
        have hsG := hbG.size
        have HY : Hid (CdW wG cb s (P + 1) c 0 (-1) ∧ EnvC w cb XB wG ∧ wG.heap[XB]? = some (.cells #[.string tb, .string nb, .slice va N vc] 48 (0, 0)) ∧ ARow (XB + 1) acc (.slice va acc.length vc) wG) := ⟨hrG, H8.out.2.1.step hbG, (hbG.block XB (by omega) (by omega)).trans H8.out.2.2.1, H8.out.2.2.2.kept fun q hq hlt => hbG.block q hlt (by omega)⟩
        clear cG hrG hbG H8 y1
        have cO := rok_yes cb (P + 1) c s wG HY.out.1 (HY.out.2.1.fine HFN.out.1)
        go_wp2_with fail
        refine cO.mono ?_
        rintro e wD ⟨rfl, hbD⟩
        have hsD := hbD.size
        have HZ : Hid (CdW wD cb s (P + 1) c 0 (-1) ∧ EnvC w cb XB wD ∧ wD.heap[XB]? = some (.cells #[.string tb, .string nb, .slice va N vc] 48 (0, 0)) ∧ ARow (XB + 1) acc (.slice va acc.length vc) wD) := ⟨HY.out.1.kept (hbD.block cb (by omega)), HY.out.2.1.step (to_but hbD), (hbD.block XB (by omega)).trans HY.out.2.2.1, HY.out.2.2.2.kept fun q _ hlt => hbD.block q hlt⟩
        have heD : EnvC w cb XB wD.drew := HZ.out.2.1.step (to_but (Below.refl _ _).drew)
        have cA := rarg_is cb s hcf hs HEN.out 7 0 (P + 1) c wD.drew rfl HZ.out.1 (heD.fine HFN.out.1) hc60 (by omega) (heD.num HFN.out.2)
        have cA2 := rapp cb XB 0 N vc s (argW s.data.toList 7 (P + 1) c) acc va (.string tb) (.string nb) 48 wD.drew cA HZ.out.2.2.1 (HZ.out.2.2.2.kept fun _ _ _ => rfl) HN.out (by omega) (by omega)
        rw [show ((0 : Nat) : Int) = 0 from rfl] at cA2
        have k2 : wD.cell? ⟨XB, 2, none⟩ = some (.slice va N vc) := rd_cell HZ.out.2.2.1 rfl
        have HNX : Hid (∀ W' g9 cap9, (∃ (a : Ar) (p c' : Nat) (E q : Int), ResA (argW s.data.toList 7 (P + 1) c) a p c' E q ∧ CdW W' cb s p c' E q ∧ But XB cb wD.drew W' ∧ W'.heap[XB]? = some (.cells #[.string tb, .string nb, .slice (some ⟨g9, 0, none⟩) (N + 1) cap9] 48 (0, 0)) ∧ ARow (XB + 1) (acc ++ [a]) (.slice (some ⟨g9, 0, none⟩) (acc ++ [a]).length cap9) W') → CxAt T cb XB s w W' ∧ lenOf W' XB = N + 1) :=
         fun W' g9 cap9 h => cx_next h HTU.out (by omega) HN.out hNc (by omega) HEN.out heD
        clear cO hbD HY cA heD HZ HTU
        go_wp2_with fail
        refine wp_region_any (by kernel_rfl) ?_
        change wpAny _ _ _ _ _ _ _ (World.drew _)
        refine wpAny_take (i := 0) (v := ?_) rfl (by kernel_rfl) (by kernel_rfl) (by kernel_rfl) (fun _ _ _ h => h) (Or.inl ⟨by rfl, ?_⟩) ?_
        rotate_left
        ·intro w; go_simp; with_reducible rfl
        refine wpAny_take (i := 2) (v := ?_) rfl (by kernel_rfl) (by kernel_rfl) (by kernel_rfl) (fun _ _ _ h => h) (Or.inl ⟨by rfl, ?_⟩) ?_
        rotate_left
        ·intro w; go_simp; with_reducible rfl
        refine wpAny_ready (rs := [1, 3]) (by kernel_rfl) (by simp) ?_
        refine AllReady.cons rfl (fun K hK => ?_) ?_
        ·go_simp
         refine hK _ _ ?_
         refine wpAny_ready (rs := [3]) (by kernel_rfl) (by simp) ?_
         refine AllReady.cons rfl (fun K hK => ?_) AllReady.nil
         go_simp
         refine cA2.mono ?_
         rintro e w9 ⟨K7, tx, xa, xk, xc, w7, W8, g9, cap9, W9, rfl, hw9, k7, hW8, k8, hrun, k9, kf9, HS9⟩
         obtain rfl : w7 = w9 := hw9.symm
         refine hK _ _ ?_
         refine wpAny_ready (rs := [4]) (by kernel_rfl) (by simp) ?_
         refine AllReady.cons rfl (fun K hK => ?_) AllReady.nil
         go_simp
         refine hK _ _ ?_
         refine wpAny_ready (rs := [5]) (by kernel_rfl) (by simp) ?_
         refine AllReady.cons rfl (fun K hK => ?_) AllReady.nil
         refine step_append_run rfl (.tmp 45) (.tmp 48) 25 rfl _ _ _ rfl rfl hrun ?_
         refine hK _ _ ?_
         refine wpAny_take (i := 6) (v := ?_) rfl (by kernel_rfl) (by kernel_rfl) (by kernel_rfl) (fun _ _ _ h => h) (Or.inl ⟨by rfl, ?_⟩) ?_
         rotate_left
         ·intro w; go_simp; with_reducible rfl
         refine wpAny_ready (rs := [7]) (by kernel_rfl) (by simp) ?_
         refine AllReady.cons rfl (fun K hK => ?_) AllReady.nil
         go_simp
         refine hK _ _ ?_
         refine wpAny_done (by kernel_rfl) ?_ _
         go_wp2_with fail
         go_roundw
         case rel => exact (HNX.out _ _ _ HS9.out).1
         case measure =>
          have h1 := (HNX.out _ _ _ HS9.out).2
          rw [h1, HLN.out, HO1.out]
          exact Nat.lt_of_le_of_lt (Nat.add_le_add_left (okOf_le _ _) _) (by omega)
        refine AllReady.cons rfl (fun K hK => ?_) AllReady.nil
        go_simp
        refine cA2.mono ?_
        rintro e w9 ⟨K7, tx, xa, xk, xc, w7, W8, g9, cap9, W9, rfl, hw9, k7, hW8, k8, hrun, k9, kf9, HS9⟩
        obtain rfl : w7 = w9 := hw9.symm
        refine hK _ _ ?_
        refine wpAny_ready (rs := [1, 4]) (by kernel_rfl) (by simp) ?_
        refine AllReady.cons rfl (fun K hK => ?_) ?_
        ·go_simp
         refine hK _ _ ?_
         refine wpAny_ready (rs := [4]) (by kernel_rfl) (by simp) ?_
         refine AllReady.cons rfl (fun K hK => ?_) AllReady.nil
         go_simp
         refine hK _ _ ?_
         refine wpAny_ready (rs := [5]) (by kernel_rfl) (by simp) ?_
         refine AllReady.cons rfl (fun K hK => ?_) AllReady.nil
         refine step_append_run rfl (.tmp 45) (.tmp 48) 25 rfl _ _ _ rfl rfl hrun ?_
         refine hK _ _ ?_
         refine wpAny_take (i := 6) (v := ?_) rfl (by kernel_rfl) (by kernel_rfl) (by kernel_rfl) (fun _ _ _ h => h) (Or.inl ⟨by rfl, ?_⟩) ?_
         rotate_left
         ·intro w; go_simp; with_reducible rfl
         refine wpAny_ready (rs := [7]) (by kernel_rfl) (by simp) ?_
         refine AllReady.cons rfl (fun K hK => ?_) AllReady.nil
         go_simp
         refine hK _ _ ?_
         refine wpAny_done (by kernel_rfl) ?_ _
         go_wp2_with fail
         go_roundw
         case rel => exact (HNX.out _ _ _ HS9.out).1
         case measure =>
          have h1 := (HNX.out _ _ _ HS9.out).2
          rw [h1, HLN.out, HO1.out]
          exact Nat.lt_of_le_of_lt (Nat.add_le_add_left (okOf_le _ _) _) (by omega)
        refine AllReady.cons rfl (fun K hK => ?_) AllReady.nil
        go_simp
        refine hK _ _ ?_
        refine wpAny_ready (rs := [1]) (by kernel_rfl) (by simp) ?_
        refine AllReady.cons rfl (fun K hK => ?_) AllReady.nil
        go_simp
        refine hK _ _ ?_
        refine wpAny_ready (rs := [5]) (by kernel_rfl) (by simp) ?_
        refine AllReady.cons rfl (fun K hK => ?_) AllReady.nil
        refine step_append_run rfl (.tmp 45) (.tmp 48) 25 rfl _ _ _ rfl rfl hrun ?_
        refine hK _ _ ?_
        refine wpAny_take (i := 6) (v := ?_) rfl (by kernel_rfl) (by kernel_rfl) (by kernel_rfl) (fun _ _ _ h => h) (Or.inl ⟨by rfl, ?_⟩) ?_
        rotate_left
        ·intro w; go_simp; with_reducible rfl
        refine wpAny_ready (rs := [7]) (by kernel_rfl) (by simp) ?_
        refine AllReady.cons rfl (fun K hK => ?_) AllReady.nil
        go_simp
        refine hK _ _ ?_
        refine wpAny_done (by kernel_rfl) ?_ _
        go_wp2_with fail
        go_roundw
        case rel => exact (HNX.out _ _ _ HS9.out).1
        case measure =>
         have h1 := (HNX.out _ _ _ HS9.out).2
         rw [h1, HLN.out, HO1.out]
         exact Nat.lt_of_le_of_lt (Nat.add_le_add_left (okOf_le _ _) _) (by omega)
       ·have cG := rgap_no cb P c s w8 H8.out.1 (H8.out.2.1.fine HFN.out.1) hs hlen h32
        rw [blankW, if_neg (fun h => h32 ((see_took HEN.out (by decide) (by decide)).2 h))] at hTT
        have HTU : Hid (T = .bad 3 P) := hTT
        clear h32 hTT
        go_wp2_with fail
        refine cG.mono ?_
        rintro e wG ⟨rfl, hrG, hbG⟩
        have hsG := hbG.size
        have HY : Hid (CdW wG cb s P c 3 (P : Int) ∧ EnvC w cb XB wG ∧ wG.heap[XB]? = some (.cells #[.string tb, .string nb, .slice va N vc] 48 (0, 0)) ∧ ARow (XB + 1) acc (.slice va acc.length vc) wG) := ⟨hrG, H8.out.2.1.step hbG, (hbG.block XB (by omega) (by omega)).trans H8.out.2.2.1, H8.out.2.2.2.kept fun q hq hlt => hbG.block q hlt (by omega)⟩
        clear cG hrG hbG H8 y1
        have cO := rok_no cb P c 3 (P : Int) s wG HY.out.1 (by decide) (HY.out.2.1.fine HFN.out.1)
        go_wp2_with fail
        refine cO.mono ?_
        rintro e wD ⟨rfl, hbD⟩
        have hsD := hbD.size
        have HZ : Hid (CxAt T cb XB s w wD ∧ lenOf wD XB = N ∧ okOf wD cb = 0) :=
         ⟨⟨tb, nb, acc, P, c, 3, (P : Int), va, N, vc, HN.out, HY.out.1.kept (hbD.block cb (by omega)), HY.out.2.1.step (to_but hbD), (hbD.block XB (by omega)).trans HY.out.2.2.1, HY.out.2.2.2.kept fun q _ hlt => hbD.block q hlt, Or.inr ⟨by decide, P, rfl, HTU.out⟩⟩,
          lenOf_is ((hbD.block XB (by omega)).trans HY.out.2.2.1), by rw [okOf_is (HY.out.1.kept (hbD.block cb (by omega)))]; rfl⟩
        clear cO hbD HY HTU
        go_wp2_with fail
        go_roundw
        case rel => exact HZ.out.1
        case measure =>
         rw [HZ.out.2.1, HZ.out.2.2, HLN.out, HO1.out]
         omega
      ·have d1 : decide ((P : Int) < (s.size : Int) - 2) = false := decide_eq_false (by omega)
       go_wp2_with fail
       refine cO.mono ?_
       rintro e w8 ⟨rfl, hb8⟩
       have hs8 := hb8.size
       have H8 : Hid (CdW w8 cb s P c 0 (-1) ∧ EnvC w cb XB w8 ∧ w8.heap[XB]? = some (.cells #[.string tb, .string nb, .slice va N vc] 48 (0, 0)) ∧ ARow (XB + 1) acc (.slice va acc.length vc) w8) := ⟨HX.out.1.kept (hb8.block cb (by omega)), HX.out.2.1.step (to_but hb8), (hb8.block XB hlt3).trans HX.out.2.2.1, HX.out.2.2.2.kept fun q _ hlt => hb8.block q hlt⟩
       have y1 : w8.cell? ⟨cb, 1, none⟩ = some (.int .i64 (P : Int)) := rd_cell H8.out.1 rfl
       clear cO hb8 HX
       have cO := rok_yes cb P c s w8 H8.out.1 (H8.out.2.1.fine HFN.out.1)
       by_cases heq : P + 2 = s.size
       ·have hdr : s.data.toList.drop P = [13, 10] := by
         obtain ⟨t, ht⟩ := HEN.out
         have hl := wsize s
         rw [ht] at hl ⊢
         rw [List.length_append] at hl
         rw [show P = t.length by simp at hl; omega, List.drop_left]
        have hTT := HTT.out
        rw [if_pos hdr] at hTT
        have hTT : T = .ok ⟨tb.data.toList, nb.data.toList, acc⟩ P c := hTT
        subst hTT
        have d2 : ((P : Int) != (s.size : Int) - 2) = false := by simp; omega
        clear hdr HTT
        go_wp2_with fail
        refine cO.mono ?_
        rintro e w9 ⟨rfl, hb9⟩
        have hs9 := hb9.size
        have H9 : Hid (CdW w9 cb s P c 0 (-1) ∧ EnvC w cb XB w9 ∧ w9.heap[XB]? = some (.cells #[.string tb, .string nb, .slice va N vc] 48 (0, 0)) ∧ ARow (XB + 1) acc (.slice va acc.length vc) w9) := ⟨H8.out.1.kept (hb9.block cb (by omega)), H8.out.2.1.step (to_but hb9), (hb9.block XB (by omega)).trans H8.out.2.2.1, H8.out.2.2.2.kept fun q _ hlt => hb9.block q hlt⟩
        have y9 : w9.cell? ⟨cb, 1, none⟩ = some (.int .i64 (P : Int)) := rd_cell H9.out.1 rfl
        clear cO hb9 H8 y1
        have cO := rok_yes cb P c s w9 H9.out.1 (H9.out.2.1.fine HFN.out.1)
        go_wp2_with fail
        refine cO.mono ?_
        rintro e wA ⟨rfl, hbA⟩
        have HA : Hid (CdW wA cb s P c 0 (-1) ∧ EnvC w cb XB wA ∧ wA.heap[XB]? = some (.cells #[.string tb, .string nb, .slice va N vc] 48 (0, 0)) ∧ ARow (XB + 1) acc (.slice va acc.length vc) wA) := ⟨H9.out.1.kept (hbA.block cb (by omega)), H9.out.2.1.step (to_but hbA), (hbA.block XB (by omega)).trans H9.out.2.2.1, H9.out.2.2.2.kept fun q _ hlt => hbA.block q hlt⟩
        clear cO hbA H9 y9
        obtain ⟨g0, g1⟩ := HA.out.2.1.fine HFN.out.1
        obtain ⟨⟨x0, x1, x2⟩, _, _, _, _⟩ := three_facts HA.out.2.2.1 (.string tb) (.string nb) (.slice va N vc)
        obtain ⟨⟨s0, s1, s2⟩, ⟨sf0, sf1, sf2⟩, _, _, _⟩ := three_facts HA.out.2.1.r1 (.string tb) (.string nb) (.slice va N vc)
        obtain ⟨⟨t0, t1⟩, ⟨tf0, tf1⟩, _, _⟩ := two_facts HA.out.2.1.r2 (.int .i64 0) (.int .i64 (-1))
        have HF5 := five_heap (W := wA.drew) HA.out.2.1.r1 HA.out.2.1.r2 (by omega) (.string tb) (.string nb) (.slice va N vc) (.int .i64 0) (.int .i64 (-1))
        have HB5 : Below w.heap.size w _ := five_below (W := wA.drew) (R1 := w.heap.size) (R2 := w.heap.size + 1) HA.out.2.1.below.drew (Nat.le_refl _) (by omega) (.string tb) (.string nb) (.slice va N vc) (.int .i64 0) (.int .i64 (-1))
        have hag := HA.out.2.2.2.ags
        rw [HN.out] at hag
        have HG5 : Agw _ (fun q => w.heap.size ≤ q) acc (.slice va N vc) := hag.kept (w' := ((((wA.drew.setCell ⟨w.heap.size, 0, none⟩ (.string tb)).setCell ⟨w.heap.size, 1, none⟩ (.string nb)).setCell ⟨w.heap.size, 2, none⟩ (.slice va N vc)).setCell ⟨w.heap.size + 1, 0, none⟩ (.int .i64 0)).setCell ⟨w.heap.size + 1, 1, none⟩ (.int .i64 (-1))) fun q hq hlt => ⟨by omega, five_far (W := wA.drew) (by omega) (by omega) _ _ _ _ _⟩
        have H5 : Hid _ := (show Hid (_ ∧ _ ∧ _ ∧ _) from ⟨HF5.1, HF5.2, HB5, HG5⟩)
        clear HF5 HB5 hag HG5
        have n0 : w.heap.size ≠ 0 := by have := World.block_lt_of_cell? _ _ HFN.out.1.1; show w.heap.size ≠ _; exact Nat.ne_of_gt this
        have n1 : 0 ≠ w.heap.size := Ne.symm n0
        have n2 : ¬ (0 = w.heap.size) := n1
        go_upto_region 18 with fail
        go_region
        all_goals
         go_wp2_with fail
         exact ret_five rfl rfl H5.out.1 H5.out.2.1 rfl ⟨tb, nb, _, rfl, rfl, rfl, H5.out.2.2.2, H5.out.2.2.1⟩
       ·have hsn : seeW s.data.toList P = none := by unfold seeW; rw [if_neg (by rw [wsize]; omega)]
        have hdr : ¬ s.data.toList.drop P = [13, 10] := fun h => by
         have := congrArg List.length h
         rw [List.length_drop, wsize] at this
         simp at this
         omega
        have hTT := HTT.out
        rw [if_neg hdr, blankW, if_neg (by rw [see_not HEN.out (by decide) (by decide) (show seeW s.data.toList P ≠ some 32 by rw [hsn]; simp)]; simp)] at hTT
        have hTT : T = .bad 3 P := hTT
        subst hTT
        have d2 : ((P : Int) != (s.size : Int) - 2) = true := by simp; omega
        clear hdr HTT hsn
        go_wp2_with fail
        refine cO.mono ?_
        rintro e w9 ⟨rfl, hb9⟩
        have hs9 := hb9.size
        have H9 : Hid (CdW w9 cb s P c 0 (-1) ∧ EnvC w cb XB w9) := ⟨H8.out.1.kept (hb9.block cb (by omega)), H8.out.2.1.step (to_but hb9)⟩
        have y9 : w9.cell? ⟨cb, 1, none⟩ = some (.int .i64 (P : Int)) := rd_cell H9.out.1 rfl
        clear cO hb9 H8 y1
        have cF := rfail_yes cb P c 3 s w9 H9.out.1 (H9.out.2.fine HFN.out.1)
        go_wp2_with fail
        refine cF.mono ?_
        rintro e wF ⟨rfl, hrF, hbF⟩
        have hsF := hbF.size
        have HY : Hid (CdW wF cb s P c 3 (P : Int) ∧ EnvC w cb XB wF) := ⟨hrF, H9.out.2.step hbF⟩
        clear cF hrF hbF H9 y9
        have cO := rok_no cb P c 3 (P : Int) s wF HY.out.1 (by decide) (HY.out.2.fine HFN.out.1)
        go_wp2_with fail
        refine cO.mono ?_
        rintro e wA ⟨rfl, hbA⟩
        have HA : Hid (CdW wA cb s P c 3 (P : Int) ∧ EnvC w cb XB wA) := ⟨HY.out.1.kept (hbA.block cb (by omega)), HY.out.2.step (to_but hbA)⟩
        clear cO hbA HY
        have y3 : wA.cell? ⟨cb, 3, none⟩ = some (.int .i64 3) := rd_cell HA.out.1 rfl
        have y4 : wA.cell? ⟨cb, 4, none⟩ = some (.int .i64 (P : Int)) := rd_cell HA.out.1 rfl
        obtain ⟨⟨s0, s1, s2⟩, ⟨sf0, sf1, sf2⟩, _, _, _⟩ := three_facts HA.out.2.r1 (.string ⟨#[]⟩) (.string ⟨#[]⟩) (.slice none 0 0)
        obtain ⟨⟨t0, t1⟩, ⟨tf0, tf1⟩, _, _⟩ := two_facts HA.out.2.r2 (.int .i64 3) (.int .i64 (P : Int))
        have HF5 := five_heap (W := wA.drew) HA.out.2.r1 HA.out.2.r2 (by omega) (.string ⟨#[]⟩) (.string ⟨#[]⟩) (.slice none 0 0) (.int .i64 3) (.int .i64 (P : Int))
        have HB5 : Below w.heap.size w _ := five_below (W := wA.drew) (R1 := w.heap.size) (R2 := w.heap.size + 1) HA.out.2.below.drew (Nat.le_refl _) (by omega) (.string ⟨#[]⟩) (.string ⟨#[]⟩) (.slice none 0 0) (.int .i64 3) (.int .i64 (P : Int))
        have H5 : Hid _ := (show Hid (_ ∧ _ ∧ _) from ⟨HF5.1, HF5.2, HB5⟩)
        clear HF5 HB5
        go_upto_region 17 with fail
        go_region
        all_goals
         go_wp2_with fail
         exact ret_five rfl rfl H5.out.1 H5.out.2.1 rfl ⟨rfl, by decide, H5.out.2.2⟩
end Go.Proofs.YtogigccbnohjjaaGreatDoor
