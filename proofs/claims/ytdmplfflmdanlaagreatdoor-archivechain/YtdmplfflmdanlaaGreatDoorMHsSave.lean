/-
  Save: all that a house has.
-/
import Derived.Test.YtdmplfflmdanlaaGreatDoorBpArRows
namespace Go.Proofs.YtdmplfflmdanlaaGreatDoor
open Go.RowKit Go.Proofs.Aid Go.Proofs.Bx

theorem four_facts {W : World} {R : Nat} {a0 a1 a2 a3 : Value} {t : TypeId} (hh : W.heap[R]? = some (.cells #[a0, a1, a2, a3] t (0, 0))) (x0 x1 x2 x3 : Value) :
    (W.cell? ⟨R, 0, none⟩ = some a0 ∧ W.cell? ⟨R, 1, none⟩ = some a1 ∧ W.cell? ⟨R, 2, none⟩ = some a2 ∧ W.cell? ⟨R, 3, none⟩ = some a3) ∧ (W.frozen? ⟨R, 0, none⟩ = false ∧ W.frozen? ⟨R, 1, none⟩ = false ∧ W.frozen? ⟨R, 2, none⟩ = false ∧ W.frozen? ⟨R, 3, none⟩ = false) ∧
    ((((W.setCell ⟨R, 0, none⟩ x0).setCell ⟨R, 1, none⟩ x1).setCell ⟨R, 2, none⟩ x2).setCell ⟨R, 3, none⟩ x3).heap[R]? = some (.cells #[x0, x1, x2, x3] t (0, 0)) := by
  have h0 := rd_set (i := 0) x0 hh
  have h1 := rd_set (i := 1) x1 h0
  have h2 := rd_set (i := 2) x2 h1
  have h3 := rd_set (i := 3) x3 h2
  exact ⟨⟨rd_cell hh rfl, rd_cell hh rfl, rd_cell hh rfl, rd_cell hh rfl⟩, ⟨rd_free hh 0, rd_free hh 1, rd_free hh 2, rd_free hh 3⟩, by simpa using h3⟩
/-- A block without a text may be turned: texts stay. -/
theorem tx_but {w w' : World} {b : Nat} {cs : Array Value} {t : TypeId} (hh : w.heap[b]? = some (.cells cs t (0, 0))) (hn : ∀ u ∈ cs, NoTx u) (h : ∀ k, k < w.heap.size → k ≠ b → w'.heap[k]? = w.heap[k]?) : TxKeep w w' := fun g i s hc => by
  refine h g (World.block_lt_of_cell? _ _ hc) fun e => ?_
  rw [e] at hc
  have hi : cs[i]? = some (.string s) := by simpa [World.cell?, hh] using hc
  exact hn _ (Array.mem_of_getElem? hi) s rfl
theorem notx_slice {a : Option Addr} {n c : Nat} : NoTx (.slice a n c) := fun s e => by cases e
theorem notx_int {n : Int} : NoTx (.int .i64 n) := fun s e => by cases e
theorem notx_four {a b c : Option Addr} {n m k p q r : Nat} {x : Int} : ∀ u ∈ #[Value.slice a n p, .slice b m q, .slice c k r, .int .i64 x], NoTx u := fun u hu => by
  have hu : u = .slice a n p ∨ u = .slice b m q ∨ u = .slice c k r ∨ u = .int .i64 x := by simpa using hu
  rcases hu with rfl | rfl | rfl | rfl <;> first | exact notx_slice | exact notx_int
/-- A slice of texts that lies at B or behind it. -/
def SlN (B : Nat) (w : World) (v : Value) (l : List Nm) : Prop := Sl w v l ∧ ∀ g, v.ownBlock = some g → B ≤ g
theorem SlN.below {B : Nat} {w w' : World} {v : Value} {l : List Nm} {B' : Nat} (h : SlN B w v l) (hb : Below B' w w') (hB : w.heap.size ≤ B') : SlN B w' v l := ⟨h.1.below hb hB, h.2⟩
theorem SlN.tx {B : Nat} {w w' : World} {v : Value} {l : List Nm} (h : SlN B w v l) (k : TxKeep w w') : SlN B w' v l := ⟨h.1.tx k, h.2⟩
theorem nrow_from {w : World} {base : Nat} {v : Value} {l : List Nm} (h : NRow w base v l) {g : Nat} (hg : v.ownBlock = some g) : base ≤ g := by
  rcases h.2 with ⟨q1, _⟩ | ⟨g', cap, cur, q1, q2, _⟩
  · rw [q1] at hg; cases hg
  · rw [q1] at hg
    have : g' = g := by simpa [Value.ownBlock] using hg
    omega
theorem hclone_sln (B : Nat) (fv : Value) (F : List Nm) (w : World) (h : Sl w fv F) (hF : F.length ≤ 1000) (hB : B ≤ w.heap.size) :
    Calls Tryz.prog 71 #[fv] w fun e w' => (∃ v', e = .returned v' ∧ SlN B w' v' F) ∧ Below w.heap.size w w' := by
  refine (clone_wown fv F w h hF).mono ?_
  rintro e w' ⟨⟨v, rfl, h1, h2⟩, h3⟩
  exact ⟨⟨v, rfl, h1.sl, fun g hg => Nat.le_trans hB (nrow_from h2 hg)⟩, h3⟩
/-- What is saved, all of it at B or behind it. -/
def SvF (B : Nat) (w : World) (nv bv wv : Value) (S : Svd) : Prop := SlN B w nv S.names ∧ (Bxr w bv S.boxes ∧ ∀ g, bv.ownBlock = some g → B ≤ g) ∧ SlN B w wv S.wants
theorem SvF.at {B : Nat} {w : World} {nv bv wv : Value} {S : Svd} (h : SvF B w nv bv wv S) : SvAt w nv bv wv S := ⟨h.1.1, h.2.1.1, h.2.2.1⟩
/-- What stands while a house is saved. -/
structure SvI (w : World) (sb base : Nat) (nv bv wv : Value) (nx : Int) (names W : List Nm) (L : List Bxd) (wr : World) : Prop where
  low : Below w.heap.size w wr
  res : wr.heap[w.heap.size]? = some (.cells #[.slice none 0 0, .slice none 0 0, .slice none 0 0, .int .i64 0] 26 (0, 0))
  cell : wr.heap[sb]? = some (.cells #[nv, bv, wv, .int .i64 nx] 26 (0, 0))
  names : SlN w.heap.size wr nv names
  wants : SlN w.heap.size wr wv W
  boxes : BOwn wr base bv L
  sep : w.heap.size < sb ∧ sb < base ∧ base ≤ wr.heap.size
theorem svi_start {w w5 : World} {sb : Nat} {na wa : Option Addr} {nl nc wl wc : Nat} {names W : List Nm} {nx : Int} (hlow : Below w.heap.size w w5) (_hsz : w.heap.size ≤ w5.heap.size) (hres : w5.heap[w.heap.size]? = some (.cells #[.slice none 0 0, .slice none 0 0, .slice none 0 0, .int .i64 0] 26 (0, 0)))
    (hsb : w5.heap[sb]? = some (.cells #[.slice none 0 0, .slice none 0 0, .slice none 0 0, .int .i64 0] 26 (0, 0))) (hlt : w.heap.size < sb) (hn : SlN w.heap.size w5 (.slice na nl nc) names) (hw : SlN w.heap.size w5 (.slice wa wl wc) W) :
    Hid (SvI w sb w5.heap.size (.slice na nl nc) (.slice none 0 0) (.slice wa wl wc) nx names W [] ((((w5.setCell ⟨sb, 0, none⟩ (.slice na nl nc)).setCell ⟨sb, 1, none⟩ (.slice none 0 0)).setCell ⟨sb, 2, none⟩ (.slice wa wl wc)).setCell ⟨sb, 3, none⟩ (.int .i64 nx))) := by
  obtain ⟨W9, hW9⟩ : ∃ W, ((((w5.setCell ⟨sb, 0, none⟩ (.slice na nl nc)).setCell ⟨sb, 1, none⟩ (.slice none 0 0)).setCell ⟨sb, 2, none⟩ (.slice wa wl wc)).setCell ⟨sb, 3, none⟩ (.int .i64 nx)) = W := ⟨_, rfl⟩
  have hbut : But w5.heap.size sb w5 W9 := by rw [← hW9]; exact ((((to_but (Below.refl _ _)).setB 0 _).setB 1 _).setB 2 _).setB 3 _
  have hc := (four_facts hsb (.slice na nl nc) (.slice none 0 0) (.slice wa wl wc) (.int .i64 nx)).2.2
  rw [hW9] at hc ⊢
  have htx : TxKeep w5 W9 := tx_but hsb notx_four fun k h1 h2 => hbut.block k h1 h2
  have hsl : sb < w5.heap.size := (Array.getElem?_eq_some_iff.1 hsb).1
  refine ⟨hlow.trans (hbut.below hlow.size (by omega)), (hbut.block _ (Array.getElem?_eq_some_iff.1 hres).1 (by omega)).trans hres, hc, hn.tx htx, hw.tx htx, BOwn.nil _ _, hlt, hsl, hbut.size⟩
theorem SvI.push {w wr w7 : World} {sb base K ca : Nat} {na va wa : Option Addr} {nl nc wl wc : Nat} {nx : Int} {names W : List Nm} {L : List Bxd} (h : SvI w sb base (.slice na nl nc) (.slice va K ca) (.slice wa wl wc) nx names W L wr) (hK : L.length = K) (hL : K ≤ 1000) (hb7 : Below wr.heap.size wr w7) (x : Bxd) (lv : Value) (hl : Lts w7 lv x.ls) :
    ∃ g cap W9, (Builtin.append_ #[24, 24] 24 #[.slice va K ca, .slice (some ⟨w7.heap.size, 0, none⟩) 1 1]).run Tryz.prog (w7.alloc (.cells #[.int .i64 x.v, .int .i64 x.n, lv] 66)) = .ok (.slice (some ⟨g, 0, none⟩) (K + 1) cap) W9 ∧
      W9.cell? ⟨sb, 1, none⟩ = some (.slice va K ca) ∧ W9.frozen? ⟨sb, 1, none⟩ = false ∧ Below w.heap.size w W9 ∧
      Hid (SvI w sb base (.slice na nl nc) (.slice (some ⟨g, 0, none⟩) (K + 1) cap) (.slice wa wl wc) nx names W (L ++ [x]) (W9.setCell ⟨sb, 1, none⟩ (.slice (some ⟨g, 0, none⟩) (K + 1) cap))) := by
  subst hK
  obtain ⟨p1, p2, p3, p4, p5, p6, p7, p8, p9⟩ := h
  have hz7 := hb7.size
  have hlow7 : Below w.heap.size w w7 := p1.trans (hb7.mono p1.size)
  obtain ⟨g, cap, W9, hap, hown, ⟨q1, q2, q3, q4, q5⟩, htx⟩ := bown_push (p6.below hb7) (Nat.le_trans p9 hz7) hL x lv hl
  have hne : ∀ q, q < base → (Value.slice va L.length ca).ownBlock ≠ some q := fun q hq e => by
    have := (p6.lt e).1
    omega
  have hsb7 := (hb7.block sb (Array.getElem?_eq_some_iff.1 p3).1).trans p3
  have hres7 := (hb7.block _ (Array.getElem?_eq_some_iff.1 p2).1).trans p2
  have hsb9 := (q5 sb (Array.getElem?_eq_some_iff.1 hsb7).1 (hne sb p8)).trans hsb7
  have hres9 := (q5 _ (Array.getElem?_eq_some_iff.1 hres7).1 (hne _ (by omega))).trans hres7
  have hlow9 : Below w.heap.size w W9 := hlow7.trans ⟨q1, q2, q3, q4, fun k hk => q5 k (Nat.lt_of_lt_of_le hk hlow7.size) (hne k (by omega))⟩
  have hset := rd_set (i := 1) (.slice (some ⟨g, 0, none⟩) (L.length + 1) cap) hsb9
  obtain ⟨W10, hW10⟩ : ∃ W, W9.setCell ⟨sb, 1, none⟩ (.slice (some ⟨g, 0, none⟩) (L.length + 1) cap) = W := ⟨_, rfl⟩
  have hbut : But W9.heap.size sb W9 W10 := by rw [← hW10]; exact (to_but (Below.refl _ _)).setB 1 _
  have htx2 : TxKeep W9 W10 := tx_but hsb9 notx_four fun k h1 h2 => hbut.block k h1 h2
  have htx3 : TxKeep wr W10 := (TxKeep.of hb7).trans (htx.trans htx2)
  refine ⟨g, cap, W9, hap, rd_cell hsb9 rfl, rd_free hsb9 1, hlow9, ?_⟩
  rw [hW10] at hset ⊢
  refine ⟨hlow9.trans (hbut.below hlow9.size (by omega)), (hbut.block _ (Array.getElem?_eq_some_iff.1 hres9).1 (by omega)).trans hres9, by simpa using hset, p4.tx htx3, p5.tx htx3, hown.keep (fun q hq => ?_) htx2, p7, p8, by have := hbut.size; omega⟩
  have hqb := hown.lt hq
  exact hbut.block q hqb.2 (by omega)
set_option maxHeartbeats 8000000 in
set_option maxRecDepth 100000 in
theorem save_f (hb mb : Nat) (l : Bxs) (nx : Int) (wv : Value) (Ws : List Nm) (C : Nat → Bxd) (w : World) (h : Hse w hb mb l nx wv Ws C) (hs : Sml l Ws C) :
    Calls Tryz.prog 20 #[.pointer (some ⟨hb, 0, none⟩)] w fun e w' => (∃ nv bv wv', e = .returned (.agg #[nv, bv, wv', .int .i64 nx]) ∧ SvF w.heap.size w' nv bv wv' (svOf l Ws nx C)) ∧ Below w.heap.size w w' := by
  obtain ⟨wa, wc, rfl, _⟩ := id h.ws
  have HH : Hid (Hse w hb mb l nx (.slice wa Ws.length wc) Ws C ∧ Sml l Ws C) := ⟨h, hs⟩
  have hbl := h.hs.lt
  obtain ⟨M, hM⟩ : ∃ m, Ws.length = m := ⟨_, rfl⟩
  have HM : Hid (Ws.length = M) := hM
  have HNM : Hid (∀ W, Below w.heap.size w W → Calls Tryz.prog 70 #[.pointer (some ⟨hb, 0, none⟩)] W fun e w' => (∃ v, e = .returned v ∧ NRow w' W.heap.size v (namesB l)) ∧ Below W.heap.size W w') := fun W hW => names_is hb mb l nx _ W (h.below hW).hs (by have := hs.len; omega)
  have HCL : Hid (∀ W, Below w.heap.size w W → Calls Tryz.prog 71 #[.slice wa M wc] W fun e w' => (∃ v', e = .returned v' ∧ SlN w.heap.size w' v' Ws) ∧ Below W.heap.size W w') := fun W hW => by
    rw [← hM]
    exact hclone_sln _ _ Ws W (h.below hW).ws (by have := hs.wlen; omega) hW.size
  have HRD : Hid (∀ W, Below w.heap.size w W → W.cell? ⟨hb, 1, none⟩ = some (.slice wa M wc) ∧ W.cell? ⟨hb, 2, none⟩ = some (.int .i64 nx)) := fun W hW => by
    rw [← hM]
    exact (h.below hW).hs.cell.2
  obtain ⟨W1, hW1⟩ : ∃ W, w.alloc (.cells #[.slice none 0 0, .slice none 0 0, .slice none 0 0, .int .i64 0] 26) = W := ⟨_, rfl⟩
  have b1 : Below w.heap.size w W1 := by rw [← hW1]; exact (Below.refl _ _).alloc (Nat.le_refl _) _
  have e1 : W1.heap[w.heap.size]? = some (.cells #[.slice none 0 0, .slice none 0 0, .slice none 0 0, .int .i64 0] 26 (0, 0)) := by rw [← hW1]; exact heap_alloc_new _ _
  have z1 : W1.heap.size = w.heap.size + 1 := by rw [← hW1]; simp
  obtain ⟨WD, hWD⟩ : ∃ W, W1.drew = W := ⟨_, rfl⟩
  have bD : Below W1.heap.size W1 WD := by rw [← hWD]; exact (Below.refl _ _).drew
  have zD : WD.heap.size = w.heap.size + 1 := by rw [← hWD, ← z1]; rfl
  have HWD : Hid (Below w.heap.size w WD ∧ w.heap.size < WD.heap.size ∧ Below W1.heap.size W1 WD) := ⟨b1.trans (bD.mono b1.size), by omega, bD⟩
  have HRS : Hid (∀ W, Below W1.heap.size W1 W → W.heap[w.heap.size]? = some (.cells #[.slice none 0 0, .slice none 0 0, .slice none 0 0, .int .i64 0] 26 (0, 0))) := fun W hW => (hW.block _ (by omega)).trans e1
  obtain ⟨WA, hWA⟩ : ∃ W, WD.alloc (.cells #[.slice none 0 0, .slice none 0 0, .slice none 0 0, .int .i64 0] 26) = W := ⟨_, rfl⟩
  have bA : Below WD.heap.size WD WA := by rw [← hWA]; exact (Below.refl _ _).alloc (Nat.le_refl _) _
  have HWA : Hid (Below w.heap.size w WA ∧ WD.heap.size < WA.heap.size ∧ WA.heap[WD.heap.size]? = some (.cells #[.slice none 0 0, .slice none 0 0, .slice none 0 0, .int .i64 0] 26 (0, 0)) ∧ (WA.cell? ⟨hb, 1, none⟩ = some (.slice wa M wc) ∧ WA.cell? ⟨hb, 2, none⟩ = some (.int .i64 nx)) ∧ Below WD.heap.size WD WA) := by
    have hlA : Below w.heap.size w WA := HWD.out.1.trans (bA.mono HWD.out.1.size)
    refine ⟨hlA, ?_, ?_, HRD.out WA hlA, bA⟩
    · rw [← hWA]; simp
    · rw [← hWA]; exact heap_alloc_new _ _
  obtain ⟨c1, c2⟩ := HRD.out W1 b1
  rw [hM] at HH
  clear h hs hM b1 e1 z1 bD zD bA
  go_enter Tryz.func20, Tryz.ntmps20
  go_upto_region 1 with fail
  go_cut [3] (fun sv wx => ∃ sb, sv = .pointer (some ⟨sb, 0, none⟩) ∧ ∃ base na nc wa' , ∃ wc', Hid (SvI w sb base (.slice na (namesB l).length nc) (.slice none 0 0) (.slice wa' Ws.length wc') nx (namesB l) Ws [] wx))
  case first =>
    refine wp_region_held_drew (S := fun W => W.cell? ⟨hb, 1, none⟩ = some (.slice wa M wc) ∧ W.cell? ⟨hb, 2, none⟩ = some (.int .i64 nx)) (by kernel_rfl) ?_ (fun hHeld => ?_)
    · exact ⟨by simpa using c1, by simpa using c2⟩
    rw [hWD] at hHeld ⊢
    refine wpAnyH_take (i := 0) (v := ?_) rfl (by kernel_rfl) (by kernel_rfl) (by kernel_rfl) (fun _ _ _ h => h) (Or.inl ⟨by rfl, ?_⟩) (by first | assumption | trivial) ?_
    rotate_left
    · intro w hSw; go_simp; (try with_reducible rfl)
    change wpAnyH _ _ _ _ _ _ _ (Act.put _ (some 6) _) _; simp only [Act.put, List.setIfInBounds_toArray, List.set_cons_zero, List.set_cons_succ]
    refine wpAnyH_take (i := 2) (v := ?_) rfl (by kernel_rfl) (by kernel_rfl) (by kernel_rfl) (fun _ _ _ h => h) (Or.inl ⟨by rfl, ?_⟩) (by first | assumption | trivial) ?_
    rotate_left
    · intro w hSw; go_simp; (try with_reducible rfl)
    change wpAnyH _ _ _ _ _ _ _ (Act.put _ (some 8) _) _; simp only [Act.put, List.setIfInBounds_toArray, List.set_cons_zero, List.set_cons_succ]
    refine wpAnyH_take (i := 3) (v := ?_) rfl (by kernel_rfl) (by kernel_rfl) (by kernel_rfl) (fun _ _ _ h => h) (Or.inl ⟨by rfl, ?_⟩) (by first | assumption | trivial) ?_
    rotate_left
    · intro w hSw; go_simp; (try with_reducible rfl)
    change wpAnyH _ _ _ _ _ _ _ (Act.put _ (some 9) _) _; simp only [Act.put, List.setIfInBounds_toArray, List.set_cons_zero, List.set_cons_succ]
    refine wpAnyH_take (i := 4) (v := ?_) rfl (by kernel_rfl) (by kernel_rfl) (by kernel_rfl) (fun _ _ _ h => h) (Or.inl ⟨by rfl, ?_⟩) (by first | assumption | trivial) ?_
    rotate_left
    · intro w hSw; go_simp; (try with_reducible rfl)
    change wpAnyH _ _ _ _ _ _ _ (Act.put _ (some 10) _) _; simp only [Act.put, List.setIfInBounds_toArray, List.set_cons_zero, List.set_cons_succ]
    refine wpAnyH_take (i := 5) (v := ?_) rfl (by kernel_rfl) (by kernel_rfl) (by kernel_rfl) (fun _ _ _ h => h) (Or.inl ⟨by rfl, ?_⟩) (by first | assumption | trivial) ?_
    rotate_left
    · intro w hSw; go_simp; (try with_reducible rfl)
    change wpAnyH _ _ _ _ _ _ _ (Act.put _ (some 11) _) _; simp only [Act.put, List.setIfInBounds_toArray, List.set_cons_zero, List.set_cons_succ]
    refine wpAnyH_take (i := 7) (v := ?_) rfl (by kernel_rfl) (by kernel_rfl) (by kernel_rfl) (fun _ _ _ h => h) (Or.inl ⟨by rfl, ?_⟩) (by first | assumption | trivial) ?_
    rotate_left
    · intro w hSw; go_simp; (try with_reducible rfl)
    change wpAnyH _ _ _ _ _ _ _ (Act.put _ (some 13) _) _; simp only [Act.put, List.setIfInBounds_toArray, List.set_cons_zero, List.set_cons_succ]
    refine wpAnyH_take (i := 8) (v := ?_) rfl (by kernel_rfl) (by kernel_rfl) (by kernel_rfl) (fun _ _ _ h => h) (Or.inl ⟨by rfl, ?_⟩) (by first | assumption | trivial) ?_
    rotate_left
    · intro w hSw; go_simp; (try with_reducible rfl)
    change wpAnyH _ _ _ _ _ _ _ (Act.put _ (some 14) _) _; simp only [Act.put, List.setIfInBounds_toArray, List.set_cons_zero, List.set_cons_succ]
    refine wpAnyH_take (i := 9) (v := ?_) rfl (by kernel_rfl) (by kernel_rfl) (by kernel_rfl) (fun _ _ _ h => h) (Or.inl ⟨by rfl, ?_⟩) (by first | assumption | trivial) ?_
    rotate_left
    · intro w hSw; go_simp; (try with_reducible rfl)
    change wpAnyH _ _ _ _ _ _ _ (Act.put _ (some 15) _) _; simp only [Act.put, List.setIfInBounds_toArray, List.set_cons_zero, List.set_cons_succ]
    refine wpAnyH_take (i := 10) (v := ?_) rfl (by kernel_rfl) (by kernel_rfl) (by kernel_rfl) (fun _ _ _ h => h) (Or.inl ⟨by rfl, ?_⟩) (by first | assumption | trivial) ?_
    rotate_left
    · intro w hSw; go_simp; (try with_reducible rfl)
    change wpAnyH _ _ _ _ _ _ _ (Act.put _ (some 16) _) _; simp only [Act.put, List.setIfInBounds_toArray, List.set_cons_zero, List.set_cons_succ]
    refine wpAnyH_ready (rs := [1, 12]) (by kernel_rfl) (by simp) ?_
    refine AllReadyH.cons rfl (fun K hK => ?_) ?_
    · go_simp
      refine (HNM.out WD HWD.out.1).mono ?_
      rintro e w3 ⟨⟨nv, rfl, hrow3⟩, hb3⟩
      have hn3 : SlN w.heap.size _ _ _ := ⟨sl_of_nrow hrow3, fun g hg => Nat.le_trans HWD.out.1.size (nrow_from hrow3 hg)⟩
      obtain ⟨na, nc, rfl, _⟩ := id hn3.1
      have hl3 : Below w.heap.size w w3 := (HWD.out.1).trans (hb3.mono (HWD.out.1).size)
      have HN3 : Hid (SlN w.heap.size w3 (.slice na (namesB l).length nc) (namesB l) ∧ Below w.heap.size w w3 ∧ Below WD.heap.size WD w3) := ⟨hn3, hl3, hb3⟩
      have k3 := HRD.out w3 hl3
      obtain ⟨W5, hW5⟩ : ∃ W, w3.alloc (.cells #[.slice none 0 0, .slice none 0 0, .slice none 0 0, .int .i64 0] 26) = W := ⟨_, rfl⟩
      have bW5 : Below w3.heap.size w3 W5 := by rw [← hW5]; exact (Below.refl _ _).alloc (Nat.le_refl _) _
      have eW5 : W5.heap[w3.heap.size]? = some (.cells #[.slice none 0 0, .slice none 0 0, .slice none 0 0, .int .i64 0] 26 (0, 0)) := by rw [← hW5]; exact heap_alloc_new _ _
      have hl5 : Below w.heap.size w W5 := hl3.trans (bW5.mono hl3.size)
      have HN5 : Hid (SlN w.heap.size W5 (.slice na (namesB l).length nc) (namesB l) ∧ Below w.heap.size w W5 ∧ Below w3.heap.size w3 W5 ∧ W5.heap[w3.heap.size]? = some (.cells #[.slice none 0 0, .slice none 0 0, .slice none 0 0, .int .i64 0] 26 (0, 0))) := ⟨hn3.below bW5 (Nat.le_refl _), hl5, bW5, eW5⟩
      have k5 := HRD.out W5 hl5
      clear bW5 eW5 hl5
      clear hrow3 hb3 hn3 hl3
      refine hK.out _ _ ?_ (fun hHeld => ?_)
      · exact k3
      clear hK K
      refine wpAnyH_ready (rs := [6, 12]) (by kernel_rfl) (by simp) ?_
      refine AllReadyH.cons rfl (fun K hK => ?_) ?_
      · go_simp
        refine (HCL.out w3 HN3.out.2.1).mono ?_
        rintro e w4 ⟨⟨wv4, rfl, hs4⟩, hb4⟩
        obtain ⟨wa4, wc4, rfl, _⟩ := id hs4.1
        have hl4 : Below w.heap.size w w4 := (HN3.out.2.1).trans (hb4.mono (HN3.out.2.1).size)
        have k4 := HRD.out w4 hl4
        have hn4 : SlN w.heap.size w4 (.slice na (namesB l).length nc) (namesB l) := (HN3.out.1).below hb4 (Nat.le_refl _)
        obtain ⟨W6, hW6⟩ : ∃ W, w4.alloc (.cells #[.slice none 0 0, .slice none 0 0, .slice none 0 0, .int .i64 0] 26) = W := ⟨_, rfl⟩
        have bW6 : Below w4.heap.size w4 W6 := by rw [← hW6]; exact (Below.refl _ _).alloc (Nat.le_refl _) _
        have eW6 : W6.heap[w4.heap.size]? = some (.cells #[.slice none 0 0, .slice none 0 0, .slice none 0 0, .int .i64 0] 26 (0, 0)) := by rw [← hW6]; exact heap_alloc_new _ _
        have hl6 : Below w.heap.size w W6 := hl4.trans (bW6.mono hl4.size)
        have k6 := HRD.out W6 hl6
        have hlt6 : w.heap.size < w4.heap.size := by have := hb4.size; have := HN3.out.2.2.size; have := HWD.out.2.1; omega
        obtain ⟨⟨o0, o1, o2, o3⟩, ⟨f0, f1, f2, f3⟩, _⟩ := four_facts eW6 (.slice na (namesB l).length nc) (.slice none 0 0) (.slice wa4 Ws.length wc4) (.int .i64 nx)
        have HF := svi_start (nx := nx) hl6 (hl6.size) (HRS.out W6 (HWD.out.2.2.trans (((HN3.out.2.2.trans (hb4.mono HN3.out.2.2.size)).trans (bW6.mono (Nat.le_trans HN3.out.2.2.size hb4.size))).mono HWD.out.2.2.size))) eW6 hlt6 (hn4.below bW6 (Nat.le_refl _)) (hs4.below bW6 (Nat.le_refl _))
        clear eW6 bW6 hl6 hlt6
        clear hb4 hs4 hn4 hl4
        refine hK.out _ _ ?_ (fun hHeld => ?_)
        · exact k4
        clear hK K
        refine wpAnyH_take (i := 11) (v := ?_) rfl (by kernel_rfl) (by kernel_rfl) (by kernel_rfl) (fun _ _ _ h => h) (Or.inl ⟨by rfl, ?_⟩) (by first | assumption | trivial) ?_
        rotate_left
        · intro w hSw; go_simp; (try with_reducible rfl)
        change wpAnyH _ _ _ _ _ _ _ (Act.put _ (some 17) _) _; simp only [Act.put, List.setIfInBounds_toArray, List.set_cons_zero, List.set_cons_succ]
        refine wpAnyH_ready (rs := [12]) (by kernel_rfl) (by simp) ?_
        refine AllReadyH.cons rfl (fun K hK => ?_) AllReadyH.nil
        go_simp
        refine hK.out _ _ ?_ (fun hHeld => ?_)
        · exact k6
        clear hK K
        refine wpAnyH_ready (rs := [13]) (by kernel_rfl) (by simp) ?_
        refine AllReadyH.cons rfl (fun K hK => ?_) AllReadyH.nil
        go_simp
        refine hK.out _ _ ?_ (fun hHeld => ?_)
        · exact HRD.out _ HF.out.low
        clear hK K
        refine wpAnyH_done (by kernel_rfl) ?_ _
        clear hHeld
        go_wp2_with fail
        go_meet
        exact ⟨_, rfl, _, _, _, _, _, HF⟩
      refine AllReadyH.cons rfl (fun K hK => ?_) AllReadyH.nil
      go_simp
      refine hK.out _ _ ?_ (fun hHeld => ?_)
      · exact k5
      clear hK K
      refine wpAnyH_ready (rs := [6]) (by kernel_rfl) (by simp) ?_
      refine AllReadyH.cons rfl (fun K hK => ?_) AllReadyH.nil
      go_simp
      refine (HCL.out W5 HN5.out.2.1).mono ?_
      rintro e w4 ⟨⟨wv4, rfl, hs4⟩, hb4⟩
      obtain ⟨wa4, wc4, rfl, _⟩ := id hs4.1
      have hl4 : Below w.heap.size w w4 := (HN5.out.2.1).trans (hb4.mono (HN5.out.2.1).size)
      have k4 := HRD.out w4 hl4
      have hn4 : SlN w.heap.size w4 (.slice na (namesB l).length nc) (namesB l) := (HN5.out.1).below hb4 (Nat.le_refl _)
      have hsb4 : w4.heap[w3.heap.size]? = some (.cells #[.slice none 0 0, .slice none 0 0, .slice none 0 0, .int .i64 0] 26 (0, 0)) := (hb4.block _ (Array.getElem?_eq_some_iff.1 HN5.out.2.2.2).1).trans HN5.out.2.2.2
      have hlt4 : w.heap.size < w3.heap.size := by have := HN3.out.2.2.size; have := HWD.out.2.1; omega
      obtain ⟨⟨o0, o1, o2, o3⟩, ⟨f0, f1, f2, f3⟩, _⟩ := four_facts hsb4 (.slice na (namesB l).length nc) (.slice none 0 0) (.slice wa4 Ws.length wc4) (.int .i64 nx)
      have HF := svi_start (nx := nx) hl4 hl4.size (HRS.out w4 (HWD.out.2.2.trans (((HN3.out.2.2).trans (HN5.out.2.2.1.mono HN3.out.2.2.size)).trans (hb4.mono (Nat.le_trans HN3.out.2.2.size HN5.out.2.2.1.size)) |>.mono HWD.out.2.2.size))) hsb4 hlt4 hn4 hs4
      clear hsb4
      clear hb4 hs4 hn4 hl4
      refine hK.out _ _ ?_ (fun hHeld => ?_)
      · exact k4
      clear hK K
      refine wpAnyH_take (i := 11) (v := ?_) rfl (by kernel_rfl) (by kernel_rfl) (by kernel_rfl) (fun _ _ _ h => h) (Or.inl ⟨by rfl, ?_⟩) (by first | assumption | trivial) ?_
      rotate_left
      · intro w hSw; go_simp; (try with_reducible rfl)
      change wpAnyH _ _ _ _ _ _ _ (Act.put _ (some 17) _) _; simp only [Act.put, List.setIfInBounds_toArray, List.set_cons_zero, List.set_cons_succ]
      refine wpAnyH_ready (rs := [13]) (by kernel_rfl) (by simp) ?_
      refine AllReadyH.cons rfl (fun K hK => ?_) AllReadyH.nil
      go_simp
      refine hK.out _ _ ?_ (fun hHeld => ?_)
      · exact HRD.out _ HF.out.low
      clear hK K
      refine wpAnyH_done (by kernel_rfl) ?_ _
      clear hHeld
      go_wp2_with fail
      go_meet
      exact ⟨_, rfl, _, _, _, _, _, HF⟩
    refine AllReadyH.cons rfl (fun K hK => ?_) AllReadyH.nil
    go_simp
    refine hK.out _ _ ?_ (fun hHeld => ?_)
    · exact HWA.out.2.2.2.1
    clear hK K
    refine wpAnyH_ready (rs := [1]) (by kernel_rfl) (by simp) ?_
    refine AllReadyH.cons rfl (fun K hK => ?_) AllReadyH.nil
    go_simp
    refine (HNM.out WA HWA.out.1).mono ?_
    rintro e w3 ⟨⟨nv, rfl, hrow3⟩, hb3⟩
    have hn3 : SlN w.heap.size _ _ _ := ⟨sl_of_nrow hrow3, fun g hg => Nat.le_trans HWA.out.1.size (nrow_from hrow3 hg)⟩
    obtain ⟨na, nc, rfl, _⟩ := id hn3.1
    have hl3 : Below w.heap.size w w3 := (HWA.out.1).trans (hb3.mono (HWA.out.1).size)
    have HN3 : Hid (SlN w.heap.size w3 (.slice na (namesB l).length nc) (namesB l) ∧ Below w.heap.size w w3 ∧ Below WA.heap.size WA w3) := ⟨hn3, hl3, hb3⟩
    have k3 := HRD.out w3 hl3
    clear hrow3 hb3 hn3 hl3
    refine hK.out _ _ ?_ (fun hHeld => ?_)
    · exact k3
    clear hK K
    refine wpAnyH_ready (rs := [6]) (by kernel_rfl) (by simp) ?_
    refine AllReadyH.cons rfl (fun K hK => ?_) AllReadyH.nil
    go_simp
    refine (HCL.out w3 HN3.out.2.1).mono ?_
    rintro e w4 ⟨⟨wv4, rfl, hs4⟩, hb4⟩
    obtain ⟨wa4, wc4, rfl, _⟩ := id hs4.1
    have hl4 : Below w.heap.size w w4 := (HN3.out.2.1).trans (hb4.mono (HN3.out.2.1).size)
    have k4 := HRD.out w4 hl4
    have hn4 : SlN w.heap.size w4 (.slice na (namesB l).length nc) (namesB l) := (HN3.out.1).below hb4 (Nat.le_refl _)
    have hsb4 : w4.heap[WD.heap.size]? = some (.cells #[.slice none 0 0, .slice none 0 0, .slice none 0 0, .int .i64 0] 26 (0, 0)) := (hb4.block _ (by have := HN3.out.2.2.size; have := HWA.out.2.1; omega)).trans ((HN3.out.2.2.block _ (by have := HWA.out.2.1; omega)).trans HWA.out.2.2.1)
    have hlt4 : w.heap.size < WD.heap.size := HWD.out.2.1
    obtain ⟨⟨o0, o1, o2, o3⟩, ⟨f0, f1, f2, f3⟩, _⟩ := four_facts hsb4 (.slice na (namesB l).length nc) (.slice none 0 0) (.slice wa4 Ws.length wc4) (.int .i64 nx)
    have HF := svi_start (nx := nx) hl4 hl4.size (HRS.out w4 (HWD.out.2.2.trans ((HWA.out.2.2.2.2.trans ((HN3.out.2.2.trans (hb4.mono HN3.out.2.2.size)).mono HWA.out.2.2.2.2.size)).mono HWD.out.2.2.size))) hsb4 hlt4 hn4 hs4
    clear hsb4
    clear hb4 hs4 hn4 hl4
    refine hK.out _ _ ?_ (fun hHeld => ?_)
    · exact k4
    clear hK K
    refine wpAnyH_take (i := 11) (v := ?_) rfl (by kernel_rfl) (by kernel_rfl) (by kernel_rfl) (fun _ _ _ h => h) (Or.inl ⟨by rfl, ?_⟩) (by first | assumption | trivial) ?_
    rotate_left
    · intro w hSw; go_simp; (try with_reducible rfl)
    change wpAnyH _ _ _ _ _ _ _ (Act.put _ (some 17) _) _; simp only [Act.put, List.setIfInBounds_toArray, List.set_cons_zero, List.set_cons_succ]
    refine wpAnyH_ready (rs := [13]) (by kernel_rfl) (by simp) ?_
    refine AllReadyH.cons rfl (fun K hK => ?_) AllReadyH.nil
    go_simp
    refine hK.out _ _ ?_ (fun hHeld => ?_)
    · exact HRD.out _ HF.out.low
    clear hK K
    refine wpAnyH_done (by kernel_rfl) ?_ _
    clear hHeld
    go_wp2_with fail
    go_meet
    exact ⟨_, rfl, _, _, _, _, _, HF⟩
  case rest =>
    obtain ⟨sb, rfl, base, na, nc, wa', wc', HI0⟩ := hcut
    clear HNM HCL HRD HWD HRS HWA c1 c2
    obtain ⟨N, hN⟩ : ∃ n, (namesB l).length = n := ⟨_, rfl⟩
    obtain ⟨MW, hMW⟩ : ∃ n, Ws.length = n := ⟨_, rfl⟩
    obtain ⟨Bs, hBs⟩ : ∃ B, (l.map fun p => C p.2) = B := ⟨_, rfl⟩
    have hBl : Bs.length = N := by rw [← hBs, ← hN]; simp [namesB]
    have HN : Hid ((namesB l).length = N ∧ Ws.length = MW ∧ (l.map fun p => C p.2) = Bs ∧ Bs.length = N ∧ N ≤ 30) := ⟨hN, hMW, hBs, hBl, by rw [← hN]; have := HH.out.2.len; simpa [namesB] using this⟩
    have hN30 : N ≤ 30 := HN.out.2.2.2.2
    rw [hN, hMW] at HI0
    have c0 : wc.cell? ⟨sb, 0, none⟩ = some (.slice na N nc) := rd_cell HI0.out.cell rfl
    clear hN hMW hBs hBl
    go_wp2_with fail
    go_loopw [21] (fun iv wr => ∃ k : Nat, iv = .int .i64 (k : Int) ∧ k ≤ N ∧ ∃ va ca, Hid (SvI w sb base (.slice na N nc) (.slice va k ca) (.slice wa' MW wc') nx (namesB l) Ws (Bs.take k) wr)) (fun iv _ => N - (intOf iv).toNat)
    case atStart => exact ⟨0, rfl, Nat.zero_le _, none, 0, HI0⟩
    case round =>
      clear HI0 c0
      obtain ⟨k, rfl, hk, va, ca, HI⟩ := hrel
      by_cases hlt : k < N
      · have d1 : decide ((k : Int) < (N : Int)) = true := decide_eq_true (by omega)
        have i1 : (0 : Int) ≤ (k : Int) := by omega
        have i2 : (k : Int) < (N : Int) := by omega
        obtain ⟨⟨nm, b⟩, hpk⟩ : ∃ p, l[k]? = some p := ⟨_, List.getElem?_eq_getElem (by have := HN.out.1; simp [namesB] at this; omega)⟩
        have hmem : (nm, b) ∈ l := List.mem_of_getElem? hpk
        have hnk : (namesB l)[k]? = some nm := by unfold namesB; rw [List.getElem?_map, hpk]; rfl
        obtain ⟨nb, no, rfl, hnc⟩ := sl_at HI.out.names.1 hnk
        have nmc := hnc k nm hnk
        have hnl : nm.length ≤ 60 := HH.out.2.nm _ hmem
        obtain ⟨lv, e5, hl5⟩ := HH.out.1.bx _ hmem
        have hBk : Bs[k]? = some (C b) := by rw [← HN.out.2.2.1, List.getElem?_map, hpk]; rfl
        have hfl := HH.out.2.fl _ hmem
        have hll := HH.out.2.ls _ hmem
        obtain ⟨x, hx⟩ : ∃ x, C b = x := ⟨_, rfl⟩
        obtain ⟨xv, xn, xl⟩ := x
        have e5 : w.heap[b]? = some (.cells #[.int .i64 (C b).v, .int .i64 (C b).n, lv] 66 (0, 0)) := e5
        have hl5 : Lts w lv (C b).ls := hl5
        have hfl : ∀ y ∈ (C b).ls, y.flags.length ≤ 400 := hfl
        have hll : (C b).ls.length ≤ 900 := hll
        rw [hx] at e5 hl5 hBk hfl hll
        have e5 : w.heap[b]? = some (.cells #[.int .i64 xv, .int .i64 xn, lv] 66 (0, 0)) := e5
        have hl5 : Lts w lv xl := hl5
        obtain ⟨la, lc, rfl, _⟩ := id hl5
        obtain ⟨WD, hWD⟩ : ∃ W, wr.drew = W := ⟨_, rfl⟩
        have hbD : Hid (Below wr.heap.size wr WD) := by rw [← hWD]; exact (Below.refl _ _).drew
        have HLOW : Hid (Below w.heap.size w wr) := HI.out.low
        have HSB : Hid (sb < wr.heap.size) := by have := HI.out.sep; show sb < _; omega
        have HRD : Hid (∀ W, Below w.heap.size w W → W.cell? ⟨hb, 0, none⟩ = some (.map (some mb)) ∧ W.cell? ⟨b, 0, none⟩ = some (.int .i64 xv) ∧ W.cell? ⟨b, 1, none⟩ = some (.int .i64 xn) ∧ W.cell? ⟨b, 2, none⟩ = some (.slice la xl.length lc)) := fun W hW => by
          have e6 := (hW.block _ (Array.getElem?_eq_some_iff.1 e5).1).trans e5
          exact ⟨((HH.out.1.below hW).hs.cell).1, rd_cell e6 rfl, rd_cell e6 rfl, rd_cell e6 rfl⟩
        have HCP : Hid (∀ W, Below wr.heap.size wr W → Calls Tryz.prog 72 #[.agg #[.int .i64 xv, .int .i64 xn, .slice la xl.length lc]] W fun e w' => (∃ lv', e = .returned (.agg #[.int .i64 xv, .int .i64 xn, lv']) ∧ Lts w' lv' xl) ∧ Below W.heap.size W w') := fun W hW => copied_is xv xn _ xl W (hl5.below (HLOW.out.trans (hW.mono HLOW.out.size)) (Nat.le_refl _)) (by have hll : xl.length ≤ 900 := hll; omega) (fun y hy => by have := hfl y hy; omega)
        have HPU : Hid (∀ w7 lv7, Below wr.heap.size wr w7 → Lts w7 lv7 xl → ∃ g cap W9, (Builtin.append_ #[24, 24] 24 #[.slice va k ca, .slice (some ⟨w7.heap.size, 0, none⟩) 1 1]).run Tryz.prog (w7.alloc (.cells #[.int .i64 xv, .int .i64 xn, lv7] 66)) = .ok (.slice (some ⟨g, 0, none⟩) (k + 1) cap) W9 ∧
            W9.cell? ⟨sb, 1, none⟩ = some (.slice va k ca) ∧ W9.frozen? ⟨sb, 1, none⟩ = false ∧ Below w.heap.size w W9 ∧
            Hid (SvI w sb base (.slice (some ⟨nb, no, none⟩) N nc) (.slice (some ⟨g, 0, none⟩) (k + 1) cap) (.slice wa' MW wc') nx (namesB l) Ws (Bs.take (k + 1)) (W9.setCell ⟨sb, 1, none⟩ (.slice (some ⟨g, 0, none⟩) (k + 1) cap)))) := fun w7 lv7 h7 hl7 => by
          have := HI.out.push (by rw [List.length_take]; have := HN.out.2.2.2.1; omega) (by have := HN.out.2.2.2.2; omega) h7 ⟨xv, xn, xl⟩ lv7 hl7
          rw [List.take_add_one, hBk]
          exact this
        obtain ⟨q0, q1, q2, q3⟩ := HRD.out wr HLOW.out
        have mD : WD.cell? ⟨sb, 1, none⟩ = some (.slice va k ca) := (hbD.out.cell (p := ⟨sb, 1, none⟩) HSB.out).trans (rd_cell HI.out.cell rfl)
        have hlook := mp_look ((HH.out.1.below (HLOW.out.trans (hbD.out.mono HLOW.out.size))).hs.2) (⟨nm.toArray⟩ : ByteArray) (by rw [ba_size]; omega) hmem
        obtain ⟨nms, hnms⟩ : ∃ s : ByteArray, (⟨nm.toArray⟩ : ByteArray) = s := ⟨_, rfl⟩
        rw [hnms] at hlook nmc
        clear HI hnk hnc hpk e5 hl5 hBk hfl hll hx hnms hmem hnl
        go_upto_region 5 with fail
        refine wp_region_held_drew (S := fun W => W.cell? ⟨hb, 0, none⟩ = some (.map (some mb)) ∧ W.cell? ⟨b, 0, none⟩ = some (.int .i64 xv) ∧ W.cell? ⟨b, 1, none⟩ = some (.int .i64 xn) ∧ W.cell? ⟨b, 2, none⟩ = some (.slice la xl.length lc)) (by kernel_rfl) ?_ (fun hHeld => ?_)
        · exact ⟨by simpa using q0, by simpa using q1, by simpa using q2, by simpa using q3⟩
        rw [hWD] at hHeld ⊢
        refine wpAnyH_take (i := 0) (v := ?_) rfl (by kernel_rfl) (by kernel_rfl) (by kernel_rfl) (fun _ _ _ h => h) (Or.inl ⟨by rfl, ?_⟩) (by first | assumption | trivial) ?_
        rotate_left
        · intro w hSw; go_simp; (try with_reducible rfl)
        change wpAnyH _ _ _ _ _ _ _ (Act.put _ (some 25) _) _; simp only [Act.put, List.setIfInBounds_toArray, List.set_cons_zero, List.set_cons_succ]
        refine wpAnyH_take (i := 2) (v := ?_) rfl (by kernel_rfl) (by kernel_rfl) (by kernel_rfl) (fun _ _ _ h => h) (Or.inl ⟨by rfl, ?_⟩) (by first | assumption | trivial) ?_
        rotate_left
        · intro w hSw; go_simp; (try with_reducible rfl)
        change wpAnyH _ _ _ _ _ _ _ (Act.put _ (some 27) _) _; simp only [Act.put, List.setIfInBounds_toArray, List.set_cons_zero, List.set_cons_succ]
        refine wpAnyH_take (i := 3) (v := ?_) rfl (by kernel_rfl) (by kernel_rfl) (by kernel_rfl) (fun _ _ _ h => h) (Or.inl ⟨by rfl, ?_⟩) (by first | assumption | trivial) ?_
        rotate_left
        · intro w hSw; go_simp; (try with_reducible rfl)
        change wpAnyH _ _ _ _ _ _ _ (Act.put _ (some 28) _) _; simp only [Act.put, List.setIfInBounds_toArray, List.set_cons_zero, List.set_cons_succ]
        refine wpAnyH_take (i := 4) (v := ?_) rfl (by kernel_rfl) (by kernel_rfl) (by kernel_rfl) (fun _ _ _ h => h) (Or.inl ⟨by rfl, ?_⟩) (by first | assumption | trivial) ?_
        rotate_left
        · intro w hSw; go_simp; (try with_reducible rfl)
        change wpAnyH _ _ _ _ _ _ _ (Act.put _ (some 29) _) _; simp only [Act.put, List.setIfInBounds_toArray, List.set_cons_zero, List.set_cons_succ]
        refine wpAnyH_take (i := 5) (v := ?_) rfl (by kernel_rfl) (by kernel_rfl) (by kernel_rfl) (fun _ _ _ h => h) (Or.inl ⟨by rfl, ?_⟩) (by first | assumption | trivial) ?_
        rotate_left
        · intro w hSw; go_simp; (try with_reducible rfl)
        change wpAnyH _ _ _ _ _ _ _ (Act.put _ (some 30) _) _; simp only [Act.put, List.setIfInBounds_toArray, List.set_cons_zero, List.set_cons_succ]
        refine wpAnyH_take (i := 6) (v := ?_) rfl (by kernel_rfl) (by kernel_rfl) (by kernel_rfl) (fun _ _ _ h => h) (Or.inl ⟨by rfl, ?_⟩) (by first | assumption | trivial) ?_
        rotate_left
        · intro w hSw; go_simp; (try with_reducible rfl)
        change wpAnyH _ _ _ _ _ _ _ (Act.put _ (some 31) _) _; simp only [Act.put, List.setIfInBounds_toArray, List.set_cons_zero, List.set_cons_succ]
        refine wpAnyH_ready (rs := [1, 7]) (by kernel_rfl) (by simp) ?_
        refine AllReadyH.cons rfl (fun K hK => ?_) ?_
        · go_simp
          refine hK.out _ _ ?_ (fun hHeld => ?_)
          · exact hHeld
          clear hK K
          refine wpAnyH_ready (rs := [7]) (by kernel_rfl) (by simp) ?_
          refine AllReadyH.cons rfl (fun K hK => ?_) AllReadyH.nil
          go_simp
          refine hK.out _ _ ?_ (fun hHeld => ?_)
          · exact hHeld
          clear hK K
          refine wpAnyH_take (i := 8) (v := ?_) rfl (by kernel_rfl) (by kernel_rfl) (by kernel_rfl) (fun _ _ _ h => h) (Or.inl ⟨by rfl, ?_⟩) (by first | assumption | trivial) ?_
          rotate_left
          · intro w hSw; go_simp; (try with_reducible rfl)
          change wpAnyH _ _ _ _ _ _ _ (Act.put _ (some 33) _) _; simp only [Act.put, List.setIfInBounds_toArray, List.set_cons_zero, List.set_cons_succ]
          refine wpAnyH_take (i := 9) (v := ?_) rfl (by kernel_rfl) (by kernel_rfl) (by kernel_rfl) (fun _ _ _ h => h) (Or.inl ⟨by rfl, ?_⟩) (by first | assumption | trivial) ?_
          rotate_left
          · intro w hSw; go_simp; (try with_reducible rfl)
          change wpAnyH _ _ _ _ _ _ _ (Act.put _ (some 34) _) _; simp only [Act.put, List.setIfInBounds_toArray, List.set_cons_zero, List.set_cons_succ]
          refine wpAnyH_ready (rs := [10]) (by kernel_rfl) (by simp) ?_
          refine AllReadyH.cons rfl (fun K hK => ?_) AllReadyH.nil
          go_simp
          refine (HCP.out WD hbD.out).mono ?_
          rintro e w7 ⟨⟨lv7, rfl, hl7⟩, hb7⟩
          obtain ⟨l7a, l7c, rfl, _⟩ := id hl7
          obtain ⟨g9, cap9, W9, hap, k9, f9, b9, HN9⟩ := HPU.out w7 _ (hbD.out.trans (hb7.mono hbD.out.size)) hl7
          have hB7 : Below w.heap.size w w7 := HLOW.out.trans ((hbD.out.trans (hb7.mono hbD.out.size)).mono HLOW.out.size)
          have s7 := HRD.out w7 hB7
          have m7 : w7.cell? ⟨sb, 1, none⟩ = some (.slice va k ca) := (hb7.cell (p := ⟨sb, 1, none⟩) (by have := hbD.out.size; have := HSB.out; show sb < _; omega)).trans mD
          have s8 := HRD.out (w7.alloc (.cells #[.int .i64 xv, .int .i64 xn, .slice l7a xl.length l7c] 66)) (hB7.alloc hB7.size _)
          have m8 : (w7.alloc (.cells #[.int .i64 xv, .int .i64 xn, .slice l7a xl.length l7c] 66)).cell? ⟨sb, 1, none⟩ = some (.slice va k ca) := (((Below.refl _ _).alloc (Nat.le_refl w7.heap.size) _).cell (p := ⟨sb, 1, none⟩) (World.block_lt_of_cell? _ _ m7)).trans m7
          have s9 := HRD.out W9 b9
          have HS9 : Hid (Below w.heap.size w (W9.setCell ⟨sb, 1, none⟩ (.slice (some ⟨g9, 0, none⟩) (k + 1) cap9))) := HN9.out.low
          clear hl7 hb7 hB7 b9
          refine hK.out _ _ ?_ (fun hHeld => ?_)
          · exact s7
          clear hK K
          refine wpAnyH_ready (rs := [11]) (by kernel_rfl) (by simp) ?_
          refine AllReadyH.cons rfl (fun K hK => ?_) AllReadyH.nil
          go_simp
          refine hK.out _ _ ?_ (fun hHeld => ?_)
          · exact s8
          clear hK K
          refine wpAnyH_ready (rs := [12]) (by kernel_rfl) (by simp) ?_
          refine AllReadyH.cons rfl (fun K hK => ?_) AllReadyH.nil
          refine nstep_app rfl (.tmp 26) (.tmp 36) 24 rfl _ _ _ rfl rfl hap ?_
          refine hK.out _ _ ?_ (fun hHeld => ?_)
          · exact s9
          clear hK K
          refine wpAnyH_take (i := 13) (v := ?_) rfl (by kernel_rfl) (by kernel_rfl) (by kernel_rfl) (fun _ _ _ h => h) (Or.inl ⟨by rfl, ?_⟩) (by first | assumption | trivial) ?_
          rotate_left
          · intro w hSw; go_simp; (try with_reducible rfl)
          refine wpAnyH_ready (rs := [14]) (by kernel_rfl) (by simp) ?_
          refine AllReadyH.cons rfl (fun K hK => ?_) AllReadyH.nil
          go_simp
          refine hK.out _ _ ?_ (fun hHeld => ?_)
          · exact HRD.out _ HS9.out
          clear hK K
          refine wpAnyH_done (by kernel_rfl) ?_ _
          clear hHeld
          go_wp2_with fail
          go_roundw
          case rel => exact ⟨k + 1, by go_num, by omega, _, _, HN9⟩
          case measure => simp [intOf]; omega
        refine AllReadyH.cons rfl (fun K hK => ?_) AllReadyH.nil
        go_simp
        refine hK.out _ _ ?_ (fun hHeld => ?_)
        · exact hHeld
        clear hK K
        refine wpAnyH_take (i := 8) (v := ?_) rfl (by kernel_rfl) (by kernel_rfl) (by kernel_rfl) (fun _ _ _ h => h) (Or.inl ⟨by rfl, ?_⟩) (by first | assumption | trivial) ?_
        rotate_left
        · intro w hSw; go_simp; (try with_reducible rfl)
        change wpAnyH _ _ _ _ _ _ _ (Act.put _ (some 33) _) _; simp only [Act.put, List.setIfInBounds_toArray, List.set_cons_zero, List.set_cons_succ]
        refine wpAnyH_take (i := 9) (v := ?_) rfl (by kernel_rfl) (by kernel_rfl) (by kernel_rfl) (fun _ _ _ h => h) (Or.inl ⟨by rfl, ?_⟩) (by first | assumption | trivial) ?_
        rotate_left
        · intro w hSw; go_simp; (try with_reducible rfl)
        change wpAnyH _ _ _ _ _ _ _ (Act.put _ (some 34) _) _; simp only [Act.put, List.setIfInBounds_toArray, List.set_cons_zero, List.set_cons_succ]
        refine wpAnyH_ready (rs := [1, 10]) (by kernel_rfl) (by simp) ?_
        refine AllReadyH.cons rfl (fun K hK => ?_) ?_
        · go_simp
          refine hK.out _ _ ?_ (fun hHeld => ?_)
          · exact hHeld
          clear hK K
          refine wpAnyH_ready (rs := [10]) (by kernel_rfl) (by simp) ?_
          refine AllReadyH.cons rfl (fun K hK => ?_) AllReadyH.nil
          go_simp
          refine (HCP.out WD hbD.out).mono ?_
          rintro e w7 ⟨⟨lv7, rfl, hl7⟩, hb7⟩
          obtain ⟨l7a, l7c, rfl, _⟩ := id hl7
          obtain ⟨g9, cap9, W9, hap, k9, f9, b9, HN9⟩ := HPU.out w7 _ (hbD.out.trans (hb7.mono hbD.out.size)) hl7
          have hB7 : Below w.heap.size w w7 := HLOW.out.trans ((hbD.out.trans (hb7.mono hbD.out.size)).mono HLOW.out.size)
          have s7 := HRD.out w7 hB7
          have m7 : w7.cell? ⟨sb, 1, none⟩ = some (.slice va k ca) := (hb7.cell (p := ⟨sb, 1, none⟩) (by have := hbD.out.size; have := HSB.out; show sb < _; omega)).trans mD
          have s8 := HRD.out (w7.alloc (.cells #[.int .i64 xv, .int .i64 xn, .slice l7a xl.length l7c] 66)) (hB7.alloc hB7.size _)
          have m8 : (w7.alloc (.cells #[.int .i64 xv, .int .i64 xn, .slice l7a xl.length l7c] 66)).cell? ⟨sb, 1, none⟩ = some (.slice va k ca) := (((Below.refl _ _).alloc (Nat.le_refl w7.heap.size) _).cell (p := ⟨sb, 1, none⟩) (World.block_lt_of_cell? _ _ m7)).trans m7
          have s9 := HRD.out W9 b9
          have HS9 : Hid (Below w.heap.size w (W9.setCell ⟨sb, 1, none⟩ (.slice (some ⟨g9, 0, none⟩) (k + 1) cap9))) := HN9.out.low
          clear hl7 hb7 hB7 b9
          refine hK.out _ _ ?_ (fun hHeld => ?_)
          · exact s7
          clear hK K
          refine wpAnyH_ready (rs := [11]) (by kernel_rfl) (by simp) ?_
          refine AllReadyH.cons rfl (fun K hK => ?_) AllReadyH.nil
          go_simp
          refine hK.out _ _ ?_ (fun hHeld => ?_)
          · exact s8
          clear hK K
          refine wpAnyH_ready (rs := [12]) (by kernel_rfl) (by simp) ?_
          refine AllReadyH.cons rfl (fun K hK => ?_) AllReadyH.nil
          refine nstep_app rfl (.tmp 26) (.tmp 36) 24 rfl _ _ _ rfl rfl hap ?_
          refine hK.out _ _ ?_ (fun hHeld => ?_)
          · exact s9
          clear hK K
          refine wpAnyH_take (i := 13) (v := ?_) rfl (by kernel_rfl) (by kernel_rfl) (by kernel_rfl) (fun _ _ _ h => h) (Or.inl ⟨by rfl, ?_⟩) (by first | assumption | trivial) ?_
          rotate_left
          · intro w hSw; go_simp; (try with_reducible rfl)
          refine wpAnyH_ready (rs := [14]) (by kernel_rfl) (by simp) ?_
          refine AllReadyH.cons rfl (fun K hK => ?_) AllReadyH.nil
          go_simp
          refine hK.out _ _ ?_ (fun hHeld => ?_)
          · exact HRD.out _ HS9.out
          clear hK K
          refine wpAnyH_done (by kernel_rfl) ?_ _
          clear hHeld
          go_wp2_with fail
          go_roundw
          case rel => exact ⟨k + 1, by go_num, by omega, _, _, HN9⟩
          case measure => simp [intOf]; omega
        refine AllReadyH.cons rfl (fun K hK => ?_) AllReadyH.nil
        go_simp
        refine (HCP.out WD hbD.out).mono ?_
        rintro e w7 ⟨⟨lv7, rfl, hl7⟩, hb7⟩
        obtain ⟨l7a, l7c, rfl, _⟩ := id hl7
        obtain ⟨g9, cap9, W9, hap, k9, f9, b9, HN9⟩ := HPU.out w7 _ (hbD.out.trans (hb7.mono hbD.out.size)) hl7
        have hB7 : Below w.heap.size w w7 := HLOW.out.trans ((hbD.out.trans (hb7.mono hbD.out.size)).mono HLOW.out.size)
        have s7 := HRD.out w7 hB7
        have m7 : w7.cell? ⟨sb, 1, none⟩ = some (.slice va k ca) := (hb7.cell (p := ⟨sb, 1, none⟩) (by have := hbD.out.size; have := HSB.out; show sb < _; omega)).trans mD
        have s8 := HRD.out (w7.alloc (.cells #[.int .i64 xv, .int .i64 xn, .slice l7a xl.length l7c] 66)) (hB7.alloc hB7.size _)
        have m8 : (w7.alloc (.cells #[.int .i64 xv, .int .i64 xn, .slice l7a xl.length l7c] 66)).cell? ⟨sb, 1, none⟩ = some (.slice va k ca) := (((Below.refl _ _).alloc (Nat.le_refl w7.heap.size) _).cell (p := ⟨sb, 1, none⟩) (World.block_lt_of_cell? _ _ m7)).trans m7
        have s9 := HRD.out W9 b9
        have HS9 : Hid (Below w.heap.size w (W9.setCell ⟨sb, 1, none⟩ (.slice (some ⟨g9, 0, none⟩) (k + 1) cap9))) := HN9.out.low
        clear hl7 hb7 hB7 b9
        refine hK.out _ _ ?_ (fun hHeld => ?_)
        · exact s7
        clear hK K
        refine wpAnyH_ready (rs := [1, 11]) (by kernel_rfl) (by simp) ?_
        refine AllReadyH.cons rfl (fun K hK => ?_) ?_
        · go_simp
          refine hK.out _ _ ?_ (fun hHeld => ?_)
          · exact s7
          clear hK K
          refine wpAnyH_ready (rs := [11]) (by kernel_rfl) (by simp) ?_
          refine AllReadyH.cons rfl (fun K hK => ?_) AllReadyH.nil
          go_simp
          refine hK.out _ _ ?_ (fun hHeld => ?_)
          · exact s8
          clear hK K
          refine wpAnyH_ready (rs := [12]) (by kernel_rfl) (by simp) ?_
          refine AllReadyH.cons rfl (fun K hK => ?_) AllReadyH.nil
          refine nstep_app rfl (.tmp 26) (.tmp 36) 24 rfl _ _ _ rfl rfl hap ?_
          refine hK.out _ _ ?_ (fun hHeld => ?_)
          · exact s9
          clear hK K
          refine wpAnyH_take (i := 13) (v := ?_) rfl (by kernel_rfl) (by kernel_rfl) (by kernel_rfl) (fun _ _ _ h => h) (Or.inl ⟨by rfl, ?_⟩) (by first | assumption | trivial) ?_
          rotate_left
          · intro w hSw; go_simp; (try with_reducible rfl)
          refine wpAnyH_ready (rs := [14]) (by kernel_rfl) (by simp) ?_
          refine AllReadyH.cons rfl (fun K hK => ?_) AllReadyH.nil
          go_simp
          refine hK.out _ _ ?_ (fun hHeld => ?_)
          · exact HRD.out _ HS9.out
          clear hK K
          refine wpAnyH_done (by kernel_rfl) ?_ _
          clear hHeld
          go_wp2_with fail
          go_roundw
          case rel => exact ⟨k + 1, by go_num, by omega, _, _, HN9⟩
          case measure => simp [intOf]; omega
        refine AllReadyH.cons rfl (fun K hK => ?_) AllReadyH.nil
        go_simp
        refine hK.out _ _ ?_ (fun hHeld => ?_)
        · exact s8
        clear hK K
        refine wpAnyH_ready (rs := [1]) (by kernel_rfl) (by simp) ?_
        refine AllReadyH.cons rfl (fun K hK => ?_) AllReadyH.nil
        go_simp
        refine hK.out _ _ ?_ (fun hHeld => ?_)
        · exact s8
        clear hK K
        refine wpAnyH_ready (rs := [12]) (by kernel_rfl) (by simp) ?_
        refine AllReadyH.cons rfl (fun K hK => ?_) AllReadyH.nil
        refine nstep_app rfl (.tmp 26) (.tmp 36) 24 rfl _ _ _ rfl rfl hap ?_
        refine hK.out _ _ ?_ (fun hHeld => ?_)
        · exact s9
        clear hK K
        refine wpAnyH_take (i := 13) (v := ?_) rfl (by kernel_rfl) (by kernel_rfl) (by kernel_rfl) (fun _ _ _ h => h) (Or.inl ⟨by rfl, ?_⟩) (by first | assumption | trivial) ?_
        rotate_left
        · intro w hSw; go_simp; (try with_reducible rfl)
        refine wpAnyH_ready (rs := [14]) (by kernel_rfl) (by simp) ?_
        refine AllReadyH.cons rfl (fun K hK => ?_) AllReadyH.nil
        go_simp
        refine hK.out _ _ ?_ (fun hHeld => ?_)
        · exact HRD.out _ HS9.out
        clear hK K
        refine wpAnyH_done (by kernel_rfl) ?_ _
        clear hHeld
        go_wp2_with fail
        go_roundw
        case rel => exact ⟨k + 1, by go_num, by omega, _, _, HN9⟩
        case measure => simp [intOf]; omega
      · have d1 : decide ((k : Int) < (N : Int)) = false := decide_eq_false (by omega)
        obtain rfl : k = N := by omega
        obtain ⟨⟨b0, b1, b2, b3⟩, _, _⟩ := four_facts HI.out.cell (.slice na k nc) (.slice va k ca) (.slice wa' MW wc') (.int .i64 nx)
        obtain ⟨⟨s0, s1, s2, s3⟩, ⟨f0, f1, f2, f3⟩, u⟩ := four_facts HI.out.res (.slice na k nc) (.slice va k ca) (.slice wa' MW wc') (.int .i64 nx)
        obtain ⟨W9, hW9⟩ : ∃ W, ((((wr.setCell ⟨w.heap.size, 0, none⟩ (.slice na k nc)).setCell ⟨w.heap.size, 1, none⟩ (.slice va k ca)).setCell ⟨w.heap.size, 2, none⟩ (.slice wa' MW wc')).setCell ⟨w.heap.size, 3, none⟩ (.int .i64 nx)) = W := ⟨_, rfl⟩
        have hbut : But wr.heap.size w.heap.size wr W9 := by rw [← hW9]; exact ((((to_but (Below.refl _ _)).setB 0 _).setB 1 _).setB 2 _).setB 3 _
        rw [hW9] at u
        have htx : TxKeep wr W9 := tx_but HI.out.res notx_four fun j h1 h2 => hbut.block j h1 h2
        have u0 : W9.cell? ⟨w.heap.size, 0, none⟩ = some (.slice na k nc) := rd_cell u rfl
        have u1 : W9.cell? ⟨w.heap.size, 1, none⟩ = some (.slice va k ca) := rd_cell u rfl
        have u2 : W9.cell? ⟨w.heap.size, 2, none⟩ = some (.slice wa' MW wc') := rd_cell u rfl
        have u3 : W9.cell? ⟨w.heap.size, 3, none⟩ = some (.int .i64 nx) := rd_cell u rfl
        have HF : Hid (SvF w.heap.size W9 (.slice na k nc) (.slice va k ca) (.slice wa' MW wc') (svOf l Ws nx C) ∧ Below w.heap.size w W9) := by
          have hB := bxr_of_own (HI.out.boxes.keep (w' := W9) (fun q hq => hbut.block q (HI.out.boxes.lt hq).2 (by have := (HI.out.boxes.lt hq).1; have := HI.out.sep; omega)) htx)
          rw [List.take_of_length_le (by have := HN.out.2.2.2.1; omega), ← HN.out.2.2.1] at hB
          exact ⟨⟨HI.out.names.tx htx, ⟨hB, fun g hg => by have := (HI.out.boxes.lt hg).1; have := HI.out.sep; omega⟩, HI.out.wants.tx htx⟩, HI.out.low.trans (hbut.below HI.out.low.size (Nat.le_refl _))⟩
        subst hW9
        clear HI u htx hbut
        go_wp2_with fail
        exact bodyPost_ret (v := .agg #[.slice na k nc, .slice va k ca, .slice wa' MW wc', .int .i64 nx]) (by simp [results, Tryz.results20, go_sem, u0, u1, u2, u3]) rfl ⟨⟨_, _, _, rfl, HF.out.1⟩, HF.out.2⟩
theorem save_is (hb mb : Nat) (l : Bxs) (nx : Int) (wv : Value) (Ws : List Nm) (C : Nat → Bxd) (w : World) (h : Hse w hb mb l nx wv Ws C) (hs : Sml l Ws C) :
    Calls Tryz.prog 20 #[.pointer (some ⟨hb, 0, none⟩)] w fun e w' => (∃ nv bv wv', e = .returned (.agg #[nv, bv, wv', .int .i64 nx]) ∧ SvAt w' nv bv wv' (svOf l Ws nx C)) ∧ Below w.heap.size w w' :=
  (save_f hb mb l nx wv Ws C w h hs).mono fun _ _ ⟨⟨nv, bv, wv', e, h1⟩, h2⟩ => ⟨⟨nv, bv, wv', e, h1.at⟩, h2⟩
end Go.Proofs.YtdmplfflmdanlaaGreatDoor
