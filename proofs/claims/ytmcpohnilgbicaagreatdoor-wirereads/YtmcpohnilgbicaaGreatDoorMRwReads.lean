/-
  WireReads, walked.
-/
import Derived.Test.YtmcpohnilgbicaaGreatDoorMRwParse
import Derived.Test.YtmcpohnilgbicaaGreatDoorMRwPrint
import Derived.Test.YtmcpohnilgbicaaGreatDoorWireNext
import Derived.Test.YtmcpohnilgbicaaGreatDoorBackMath
import Derived.Test.YtmcpohnilgbicaaGreatDoorMWireSame
import Derived.Test.YtmcpohnilgbicaaGreatDoorAsAll
namespace Go.Proofs.YtmcpohnilgbicaaGreatDoor
open Go.RowKit Go.Proofs.Aid Go.Proofs.Sq Go.Proofs.Hd
open Go.Proofs.Sr (Ar)

theorem rlim_bare (b : Bool) (w : World) (hg : ErrType w) : Calls Tryz.prog 6 #[limV b, .int .i64 (limN b)] w fun ev w' => ev = .returned (.bool true) ∧ Below w.heap.size w w' := by
  cases b
  · exact bare_nil 0 w
  · exact bare_err 4 4 w hg
theorem cmd_len2 {s : Tx} (hs : s.length ≤ 2000) {k : Cmd} {p c : Nat} (h : parseW s = .ok k p c) : (prC k.tag k.name k.args).length ≤ 8000 := by
  have hT := parse_told (by omega) h
  have hP := prL_len k.args false fun x hx => pr_len (hT.2.2.1 x hx).1
  have hC := hT.2.2.2.2
  rw [parseW] at h
  split at h
  · next hsf =>
    have hE := ends_of hsf
    rw [commandW] at h
    obtain ⟨t, p1, c1, h1, h⟩ := then_ok h
    obtain ⟨u, p2, c2, h2, h⟩ := then_ok h
    obtain ⟨n, p3, c3, h3, h⟩ := then_ok h
    obtain ⟨l, h4, rfl⟩ := map_ok h
    have e1 := word_tx h1
    have e2 := blank_wok hE h2
    have e3 := word_tx h3
    have e4 := (word_wok (by omega) h3).1
    have e5 := args_tx hE _ _ _ _ _ _ _ e4 h4
    rw [txL] at e5
    have hP : (prL false l).length ≤ 2 * txL l + 17 * cntL l := hP
    have hC : cntL l ≤ 60 := hC
    show (prC t (great n) l).length ≤ 8000
    rw [prC]
    have hn : (great n).length = n.length := great_length n
    simp only [List.length_append, List.length_cons, List.length_nil, hn]
    omega
  · cases h
theorem rtold_pr {k : Cmd} (h : Told k) : Pr 900 k.args ∧ Ln k.args := by
  have hl : k.args.length ≤ 100000 := by have := len_cnt k.args; have := h.2.2.2.2; omega
  have h1 : ∀ (f : Nat) (l : List Ar), Pr f l → Pr (f + 1) l := by
    intro f
    induction f with
    | zero => intro l h; exact h.elim
    | succ f ih => intro l h; exact ⟨h.1, fun x hx => ⟨(h.2 x hx).1, (h.2 x hx).2.imp id fun h => h.imp id fun h => ⟨h.1, ih _ h.2⟩⟩⟩
  have h2 : ∀ (d f : Nat) (l : List Ar), Pr f l → Pr (f + d) l := by
    intro d
    induction d with
    | zero => intro f l h; exact h
    | succ d ih => intro f l h; exact h1 _ _ (ih f l h)
  obtain ⟨j1, j2⟩ := pr_of (fun x hx => (h.2.2.1 x hx).2) hl
  exact ⟨h2 892 8 _ j1, j2⟩
theorem wreads_big (s t : ByteArray) (w : World) (h : 2000 < s.size ∨ 200 < t.size) :
    Calls Tryz.prog 3 #[.string s, .string t] w fun e w' => e = .returned (.bool true) ∧ Below w.heap.size w w' := by
  by_cases h1 : 2000 < s.size
  · have d1 : decide ((2000 : Int) < (s.size : Int)) = true := decide_eq_true (by omega)
    go_enter Tryz.func3, Tryz.ntmps3
    go_wp2_with fail
    go_ret
    exact ⟨rfl, Below.refl _ _⟩
  · have d1 : decide ((2000 : Int) < (s.size : Int)) = false := decide_eq_false (by omega)
    have d2 : decide ((200 : Int) < (t.size : Int)) = true := decide_eq_true (by omega)
    go_enter Tryz.func3, Tryz.ntmps3
    go_wp2_with fail
    go_ret
    exact ⟨rfl, Below.refl _ _⟩
set_option maxHeartbeats 8000000 in
set_option maxRecDepth 100000 in
theorem wreads_small (s t : ByteArray) (mx : Int) (w : World) (hs : s.size ≤ 2000) (ht : t.size ≤ 200) (hg : NumAt w) (he : ErrType w) (hf : FineAt w) (hm : w.cell? ⟨1, 0, none⟩ = some (.int .i64 mx)) :
    Calls Tryz.prog 3 #[.string s, .string t] w fun e w' => e = .returned (.bool true) ∧ Below w.heap.size w w' := by
  have K0 : Hid (∀ W, Below w.heap.size w W → NumAt W ∧ ErrType W ∧ W.cell? ⟨1, 0, none⟩ = some (.int .i64 mx) ∧ FineAt W) := fun W h => ⟨hg.below h, he.below h, (h.cell (World.block_lt_of_cell? _ _ hm)).trans hm, hf.below h (Nat.le_refl _)⟩
  have d1 : decide ((2000 : Int) < (s.size : Int)) = false := decide_eq_false (by omega)
  have d2 : decide ((200 : Int) < (t.size : Int)) = false := decide_eq_false (by omega)
  obtain ⟨⟨A1, A2, A3⟩, hA⟩ : ∃ A, nextW s.data.toList 0 0 = A := ⟨_, rfl⟩
  have cN := ref_next s mx w (by omega) hm hg
  rw [hA] at cN
  have cN : Calls Tryz.prog 4 #[.string s] w fun e w' => e = .returned (.tuple #[.int .i64 (A1 : Int), .int .i64 (A2 : Int), .int .i64 (limN A3)]) ∧ Below w.heap.size w w' := cN
  have HA : Hid (nextW s.data.toList 0 0 = (A1, A2, A3)) := hA
  clear hg he hf hm hA
  go_enter Tryz.func3, Tryz.ntmps3
  go_wp2_with fail
  refine cN.mono ?_
  rintro e w1 ⟨rfl, hb1⟩
  have HB1 : Hid (Below w.heap.size w w1) := hb1
  have cM := next_is s mx w1 (by omega) (K0.out w1 hb1).2.2.1 (K0.out w1 hb1).1
  rw [HA.out] at cM
  have cM : Calls Tryz.prog 5 #[.string s] w1 fun e w' => e = .returned (.tuple #[.int .i64 (A1 : Int), .int .i64 (A2 : Int), limV A3]) ∧ Below w1.heap.size w1 w' := cM
  clear cN hb1 HA
  go_wp2_with fail
  refine cM.mono ?_
  rintro e w2 ⟨rfl, hb2⟩
  have HB2 : Hid (Below w.heap.size w w2) := HB1.out.trans (hb2.mono HB1.out.size)
  have cB := rlim_bare A3 w2 (K0.out w2 HB2.out).2.1
  clear cM hb2 HB1
  go_wp2_with fail
  refine cB.mono ?_
  rintro e w3 ⟨rfl, hb3⟩
  have HB3 : Hid (Below w.heap.size w w3) := HB2.out.trans (hb3.mono HB2.out.size)
  clear cB hb3 HB2
  have cR := rparse_is s w3 (by omega) (K0.out w3 HB3.out).2.2.2 (K0.out w3 HB3.out).1
  obtain ⟨T, hT⟩ : ∃ T, parseW s.data.toList = T := ⟨_, rfl⟩
  rw [hT] at cR
  have HT : Hid (parseW s.data.toList = T) := hT
  clear hT
  go_wp2_with fail
  refine cR.mono ?_
  intro e w4 h4
  clear cR
  obtain ⟨QT, hQT⟩ : ∃ q : ByteArray, ⟨(quoteW t.data.toList).toArray⟩ = q := ⟨_, rfl⟩
  have hQTl : QT.data.toList = quoteW t.data.toList := by rw [← hQT]
  have HQW : Hid (∀ W, Below w.heap.size w W → Calls Tryz.prog 13 #[.string t] W fun e w' => e = .returned (.string QT) ∧ Below W.heap.size W w') := fun W hW => (quote_is t mx W (by omega) (K0.out W hW).2.2.1 (K0.out W hW).1).mono fun e w' h => by
    obtain ⟨⟨q, rfl, hq⟩, hb⟩ := h
    exact ⟨by rw [text_eq (hq.trans hQTl.symm)], hb⟩
  have HQR : Hid (∀ W, Below w.heap.size w W → Calls Tryz.prog 14 #[.string t] W fun e w' => e = .returned (.string QT) ∧ Below W.heap.size W w') := fun W hW => (rquote_is t W (by omega) (K0.out W hW).1).mono fun e w' h => by
    obtain ⟨⟨q, rfl, hq⟩, hb⟩ := h
    exact ⟨by rw [text_eq (hq.trans hQTl.symm)], hb⟩
  clear hQT hQTl
  have hu : ∃ (tb nb : ByteArray) (l : List Ar) (va : Option Addr) (N vc : Nat) (fn fp : Int), e = .returned (.tuple #[.agg #[.string tb, .string nb, .slice va N vc], .agg #[.int .i64 fn, .int .i64 fp]]) ∧ Agw w4 (fun q => w3.heap.size ≤ q) l (.slice va N vc) ∧ Below w3.heap.size w3 w4 ∧ Ln l ∧ l.length = N ∧
      ((fn ≠ 0 ∧ ∃ p : Nat, fp = (p : Int) ∧ T = .bad fn p ∧ tb = ⟨#[]⟩ ∧ nb = ⟨#[]⟩ ∧ l = []) ∨ (fn = 0 ∧ fp = -1 ∧ ∃ k kp kc, T = .ok k kp kc ∧ tb.data.toList = k.tag ∧ nb.data.toList = k.name ∧ l = k.args ∧ Pr 900 l ∧ (prC k.tag k.name l).length ≤ 8000)) := by
    cases T with
    | bad n p =>
      obtain ⟨rfl, hn0, hb4⟩ := h4
      exact ⟨⟨#[]⟩, ⟨#[]⟩, [], none, 0, 0, n, p, rfl, Agw.nil _ _, hb4, ⟨_, by simp, fun x h => by cases h⟩, rfl, Or.inl ⟨hn0, p, rfl, rfl, rfl, rfl, rfl⟩⟩
    | ok k kp kc =>
      obtain ⟨tb, nb, v, rfl, h1, h2, hag, hb4⟩ := h4
      obtain ⟨va, vc, rfl⟩ := hag.form
      have hTo := parse_told (by rw [wsize]; omega) HT.out
      obtain ⟨hPr, hLn⟩ := rtold_pr hTo
      exact ⟨tb, nb, k.args, va, k.args.length, vc, 0, -1, rfl, hag, hb4, hLn, rfl, Or.inr ⟨rfl, rfl, k, kp, kc, rfl, h1, h2, rfl, hPr, cmd_len2 (by rw [wsize]; exact hs) HT.out⟩⟩
  obtain ⟨tb, nb, l, va, N, vc, fn, fp, rfl, hag4, hb4, hLn, hlN, hst⟩ := hu
  have HST : Hid ((fn ≠ 0 ∧ ∃ p : Nat, fp = (p : Int) ∧ T = .bad fn p ∧ tb = ⟨#[]⟩ ∧ nb = ⟨#[]⟩ ∧ l = []) ∨ (fn = 0 ∧ fp = -1 ∧ ∃ k kp kc, T = .ok k kp kc ∧ tb.data.toList = k.tag ∧ nb.data.toList = k.name ∧ l = k.args ∧ Pr 900 l ∧ (prC k.tag k.name l).length ≤ 8000)) := hst
  have HB4 : Hid (Below w.heap.size w w4) := HB3.out.trans (hb4.mono HB3.out.size)
  clear h4 hst
  go_upto_region 8 with fail
  obtain ⟨B1, hB1⟩ : ∃ n, w4.heap.size = n := ⟨_, rfl⟩
  have b5 : Below w4.heap.size w4 (w4.alloc (.cells #[.string tb, .string nb, .slice va N vc] 32)) := (Below.refl _ _).alloc (Nat.le_refl _) _
  have e5 := heap_alloc_new w4 (.cells #[.string tb, .string nb, .slice va N vc] 32)
  obtain ⟨W5, hW5⟩ : ∃ W, w4.alloc (.cells #[.string tb, .string nb, .slice va N vc] 32) = W := ⟨_, rfl⟩
  have z5 : W5.heap.size = B1 + 1 := by rw [← hW5, ← hB1]; simp
  rw [hW5, hB1] at b5 e5
  obtain ⟨B2, hB2⟩ : ∃ n, W5.heap.size = n := ⟨_, rfl⟩
  have b6 : Below W5.heap.size W5 (W5.alloc (.cells #[.int .i64 fn, .int .i64 fp] 34)) := (Below.refl _ _).alloc (Nat.le_refl _) _
  have e6 := heap_alloc_new W5 (.cells #[.int .i64 fn, .int .i64 fp] 34)
  obtain ⟨W6, hW6⟩ : ∃ W, W5.alloc (.cells #[.int .i64 fn, .int .i64 fp] 34) = W := ⟨_, rfl⟩
  have z6 : W6.heap.size = B2 + 1 := by rw [← hW6, ← hB2]; simp
  rw [hW6, hB2] at b6 e6
  have hb46 : Below B1 w4 W6 := b5.trans (b6.mono (by omega))
  have e16 := (b6.block B1 (by omega)).trans e5
  have hb06 : Below w.heap.size w W6 := HB4.out.trans (hb46.mono (by have := HB4.out.size; omega))
  have hag6 : Agw W6 (fun q => w3.heap.size ≤ q) l (.slice va N vc) := hag4.kept fun q hq hlt => ⟨hq, hb46.block q (by omega)⟩
  have cP := wparse_is s mx W6 (by omega) (K0.out W6 hb06).2.2.1 (K0.out W6 hb06).1
  rw [HT.out] at cP
  have H6 : Hid (Below w.heap.size w W6 ∧ W6.heap[B1]? = some (.cells #[.string tb, .string nb, .slice va N vc] 32 (0, 0)) ∧ W6.heap[B2]? = some (.cells #[.int .i64 fn, .int .i64 fp] 34 (0, 0)) ∧ Agw W6 (fun q => w3.heap.size ≤ q) l (.slice va N vc) ∧ B1 < W6.heap.size ∧ B2 < W6.heap.size) := ⟨hb06, e16, e6, hag6, by omega, by omega⟩
  have HLN : Hid (Ln l ∧ l.length = N) := ⟨hLn, hlN⟩
  have hB2' : B1 + 1 = B2 := by omega
  rw [hW5, hW6, hB1, hB2']
  clear hB2' hB2 hB1 hW5 hW6
  clear hag4 hb4 b5 e5 b6 e6 hb46 e16 hb06 hag6 hLn hlN HB3 HT z5 z6
  go_wp2_with fail
  refine cP.mono ?_
  intro e w7 h7
  clear cP
  have hv : ∃ (vb : Option Addr) (vd : Nat) (u : Value), e = .returned (.tuple #[.agg #[.string tb, .string nb, .slice vb N vd], u]) ∧ Agw w7 (fun q => W6.heap.size ≤ q) l (.slice vb N vd) ∧ Below W6.heap.size W6 w7 ∧
      ((u = .nilIface ∧ fn = 0 ∧ fp = -1) ∨ ∃ M p : Nat, u = .iface 86 (.pointer (some ⟨M, 0, none⟩)) ∧ AtIs w7 M fn p ∧ fp = (p : Int)) := by
    rcases HST.out with ⟨hn, p, hp, hT, rfl, rfl, rfl⟩ | ⟨rfl, rfl, k, kp, kc, hT, h1, h2, h3, _⟩
    · rw [hT] at h7
      obtain ⟨u, rfl, ⟨M, rfl, hA⟩, hb7⟩ := h7
      obtain rfl : N = 0 := HLN.out.2.symm
      exact ⟨none, 0, _, rfl, Agw.nil _ _, hb7, Or.inr ⟨M, p, rfl, hA, hp⟩⟩
    · rw [hT] at h7
      obtain ⟨tc, nc, v, rfl, g1, g2, hag, hb7⟩ := h7
      obtain rfl : tc = tb := text_eq (g1.trans h1.symm)
      obtain rfl : nc = nb := text_eq (g2.trans h2.symm)
      obtain ⟨vb, vd, rfl⟩ := hag.form
      subst h3
      have hN := HLN.out.2
      rw [hN] at hag ⊢
      exact ⟨vb, vd, _, rfl, hag, hb7, Or.inl ⟨rfl, rfl, rfl⟩⟩
  obtain ⟨vb, vd, u, rfl, hag7, hb7, hu7⟩ := hv
  clear h7
  go_upto_region 9 with fail
  obtain ⟨B3, hB3⟩ : ∃ n, w7.heap.size = n := ⟨_, rfl⟩
  have b8 : Below w7.heap.size w7 (w7.alloc (.cells #[.string tb, .string nb, .slice vb N vd] 32)) := (Below.refl _ _).alloc (Nat.le_refl _) _
  have e8 := heap_alloc_new w7 (.cells #[.string tb, .string nb, .slice vb N vd] 32)
  obtain ⟨W8, hW8⟩ : ∃ W, w7.alloc (.cells #[.string tb, .string nb, .slice vb N vd] 32) = W := ⟨_, rfl⟩
  have z8 : W8.heap.size = B3 + 1 := by rw [← hW8, ← hB3]; simp
  rw [hW8, hB3] at b8 e8
  have hs7 := hb7.size
  have i1 := H6.out.2.2.2.2.1
  have i2 := H6.out.2.2.2.2.2
  have hb68 : Below W6.heap.size W6 W8 := hb7.trans (b8.mono (by omega))
  have hb08 : Below w.heap.size w W8 := H6.out.1.trans (hb68.mono H6.out.1.size)
  have KS : Hid (∀ W, Below W8.heap.size W8 W → ((W.cell? ⟨B1, 0, none⟩ = some (.string tb) ∧ W.cell? ⟨B1, 1, none⟩ = some (.string nb) ∧ W.cell? ⟨B1, 2, none⟩ = some (.slice va N vc)) ∧ (W.cell? ⟨B2, 0, none⟩ = some (.int .i64 fn) ∧ W.cell? ⟨B2, 1, none⟩ = some (.int .i64 fp)) ∧ (W.cell? ⟨B3, 0, none⟩ = some (.string tb) ∧ W.cell? ⟨B3, 1, none⟩ = some (.string nb) ∧ W.cell? ⟨B3, 2, none⟩ = some (.slice vb N vd)) ∧ W.cell? ⟨0, 0, none⟩ = some (.int .i64 0) ∧ W.cell? ⟨0, 1, none⟩ = some (.int .i64 (-1))) ∧ Below w.heap.size w W) := fun W hW => by
    have x1 := (hW.block B1 (by omega)).trans ((hb68.block B1 (by omega)).trans H6.out.2.1)
    have x2 := (hW.block B2 (by omega)).trans ((hb68.block B2 (by omega)).trans H6.out.2.2.1)
    have x3 := (hW.block B3 (by omega)).trans e8
    have hw := hb08.trans (hW.mono hb08.size)
    exact ⟨⟨⟨rd_cell x1 rfl, rd_cell x1 rfl, rd_cell x1 rfl⟩, ⟨rd_cell x2 rfl, rd_cell x2 rfl⟩, ⟨rd_cell x3 rfl, rd_cell x3 rfl, rd_cell x3 rfl⟩, (K0.out W hw).2.2.2⟩, hw⟩
  have KA : Hid (∀ W, Below W8.heap.size W8 W → Agw W (fun q => q < W.heap.size) l (.slice va N vc) ∧ Agw W (fun q => q < W.heap.size) l (.slice vb N vd)) := fun W hW => by
    have hwz := hW.size
    refine ⟨H6.out.2.2.2.1.kept fun q hq hlt => ⟨by omega, (hW.block q (by omega)).trans (hb68.block q hlt)⟩, hag7.kept fun q hq hlt => ⟨by omega, (hW.block q (by omega)).trans (b8.block q (by omega))⟩⟩
  have HIS : Hid (∀ W, Below W8.heap.size W8 W → Calls Tryz.prog 9 #[u, .agg #[.int .i64 fn, .int .i64 fp]] W fun e w' => e = .returned (.bool true) ∧ Below W8.heap.size W8 w') := fun W hW => by
    have hw := (KS.out W hW).2
    rcases hu7 with ⟨rfl, rfl, rfl⟩ | ⟨M, p, rfl, hA, rfl⟩
    · exact (is_nil 0 (-1) W).mono fun e w' h => ⟨h.1, hW.trans (h.2.mono hW.size)⟩
    · have hMl : M < w7.heap.size := (Array.getElem?_eq_some_iff.1 hA).1
      have hA' : AtIs W M fn p := (hW.block M (by omega)).trans ((b8.block M (by omega)).trans hA)
      have := is_at M fn (p : Int) fn (p : Int) W (rd_cell hA' rfl) (rd_cell hA' rfl) (K0.out W hw).2.1
      refine this.mono fun e w' h => ⟨by rw [h.1]; simp, hW.trans (h.2.mono hW.size)⟩
  have HSA : Hid (∀ W, Below W8.heap.size W8 W → Calls Tryz.prog 10 #[.slice vb N vd, .slice va N vc] W fun e w' => e = .returned (.bool true) ∧ Below W8.heap.size W8 w') := fun W hW =>
    (wsame_is l HLN.out.1 W _ _ (.slice vb N vd) (.slice va N vc) W (KA.out W hW).2 (KA.out W hW).1 (Below.refl _ _)).mono fun e w' h => ⟨h.1, hW.trans (h.2.mono hW.size)⟩
  have HUS : Hid (u = .nilIface ∨ ∃ M, u = .iface 86 (.pointer (some ⟨M, 0, none⟩))) := by
    rcases hu7 with ⟨h, _⟩ | ⟨M, p, h, _⟩
    · exact Or.inl h
    · exact Or.inr ⟨M, h⟩
  rw [hW8, hB3]
  clear hW8 hB3
  clear hag7 hb7 hu7 b8 e8 z8 hs7 i1 i2 hb68 hb08 H6
  have cI := HIS.out W8 (Below.refl _ _)
  obtain ⟨⟨m1, m2, m3⟩, ⟨m4, m5⟩, ⟨m6, m7, m8⟩, m9⟩ := (KS.out W8 (Below.refl _ _)).1
  go_wp2_with fail
  refine cI.mono ?_
  rintro e w9 ⟨rfl, hb9⟩
  obtain ⟨⟨k1, k2, k3⟩, ⟨k4, k5⟩, ⟨k6, k7, k8⟩, k9⟩ := (KS.out w9 hb9).1
  have cS := HSA.out w9 hb9
  clear cI hb9 m1 m2 m3 m4 m5 m6 m7 m8 m9
  go_wp2_with fail
  refine cS.mono ?_
  rintro e wA ⟨rfl, hbA⟩
  have HKA : Hid (Below W8.heap.size W8 wA) := hbA
  clear cS hbA k1 k2 k3 k4 k5 k6 k7 k8 k9
  have HQ1 : Hid (∀ W, Below W8.heap.size W8 W → Calls Tryz.prog 13 #[.string t] W fun e w' => e = .returned (.string QT) ∧ Below W8.heap.size W8 w') := fun W hW => (HQW.out W (KS.out W hW).2).mono fun e w' h => ⟨h.1, hW.trans (h.2.mono hW.size)⟩
  have HQ2 : Hid (∀ W, Below W8.heap.size W8 W → Calls Tryz.prog 14 #[.string t] W fun e w' => e = .returned (.string QT) ∧ Below W8.heap.size W8 w') := fun W hW => (HQR.out W (KS.out W hW).2).mono fun e w' h => ⟨h.1, hW.trans (h.2.mono hW.size)⟩
  clear HQW HQR HIS HSA HUS
  rcases HST.out with ⟨hfn, _⟩ | ⟨rfl, rfl, k, kp, kc, hT, h1, h2, h3, hPr, hLe⟩
  · have hfb : (fn == 0) = false := by simpa using hfn
    clear HST KA hfn
    go_upto_region 11 with fail
    refine wp_region_held_drew (S := (fun W => (W.cell? ⟨B1, 0, none⟩ = some (.string tb) ∧ W.cell? ⟨B1, 1, none⟩ = some (.string nb) ∧ W.cell? ⟨B1, 2, none⟩ = some (.slice va N vc)) ∧ (W.cell? ⟨B2, 0, none⟩ = some (.int .i64 fn) ∧ W.cell? ⟨B2, 1, none⟩ = some (.int .i64 fp)) ∧ (W.cell? ⟨B3, 0, none⟩ = some (.string tb) ∧ W.cell? ⟨B3, 1, none⟩ = some (.string nb) ∧ W.cell? ⟨B3, 2, none⟩ = some (.slice vb N vd)) ∧ W.cell? ⟨0, 0, none⟩ = some (.int .i64 0) ∧ W.cell? ⟨0, 1, none⟩ = some (.int .i64 (-1)))) (by kernel_rfl) ?_ (fun hHeld => ?_)
    · refine (KS.out _ ?_).1; (repeat (first | (with_reducible assumption) | (with_reducible exact HKA.out) | (with_reducible refine Below.drew ?_)))
    refine wpAnyH_take (i := 0) (v := ?_) rfl (by kernel_rfl) (by kernel_rfl) (by kernel_rfl) (fun _ _ _ h => h) (Or.inl ⟨by rfl, ?_⟩) (by assumption) ?_
    rotate_left
    · intro w hSw; go_simp; (try with_reducible rfl)
    change wpAnyH _ _ _ _ _ _ _ (Act.put _ (some 84) _) _; simp only [Act.put, List.setIfInBounds_toArray, List.set_cons_zero, List.set_cons_succ]
    refine wpAnyH_take (i := 1) (v := ?_) rfl (by kernel_rfl) (by kernel_rfl) (by kernel_rfl) (fun _ _ _ h => h) (Or.inl ⟨by rfl, ?_⟩) (by assumption) ?_
    rotate_left
    · intro w hSw; go_simp; (try with_reducible rfl)
    change wpAnyH _ _ _ _ _ _ _ (Act.put _ (some 85) _) _; simp only [Act.put, List.setIfInBounds_toArray, List.set_cons_zero, List.set_cons_succ]
    refine wpAnyH_take (i := 2) (v := ?_) rfl (by kernel_rfl) (by kernel_rfl) (by kernel_rfl) (fun _ _ _ h => h) (Or.inl ⟨by rfl, ?_⟩) (by assumption) ?_
    rotate_left
    · intro w hSw; go_simp; (try with_reducible rfl)
    change wpAnyH _ _ _ _ _ _ _ (Act.put _ (some 86) _) _; simp only [Act.put, List.setIfInBounds_toArray, List.set_cons_zero, List.set_cons_succ]
    refine wpAnyH_take (i := 3) (v := ?_) rfl (by kernel_rfl) (by kernel_rfl) (by kernel_rfl) (fun _ _ _ h => h) (Or.inl ⟨by rfl, ?_⟩) (by assumption) ?_
    rotate_left
    · intro w hSw; go_simp; (try with_reducible rfl)
    change wpAnyH _ _ _ _ _ _ _ (Act.put _ (some 87) _) _; simp only [Act.put, List.setIfInBounds_toArray, List.set_cons_zero, List.set_cons_succ]
    refine wpAnyH_take (i := 4) (v := undef) rfl (by kernel_rfl) (by kernel_rfl) (by kernel_rfl) (fun _ _ _ h => h) (Or.inr ⟨by rfl, rfl⟩) (by assumption) ?_
    change wpAnyH _ _ _ _ _ _ _ (Act.put _ (some 88) _) _; simp only [Act.put, List.setIfInBounds_toArray, List.set_cons_zero, List.set_cons_succ]
    refine wpAnyH_take (i := 5) (v := undef) rfl (by kernel_rfl) (by kernel_rfl) (by kernel_rfl) (fun _ _ _ h => h) (Or.inr ⟨by rfl, rfl⟩) (by assumption) ?_
    change wpAnyH _ _ _ _ _ _ _ (Act.put _ (some 89) _) _; simp only [Act.put, List.setIfInBounds_toArray, List.set_cons_zero, List.set_cons_succ]
    refine wpAnyH_take (i := 6) (v := undef) rfl (by kernel_rfl) (by kernel_rfl) (by kernel_rfl) (fun _ _ _ h => h) (Or.inr ⟨by rfl, rfl⟩) (by assumption) ?_
    change wpAnyH _ _ _ _ _ _ _ (Act.put _ (some 90) _) _; simp only [Act.put, List.setIfInBounds_toArray, List.set_cons_zero, List.set_cons_succ]
    refine wpAnyH_take (i := 7) (v := undef) rfl (by kernel_rfl) (by kernel_rfl) (by kernel_rfl) (fun _ _ _ h => h) (Or.inr ⟨by rfl, rfl⟩) (by assumption) ?_
    change wpAnyH _ _ _ _ _ _ _ (Act.put _ (some 91) _) _; simp only [Act.put, List.setIfInBounds_toArray, List.set_cons_zero, List.set_cons_succ]
    refine wpAnyH_take (i := 8) (v := undef) rfl (by kernel_rfl) (by kernel_rfl) (by kernel_rfl) (fun _ _ _ h => h) (Or.inr ⟨by rfl, rfl⟩) (by assumption) ?_
    change wpAnyH _ _ _ _ _ _ _ (Act.put _ (some 92) _) _; simp only [Act.put, List.setIfInBounds_toArray, List.set_cons_zero, List.set_cons_succ]
    refine wpAnyH_take (i := 9) (v := ?_) rfl (by kernel_rfl) (by kernel_rfl) (by kernel_rfl) (fun _ _ _ h => h) (Or.inl ⟨by rfl, ?_⟩) (by assumption) ?_
    rotate_left
    · intro w hSw; go_simp; (try with_reducible rfl)
    change wpAnyH _ _ _ _ _ _ _ (Act.put _ (some 93) _) _; simp only [Act.put, List.setIfInBounds_toArray, List.set_cons_zero, List.set_cons_succ]
    refine wpAnyH_take (i := 10) (v := ?_) rfl (by kernel_rfl) (by kernel_rfl) (by kernel_rfl) (fun _ _ _ h => h) (Or.inl ⟨by rfl, ?_⟩) (by assumption) ?_
    rotate_left
    · intro w hSw; go_simp; (try with_reducible rfl)
    change wpAnyH _ _ _ _ _ _ _ (Act.put _ (some 94) _) _; simp only [Act.put, List.setIfInBounds_toArray, List.set_cons_zero, List.set_cons_succ]
    refine wpAnyH_take (i := 11) (v := ?_) rfl (by kernel_rfl) (by kernel_rfl) (by kernel_rfl) (fun _ _ _ h => h) (Or.inl ⟨by rfl, ?_⟩) (by assumption) ?_
    rotate_left
    · intro w hSw; go_simp; (try with_reducible rfl)
    change wpAnyH _ _ _ _ _ _ _ (Act.put _ (some 95) _) _; simp only [Act.put, List.setIfInBounds_toArray, List.set_cons_zero, List.set_cons_succ]
    refine wpAnyH_take (i := 13) (v := ?_) rfl (by kernel_rfl) (by kernel_rfl) (by kernel_rfl) (fun _ _ _ h => h) (Or.inl ⟨by rfl, ?_⟩) (by assumption) ?_
    rotate_left
    · intro w hSw; go_simp; (try with_reducible rfl)
    change wpAnyH _ _ _ _ _ _ _ (Act.put _ (some 97) _) _; simp only [Act.put, List.setIfInBounds_toArray, List.set_cons_zero, List.set_cons_succ]
    refine wpAnyH_ready (rs := [12]) (by kernel_rfl) (by simp) ?_
    refine AllReadyH.cons rfl (fun K hK => ?_) AllReadyH.nil
    go_simp
    refine (HQ1.out _ ?_).mono ?_
    · (repeat (first | (with_reducible assumption) | (with_reducible exact HKA.out) | (with_reducible refine Below.drew ?_)))
    rintro e wY ⟨rfl, kwY⟩
    refine hK.out _ _ ?_ (fun hHeld => ?_)
    · refine (KS.out _ ?_).1; (repeat (first | (with_reducible assumption) | (with_reducible exact HKA.out) | (with_reducible refine Below.drew ?_)))
    clear hK K
    refine wpAnyH_ready (rs := [14]) (by kernel_rfl) (by simp) ?_
    refine AllReadyH.cons rfl (fun K hK => ?_) AllReadyH.nil
    go_simp
    refine (HQ2.out _ ?_).mono ?_
    · (repeat (first | (with_reducible assumption) | (with_reducible exact HKA.out) | (with_reducible refine Below.drew ?_)))
    rintro e wZ ⟨rfl, kwZ⟩
    refine hK.out _ _ ?_ (fun hHeld => ?_)
    · refine (KS.out _ ?_).1; (repeat (first | (with_reducible assumption) | (with_reducible exact HKA.out) | (with_reducible refine Below.drew ?_)))
    clear hK K
    refine wpAnyH_take (i := 15) (v := ?_) rfl (by kernel_rfl) (by kernel_rfl) (by kernel_rfl) (fun _ _ _ h => h) (Or.inl ⟨by rfl, ?_⟩) (by assumption) ?_
    rotate_left
    · intro w hSw; go_simp; (try with_reducible rfl)
    change wpAnyH _ _ _ _ _ _ _ (Act.put _ (some 99) _) _; simp only [Act.put, List.setIfInBounds_toArray, List.set_cons_zero, List.set_cons_succ]
    refine wpAnyH_take (i := 16) (v := ?_) rfl (by kernel_rfl) (by kernel_rfl) (by kernel_rfl) (fun _ _ _ h => h) (Or.inl ⟨by rfl, ?_⟩) (by assumption) ?_
    rotate_left
    · intro w hSw; go_simp; (try with_reducible rfl)
    change wpAnyH _ _ _ _ _ _ _ (Act.put _ (some 100) _) _; simp only [Act.put, List.setIfInBounds_toArray, List.set_cons_zero, List.set_cons_succ]
    refine wpAnyH_take (i := 17) (v := ?_) rfl (by kernel_rfl) (by kernel_rfl) (by kernel_rfl) (fun _ _ _ h => h) (Or.inl ⟨by rfl, ?_⟩) (by assumption) ?_
    rotate_left
    · intro w hSw; go_simp; (try with_reducible rfl)
    change wpAnyH _ _ _ _ _ _ _ (Act.put _ (some 4) _) _; simp only [Act.put, List.setIfInBounds_toArray, List.set_cons_zero, List.set_cons_succ]
    refine wpAnyH_done (by kernel_rfl) ?_ _
    go_wp2_with fail
    go_ret
    exact ⟨rfl, (KS.out _ kwZ).2⟩
  · obtain ⟨PT, hPT⟩ : ∃ q : ByteArray, ⟨(prC tb.data.toList nb.data.toList l).toArray⟩ = q := ⟨_, rfl⟩
    have hPTl : PT.data.toList = prC tb.data.toList nb.data.toList l := by rw [← hPT]
    have hbd : (prL false l).length ≤ 8000 ∧ tb.size ≤ 8000 ∧ nb.size ≤ 8000 := by
      rw [← wsize tb, ← wsize nb, h1, h2]
      rw [prC] at hLe
      simp only [List.length_append, List.length_cons] at hLe
      omega
    have HP1 : Hid (∀ W, Below W8.heap.size W8 W → Calls Tryz.prog 11 #[.agg #[.string tb, .string nb, .slice vb N vd]] W fun e w' => e = .returned (.string PT) ∧ Below W8.heap.size W8 w') := fun W hW => by
      have := wprint_is tb nb l vb vd N W HLN.out.2 (KA.out W hW).2 hPr (by omega) (by omega) (by omega) fun W' hW' => by
        have hx := (KS.out W hW).2
        have hy := hx.trans (hW'.mono hx.size)
        exact ⟨(K0.out W' hy).1, mx, (K0.out W' hy).2.2.1⟩
      rw [hPT] at this
      exact this.mono fun e w' h => ⟨h.1, hW.trans (h.2.mono hW.size)⟩
    have HP2 : Hid (∀ W, Below W8.heap.size W8 W → Calls Tryz.prog 12 #[.agg #[.string tb, .string nb, .slice va N vc]] W fun e w' => e = .returned (.string PT) ∧ Below W8.heap.size W8 w') := fun W hW => by
      refine (rprint_is tb nb l va vc N W HLN.out.2 (KA.out W hW).1 hPr (by omega) (by omega) (by omega) (K0.out W (KS.out W hW).2).1).mono ?_
      rintro e w' ⟨⟨q, rfl, hq⟩, hb⟩
      exact ⟨by rw [text_eq (hq.trans hPTl.symm)], hW.trans (hb.mono hW.size)⟩
    clear HST KA hT h1 h2 h3 hPr hLe hPT hPTl hbd
    go_upto_region 11 with fail
    refine wp_region_held_drew (S := (fun W => (W.cell? ⟨B1, 0, none⟩ = some (.string tb) ∧ W.cell? ⟨B1, 1, none⟩ = some (.string nb) ∧ W.cell? ⟨B1, 2, none⟩ = some (.slice va N vc)) ∧ (W.cell? ⟨B2, 0, none⟩ = some (.int .i64 0) ∧ W.cell? ⟨B2, 1, none⟩ = some (.int .i64 (-1))) ∧ (W.cell? ⟨B3, 0, none⟩ = some (.string tb) ∧ W.cell? ⟨B3, 1, none⟩ = some (.string nb) ∧ W.cell? ⟨B3, 2, none⟩ = some (.slice vb N vd)) ∧ W.cell? ⟨0, 0, none⟩ = some (.int .i64 0) ∧ W.cell? ⟨0, 1, none⟩ = some (.int .i64 (-1)))) (by kernel_rfl) ?_ (fun hHeld => ?_)
    · refine (KS.out _ ?_).1; (repeat (first | (with_reducible assumption) | (with_reducible exact HKA.out) | (with_reducible refine Below.drew ?_)))
    refine wpAnyH_take (i := 0) (v := ?_) rfl (by kernel_rfl) (by kernel_rfl) (by kernel_rfl) (fun _ _ _ h => h) (Or.inl ⟨by rfl, ?_⟩) (by assumption) ?_
    rotate_left
    · intro w hSw; go_simp; (try with_reducible rfl)
    change wpAnyH _ _ _ _ _ _ _ (Act.put _ (some 84) _) _; simp only [Act.put, List.setIfInBounds_toArray, List.set_cons_zero, List.set_cons_succ]
    refine wpAnyH_take (i := 1) (v := ?_) rfl (by kernel_rfl) (by kernel_rfl) (by kernel_rfl) (fun _ _ _ h => h) (Or.inl ⟨by rfl, ?_⟩) (by assumption) ?_
    rotate_left
    · intro w hSw; go_simp; (try with_reducible rfl)
    change wpAnyH _ _ _ _ _ _ _ (Act.put _ (some 85) _) _; simp only [Act.put, List.setIfInBounds_toArray, List.set_cons_zero, List.set_cons_succ]
    refine wpAnyH_take (i := 2) (v := ?_) rfl (by kernel_rfl) (by kernel_rfl) (by kernel_rfl) (fun _ _ _ h => h) (Or.inl ⟨by rfl, ?_⟩) (by assumption) ?_
    rotate_left
    · intro w hSw; go_simp; (try with_reducible rfl)
    change wpAnyH _ _ _ _ _ _ _ (Act.put _ (some 86) _) _; simp only [Act.put, List.setIfInBounds_toArray, List.set_cons_zero, List.set_cons_succ]
    refine wpAnyH_take (i := 3) (v := ?_) rfl (by kernel_rfl) (by kernel_rfl) (by kernel_rfl) (fun _ _ _ h => h) (Or.inl ⟨by rfl, ?_⟩) (by assumption) ?_
    rotate_left
    · intro w hSw; go_simp; (try with_reducible rfl)
    change wpAnyH _ _ _ _ _ _ _ (Act.put _ (some 87) _) _; simp only [Act.put, List.setIfInBounds_toArray, List.set_cons_zero, List.set_cons_succ]
    refine wpAnyH_take (i := 4) (v := ?_) rfl (by kernel_rfl) (by kernel_rfl) (by kernel_rfl) (fun _ _ _ h => h) (Or.inl ⟨by rfl, ?_⟩) (by assumption) ?_
    rotate_left
    · intro w hSw; go_simp; (try with_reducible rfl)
    change wpAnyH _ _ _ _ _ _ _ (Act.put _ (some 88) _) _; simp only [Act.put, List.setIfInBounds_toArray, List.set_cons_zero, List.set_cons_succ]
    refine wpAnyH_take (i := 6) (v := ?_) rfl (by kernel_rfl) (by kernel_rfl) (by kernel_rfl) (fun _ _ _ h => h) (Or.inl ⟨by rfl, ?_⟩) (by assumption) ?_
    rotate_left
    · intro w hSw; go_simp; (try with_reducible rfl)
    change wpAnyH _ _ _ _ _ _ _ (Act.put _ (some 90) _) _; simp only [Act.put, List.setIfInBounds_toArray, List.set_cons_zero, List.set_cons_succ]
    refine wpAnyH_ready (rs := [5]) (by kernel_rfl) (by simp) ?_
    refine AllReadyH.cons rfl (fun K hK => ?_) AllReadyH.nil
    go_simp
    refine (HP1.out _ ?_).mono ?_
    · (repeat (first | (with_reducible assumption) | (with_reducible exact HKA.out) | (with_reducible refine Below.drew ?_)))
    rintro e wU ⟨rfl, kwU⟩
    refine hK.out _ _ ?_ (fun hHeld => ?_)
    · refine (KS.out _ ?_).1; (repeat (first | (with_reducible assumption) | (with_reducible exact HKA.out) | (with_reducible refine Below.drew ?_)))
    clear hK K
    refine wpAnyH_ready (rs := [7]) (by kernel_rfl) (by simp) ?_
    refine AllReadyH.cons rfl (fun K hK => ?_) AllReadyH.nil
    go_simp
    refine (HP2.out _ ?_).mono ?_
    · (repeat (first | (with_reducible assumption) | (with_reducible exact HKA.out) | (with_reducible refine Below.drew ?_)))
    rintro e wV ⟨rfl, kwV⟩
    refine hK.out _ _ ?_ (fun hHeld => ?_)
    · refine (KS.out _ ?_).1; (repeat (first | (with_reducible assumption) | (with_reducible exact HKA.out) | (with_reducible refine Below.drew ?_)))
    clear hK K
    refine wpAnyH_take (i := 8) (v := ?_) rfl (by kernel_rfl) (by kernel_rfl) (by kernel_rfl) (fun _ _ _ h => h) (Or.inl ⟨by rfl, ?_⟩) (by assumption) ?_
    rotate_left
    · intro w hSw; go_simp; (try with_reducible rfl)
    change wpAnyH _ _ _ _ _ _ _ (Act.put _ (some 92) _) _; simp only [Act.put, List.setIfInBounds_toArray, List.set_cons_zero, List.set_cons_succ]
    refine wpAnyH_take (i := 9) (v := ?_) rfl (by kernel_rfl) (by kernel_rfl) (by kernel_rfl) (fun _ _ _ h => h) (Or.inl ⟨by rfl, ?_⟩) (by assumption) ?_
    rotate_left
    · intro w hSw; go_simp; (try with_reducible rfl)
    change wpAnyH _ _ _ _ _ _ _ (Act.put _ (some 93) _) _; simp only [Act.put, List.setIfInBounds_toArray, List.set_cons_zero, List.set_cons_succ]
    refine wpAnyH_take (i := 10) (v := ?_) rfl (by kernel_rfl) (by kernel_rfl) (by kernel_rfl) (fun _ _ _ h => h) (Or.inl ⟨by rfl, ?_⟩) (by assumption) ?_
    rotate_left
    · intro w hSw; go_simp; (try with_reducible rfl)
    change wpAnyH _ _ _ _ _ _ _ (Act.put _ (some 94) _) _; simp only [Act.put, List.setIfInBounds_toArray, List.set_cons_zero, List.set_cons_succ]
    refine wpAnyH_take (i := 11) (v := ?_) rfl (by kernel_rfl) (by kernel_rfl) (by kernel_rfl) (fun _ _ _ h => h) (Or.inl ⟨by rfl, ?_⟩) (by assumption) ?_
    rotate_left
    · intro w hSw; go_simp; (try with_reducible rfl)
    change wpAnyH _ _ _ _ _ _ _ (Act.put _ (some 95) _) _; simp only [Act.put, List.setIfInBounds_toArray, List.set_cons_zero, List.set_cons_succ]
    refine wpAnyH_take (i := 13) (v := ?_) rfl (by kernel_rfl) (by kernel_rfl) (by kernel_rfl) (fun _ _ _ h => h) (Or.inl ⟨by rfl, ?_⟩) (by assumption) ?_
    rotate_left
    · intro w hSw; go_simp; (try with_reducible rfl)
    change wpAnyH _ _ _ _ _ _ _ (Act.put _ (some 97) _) _; simp only [Act.put, List.setIfInBounds_toArray, List.set_cons_zero, List.set_cons_succ]
    refine wpAnyH_ready (rs := [12]) (by kernel_rfl) (by simp) ?_
    refine AllReadyH.cons rfl (fun K hK => ?_) AllReadyH.nil
    go_simp
    refine (HQ1.out _ ?_).mono ?_
    · (repeat (first | (with_reducible assumption) | (with_reducible exact HKA.out) | (with_reducible refine Below.drew ?_)))
    rintro e wY ⟨rfl, kwY⟩
    refine hK.out _ _ ?_ (fun hHeld => ?_)
    · refine (KS.out _ ?_).1; (repeat (first | (with_reducible assumption) | (with_reducible exact HKA.out) | (with_reducible refine Below.drew ?_)))
    clear hK K
    refine wpAnyH_ready (rs := [14]) (by kernel_rfl) (by simp) ?_
    refine AllReadyH.cons rfl (fun K hK => ?_) AllReadyH.nil
    go_simp
    refine (HQ2.out _ ?_).mono ?_
    · (repeat (first | (with_reducible assumption) | (with_reducible exact HKA.out) | (with_reducible refine Below.drew ?_)))
    rintro e wZ ⟨rfl, kwZ⟩
    refine hK.out _ _ ?_ (fun hHeld => ?_)
    · refine (KS.out _ ?_).1; (repeat (first | (with_reducible assumption) | (with_reducible exact HKA.out) | (with_reducible refine Below.drew ?_)))
    clear hK K
    refine wpAnyH_take (i := 15) (v := ?_) rfl (by kernel_rfl) (by kernel_rfl) (by kernel_rfl) (fun _ _ _ h => h) (Or.inl ⟨by rfl, ?_⟩) (by assumption) ?_
    rotate_left
    · intro w hSw; go_simp; (try with_reducible rfl)
    change wpAnyH _ _ _ _ _ _ _ (Act.put _ (some 99) _) _; simp only [Act.put, List.setIfInBounds_toArray, List.set_cons_zero, List.set_cons_succ]
    refine wpAnyH_take (i := 16) (v := ?_) rfl (by kernel_rfl) (by kernel_rfl) (by kernel_rfl) (fun _ _ _ h => h) (Or.inl ⟨by rfl, ?_⟩) (by assumption) ?_
    rotate_left
    · intro w hSw; go_simp; (try with_reducible rfl)
    change wpAnyH _ _ _ _ _ _ _ (Act.put _ (some 100) _) _; simp only [Act.put, List.setIfInBounds_toArray, List.set_cons_zero, List.set_cons_succ]
    refine wpAnyH_take (i := 17) (v := ?_) rfl (by kernel_rfl) (by kernel_rfl) (by kernel_rfl) (fun _ _ _ h => h) (Or.inl ⟨by rfl, ?_⟩) (by assumption) ?_
    rotate_left
    · intro w hSw; go_simp; (try with_reducible rfl)
    change wpAnyH _ _ _ _ _ _ _ (Act.put _ (some 4) _) _; simp only [Act.put, List.setIfInBounds_toArray, List.set_cons_zero, List.set_cons_succ]
    refine wpAnyH_done (by kernel_rfl) ?_ _
    go_wp2_with fail
    go_ret
    exact ⟨rfl, (KS.out _ kwZ).2⟩
end Go.Proofs.YtmcpohnilgbicaaGreatDoor
