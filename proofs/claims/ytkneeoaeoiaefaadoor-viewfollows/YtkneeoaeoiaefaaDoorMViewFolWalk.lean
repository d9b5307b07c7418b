/-
  Who is told all sees all: the statement's walk.
-/
import Derived.Test.YtkneeoaeoiaefaaDoorVFolA
namespace Go.Proofs.YtkneeoaeoiaefaaDoor
open Go.RowKit Go.Proofs.Aid Go.Proofs.Bx

/-- Rows of deeds. -/
def Pps (w : World) (v : Value) (LL : List (List Ps)) : Prop := ∃ a c, v = .slice a LL.length c ∧ (LL = [] ∨ ∃ b o, a = some ⟨b, o, none⟩ ∧ ∀ (j : Nat) L, LL[j]? = some L → ∃ pv, w.cell? ⟨b, o + j, none⟩ = some pv ∧ Pts w pv L)
/-- Yes and no. -/
def Bls (w : World) (v : Value) (G : List Bool) : Prop := ∃ a c, v = .slice a G.length c ∧ (G = [] ∨ ∃ b o, a = some ⟨b, o, none⟩ ∧ ∀ (j : Nat) x, G[j]? = some x → w.cell? ⟨b, o + j, none⟩ = some (.bool x))
theorem Pps.below {w w' : World} {v : Value} {B : Nat} {L : List (List Ps)} (h : Pps w v L) (hb : Below B w w') (hB : w.heap.size ≤ B) : Pps w' v L := by
  obtain ⟨a, c, h1, h2⟩ := h
  refine ⟨a, c, h1, ?_⟩
  rcases h2 with h2 | ⟨b, o, h3, h4⟩
  · exact Or.inl h2
  · refine Or.inr ⟨b, o, h3, fun j x hj => ?_⟩
    obtain ⟨pv, h5, h6⟩ := h4 j x hj
    exact ⟨pv, (hb.cell (p := ⟨b, _, none⟩) (Nat.lt_of_lt_of_le (World.block_lt_of_cell? _ _ h5) hB)).trans h5, h6.below hb hB⟩
theorem Bls.below {w w' : World} {v : Value} {B : Nat} {L : List Bool} (h : Bls w v L) (hb : Below B w w') (hB : w.heap.size ≤ B) : Bls w' v L := by
  obtain ⟨a, c, h1, h2⟩ := h
  refine ⟨a, c, h1, ?_⟩
  rcases h2 with h2 | ⟨b, o, h3, h4⟩
  · exact Or.inl h2
  · refine Or.inr ⟨b, o, h3, fun j x hj => ?_⟩
    have h5 := h4 j x hj
    exact (hb.cell (p := ⟨b, _, none⟩) (Nat.lt_of_lt_of_le (World.block_lt_of_cell? _ _ h5) hB)).trans h5
set_option maxHeartbeats 1000000 in
set_option maxRecDepth 100000 in
theorem follows_big (v0 v1 v2 : Value) (L : List Ps) (LL : List (List Ps)) (G : List Bool) (w : World) (h0 : Pts w v0 L) (h1 : Pps w v1 LL) (h2 : Bls w v2 G) (hb : ¬ (shortB L = true ∧ LL.length ≤ 10 ∧ G.length ≤ 20)) :
    Calls Tryd.prog 4 #[v0, v1, v2] w fun e w' => e = .returned (.bool true) ∧ Below w.heap.size w w' := by
  have cSh := short_is v0 L w h0
  obtain ⟨a1, c1, rfl, _⟩ := h1
  obtain ⟨a2, c2, rfl, _⟩ := h2
  obtain ⟨a0, c0, rfl, _⟩ := h0
  cases hs : shortB L with
  | false =>
    rw [hs] at cSh
    go_enter Tryd.func4, Tryd.ntmps4
    go_wp2_with fail
    refine cSh.mono ?_
    rintro e w1 ⟨rfl, hw1⟩
    obtain rfl : w = w1 := hw1.symm
    go_wp2_with fail
    go_ret
    exact ⟨rfl, Below.refl _ _⟩
  | true =>
    rw [hs] at cSh
    by_cases hl : LL.length ≤ 10
    · have hg : ¬ G.length ≤ 20 := fun h => hb ⟨hs, hl, h⟩
      have d1 : ¬ (10 : Int) < (LL.length : Int) := by omega
      have d2 : (20 : Int) < (G.length : Int) := by omega
      clear hb hs
      go_enter Tryd.func4, Tryd.ntmps4
      go_wp2_with fail
      refine cSh.mono ?_
      rintro e w1 ⟨rfl, hw1⟩
      obtain rfl : w = w1 := hw1.symm
      go_wp2_with fail
      go_ret
      exact ⟨rfl, Below.refl _ _⟩
    · have d1 : (10 : Int) < (LL.length : Int) := by omega
      clear hb hs
      go_enter Tryd.func4, Tryd.ntmps4
      go_wp2_with fail
      refine cSh.mono ?_
      rintro e w1 ⟨rfl, hw1⟩
      obtain rfl : w = w1 := hw1.symm
      go_wp2_with fail
      go_ret
      exact ⟨rfl, Below.refl _ _⟩
/-- Behind i of the first deeds. -/
def VFst (w2 : World) (H : Nat) (i : Nat) (wr : World) : Prop := ∃ (n : Int) (l : List Lt), BoxAt wr H 1 n l ∧ BInv n l ∧ n ≤ 1 + i ∧ Below H w2 wr
/-- Behind i looks (and k deeds more): E, how many deeds in all. -/
def VFo (w2 : World) (H vb : Nat) (E : Nat) (wr : World) (tv : Value) : Prop := ∃ (n : Int) (l : List Lt) (S : List Sg) (sv : Value), VSt w2 H vb n l S (S.map Sg.flags) wr sv tv ∧ n ≤ 1 + E ∧ RiseS S ∧ Seen l S ∧ (∀ s ∈ S, 1 ≤ s.uid ∧ s.uid < n) ∧ ∀ s ∈ S, s.flags.length ≤ 12
/-- With what is told. -/
def VNw (w2 : World) (H vb : Nat) (n : Int) (l : List Lt) (S : List Sg) (T : List (List Fl.Tx)) (wr : World) (sv tv nv : Value) (N : List Nw) : Prop := VSt w2 H vb n l S T wr sv tv ∧ Nws wr nv N
/-- With numbers, k of which are looked at. -/
def ViewIn (w2 : World) (H vb : Nat) (n : Int) (l : List Lt) (S : List Sg) (wr : World) (sv tv uv : Value) (_k : Nat) : Prop := VSt w2 H vb n l S (S.map Sg.flags) wr sv tv ∧ ∃ base, NOwn wr base uv (S.map Sg.uid)
/-- Amid those that are asked for. -/
def ManyIn (w2 : World) (H vb : Nat) (n : Int) (l : List Lt) (S : List Sg) (T M : List (List Fl.Tx)) (wr : World) (sv tv nv : Value) (N : List Nw) (uv : Value) (NB : Nat) (fa : Option Addr) (FL fc XN m : Nat) : Prop :=
  VSt w2 H vb n l S (T ++ (M.drop T.length).take (m - T.length)) wr sv tv ∧ Nws wr nv N ∧ (∃ base, NOwn wr base uv (S.map Sg.uid)) ∧ wr.heap[NB]? = some (.cells #[.int .i64 2, .int .i64 (XN : Int), .slice fa FL fc] 52 (0, 0))
theorem find_at_own {l : List Lt} (hr : Rise l) {k : Nat} {y : Lt} (h : l[k]? = some y) : findI l y.uid = k ∧ findB l y.uid = true := by
  obtain ⟨hk, hy⟩ := List.getElem?_eq_some_iff.1 h
  constructor
  · exact find_at (fun t ht hlt => by have := rise_at hr ht hk hlt; rw [hy] at this; exact this) (by omega) (fun _ => by rw [hy]; omega)
  · unfold findB
    rw [List.any_eq_true]
    exact ⟨y, hy ▸ List.getElem_mem hk, by simp⟩
theorem fold_len {M : List (List Fl.Tx)} : ∀ (A : List Nw) (T : List (List Fl.Tx)) (b : Nat), T.length ≤ b → M.length ≤ b → (A.foldl (stepT M) T).length ≤ b
  | [], T, b, h, _ => h
  | x :: A, T, b, h, hM => by
    rw [List.foldl_cons]
    refine fold_len A _ b ?_ hM
    unfold stepT
    split
    · exact Nat.le_trans (List.length_eraseIdx_le ..) h
    · split
      · rw [List.length_append, List.length_drop]; omega
      · rw [List.length_set]; exact h
def lenV : Value → Nat
  | .slice _ n _ => n
  | _ => 0
theorem look_new {S : List Sg} {l : List Lt} {g : Bool} {m : Nat} (h1 : (lookS1 S l g).length ≤ m) (h2 : m < (lookS2 S l g).length) : ∃ y ∈ l, ((lookS S l g).map Sg.uid)[m]? = some y.uid ∧ ((lookS2 S l g).map Sg.flags)[m]? = some y.flags := by
  have hm : (lookS2 S l g)[m]? = some (lookS2 S l g)[m] := List.getElem?_eq_getElem h2
  obtain ⟨s, hs⟩ : ∃ s, (lookS2 S l g)[m] = s := ⟨_, rfl⟩
  rw [hs] at hm
  have hm2 : (newS (lastS (lookS1 S l g)) l)[m - (lookS1 S l g).length]? = some s := by
    rw [← hm]
    unfold lookS2
    rw [List.getElem?_append_right h1]
  obtain ⟨y, hy, rfl⟩ := newS_mem (List.mem_of_getElem? hm2)
  refine ⟨y, hy, ?_, ?_⟩
  · rw [look_uids, List.getElem?_map, hm]; rfl
  · rw [List.getElem?_map, hm]; rfl
theorem binv_len {n : Int} {l : List Lt} (h : BInv n l) : (l.length : Int) ≤ n - 1 := by
  have := rise_count (rise_map.1 h.rise) (lo := 1) (hi := n) (fun z hz => by obtain ⟨x, hx, rfl⟩ := List.mem_map.1 hz; exact h.uid x hx) h.next
  simpa using this
theorem sgs_len {n : Int} {S : List Sg} (hr : RiseS S) (hb : ∀ s ∈ S, 1 ≤ s.uid ∧ s.uid < n) (hn : 1 ≤ n) : (S.length : Int) ≤ n - 1 := by
  have := rise_count (riseS_map.1 hr) (lo := 1) (hi := n) (fun z hz => by obtain ⟨x, hx, rfl⟩ := List.mem_map.1 hz; exact hb x hx) hn
  simpa using this
set_option maxHeartbeats 8000000 in
set_option maxRecDepth 100000 in
theorem follows_is (v0 v1 v2 : Value) (L : List Ps) (LL : List (List Ps)) (G : List Bool) (w : World) (h0 : Pts w v0 L) (h1 : Pps w v1 LL) (h2 : Bls w v2 G) (hg : SysAt w) (hs : shortB L = true) (hLL : LL.length ≤ 10) (hG : G.length ≤ 20) :
    Calls Tryd.prog 4 #[v0, v1, v2] w fun e w' => e = .returned (.bool true) ∧ Below w.heap.size w w' := by
  have cSh := short_is v0 L w h0
  rw [hs] at cSh
  obtain ⟨a1, c1, rfl, _⟩ := id h1
  obtain ⟨a2, c2, rfl, _⟩ := id h2
  obtain ⟨a0, c0, rfl, _⟩ := id h0
  have hgl := hg.lt
  have hsh : L.length ≤ 40 ∧ ∀ x ∈ L, shortP x = true := by
    unfold shortB at hs
    simpa using hs
  obtain ⟨len0, hlen0⟩ : ∃ n, L.length = n := ⟨_, rfl⟩
  obtain ⟨len1, hlen1⟩ : ∃ n, LL.length = n := ⟨_, rfl⟩
  obtain ⟨len2, hlen2⟩ : ∃ n, G.length = n := ⟨_, rfl⟩
  have HSH : Hid (∀ x ∈ L, shortP x = true) := hsh.2
  have hl40 : len0 ≤ 40 := by omega
  have HL0 : Hid (L.length = len0) := hlen0
  have HL1 : Hid (LL.length = len1) := hlen1
  have HL2 : Hid (G.length = len2) := hlen2
  rw [hlen0] at cSh h0
  rw [hlen1] at h1 hLL
  rw [hlen2] at h2 hG
  rw [hlen0, hlen1, hlen2]
  have d1 : decide ((10 : Int) < (len1 : Int)) = false := decide_eq_false (by omega)
  have d2 : decide ((20 : Int) < (len2 : Int)) = false := decide_eq_false (by omega)
  have HP : Hid (Pts w (.slice a0 len0 c0) L ∧ Pps w (.slice a1 len1 c1) LL ∧ Bls w (.slice a2 len2 c2) G ∧ SysAt w) := ⟨h0, h1, h2, hg⟩
  have cB := boxed_is w hg
  clear h0 h1 h2 hg hsh hlen0 hlen1 hlen2 hs
  go_enter Tryd.func4, Tryd.ntmps4
  go_wp2_with fail
  refine cSh.mono ?_
  rintro e w1 ⟨rfl, hw1⟩
  obtain rfl : w = w1 := hw1.symm
  clear cSh
  go_wp2_with fail
  refine cB.mono ?_
  rintro e w2 ⟨rfl, hb2⟩
  have HB2 : Hid (Below w.heap.size w w2) := hb2
  clear cB hb2
  go_wp2_with fail
  obtain ⟨H, hH⟩ : ∃ H, w2.heap.size = H := ⟨_, rfl⟩
  have HH : Hid (w2.heap.size = H ∧ w.heap.size ≤ H) := ⟨hH, by rw [← hH]; exact HB2.out.size⟩
  have HST : Hid (VFst w2 H 0 (w2.alloc (.cells #[.int .i64 1, .int .i64 1, .slice none 0 0] 28))) := by
    have e1 := heap_alloc_new w2 (.cells #[.int .i64 1, .int .i64 1, .slice none 0 0] 28)
    have b1 : Below w2.heap.size w2 (w2.alloc (.cells #[.int .i64 1, .int .i64 1, .slice none 0 0] 28)) := (Below.refl _ _).alloc (Nat.le_refl _) _
    rw [hH] at e1 b1
    exact ⟨1, [], ⟨_, e1, Lts.nil _⟩, ⟨by unfold Rise; simp, fun x hx => by simp at hx, fun x hx => by simp at hx, by omega⟩, by omega, b1⟩
  have HP2 : Hid (Pts w2 (.slice a0 len0 c0) L ∧ Pps w2 (.slice a1 len1 c1) LL ∧ Bls w2 (.slice a2 len2 c2) G ∧ SysAt w2) := ⟨HP.out.1.below HB2.out (Nat.le_refl _), HP.out.2.1.below HB2.out (Nat.le_refl _), HP.out.2.2.1.below HB2.out (Nat.le_refl _), HP.out.2.2.2.below HB2.out hgl⟩
  rw [hH]
  obtain ⟨W0, hW0⟩ : ∃ W, w2.alloc (.cells #[.int .i64 1, .int .i64 1, .slice none 0 0] 28) = W := ⟨_, rfl⟩
  rw [hW0] at HST ⊢
  clear hW0 HP hH
  go_loopw [8] (fun iv wr => ∃ i : Nat, iv = .int .i64 (i : Int) ∧ i ≤ len0 ∧ Hid (VFst w2 H i wr)) (fun iv _ => len0 - (intOf iv).toNat)
  case atStart => exact ⟨0, rfl, Nat.zero_le _, HST.out⟩
  case round =>
    obtain ⟨i, rfl, hi, HN⟩ := hrel
    clear HST
    by_cases hlt : i < len0
    · as_aux_lemma =>
        have hkl : i < L.length := by rw [HL0.out]; exact hlt
        obtain ⟨n, l, q1, q2, q3, q4⟩ := id HN.out
        obtain ⟨x, hx⟩ : ∃ x, L[i] = x := ⟨_, rfl⟩
        have hxs : shortP x = true := HSH.out x (hx ▸ List.getElem_mem hkl)
        obtain ⟨pb, po, rfl, hat⟩ : ∃ b o, a0 = some ⟨b, o, none⟩ ∧ ∀ (j : Nat) x, L[j]? = some x → PsAt w2 b (o + j * 5) x := by
          obtain ⟨a', c', e, h1⟩ := HP2.out.1
          injection e with e _ _
          subst e
          rcases h1 with h1 | h1
          · rw [h1] at hkl; simp at hkl
          · exact h1
        obtain ⟨s0, s1, s2, ⟨fv, s3, s3f⟩, s4⟩ := (hat i x (by rw [List.getElem?_eq_getElem hkl, hx])).below q4 (by rw [HH.out.1]; exact Nat.le_refl _)
        have hsy : SysAt wr := HP2.out.2.2.2.below q4 (by have := HH.out.2; omega)
        have cPo := post_is H n l x fv wr q1 q2 (by have := binv_len q2; omega) (by omega) s3f hxs hsy
        obtain ⟨fa, fc, rfl, _⟩ := id s3f
        obtain ⟨FL, hFL⟩ : ∃ k, x.flags.length = k := ⟨_, rfl⟩
        rw [hFL] at s3 cPo
        obtain ⟨WH, hWH⟩ : ∃ z, x.what = z := ⟨_, rfl⟩
        obtain ⟨UI, hUI⟩ : ∃ z, x.uid = z := ⟨_, rfl⟩
        obtain ⟨NN, hNN⟩ : ∃ z, x.n = z := ⟨_, rfl⟩
        obtain ⟨TX, hTX⟩ : ∃ z, x.text = z := ⟨_, rfl⟩
        rw [hWH, hUI, hNN, hTX] at cPo
        rw [hWH] at s0
        rw [hUI] at s1
        rw [hNN] at s2
        rw [hTX] at s4
        have HQ : Hid (Below H w2 wr ∧ n ≤ 1 + i ∧ H < wr.heap.size) := ⟨q4, q3, q1.lt⟩
        clear hx hxs hat s3f hsy hFL hWH hUI hNN hTX q1 q2 q4 hkl HN q3
        go_wp2_with fail
        refine cPo.mono ?_
        clear cPo
        rintro e w5 ⟨ev, n', l', rfl, _, hst, hb5, hbut⟩
        have HNX : Hid (VFst w2 H (i + 1) w5) := ⟨n', l', hb5, hst.inv, by have := hst.up.2; have := HQ.out.2.1; omega, HQ.out.1.trans (hbut.below (by have := HQ.out.2.2; omega) (Nat.le_refl _))⟩
        clear hst hb5 hbut HQ s0 s1 s2 s3 s4
        go_wp2_with fail
        go_roundw
        case rel => exact ⟨i + 1, by go_num, by omega, HNX.out⟩
        case measure => simp [intOf]; omega
    · as_aux_lemma =>
        obtain rfl : i = len0 := by omega
        obtain ⟨n, l, q1, q2, q3, q4⟩ := id HN.out
        obtain ⟨lv, y1, y2⟩ := id q1
        obtain ⟨la, lc, rfl, _⟩ := id y2
        obtain ⟨ml, hml⟩ : ∃ k, l.length = k := ⟨_, rfl⟩
        have hmn := binv_len q2
        rw [hml] at y1 y2 hmn
        have x0 : wr.cell? ⟨H, 0, none⟩ = some (.int .i64 1) := rd_cell y1 rfl
        have x1 : wr.cell? ⟨H, 1, none⟩ = some (.int .i64 n) := rd_cell y1 rfl
        have x2 : wr.cell? ⟨H, 2, none⟩ = some (.slice la ml lc) := rd_cell y1 rfl
        have cO := open_is 1 n (.slice la ml lc) l wr y2 (by omega) (fun x hx => by have := (q2.ok x hx).1.2.2; omega)
        have HQ : Hid (BoxAt wr H 1 n l ∧ BInv n l ∧ n ≤ 1 + i ∧ Below H w2 wr ∧ l.length = ml) := ⟨q1, q2, q3, q4, hml⟩
        clear q1 q2 q3 q4 y1 y2 hml HN
        go_wp2_with fail
        refine cO.mono ?_
        clear cO
        rintro e w4 ⟨vb, sv, rfl, hvb, hv4, hsv, hb4⟩
        clear x0 x1 x2
        have HS4 : Hid (VSt w2 H vb n l (newS 0 l) [] w4 sv (.slice none 0 0)) := by
          have hH := HQ.out.1.lt
          exact ⟨HQ.out.1.below hb4 (Nat.le_refl _), HQ.out.2.1, hv4, Tds.nil _, by omega, fun q hq => by have := hsv q hq; omega, fun q hq => (by cases hq), HQ.out.2.2.2.1.trans (hb4.mono (by omega))⟩
        have HQ2 : Hid (n ≤ 1 + i ∧ l.length = ml ∧ (ml : Int) ≤ n - 1 ∧ newS 0 l = l.map sgOf) := ⟨HQ.out.2.2.1, HQ.out.2.2.2.2, hmn, by
          unfold newS
          rw [List.filter_eq_self.2 fun x hx => by have := HQ.out.2.1.uid x hx; simpa using (show 0 < x.uid by omega)]⟩
        clear hv4 hsv hb4 hvb HQ
        go_wp2_with fail
        go_loopw [10, 11] (fun tv kv wr => ∃ (k : Nat) (vo : Option Addr) (c3 : Nat), kv = .int .i64 (k : Int) ∧ k ≤ ml ∧ tv = .slice vo k c3 ∧ Hid (VSt w2 H vb n l (newS 0 l) ((l.take k).map Lt.flags) wr sv (.slice vo k c3))) (fun _ kv _ => ml - (intOf kv).toNat)
        case atStart => exact ⟨0, none, 0, rfl, Nat.zero_le _, rfl, HS4.out⟩
        case round =>
          obtain ⟨k, vo, c3, rfl, hk, rfl, HI⟩ := hrel
          clear HS4
          obtain ⟨lv, y1, y2⟩ := id HI.out.box
          obtain ⟨la3, lc3, rfl, _, hrest⟩ := id y2
          have hml := HQ2.out.2.1
          rw [hml] at y1
          have x2 : wr.cell? ⟨H, 2, none⟩ = some (.slice la3 ml lc3) := rd_cell y1 rfl
          by_cases hlt : k < ml
          · as_aux_lemma =>
              have hkl : k < l.length := by rw [hml]; exact hlt
              obtain ⟨y, hy⟩ : ∃ y, l[k] = y := ⟨_, rfl⟩
              have hyk : l[k]? = some y := by rw [List.getElem?_eq_getElem hkl, hy]
              obtain ⟨lb, lo, rfl, hat⟩ : ∃ b o, la3 = some ⟨b, o, none⟩ ∧ ∀ (j : Nat) x, l[j]? = some x → LtAt wr b (o + j * 4) x := by
                rcases hrest with h | h
                · rw [h] at hkl; simp at hkl
                · exact h
              obtain ⟨_, ⟨fv6, z1, hsf6⟩, _, _⟩ := hat k y hyk
              have hlbl : lb < wr.heap.size := World.block_lt_of_cell? _ _ z1
              have htl : ((l.take k).map Lt.flags).length = k := by rw [List.length_map, List.length_take]; omega
              have htd : Tds wr (.slice vo ((l.take k).map Lt.flags).length c3) ((l.take k).map Lt.flags) := by rw [htl]; exact HI.out.td
              obtain ⟨g9, cap9, W9, hrun, ht9, hk9, hn9⟩ := tds_push (T := (l.take k).map Lt.flags) htd y.flags fv6 hsf6 (by rw [htl]; have := HQ2.out; omega)
              rw [htl] at hrun ht9 hk9 hn9
              have HNX : Hid (VSt w2 H vb n l (newS 0 l) ((l.take (k + 1)).map Lt.flags) W9 sv (.slice (some ⟨g9, 0, none⟩) (k + 1) cap9)) := by
                have : (l.take (k + 1)).map Lt.flags = (l.take k).map Lt.flags ++ [y.flags] := by rw [List.take_add_one, hyk]; simp
                rw [this]
                exact HI.out.told ht9 hk9 hn9
              obtain ⟨fa6, fc6, rfl, _⟩ := id hsf6
              obtain ⟨FL6, hFL6⟩ : ∃ k, y.flags.length = k := ⟨_, rfl⟩
              rw [hFL6] at z1 hrun
              have HRUN : Hid ((Builtin.append_ #[48, 48] 48 #[.slice vo k c3, .slice (some ⟨wr.heap.size, 0, none⟩) 1 1]).run Tryd.prog (wr.alloc (.cells #[.slice fa6 FL6 fc6] 34)) = .ok (.slice (some ⟨g9, 0, none⟩) (k + 1) cap9) W9) := hrun
              clear hy hyk hat hsf6 hrest htl htd hrun ht9 hk9 hn9 HI y1 y2 hFL6 hkl
              go_wp2_with (at_builtin; go_must (refine Go.Lib.wpList_append_run _ rfl (.tmp 61) (.tmp 68) 48 48 rfl _ _ rfl rfl _ W9 HRUN.out ?_))
              go_roundw
              case rel => exact ⟨k + 1, _, _, by go_num, by omega, rfl, HNX.out⟩
              case measure => simp [intOf]; omega
          · as_aux_lemma =>
              obtain rfl : k = ml := by omega
              have HO : Hid (VFo w2 H vb 40 wr (.slice vo k c3)) := by
                have hq := HQ2.out
                have hst := HI.out
                rw [List.take_of_length_le (by omega)] at hst
                refine ⟨n, l, newS 0 l, sv, ?_, by omega, newS_rise hst.inv.rise, fun x hx => Or.inl ⟨sgOf x, by rw [hq.2.2.2]; exact List.mem_map_of_mem hx, rfl⟩, fun s hs => ?_, fun s hs => ?_⟩
                · have : (newS 0 l).map Sg.flags = l.map Lt.flags := by rw [hq.2.2.2, List.map_map]; rfl
                  rw [this]
                  exact hst
                · obtain ⟨x, hx, rfl⟩ := newS_mem hs
                  exact hst.inv.uid x hx
                · obtain ⟨x, hx, rfl⟩ := newS_mem hs
                  exact (hst.inv.ok x hx).1.2.2
              clear HI y1 y2 hrest HQ2
              go_wp2_with fail
              go_loopw [10, 12] (fun tv iv wr => ∃ (i3 : Nat) (vo : Option Addr) (m4 c4 : Nat), iv = .int .i64 (i3 : Int) ∧ i3 ≤ len1 ∧ tv = .slice vo m4 c4 ∧ Hid (VFo w2 H vb (40 + 40 * i3) wr (.slice vo m4 c4))) (fun _ iv _ => len1 - (intOf iv).toNat)
              case atStart => exact ⟨0, vo, k, c3, rfl, Nat.zero_le _, rfl, HO.out⟩
              case round =>
                obtain ⟨i3, vo4, m4, c4, rfl, hi3, rfl, HV⟩ := hrel
                clear HO x2
                by_cases hlt3 : i3 < len1
                · as_aux_lemma =>
                    have hkl3 : i3 < LL.length := by rw [HL1.out]; exact hlt3
                    obtain ⟨L3, hL3⟩ : ∃ x, LL[i3] = x := ⟨_, rfl⟩
                    obtain ⟨pb3, po3, rfl, hat3⟩ : ∃ b o, a1 = some ⟨b, o, none⟩ ∧ ∀ (j : Nat) L, LL[j]? = some L → ∃ pv, w2.cell? ⟨b, o + j, none⟩ = some pv ∧ Pts w2 pv L := by
                      obtain ⟨a', c', e, h1⟩ := HP2.out.2.1
                      injection e with e _ _
                      subst e
                      rcases h1 with h1 | h1
                      · rw [h1] at hkl3; simp at hkl3
                      · exact h1
                    obtain ⟨pv3, hc3, hp3⟩ := hat3 i3 L3 (by rw [List.getElem?_eq_getElem hkl3, hL3])
                    have hpb3 : pb3 < H := by have := World.block_lt_of_cell? _ _ hc3; have := HH.out.1; show pb3 < H; rw [← this]; assumption
                    have hbw3 : Below H w2 wr := by
                      obtain ⟨n, l, S, sv, hst, _⟩ := HV.out
                      exact hst.below
                    have hc3r := (hbw3.cell (p := ⟨pb3, _, none⟩) hpb3).trans hc3
                    have cS3 := short_is pv3 L3 wr (hp3.below hbw3 (by rw [HH.out.1]; exact Nat.le_refl _))
                    obtain ⟨a3, cc3, rfl, _⟩ := id hp3
                    obtain ⟨len3, hlen3⟩ : ∃ n, L3.length = n := ⟨_, rfl⟩
                    rw [hlen3] at hc3 hc3r cS3 hp3
                    have HP3 : Hid (Pts w2 (.slice a3 len3 cc3) L3 ∧ L3.length = len3 ∧ w2.cell? ⟨pb3, po3 + i3, none⟩ = some (.slice a3 len3 cc3)) := ⟨hp3, hlen3, hc3⟩
                    obtain ⟨SB3, hSB3⟩ : ∃ b, shortB L3 = b := ⟨_, rfl⟩
                    rw [hSB3] at cS3
                    clear hat3 hp3 hc3 hlen3 hL3 hkl3
                    cases SB3 with
                    | false =>
                      have HF : Hid (Below w.heap.size w wr) := HB2.out.trans (hbw3.mono HH.out.2)
                      clear hbw3
                      go_wp2_with fail
                      refine cS3.mono ?_
                      rintro e w5 ⟨rfl, hw5⟩
                      obtain rfl : wr = w5 := hw5.symm
                      go_wp2_with fail
                      go_ret
                      exact ⟨rfl, HF.out⟩
                    | true =>
                      have hsh3 : L3.length ≤ 40 ∧ ∀ x ∈ L3, shortP x = true := by
                        unfold shortB at hSB3
                        simpa using hSB3
                      have hl43 : len3 ≤ 40 := by rw [← HP3.out.2.1]; exact hsh3.1
                      have HSH3 : Hid (∀ x ∈ L3, shortP x = true) := hsh3.2
                      clear hsh3 hSB3 hbw3
                      go_wp2_with fail
                      refine cS3.mono ?_
                      rintro e w5 ⟨rfl, hw5⟩
                      obtain rfl : wr = w5 := hw5.symm
                      clear cS3 hc3r
                      go_wp2_with fail
                      go_loopw [13] (fun kv wr => ∃ k : Nat, kv = .int .i64 (k : Int) ∧ k ≤ len3 ∧ Hid (VFo w2 H vb (40 + 40 * i3 + k) wr (.slice vo4 m4 c4))) (fun kv _ => len3 - (intOf kv).toNat)
                      case atStart => exact ⟨0, rfl, Nat.zero_le _, HV.out⟩
                      case round =>
                        obtain ⟨k, rfl, hk, HW⟩ := hrel
                        clear HV
                        obtain ⟨n, l, S, sv, hst, hn, hri, hsee, hbd, hfl⟩ := id HW.out
                        have hc3r := (hst.below.cell (p := ⟨pb3, _, none⟩) hpb3).trans HP3.out.2.2
                        by_cases hlt4 : k < len3
                        · as_aux_lemma =>
                            have hkl : k < L3.length := by rw [HP3.out.2.1]; exact hlt4
                            obtain ⟨x, hx⟩ : ∃ x, L3[k] = x := ⟨_, rfl⟩
                            have hxs : shortP x = true := HSH3.out x (hx ▸ List.getElem_mem hkl)
                            obtain ⟨pb, po, rfl, hat⟩ : ∃ b o, a3 = some ⟨b, o, none⟩ ∧ ∀ (j : Nat) x, L3[j]? = some x → PsAt w2 b (o + j * 5) x := by
                              obtain ⟨a', c', e, h1⟩ := HP3.out.1
                              injection e with e _ _
                              subst e
                              rcases h1 with h1 | h1
                              · rw [h1] at hkl; simp at hkl
                              · exact h1
                            obtain ⟨s0, s1, s2, ⟨fv, s3, s3f⟩, s4⟩ := (hat k x (by rw [List.getElem?_eq_getElem hkl, hx])).below hst.below (by rw [HH.out.1]; exact Nat.le_refl _)
                            have hsy : SysAt wr := HP2.out.2.2.2.below hst.below (by have := HH.out.2; omega)
                            have cPo := post_is H n l x fv wr hst.box hst.inv (by have := binv_len hst.inv; omega) (by omega) s3f hxs hsy
                            obtain ⟨fa, fc, rfl, _⟩ := id s3f
                            obtain ⟨FL, hFL⟩ : ∃ k, x.flags.length = k := ⟨_, rfl⟩
                            rw [hFL] at s3 cPo
                            obtain ⟨WH, hWH⟩ : ∃ z, x.what = z := ⟨_, rfl⟩
                            obtain ⟨UI, hUI⟩ : ∃ z, x.uid = z := ⟨_, rfl⟩
                            obtain ⟨NN, hNN⟩ : ∃ z, x.n = z := ⟨_, rfl⟩
                            obtain ⟨TX, hTX⟩ : ∃ z, x.text = z := ⟨_, rfl⟩
                            rw [hWH, hUI, hNN, hTX] at cPo
                            rw [hWH] at s0
                            rw [hUI] at s1
                            rw [hNN] at s2
                            rw [hTX] at s4
                            have HQ4 : Hid (VSt w2 H vb n l S (S.map Sg.flags) wr sv (.slice vo4 m4 c4) ∧ n ≤ 1 + (40 + 40 * i3 + k : Nat) ∧ RiseS S ∧ Seen l S ∧ (∀ s ∈ S, 1 ≤ s.uid ∧ s.uid < n) ∧ ∀ s ∈ S, s.flags.length ≤ 12) := ⟨hst, hn, hri, hsee, hbd, hfl⟩
                            clear hx hxs hat s3f hsy hFL hWH hUI hNN hTX hst hn hri hsee hbd hfl hkl HW
                            go_wp2_with fail
                            refine cPo.mono ?_
                            clear cPo
                            rintro e w6 ⟨ev, n', l', rfl, _, hstp, hb6, hbut⟩
                            have HNX : Hid (VFo w2 H vb (40 + 40 * i3 + (k + 1)) w6 (.slice vo4 m4 c4)) := by
                              have hq := HQ4.out
                              exact ⟨n', l', S, sv, hq.1.deed hb6 hstp.inv hbut, by have := hstp.up.2; have := hq.2.1; omega, hq.2.2.1, seen_step hq.2.2.2.1 (fun s hs => (hq.2.2.2.2.1 s hs).2) hstp, fun s hs => ⟨(hq.2.2.2.2.1 s hs).1, by have := (hq.2.2.2.2.1 s hs).2; have := hstp.up.1; omega⟩, hq.2.2.2.2.2⟩
                            clear hstp hb6 hbut HQ4 s0 s1 s2 s3 s4 hc3r
                            go_wp2_with fail
                            go_roundw
                            case rel => exact ⟨k + 1, by go_num, by omega, HNX.out⟩
                            case measure => simp [intOf]; omega
                        · as_aux_lemma =>
                            obtain rfl : k = len3 := by omega
                            have HW2 : Hid (VFo w2 H vb (40 + 40 * (i3 + 1)) wr (.slice vo4 m4 c4)) := ⟨n, l, S, sv, hst, by omega, hri, hsee, hbd, hfl⟩
                            clear hst hn hri hsee hbd hfl HW
                            obtain ⟨ALL, hALL⟩ : ∃ b, (decide (len2 ≤ i3) || (G[i3]?).getD true) = b := ⟨_, rfl⟩
                            have HALL : Hid ((decide (len2 ≤ i3) || (G[i3]?).getD true) = ALL) := hALL
                            clear hALL
                            go_upto_region 25 with fail
                            clear hc3r
                            go_cut [14] (fun bv wx => bv = .bool ALL ∧ wx = wr)
                            case first =>
                              by_cases hge : len2 ≤ i3
                              · have dge : decide ((len2 : Int) ≤ (i3 : Int)) = true := decide_eq_true (by omega)
                                have hA : ALL = true := by rw [← HALL.out, decide_eq_true hge]; rfl
                                subst hA
                                go_wp2_with fail
                                go_meet
                                case rel => exact ⟨rfl, rfl⟩
                              · have dge : decide ((len2 : Int) ≤ (i3 : Int)) = false := decide_eq_false (by omega)
                                have hkg : i3 < G.length := by rw [HL2.out]; omega
                                obtain ⟨gb, go, rfl, hatg⟩ : ∃ b o, a2 = some ⟨b, o, none⟩ ∧ ∀ (j : Nat) x, G[j]? = some x → w2.cell? ⟨b, o + j, none⟩ = some (.bool x) := by
                                  obtain ⟨a', c', e, h1⟩ := HP2.out.2.2.1
                                  injection e with e _ _
                                  subst e
                                  rcases h1 with h1 | h1
                                  · rw [h1] at hkg; simp at hkg
                                  · exact h1
                                have hg0 := hatg i3 G[i3] (List.getElem?_eq_getElem hkg)
                                have hA : G[i3] = ALL := by rw [← HALL.out, decide_eq_false hge, List.getElem?_eq_getElem hkg]; rfl
                                rw [hA] at hg0
                                have hgbl : gb < H := by have := World.block_lt_of_cell? _ _ hg0; have := HH.out.1; show gb < H; rw [← this]; assumption
                                have hg1 : wr.cell? ⟨gb, go + i3, none⟩ = some (.bool ALL) := by
                                  obtain ⟨n, l, S, sv, hst, _⟩ := HW2.out
                                  exact (hst.below.cell (p := ⟨gb, _, none⟩) hgbl).trans hg0
                                clear hatg hg0 hA
                                go_wp2_with fail
                                go_meet
                                case rel => exact ⟨rfl, rfl⟩
                            case rest =>
                              obtain ⟨rfl, hwc⟩ := hcut
                              obtain rfl : wr = wc := hwc.symm
                              obtain ⟨n, l, S, sv, hst, hn, hri, hsee, hbd, hfl⟩ := id HW2.out
                              obtain ⟨lv, y1, y2⟩ := id hst.box
                              obtain ⟨la3, lc3, rfl, _, hrest⟩ := id y2
                              obtain ⟨ml3, hml⟩ : ∃ k, l.length = k := ⟨_, rfl⟩
                              rw [hml] at y1 y2
                              have hin := hst.inv
                              have hll := binv_len hin
                              have hsl := sgs_len hri hbd hin.next
                              have x0 : wr.cell? ⟨H, 0, none⟩ = some (.int .i64 1) := rd_cell y1 rfl
                              have x1 : wr.cell? ⟨H, 1, none⟩ = some (.int .i64 n) := rd_cell y1 rfl
                              have x2 : wr.cell? ⟨H, 2, none⟩ = some (.slice la3 ml3 lc3) := rd_cell y1 rfl
                              have cL := look_is vb sv S 1 n (.slice la3 ml3 lc3) l ALL wr hst.view y2 hin.rise (by omega) (fun x hx => by have := (hin.ok x hx).1.2.2; omega) (fun x hx => by have := hfl x hx; omega)
                              have HQ5 : Hid (VSt w2 H vb n l S (S.map Sg.flags) wr sv (.slice vo4 m4 c4) ∧ n ≤ 1 + (40 + 40 * (i3 + 1) : Nat) ∧ RiseS S ∧ Seen l S ∧ (∀ s ∈ S, 1 ≤ s.uid ∧ s.uid < n) ∧ (∀ s ∈ S, s.flags.length ≤ 12) ∧ l.length = ml3) := ⟨hst, hn, hri, hsee, hbd, hfl, hml⟩
                              clear hst hn hri hsee hbd hfl y1 y2 hrest hml hin HW2 HALL
                              go_wp2_with fail
                              refine cL.mono ?_
                              clear cL
                              rintro e w6 ⟨nv, rfl, hnw, hvn, hno⟩
                              clear x0 x1 x2
                              have hst6 := HQ5.out.1.look hvn
                              obtain ⟨sv7, hst6⟩ := hst6
                              obtain ⟨N6, hN6⟩ : ∃ N, lookN S l ALL = N := ⟨_, rfl⟩
                              obtain ⟨S6, hS6⟩ : ∃ N, lookS S l ALL = N := ⟨_, rfl⟩
                              obtain ⟨M, hM⟩ : ∃ N, (lookS2 S l ALL).map Sg.flags = N := ⟨_, rfl⟩
                              obtain ⟨na, nc, rfl⟩ := nws_form hnw
                              obtain ⟨nlen, hnlen⟩ : ∃ k, N6.length = k := ⟨_, rfl⟩
                              rw [hN6, hnlen] at hnw hno ⊢
                              rw [hS6] at hst6
                              have hfl := fold_look (S := S) (l := l) (g := ALL)
                              rw [hN6, hS6, hM] at hfl
                              have HFD : Hid (N6.foldl (stepT M) (S.map Sg.flags) = S6.map Sg.flags ∧ validAll M (lookS1 S l ALL).length ALL (S.map Sg.flags) N6) := hfl
                              have hM2 : M.length = S6.length := by rw [← hM, ← hS6, List.length_map]; unfold lookS; rw [List.length_map]
                              have HQ6 : Hid (N6.length = nlen ∧ lookS S l ALL = S6 ∧ (lookS2 S l ALL).map Sg.flags = M ∧ M.length = S6.length ∧ n ≤ 1 + (40 + 40 * (i3 + 1) : Nat) ∧ RiseS S ∧ Seen l S ∧ (∀ s ∈ S, 1 ≤ s.uid ∧ s.uid < n) ∧ (∀ s ∈ S, s.flags.length ≤ 12) ∧ l.length = ml3 ∧ RiseS S6 ∧ (∀ s ∈ S6, 1 ≤ s.uid ∧ s.uid < n) ∧ ∀ s ∈ S6, s.flags.length ≤ 12) := by
                                have hq := HQ5.out
                                have hin := hq.1.inv
                                exact ⟨hnlen, hS6, hM, hM2, hq.2.1, hq.2.2.1, hq.2.2.2.1, hq.2.2.2.2.1, hq.2.2.2.2.2.1, hq.2.2.2.2.2.2, hS6 ▸ look_rise hq.2.2.1 hin.rise, hS6 ▸ look_below hq.2.2.2.2.1 hin, hS6 ▸ look_flags hq.2.2.2.2.2.1 hin⟩
                              have hnl : nlen ≤ 2000 := by
                                have h1 := lookN1_le S l ALL
                                have h2 := learnN_le l 0 (lookS2 S l ALL)
                                have h3 : (lookN2 S l ALL).length ≤ (lookN1 S l ALL).length + 1 := by
                                  unfold lookN2
                                  rw [List.length_append]
                                  split <;> simp
                                have h4 : (lookS2 S l ALL).length ≤ S.length + l.length := by
                                  unfold lookS2
                                  rw [List.length_append]
                                  have h5 := lookS1_le S l ALL
                                  have h6 := newS_le (lastS (lookS1 S l ALL)) l
                                  omega
                                have h7 : nlen = (lookN2 S l ALL).length + (learnN l 0 (lookS2 S l ALL)).length := by rw [← hnlen, ← hN6]; unfold lookN; rw [List.length_append]
                                have h8 := HQ5.out.2.2.2.2.2.2
                                have h9 := HQ5.out.2.1
                                omega
                              have HS6 : Hid (VNw w2 H vb n l S6 (S.map Sg.flags) w6 sv7 (.slice vo4 m4 c4) (.slice na nlen nc) N6) := ⟨hst6, hnw⟩
                              have hm4 : m4 = (S.map Sg.flags).length := by
                                obtain ⟨a', c', e⟩ := tds_form HQ5.out.1.td
                                injection e with _ e _
                              have HM4 : Hid (m4 = (S.map Sg.flags).length) := hm4
                              clear hnw hvn hno hst6 hfl hN6 hS6 hM hnlen hM2 HQ5 hm4 hll hsl
                              go_wp2_with fail
                              go_loopw [10, 16] (fun tv kv wr => ∃ (k : Nat) (vo : Option Addr) (m5 c5 : Nat), kv = .int .i64 (k : Int) ∧ k ≤ nlen ∧ tv = .slice vo m5 c5 ∧ Hid (m5 = ((N6.take k).foldl (stepT M) (S.map Sg.flags)).length ∧ VNw w2 H vb n l S6 ((N6.take k).foldl (stepT M) (S.map Sg.flags)) wr sv7 (.slice vo m5 c5) (.slice na nlen nc) N6)) (fun _ kv _ => nlen - (intOf kv).toNat)
                              case atStart => exact ⟨0, vo4, m4, c4, rfl, Nat.zero_le _, rfl, HM4.out, HS6.out⟩
                              case round =>
                                obtain ⟨k, vo5, m5, c5, rfl, hk5, rfl, HI⟩ := hrel
                                clear HS6 HM4
                                by_cases hlt5 : k < nlen
                                · as_aux_lemma =>
                                    obtain ⟨hm5, hst5, hnw5⟩ := id HI.out
                                    have hkl5 : k < N6.length := by rw [HQ6.out.1]; exact hlt5
                                    obtain ⟨x, hx⟩ : ∃ x, N6[k] = x := ⟨_, rfl⟩
                                    have hxk : N6[k]? = some x := by rw [List.getElem?_eq_getElem hkl5, hx]
                                    have hval := validAll_at HFD.out.2 hxk
                                    have hnext := fold_next (M := M) (T := S.map Sg.flags) hxk
                                    obtain ⟨T5, hT5⟩ : ∃ T, (N6.take k).foldl (stepT M) (S.map Sg.flags) = T := ⟨_, rfl⟩
                                    rw [hT5] at hm5 hst5 hval hnext
                                    obtain ⟨ng, ngc, nf, hnf, hngl, n0, n1, n2, hnsl⟩ := nws_at hnw5 hxk
                                    rw [HQ6.out.1] at hnf
                                    injection hnf with hnf _ hnf2
                                    subst hnf
                                    subst hnf2
                                    obtain ⟨fa, fc, rfl, _⟩ := id hnsl
                                    obtain ⟨FL, hFL⟩ : ∃ k, x.flags.length = k := ⟨_, rfl⟩
                                    rw [hFL] at n2 hnsl
                                    obtain ⟨XK, hXK⟩ : ∃ k, x.kind = k := ⟨_, rfl⟩
                                    rw [hXK] at n0
                                    have hT5b : T5.length ≤ 900 := by
                                      rw [← hT5]
                                      have hq6 := HQ6.out
                                      have h1 := sgs_len hq6.2.2.2.2.2.1 hq6.2.2.2.2.2.2.2.1 hst5.inv.next
                                      have h2 := sgs_len hq6.2.2.2.2.2.2.2.2.2.2.1 hq6.2.2.2.2.2.2.2.2.2.2.2.1 hst5.inv.next
                                      exact fold_len _ _ 900 (by rw [List.length_map]; omega) (by rw [hq6.2.2.2.1]; omega)
                                    rw [← hm5] at hT5b
                                    obtain ⟨XI, hXI⟩ : ∃ k, x.n = k := ⟨_, rfl⟩
                                    have hXI2 : 1 ≤ XI ∧ XI ≤ 2000 := by
                                      rcases hval with ⟨_, _, g1, g2⟩ | ⟨_, g1, g2, _⟩ | ⟨_, g1, g2⟩
                                      · omega
                                      · have h3 := HQ6.out.2.2.2.1
                                        have h4 := sgs_len HQ6.out.2.2.2.2.2.2.2.2.2.2.1 HQ6.out.2.2.2.2.2.2.2.2.2.2.2.1 hst5.inv.next
                                        have h5 := HQ6.out.2.2.2.2.1
                                        omega
                                      · omega
                                    obtain ⟨XN, rfl⟩ : ∃ N : Nat, XI = (N : Int) := ⟨XI.toNat, by omega⟩
                                    rw [hXI] at n1
                                    have HVL : Hid (validT M (lookS1 S l ALL).length ALL T5 x ∧ x.n = (XN : Int) ∧ x.kind = XK) := ⟨hval, hXI, hXK⟩
                                    have HNT : Hid ((N6.take (k + 1)).foldl (stepT M) (S.map Sg.flags) = stepT M T5 x) := hnext
                                    have HS5 : Hid (m5 = T5.length ∧ VSt w2 H vb n l S6 T5 wr sv7 (.slice vo5 m5 c5) ∧ Nws wr (.slice (some ⟨ng, 0, none⟩) nlen nc) N6 ∧ Sl wr (.slice fa FL fc) x.flags) := ⟨hm5, hst5, hnw5, hnsl⟩
                                    have bA : Below wr.heap.size wr (wr.alloc (.cells #[.int .i64 XK, .int .i64 (XN : Int), .slice fa FL fc] 52)) := (Below.refl _ _).alloc (Nat.le_refl _) _
                                    have eA := heap_alloc_new wr (.cells #[.int .i64 XK, .int .i64 (XN : Int), .slice fa FL fc] 52)
                                    have HA : Hid (Below wr.heap.size wr (wr.alloc (.cells #[.int .i64 XK, .int .i64 (XN : Int), .slice fa FL fc] 52)) ∧ (wr.alloc (.cells #[.int .i64 XK, .int .i64 (XN : Int), .slice fa FL fc] 52)).heap[wr.heap.size]? = some (.cells #[.int .i64 XK, .int .i64 (XN : Int), .slice fa FL fc] 52 (0, 0))) := ⟨bA, eA⟩
                                    have hXN1 : 1 ≤ XN := by omega
                                    clear hXI2 hx hxk hkl5 hm5 hst5 hnw5 hnext hnsl hFL hXK hXI bA eA HI hT5
                                    rcases hval with ⟨h1, hA1, hn1, hn2⟩ | ⟨h1, hn1, hn2, hn3⟩ | ⟨h1, hn1, hn2⟩
                                    · as_aux_lemma =>
                                        obtain rfl : XK = 1 := by have := HVL.out.2.2; omega
                                        obtain rfl : ALL = true := hA1
                                        have hle : XN ≤ m5 := by have := HVL.out.2.1; have := HS5.out.1; omega
                                        obtain ⟨kk, rfl⟩ : ∃ kk, XN = kk + 1 := ⟨XN - 1, by omega⟩
                                        rw [show ((kk + 1 : Nat) : Int) = (kk : Int) + 1 by omega] at n1 HA
                                        have d1 : decide ((kk : Int) + 1 < 1) = false := decide_eq_false (by omega)
                                        have d2 : decide ((m5 : Int) < (kk : Int) + 1) = false := decide_eq_false (by omega)
                                        have d3 : ¬ m5 < kk + 1 := by omega
                                        have d4 : ¬ (m5 : Int) < (kk : Int) + 1 := by omega
                                        have hs6 := HS5.out.2.1.same HA.out.1
                                        obtain ⟨F, hF⟩ : ∃ F, T5[kk]? = some F := ⟨T5[kk]'(by have := HS5.out.1; omega), List.getElem?_eq_getElem _⟩
                                        obtain ⟨tg, tc, ft0, htf, htgl, _, _, _⟩ := tds_at hs6.td hF
                                        rw [← HS5.out.1] at htf
                                        injection htf with htf _ htf2
                                        subst htf
                                        subst htf2
                                        have HS6 : Hid (VSt w2 H vb n l S6 T5 (wr.alloc (.cells #[.int .i64 1, .int .i64 ((kk : Int) + 1), .slice fa FL fc] 52)) sv7 (.slice (some ⟨tg, 0, none⟩) m5 c5) ∧ Nws (wr.alloc (.cells #[.int .i64 1, .int .i64 ((kk : Int) + 1), .slice fa FL fc] 52)) (.slice (some ⟨ng, 0, none⟩) nlen nc) N6) := ⟨hs6, HS5.out.2.2.1.below HA.out.1⟩
                                        have hcap : m5 ≤ c5 := by
                                          obtain ⟨rows, q1, _⟩ := hs6.td
                                          rcases q1.2 with ⟨q2, _⟩ | ⟨_, _, _, q2, _, _, q3, _⟩
                                          · cases q2
                                          · injection q2 with _ _ q2; rw [HS5.out.1]; subst q2; exact q3
                                        clear hs6 hF h1 hn1 hn2 htgl
                                        go_upto_region 35 with fail
                                        obtain ⟨NB, hNB⟩ : ∃ B, wr.heap.size = B := ⟨_, rfl⟩
                                        obtain ⟨WA, hWA⟩ : ∃ W, wr.alloc (.cells #[.int .i64 1, .int .i64 ((kk : Int) + 1), .slice fa FL fc] 52) = W := ⟨_, rfl⟩
                                        rw [hWA] at HA HS6 ⊢
                                        rw [hNB] at HA ⊢
                                        have a1 : WA.cell? ⟨NB, 1, none⟩ = some (.int .i64 ((kk : Int) + 1)) := rd_cell HA.out.2 rfl
                                        have hNBl : NB < WA.heap.size := (Array.getElem?_eq_some_iff.1 HA.out.2).1
                                        have htd : Tds WA.drew (.slice (some ⟨tg, 0, none⟩) T5.length c5) T5 := by rw [← HS5.out.1]; exact HS6.out.1.td.below (Below.refl _ _).drew
                                        have hT5l := HS5.out.1
                                        obtain ⟨AD, hAD⟩ : ∃ AD : Addr, (if c5 = kk + 1 then (some ⟨tg, 0, none⟩ : Option Addr) else some ⟨tg, kk + 1, none⟩) = some AD := by split <;> exact ⟨_, rfl⟩
                                        obtain ⟨v1, W1, v2, W2, hrun1, hrun2, ht2, hbl1, hbl2, hnew⟩ := tds_erase (w := WA.drew) (k := kk) htd (by omega) (by omega) AD (c5 - (kk + 1)) (fun h => by rw [if_neg (by omega)] at hAD; exact (Option.some.inj hAD).symm)
                                        rw [← hT5l] at hrun2
                                        have hrd0 : (WA.drew.alloc (.cells #[] 34)).cell? ⟨NB, 1, none⟩ = some (.int .i64 ((kk : Int) + 1)) := (((Below.refl WA.heap.size WA).drew.alloc (Nat.le_refl _) (.cells #[] 34)).cell (p := ⟨NB, 1, none⟩) hNBl).trans a1
                                        have hrd1 : W1.cell? ⟨NB, 1, none⟩ = some (.int .i64 ((kk : Int) + 1)) := (hbl1.cell (p := ⟨NB, 1, none⟩) hNBl).trans a1
                                        have hrd2 : W2.cell? ⟨NB, 1, none⟩ = some (.int .i64 ((kk : Int) + 1)) := (hbl2.cell (p := ⟨NB, 1, none⟩) hNBl).trans a1
                                        obtain ⟨v2a, v2c, rfl⟩ := tds_form ht2
                                        obtain ⟨m7, hm7⟩ : ∃ k, (T5.eraseIdx kk).length = k := ⟨_, rfl⟩
                                        rw [hm7] at hrun2 ht2 hnew
                                        have HNX : Hid (m7 = ((N6.take (k + 1)).foldl (stepT M) (S.map Sg.flags)).length ∧ VNw w2 H vb n l S6 ((N6.take (k + 1)).foldl (stepT M) (S.map Sg.flags)) W2 sv7 (.slice v2a m7 v2c) (.slice (some ⟨ng, 0, none⟩) nlen nc) N6) := by
                                          have hst : stepT M T5 x = T5.eraseIdx kk := by
                                            unfold stepT
                                            rw [HVL.out.2.2, if_pos rfl, HVL.out.2.1, show (((kk + 1 : Nat) : Int) - 1).toNat = kk by omega]
                                          have hbw : Below WA.heap.size WA W2 := (Below.refl _ _).drew.trans (by simpa using hbl2)
                                          show _ ∧ _
                                          rw [HNT.out, hst]
                                          exact ⟨hm7.symm, HS6.out.1.told ht2 (VKeep.of hbw) (fun q hq => Or.inr (by have := hnew q hq; simpa using this)), HS6.out.2.below hbw⟩
                                        have hwr : IntKind.i64.wrap (kk : Int) = (kk : Int) := by rw [IntKind.wrap_i64]; omega
                                        have hk1 : (0 : Int) ≤ (kk : Int) ∧ (kk : Int) ≤ (c5 : Int) := by omega
                                        have hb1 : (0 : Int) ≤ (kk : Int) + 1 := by omega
                                        have hb2 : (kk : Int) + 1 ≤ (m5 : Int) := by omega
                                        have hk2 : kk ≤ c5 ∧ kk + 1 ≤ c5 := by omega
                                        clear ht2 hbl1 hbl2 hnew htd hT5l hWA hNB hm7 HS6 HA n0 n1 n2
                                        refine wp_region_held_drew (S := fun W => W.cell? ⟨NB, 1, none⟩ = some (.int .i64 ((kk : Int) + 1))) (by kernel_rfl) ?_ (fun hHeld => ?_)
                                        · first | (show _ = _; simpa using a1) | exact hHeld
                                        refine wpAnyH_take (i := 1) (v := ?_) rfl (by kernel_rfl) (by kernel_rfl) (by kernel_rfl) (fun _ _ _ h => h) (Or.inl ⟨by rfl, ?_⟩) (by assumption) ?_
                                        rotate_left
                                        · intro w hSw; go_simp; (try with_reducible rfl)
                                        change wpAnyH _ _ _ _ _ _ _ (Act.put _ (some 142) _) _; simp only [Act.put, List.setIfInBounds_toArray, List.set_cons_zero, List.set_cons_succ]
                                        refine wpAnyH_take (i := 2) (v := ?_) rfl (by kernel_rfl) (by kernel_rfl) (by kernel_rfl) (fun _ _ _ h => h) (Or.inl ⟨by rfl, ?_⟩) (by assumption) ?_
                                        rotate_left
                                        · intro w hSw; go_simp; (try with_reducible rfl)
                                        change wpAnyH _ _ _ _ _ _ _ (Act.put _ (some 143) _) _; simp only [Act.put, List.setIfInBounds_toArray, List.set_cons_zero, List.set_cons_succ]
                                        refine wpAnyH_take (i := 3) (v := ?_) rfl (by kernel_rfl) (by kernel_rfl) (by kernel_rfl) (fun _ _ _ h => h) (Or.inl ⟨by rfl, ?_⟩) (by assumption) ?_
                                        rotate_left
                                        · intro w hSw; go_simp; (try with_reducible rfl)
                                        change wpAnyH _ _ _ _ _ _ _ (Act.put _ (some 144) _) _; simp only [Act.put, List.setIfInBounds_toArray, List.set_cons_zero, List.set_cons_succ]
                                        refine wpAnyH_take (i := 4) (v := ?_) rfl (by kernel_rfl) (by kernel_rfl) (by kernel_rfl) (fun _ _ _ h => h) (Or.inl ⟨by rfl, ?_⟩) (by assumption) ?_
                                        rotate_left
                                        · intro w hSw; go_simp; (try with_reducible rfl)
                                        change wpAnyH _ _ _ _ _ _ _ (Act.put _ (some 145) _) _; simp only [Act.put, List.setIfInBounds_toArray, List.set_cons_zero, List.set_cons_succ]
                                        refine wpAnyH_take (i := 5) (v := ?_) rfl (by kernel_rfl) (by kernel_rfl) (by kernel_rfl) (fun _ _ _ h => h) (Or.inl ⟨by rfl, ?_⟩) (by assumption) ?_
                                        rotate_left
                                        · intro w hSw; go_simp; (try with_reducible rfl)
                                        change wpAnyH _ _ _ _ _ _ _ (Act.put _ (some 146) _) _; simp only [Act.put, List.setIfInBounds_toArray, List.set_cons_zero, List.set_cons_succ]
                                        refine wpAnyH_take (i := 7) (v := ?_) rfl (by kernel_rfl) (by kernel_rfl) (by kernel_rfl) (fun _ _ _ h => h) (Or.inl ⟨by rfl, ?_⟩) (by assumption) ?_
                                        rotate_left
                                        · intro w hSw; go_simp; (try with_reducible rfl)
                                        change wpAnyH _ _ _ _ _ _ _ (Act.put _ (some 148) _) _; simp only [Act.put, List.setIfInBounds_toArray, List.set_cons_zero, List.set_cons_succ]
                                        refine wpAnyH_take (i := 8) (v := ?_) rfl (by kernel_rfl) (by kernel_rfl) (by kernel_rfl) (fun _ _ _ h => h) (Or.inl ⟨by rfl, ?_⟩) (by assumption) ?_
                                        rotate_left
                                        · intro w hSw; go_simp; (try with_reducible rfl)
                                        change wpAnyH _ _ _ _ _ _ _ (Act.put _ (some 149) _) _; simp only [Act.put, List.setIfInBounds_toArray, List.set_cons_zero, List.set_cons_succ]
                                        refine wpAnyH_take (i := 9) (v := ?_) rfl (by kernel_rfl) (by kernel_rfl) (by kernel_rfl) (fun _ _ _ h => h) (Or.inl ⟨by rfl, ?_⟩) (by assumption) ?_
                                        rotate_left
                                        · intro w hSw; go_simp; (try with_reducible rfl)
                                        change wpAnyH _ _ _ _ _ _ _ (Act.put _ (some 150) _) _; simp only [Act.put, List.setIfInBounds_toArray, List.set_cons_zero, List.set_cons_succ]
                                        refine wpAnyH_take (i := 10) (v := ?_) rfl (by kernel_rfl) (by kernel_rfl) (by kernel_rfl) (fun _ _ _ h => h) (Or.inl ⟨by rfl, ?_⟩) (by assumption) ?_
                                        rotate_left
                                        · intro w hSw; go_simp; (try with_reducible rfl)
                                        change wpAnyH _ _ _ _ _ _ _ (Act.put _ (some 151) _) _; simp only [Act.put, List.setIfInBounds_toArray, List.set_cons_zero, List.set_cons_succ]
                                        refine wpAnyH_ready (rs := [0]) (by kernel_rfl) (by simp) ?_
                                        refine AllReadyH.cons rfl (fun K hK => ?_) AllReadyH.nil
                                        go_simp
                                        refine hK.out _ _ ?_ (fun hHeld => ?_)
                                        · (show _ = _; exact hrd0)
                                        clear hK K
                                        refine wpAnyH_ready (rs := [6]) (by kernel_rfl) (by simp) ?_
                                        refine AllReadyH.cons rfl (fun K hK => ?_) AllReadyH.nil
                                        refine step_app rfl (.tmp 141) (.tmp 146) 48 rfl _ _ _ rfl rfl hrun1 ?_
                                        refine hK.out _ _ ?_ (fun hHeld => ?_)
                                        · exact hrd1
                                        clear hK K
                                        refine wpAnyH_ready (rs := [11]) (by kernel_rfl) (by simp) ?_
                                        refine AllReadyH.cons rfl (fun K hK => ?_) AllReadyH.nil
                                        refine step_app rfl (.tmp 147) (.tmp 151) 48 rfl _ _ _ rfl rfl hrun2 ?_
                                        refine hK.out _ _ ?_ (fun hHeld => ?_)
                                        · exact hrd2
                                        clear hK K
                                        refine wpAnyH_take (i := 12) (v := ?_) rfl (by kernel_rfl) (by kernel_rfl) (by kernel_rfl) (fun _ _ _ h => h) (Or.inl ⟨by rfl, ?_⟩) (by assumption) ?_
                                        rotate_left
                                        · intro w hSw; go_simp; (try with_reducible rfl)
                                        refine wpAnyH_done (by kernel_rfl) ?_ _
                                        go_wp2_with fail
                                        go_roundw
                                        case rel => exact ⟨k + 1, _, _, _, by go_num, by omega, rfl, HNX.out⟩
                                        case measure => simp [intOf]; omega
                                    · as_aux_lemma =>
                                        obtain rfl : XK = 2 := by have := HVL.out.2.2; omega
                                        have hq6 := HQ6.out
                                        have hs6 := HS5.out.2.1.same HA.out.1
                                        have hxm : XN = M.length := by have := HVL.out.2.1; omega
                                        have hgt : m5 < XN := by have := HVL.out.2.1; have := HS5.out.1; omega
                                        have d1 : decide ((XN : Int) ≤ (m5 : Int)) = false := decide_eq_false (by omega)
                                        have d2 : ¬ XN ≤ m5 := by omega
                                        have hXb : XN ≤ 900 := by
                                          have h2 := sgs_len hq6.2.2.2.2.2.2.2.2.2.2.1 hq6.2.2.2.2.2.2.2.2.2.2.2.1 hs6.inv.next
                                          have h3 := hq6.2.2.2.1
                                          have h4 := hq6.2.2.2.2.1
                                          omega
                                        have cU := view_uids vb sv7 S6 (wr.alloc (.cells #[.int .i64 2, .int .i64 (XN : Int), .slice fa FL fc] 52)) hs6.view (by have := hq6.2.2.2.1; omega)
                                        obtain ⟨NB, hNB⟩ : ∃ B, wr.heap.size = B := ⟨_, rfl⟩
                                        have HX : Hid (XN = M.length ∧ T5.length = (lookS1 S l ALL).length ∧ M.length = S6.length ∧ m5 = T5.length ∧ VSt w2 H vb n l S6 T5 (wr.alloc (.cells #[.int .i64 2, .int .i64 (XN : Int), .slice fa FL fc] 52)) sv7 (.slice vo5 m5 c5) ∧ Nws (wr.alloc (.cells #[.int .i64 2, .int .i64 (XN : Int), .slice fa FL fc] 52)) (.slice (some ⟨ng, 0, none⟩) nlen nc) N6 ∧ wr.heap.size = NB) := ⟨hxm, hn3, hq6.2.2.2.1, HS5.out.1, hs6, HS5.out.2.2.1.below HA.out.1, hNB⟩
                                        clear hq6 hs6 hxm h1 hn1 hn2 hn3
                                        go_wp2_with fail
                                        refine cU.mono ?_
                                        clear cU
                                        rintro e w7 ⟨uv, rfl, hu7, hb7⟩
                                        obtain ⟨ua, uc, rfl⟩ := nown_form hu7
                                        obtain ⟨ul, hul⟩ : ∃ k, (S6.map Sg.uid).length = k := ⟨_, rfl⟩
                                        rw [hul] at hu7 ⊢
                                        have hulX : ul = XN := by rw [← hul, List.length_map, HX.out.1, HX.out.2.2.1]
                                        subst hulX
                                        have HM0 : Hid (ManyIn w2 H vb n l S6 T5 M w7 sv7 (.slice vo5 m5 c5) (.slice (some ⟨ng, 0, none⟩) nlen nc) N6 (.slice ua ul uc) NB fa FL fc ul m5) := by
                                          have hx := HX.out
                                          refine ⟨?_, hx.2.2.2.2.2.1.below hb7, ⟨_, hu7⟩, ?_⟩
                                          · rw [show m5 - T5.length = 0 by omega, List.take_zero, List.append_nil]
                                            exact hx.2.2.2.2.1.same hb7
                                          · refine (hb7.block NB (by rw [World.size_alloc]; omega)).trans ?_
                                            rw [← hNB]
                                            exact HA.out.2
                                        have HUE : Hid ((S6.map Sg.uid).length = ul) := hul
                                        clear hu7 hb7 hul hNB HA d1 d2 n0 n1 n2
                                        go_wp2_with fail
                                        go_loopw [10] (fun tv wr => ∃ (vo : Option Addr) (m6 c6 : Nat), tv = .slice vo m6 c6 ∧ m5 ≤ m6 ∧ m6 ≤ ul ∧ Hid (ManyIn w2 H vb n l S6 T5 M wr sv7 (.slice vo m6 c6) (.slice (some ⟨ng, 0, none⟩) nlen nc) N6 (.slice ua ul uc) NB fa FL fc ul m6)) (fun tv _ => ul - lenV tv)
                                        case atStart => exact ⟨vo5, m5, c5, rfl, Nat.le_refl _, by omega, HM0.out⟩
                                        case round =>
                                          obtain ⟨vo6, m6, c6, rfl, hm6a, hm6b, HI6⟩ := hrel
                                          clear HM0
                                          obtain ⟨hs7, hn7, ⟨base7, hu7⟩, hNBb⟩ := id HI6.out
                                          have r1 : wr.cell? ⟨NB, 1, none⟩ = some (.int .i64 (ul : Int)) := rd_cell hNBb rfl
                                          by_cases hlt6 : m6 < ul
                                          · have hd6 : decide ((m6 : Int) < (ul : Int)) = true := decide_eq_true (by omega)
                                            obtain ⟨y, hy, huy, hmy⟩ := look_new (S := S) (l := l) (g := ALL) (m := m6) (by have := HX.out; omega) (by
                                              have h1 := HX.out.1
                                              have h2 : M.length = (lookS2 S l ALL).length := by rw [← HQ6.out.2.2.1, List.length_map]
                                              omega)
                                            rw [HQ6.out.2.1] at huy
                                            rw [HQ6.out.2.2.1] at hmy
                                            obtain ⟨ug, ugc, huf, hu0⟩ := nown_at hu7 huy
                                            rw [HUE.out] at huf
                                            injection huf with huf _ huf2
                                            subst huf
                                            subst huf2
                                            obtain ⟨FI, hFIl, hFIe⟩ := List.mem_iff_getElem.1 hy
                                            have hyk : l[FI]? = some y := by rw [List.getElem?_eq_getElem hFIl, hFIe]
                                            have hin7 := hs7.inv
                                            have cF := find_is H 1 n y.uid l wr hs7.box hin7.rise (by have h1 := binv_len hin7; have := HQ6.out.2.2.2.2.1; omega)
                                            have hfo := find_at_own hin7.rise hyk
                                            rw [hfo.1, hfo.2] at cF
                                            obtain ⟨YU, hYU⟩ : ∃ z, y.uid = z := ⟨_, rfl⟩
                                            rw [hYU] at cF hu0
                                            have hFIm : FI < ml3 := by have := HQ6.out.2.2.2.2.2.2.2.2.2.1; omega
                                            have HY : Hid (l[FI]? = some y ∧ M[m6]? = some y.flags) := ⟨hyk, hmy⟩
                                            have HS7 : Hid (VSt w2 H vb n l S6 (T5 ++ (M.drop T5.length).take (m6 - T5.length)) wr sv7 (.slice vo6 m6 c6) ∧ Nws wr (.slice (some ⟨ng, 0, none⟩) nlen nc) N6 ∧ NOwn wr base7 (.slice (some ⟨ug, 0, none⟩) ul uc) (S6.map Sg.uid) ∧ wr.heap[NB]? = some (.cells #[.int .i64 2, .int .i64 (ul : Int), .slice fa FL fc] 52 (0, 0))) := ⟨hs7, hn7, hu7, hNBb⟩
                                            clear hs7 hn7 hu7 hNBb hy huy hmy hFIl hFIe hyk hfo hYU HI6 hin7
                                            go_wp2_with fail
                                            refine cF.mono ?_
                                            clear cF
                                            rintro e w8 ⟨rfl, hb8⟩
                                            have hs8 := HS7.out.1.same hb8
                                            obtain ⟨lv9, y1, y2⟩ := id hs8.box
                                            obtain ⟨la8, lc8, rfl, _, hrest8⟩ := id y2
                                            rw [HQ6.out.2.2.2.2.2.2.2.2.2.1] at y1
                                            have f2 : w8.cell? ⟨H, 2, none⟩ = some (.slice la8 ml3 lc8) := rd_cell y1 rfl
                                            obtain ⟨lb, lo, rfl, hat8⟩ : ∃ b o, la8 = some ⟨b, o, none⟩ ∧ ∀ (j : Nat) x, l[j]? = some x → LtAt w8 b (o + j * 4) x := by
                                              rcases hrest8 with h | h
                                              · have := HY.out.1; rw [h] at this; simp at this
                                              · exact h
                                            obtain ⟨_, ⟨lf8, fy, hsl8⟩, _, _⟩ := hat8 FI y HY.out.1
                                            have hlbl : lb < w8.heap.size := World.block_lt_of_cell? _ _ fy
                                            have htl : (T5 ++ (M.drop T5.length).take (m6 - T5.length)).length = m6 := by
                                              have hx := HX.out
                                              rw [List.length_append, List.length_take, List.length_drop]
                                              omega
                                            have htd : Tds w8 (.slice vo6 (T5 ++ (M.drop T5.length).take (m6 - T5.length)).length c6) (T5 ++ (M.drop T5.length).take (m6 - T5.length)) := by rw [htl]; exact hs8.td
                                            obtain ⟨g9, cap9, W9, hrun, ht9, hk9, hn9⟩ := tds_push htd y.flags lf8 hsl8 (by rw [htl]; omega)
                                            rw [htl] at hrun ht9 hk9 hn9
                                            have HNX : Hid (ManyIn w2 H vb n l S6 T5 M W9 sv7 (.slice (some ⟨g9, 0, none⟩) (m6 + 1) cap9) (.slice (some ⟨ng, 0, none⟩) nlen nc) N6 (.slice (some ⟨ug, 0, none⟩) ul uc) NB fa FL fc ul (m6 + 1)) := by
                                              have hx := HX.out
                                              have hap : T5 ++ (M.drop T5.length).take (m6 + 1 - T5.length) = T5 ++ (M.drop T5.length).take (m6 - T5.length) ++ [y.flags] := by
                                                rw [List.append_assoc, show m6 + 1 - T5.length = m6 - T5.length + 1 by omega, List.take_add_one, List.getElem?_drop, show T5.length + (m6 - T5.length) = m6 by omega, HY.out.2]
                                                rfl
                                              refine ⟨?_, (HS7.out.2.1.below hb8).told hs8.td hk9, ⟨base7, (HS7.out.2.2.1.below hb8).told hs8.td hk9⟩, ?_⟩
                                              · rw [hap]
                                                exact hs8.told ht9 hk9 hn9
                                              · have e8 := (hb8.block NB (Array.getElem?_eq_some_iff.1 HS7.out.2.2.2).1).trans HS7.out.2.2.2
                                                have hl8 := (Array.getElem?_eq_some_iff.1 e8).1
                                                exact (hk9.block NB hl8 (by omega) (tds_off hs8.td e8 (by decide))).trans e8
                                            obtain ⟨fa6, fc6, rfl, _⟩ := id hsl8
                                            obtain ⟨FL6, hFL6⟩ : ∃ k, y.flags.length = k := ⟨_, rfl⟩
                                            rw [hFL6] at fy hrun
                                            have HRUN : Hid ((Builtin.append_ #[48, 48] 48 #[.slice vo6 m6 c6, .slice (some ⟨w8.heap.size, 0, none⟩) 1 1]).run Tryd.prog (w8.alloc (.cells #[.slice fa6 FL6 fc6] 34)) = .ok (.slice (some ⟨g9, 0, none⟩) (m6 + 1) cap9) W9) := hrun
                                            clear hat8 hsl8 hrest8 htl htd hrun ht9 hk9 hn9 HS7 y1 y2 hFL6 hb8 hs8 HY r1 hu0
                                            go_wp2_with (at_builtin; go_must (refine Go.Lib.wpList_append_run _ rfl (.tmp 178) (.tmp 185) 48 48 rfl _ _ rfl rfl _ W9 HRUN.out ?_))
                                            go_roundw
                                            case rel => exact ⟨_, m6 + 1, _, rfl, by omega, by omega, HNX.out⟩
                                            case measure => simp [lenV]; omega
                                          · obtain rfl : m6 = ul := by omega
                                            have hd6 : decide ((m6 : Int) < (m6 : Int)) = false := decide_eq_false (by omega)
                                            have HNY : Hid (m6 = ((N6.take (k + 1)).foldl (stepT M) (S.map Sg.flags)).length ∧ VNw w2 H vb n l S6 ((N6.take (k + 1)).foldl (stepT M) (S.map Sg.flags)) wr sv7 (.slice vo6 m6 c6) (.slice (some ⟨ng, 0, none⟩) nlen nc) N6) := by
                                              have hx := HX.out
                                              have hst : stepT M T5 x = T5 ++ (M.drop T5.length).take (m6 - T5.length) := by
                                                unfold stepT
                                                rw [HVL.out.2.2, if_neg (by decide), if_pos rfl, List.take_of_length_le (by rw [List.length_drop]; omega)]
                                              show _ ∧ _
                                              rw [HNT.out, hst]
                                              refine ⟨?_, hs7, hn7⟩
                                              rw [List.length_append, List.length_take, List.length_drop]
                                              omega
                                            clear hs7 hn7 hu7 hNBb HI6
                                            go_wp2_with fail
                                            go_roundw
                                            case rel => exact ⟨k + 1, _, _, _, by go_num, by omega, rfl, HNY.out⟩
                                            case measure => simp [intOf]; omega
                                    · as_aux_lemma =>
                                        obtain rfl : XK = 3 := by have := HVL.out.2.2; omega
                                        have hle : XN ≤ m5 := by have := HVL.out.2.1; have := HS5.out.1; omega
                                        obtain ⟨kk, rfl⟩ : ∃ kk, XN = kk + 1 := ⟨XN - 1, by omega⟩
                                        rw [show ((kk + 1 : Nat) : Int) = (kk : Int) + 1 by omega] at n1 HA
                                        have d1 : decide ((kk : Int) + 1 < 1) = false := decide_eq_false (by omega)
                                        have d2 : decide ((m5 : Int) < (kk : Int) + 1) = false := decide_eq_false (by omega)
                                        have d3 : ¬ m5 < kk + 1 := by omega
                                        have d4 : ¬ (m5 : Int) < (kk : Int) + 1 := by omega
                                        have hs6 := HS5.out.2.1.same HA.out.1
                                        obtain ⟨F, hF⟩ : ∃ F, T5[kk]? = some F := ⟨T5[kk]'(by have := HS5.out.1; omega), List.getElem?_eq_getElem _⟩
                                        obtain ⟨tg, tc, ft0, htf, htgl, hft, _, hfz⟩ := tds_at hs6.td hF
                                        rw [← HS5.out.1] at htf
                                        injection htf with htf _ htf2
                                        subst htf
                                        subst htf2
                                        have HNX : Hid (VNw w2 H vb n l S6 (T5.set kk x.flags) ((wr.alloc (.cells #[.int .i64 3, .int .i64 ((kk : Int) + 1), .slice fa FL fc] 52)).setCell ⟨tg, kk, none⟩ (.slice fa FL fc)) sv7 (.slice (some ⟨tg, 0, none⟩) m5 c5) (.slice (some ⟨ng, 0, none⟩) nlen nc) N6) := by
                                          have htd := hs6.td
                                          rw [HS5.out.1] at htd
                                          have hset := tds_set (k := kk) htd (HS5.out.2.2.2.below HA.out.1 (Nat.le_refl _))
                                          rw [← HS5.out.1] at hset
                                          have hkp : VKeep (wr.alloc (.cells #[.int .i64 3, .int .i64 ((kk : Int) + 1), .slice fa FL fc] 52)).heap.size (.slice (some ⟨tg, 0, none⟩) m5 c5) (wr.alloc (.cells #[.int .i64 3, .int .i64 ((kk : Int) + 1), .slice fa FL fc] 52)) ((wr.alloc (.cells #[.int .i64 3, .int .i64 ((kk : Int) + 1), .slice fa FL fc] 52)).setCell ⟨tg, kk, none⟩ (.slice fa FL fc)) := ⟨rfl, rfl, rfl, by simp, fun q _ _ hne => Below.heap_setCell _ _ _ _ (fun e => hne (by have e : q = tg := e; rw [e]; rfl))⟩
                                          exact ⟨hs6.told hset hkp (Near.refl _ _), (HS5.out.2.2.1.below HA.out.1).told hs6.td hkp⟩
                                        have HNY : Hid (m5 = ((N6.take (k + 1)).foldl (stepT M) (S.map Sg.flags)).length ∧ VNw w2 H vb n l S6 ((N6.take (k + 1)).foldl (stepT M) (S.map Sg.flags)) ((wr.alloc (.cells #[.int .i64 3, .int .i64 ((kk : Int) + 1), .slice fa FL fc] 52)).setCell ⟨tg, kk, none⟩ (.slice fa FL fc)) sv7 (.slice (some ⟨tg, 0, none⟩) m5 c5) (.slice (some ⟨ng, 0, none⟩) nlen nc) N6) := by
                                          have hst : stepT M T5 x = T5.set kk x.flags := by
                                            unfold stepT
                                            rw [HVL.out.2.2, if_neg (by decide), if_neg (by decide), HVL.out.2.1, show (((kk + 1 : Nat) : Int) - 1).toNat = kk by omega]
                                          show _ ∧ _
                                          rw [HNT.out, hst]
                                          exact ⟨by rw [List.length_set]; exact HS5.out.1, HNX.out⟩
                                        clear hs6 hF HNX h1 hn1 hn2
                                        go_wp2_with fail
                                        go_roundw
                                        case rel => exact ⟨k + 1, _, _, _, by go_num, by omega, rfl, HNY.out⟩
                                        case measure => simp [intOf]; omega
                                · as_aux_lemma =>
                                    obtain rfl : k = nlen := by omega
                                    have hI := HI.out
                                    rw [List.take_of_length_le (by rw [HQ6.out.1]; exact Nat.le_refl _), HFD.out.1] at hI
                                    have HS7 : Hid (VSt w2 H vb n l S6 (S6.map Sg.flags) wr sv7 (.slice vo5 m5 c5) ∧ m5 = S6.length) := ⟨hI.2.1, by rw [hI.1, List.length_map]⟩
                                    clear hI HI HFD
                                    have cU := view_uids vb sv7 S6 wr HS7.out.1.view (by have := sgs_len HQ6.out.2.2.2.2.2.2.2.2.2.2.1 HQ6.out.2.2.2.2.2.2.2.2.2.2.2.1 HS7.out.1.inv.next; have := HQ6.out.2.2.2.2.1; omega)
                                    go_wp2_with fail
                                    refine cU.mono ?_
                                    clear cU
                                    rintro e w7 ⟨uv, rfl, hu7, hb7⟩
                                    obtain ⟨ua, uc, rfl⟩ := nown_form hu7
                                    rw [List.length_map] at hu7 ⊢
                                    obtain ⟨ul, hul⟩ : ∃ k, S6.length = k := ⟨_, rfl⟩
                                    have hs7 := HS7.out.1.same hb7
                                    have hm5 := HS7.out.2
                                    rw [hul] at hu7 hm5 ⊢
                                    subst hm5
                                    obtain ⟨lv, y1, y2⟩ := id hs7.box
                                    obtain ⟨la7, lc7, rfl, _, _⟩ := id y2
                                    rw [HQ6.out.2.2.2.2.2.2.2.2.2.1] at y1
                                    have x2 : w7.cell? ⟨H, 2, none⟩ = some (.slice la7 ml3 lc7) := rd_cell y1 rfl
                                    have HV7 : Hid (ViewIn w2 H vb n l S6 w7 sv7 (.slice vo5 m5 c5) (.slice ua m5 uc) 0) := ⟨hs7, wr.heap.size, hu7⟩
                                    have HALM : Hid (ALL = true → m5 = ml3) := fun h => by
                                      subst h
                                      show m5 = ml3
                                      rw [← hul, ← HQ6.out.2.2.2.2.2.2.2.2.2.1, ← HQ6.out.2.1]
                                      unfold lookS
                                      rw [List.length_map]
                                      exact look_len HQ6.out.2.2.2.2.2.1 HQ6.out.2.2.2.2.2.2.1 hs7.inv
                                    have HUL : Hid (S6.length = m5) := hul
                                    have hm5b : m5 ≤ 900 := by have h1 := sgs_len HQ6.out.2.2.2.2.2.2.2.2.2.2.1 HQ6.out.2.2.2.2.2.2.2.2.2.2.2.1 hs7.inv.next; rw [hul] at h1; have := HQ6.out.2.2.2.2.1; omega
                                    clear hu7 hb7 hs7 y1 y2 HS7 hul
                                    obtain ⟨uv, huv⟩ : ∃ u, Value.slice ua m5 uc = u := ⟨_, rfl⟩
                                    rw [huv] at HV7
                                    have HUV : Hid (Value.slice ua m5 uc = uv) := huv
                                    clear huv
                                    have deq : ((m5 : Int) == (m5 : Int)) = true := by simp
                                    go_upto_region 50 with fail
                                    go_cut [223] (fun bv wx => bv = .bool false ∧ wx = w7)
                                    case first =>
                                      cases ALL with
                                      | true =>
                                        have hmm := HALM.out rfl
                                        subst hmm
                                        go_wp2_with fail
                                        go_meet
                                        case rel => exact ⟨rfl, rfl⟩
                                      | false =>
                                        go_wp2_with fail
                                        go_meet
                                        case rel => exact ⟨rfl, rfl⟩
                                    case rest =>
                                      obtain ⟨rfl, hwc⟩ := hcut
                                      obtain rfl : w7 = wc := hwc.symm
                                      clear x2 deq
                                      go_wp2_with fail
                                      go_loopw [22] (fun kv wr => ∃ k : Nat, kv = .int .i64 (k : Int) ∧ k ≤ m5 ∧ Hid (ViewIn w2 H vb n l S6 wr sv7 (.slice vo5 m5 c5) uv k)) (fun kv _ => m5 - (intOf kv).toNat)
                                      case atStart => exact ⟨0, rfl, Nat.zero_le _, HV7.out⟩
                                      case round =>
                                        obtain ⟨k, rfl, hk8, HI8⟩ := hrel
                                        clear HV7
                                        obtain ⟨hs8, base8, hu8⟩ := id HI8.out
                                        by_cases hlt8 : k < m5
                                        · as_aux_lemma =>
                                            have hkl8 : k < S6.length := by rw [HUL.out]; exact hlt8
                                            obtain ⟨s8, hs8e⟩ : ∃ s, S6[k] = s := ⟨_, rfl⟩
                                            have hs8k : S6[k]? = some s8 := by rw [List.getElem?_eq_getElem hkl8, hs8e]
                                            obtain ⟨ug, ugc, huf, hu0⟩ := nown_at hu8 (j := k) (u := s8.uid) (by rw [List.getElem?_map, hs8k]; rfl)
                                            rw [List.length_map, HUL.out, ← HUV.out] at huf
                                            injection huf with huf _ huf2
                                            subst huf
                                            subst huf2
                                            obtain ⟨U8, hU8⟩ : ∃ u, s8.uid = u := ⟨_, rfl⟩
                                            rw [hU8] at hu0
                                            have hin8 := hs8.inv
                                            have cF := find_is H 1 n U8 l wr hs8.box hin8.rise (by rw [HQ6.out.2.2.2.2.2.2.2.2.2.1]; have := binv_len hin8; rw [HQ6.out.2.2.2.2.2.2.2.2.2.1] at this; have := HQ6.out.2.2.2.2.1; omega)
                                            obtain ⟨FI, hFI⟩ : ∃ C, findI l U8 = C := ⟨_, rfl⟩
                                            obtain ⟨FB, hFB⟩ : ∃ C, findB l U8 = C := ⟨_, rfl⟩
                                            rw [hFI, hFB] at cF
                                            obtain ⟨tg, tc, ft0, htf, _, hft, hslt, _⟩ := tds_at hs8.td (j := k) (F := s8.flags) (by rw [List.getElem?_map, hs8k]; rfl)
                                            rw [List.length_map, HUL.out] at htf
                                            injection htf with htf _ htf2
                                            subst htf
                                            subst htf2
                                            have htgl : tg < wr.heap.size := World.block_lt_of_cell? _ _ hft
                                            obtain ⟨fa, fc, rfl, _⟩ := id hslt
                                            obtain ⟨FLs, hFLs⟩ : ∃ k, s8.flags.length = k := ⟨_, rfl⟩
                                            rw [hFLs] at hft hslt
                                            have hs8m : s8 ∈ S6 := hs8e ▸ List.getElem_mem hkl8
                                            have hlow : ∃ t ∈ lookS2 S l ALL, s8 = learn1 l t := by
                                              rw [← HQ6.out.2.1] at hs8m
                                              obtain ⟨t, h1, h2⟩ := List.mem_map.1 hs8m
                                              exact ⟨t, h1, h2.symm⟩
                                            have HLW : Hid ((findB l U8 = true → flagsOf l U8 = some s8.flags) ∧ (findB l U8 = false → ALL = false)) := by
                                              obtain ⟨t, h1, h2⟩ := hlow
                                              have hu : t.uid = U8 := by rw [← hU8, h2, learn1_uid]
                                              refine ⟨fun hf => ?_, fun hf => ?_⟩
                                              · obtain ⟨x, _, hx⟩ := flagsOf_some hin8.rise hf
                                                rw [hx, h2, learn1_flags (F := x.flags) (by rw [hu]; exact hx)]
                                              · cases ALL with
                                                | false => rfl
                                                | true =>
                                                  have := look_has h1
                                                  rw [hu, hf] at this
                                                  cases this
                                            have HT8 : Hid (Sl wr (.slice fa FLs fc) s8.flags ∧ s8.flags.length ≤ 12) := ⟨hslt, HQ6.out.2.2.2.2.2.2.2.2.2.2.2.2 s8 hs8m⟩
                                            have HFF : Hid (findI l U8 = FI ∧ findB l U8 = FB) := ⟨hFI, hFB⟩
                                            clear hs8e hs8k hU8 hFI hFB hFLs hslt hlow hs8m hkl8
                                            go_wp2_with fail
                                            refine cF.mono ?_
                                            clear cF
                                            rintro e w8 ⟨rfl, hb8⟩
                                            have hs9 := hs8.same hb8
                                            have HN8 : Hid (∀ W, Below w8.heap.size w8 W → ViewIn w2 H vb n l S6 W sv7 (.slice (some ⟨tg, 0, none⟩) m5 c5) uv (k + 1)) := fun W hW => ⟨hs9.same hW, base8, (hu8.below hb8).below hW⟩
                                            have ft : w8.cell? ⟨tg, k, none⟩ = some (.slice fa FLs fc) := (hb8.cell (p := ⟨tg, _, none⟩) htgl).trans hft
                                            have htgl8 : tg < w8.heap.size := Nat.lt_of_lt_of_le htgl hb8.size
                                            have HT9 : Hid (Sl w8 (.slice fa FLs fc) s8.flags) := HT8.out.1.below hb8 (Nat.le_refl _)
                                            obtain ⟨lv9, y1, y2⟩ := id hs9.box
                                            obtain ⟨la8, lc8, rfl, _, hrest8⟩ := id y2
                                            rw [HQ6.out.2.2.2.2.2.2.2.2.2.1] at y1
                                            have f2 : w8.cell? ⟨H, 2, none⟩ = some (.slice la8 ml3 lc8) := rd_cell y1 rfl
                                            have hHl8 : H < w8.heap.size := hs9.size
                                            clear hft hs8 hu8 hb8 HI8
                                            cases FB with
                                            | false =>
                                              have hA := HLW.out.2 HFF.out.2
                                              subst hA
                                              clear y1 y2 hrest8 hs9
                                              go_upto_region 56 with fail
                                              refine wp_region_held_drew (S := fun W => W.heap.size = W.heap.size) (by kernel_rfl) ?_ (fun hHeld => ?_)
                                              · rfl
                                              refine wpAnyH_take (i := 0) (v := ?_) rfl (by kernel_rfl) (by kernel_rfl) (by kernel_rfl) (fun _ _ _ h => h) (Or.inl ⟨by rfl, ?_⟩) (by assumption) ?_
                                              rotate_left
                                              · intro w hSw; go_simp; (try with_reducible rfl)
                                              change wpAnyH _ _ _ _ _ _ _ (Act.put _ (some 238) _) _; simp only [Act.put, List.setIfInBounds_toArray, List.set_cons_zero, List.set_cons_succ]
                                              refine wpAnyH_take (i := 1) (v := ?_) rfl (by kernel_rfl) (by kernel_rfl) (by kernel_rfl) (fun _ _ _ h => h) (Or.inl ⟨by rfl, ?_⟩) (by assumption) ?_
                                              rotate_left
                                              · intro w hSw; go_simp; (try with_reducible rfl)
                                              change wpAnyH _ _ _ _ _ _ _ (Act.put _ (some 239) _) _; simp only [Act.put, List.setIfInBounds_toArray, List.set_cons_zero, List.set_cons_succ]
                                              refine wpAnyH_take (i := 2) (v := undef) rfl (by kernel_rfl) (by kernel_rfl) (by kernel_rfl) (fun _ _ _ h => h) (Or.inr ⟨by rfl, rfl⟩) (by assumption) ?_
                                              change wpAnyH _ _ _ _ _ _ _ (Act.put _ (some 240) _) _; simp only [Act.put, List.setIfInBounds_toArray, List.set_cons_zero, List.set_cons_succ]
                                              refine wpAnyH_take (i := 3) (v := undef) rfl (by kernel_rfl) (by kernel_rfl) (by kernel_rfl) (fun _ _ _ h => h) (Or.inr ⟨by rfl, rfl⟩) (by assumption) ?_
                                              change wpAnyH _ _ _ _ _ _ _ (Act.put _ (some 241) _) _; simp only [Act.put, List.setIfInBounds_toArray, List.set_cons_zero, List.set_cons_succ]
                                              refine wpAnyH_take (i := 4) (v := undef) rfl (by kernel_rfl) (by kernel_rfl) (by kernel_rfl) (fun _ _ _ h => h) (Or.inr ⟨by rfl, rfl⟩) (by assumption) ?_
                                              change wpAnyH _ _ _ _ _ _ _ (Act.put _ (some 242) _) _; simp only [Act.put, List.setIfInBounds_toArray, List.set_cons_zero, List.set_cons_succ]
                                              refine wpAnyH_take (i := 5) (v := undef) rfl (by kernel_rfl) (by kernel_rfl) (by kernel_rfl) (fun _ _ _ h => h) (Or.inr ⟨by rfl, rfl⟩) (by assumption) ?_
                                              change wpAnyH _ _ _ _ _ _ _ (Act.put _ (some 243) _) _; simp only [Act.put, List.setIfInBounds_toArray, List.set_cons_zero, List.set_cons_succ]
                                              refine wpAnyH_take (i := 6) (v := undef) rfl (by kernel_rfl) (by kernel_rfl) (by kernel_rfl) (fun _ _ _ h => h) (Or.inr ⟨by rfl, rfl⟩) (by assumption) ?_
                                              change wpAnyH _ _ _ _ _ _ _ (Act.put _ (some 244) _) _; simp only [Act.put, List.setIfInBounds_toArray, List.set_cons_zero, List.set_cons_succ]
                                              refine wpAnyH_take (i := 7) (v := undef) rfl (by kernel_rfl) (by kernel_rfl) (by kernel_rfl) (fun _ _ _ h => h) (Or.inr ⟨by rfl, rfl⟩) (by assumption) ?_
                                              change wpAnyH _ _ _ _ _ _ _ (Act.put _ (some 245) _) _; simp only [Act.put, List.setIfInBounds_toArray, List.set_cons_zero, List.set_cons_succ]
                                              refine wpAnyH_take (i := 8) (v := undef) rfl (by kernel_rfl) (by kernel_rfl) (by kernel_rfl) (fun _ _ _ h => h) (Or.inr ⟨by rfl, rfl⟩) (by assumption) ?_
                                              change wpAnyH _ _ _ _ _ _ _ (Act.put _ (some 246) _) _; simp only [Act.put, List.setIfInBounds_toArray, List.set_cons_zero, List.set_cons_succ]
                                              refine wpAnyH_take (i := 9) (v := undef) rfl (by kernel_rfl) (by kernel_rfl) (by kernel_rfl) (fun _ _ _ h => h) (Or.inr ⟨by rfl, rfl⟩) (by assumption) ?_
                                              change wpAnyH _ _ _ _ _ _ _ (Act.put _ (some 247) _) _; simp only [Act.put, List.setIfInBounds_toArray, List.set_cons_zero, List.set_cons_succ]
                                              refine wpAnyH_take (i := 10) (v := undef) rfl (by kernel_rfl) (by kernel_rfl) (by kernel_rfl) (fun _ _ _ h => h) (Or.inr ⟨by rfl, rfl⟩) (by assumption) ?_
                                              change wpAnyH _ _ _ _ _ _ _ (Act.put _ (some 248) _) _; simp only [Act.put, List.setIfInBounds_toArray, List.set_cons_zero, List.set_cons_succ]
                                              refine wpAnyH_take (i := 11) (v := undef) rfl (by kernel_rfl) (by kernel_rfl) (by kernel_rfl) (fun _ _ _ h => h) (Or.inr ⟨by rfl, rfl⟩) (by assumption) ?_
                                              change wpAnyH _ _ _ _ _ _ _ (Act.put _ (some 249) _) _; simp only [Act.put, List.setIfInBounds_toArray, List.set_cons_zero, List.set_cons_succ]
                                              refine wpAnyH_take (i := 12) (v := undef) rfl (by kernel_rfl) (by kernel_rfl) (by kernel_rfl) (fun _ _ _ h => h) (Or.inr ⟨by rfl, rfl⟩) (by assumption) ?_
                                              change wpAnyH _ _ _ _ _ _ _ (Act.put _ (some 250) _) _; simp only [Act.put, List.setIfInBounds_toArray, List.set_cons_zero, List.set_cons_succ]
                                              refine wpAnyH_take (i := 13) (v := undef) rfl (by kernel_rfl) (by kernel_rfl) (by kernel_rfl) (fun _ _ _ h => h) (Or.inr ⟨by rfl, rfl⟩) (by assumption) ?_
                                              change wpAnyH _ _ _ _ _ _ _ (Act.put _ (some 251) _) _; simp only [Act.put, List.setIfInBounds_toArray, List.set_cons_zero, List.set_cons_succ]
                                              refine wpAnyH_take (i := 14) (v := ?_) rfl (by kernel_rfl) (by kernel_rfl) (by kernel_rfl) (fun _ _ _ h => h) (Or.inl ⟨by rfl, ?_⟩) (by assumption) ?_
                                              rotate_left
                                              · intro w hSw; go_simp; (try with_reducible rfl)
                                              change wpAnyH _ _ _ _ _ _ _ (Act.put _ (some 252) _) _; simp only [Act.put, List.setIfInBounds_toArray, List.set_cons_zero, List.set_cons_succ]
                                              refine wpAnyH_take (i := 15) (v := ?_) rfl (by kernel_rfl) (by kernel_rfl) (by kernel_rfl) (fun _ _ _ h => h) (Or.inl ⟨by rfl, ?_⟩) (by assumption) ?_
                                              rotate_left
                                              · intro w hSw; go_simp; (try with_reducible rfl)
                                              change wpAnyH _ _ _ _ _ _ _ (Act.put _ (some 253) _) _; simp only [Act.put, List.setIfInBounds_toArray, List.set_cons_zero, List.set_cons_succ]
                                              refine wpAnyH_take (i := 16) (v := ?_) rfl (by kernel_rfl) (by kernel_rfl) (by kernel_rfl) (fun _ _ _ h => h) (Or.inl ⟨by rfl, ?_⟩) (by assumption) ?_
                                              rotate_left
                                              · intro w hSw; go_simp; (try with_reducible rfl)
                                              change wpAnyH _ _ _ _ _ _ _ (Act.put _ (some 254) _) _; simp only [Act.put, List.setIfInBounds_toArray, List.set_cons_zero, List.set_cons_succ]
                                              refine wpAnyH_take (i := 17) (v := ?_) rfl (by kernel_rfl) (by kernel_rfl) (by kernel_rfl) (fun _ _ _ h => h) (Or.inl ⟨by rfl, ?_⟩) (by assumption) ?_
                                              rotate_left
                                              · intro w hSw; go_simp; (try with_reducible rfl)
                                              change wpAnyH _ _ _ _ _ _ _ (Act.put _ (some 255) _) _; simp only [Act.put, List.setIfInBounds_toArray, List.set_cons_zero, List.set_cons_succ]
                                              refine wpAnyH_take (i := 18) (v := ?_) rfl (by kernel_rfl) (by kernel_rfl) (by kernel_rfl) (fun _ _ _ h => h) (Or.inl ⟨by rfl, ?_⟩) (by assumption) ?_
                                              rotate_left
                                              · intro w hSw; go_simp; (try with_reducible rfl)
                                              change wpAnyH _ _ _ _ _ _ _ (Act.put _ (some 256) _) _; simp only [Act.put, List.setIfInBounds_toArray, List.set_cons_zero, List.set_cons_succ]
                                              refine wpAnyH_take (i := 19) (v := ?_) rfl (by kernel_rfl) (by kernel_rfl) (by kernel_rfl) (fun _ _ _ h => h) (Or.inl ⟨by rfl, ?_⟩) (by assumption) ?_
                                              rotate_left
                                              · intro w hSw; go_simp; (try with_reducible rfl)
                                              change wpAnyH _ _ _ _ _ _ _ (Act.put _ (some 257) _) _; simp only [Act.put, List.setIfInBounds_toArray, List.set_cons_zero, List.set_cons_succ]
                                              refine wpAnyH_take (i := 20) (v := ?_) rfl (by kernel_rfl) (by kernel_rfl) (by kernel_rfl) (fun _ _ _ h => h) (Or.inl ⟨by rfl, ?_⟩) (by assumption) ?_
                                              rotate_left
                                              · intro w hSw; go_simp; (try with_reducible rfl)
                                              change wpAnyH _ _ _ _ _ _ _ (Act.put _ (some 258) _) _; simp only [Act.put, List.setIfInBounds_toArray, List.set_cons_zero, List.set_cons_succ]
                                              refine wpAnyH_take (i := 21) (v := ?_) rfl (by kernel_rfl) (by kernel_rfl) (by kernel_rfl) (fun _ _ _ h => h) (Or.inl ⟨by rfl, ?_⟩) (by assumption) ?_
                                              rotate_left
                                              · intro w hSw; go_simp; (try with_reducible rfl)
                                              change wpAnyH _ _ _ _ _ _ _ (Act.put _ (some 259) _) _; simp only [Act.put, List.setIfInBounds_toArray, List.set_cons_zero, List.set_cons_succ]
                                              refine wpAnyH_done (by kernel_rfl) ?_ _
                                              have HNX := HN8.out w8.drew (Below.refl _ _).drew
                                              have HNY : Hid (ViewIn w2 H vb n l S6 w8.drew sv7 (.slice (some ⟨tg, 0, none⟩) m5 c5) uv (k + 1)) := HNX
                                              clear HNX
                                              go_wp2_with fail
                                              go_roundw
                                              case rel => exact ⟨k + 1, by go_num, by omega, HNY.out⟩
                                              case measure => simp [intOf]; omega
                                            | true =>
                                              obtain ⟨x8, hx8, hfo8⟩ := flagsOf_some hin8.rise HFF.out.2
                                              rw [HFF.out.1] at hx8
                                              have hfe : x8.flags = s8.flags := by
                                                have := HLW.out.1 HFF.out.2
                                                rw [hfo8] at this
                                                exact Option.some.inj this
                                              obtain ⟨lb, lo, rfl, hat8⟩ : ∃ b o, la8 = some ⟨b, o, none⟩ ∧ ∀ (j : Nat) x, l[j]? = some x → LtAt w8 b (o + j * 4) x := by
                                                rcases hrest8 with h | h
                                                · rw [h] at hx8; simp at hx8
                                                · exact h
                                              obtain ⟨_, ⟨lf8, fy, hsl8⟩, _, _⟩ := hat8 FI x8 hx8
                                              have hFIm : FI < ml3 := by have := (List.getElem?_eq_some_iff.1 hx8).1; have := HQ6.out.2.2.2.2.2.2.2.2.2.1; omega
                                              have hlbl : lb < w8.heap.size := World.block_lt_of_cell? _ _ fy
                                              obtain ⟨ya, yc, rfl, _⟩ := id hsl8
                                              obtain ⟨FLx, hFLx⟩ : ∃ k, x8.flags.length = k := ⟨_, rfl⟩
                                              rw [hFLx] at fy hsl8
                                              have cE := equal_txs (.slice ya FLx yc) (.slice fa FLs fc) x8.flags s8.flags w8.drew (hsl8.below (Below.refl _ _).drew (Nat.le_refl _)) (HT9.out.below (Below.refl _ _).drew (Nat.le_refl _)) (by rw [hfe]; have := HT8.out.2; omega) (by have := HT8.out.2; omega)
                                              rw [decide_eq_true hfe] at cE
                                              clear hx8 hfo8 hfe hat8 hsl8 hFLx y1 y2 hrest8 hs9
                                              go_upto_region 56 with fail
                                              refine wp_region_held_drew (S := fun W => W.cell? ⟨H, 2, none⟩ = some (.slice (some ⟨lb, lo, none⟩) ml3 lc8) ∧ W.cell? ⟨lb, lo + FI * 4 + 1, none⟩ = some (.slice ya FLx yc) ∧ W.cell? ⟨tg, k, none⟩ = some (.slice fa FLs fc)) (by kernel_rfl) ?_ (fun hHeld => ?_)
                                              · first | exact ⟨by simpa using f2, by simpa using fy, by simpa using ft⟩ | exact ⟨(hb6.cell (p := ⟨H, _, none⟩) (by simp; omega)).trans (by simpa using f2), (hb6.cell (p := ⟨lb, _, none⟩) (by simp; omega)).trans (by simpa using fy), (hb6.cell (p := ⟨tg, _, none⟩) (by simp; omega)).trans (by simpa using ft)⟩
                                              refine wpAnyH_take (i := 0) (v := ?_) rfl (by kernel_rfl) (by kernel_rfl) (by kernel_rfl) (fun _ _ _ h => h) (Or.inl ⟨by rfl, ?_⟩) (by assumption) ?_
                                              rotate_left
                                              · intro w hSw; go_simp; (try with_reducible rfl)
                                              change wpAnyH _ _ _ _ _ _ _ (Act.put _ (some 238) _) _; simp only [Act.put, List.setIfInBounds_toArray, List.set_cons_zero, List.set_cons_succ]
                                              refine wpAnyH_take (i := 1) (v := ?_) rfl (by kernel_rfl) (by kernel_rfl) (by kernel_rfl) (fun _ _ _ h => h) (Or.inl ⟨by rfl, ?_⟩) (by assumption) ?_
                                              rotate_left
                                              · intro w hSw; go_simp; (try with_reducible rfl)
                                              change wpAnyH _ _ _ _ _ _ _ (Act.put _ (some 239) _) _; simp only [Act.put, List.setIfInBounds_toArray, List.set_cons_zero, List.set_cons_succ]
                                              refine wpAnyH_take (i := 2) (v := ?_) rfl (by kernel_rfl) (by kernel_rfl) (by kernel_rfl) (fun _ _ _ h => h) (Or.inl ⟨by rfl, ?_⟩) (by assumption) ?_
                                              rotate_left
                                              · intro w hSw; go_simp; (try with_reducible rfl)
                                              change wpAnyH _ _ _ _ _ _ _ (Act.put _ (some 240) _) _; simp only [Act.put, List.setIfInBounds_toArray, List.set_cons_zero, List.set_cons_succ]
                                              refine wpAnyH_take (i := 3) (v := ?_) rfl (by kernel_rfl) (by kernel_rfl) (by kernel_rfl) (fun _ _ _ h => h) (Or.inl ⟨by rfl, ?_⟩) (by assumption) ?_
                                              rotate_left
                                              · intro w hSw; go_simp; (try with_reducible rfl)
                                              change wpAnyH _ _ _ _ _ _ _ (Act.put _ (some 241) _) _; simp only [Act.put, List.setIfInBounds_toArray, List.set_cons_zero, List.set_cons_succ]
                                              refine wpAnyH_take (i := 4) (v := ?_) rfl (by kernel_rfl) (by kernel_rfl) (by kernel_rfl) (fun _ _ _ h => h) (Or.inl ⟨by rfl, ?_⟩) (by assumption) ?_
                                              rotate_left
                                              · intro w hSw; go_simp; (try with_reducible rfl)
                                              change wpAnyH _ _ _ _ _ _ _ (Act.put _ (some 242) _) _; simp only [Act.put, List.setIfInBounds_toArray, List.set_cons_zero, List.set_cons_succ]
                                              refine wpAnyH_take (i := 5) (v := ?_) rfl (by kernel_rfl) (by kernel_rfl) (by kernel_rfl) (fun _ _ _ h => h) (Or.inl ⟨by rfl, ?_⟩) (by assumption) ?_
                                              rotate_left
                                              · intro w hSw; go_simp; (try with_reducible rfl)
                                              change wpAnyH _ _ _ _ _ _ _ (Act.put _ (some 243) _) _; simp only [Act.put, List.setIfInBounds_toArray, List.set_cons_zero, List.set_cons_succ]
                                              refine wpAnyH_take (i := 6) (v := ?_) rfl (by kernel_rfl) (by kernel_rfl) (by kernel_rfl) (fun _ _ _ h => h) (Or.inl ⟨by rfl, ?_⟩) (by assumption) ?_
                                              rotate_left
                                              · intro w hSw; go_simp; (try with_reducible rfl)
                                              change wpAnyH _ _ _ _ _ _ _ (Act.put _ (some 244) _) _; simp only [Act.put, List.setIfInBounds_toArray, List.set_cons_zero, List.set_cons_succ]
                                              refine wpAnyH_take (i := 7) (v := ?_) rfl (by kernel_rfl) (by kernel_rfl) (by kernel_rfl) (fun _ _ _ h => h) (Or.inl ⟨by rfl, ?_⟩) (by assumption) ?_
                                              rotate_left
                                              · intro w hSw; go_simp; (try with_reducible rfl)
                                              change wpAnyH _ _ _ _ _ _ _ (Act.put _ (some 245) _) _; simp only [Act.put, List.setIfInBounds_toArray, List.set_cons_zero, List.set_cons_succ]
                                              refine wpAnyH_take (i := 8) (v := ?_) rfl (by kernel_rfl) (by kernel_rfl) (by kernel_rfl) (fun _ _ _ h => h) (Or.inl ⟨by rfl, ?_⟩) (by assumption) ?_
                                              rotate_left
                                              · intro w hSw; go_simp; (try with_reducible rfl)
                                              change wpAnyH _ _ _ _ _ _ _ (Act.put _ (some 246) _) _; simp only [Act.put, List.setIfInBounds_toArray, List.set_cons_zero, List.set_cons_succ]
                                              refine wpAnyH_take (i := 9) (v := ?_) rfl (by kernel_rfl) (by kernel_rfl) (by kernel_rfl) (fun _ _ _ h => h) (Or.inl ⟨by rfl, ?_⟩) (by assumption) ?_
                                              rotate_left
                                              · intro w hSw; go_simp; (try with_reducible rfl)
                                              change wpAnyH _ _ _ _ _ _ _ (Act.put _ (some 247) _) _; simp only [Act.put, List.setIfInBounds_toArray, List.set_cons_zero, List.set_cons_succ]
                                              refine wpAnyH_take (i := 10) (v := ?_) rfl (by kernel_rfl) (by kernel_rfl) (by kernel_rfl) (fun _ _ _ h => h) (Or.inl ⟨by rfl, ?_⟩) (by assumption) ?_
                                              rotate_left
                                              · intro w hSw; go_simp; (try with_reducible rfl)
                                              change wpAnyH _ _ _ _ _ _ _ (Act.put _ (some 248) _) _; simp only [Act.put, List.setIfInBounds_toArray, List.set_cons_zero, List.set_cons_succ]
                                              refine wpAnyH_take (i := 11) (v := ?_) rfl (by kernel_rfl) (by kernel_rfl) (by kernel_rfl) (fun _ _ _ h => h) (Or.inl ⟨by rfl, ?_⟩) (by assumption) ?_
                                              rotate_left
                                              · intro w hSw; go_simp; (try with_reducible rfl)
                                              change wpAnyH _ _ _ _ _ _ _ (Act.put _ (some 249) _) _; simp only [Act.put, List.setIfInBounds_toArray, List.set_cons_zero, List.set_cons_succ]
                                              refine wpAnyH_ready (rs := [12]) (by kernel_rfl) (by simp) ?_
                                              refine AllReadyH.cons rfl (fun K hK => ?_) AllReadyH.nil
                                              go_simp
                                              refine cE.mono ?_
                                              rintro e w9 ⟨rfl, qq, hw9⟩
                                              have hb6 : Below w8.drew.heap.size w8.drew w9 := by rw [hw9]; exact below_drewN (Below.refl _ _) _
                                              clear hw9
                                              refine hK.out _ _ ?_ (fun hHeld => ?_)
                                              · first | exact ⟨by simpa using f2, by simpa using fy, by simpa using ft⟩ | exact ⟨(hb6.cell (p := ⟨H, _, none⟩) (by simp; omega)).trans (by simpa using f2), (hb6.cell (p := ⟨lb, _, none⟩) (by simp; omega)).trans (by simpa using fy), (hb6.cell (p := ⟨tg, _, none⟩) (by simp; omega)).trans (by simpa using ft)⟩
                                              clear hK K
                                              refine wpAnyH_take (i := 13) (v := ?_) rfl (by kernel_rfl) (by kernel_rfl) (by kernel_rfl) (fun _ _ _ h => h) (Or.inl ⟨by rfl, ?_⟩) (by assumption) ?_
                                              rotate_left
                                              · intro w hSw; go_simp; (try with_reducible rfl)
                                              change wpAnyH _ _ _ _ _ _ _ (Act.put _ (some 251) _) _; simp only [Act.put, List.setIfInBounds_toArray, List.set_cons_zero, List.set_cons_succ]
                                              refine wpAnyH_take (i := 14) (v := ?_) rfl (by kernel_rfl) (by kernel_rfl) (by kernel_rfl) (fun _ _ _ h => h) (Or.inl ⟨by rfl, ?_⟩) (by assumption) ?_
                                              rotate_left
                                              · intro w hSw; go_simp; (try with_reducible rfl)
                                              change wpAnyH _ _ _ _ _ _ _ (Act.put _ (some 252) _) _; simp only [Act.put, List.setIfInBounds_toArray, List.set_cons_zero, List.set_cons_succ]
                                              refine wpAnyH_take (i := 15) (v := ?_) rfl (by kernel_rfl) (by kernel_rfl) (by kernel_rfl) (fun _ _ _ h => h) (Or.inl ⟨by rfl, ?_⟩) (by assumption) ?_
                                              rotate_left
                                              · intro w hSw; go_simp; (try with_reducible rfl)
                                              change wpAnyH _ _ _ _ _ _ _ (Act.put _ (some 253) _) _; simp only [Act.put, List.setIfInBounds_toArray, List.set_cons_zero, List.set_cons_succ]
                                              refine wpAnyH_take (i := 16) (v := ?_) rfl (by kernel_rfl) (by kernel_rfl) (by kernel_rfl) (fun _ _ _ h => h) (Or.inl ⟨by rfl, ?_⟩) (by assumption) ?_
                                              rotate_left
                                              · intro w hSw; go_simp; (try with_reducible rfl)
                                              change wpAnyH _ _ _ _ _ _ _ (Act.put _ (some 254) _) _; simp only [Act.put, List.setIfInBounds_toArray, List.set_cons_zero, List.set_cons_succ]
                                              refine wpAnyH_take (i := 17) (v := ?_) rfl (by kernel_rfl) (by kernel_rfl) (by kernel_rfl) (fun _ _ _ h => h) (Or.inl ⟨by rfl, ?_⟩) (by assumption) ?_
                                              rotate_left
                                              · intro w hSw; go_simp; (try with_reducible rfl)
                                              change wpAnyH _ _ _ _ _ _ _ (Act.put _ (some 255) _) _; simp only [Act.put, List.setIfInBounds_toArray, List.set_cons_zero, List.set_cons_succ]
                                              refine wpAnyH_take (i := 18) (v := ?_) rfl (by kernel_rfl) (by kernel_rfl) (by kernel_rfl) (fun _ _ _ h => h) (Or.inl ⟨by rfl, ?_⟩) (by assumption) ?_
                                              rotate_left
                                              · intro w hSw; go_simp; (try with_reducible rfl)
                                              change wpAnyH _ _ _ _ _ _ _ (Act.put _ (some 256) _) _; simp only [Act.put, List.setIfInBounds_toArray, List.set_cons_zero, List.set_cons_succ]
                                              refine wpAnyH_take (i := 19) (v := undef) rfl (by kernel_rfl) (by kernel_rfl) (by kernel_rfl) (fun _ _ _ h => h) (Or.inr ⟨by rfl, rfl⟩) (by assumption) ?_
                                              change wpAnyH _ _ _ _ _ _ _ (Act.put _ (some 257) _) _; simp only [Act.put, List.setIfInBounds_toArray, List.set_cons_zero, List.set_cons_succ]
                                              refine wpAnyH_take (i := 20) (v := ?_) rfl (by kernel_rfl) (by kernel_rfl) (by kernel_rfl) (fun _ _ _ h => h) (Or.inl ⟨by rfl, ?_⟩) (by assumption) ?_
                                              rotate_left
                                              · intro w hSw; go_simp; (try with_reducible rfl)
                                              change wpAnyH _ _ _ _ _ _ _ (Act.put _ (some 258) _) _; simp only [Act.put, List.setIfInBounds_toArray, List.set_cons_zero, List.set_cons_succ]
                                              refine wpAnyH_take (i := 21) (v := ?_) rfl (by kernel_rfl) (by kernel_rfl) (by kernel_rfl) (fun _ _ _ h => h) (Or.inl ⟨by rfl, ?_⟩) (by assumption) ?_
                                              rotate_left
                                              · intro w hSw; go_simp; (try with_reducible rfl)
                                              change wpAnyH _ _ _ _ _ _ _ (Act.put _ (some 259) _) _; simp only [Act.put, List.setIfInBounds_toArray, List.set_cons_zero, List.set_cons_succ]
                                              refine wpAnyH_done (by kernel_rfl) ?_ _
                                              have HBE : Hid (Below w8.heap.size w8 w9) := (Below.refl _ _).drew.trans (by simpa using hb6)
                                              have HNX := HN8.out w9 HBE.out
                                              have HNY : Hid (ViewIn w2 H vb n l S6 w9 sv7 (.slice (some ⟨tg, 0, none⟩) m5 c5) uv (k + 1)) := HNX
                                              clear hb6 hHeld HNX
                                              go_wp2_with fail
                                              go_roundw
                                              case rel => exact ⟨k + 1, by go_num, by omega, HNY.out⟩
                                              case measure => simp [intOf]; omega
                                        · as_aux_lemma =>
                                            obtain rfl : k = m5 := by omega
                                            obtain ⟨lv9, y1, y2⟩ := id hs8.box
                                            obtain ⟨la8, lc8, rfl, _, _⟩ := id y2
                                            rw [HQ6.out.2.2.2.2.2.2.2.2.2.1] at y1 y2
                                            have hin8 := hs8.inv
                                            have hll8 := binv_len hin8
                                            have hq6 := HQ6.out
                                            rw [hq6.2.2.2.2.2.2.2.2.2.1] at hll8
                                            have hsl8 := sgs_len hq6.2.2.2.2.2.2.2.2.2.2.1 hq6.2.2.2.2.2.2.2.2.2.2.2.1 hin8.next
                                            have x0 : wr.cell? ⟨H, 0, none⟩ = some (.int .i64 1) := rd_cell y1 rfl
                                            have x1 : wr.cell? ⟨H, 1, none⟩ = some (.int .i64 n) := rd_cell y1 rfl
                                            have x2 : wr.cell? ⟨H, 2, none⟩ = some (.slice la8 ml3 lc8) := rd_cell y1 rfl
                                            have cL2 := look_is vb sv7 S6 1 n (.slice la8 ml3 lc8) l ALL wr hs8.view y2 hin8.rise (by rw [hq6.2.2.2.2.2.2.2.2.2.1]; have := hq6.2.2.2.2.1; omega) (fun x hx => by have := (hin8.ok x hx).1.2.2; omega) (fun x hx => by have := hq6.2.2.2.2.2.2.2.2.2.2.2.2 x hx; omega)
                                            have hag := look_again (g := ALL) hq6.2.2.2.2.2.1 hq6.2.2.2.2.2.2.1 hin8
                                            rw [hq6.2.1] at hag
                                            rw [hag.1, hag.2] at cL2
                                            have HS9 : Hid (VSt w2 H vb n l S6 (S6.map Sg.flags) wr sv7 (.slice vo5 k c5)) := hs8
                                            clear hs8 hu8 y1 y2 hin8 hq6 hag hll8 hsl8 HI8
                                            go_wp2_with fail
                                            refine cL2.mono ?_
                                            clear cL2
                                            rintro e w9 ⟨nv9, rfl, hn9, hvn9, _⟩
                                            obtain ⟨na9, nc9, rfl⟩ := nws_form hn9
                                            have HNX : Hid (VFo w2 H vb (40 + 40 * (i3 + 1)) w9 (.slice vo5 k c5)) := by
                                              obtain ⟨sv9, hst9⟩ := HS9.out.look hvn9
                                              have hq6 := HQ6.out
                                              exact ⟨n, l, S6, sv9, hst9, hq6.2.2.2.2.1, hq6.2.2.2.2.2.2.2.2.2.2.1, by rw [← hq6.2.1]; exact seen_look hq6.2.2.2.2.2.2.1 hst9.inv, hq6.2.2.2.2.2.2.2.2.2.2.2.1, hq6.2.2.2.2.2.2.2.2.2.2.2.2⟩
                                            clear hn9 hvn9 x0 x1 x2
                                            go_wp2_with fail
                                            go_roundw
                                            case rel => exact ⟨i3 + 1, _, _, _, by go_num, by omega, rfl, HNX.out⟩
                                            case measure => simp [intOf]; omega
                · have HF : Hid (Below w.heap.size w wr) := by
                    obtain ⟨n, l, S, sv, hst, _⟩ := HV.out
                    exact HB2.out.trans (hst.below.mono HH.out.2)
                  go_wp2_with fail
                  go_ret
                  exact ⟨rfl, HF.out⟩
end Go.Proofs.YtkneeoaeoiaefaaDoor
