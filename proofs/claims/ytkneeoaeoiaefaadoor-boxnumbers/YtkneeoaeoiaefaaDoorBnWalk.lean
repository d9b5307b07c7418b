/-
  A map from numbers to texts.
  A number is for ever: the statement's walk.
-/
import Derived.Test.YtkneeoaeoiaefaaDoorVLook
import Derived.Maps.OwnSet
import Derived.BigQuiet
import Derived.Deep.QuietTactic
namespace Go.Proofs.YtkneeoaeoiaefaaDoor
open Go.RowKit Go.Proofs.Aid Go.Proofs.Bx
open Go.Maps (Keyed int_keyed IsMap isMap_empty atKey_put_same atKey_put_other has_put_same has_put_other)

theorem lawN : Keyed Tryd.prog 3 := int_keyed Tryd.underlying3
/-- A map tells texts of numbers. -/
def OfAt (w : World) (mb cnt : Nat) (f : Int → Option Fl.Tx) : Prop :=
  ∃ D : DataW Unit, w.ownsMap Tryd.prog 3 (plainElem Tryd.prog 9) mb cnt D ∧ IsMap D ∧ ∀ u, Maps.has D (.int .i64 u) = (f u).isSome ∧ ∀ t, f u = some t → D.atKey (.int .i64 u) (.lit (.string [])) = .lit (.string t)
theorem of_new (w : World) : OfAt (w.alloc (.map #[] 0)) w.heap.size 0 (fun _ => none) := ⟨.map [], World.ownsMap_made _ _ _ _, isMap_empty, fun u => ⟨by simp [Maps.has], fun t h => by cases h⟩⟩
theorem OfAt.lt {w : World} {mb cnt : Nat} {f : Int → Option Fl.Tx} (h : OfAt w mb cnt f) : mb < w.heap.size := by
  obtain ⟨D, h1, _⟩ := h
  exact h1.lt
theorem OfAt.same {w w' : World} {mb cnt : Nat} {f : Int → Option Fl.Tx} (h : OfAt w mb cnt f) (hk : w'.heap[mb]? = w.heap[mb]?) : OfAt w' mb cnt f := by
  obtain ⟨D, ⟨es, clock, hb, F, hs, hD⟩, h2⟩ := h
  exact ⟨D, ⟨es, clock, hk.trans hb, F, hs, hD⟩, h2⟩
theorem OfAt.noStr {w : World} {mb cnt : Nat} {f : Int → Option Fl.Tx} (h : OfAt w mb cnt f) : NoStr w mb := by
  obtain ⟨D, ⟨es, clock, hb, _⟩, _⟩ := h
  intro i s hc
  simp only [World.cell?, hb] at hc
  cases hc
theorem keyN {u : Int} (h : -9000000 ≤ u ∧ u ≤ 9000000) : keyOf Tryd.prog 3 (.int .i64 u) = some (.int .i64 u) := Go.Maps.keyOf_int_mk Tryd.underlying3 (WalkArith.wf_i64 (by omega))
theorem plain_str {P : Program} {e : TypeId} (he : P.underlying e = some .string) {v : Value} {z : DataW Unit × List MemPlace} (h : plainElem P e v = some z) : ∃ s, v = .string s ∧ z.1 = .lit (.string s.data.toList) := by
  unfold plainElem at h
  rw [he] at h
  cases v <;> simp at h
  obtain ⟨_, rfl⟩ := h
  exact ⟨_, rfl, rfl⟩
theorem of_look {w : World} {mb cnt : Nat} {f : Int → Option Fl.Tx} (h : OfAt w mb cnt f) {u : Int} (hu : -9000000 ≤ u ∧ u ≤ 9000000) :
    ∃ s : ByteArray, (Instr.lookup 29 (.map (some mb)) (.int .i64 u) true).run Tryd.prog w = .ok (.tuple #[.string s, .bool (f u).isSome]) w ∧ ∀ t, f u = some t → s.data.toList = t := by
  obtain ⟨D, h1, h2, h3⟩ := h
  have hz : (zeroValue 9).run Tryd.prog w = .ok (.string ⟨#[]⟩) w := by kernel_rfl
  obtain ⟨v, ps, hrun, hv⟩ := h1.look_ok lawN Tryd.underlying29 hz (plainElem_string Tryd.underlying9 (Nat.zero_le _)) (keyN hu)
  rw [(h3 u).1] at hrun
  obtain ⟨s, rfl, hs⟩ := plain_str Tryd.underlying9 hv
  refine ⟨s, hrun, fun t ht => ?_⟩
  have h4 := (h3 u).2 t ht
  have hs : D.atKey (.int .i64 u) (.lit (.string [])) = .lit (.string s.data.toList) := hs
  rw [h4] at hs
  cases hs
  rfl
theorem of_put {w : World} {mb cnt : Nat} {f : Int → Option Fl.Tx} (h : OfAt w mb cnt f) {u : Int} (hu : -9000000 ≤ u ∧ u ≤ 9000000) (hc : cnt ≤ 1000000) (s : ByteArray) (hs : s.size ≤ 1000000) :
    ∃ w', (Instr.mapUpdate 29 (.map (some mb)) (.int .i64 u) (.string s)).run Tryd.prog w = .ok () w' ∧ OfAt w' mb (cnt + 1) (fun v => if v = u then some s.data.toList else f v) ∧ But w.heap.size mb w w' := by
  obtain ⟨D, h1, h2, h3⟩ := h
  obtain ⟨w', hrun, h4, h5⟩ := h1.update lawN Tryd.underlying29 (by unfold maxLen; omega) (keyN hu) (plainElem_string Tryd.underlying9 (s := s) (by unfold maxLen; omega))
  refine ⟨w', hrun, ⟨_, h4, h2.put _ _, fun v => ?_⟩, ⟨h5.os, h5.tape, h5.output, h5.size, fun q hq hne => h5.block q hq (fun e => hne (Option.some.inj e))⟩⟩
  dsimp only
  by_cases hv : v = u
  · subst hv
    rw [if_pos rfl]
    refine ⟨by rw [has_put_same h2 (by first | trivial | simp [WideAt.IsKeyLit] | decide)]; rfl, fun t ht => ?_⟩
    obtain rfl := Option.some.inj ht
    exact atKey_put_same h2 (by first | trivial | simp [WideAt.IsKeyLit] | decide) _ _
  · have hne : (Lit.int .i64 v) ≠ .int .i64 u := fun e => hv (by cases e; rfl)
    rw [if_neg hv]
    exact ⟨by rw [has_put_other hne]; exact (h3 v).1, fun t ht => by rw [atKey_put_other hne]; exact (h3 v).2 t ht⟩
end Go.Proofs.YtkneeoaeoiaefaaDoor
namespace Go.Proofs.YtkneeoaeoiaefaaDoor
open Go.RowKit Go.Proofs.Aid Go.Proofs.Bx

/-- What the map knows, against the messages. -/
def KnowsAll (n : Int) (l : List Lt) (f : Int → Option Fl.Tx) : Prop := (∀ x ∈ l, f x.uid = some x.text) ∧ ∀ u t, f u = some t → u < n
/-- Amid the messages. -/
structure Amid (n n' : Int) (l' : List Lt) (k : Nat) (f : Int → Option Fl.Tx) : Prop where
  done : ∀ y ∈ l'.take k, f y.uid = some y.text
  same : ∀ y ∈ l', ∀ t, f y.uid = some t → t = y.text
  fresh : ∀ y ∈ l', f y.uid = none → n ≤ y.uid
  below : ∀ u t, f u = some t → u < n'
theorem amid_start {n n' : Int} {l l' : List Lt} {f : Int → Option Fl.Tx} (h : KnowsAll n l f) (hs : BStep n l n' l') : Amid n n' l' 0 f := by
  refine ⟨fun y hy => by simp at hy, fun y hy t ht => ?_, fun y hy hn => ?_, fun u t ht => ?_⟩
  · rcases hs.old y hy with ⟨x, hx, h1, h2⟩ | ⟨h1, _⟩
    · have := h.1 x hx
      rw [h1, ht] at this
      rw [← h2]
      exact Option.some.inj this
    · have := h.2 y.uid t ht
      omega
  · rcases hs.old y hy with ⟨x, hx, h1, h2⟩ | ⟨h1, _⟩
    · have := h.1 x hx
      rw [h1, hn] at this
      cases this
    · omega
  · have := h.2 u t ht
    have := hs.up.1
    omega
theorem amid_next {n n' : Int} {l' : List Lt} {k : Nat} {f : Int → Option Fl.Tx} {y : Lt} (h : Amid n n' l' k f) (hb : BInv n' l') (hy : l'[k]? = some y) : Amid n n' l' (k + 1) (fun v => if v = y.uid then some y.text else f v) := by
  have hk := (List.getElem?_eq_some_iff.1 hy).1
  have hye := (List.getElem?_eq_some_iff.1 hy).2
  have hym : y ∈ l' := hye ▸ List.getElem_mem hk
  have huni : ∀ z ∈ l', z.uid = y.uid → z = y := fun z hz he => by
    obtain ⟨j, hj, rfl⟩ := List.mem_iff_getElem.1 hz
    rcases Nat.lt_trichotomy j k with h1 | h1 | h1
    · have := rise_at hb.rise hj hk h1; rw [hye] at this; omega
    · subst h1; exact hye
    · have := rise_at hb.rise hk hj h1; rw [hye] at this; omega
  refine ⟨fun z hz => ?_, fun z hz t ht => ?_, fun z hz hn => ?_, fun u t ht => ?_⟩
  · by_cases he : z.uid = y.uid
    · have hzm : z ∈ l' := List.mem_of_mem_take hz
      rw [if_pos he, huni z hzm he]
    · rw [if_neg he]
      rw [List.take_add_one, hy] at hz
      rcases List.mem_append.1 hz with h1 | h1
      · exact h.done z h1
      · rw [List.mem_singleton.1 h1] at he; exact absurd rfl he
  · by_cases he : z.uid = y.uid
    · rw [if_pos he] at ht
      rw [← Option.some.inj ht, huni z hz he]
    · rw [if_neg he] at ht
      exact h.same z hz t ht
  · by_cases he : z.uid = y.uid
    · rw [if_pos he] at hn; cases hn
    · rw [if_neg he] at hn
      exact h.fresh z hz hn
  · by_cases he : u = y.uid
    · rw [he]; exact (hb.uid y hym).2
    · rw [if_neg he] at ht
      exact h.below u t ht
theorem find_own {l : List Lt} (hr : Rise l) {k : Nat} {y : Lt} (h : l[k]? = some y) : findI l y.uid = k ∧ findB l y.uid = true := by
  obtain ⟨hk, hy⟩ := List.getElem?_eq_some_iff.1 h
  constructor
  · exact find_at (fun t ht hlt => by have := rise_at hr ht hk hlt; rw [hy] at this; exact this) (by omega) (fun _ => by rw [hy]; omega)
  · unfold findB
    rw [List.any_eq_true]
    exact ⟨y, hy ▸ List.getElem_mem hk, by simp⟩
theorem amid_end {n n' : Int} {l' : List Lt} {k : Nat} {f : Int → Option Fl.Tx} (h : Amid n n' l' k f) (hk : l'.length ≤ k) : KnowsAll n' l' f := ⟨fun x hx => h.done x (by rw [List.take_of_length_le hk]; exact hx), h.below⟩
/-- Behind i deeds. -/
def BNum (w : World) (H i : Nat) (wr : World) : Prop := ∃ (n : Int) (l : List Lt) (f : Int → Option Fl.Tx) (cnt : Nat),
  BoxAt wr H 1 n l ∧ BInv n l ∧ n ≤ 1001 + i ∧ l.length ≤ i ∧ OfAt wr (H + 1) cnt f ∧ KnowsAll n l f ∧ cnt ≤ i * 60 ∧ Below H w wr
/-- Amid a box's messages. -/
def BIn (w : World) (H i : Nat) (n n' : Int) (l' : List Lt) (k : Nat) (wr : World) : Prop := ∃ (f : Int → Option Fl.Tx) (cnt : Nat),
  BoxAt wr H 1 n' l' ∧ OfAt wr (H + 1) cnt f ∧ Amid n n' l' k f ∧ cnt ≤ i * 60 + k ∧ Below H w wr
set_option maxHeartbeats 8000000 in
set_option maxRecDepth 100000 in
theorem numbers_is (next : Int) (v : Value) (L : List Ps) (w : World) (h : Pts w v L) (hg : SysAt w) :
    Calls Tryd.prog 3 #[.int .i64 next, v] w fun e w' => e = .returned (.bool true) ∧ Below w.heap.size w w' := by
  have cSh := short_is v L w h
  obtain ⟨a, c, rfl, ha⟩ := id h
  obtain ⟨SB, hSB⟩ : ∃ b, shortB L = b := ⟨_, rfl⟩
  rw [hSB] at cSh
  have hgl := hg.lt
  cases SB with
  | false =>
    clear ha h
    go_enter Tryd.func3, Tryd.ntmps3
    go_wp2_with fail
    refine cSh.mono ?_
    rintro e w1 ⟨rfl, hw1⟩
    obtain rfl : w = w1 := hw1.symm
    go_wp2_with fail
    go_ret
    exact ⟨rfl, Below.refl _ _⟩
  | true =>
    have hsh : L.length ≤ 40 ∧ ∀ x ∈ L, shortP x = true := by
      unfold shortB at hSB
      simpa using hSB
    obtain ⟨len, hlen⟩ : ∃ n, L.length = n := ⟨_, rfl⟩
    have HSH : Hid (∀ x ∈ L, shortP x = true) := hsh.2
    have hl40 : len ≤ 40 := by omega
    have HLN : Hid (L.length = len) := hlen
    rw [hlen] at cSh h ⊢
    have HP : Hid (Pts w (.slice a len c) L) := h
    have HG : Hid (SysAt w) := hg
    have cB := boxed_is w hg
    clear ha h hSB hsh hlen hg
    go_enter Tryd.func3, Tryd.ntmps3
    go_wp2_with fail
    refine cSh.mono ?_
    rintro e w1 ⟨rfl, hw1⟩
    obtain rfl : w = w1 := hw1.symm
    clear cSh
    go_wp2_with fail
    refine cB.mono ?_
    rintro e w2 ⟨rfl, hb2⟩
    have HB2 : Hid (Below w.heap.size w w2) := hb2
    clear cB hb2
    have cPk := pick_n next 1000 (by decide) (by decide) w2
    have hmm := @run_makeMap Tryd.prog
    go_wp2_with fail
    refine cPk.mono ?_
    rintro e w3 ⟨⟨r, hr, rfl⟩, hw3⟩
    obtain rfl : w2 = w3 := hw3.symm
    clear cPk
    go_wp2_with fail
    obtain ⟨H, hH⟩ : ∃ H, w2.heap.size = H := ⟨_, rfl⟩
    have HH : Hid (w2.heap.size = H ∧ w.heap.size ≤ H) := ⟨hH, by rw [← hH]; exact HB2.out.size⟩
    have HST : Hid (BNum w2 H 0 ((w2.alloc (.cells #[.int .i64 1, .int .i64 (1 + (r : Int)), .slice none 0 0] 28)).alloc (.map #[] 0))) := by
      have e1 := heap_alloc_new w2 (.cells #[.int .i64 1, .int .i64 (1 + (r : Int)), .slice none 0 0] 28)
      have b1 : Below w2.heap.size w2 (w2.alloc (.cells #[.int .i64 1, .int .i64 (1 + (r : Int)), .slice none 0 0] 28)) := (Below.refl _ _).alloc (Nat.le_refl _) _
      have b2 : Below (w2.alloc (.cells #[.int .i64 1, .int .i64 (1 + (r : Int)), .slice none 0 0] 28)).heap.size (w2.alloc (.cells #[.int .i64 1, .int .i64 (1 + (r : Int)), .slice none 0 0] 28)) ((w2.alloc (.cells #[.int .i64 1, .int .i64 (1 + (r : Int)), .slice none 0 0] 28)).alloc (.map #[] 0)) := (Below.refl _ _).alloc (Nat.le_refl _) _
      have o1 := of_new (w2.alloc (.cells #[.int .i64 1, .int .i64 (1 + (r : Int)), .slice none 0 0] 28))
      rw [World.size_alloc] at o1 b2
      rw [hH] at o1 b2 b1 e1
      refine ⟨1 + (r : Int), [], _, 0, ⟨_, (b2.block H (by omega)).trans e1, Lts.nil _⟩, ⟨by unfold Rise; simp, fun x hx => by simp at hx, fun x hx => by simp at hx, by omega⟩, by omega, by simp, o1, ⟨fun x hx => by simp at hx, fun u t ht => by cases ht⟩, by omega, b1.trans (b2.mono (by omega))⟩
    have HSY2 : Hid (SysAt w2) := HG.out.below HB2.out hgl
    have HP2 : Hid (Pts w2 (.slice a len c) L) := HP.out.below HB2.out (Nat.le_refl _)
    rw [hH]
    obtain ⟨W0, hW0⟩ : ∃ W, (w2.alloc (.cells #[.int .i64 1, .int .i64 (1 + (r : Int)), .slice none 0 0] 28)).alloc (.map #[] 0) = W := ⟨_, rfl⟩
    rw [hW0] at HST ⊢
    clear hW0 hmm HG HP hH
    go_loopw [7] (fun iv wr => ∃ i : Nat, iv = .int .i64 (i : Int) ∧ i ≤ len ∧ Hid (BNum w2 H i wr)) (fun iv _ => len - (intOf iv).toNat)
    case atStart => exact ⟨0, rfl, Nat.zero_le _, HST.out⟩
    case round =>
      obtain ⟨i, rfl, hi, HN⟩ := hrel
      clear HST
      by_cases hlt : i < len
      · obtain ⟨n, l, f, cnt, q1, q2, q3, q4, q5, q6, q7, q8⟩ := id HN.out
        have hkl : i < L.length := by rw [HLN.out]; exact hlt
        obtain ⟨x, hx⟩ : ∃ x, L[i] = x := ⟨_, rfl⟩
        have hxs : shortP x = true := HSH.out x (hx ▸ List.getElem_mem hkl)
        obtain ⟨pb, po, rfl, hat⟩ : ∃ b o, a = some ⟨b, o, none⟩ ∧ ∀ (j : Nat) x, L[j]? = some x → PsAt w2 b (o + j * 5) x := by
          obtain ⟨a', c', e, h1⟩ := HP2.out
          injection e with e _ _
          subst e
          rcases h1 with h1 | h1
          · rw [h1] at hkl; simp at hkl
          · exact h1
        obtain ⟨s0, s1, s2, ⟨fv, s3, s3f⟩, s4⟩ := (hat i x (by rw [List.getElem?_eq_getElem hkl, hx])).below q8 (by rw [HH.out.1]; exact Nat.le_refl _)
        have hsy : SysAt wr := HSY2.out.below q8 (by have := HH.out.2; omega)
        have bD : Below wr.heap.size wr wr.drew := (Below.refl _ _).drew
        have cPo := post_is H n l x fv wr.drew (q1.below bD (Nat.le_refl _)) q2 (by omega) (by omega) (s3f.below bD (Nat.le_refl _)) hxs hsy
        obtain ⟨fa, fc, rfl, _⟩ := id s3f
        obtain ⟨FL, hFL⟩ : ∃ k, x.flags.length = k := ⟨_, rfl⟩
        rw [hFL] at s3 cPo
        obtain ⟨WH, hWH⟩ : ∃ z, x.what = z := ⟨_, rfl⟩
        obtain ⟨UI, hUI⟩ : ∃ z, x.uid = z := ⟨_, rfl⟩
        obtain ⟨NN, hNN⟩ : ∃ z, x.n = z := ⟨_, rfl⟩
        obtain ⟨TX, hTX⟩ : ∃ z, x.text = z := ⟨_, rfl⟩
        rw [hWH, hUI, hNN, hTX] at cPo
        rw [hWH] at s0
        rw [hUI] at s1
        rw [hNN] at s2
        rw [hTX] at s4
        obtain ⟨lv, y1, y2⟩ := id q1
        obtain ⟨la, lc, rfl, _⟩ := id y2
        obtain ⟨was, hwas⟩ : ∃ k, l.length = k := ⟨_, rfl⟩
        rw [hwas] at y1
        have x1 : wr.cell? ⟨H, 1, none⟩ = some (.int .i64 n) := rd_cell y1 rfl
        have x2 : wr.cell? ⟨H, 2, none⟩ = some (.slice la was lc) := rd_cell y1 rfl
        have HQ : Hid (OfAt wr (H + 1) cnt f ∧ KnowsAll n l f ∧ cnt ≤ i * 60 ∧ Below H w2 wr ∧ l.length = was ∧ n ≤ 1001 + i ∧ was ≤ i ∧ H + 1 < wr.heap.size) := ⟨q5, q6, q7, q8, hwas, q3, by omega, q5.lt⟩
        have hpbl : pb < H := by have := World.block_lt_of_cell? _ _ (hat i x (by rw [List.getElem?_eq_getElem hkl, hx])).1; have := HH.out.1; show pb < H; rw [← this]; assumption
        clear hx hxs hat s3f hsy bD hFL hWH hUI hNN hTX q1 q2 q5 q6 q7 q8 y1 y2 hwas hkl HN q4
        go_wp2_with fail
        go_region
        go_wp2_with fail
        refine cPo.mono ?_
        clear cPo
        rintro e w5 ⟨ev, n', l', rfl, hev, hst, hb5, hbut⟩
        obtain ⟨lv5, y1, y2⟩ := id hb5
        obtain ⟨la5, lc5, rfl, _⟩ := id y2
        obtain ⟨m5, hm5⟩ : ∃ k, l'.length = k := ⟨_, rfl⟩
        rw [hm5] at y1 y2
        have hz5 : wr.heap.size ≤ w5.heap.size := hbut.size
        have hbD : Below H w2 w5 := HQ.out.2.2.2.1.trans ((Below.refl H wr).drew.trans (hbut.below (by have := HQ.out.2.2.2.2.2.2.2; show H ≤ wr.heap.size; omega) (Nat.le_refl _)))
        have hsy5 : SysAt w5 := HSY2.out.below hbD (by have := HH.out.2; omega)
        have hm40 : m5 ≤ 41 := by have := hst.len; have := HQ.out.2.2.2.2; omega
        have hn5 : n' ≤ 2000 := by have := hst.up.2; have := HQ.out.2.2.2.2.2.1; omega
        have cR := right_is 1 n' l' (.slice la5 m5 lc5) w5 y2 (by omega) (fun y hy => ⟨by have := (hst.inv.ok y hy).1.2.2; omega, fun s hs => by have := own_len ((hst.inv.ok y hy).1.1 s hs); omega, by rw [setOk_setOf (hst.inv.ok y hy).1]; have := (hst.inv.ok y hy).1.2.2; show y.flags.length ≤ 1000; omega⟩) hsy5
        rw [hst.inv.right (by omega) (by omega)] at cR
        have HB5 : Hid (BIn w2 H i n n' l' 0 w5) := ⟨f, cnt, hb5, HQ.out.1.same (hbut.block (H + 1) (by have := HQ.out.2.2.2.2.2.2.2; exact this) (by omega)), amid_start HQ.out.2.1 hst, by have := HQ.out.2.2.1; omega, hbD⟩
        have HST5 : Hid (BInv n' l' ∧ n ≤ n' ∧ n' ≤ n + 1 ∧ n' ≤ 2000 ∧ l'.length = m5 ∧ m5 ≤ i + 1 ∧ 1 ≤ n') := ⟨hst.inv, hst.up.1, hst.up.2, hn5, hm5, by have := hst.len; have := HQ.out.2.2.2.2; omega, hst.inv.next⟩
        have p0 : w5.cell? ⟨H, 0, none⟩ = some (.int .i64 1) := rd_cell y1 rfl
        have p1 : w5.cell? ⟨H, 1, none⟩ = some (.int .i64 n') := rd_cell y1 rfl
        have p2 : w5.cell? ⟨H, 2, none⟩ = some (.slice la5 m5 lc5) := rd_cell y1 rfl
        have hwh5 : w5.cell? ⟨pb, po + i * 5, none⟩ = some (.int .i64 WH) := (hbut.cell (p := ⟨pb, _, none⟩) (show pb < wr.heap.size by have := HQ.out.2.2.2.2.2.2.2; omega) (show pb ≠ H by omega)).trans s0
        have hHl : H < w5.heap.size := by have := HQ.out.2.2.2.2.2.2.2; omega
        have HEV : Hid ((ev = .nilIface ∧ (WH = 0 → n' = n + 1)) ∨ ((∃ E : Int, ev = .iface 73 (.int .i64 E)) ∧ n' = n ∧ m5 = was)) := by
          rcases hev with h1 | ⟨h1, h2, h3⟩
          · exact Or.inl h1
          · exact Or.inr ⟨h1, h2, by rw [← hm5, h3]; exact HQ.out.2.2.2.2.1⟩
        have dlt : decide (n' < n) = false := decide_eq_false (by have := hst.up.1; omega)
        have HP0 : Hid (H + 1 < w5.heap.size) := by have := HQ.out.2.2.2.2.2.2.2; show _ < _; omega
        clear hev hst hb5 hbut y1 y2 hm5 hz5 hbD hsy5 s0 s1 s2 s3 s4 x1 x2 hm40 hn5
        have HCR : Hid (Calls Tryd.prog 9 #[.agg #[.int .i64 1, .int .i64 n', .slice la5 m5 lc5]] w5 fun e w' => e = .returned (.bool true) ∧ Below w5.heap.size w5 w') := cR
        clear cR HQ
        go_upto_region 12 with fail
        go_cut [87] (fun bv wx => bv = .bool false ∧ Hid (BIn w2 H i n n' l' 0 wx))
        case first =>
          have HTR : Hid (∀ w6, Below w5.heap.size w5 w6 → w6.cell? ⟨H, 1, none⟩ = some (.int .i64 n') ∧ w6.cell? ⟨H, 2, none⟩ = some (.slice la5 m5 lc5) ∧ w6.cell? ⟨pb, po + i * 5, none⟩ = some (.int .i64 WH) ∧ BIn w2 H i n n' l' 0 w6) := fun w6 hb6 => by
            refine ⟨(hb6.cell (p := ⟨H, _, none⟩) hHl).trans p1, (hb6.cell (p := ⟨H, _, none⟩) hHl).trans p2, (hb6.cell (p := ⟨pb, _, none⟩) (show pb < w5.heap.size by omega)).trans hwh5, ?_⟩
            obtain ⟨f, cnt, r1, r2, r3, r4, r5⟩ := HB5.out
            exact ⟨f, cnt, r1.below hb6 (Nat.le_refl _), r2.same (hb6.block _ r2.lt), r3, r4, r5.trans (hb6.mono (by omega))⟩
          have cR := HCR.out
          rcases HEV.out with ⟨rfl, h0⟩ | ⟨⟨E, rfl⟩, rfl, rfl⟩
          · by_cases hw0 : WH = 0
            · have hn1 := h0 hw0
              subst hn1
              subst hw0
              have dne : (n + 1 == n + 1) = true := by simp
              have hwr : IntKind.i64.wrap (n + 1) = n + 1 := by have := HST5.out; rw [IntKind.wrap_i64]; omega
              go_wp2_with fail
              refine cR.mono ?_
              clear cR
              rintro e w6 ⟨rfl, hb6⟩
              obtain ⟨t1, t2, t3, t4⟩ := HTR.out w6 hb6
              have HT4 : Hid (BIn w2 H i n (n + 1) l' 0 w6) := t4
              clear hb6 t4
              go_wp2_with fail
              go_meet
              case rel => exact ⟨rfl, HT4.out⟩
            · have d0 : (WH == 0) = false := by simpa using hw0
              go_wp2_with fail
              refine cR.mono ?_
              clear cR
              rintro e w6 ⟨rfl, hb6⟩
              obtain ⟨t1, t2, t3, t4⟩ := HTR.out w6 hb6
              have HT4 : Hid (BIn w2 H i n n' l' 0 w6) := t4
              clear hb6 t4
              go_wp2_with fail
              go_meet
              case rel => exact ⟨rfl, HT4.out⟩
          · go_wp2_with fail
            refine cR.mono ?_
            clear cR
            rintro e w6 ⟨rfl, hb6⟩
            obtain ⟨t1, t2, t3, t4⟩ := HTR.out w6 hb6
            have HT4 : Hid (BIn w2 H i n' n' l' 0 w6) := t4
            clear hb6 t4
            go_wp2_with fail
            go_meet
            case rel => exact ⟨rfl, HT4.out⟩
        case rest =>
          obtain ⟨rfl, HB6⟩ := hcut
          clear HB5 HEV HCR p0 p1 p2 hwh5 dlt
          go_wp2_with fail
          go_loopw [11] (fun kv wk => ∃ k : Nat, kv = .int .i64 (k : Int) ∧ k ≤ m5 ∧ Hid (BIn w2 H i n n' l' k wk)) (fun kv _ => m5 - (intOf kv).toNat)
          case atStart => exact ⟨0, rfl, Nat.zero_le _, HB6.out⟩
          case round =>
            obtain ⟨k, rfl, hk5, HK⟩ := hrel
            clear HB6
            obtain ⟨f2, cnt2, q1, q2, q3, q4, q5⟩ := id HK.out
            obtain ⟨lv6, y1, y2⟩ := id q1
            obtain ⟨la6, lc6, rfl, _, hrest⟩ := id y2
            have hm5 := HST5.out.2.2.2.2.1
            rw [hm5] at y1
            have x2 : wr.cell? ⟨H, 2, none⟩ = some (.slice la6 m5 lc6) := rd_cell y1 rfl
            have hHl6 : H < wr.heap.size := (Array.getElem?_eq_some_iff.1 y1).1
            by_cases hlt5 : k < m5
            · have hkl : k < l'.length := by rw [hm5]; exact hlt5
              obtain ⟨y, hy⟩ : ∃ y, l'[k] = y := ⟨_, rfl⟩
              have hyk : l'[k]? = some y := by rw [List.getElem?_eq_getElem hkl, hy]
              have hym : y ∈ l' := hy ▸ List.getElem_mem hkl
              obtain ⟨lb, lo, rfl, hat⟩ : ∃ b o, la6 = some ⟨b, o, none⟩ ∧ ∀ (j : Nat) x, l'[j]? = some x → LtAt wr b (o + j * 4) x := by
                rcases hrest with h | h
                · rw [h] at hkl; simp at hkl
                · exact h
              obtain ⟨z0, ⟨fv6, z1, hsf6⟩, z2, z3⟩ := hat k y hyk
              have hlbl : lb < wr.heap.size := World.block_lt_of_cell? _ _ z0
              obtain ⟨fa6, fc6, rfl, _⟩ := id hsf6
              obtain ⟨FL6, hFL6⟩ : ∃ k, y.flags.length = k := ⟨_, rfl⟩
              rw [hFL6] at z1
              obtain ⟨YU, hYU⟩ : ∃ z, y.uid = z := ⟨_, rfl⟩
              obtain ⟨YD, hYD⟩ : ∃ z, y.day = z := ⟨_, rfl⟩
              obtain ⟨YT, hYT⟩ : ∃ z : ByteArray, ⟨y.text.toArray⟩ = z := ⟨_, rfl⟩
              have hYTl : YT.data.toList = y.text := by rw [← hYT]
              rw [hYU] at z0
              rw [hYD] at z2
              rw [hYT] at z3
              have hub := HST5.out.1.uid y hym
              rw [hYU] at hub
              have hn2 := HST5.out.2.2.2.1
              have bA : Below wr.heap.size wr (wr.alloc (.cells #[.int .i64 YU, .slice fa6 FL6 fc6, .int .i64 YD, .string YT] 39)) := (Below.refl _ _).alloc (Nat.le_refl _) _
              obtain ⟨ST, hlook, hST⟩ := of_look (q2.same (bA.block _ q2.lt)) (u := YU) (by omega)
              obtain ⟨w8, hput, hof8, hbut8⟩ := of_put (q2.same (bA.block _ q2.lt)) (u := YU) (by omega) (by have := HST5.out; omega) YT (by
                have h1 := (HST5.out.1.ok y hym).2.2
                have h2 : YT.size = y.text.length := by rw [← hYTl]; exact Array.length_toList.symm
                omega)
              have hoB : BoxAt (wr.alloc (.cells #[.int .i64 YU, .slice fa6 FL6 fc6, .int .i64 YD, .string YT] 39)) H 1 n' l' := q1.below bA (Nat.le_refl _)
              have hns8 : NoStr (wr.alloc (.cells #[.int .i64 YU, .slice fa6 FL6 fc6, .int .i64 YD, .string YT] 39)) (H + 1) := (q2.same (bA.block _ q2.lt)).noStr
              have hb8 : BoxAt w8 H 1 n' l' := by
                obtain ⟨lv8, d1, d2⟩ := hoB
                exact ⟨lv8, (hbut8.block H (by simp; omega) (by omega)).trans d1, d2.but hns8 hbut8 (Nat.le_refl _)⟩
              have e8 : w8.heap[wr.heap.size]? = some (.cells #[.int .i64 YU, .slice fa6 FL6 fc6, .int .i64 YD, .string YT] 39 (0, 0)) := (hbut8.block _ (by simp) (by have := q2.lt; omega)).trans (heap_alloc_new _ _)
              have k8 : w8.cell? ⟨wr.heap.size, 0, none⟩ = some (.int .i64 YU) := rd_cell e8 rfl
              have cFd := find_is H 1 n' YU l' w8 hb8 HST5.out.1.rise (by rw [hm5]; have := HST5.out; omega)
              have hfo := find_own HST5.out.1.rise hyk
              rw [hYU] at hfo
              rw [hfo.1, hfo.2] at cFd
              have HNX : Hid (BIn w2 H i n n' l' (k + 1) w8) := by
                refine ⟨_, cnt2 + 1, hb8, hof8, ?_, by omega, q5.trans ((bA.mono (by omega)).trans (hbut8.below (by simp; omega) (by omega)))⟩
                have := amid_next q3 HST5.out.1 hyk
                rw [hYU] at this
                rw [hYTl]
                exact this
              obtain ⟨SO, hSO⟩ : ∃ o, f2 YU = o := ⟨_, rfl⟩
              have hcond : (SO.isSome = true ∧ ST.toList = YT.toList) ∨ (SO.isSome = false ∧ n ≤ YU) := by
                cases SO with
                | some t =>
                  refine Or.inl ⟨rfl, ?_⟩
                  have h1 := hST t hSO
                  have h2 := q3.same y hym t (by rw [hYU]; exact hSO)
                  rw [Lib.toList_data, Lib.toList_data, h1, h2, hYTl]
                | none => exact Or.inr ⟨rfl, by have := q3.fresh y hym (by rw [hYU]; exact hSO); rw [hYU] at this; exact this⟩
              rw [hSO] at hlook
              obtain ⟨SB, hSB⟩ : ∃ b, SO.isSome = b := ⟨_, rfl⟩
              rw [hSB] at hlook hcond
              clear hST hoB hns8 hof8 hbut8 hfo hSO hSB hat hsf6 hrest hy hyk hym q1 q2 q3 q4 q5 y2 y1 hFL6 hYU hYD hYT hYTl e8 hb8 HK
              have hkk : ((k : Int) == (k : Int)) = true := by simp
              rcases hcond with ⟨rfl, heq⟩ | ⟨rfl, hle⟩
              · have heq2 : (ST.toList == YT.toList) = true := by rw [heq]; simp
                go_wp2_with fail
                refine cFd.mono ?_
                clear cFd
                rintro e w9 ⟨rfl, hb9⟩
                have HN9 : Hid (BIn w2 H i n n' l' (k + 1) w9) := by
                  obtain ⟨f, cnt, r1, r2, r3, r4, r5⟩ := HNX.out
                  exact ⟨f, cnt, r1.below hb9 (Nat.le_refl _), r2.same (hb9.block _ r2.lt), r3, r4, r5.trans (hb9.mono (by have := r2.lt; omega))⟩
                clear hb9
                go_wp2_with fail
                go_roundw
                case rel => exact ⟨k + 1, by go_num, by omega, HN9.out⟩
                case measure => simp [intOf]; omega
              · have dle : decide (YU < n) = false := decide_eq_false (by omega)
                go_wp2_with fail
                refine cFd.mono ?_
                clear cFd
                rintro e w9 ⟨rfl, hb9⟩
                have HN9 : Hid (BIn w2 H i n n' l' (k + 1) w9) := by
                  obtain ⟨f, cnt, r1, r2, r3, r4, r5⟩ := HNX.out
                  exact ⟨f, cnt, r1.below hb9 (Nat.le_refl _), r2.same (hb9.block _ r2.lt), r3, r4, r5.trans (hb9.mono (by have := r2.lt; omega))⟩
                clear hb9
                go_wp2_with fail
                go_roundw
                case rel => exact ⟨k + 1, by go_num, by omega, HN9.out⟩
                case measure => simp [intOf]; omega
            · obtain rfl : k = m5 := by omega
              have HNX : Hid (BNum w2 H (i + 1) wr) := ⟨n', l', f2, cnt2, q1, HST5.out.1, by have := HST5.out; omega, by rw [hm5]; have := HST5.out; omega, q2, amid_end q3 (by rw [hm5]; exact Nat.le_refl _), by have := HST5.out; omega, q5⟩
              clear q1 q2 q3 q4 q5 y1 y2 hrest HK
              go_wp2_with fail
              go_roundw
              case rel => exact ⟨i + 1, by go_num, by omega, HNX.out⟩
              case measure => simp [intOf]; omega
      · have HF : Hid (Below w.heap.size w wr) := by
          obtain ⟨n, l, f, cnt, _, _, _, _, _, _, _, q8⟩ := HN.out
          exact HB2.out.trans (q8.mono HH.out.2)
        go_wp2_with fail
        go_ret
        exact ⟨rfl, HF.out⟩
end Go.Proofs.YtkneeoaeoiaefaaDoor
