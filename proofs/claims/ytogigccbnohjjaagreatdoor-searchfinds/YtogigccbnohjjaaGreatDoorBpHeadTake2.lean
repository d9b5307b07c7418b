/-
  What the methods take and all of head, and more.
-/
import Derived.Test.YtogigccbnohjjaaGreatDoorBpSearchIs
namespace Go.Proofs.YtogigccbnohjjaaGreatDoor
open Go.RowKit Go.Proofs.Aid Go.Proofs.Hd Go.Proofs.Sq
set_option maxHeartbeats 2000000
set_option maxRecDepth 100000
theorem contains_one (c : UInt8) : Lib.contains [32, 9] [c] = blk c := by
 have h : ∀ n : Fin 256, Lib.contains [32, 9] [UInt8.ofNat n.val] = blk (UInt8.ofNat n.val) := by decide +kernel
 have := h ⟨c.toNat, c.toNat_lt⟩
 simpa using this
theorem low_bad : Low ⟨#[13, 10, 0]⟩ := fun j b h => by
 match j, h with
 | 0, h => obtain rfl : _ = b := by simpa using h
           decide
 | 1, h => obtain rfl : _ = b := by simpa using h
           decide
 | 2, h => obtain rfl : _ = b := by simpa using h
           decide
 | j + 3, h => simp at h
theorem take_is (base b k : Nat) (l : List Hd.Fd) (p : ByteArray) (m : Int) (w : World) (h : St base b l k w) (hp : p.size ≤ 2000000) (hk : k ≤ 100000) (hbw : base ≤ w.heap.size) (hn : l.length ≤ 40) (hm : w.cell? ⟨1, 0, none⟩ = some (.int .i64 m)) :
  Calls Tryz.prog 97 #[.pointer (some ⟨b, 0, none⟩), .string p] w fun e w' => But base b w w' ∧ e = .returned (.int .i64 (Hd.step l p.data.toList).1) ∧ ((Hd.step l p.data.toList).1 = 0 → St base b (Hd.step l p.data.toList).2 (k + 1) w') := by
 by_cases h0 : p.data.toList = []
 ·have hs : Hd.step l p.data.toList = (0, l) := by unfold Hd.step; rw [if_pos h0]
  rw [hs]
  have f1 : p.toList = [] := by rw [Lib.toList_data]; exact h0
  have f2 : p.toList.isEmpty = true := by rw [f1]; rfl
  have hst := h.more
  clear h
  go_enter Tryz.func97, Tryz.ntmps97
  go_wp2_with fail
  go_ret
  exact ⟨to_but (Below.refl _ _), rfl, fun _ => hst⟩
 have f1 : ¬ p.toList = [] := by rw [Lib.toList_data]; exact h0
 have f2 : p.toList.isEmpty = false := by rw [Lib.toList_data]; cases hh : p.data.toList with | nil => exact absurd hh h0 | cons _ _ => rfl
 have cA := any_is p ⟨#[13, 10, 0]⟩ w (by decide) low_bad (by decide) hp
 rw [show (p.data.toList.any fun c => (⟨#[13, 10, 0]⟩ : ByteArray).data.toList.contains c) = p.data.toList.any isBad from rfl] at cA
 cases hb : p.data.toList.any isBad with
 | true =>
  have hs : Hd.step l p.data.toList = (3, []) := by unfold Hd.step; rw [if_neg h0, if_pos hb]
  rw [hs]
  rw [hb] at cA
  clear h
  go_enter Tryz.func97, Tryz.ntmps97
  go_wp2_with fail
  refine cA.mono ?_
  rintro e w1 ⟨rfl, hb1⟩
  go_wp2_with fail
  go_ret
  exact ⟨to_but (hb1.mono hbw), rfl, fun h => absurd h (by decide)⟩
 | false =>
  rw [hb] at cA
  obtain ⟨c, r, hcr⟩ : ∃ c r, p.data.toList = c :: r := by
   cases hh : p.data.toList with
   | nil => exact absurd hh h0
   | cons c r => exact ⟨c, r, rfl⟩
  have hhd : p.data.toList.headD 0 = c := by rw [hcr]; rfl
  have h1 : 1 ≤ p.size := by rw [← list_size, hcr]; simp
  have hx : p.extract 0 1 = ⟨#[c]⟩ := text_ext (by rw [Lib.extract_from_zero, hcr]; rfl)
  have K1 : ∀ W, Below w.heap.size w W → W.cell? ⟨1, 0, none⟩ = some (.int .i64 m) ∧ Calls Tryz.prog 24 #[.string ⟨#[32, 9]⟩, .string (p.extract 0 1)] W fun e w' => e = .returned (.bool (blk c)) ∧ w' = W := fun W hW => by
   have hmW := (hW.cell (World.block_lt_of_cell? _ _ hm)).trans hm
   have := Tryz.strings_Contains ⟨#[32, 9]⟩ (p.extract 0 1) m W (by decide) hmW
   rw [hx] at this ⊢
   rw [show Lib.contains (⟨#[32, 9]⟩ : ByteArray).data.toList (⟨#[c]⟩ : ByteArray).data.toList = blk c from contains_one c] at this
   exact ⟨hmW, this⟩
  have HK : Hid (∀ W, Below w.heap.size w W → W.cell? ⟨1, 0, none⟩ = some (.int .i64 m) ∧ Calls Tryz.prog 24 #[.string ⟨#[32, 9]⟩, .string (p.extract 0 1)] W fun e w' => e = .returned (.bool (blk c)) ∧ w' = W) := K1
  have HST : Hid (St base b l k w) := h
  have HE : Hid (Hd.step l p.data.toList = if blk c = true then (if l = [] then (3, []) else (0, onto l (bare p.data.toList)))
    else if (cutAt 58 p.data.toList).2.2 = false ∨ nameOk (cutAt 58 p.data.toList).1 = false then (3, [])
    else if l.length = 40 then (4, []) else (0, l ++ [((cutAt 58 p.data.toList).1, bare (cutAt 58 p.data.toList).2.1)])) := by
   show _ = _
   unfold Hd.step
   rw [if_neg h0, hb, hhd]
   rfl
  obtain ⟨E, hE⟩ : ∃ E, Hd.step l p.data.toList = E := ⟨_, rfl⟩
  rw [hE] at HE ⊢
  clear h K1 hb h0 hcr hhd hx hm hE
  cases hbl : blk c with
  | true =>
   rw [hbl] at HE
   go_enter Tryz.func97, Tryz.ntmps97
   go_wp2_with fail
   refine cA.mono ?_
   clear cA
   rintro e w1 ⟨rfl, hb1⟩
   have cC := (HK.out w1 hb1).2
   rw [hbl] at cC
   go_wp2_with fail
   refine cC.mono ?_
   clear cC
   rintro e w2 ⟨rfl, hw⟩
   subst hw
   have cG := goOn_is base b k l p w2 (HST.out.below hb1) hp hk (Nat.le_trans hbw hb1.size) hn
   go_wp2_with fail
   refine cG.mono ?_
   clear cG
   rintro e w3 ⟨hb3, ⟨hl, rfl⟩ | ⟨hl, rfl, hst⟩⟩
   ·have HEE : Hid (E = (3, [])) := by have := HE.out; rw [if_pos trivial, if_pos hl] at this; exact this
    go_wp2_with fail
    go_ret
    exact ⟨(to_but (hb1.mono hbw)).trans hb3, by rw [HEE.out]; rfl, fun h => absurd h (by rw [HEE.out]; decide)⟩
   ·have he : E = (0, onto l (bare p.data.toList)) := by have := HE.out; rw [if_pos trivial, if_neg hl] at this; exact this
    have HEE : Hid (E = (0, onto l (bare p.data.toList))) := he
    clear he
    go_wp2_with fail
    go_ret
    refine ⟨(to_but (hb1.mono hbw)).trans hb3, by rw [HEE.out]; rfl, fun _ => by rw [HEE.out]; exact hst⟩
  | false =>
   rw [hbl] at HE
   go_enter Tryz.func97, Tryz.ntmps97
   go_wp2_with fail
   refine cA.mono ?_
   clear cA
   rintro e w1 ⟨rfl, hb1⟩
   have cC := (HK.out w1 hb1).2
   rw [hbl] at cC
   go_wp2_with fail
   refine cC.mono ?_
   clear cC
   rintro e w2 ⟨rfl, hw⟩
   subst hw
   have cG := begin_is base b k l p m w2 (HST.out.below hb1) hp hk (Nat.le_trans hbw hb1.size) hn (HK.out w2 hb1).1
   go_wp2_with fail
   refine cG.mono ?_
   clear cG
   rintro e w3 ⟨hb3, ⟨hx, rfl⟩ | ⟨hx, ⟨hl, rfl⟩ | ⟨hl, rfl, hst⟩⟩⟩
   ·have HEE : Hid (E = (3, [])) := by have := HE.out; rw [if_neg (by simp), if_pos hx] at this; exact this
    clear hx
    go_wp2_with fail
    go_ret
    exact ⟨(to_but (hb1.mono hbw)).trans hb3, by rw [HEE.out]; rfl, fun h => absurd h (by rw [HEE.out]; decide)⟩
   ·have HEE : Hid (E = (4, [])) := by have := HE.out; rw [if_neg (by simp), if_neg hx, if_pos hl] at this; exact this
    clear hx
    go_wp2_with fail
    go_ret
    exact ⟨(to_but (hb1.mono hbw)).trans hb3, by rw [HEE.out]; rfl, fun h => absurd h (by rw [HEE.out]; decide)⟩
   ·have HEE : Hid (E = (0, l ++ [((cutAt 58 p.data.toList).1, bare (cutAt 58 p.data.toList).2.1)])) := by have := HE.out; rw [if_neg (by simp), if_neg hx, if_neg hl] at this; exact this
    clear hx
    go_wp2_with fail
    go_ret
    exact ⟨(to_but (hb1.mono hbw)).trans hb3, by rw [HEE.out]; rfl, fun _ => by rw [HEE.out]; exact hst⟩
def Fg (w : World) (v : Value) (l : List Fb) : Prop :=
 ∃ a c, v = .slice a l.length c ∧ (l = [] ∨ ∃ b o, a = some ⟨b, o, none⟩ ∧ ∀ (j : Nat) f, l[j]? = some f → w.cell? ⟨b, o + j * 2, none⟩ = some (.string f.1) ∧ w.cell? ⟨b, o + j * 2 + 1, none⟩ = some (.string f.2))
theorem Fg.below {w w' : World} {v : Value} {B : Nat} {l : List Fb} (h : Fg w v l) (hb : Below B w w') (hB : w.heap.size ≤ B) : Fg w' v l := by
 obtain ⟨a, c, h1, h2⟩ := h
 refine ⟨a, c, h1, ?_⟩
 rcases h2 with h2 | ⟨b, o, h2, h3⟩
 ·exact Or.inl h2
 ·refine Or.inr ⟨b, o, h2, fun j f hj => ?_⟩
  obtain ⟨x, y⟩ := h3 j f hj
  exact ⟨(hb.cell (Nat.lt_of_lt_of_le (World.block_lt_of_cell? _ _ x) hB)).trans x, (hb.cell (Nat.lt_of_lt_of_le (World.block_lt_of_cell? _ _ y) hB)).trans y⟩
theorem cellsF_get : ∀ (l : List Fb) (j : Nat) f, l[j]? = some f → (cellsF l)[j * 2]? = some (.string f.1) ∧ (cellsF l)[j * 2 + 1]? = some (.string f.2)
 | [], _, _, h => by simp at h
 | g :: l, 0, f, h => by
  obtain rfl : g = f := by simpa using h
  exact ⟨rfl, rfl⟩
 | g :: l, j + 1, f, h => by
  have := cellsF_get l j f (by simpa using h)
  rw [show (j + 1) * 2 = j * 2 + 2 by omega]
  exact this
theorem fg_of_row {w : World} {base : Nat} {v : Value} {l : List Fb} (h : w.ownsRow base 78 2 v l.length (cellsF l)) : Fg w v l := by
 by_cases h0 : l = []
 ·subst h0
  obtain ⟨a, c, rfl⟩ := row_slice h
  exact ⟨a, c, rfl, Or.inl rfl⟩
 ·obtain ⟨g, c, rfl⟩ := row_some h (fun e => h0 (List.eq_nil_of_length_eq_zero e))
  refine ⟨_, c, rfl, Or.inr ⟨g, 0, rfl, fun j f hj => ?_⟩⟩
  have hjl := (List.getElem?_eq_some_iff.1 hj).1
  have := cellsF_get l j f hj
  rw [Nat.zero_add, h.cellAt _ (by omega), h.cellAt _ (by omega)]
  exact this
theorem all_is (base b k : Nat) (l : List Hd.Fd) (w : World) (h : St base b l k w) (hk : k ≤ 100000) (hbw : base ≤ w.heap.size) (hn : l.length ≤ 40) :
  Calls Tryz.prog 98 #[.pointer (some ⟨b, 0, none⟩)] w fun e w' => (∃ v L, e = .returned v ∧ Fg w' v L ∧ L.map tx = l) ∧ But base b w w' := by
 have cJ := join_is base b k l w h hk hbw hn
 clear h
 go_enter Tryz.func98, Tryz.ntmps98
 go_wp2_with fail
 refine cJ.mono ?_
 rintro e w1 ⟨rfl, ⟨R, hR, hRl⟩, hb1⟩
 obtain ⟨vf, vs, hh, hrf, _⟩ := hR.st
 have hFg := fg_of_row hrf
 have c0 : w1.cell? ⟨b, 0, none⟩ = some vf := rd_cell hh rfl
 obtain ⟨a, cap, rfl⟩ := row_slice hrf
 have HF : Hid (Fg w1 (.slice a R.length cap) R) := hFg
 have HR : Hid (R.map tx = l) := hRl
 obtain ⟨N, hN⟩ : ∃ N, R.length = N := ⟨_, rfl⟩
 rw [hN] at c0 HF
 clear hR hrf hFg hRl cJ hh
 go_wp2_with fail
 go_ret
 exact ⟨⟨_, R, rfl, HF.out, HR.out⟩, hb1⟩
end Go.Proofs.YtogigccbnohjjaaGreatDoor
namespace Go.Proofs.YtogigccbnohjjaaGreatDoor
open Go.RowKit Go.Proofs.Aid Go.Proofs.Sq Go.Proofs.Hd
set_option maxHeartbeats 2000000
set_option maxRecDepth 100000
theorem index_fields (F : Nat) (eg : ∀ args w, (callFunc F args).run Tryz.prog w = .ok (.enter F args) w) (caps : Array Value) (P : Fb → Bool) (v : Value) (ks : List Fb) (w : World) (h : Fg w v ks) (hl : ks.length ≤ 1000)
  (hF : ∀ (j : Nat) (k : Fb) W, ks[j]? = some k → Below w.heap.size w W → Calls Tryz.prog F (#[.agg #[.string k.1, .string k.2]] ++ caps) W fun e w' => e = .returned (.bool (P k)) ∧ Below W.heap.size W w') :
  Calls Tryz.prog 99 #[v, .func (.func F) #[] caps] w fun e w' => ∃ z : Int, e = .returned (.int .i64 z) ∧ decide (0 ≤ z) = ks.any P ∧ Below w.heap.size w w' := by
 have HF : Hid (∀ (j : Nat) (k : Fb) W, ks[j]? = some k → Below w.heap.size w W → Calls Tryz.prog F (#[.agg #[.string k.1, .string k.2]] ++ caps) W fun e w' => e = .returned (.bool (P k)) ∧ Below W.heap.size W w') := hF
 have HK : Hid (∀ W, Below w.heap.size w W → Fg W v ks) := fun W hW => h.below hW (Nat.le_refl _)
 obtain ⟨a, c, rfl, _⟩ := h
 obtain ⟨N, hN⟩ : ∃ N, ks.length = N := ⟨_, rfl⟩
 have HN : Hid (ks.length = N) := hN
 rw [hN] at hl HK ⊢
 clear hF hN
 go_enter Tryz.func99, Tryz.ntmps99
 go_wp2_with fail
 go_loopw [8] (fun i wr => ∃ k : Nat, i = .int .i64 (k : Int) ∧ k ≤ N ∧ Hid (∀ j q, j < k → ks[j]? = some q → P q = false) ∧ Below w.heap.size w wr) (fun i _ => N - (intOf i).toNat)
 case atStart => exact ⟨0, rfl, by omega, fun j q h => absurd h (by omega), Below.refl _ _⟩
 case round =>
  obtain ⟨k, rfl, hk, HA, hbW⟩ := hrel
  by_cases hlt : k < N
  ·have hkp : k < ks.length := by rw [HN.out]; exact hlt
   obtain ⟨q, hq⟩ : ∃ q, ks[k] = q := ⟨_, rfl⟩
   have hpk : ks[k]? = some q := by rw [List.getElem?_eq_getElem hkp, hq]
   obtain ⟨a', c', hv, hat⟩ := HK.out wr hbW
   injection hv with hv1 hv2 hv3
   subst hv1
   rcases hat with hat | ⟨b, o, rfl, hat⟩
   ·exact absurd hpk (by rw [hat]; simp)
   obtain ⟨c0, c1⟩ := hat k q hpk
   have cF := HF.out k q wr hpk hbW
   obtain ⟨q1, q2⟩ := q
   have HPK : Hid (ks[k]? = some (q1, q2)) := hpk
   obtain ⟨B, hB⟩ : ∃ B, P (q1, q2) = B := ⟨_, rfl⟩
   have HB : Hid (P (q1, q2) = B) := hB
   rw [hB] at cF
   clear hat hpk hq hB hv2 hv3
   go_wp2_with fail
   refine cF.mono ?_
   clear cF
   rintro e w1 ⟨rfl, hb1⟩
   have hb01 := hbW.trans (hb1.mono hbW.size)
   cases B
   ·go_wp2_with fail
    go_roundw
    case rel =>
     refine ⟨k + 1, by go_num, by omega, fun j q' hj hj' => ?_, hb01⟩
     by_cases hjk : j < k
     ·exact HA.out j q' hjk hj'
     ·obtain rfl : j = k := by omega
      obtain rfl : (q1, q2) = q' := Option.some.inj (HPK.out.symm.trans hj')
      exact HB.out
    case measure => simp [intOf]; omega
   ·go_wp2_with fail
    go_ret
    refine ⟨(k : Int), rfl, ?_, hb01⟩
    rw [decide_eq_true (by omega)]
    exact (List.any_eq_true.2 ⟨(q1, q2), List.mem_of_getElem? HPK.out, HB.out⟩).symm
  ·obtain rfl : k = N := by omega
   go_wp2_with fail
   go_ret
   refine ⟨-1, rfl, ?_, hbW⟩
   rw [decide_eq_false (by omega)]
   refine (List.any_eq_false.2 fun x hx => ?_).symm
   obtain ⟨j, hj, hjx⟩ := List.getElem_of_mem hx
   have := HA.out j x (by rw [HN.out] at hj; exact hj) (by rw [List.getElem?_eq_getElem hj, hjx])
   simp [this]
theorem any_fields (F : Nat) (eg : ∀ args w, (callFunc F args).run Tryz.prog w = .ok (.enter F args) w) (caps : Array Value) (P : Fb → Bool) (v : Value) (ks : List Fb) (w : World) (h : Fg w v ks) (hl : ks.length ≤ 1000)
  (hF : ∀ (j : Nat) (k : Fb) W, ks[j]? = some k → Below w.heap.size w W → Calls Tryz.prog F (#[.agg #[.string k.1, .string k.2]] ++ caps) W fun e w' => e = .returned (.bool (P k)) ∧ Below W.heap.size W w') :
  Calls Tryz.prog 75 #[v, .func (.func F) #[] caps] w fun e w' => e = .returned (.bool (ks.any P)) ∧ Below w.heap.size w w' := by
 have c := index_fields F eg caps P v ks w h hl hF
 go_enter Tryz.func75, Tryz.ntmps75
 go_wp2_with fail
 refine c.mono ?_
 rintro e w1 ⟨z, rfl, hz, hb⟩
 go_wp2_with fail
 go_ret
 exact ⟨by rw [← hz]; rfl, hb⟩
end Go.Proofs.YtogigccbnohjjaaGreatDoor
namespace Go.Proofs.YtogigccbnohjjaaGreatDoor
open Go.RowKit Go.Proofs.Aid Go.Proofs.Hd Go.Proofs.Sq
set_option maxHeartbeats 2000000
set_option maxRecDepth 100000
theorem step_len {l : List Hd.Fd} {p : Tx} (h : l.length ≤ 40) : (Hd.step l p).2.length ≤ 40 := by
 unfold Hd.step
 split
 ·exact h
 ·split
  ·simp
  ·split
   ·split
    ·simp
    ·rw [onto_length]; exact h
   ·split
    ·simp
    ·split
     ·simp
     ·simp; omega
theorem fieldsFrom_cons (i : Nat) (l : List Hd.Fd) (p : Tx) (ps : List Tx) : fieldsFrom i l (p :: ps) = if (Hd.step l p).1 = 0 then fieldsFrom (i + 1) (Hd.step l p).2 ps else (((Hd.step l p).1, i), []) := rfl
theorem fields_is (s : ByteArray) (m : Int) (w : World) (hs : s.size ≤ 90000) (hm : w.cell? ⟨1, 0, none⟩ = some (.int .i64 m)) :
  Calls Tryz.prog 74 #[.string s] w fun e w' => Below w.heap.size w w' ∧
   ((fieldsOf s.data.toList).1.1 = 0 ∧ (∃ v L, e = .returned (.tuple #[v, .nilIface]) ∧ Fg w' v L ∧ L.map tx = (fieldsOf s.data.toList).2) ∨
   (fieldsOf s.data.toList).1.1 ≠ 0 ∧ ∃ p, e = .returned (.tuple #[.slice none 0 0, .iface 116 (.pointer (some ⟨p, 0, none⟩))]) ∧ w'.cell? ⟨p, 0, none⟩ = some (.int .i64 (fieldsOf s.data.toList).1.1) ∧ w'.cell? ⟨p, 1, none⟩ = some (.int .i64 ((fieldsOf s.data.toList).1.2 : Int))) := by
 have cS := split_is s m w (by omega) hm
 obtain ⟨hd, hhd⟩ : ∃ h : ByteArray, ⟨(headOf s.data.toList).toArray⟩ = h := ⟨_, rfl⟩
 have hdl : hd.data.toList = headOf s.data.toList := by rw [← hhd]
 have hds : hd.size ≤ s.size := by
  rw [← list_size, hdl, ← list_size s]
  unfold headOf
  rw [List.length_take]
  omega
 obtain ⟨F, hF⟩ : ∃ F, fieldsOf s.data.toList = F := ⟨_, rfl⟩
 have hF' : fieldsFrom 0 [] (pieces hd.data.toList) = F := by rw [← hF, hdl]; rfl
 rw [hhd] at cS
 rw [hF]
 have hgl := World.block_lt_of_cell? _ _ hm
 have hsp := split_pieces hd
 have hpl := Lib.splitB_all ⟨#[13, 10]⟩ (by decide) 0 _ hd rfl
 have hcl := Lib.countB_le ⟨#[13, 10]⟩ (by decide) _ hd (Nat.le_refl _)
 obtain ⟨P, hP⟩ : ∃ P, Lib.splitB ⟨#[13, 10]⟩ 0 (Lib.countB hd ⟨#[13, 10]⟩) hd = P := ⟨_, rfl⟩
 have hps : ∀ x ∈ P, x.size ≤ 2000000 := fun x hx => by
  have hm1 : x.data.toList ∈ pieces hd.data.toList := by rw [← hsp, hP]; exact List.mem_map_of_mem hx
  have := pieces_length _ _ hm1
  rw [list_size, list_size] at this
  omega
 rw [← hsp, hP] at hF'
 rw [hP] at hpl
 obtain ⟨N, hN⟩ : ∃ N, Lib.countB hd ⟨#[13, 10]⟩ + 1 = N := ⟨_, rfl⟩
 rw [hN] at hpl
 have hNs : N ≤ 90001 := by omega
 have HF0 : Hid (fieldsFrom 0 [] (P.map (·.data.toList)) = F) := hF'
 have HP : Hid (P.length = N ∧ ∀ x ∈ P, x.size ≤ 2000000) := ⟨hpl, hps⟩
 have cP0 : ∀ W, W.cell? ⟨1, 0, none⟩ = some (.int .i64 m) → Calls Tryz.prog 47 #[.string hd, .string ⟨#[13, 10]⟩] W fun e w' => e = .returned (.slice (some ⟨W.heap.size, 0, none⟩) N N) ∧ w' = W.alloc (.cells (P.map Value.string).toArray 9) := fun W hW => by
  have := Tryz.strings_Split hd ⟨#[13, 10]⟩ m W (by omega) hW (by decide)
  rw [hP, hN] at this
  exact this
 clear hF hF' hsp hpl hcl hP hps hN hhd hdl
 go_enter Tryz.func74, Tryz.ntmps74
 go_wp2_with fail
 refine cS.mono ?_
 clear cS
 rintro e w1 ⟨rfl, hb1⟩
 have hb2 : Below w.heap.size w (w1.alloc (.cells #[.slice none 0 0, .slice none 0 0] 148)) := hb1.alloc hb1.size _
 have hh2 := heap_alloc_new w1 (.cells #[.slice none 0 0, .slice none 0 0] 148)
 have cP := cP0 (w1.alloc (.cells #[.slice none 0 0, .slice none 0 0] 148)) ((hb2.cell hgl).trans hm)
 have hlb : w1.heap.size < (w1.alloc (.cells #[.slice none 0 0, .slice none 0 0] 148)).heap.size := by simp
 have hwb : w.heap.size ≤ w1.heap.size := hb1.size
 clear cP0 hb1
 go_wp2_with fail
 generalize w1.alloc (.cells #[.slice none 0 0, .slice none 0 0] 148) = W2 at hb2 hh2 cP hlb ⊢
 generalize w1.heap.size = b at hh2 hlb hwb ⊢
 refine cP.mono ?_
 clear cP
 rintro e w3 ⟨rfl, hw3⟩
 have hb3 : Below w.heap.size w w3 := by rw [hw3]; exact hb2.alloc hb2.size _
 have hb23 : Below W2.heap.size W2 w3 := by rw [hw3]; exact (Below.refl _ _).alloc (Nat.le_refl _) _
 have hh3 : w3.heap[b]? = some (.cells #[.slice none 0 0, .slice none 0 0] 148 (0, 0)) := (hb23.block b hlb).trans hh2
 have hpc : ∀ (j : Nat) x, P[j]? = some x → w3.cell? ⟨W2.heap.size, j, none⟩ = some (.string x) := fun j x hj => by
  have hn := heap_alloc_new W2 (.cells (P.map Value.string).toArray 9)
  rw [← hw3] at hn
  exact rd_cell hn (by rw [List.getElem?_toArray, List.getElem?_map, hj]; rfl)
 have hpb : W2.heap.size < w3.heap.size := by rw [hw3]; simp
 have hpne : W2.heap.size ≠ b := by omega
 have hst0 : St w3.heap.size b [] 0 w3 := ⟨[], [], ⟨_, _, hh3, World.ownsRow_nil _ _ _ _, World.ownsRow_nil _ _ _ _⟩, by simp, by simp, Or.inl ⟨rfl, rfl, rfl⟩⟩
 have hm3 := (hb3.cell hgl).trans hm
 obtain ⟨pb, hpbe⟩ : ∃ n, W2.heap.size = n := ⟨_, rfl⟩
 rw [hpbe] at hpc hpb hpne ⊢
 have HPC : Hid (∀ (j : Nat) x, P[j]? = some x → w3.cell? ⟨pb, j, none⟩ = some (.string x)) := hpc
 obtain ⟨base, hbase⟩ : ∃ n, w3.heap.size = n := ⟨_, rfl⟩
 rw [hbase] at hpb hst0
 have hwbase : w.heap.size ≤ base := by rw [← hbase]; exact hb3.size
 clear hb2 hh2 hw3 hb23 hh3 hpc hm hpbe
 go_wp2_with fail
 go_loopw [18] (fun i wr => ∃ (k : Nat) (l : List Hd.Fd), i = .int .i64 (k : Int) ∧ k ≤ N ∧ l.length ≤ 40 ∧ St base b l k wr ∧ Hid (fieldsFrom k l ((P.drop k).map (·.data.toList)) = F) ∧ But base b w3 wr) (fun i _ => N - (intOf i).toNat)
 case atStart => exact ⟨0, [], rfl, by omega, by simp, hst0, by show _ = _; simpa using HF0.out, to_but (Below.refl _ _)⟩
 case round =>
  obtain ⟨k, l, rfl, hk, hll, hst, HFF, hbt⟩ := hrel
  have hbR : base ≤ wr.heap.size := by rw [← hbase]; exact hbt.size
  have hBB : Below w.heap.size w wr := hb3.trans (hbt.below hwbase hwb)
  have hmr := (hbt.cell (p := ⟨1, 0, none⟩) (Nat.lt_of_lt_of_le hgl hwbase) (by show 1 ≠ b; have : 1 < w.heap.size := hgl; omega)).trans hm3
  by_cases hlt : k < N
  ·have hkP : k < P.length := by rw [HP.out.1]; exact hlt
   have c1 := HPC.out k _ (List.getElem?_eq_getElem hkP)
   obtain ⟨x, hx⟩ : ∃ x, P[k] = x := ⟨_, rfl⟩
   rw [hx] at c1
   have c2 := (hbt.cell (p := ⟨pb, k, none⟩) hpb hpne).trans c1
   have hxs : x.size ≤ 2000000 := by rw [← hx]; exact HP.out.2 _ (List.getElem_mem _)
   have HFX : Hid ((if (Hd.step l x.data.toList).1 = 0 then fieldsFrom (k + 1) (Hd.step l x.data.toList).2 ((P.drop (k + 1)).map (·.data.toList)) else (((Hd.step l x.data.toList).1, k), [])) = F) := by
    have := HFF.out
    rw [List.drop_eq_getElem_cons hkP, hx, List.map_cons, fieldsFrom_cons] at this
    exact this
   have cT := take_is base b k l x m wr hst hxs (by omega) hbR hll hmr
   have hsl := step_len (p := x.data.toList) hll
   obtain ⟨E, hE⟩ : ∃ E, Hd.step l x.data.toList = E := ⟨_, rfl⟩
   rw [hE] at cT HFX hsl
   obtain ⟨code, l2⟩ := E
   simp only at cT HFX hsl
   clear hx c1 hE HFF hst
   go_wp2_with fail
   refine cT.mono ?_
   clear cT
   rintro e w4 ⟨hb4, rfl, hst4⟩
   by_cases hc : code = 0
   ·have HN : Hid (fieldsFrom (k + 1) l2 ((P.drop (k + 1)).map (·.data.toList)) = F) := by have := HFX.out; rw [if_pos hc] at this; exact this
    have hs4 := hst4 hc
    subst hc
    clear hst4 HFX
    go_wp2_with fail
    go_roundw
    case rel => exact ⟨k + 1, l2, by go_num, by omega, hsl, hs4, HN.out, hbt.trans hb4⟩
    case measure => simp [intOf]; omega
   ·have HN : Hid (((code, k), []) = F) := by have := HFX.out; rw [if_neg hc] at this; exact this
    have hcn : (code != 0) = true := by rw [bne_iff_ne]; exact hc
    have hb5 := hBB.trans (hb4.below hwbase hwb)
    have hh5 := heap_alloc_new w4 (.cells #[.int .i64 code, .int .i64 (k : Int)] 118)
    clear hst4 HFX
    go_wp2_with fail
    go_ret2
    refine ⟨hb5.alloc hb5.size _, Or.inr ⟨by rw [← HN.out]; exact hc, _, rfl, ?_, ?_⟩⟩
    ·rw [← HN.out]; exact rd_cell hh5 rfl
    ·rw [← HN.out]; exact rd_cell hh5 rfl
  ·have HN : Hid (((0, 0), l) = F) := by
    have := HFF.out
    rw [List.drop_eq_nil_of_le (by rw [HP.out.1]; omega)] at this
    exact this
   have cA := all_is base b k l wr hst (by omega) hbR hll
   clear HFF hst
   go_wp2_with fail
   refine cA.mono ?_
   rintro e w4 ⟨⟨v, L, rfl, hfg, hL⟩, hb4⟩
   have hFv := hfg
   obtain ⟨va, vc, rfl, _⟩ := hFv
   have HFG : Hid (Fg w4 (.slice va L.length vc) L) := hfg
   have HL : Hid (L.map tx = l) := hL
   obtain ⟨LN, hLN⟩ : ∃ n, L.length = n := ⟨_, rfl⟩
   rw [hLN] at HFG ⊢
   clear hfg hL
   go_wp2_with fail
   go_ret2
   exact ⟨hBB.trans (hb4.below hwbase hwb), Or.inl ⟨by rw [← HN.out], _, L, rfl, HFG.out, by rw [HL.out, ← HN.out]⟩⟩
end Go.Proofs.YtogigccbnohjjaaGreatDoor
namespace Go.Proofs.Hd
open Go.Proofs.Sq
theorem joinV_len (v b : Tx) : (joinV v b).length ≤ v.length + b.length + 1 := by
 unfold joinV
 split
 ·omega
 ·split
  ·omega
  ·simp; omega
theorem onto_bound {M : Nat} : ∀ {l : List Fd} {b : Tx}, (∀ f ∈ l, f.2.length ≤ M) → ∀ f ∈ onto l b, f.2.length ≤ M + b.length + 1
 | [], _, _, f, hf => by simp [onto] at hf
 | [g], b, h, f, hf => by
  have hg := h g List.mem_cons_self
  rw [onto, List.mem_singleton] at hf
  subst hf
  have := joinV_len g.2 b
  show (joinV g.2 b).length ≤ _
  omega
 | g :: k :: r, b, h, f, hf => by
  rw [onto] at hf
  rcases List.mem_cons.1 hf with rfl | hf
  ·have := h _ List.mem_cons_self; omega
  ·exact onto_bound (fun x hx => h x (List.mem_cons_of_mem _ hx)) f hf
theorem cut_len (c : UInt8) : ∀ s : Tx, (cutAt c s).2.1.length ≤ s.length
 | [] => by simp [cutAt]
 | b :: r => by
  have ih := cut_len c r
  rw [cutAt]
  split
  ·simp
  ·simp only [List.length_cons]; omega
theorem step_bound {M : Nat} {l : List Fd} {p : Tx} (h : ∀ f ∈ l, f.2.length ≤ M) : ∀ f ∈ (step l p).2, f.2.length ≤ M + (p.length + 1) := by
 intro f hf
 unfold step at hf
 split at hf
 ·have := h f hf; omega
 ·split at hf
  ·simp at hf
  ·split at hf
   ·split at hf
    ·simp at hf
    ·have := onto_bound h f hf
     have := bare_length p
     omega
   ·split at hf
    ·simp at hf
    ·split at hf
     ·simp at hf
     ·rcases List.mem_append.1 hf with hf | hf
      ·have := h f hf; omega
      ·obtain rfl := List.mem_singleton.1 hf
       have h1 := bare_length (cutAt 58 p).2.1
       have h2 := cut_len 58 p
       show (bare (cutAt 58 p).2.1).length ≤ _
       omega
theorem fieldsFrom_bound : ∀ (ps : List Tx) (i M : Nat) (l : List Fd), (∀ f ∈ l, f.2.length ≤ M) → ∀ f ∈ (fieldsFrom i l ps).2, f.2.length ≤ M + (ps.map fun p => p.length + 1).sum
 | [], _, _, _, h, f, hf => by have := h f hf; simpa using this
 | p :: ps, i, M, l, h, f, hf => by
  rw [fieldsFrom] at hf
  split at hf
  ·have := fieldsFrom_bound ps (i + 1) (M + (p.length + 1)) _ (step_bound h) f hf
   rw [List.map_cons, List.sum_cons]
   omega
  ·simp at hf
theorem pieces_sum : ∀ (s : Tx), ((pieces s).map fun p => p.length + 1).sum ≤ s.length + 1
 | [] => by simp [pieces]
 | [c] => by simp [pieces]
 | c :: d :: r => by
  have h1 := pieces_sum r
  have h2 := pieces_sum (d :: r)
  rw [pieces]
  split
  ·simp only [List.map_cons, List.sum_cons, List.length_cons, List.length_nil]; omega
  ·cases hb : pieces (d :: r) with
   | nil => exact absurd hb (pieces_ne _)
   | cons q qs =>
    rw [hb] at h2
    simp only [List.map_cons, List.sum_cons, List.length_cons, List.headD_cons, List.tail_cons] at h2 ⊢
    omega
theorem values_short (s : Tx) : ∀ f ∈ (fieldsOf s).2, f.2.length ≤ s.length + 1 := by
 intro f hf
 have h1 := fieldsFrom_bound (pieces (headOf s)) 0 0 [] (by simp) f hf
 have h2 := pieces_sum (headOf s)
 have h3 : (headOf s).length ≤ s.length := by unfold headOf; rw [List.length_take]; omega
 omega
end Go.Proofs.Hd
namespace Go.Proofs.YtogigccbnohjjaaGreatDoor
open Go.RowKit Go.Proofs.Aid Go.Proofs.Hd Go.Proofs.Sq
def Short (L : List Fb) : Prop := ∀ f ∈ L, f.1.size ≤ 2000000 ∧ f.2.size ≤ 2000000
theorem short_of {L : List Fb} {V : Nat} (hV : V ≤ 2000000) (h : ∀ f ∈ L.map tx, Hd.Good f ∧ f.2.length ≤ V) : Short L := fun f hf => by
 have h1 := h (tx f) (List.mem_map_of_mem hf)
 have h2 := (name_ne h1.1.name).2
 have h3 := h1.2
 simp only [tx] at h2 h3
 rw [list_size] at h2 h3
 omega
end Go.Proofs.YtogigccbnohjjaaGreatDoor
