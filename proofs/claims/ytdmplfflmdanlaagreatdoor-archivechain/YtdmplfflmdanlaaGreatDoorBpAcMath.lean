/-
  What stands while days of deeds are kept: a house, and what was saved , and more.
-/
import Derived.Test.YtdmplfflmdanlaaGreatDoorMArApplied
import Derived.Test.YtdmplfflmdanlaaGreatDoorBpArHouse
import Derived.Test.YtdmplfflmdanlaaGreatDoorMHsLoad
import Derived.Test.YtdmplfflmdanlaaGreatDoorMHsAll
import Derived.LaidEql
import Derived.Stop.Asserts
import Derived.RowKitTokens
namespace Go.Proofs.YtdmplfflmdanlaaGreatDoor
open Go.RowKit Go.Proofs.Aid Go.Proofs.Bx

theorem Sl.own {w w' : World} {v : Value} {l : List Nm} (h : Sl w v l) (hk : ∀ g, v.ownBlock = some g → g < w.heap.size → w'.heap[g]? = w.heap[g]?) : Sl w' v l := by
  obtain ⟨a, c, rfl, h0, h2⟩ := h
  refine ⟨a, c, rfl, h0, h2.imp id fun ⟨b, o, h3, h4⟩ => ⟨b, o, h3, fun j t hj => ?_⟩⟩
  have hc := h4 j t hj
  have hlt := World.block_lt_of_cell? _ _ hc
  exact (World.cell?_of_block (w := w) (a := ⟨b, o + j, none⟩) (hk b (by rw [h3]; rfl) hlt)).trans hc
theorem Bxr.own {w w' : World} {v : Value} {L : List Bxd} (h : Bxr w v L) (hk : ∀ g, v.ownBlock = some g → g < w.heap.size → w'.heap[g]? = w.heap[g]?) (hl : ∀ x ∈ L, ∀ lv, Lts w lv x.ls → Lts w' lv x.ls) : Bxr w' v L := by
  obtain ⟨a, c, rfl, h2⟩ := h
  refine ⟨a, c, rfl, h2.imp id fun ⟨b, o, h3, h4⟩ => ⟨b, o, h3, fun j x hj => ?_⟩⟩
  obtain ⟨q1, q2, lv, q3, q4⟩ := h4 j x hj
  have hlt := World.block_lt_of_cell? _ _ q1
  have hc : ∀ i, w'.cell? ⟨b, i, none⟩ = w.cell? ⟨b, i, none⟩ := fun i => World.cell?_of_block (w := w) (a := ⟨b, i, none⟩) (hk b (by rw [h3]; rfl) hlt)
  exact ⟨(hc _).trans q1, (hc _).trans q2, lv, (hc _).trans q3, hl x (List.mem_of_getElem? hj) lv q4⟩
/-- What was saved stays while a house is turned whose blocks are others. -/
theorem SvF.stay {B H hb mb : Nat} {w w' : World} {nv bv wv wv0 : Value} {S : Svd} {l : Bxs} {nx : Int} {W : List Nm} {C : Nat → Bxd} (h : SvF B w nv bv wv S) (st : Hst H hb mb l nx W C wv0 w) (hf : ∀ x ∈ S.boxes, ∀ y ∈ x.ls, y.flags = []) (hps : ∀ k, PS hb mb wv0 l k → k < B) (t : Tn (PS hb mb wv0 l) w w') : SvF B w' nv bv wv S := by
  have key : ∀ g, B ≤ g → g < w.heap.size → w'.heap[g]? = w.heap[g]? := fun g h1 h2 => t.block g h2 fun hp => by have := hps g hp; omega
  refine ⟨⟨h.1.1.own fun g h1 h2 => key g (h.1.2 g h1) h2, h.1.2⟩, ⟨h.2.1.1.own (fun g h1 h2 => key g (h.2.1.2 g h1) h2) fun x hx lv hl => ?_, h.2.1.2⟩, h.2.2.1.own fun g h1 h2 => key g (h.2.2.2 g h1) h2, h.2.2.2⟩
  exact hl.keepB (hf x hx) fun b i j n s hc hd => t.block b (World.block_lt_of_cell? _ _ hc) (ps_both st hc hd)
/-- What was saved stays while cells are turned that hold no text. -/
theorem SvF.turned {B sb : Nat} {w w' : World} {nv bv wv : Value} {S : Svd} {cs : Array Value} {t : TypeId} (h : SvF B w nv bv wv S) (hc : w.heap[sb]? = some (.cells cs t (0, 0))) (hn : ∀ u ∈ cs, NoTx u) (hb : But w.heap.size sb w w') (hs : sb < B) : SvF B w' nv bv wv S := by
  have htx : TxKeep w w' := tx_but hc hn fun j h1 h2 => hb.block j h1 h2
  exact ⟨⟨h.1.1.tx htx, h.1.2⟩, ⟨h.2.1.1.own (fun g h1 h2 => hb.block g h2 (by have := h.2.1.2 g h1; omega)) fun x _ lv hl => hl.tx htx, h.2.1.2⟩, h.2.2.1.tx htx, h.2.2.2⟩
theorem ps_lt {H hb mb : Nat} {l : Bxs} {nx : Int} {W : List Nm} {C : Nat → Bxd} {wv : Value} {w : World} (h : Hst H hb mb l nx W C wv w) : ∀ k, PS hb mb wv l k → k < w.heap.size := by
  rintro k (e | e | e | ⟨p, hp, e⟩)
  · rw [e]
    exact h.hse.hs.lt
  · obtain ⟨_, _, D, ⟨es, clock, h2, _⟩, _⟩ := h.hse.hs
    rw [e]
    exact (Array.getElem?_eq_some_iff.1 h2).1
  · obtain ⟨cap, cur, h1, _⟩ := h.row.tblk e
    exact (Array.getElem?_eq_some_iff.1 h1).1
  · rw [← e]
    exact (h.hse.bx p hp).lt
theorem HI.plainS {H K : Nat} {l : Bxs} {nx : Int} {W : List Nm} {C : Nat → Bxd} (h : HI H K l nx W C) : ∀ x ∈ (svOf l W nx C).boxes, ∀ y ∈ x.ls, y.flags = [] := fun x hx y hy => by
  obtain ⟨p, hp, rfl⟩ := List.mem_map.1 hx
  exact ((h.bx p hp).plain y hy).1
theorem HI.rise {H K : Nat} {l : Bxs} {nx : Int} {W : List Nm} {C : Nat → Bxd} (h : HI H K l nx W C) : ∀ x ∈ (svOf l W nx C).boxes, Rise x.ls := fun x hx => by
  obtain ⟨p, hp, rfl⟩ := List.mem_map.1 hx
  exact (h.bx p hp).inv.1
theorem HI.short9 {H K : Nat} {l : Bxs} {nx : Int} {W : List Nm} {C : Nat → Bxd} (h : HI H K l nx W C) : ∀ y ∈ (svOf l W nx C).boxes, y.ls.length ≤ 400 ∧ ∀ z ∈ y.ls, LtSm z := fun x hx => by
  obtain ⟨p, hp, rfl⟩ := List.mem_map.1 hx
  have g := h.bx p hp
  exact ⟨by have := g.most; omega, fun z hz => by unfold LtSm; rw [(g.plain z hz).1]; simp⟩
/-- A house stays while cells of something saved are turned. -/
theorem PH.apart {H K hb mb sb : Nat} {l : Bxs} {nx : Int} {W : List Nm} {C : Nat → Bxd} {wv : Value} {w w' : World} {cs : Array Value} (h : PH H K hb mb l nx W C wv w) (hc : w.heap[sb]? = some (.cells cs 26 (0, 0))) (hn : ∀ u ∈ cs, NoTx u) (hb' : But w.heap.size sb w w') : PH H K hb mb l nx W C wv w' := by
  have htx : TxKeep w w' := tx_but hc hn fun j h1 h2 => hb'.block j h1 h2
  have hnp := ps_kind h.st hc (by decide) (by decide) (by decide)
  have hk : ∀ k, PS hb mb wv l k → w'.heap[k]? = w.heap[k]? := fun k hp => hb'.block k (ps_lt h.st k hp) fun e => hnp (e ▸ hp)
  have hrow : WRow w' wv W := h.st.row.same fun g hg => hk g (Or.inr (Or.inr (Or.inl hg)))
  refine ⟨⟨⟨⟨(hk hb (Or.inl rfl)).trans h.st.hse.hs.1, h.st.hse.hs.2.same (hk mb (Or.inr (Or.inl rfl)))⟩, hrow.sl, fun p hp => ?_⟩, hrow, h.st.own, Nat.le_trans h.st.h0 hb'.size, h.st.h1, h.st.h2⟩, h.hi⟩
  exact (h.st.hse.bx p hp).tx (hk p.2 (Or.inr (Or.inr (Or.inr ⟨p, hp, rfl⟩)))) htx
/-- All that is wanted of what is global. -/
structure AEnv (w : World) : Prop where
  n : NEnv w
  g : SysAt w
  t : TabB w
  r : RdE w
theorem AEnv.below {w w' : World} (h : AEnv w) (hb : Below w.heap.size w w') : AEnv w' := ⟨h.n.below hb, h.g.below hb h.g.lt, h.t.below hb, h.r.below hb⟩
/-- Deeds of a day, one behind the other. -/
def Deeds (H hb mb K : Nat) (S : Nat → Prop) (ws wx : World) : Prop :=
  Tn S ws wx ∧ Below H ws wx ∧ ∃ l' nx' W' C' wv', PH H K hb mb l' nx' W' C' wv' wx ∧ ∀ k, PS hb mb wv' l' k → S k ∨ ws.heap.size ≤ k
theorem Deeds.start {H hb mb K : Nat} {l : Bxs} {nx : Int} {W : List Nm} {C : Nat → Bxd} {wv : Value} {w : World} (h : PH H K hb mb l nx W C wv w) : Deeds H hb mb K (PS hb mb wv l) w w :=
  ⟨Tn.of (Below.refl _ _), Below.refl _ _, l, nx, W, C, wv, h, fun _ hk => Or.inl hk⟩
theorem Deeds.next {H hb mb K : Nat} {S S' : Nat → Prop} {ws wx w' : World} {e : Ending} (h1 : Tn S ws wx) (h2 : Below H ws wx) (hS : ∀ k, S' k → S k ∨ ws.heap.size ≤ k) (h : DeedO H hb mb K S' wx e w') : Deeds H hb mb (K + 1) S ws w' := by
  obtain ⟨_, q2, q3, l', nx', W', C', wv', q4, q5⟩ := h
  refine ⟨⟨q2.os.trans h1.os, q2.tape.trans h1.tape, q2.output.trans h1.output, Nat.le_trans h1.size q2.size, fun k hk hn => (q2.block k (Nat.lt_of_lt_of_le hk h1.size) fun hs => ?_).trans (h1.block k hk hn)⟩, h2.trans q3, l', nx', W', C', wv', q4, fun k hk => ?_⟩
  · rcases hS k hs with q | q
    · exact hn q
    · omega
  · rcases q5 k hk with q | q
    · exact hS k q
    · exact Or.inr (Nat.le_trans h1.size q)
/-- A slice of days. -/
def DDs (w : World) (v : Value) (LL : List (List Dd)) : Prop := ∃ a c, v = .slice a LL.length c ∧ (LL = [] ∨ ∃ b o, a = some ⟨b, o, none⟩ ∧ ∀ (j : Nat) L, LL[j]? = some L → ∃ pv, w.cell? ⟨b, o + j, none⟩ = some pv ∧ Dds w pv L)
theorem DDs.below {w w' : World} {v : Value} {LL : List (List Dd)} (h : DDs w v LL) (hb : Below w.heap.size w w') : DDs w' v LL := by
  obtain ⟨a, c, h1, h2⟩ := h
  refine ⟨a, c, h1, h2.imp id fun ⟨b, o, h3, h4⟩ => ⟨b, o, h3, fun j L hj => ?_⟩⟩
  obtain ⟨pv, q1, q2⟩ := h4 j L hj
  exact ⟨pv, (hb.cell (p := ⟨b, _, none⟩) (World.block_lt_of_cell? _ _ q1)).trans q1, q2.below hb (Nat.le_refl _)⟩
theorem dds2_at {w : World} {a : Option Addr} {n c : Nat} {LL : List (List Dd)} (h : DDs w (.slice a n c) LL) {k : Nat} {L : List Dd} (hk : LL[k]? = some L) : ∃ b o pv, a = some ⟨b, o, none⟩ ∧ w.cell? ⟨b, o + k, none⟩ = some pv ∧ Dds w pv L := by
  obtain ⟨a', c', h1, h2⟩ := h
  injection h1 with h1 _ _
  subst h1
  rcases h2 with h2 | ⟨b, o, h3, h4⟩
  · rw [h2] at hk
    simp at hk
  · obtain ⟨pv, q1, q2⟩ := h4 k L hk
    exact ⟨b, o, pv, h3, q1, q2⟩
/-- A house, and what was kept of it. -/
structure Ac (w : World) (H hb mb K : Nat) (l : Bxs) (nx : Int) (W : List Nm) (C : Nat → Bxd) (wv : Value) (sb Bn : Nat) (nv bv wn : Value) (wr : World) : Prop where
  low : Below w.heap.size w wr
  ph : PH H K hb mb l nx W C wv wr
  cell : wr.heap[sb]? = some (.cells #[nv, bv, wn, .int .i64 nx] 26 (0, 0))
  now : SvF Bn wr nv bv wn (svOf l W nx C)
  ps : ∀ k, PS hb mb wv l k → k < Bn
  sbn : w.heap.size ≤ sb
  hH : w.heap.size ≤ H
theorem Ac.below {w : World} {H hb mb K : Nat} {l : Bxs} {nx : Int} {W : List Nm} {C : Nat → Bxd} {wv : Value} {sb Bn : Nat} {nv bv wn : Value} {wr w' : World} (h : Ac w H hb mb K l nx W C wv sb Bn nv bv wn wr) (hb' : Below wr.heap.size wr w') : Ac w H hb mb K l nx W C wv sb Bn nv bv wn w' :=
  ⟨h.low.trans (hb'.mono h.low.size), h.ph.below hb', (hb'.block sb (Array.getElem?_eq_some_iff.1 h.cell).1).trans h.cell, h.now.below hb', h.ps, h.sbn, h.hH⟩
theorem notx_sv {a b c : Option Addr} {i1 i2 j1 j2 k1 k2 : Nat} {n : Int} : ∀ u ∈ (#[Value.slice a i1 i2, .slice b j1 j2, .slice c k1 k2, .int .i64 n] : Array Value), NoTx u := by
  intro u hu s
  simp at hu
  rcases hu with rfl | rfl | rfl | rfl <;> exact fun e => by cases e
end Go.Proofs.YtdmplfflmdanlaaGreatDoor
namespace Go.Proofs.YtdmplfflmdanlaaGreatDoor
open Go.RowKit Go.Proofs.Aid Go.Proofs.Bx

/-- A new house. -/
theorem hst_new {w w2 : World} {H1 : Nat} (hH : w.heap.size ≤ H1) (h : HsAt w2 (H1 + 1) H1 [(inboxN, H1 + 2)] 2 (.slice none 0 0)) (hn : NewBox w2 (H1 + 2) 1) :
    Hst w.heap.size (H1 + 1) H1 [(inboxN, H1 + 2)] 2 [] (fun _ => ⟨1, 1, []⟩) (.slice none 0 0) w2 ∧ HI w.heap.size 0 [(inboxN, H1 + 2)] 2 [] (fun _ => ⟨1, 1, []⟩) := by
  have hl := h.lt
  have hone : ∀ p ∈ [((inboxN, H1 + 2) : Nm × Nat)], p = (inboxN, H1 + 2) := fun p hp => List.mem_singleton.1 hp
  refine ⟨⟨⟨h, ⟨none, 0, rfl, ⟨fun _ => rfl, Nat.le_refl _⟩, Or.inl rfl⟩, fun p hp => ?_⟩, Or.inl ⟨rfl, rfl⟩, fun g hg => (by cases hg), by omega, by omega, hH⟩, ⟨List.pairwise_singleton _ _, by simp, fun n hn2 i hi => ?_, fun n hn2 => ?_, ?_, by simp, List.Pairwise.nil, fun n hn2 => absurd hn2 List.not_mem_nil, ⟨by omega, by omega⟩, fun p hp => ?_, fun p hp q hq _ => ?_, fun p hp q hq _ => ?_, fun p hp => ?_⟩⟩
  · rw [hone p hp]
    exact newBox_at hn
  · obtain ⟨b, hb⟩ := hasB_true.1 hn2
    obtain rfl : n = inboxN := congrArg Prod.fst (hone _ hb)
    exact absurd (List.mem_of_getElem? hi) (by decide)
  · obtain ⟨b, hb⟩ := hasB_true.1 hn2
    obtain rfl : n = inboxN := congrArg Prod.fst (hone _ hb)
    kernel_rfl
  · exact hasB_true.2 ⟨_, List.mem_singleton.2 rfl⟩
  · rw [hone p hp]
    show w.heap.size ≤ H1 + 2
    omega
  · rw [hone p hp, hone q hq]
  · rw [hone p hp, hone q hq]
  · exact good_new ⟨by omega, by omega⟩
end Go.Proofs.YtdmplfflmdanlaaGreatDoor
namespace Go.Proofs.YtdmplfflmdanlaaGreatDoor
open Go.RowKit Go.Proofs.Aid Go.Proofs.Bx

theorem itoa_one {n : Nat} (h : n < 10) : Lib.itoa (n : Int) = [UInt8.ofNat (48 + n)] := by
  rw [Lib.itoa, if_neg (by omega), Int.toNat_natCast, Lib.decDigits, dif_pos h]
/-- What a new house has. -/
def newS (b : Nat) : Svd := svOf [(inboxN, b)] [] 2 fun _ => ⟨1, 1, []⟩
theorem new_full (b : Nat) : 70 :: houseB (newS b) = [70, 50, 59, 48, 59, 49, 59, 53, 58, 73, 78, 66, 79, 88, 49, 59, 49, 59, 48, 59] := by
  have h0 : Lib.itoa 0 = [48] := itoa_one (n := 0) (by omega)
  have h1 : Lib.itoa 1 = [49] := itoa_one (n := 1) (by omega)
  have h2 : Lib.itoa 2 = [50] := itoa_one (n := 2) (by omega)
  have h5 : Lib.itoa 5 = [53] := itoa_one (n := 5) (by omega)
  simp [houseB, newS, svOf, namesB, rowB, textB, numB, boxB, inboxN, h0, h1, h2, h5]
theorem new_change (b : Nat) : 68 :: changeB (lettersB (newS b).boxes) (newS b) = [68, 50, 59, 48, 59, 49, 59, 53, 58, 73, 78, 66, 79, 88, 49, 59, 49, 59, 48, 59, 48, 59] := by
  have h0 : Lib.itoa 0 = [48] := itoa_one (n := 0) (by omega)
  have h1 : Lib.itoa 1 = [49] := itoa_one (n := 1) (by omega)
  have h2 : Lib.itoa 2 = [50] := itoa_one (n := 2) (by omega)
  have h5 : Lib.itoa 5 = [53] := itoa_one (n := 5) (by omega)
  simp [changeB, newS, svOf, namesB, rowB, textB, numB, dboxB, inboxN, keptU, othersL, h0, h1, h2, h5]
set_option maxHeartbeats 8000000 in
set_option maxRecDepth 100000 in
theorem archived_is (w : World) (hE : AEnv w) : Calls Tryz.prog 18 #[] w fun e w' => e = .returned (.bool true) ∧ Below w.heap.size w w' := by
  have cN := new_is w
  have HE : Hid (AEnv w) := hE
  clear hE
  go_enter Tryz.func18, Tryz.ntmps18
  go_wp2_with fail
  refine cN.mono ?_
  rintro e w1 ⟨rfl, h1, hn1, hb1⟩
  obtain ⟨st, hi⟩ := hst_new (w := w) (Nat.le_refl _) h1 hn1
  have hsv : svOf [(inboxN, w.heap.size + 2)] [] 2 (fun _ => ⟨1, 1, []⟩) = newS (w.heap.size + 2) := rfl
  have cS : ∀ W, Below w1.heap.size w1 W → Calls Tryz.prog 20 #[.pointer (some ⟨w.heap.size + 1, 0, none⟩)] W fun e w' => (∃ nv bv wv', e = .returned (.agg #[nv, bv, wv', .int .i64 2]) ∧ SvF W.heap.size w' nv bv wv' (newS (w.heap.size + 2))) ∧ Below W.heap.size W w' := fun W hW =>
    save_f _ _ _ _ _ _ _ W (st.below hW).hse ((hi.saOk (by omega)).sml (by omega))
  have HS : Hid ((∀ W, Below w1.heap.size w1 W → Calls Tryz.prog 20 #[.pointer (some ⟨w.heap.size + 1, 0, none⟩)] W fun e w' => (∃ nv bv wv', e = .returned (.agg #[nv, bv, wv', .int .i64 2]) ∧ SvF W.heap.size w' nv bv wv' (newS (w.heap.size + 2))) ∧ Below W.heap.size W w') ∧ ArOk (newS (w.heap.size + 2)) ∧ (houseB (newS (w.heap.size + 2))).length ≤ 40000000 ∧ (changeB (lettersB (newS (w.heap.size + 2)).boxes) (newS (w.heap.size + 2))).length ≤ 40000000) := ⟨cS, hi.arOk (by omega), hi.full_len (by omega), hi.change_len (by omega) _⟩
  have HB1 : Hid (Below w.heap.size w w1) := hb1
  clear cN h1 hn1 hb1 st hi cS hsv
  go_wp2_with fail
  refine (HS.out.1 w1 (Below.refl _ _)).mono ?_
  rintro e w2 ⟨⟨nv, bv, wv, rfl, hs2⟩, hb2⟩
  have hB2 : Below w.heap.size w w2 := HB1.out.trans (hb2.mono HB1.out.size)
  have cF := full_is nv bv wv (newS (w.heap.size + 2)) w2 hs2.at HS.out.2.1 HS.out.2.2.1 (HE.out.n.below hB2) (HE.out.g.below hB2 HE.out.g.lt) (fun W hW => HE.out.t W (hB2.trans (hW.mono hB2.size)))
  rw [new_full] at cF
  have cF : Calls Tryz.prog 9 #[.agg #[nv, bv, wv, .int .i64 2]] w2 fun e w' => e = .returned (.tuple #[.string ⟨#[70, 50, 59, 48, 59, 49, 59, 53, 58, 73, 78, 66, 79, 88, 49, 59, 49, 59, 48, 59]⟩, .nilIface]) ∧ Below w2.heap.size w2 w' := cF
  obtain ⟨na, nc, rfl, _⟩ := id hs2.1.1
  obtain ⟨ba, bc, rfl, _⟩ := id hs2.2.1.1
  obtain ⟨wa, wc, rfl, _⟩ := id hs2.2.2.1
  have HB2 : Hid (Below w.heap.size w w2 ∧ Below w1.heap.size w1 w2) := ⟨hB2, hb2⟩
  clear hs2 hb2 hB2
  go_wp2_with fail
  refine cF.mono ?_
  rintro e w3 ⟨rfl, hb3⟩
  have HB3 : Hid (Below w.heap.size w w3 ∧ Below w1.heap.size w1 w3) := ⟨HB2.out.1.trans (hb3.mono HB2.out.1.size), HB2.out.2.trans (hb3.mono HB2.out.2.size)⟩
  clear cF hb3
  go_wp2_with fail
  refine (HS.out.1 w3 HB3.out.2).mono ?_
  rintro e w4 ⟨⟨nv, bv, wv, rfl, hs4⟩, hb4⟩
  obtain ⟨na, nc, rfl, _⟩ := id hs4.1.1
  obtain ⟨ba, bc, rfl, _⟩ := id hs4.2.1.1
  obtain ⟨wa, wc, rfl, _⟩ := id hs4.2.2.1
  have HB4 : Hid (Below w.heap.size w w4 ∧ Below w1.heap.size w1 w4) := ⟨HB3.out.1.trans (hb4.mono HB3.out.1.size), HB3.out.2.trans (hb4.mono HB3.out.2.size)⟩
  have HS4 : Hid (SvF w3.heap.size w4 _ _ _ (newS (w.heap.size + 2))) := hs4
  clear hs4 hb4
  go_wp2_with fail
  refine (HS.out.1 w4 HB4.out.2).mono ?_
  rintro e w5 ⟨⟨nv, bv, wv, rfl, hs5⟩, hb5⟩
  have hB5 : Below w.heap.size w w5 := HB4.out.1.trans (hb5.mono HB4.out.1.size)
  have cD := diff_is _ _ _ nv bv wv (newS (w.heap.size + 2)) (newS (w.heap.size + 2)) w5 (HS4.out.below hb5).at hs5.at HS.out.2.1 HS.out.2.1 HS.out.2.2.2 (HE.out.n.below hB5) (HE.out.g.below hB5 HE.out.g.lt) (fun W hW => HE.out.t W (hB5.trans (hW.mono hB5.size)))
  rw [new_change] at cD
  have cD : Calls Tryz.prog 15 #[.agg #[.slice na (newS (w.heap.size + 2)).names.length nc, .slice ba (newS (w.heap.size + 2)).boxes.length bc, .slice wa (newS (w.heap.size + 2)).wants.length wc, .int .i64 2], .agg #[nv, bv, wv, .int .i64 2]] w5 fun e w' => e = .returned (.tuple #[.string ⟨#[68, 50, 59, 48, 59, 49, 59, 53, 58, 73, 78, 66, 79, 88, 49, 59, 49, 59, 48, 59, 48, 59]⟩, .nilIface]) ∧ Below w5.heap.size w5 w' := cD
  obtain ⟨na', nc', rfl, _⟩ := id hs5.1.1
  obtain ⟨ba', bc', rfl, _⟩ := id hs5.2.1.1
  obtain ⟨wa', wc', rfl, _⟩ := id hs5.2.2.1
  have HB5 : Hid (Below w.heap.size w w5) := hB5
  clear hs5 hb5 hB5 HS4
  go_wp2_with fail
  refine cD.mono ?_
  rintro e w6 ⟨rfl, hb6⟩
  have HF : Hid (Below w.heap.size w w6) := HB5.out.trans (hb6.mono HB5.out.size)
  clear cD hb6
  go_wp2_with fail
  go_ret
  exact ⟨rfl, HF.out⟩
end Go.Proofs.YtdmplfflmdanlaaGreatDoor
