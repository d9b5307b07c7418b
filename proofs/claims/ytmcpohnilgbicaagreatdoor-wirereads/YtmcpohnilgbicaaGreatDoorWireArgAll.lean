/-
  What the method list of wire.reader does, by arg's contract.
  A block of six cells that is written, and rows of six. Of no program but by the reader's text.
  What the method arg of wire.reader does.
  What the method arg of wire.reader does at each kind of part.
-/
import Derived.Test.YtmcpohnilgbicaaGreatDoorWireRdAll
import Derived.Test.YtmcpohnilgbicaaGreatDoorArgRow
import Derived.Test.YtmcpohnilgbicaaGreatDoorButAid
import Derived.Test.YtmcpohnilgbicaaGreatDoorHeadSpec
import Derived.Test.YtmcpohnilgbicaaGreatDoorWireBound
namespace Go.Proofs
theorem Tryz.infoArg : (Tryz.prog.info? 59).map (fun i => (i.zero, i.size, i.bytes)) = some (some (.agg #[.int .i64 0, .string ⟨#[]⟩, .slice none 0 0]), 3, 48) := by kernel_rfl
end Go.Proofs
namespace Go.Proofs.YtmcpohnilgbicaaGreatDoor
open Go.RowKit Go.Proofs.Aid Go.Proofs.Hd

def slLen : Value → Nat
  | .slice _ n _ => n
  | _ => 0
/-- What arg leaves. -/
def OutA (w : World) (rb : Nat) (s : ByteArray) : Wd Sr.Ar → Ending → World → Prop
  | .bad n p, e, w' => ∃ N, e = thrownA N ∧ w.heap.size ≤ N ∧ AtIs w' N n p ∧ But w.heap.size rb w w'
  | .ok a p c, e, w' => ∃ ys, e = .returned (.agg ys.toArray) ∧ Ax w' (fun q => w.heap.size ≤ q) a ys ∧ RdW w' rb s p c ∧ But w.heap.size rb w w'
/-- What list leaves. -/
def OutL (w : World) (rb : Nat) (s : ByteArray) : Wd (List Sr.Ar) → Ending → World → Prop
  | .bad n p, e, w' => ∃ N, e = thrownA N ∧ w.heap.size ≤ N ∧ AtIs w' N n p ∧ But w.heap.size rb w w'
  | .ok l p c, e, w' => ∃ v, e = .returned v ∧ Agw w' (fun q => w.heap.size ≤ q) l v ∧ RdW w' rb s p c ∧ But w.heap.size rb w w'
/-- How far list has come. -/
def LsAt (g : Nat → Nat → Wd Sr.Ar) (T : Wd (List Sr.Ar)) (rb : Nat) (s : ByteArray) (w : World) (va : Option Addr) (N vc : Nat) (wr : World) : Prop :=
  ∃ (n : Nat) (acc : List Sr.Ar) (P c : Nat), acc.length = N ∧ T = moreW g s.data.toList n acc P c ∧ 62 ≤ c + n ∧ c ≤ 60 ∧ N ≤ c ∧ RdW wr rb s P c ∧ P ≤ s.size ∧ But w.heap.size rb w wr ∧
    ARow w.heap.size acc (.slice va acc.length vc) wr ∧ w.heap.size ≤ wr.heap.size
set_option maxHeartbeats 4000000 in
set_option maxRecDepth 100000 in
theorem list_wis (rb p c d : Nat) (s : ByteArray) (w : World) (g : Nat → Nat → Wd Sr.Ar) (hr : RdW w rb s p c) (hs : s.size ≤ 1000000) (hE : Ends s.data.toList) (hp : p + 2 ≤ s.size) (hc : c ≤ 60)
    (hG : ∀ p c a p' c', p + 2 ≤ s.size → g p c = .ok a p' c' → p' ≤ s.size ∧ c < c' ∧ c' ≤ 60)
    (cK : ∀ W p' c', RdW W rb s p' c' → p' + 2 ≤ s.size → c' ≤ 60 → But w.heap.size rb w W → Calls Tryz.prog 57 #[.pointer (some ⟨rb, 0, none⟩), .int .i64 (d : Int)] W fun e w' => OutA W rb s (g p' c') e w') :
    Calls Tryz.prog 78 #[.pointer (some ⟨rb, 0, none⟩), .int .i64 (d : Int)] w fun e w' => OutL w rb s (listW g s.data.toList p c) e w' := by
  obtain ⟨T, hT⟩ : ∃ T, listW g s.data.toList p c = T := ⟨_, rfl⟩
  rw [hT]
  unfold listW at hT
  have hrb := hr.lt
  have HK : Hid (∀ W p' c', RdW W rb s p' c' → p' + 2 ≤ s.size → c' ≤ 60 → But w.heap.size rb w W → Calls Tryz.prog 57 #[.pointer (some ⟨rb, 0, none⟩), .int .i64 (d : Int)] W fun e w' => OutA W rb s (g p' c') e w') := cK
  have HG : Hid (∀ p c a p' c', p + 2 ≤ s.size → g p c = .ok a p' c' → p' ≤ s.size ∧ c < c' ∧ c' ≤ 60) := hG
  have HE : Hid (Ends s.data.toList) := hE
  clear cK hG hE
  cases hq : tookW [41] s.data.toList p with
  | true =>
    rw [hq, if_pos rfl] at hT
    subst hT
    have cT := took_yes 41 rb p c s w hr hs (by omega) hq
    clear hr hq
    go_enter Tryz.func78, Tryz.ntmps78
    go_wp2_with fail
    refine cT.mono ?_
    rintro e w1 ⟨rfl, hr1, hb1⟩
    have HD : Hid (RdW w1 rb s (p + 1) c ∧ But w.heap.size rb w w1) := ⟨hr1, hb1⟩
    clear cT hr1 hb1
    go_wp2_with fail
    go_ret
    exact ⟨_, rfl, Agw.nil _ _, HD.out⟩
  | false =>
    rw [hq, if_neg (by simp)] at hT
    have cT := took_no 41 rb p c s w hr (by omega) hq
    have HR : Hid (RdW w rb s p c) := hr
    obtain ⟨j0, hj, hjz0, hjz1, hjz2⟩ := info_parts Tryz.infoArg
    clear hr hq
    go_enter Tryz.func78, Tryz.ntmps78
    go_wp2_with fail
    refine cT.mono ?_
    rintro e w1 ⟨rfl, hb1⟩
    have hs1 := hb1.size
    have cQ := HK.out w1 p c (HR.out.kept (hb1.block rb hrb)) hp hc (to_but hb1)
    obtain ⟨R, hR⟩ : ∃ R, g p c = R := ⟨_, rfl⟩
    rw [hR] at cQ hT
    have HB1 : Hid (Below w.heap.size w w1) := hb1
    clear cT hb1
    go_wp2_with fail
    refine cQ.mono ?_
    intro e w2 h2
    clear cQ
    cases R with
    | bad n q =>
      subst hT
      obtain ⟨N, rfl, hN, hA, hb2⟩ := h2
      have HD : Hid (w.heap.size ≤ N ∧ AtIs w2 N n q ∧ But w.heap.size rb w w2) := ⟨by omega, hA, (to_but HB1.out).trans (hb2.less (by omega))⟩
      clear hb2 hA hN
      unfold thrownA
      go_wp2_with fail
      exact ⟨rfl, N, rfl, HD.out⟩
    | ok a p2 c2 =>
      have hc2 := HG.out _ _ _ _ _ hp hR
      obtain ⟨ys, rfl, hk2, hr2, hb2⟩ := h2
      obtain ⟨tb, xa, xk, xc, rfl⟩ := ax_cells hk2
      obtain ⟨K, hK⟩ : ∃ K, a.kind = K := ⟨_, rfl⟩
      have hta : ([.int .i64 a.kind, .string tb, .slice xa xk xc] : List Value).toArray = #[.int .i64 K, .string tb, .slice xa xk xc] := by rw [hK]
      rw [hta]
      have hs2 := hb2.size
      have b3 : Below w2.heap.size w2 (w2.alloc (.cells #[.int .i64 K, .string tb, .slice xa xk xc] 59)) := (Below.refl _ _).alloc (Nat.le_refl _) _
      have hrow := ARow.lit (base := w.heap.size) (hk2.kept (Ok' := fun q => w.heap.size ≤ q) fun q hq _ => ⟨by omega, rfl⟩) (by omega)
      rw [hta] at hrow
      obtain ⟨W3, hW3⟩ : ∃ W, w2.alloc (.cells #[.int .i64 K, .string tb, .slice xa xk xc] 59) = W := ⟨_, rfl⟩
      rw [hW3] at b3 hrow
      have z3 := b3.size
      have HS : Hid (LsAt g T rb s w (some ⟨w2.heap.size, 0, none⟩) 1 1 W3) :=
        ⟨62, [a], p2, c2, rfl, hT.symm, by omega, hc2.2.2, by omega, hr2.kept (b3.block rb (by omega)), hc2.1, ((to_but HB1.out).trans (hb2.less (by omega))).trans (to_but (b3.mono (by omega))), hrow, by omega⟩
      clear hta hs2 b3 hrow z3 hk2 hr2 hb2 hT hc2 hK HB1 HR hR
      go_wp2_with fail
      go_loopw [5] (fun s5 wr => ∃ va N vc, s5 = .slice va N vc ∧ LsAt g T rb s w va N vc wr) (fun s5 _ => 61 - slLen s5)
      case atStart => exact ⟨_, _, _, rfl, HS.out⟩
      case round =>
        obtain ⟨va, N, vc, rfl, hks⟩ := hrel
        clear HS hW3 hs1
        obtain ⟨n, acc, P, c4, hN, hT, h62, h60, hNc, hr, hP, hb, hrow, hsz⟩ := hks
        obtain ⟨m, rfl⟩ : ∃ m, n = m + 1 := ⟨n - 1, by omega⟩
        rw [moreW] at hT
        cases hq : tookW [41] s.data.toList P with
        | true =>
          rw [hq, if_pos rfl] at hT
          subst hT
          have cT := took_yes 41 rb P c4 s wr hr hs hP hq
          have hag := hrow.ags
          rw [hN] at hag
          have HX : Hid (Agw wr (fun q => w.heap.size ≤ q) acc (.slice va N vc) ∧ But w.heap.size rb w wr) := ⟨hag, hb⟩
          clear hq hr hb hrow hag h62 hN
          go_wp2_with fail
          refine cT.mono ?_
          rintro e w5 ⟨rfl, hr5, hb5⟩
          have HD : Hid (Agw w5 (fun q => w.heap.size ≤ q) acc (.slice va N vc) ∧ RdW w5 rb s (P + 1) c4 ∧ But w.heap.size rb w w5) := ⟨HX.out.1.kept fun q hq hlt => ⟨hq, hb5.block q hlt (by omega)⟩, hr5, HX.out.2.trans (hb5.less (by omega))⟩
          clear cT hr5 hb5 HX
          go_wp2_with fail
          go_ret
          exact ⟨_, rfl, HD.out⟩
        | false =>
          rw [hq, if_neg (by simp)] at hT
          have cT := took_no 41 rb P c4 s wr hr hP hq
          have HBW : Hid (RdW wr rb s P c4 ∧ But w.heap.size rb w wr ∧ ARow w.heap.size acc (.slice va acc.length vc) wr ∧ acc.length = N) := ⟨hr, hb, hrow, hN⟩
          clear hq hr hb hrow hN
          go_wp2_with fail
          refine cT.mono ?_
          rintro e w5 ⟨rfl, hb5⟩
          have hs5 := hb5.size
          have hrw5 : RdW w5 rb s P c4 := HBW.out.1.kept (hb5.block rb (by omega))
          have cB := blank_is rb P c4 s w5 hrw5 hs hP
          have HB5 : Hid (But w.heap.size rb w w5 ∧ ARow w.heap.size acc (.slice va acc.length vc) w5) := ⟨HBW.out.2.1.trans (to_but (hb5.mono (by omega))), HBW.out.2.2.1.kept fun q _ hlt => hb5.block q hlt⟩
          clear cT hb5 hrw5
          unfold blankW at cB hT
          cases hq2 : tookW [32] s.data.toList P with
          | false =>
            rw [hq2, if_neg (by simp)] at cB hT
            have hT : T = .bad 3 P := hT
            subst hT
            go_wp2_with fail
            refine cB.mono ?_
            rintro e w6 ⟨N6, rfl, h6, hA6, hb6⟩
            have HD : Hid (w.heap.size ≤ N6 ∧ AtIs w6 N6 3 P ∧ But w.heap.size rb w w6) := ⟨by omega, hA6, HB5.out.1.trans (hb6.less (by omega))⟩
            clear cB h6 hA6 hb6
            unfold thrownA
            go_wp2_with fail
            exact ⟨rfl, N6, rfl, HD.out⟩
          | true =>
            rw [hq2, if_pos rfl] at cB hT
            have hP1 := HE.out.took hq2 (by decide) (by decide)
            rw [wsize] at hP1
            have hT : T = (g (P + 1) c4).then fun a p c => moreW g s.data.toList m (acc ++ [a]) p c := hT
            clear hq2
            go_wp2_with fail
            refine cB.mono ?_
            rintro e w6 ⟨rfl, hr6, hb6⟩
            have hs6 := hb6.size
            have hb06 : But w.heap.size rb w w6 := HB5.out.1.trans (hb6.less (by omega))
            have cQ := HK.out w6 (P + 1) c4 hr6 hP1 h60 hb06
            obtain ⟨R, hR⟩ : ∃ R, g (P + 1) c4 = R := ⟨_, rfl⟩
            rw [hR] at cQ hT
            have HR : Hid (g (P + 1) c4 = R) := hR
            have HTT : Hid (T = R.then fun a p c => moreW g s.data.toList m (acc ++ [a]) p c) := hT
            have HB6 : Hid (But w.heap.size rb w w6 ∧ ARow w.heap.size acc (.slice va acc.length vc) w6 ∧ acc.length = N) := ⟨hb06, HB5.out.2.kept fun q hq hlt => hb6.block q hlt (by omega), HBW.out.2.2.2⟩
            clear cB hr6 hb6 hb06 hR hT HB5 HBW
            go_wp2_with fail
            refine cQ.mono ?_
            intro e w7 h7
            clear cQ
            cases R with
            | bad n q =>
              have hTT : T = .bad n q := HTT.out
              subst hTT
              obtain ⟨N7, rfl, hN7, hA, hb7⟩ := h7
              have HD : Hid (w.heap.size ≤ N7 ∧ AtIs w7 N7 n q ∧ But w.heap.size rb w w7) := ⟨by omega, hA, HB6.out.1.trans (hb7.less (by omega))⟩
              clear hb7 hA hN7
              unfold thrownA
              go_wp2_with fail
              exact ⟨rfl, N7, rfl, HD.out⟩
            | ok a7 p7 c7 =>
              have hc7 := HG.out _ _ _ _ _ hP1 HR.out
              obtain ⟨ys, rfl, hk7, hr7, hb7⟩ := h7
              obtain ⟨tb, xa, xk, xc, rfl⟩ := ax_cells hk7
              obtain ⟨K, hK⟩ : ∃ K, a7.kind = K := ⟨_, rfl⟩
              have hta : ([.int .i64 a7.kind, .string tb, .slice xa xk xc] : List Value).toArray = #[.int .i64 K, .string tb, .slice xa xk xc] := by rw [hK]
              rw [hta]
              rw [hK] at hk7
              have hs7 := hb7.size
              obtain ⟨rows, hrl, hown, hsx, h6⟩ := HB6.out.2.1.kept (w' := w7) fun q hq hlt => hb7.block q hlt (by omega)
              have hoz : ∀ q, (Value.slice va acc.length vc).ownBlock = some q → q < w6.heap.size ∧ w.heap.size ≤ q := fun q hq => by
                obtain ⟨_, _, h, _⟩ := HB6.out.2.1
                exact ⟨(h.lt q hq).2, (h.lt q hq).1⟩
              rw [HB6.out.2.2] at hown
              have b8 : Below w7.heap.size w7 (w7.alloc (.cells #[.int .i64 K, .string tb, .slice xa xk xc] 59)) := (Below.refl _ _).alloc (Nat.le_refl _) _
              have hnews := World.news_of_block (heap_alloc_new w7 (.cells #[.int .i64 K, .string tb, .slice xa xk xc] 59))
              have HSX : Hid (rows.length = acc.length ∧ (∀ (j : Nat) k xs, acc[j]? = some k → rows[j]? = some xs → Ax w7 (fun q => w.heap.size ≤ q ∧ (Value.slice va acc.length vc).ownBlock ≠ some q) k xs) ∧ ∀ xs ∈ rows, xs.length = 3) := ⟨hrl, hsx, h6⟩
              have HOZ : Hid (∀ q, (Value.slice va acc.length vc).ownBlock = some q → q < w6.heap.size ∧ w.heap.size ≤ q) := hoz
              have HK7 : Hid (Ax w7 (fun q => w6.heap.size ≤ q) a7 [.int .i64 K, .string tb, .slice xa xk xc]) := hk7
              have HX7 : Hid (RdW w7 rb s p7 c7 ∧ But w6.heap.size rb w6 w7) := ⟨hr7, hb7⟩
              have HB8 : Hid (Below w7.heap.size w7 (w7.alloc (.cells #[.int .i64 K, .string tb, .slice xa xk xc] 59))) := b8
              clear hta hrl hsx h6 hoz hk7 hr7 hb7 b8 hK
              go_wp2_with (at_builtin; go_must (refine wpList_append_lies _ rfl (.tmp 17) (.tmp 21) 30 rfl w.heap.size 59 j0 (.agg #[.int .i64 0, .string ⟨#[]⟩, .slice none 0 0]) 3 48 Tryz.underlying30 hj hjz0 hjz1 hjz2 rfl (by decide) _ _ _ (by rfl) (hown.alloc _) ⟨w7.heap.size, 0, none⟩ 1 1 [.int .i64 K, .string tb, .slice xa xk xc] (by rfl) rfl hnews (by simp [Value.oneCell']) (by decide) (by unfold maxLen; omega) (by omega) (by simp; omega) _ rfl ?_); intro g8 cap8 w8 hown8 hg8 hor8 hlt8)
              have hp := ARow.push (base := w.heap.size) (z := w6.heap.size) (ks := acc) (va := va) (vc := vc) (w := w7) (k := a7) (rows := rows) HSX.out.1 HSX.out.2.1 HSX.out.2.2 (by omega) (fun q hq => (HOZ.out q hq).1) HK7.out HB8.out (by rw [HB6.out.2.2]; exact hown8) (by rw [HB6.out.2.2]; exact hg8) (by rw [HB6.out.2.2]; exact hor8)
              rw [HB6.out.2.2] at hp
              have hfar : ∀ q, q < w7.heap.size → q < w.heap.size → w8.heap[q]? = w7.heap[q]? := fun q h1 h2 => hp.2 q h1 (fun e => by have := (HOZ.out q (by rw [HB6.out.2.2]; exact e.symm)).2; omega)
              have HS8 : Hid (LsAt g T rb s w (some ⟨g8, 0, none⟩) (N + 1) cap8 w8) := by
                refine ⟨m, acc ++ [a7], p7, c7, by rw [List.length_append, HB6.out.2.2]; rfl, HTT.out, by omega, hc7.2.2, by omega, HX7.out.1.kept (hfar rb (by omega) (by omega)), hc7.1, ?_, ?_, ?_⟩
                · refine (HB6.out.1.trans (HX7.out.2.less (by omega))).trans ⟨?_, ?_, ?_, ?_, fun q hq _ => hfar q (by omega) (by omega)⟩
                  · exact hg8.os.trans HB8.out.os
                  · exact hg8.tape.trans HB8.out.tape
                  · exact hg8.output.trans HB8.out.output
                  · exact Nat.le_trans HB8.out.size hg8.size
                · rw [List.length_append, HB6.out.2.2]; exact hp.1
                · have := HB8.out.size; have := hg8.size; omega
              clear hown8 hg8 hor8 hp hfar
              go_roundw
              case rel => exact ⟨_, _, _, rfl, HS8.out⟩
              case measure => simp [slLen]; omega
end Go.Proofs.YtmcpohnilgbicaaGreatDoor
namespace Go.Proofs.YtmcpohnilgbicaaGreatDoor
open Go.RowKit Go.Proofs.Aid Go.Proofs.Hd

theorem setm_read {W : World} {b i : Nat} {arr : Array Value} {t : TypeId} (hh : W.heap[b]? = some (.cells arr t (0, 0))) (hi : i < arr.size) (x : Value) : (W.setCell ⟨b, i, none⟩ x).cell? ⟨b, i, none⟩ = some x :=
  rd_cell (rd_set x hh) (by rw [Array.getElem?_setIfInBounds_self_of_lt hi])
/-- Six cells that were set, read. -/
theorem six_set {W : World} {R : Nat} {a0 a1 a2 a3 a4 a5 : Value} {t : TypeId} (hh : W.heap[R]? = some (.cells #[a0, a1, a2, a3, a4, a5] t (0, 0))) (x0 x1 x2 x3 x4 x5 : Value) :
    ((((((W.setCell ⟨R, 0, none⟩ x0).setCell ⟨R, 1, none⟩ x1).setCell ⟨R, 2, none⟩ x2).setCell ⟨R, 3, none⟩ x3).setCell ⟨R, 4, none⟩ x4).setCell ⟨R, 5, none⟩ x5).heap[R]? = some (.cells #[x0, x1, x2, x3, x4, x5] t (0, 0)) := by
  have h0 := rd_set (i := 0) x0 hh
  have h1 := rd_set (i := 1) x1 h0
  have h2 := rd_set (i := 2) x2 h1
  have h3 := rd_set (i := 3) x3 h2
  have h4 := rd_set (i := 4) x4 h3
  exact rd_set (i := 5) x5 h4
theorem six_other (W : World) {R k : Nat} (h : k ≠ R) (x0 x1 x2 x3 x4 x5 : Value) : ((((((W.setCell ⟨R, 0, none⟩ x0).setCell ⟨R, 1, none⟩ x1).setCell ⟨R, 2, none⟩ x2).setCell ⟨R, 3, none⟩ x3).setCell ⟨R, 4, none⟩ x4).setCell ⟨R, 5, none⟩ x5).heap[k]? = W.heap[k]? := by
  rw [Below.heap_setCell _ _ _ _ h, Below.heap_setCell _ _ _ _ h, Below.heap_setCell _ _ _ _ h, Below.heap_setCell _ _ _ _ h, Below.heap_setCell _ _ _ _ h, Below.heap_setCell _ _ _ _ h]
theorem six_but {base rb R : Nat} {w W : World} (h : But base rb w W) (hR : base ≤ R) (x0 x1 x2 x3 x4 x5 : Value) : But base rb w ((((((W.setCell ⟨R, 0, none⟩ x0).setCell ⟨R, 1, none⟩ x1).setCell ⟨R, 2, none⟩ x2).setCell ⟨R, 3, none⟩ x3).setCell ⟨R, 4, none⟩ x4).setCell ⟨R, 5, none⟩ x5) :=
  h.trans (to_but ((((((((Below.refl base W).setCell (p := ⟨R, 0, none⟩) hR x0).setCell (p := ⟨R, 1, none⟩) hR x1).setCell (p := ⟨R, 2, none⟩) hR x2).setCell (p := ⟨R, 3, none⟩) hR x3).setCell (p := ⟨R, 4, none⟩) hR x4).setCell (p := ⟨R, 5, none⟩) hR x5)))
theorem flat_length {rows : List (List Value)} (h : ∀ xs ∈ rows, xs.length = 6) : rows.flatten.length = rows.length * 6 := by
  induction rows with
  | nil => rfl
  | cons r rs ih =>
    have h1 := h r List.mem_cons_self
    rw [List.flatten_cons, List.length_append, h1, ih (fun x hx => h x (List.mem_cons_of_mem _ hx)), List.length_cons]
    omega
theorem flat_get : ∀ {rows : List (List Value)} {j i : Nat} {xs : List Value}, (∀ ys ∈ rows, ys.length = 6) → rows[j]? = some xs → i < 6 → rows.flatten[j * 6 + i]? = xs[i]?
  | [], _, _, _, _, h, _ => by simp at h
  | r :: rs, 0, i, xs, h6, h, hi => by
    simp at h
    subst h
    rw [List.flatten_cons, Nat.zero_mul, Nat.zero_add, List.getElem?_append_left (by rw [h6 _ List.mem_cons_self]; exact hi)]
  | r :: rs, j + 1, i, xs, h6, h, hi => by
    have hr := h6 r List.mem_cons_self
    rw [List.flatten_cons, List.getElem?_append_right (by omega), hr, show (j + 1) * 6 + i - 6 = j * 6 + i by omega]
    exact flat_get (fun y hy => h6 y (List.mem_cons_of_mem _ hy)) (by simpa using h) hi
theorem six_facts {W : World} {R : Nat} {a0 a1 a2 a3 a4 a5 : Value} {t : TypeId} (hh : W.heap[R]? = some (.cells #[a0, a1, a2, a3, a4, a5] t (0, 0))) (x0 x1 x2 x3 x4 x5 : Value) :
    (W.cell? ⟨R, 0, none⟩ = some a0 ∧ W.cell? ⟨R, 1, none⟩ = some a1 ∧ W.cell? ⟨R, 2, none⟩ = some a2 ∧ W.cell? ⟨R, 3, none⟩ = some a3 ∧ W.cell? ⟨R, 4, none⟩ = some a4 ∧ W.cell? ⟨R, 5, none⟩ = some a5) ∧
    (W.frozen? ⟨R, 0, none⟩ = false ∧ W.frozen? ⟨R, 1, none⟩ = false ∧ W.frozen? ⟨R, 2, none⟩ = false ∧ W.frozen? ⟨R, 3, none⟩ = false ∧ W.frozen? ⟨R, 4, none⟩ = false ∧ W.frozen? ⟨R, 5, none⟩ = false) ∧
    ((W.setCell ⟨R, 0, none⟩ x0).cell? ⟨R, 0, none⟩ = some x0 ∧ ((W.setCell ⟨R, 0, none⟩ x0).setCell ⟨R, 1, none⟩ x1).cell? ⟨R, 1, none⟩ = some x1 ∧ (((W.setCell ⟨R, 0, none⟩ x0).setCell ⟨R, 1, none⟩ x1).setCell ⟨R, 2, none⟩ x2).cell? ⟨R, 2, none⟩ = some x2 ∧
      ((((W.setCell ⟨R, 0, none⟩ x0).setCell ⟨R, 1, none⟩ x1).setCell ⟨R, 2, none⟩ x2).setCell ⟨R, 3, none⟩ x3).cell? ⟨R, 3, none⟩ = some x3 ∧ (((((W.setCell ⟨R, 0, none⟩ x0).setCell ⟨R, 1, none⟩ x1).setCell ⟨R, 2, none⟩ x2).setCell ⟨R, 3, none⟩ x3).setCell ⟨R, 4, none⟩ x4).cell? ⟨R, 4, none⟩ = some x4 ∧
      ((((((W.setCell ⟨R, 0, none⟩ x0).setCell ⟨R, 1, none⟩ x1).setCell ⟨R, 2, none⟩ x2).setCell ⟨R, 3, none⟩ x3).setCell ⟨R, 4, none⟩ x4).setCell ⟨R, 5, none⟩ x5).cell? ⟨R, 5, none⟩ = some x5) := by
  have h0 := rd_set (i := 0) x0 hh
  have h1 := rd_set (i := 1) x1 h0
  have h2 := rd_set (i := 2) x2 h1
  have h3 := rd_set (i := 3) x3 h2
  have h4 := rd_set (i := 4) x4 h3
  exact ⟨⟨rd_cell hh rfl, rd_cell hh rfl, rd_cell hh rfl, rd_cell hh rfl, rd_cell hh rfl, rd_cell hh rfl⟩, ⟨rd_free hh 0, rd_free hh 1, rd_free hh 2, rd_free hh 3, rd_free hh 4, rd_free hh 5⟩,
    setm_read hh (by simp) x0, setm_read h0 (by simp) x1, setm_read h1 (by simp) x2, setm_read h2 (by simp) x3, setm_read h3 (by simp) x4, setm_read h4 (by simp) x5⟩end Go.Proofs.YtmcpohnilgbicaaGreatDoor
namespace Go.Proofs.YtmcpohnilgbicaaGreatDoor
open Go.RowKit Go.Proofs.Aid Go.Proofs.Hd

theorem three_other (W : World) {R k : Nat} (h : k ≠ R) (x0 x1 x2 : Value) : (((W.setCell ⟨R, 0, none⟩ x0).setCell ⟨R, 1, none⟩ x1).setCell ⟨R, 2, none⟩ x2).heap[k]? = W.heap[k]? := by
  rw [Below.heap_setCell _ _ _ _ h, Below.heap_setCell _ _ _ _ h, Below.heap_setCell _ _ _ _ h]
theorem three_but {base rb R : Nat} {w W : World} (h : But base rb w W) (hR : base ≤ R) (x0 x1 x2 : Value) : But base rb w (((W.setCell ⟨R, 0, none⟩ x0).setCell ⟨R, 1, none⟩ x1).setCell ⟨R, 2, none⟩ x2) :=
  h.trans (to_but (((((Below.refl base W).setCell (p := ⟨R, 0, none⟩) hR x0).setCell (p := ⟨R, 1, none⟩) hR x1).setCell (p := ⟨R, 2, none⟩) hR x2)))
theorem three_facts {W : World} {R : Nat} {a0 a1 a2 : Value} {t : TypeId} (hh : W.heap[R]? = some (.cells #[a0, a1, a2] t (0, 0))) (x0 x1 x2 : Value) :
    (W.cell? ⟨R, 0, none⟩ = some a0 ∧ W.cell? ⟨R, 1, none⟩ = some a1 ∧ W.cell? ⟨R, 2, none⟩ = some a2) ∧
    (W.frozen? ⟨R, 0, none⟩ = false ∧ W.frozen? ⟨R, 1, none⟩ = false ∧ W.frozen? ⟨R, 2, none⟩ = false) ∧
    ((W.setCell ⟨R, 0, none⟩ x0).cell? ⟨R, 0, none⟩ = some x0 ∧ ((W.setCell ⟨R, 0, none⟩ x0).setCell ⟨R, 1, none⟩ x1).cell? ⟨R, 1, none⟩ = some x1 ∧ (((W.setCell ⟨R, 0, none⟩ x0).setCell ⟨R, 1, none⟩ x1).setCell ⟨R, 2, none⟩ x2).cell? ⟨R, 2, none⟩ = some x2) := by
  have h0 := rd_set (i := 0) x0 hh
  have h1 := rd_set (i := 1) x1 h0
  exact ⟨⟨rd_cell hh rfl, rd_cell hh rfl, rd_cell hh rfl⟩, ⟨rd_free hh 0, rd_free hh 1, rd_free hh 2⟩, setm_read hh (by simp) x0, setm_read h0 (by simp) x1, setm_read h1 (by simp) x2⟩
/-- What a reader's functions read of the world besides: it stays, whatever the reader in block rb does. -/
def EnvW (w : World) (rb : Nat) (m : Int) : Prop := ∀ W, But w.heap.size rb w W → NumAt W ∧ W.cell? ⟨1, 0, none⟩ = some (.int .i64 m)
theorem EnvW.next {w W : World} {rb : Nat} {m : Int} (h : EnvW w rb m) (hb : But w.heap.size rb w W) : EnvW W rb m := fun W' h' => h W' (hb.trans (h'.less hb.size))
/-- arg has begun: a cell for its answer, one more is counted. -/
theorem arg_begun (rb p c : Nat) (s : ByteArray) (w : World) (hr : RdW w rb s p c) :
    ∃ W1 W2, w.alloc (.cells #[.int .i64 0, .string ⟨#[]⟩, .slice none 0 0] 59) = W1 ∧ W1.setCell ⟨rb, 2, none⟩ (.int .i64 ((c : Int) + 1)) = W2 ∧
      W1.cell? ⟨rb, 2, none⟩ = some (.int .i64 (c : Int)) ∧ W1.frozen? ⟨rb, 2, none⟩ = false ∧ W2.cell? ⟨rb, 2, none⟩ = some (.int .i64 ((c : Int) + 1)) ∧
      W2.heap.size = w.heap.size + 1 ∧ RdW W2 rb s p (c + 1) ∧ But w.heap.size rb w W2 ∧
      W2.heap[w.heap.size]? = some (.cells #[.int .i64 0, .string ⟨#[]⟩, .slice none 0 0] 59 (0, 0)) := by
  have hrb := hr.lt
  have b1 : Below w.heap.size w (w.alloc (.cells #[.int .i64 0, .string ⟨#[]⟩, .slice none 0 0] 59)) := (Below.refl _ _).alloc (Nat.le_refl _) _
  have e1 := heap_alloc_new w (.cells #[.int .i64 0, .string ⟨#[]⟩, .slice none 0 0] 59)
  have z1 : (w.alloc (.cells #[.int .i64 0, .string ⟨#[]⟩, .slice none 0 0] 59)).heap.size = w.heap.size + 1 := by simp
  generalize w.alloc (.cells #[.int .i64 0, .string ⟨#[]⟩, .slice none 0 0] 59) = W1 at b1 e1 z1
  have hr1 : RdW W1 rb s p c := hr.kept (b1.block rb hrb)
  have hs := rd_set (i := 2) (.int .i64 ((c : Int) + 1)) hr1
  refine ⟨W1, _, rfl, rfl, rd_cell hr1 rfl, rd_free hr1 2, setm_read hr1 (by simp) _, by simpa using z1, hs, (to_but b1).setB 2 _, ?_⟩
  rw [Below.heap_setCell _ _ _ _ (show w.heap.size ≠ rb by omega)]
  exact e1
theorem arg_done {w w3 : World} {rb p c : Nat} {s : ByteArray} {k : Int} {t : Tx} {l : List Sr.Ar} {tb : ByteArray} {lv : Value} (hrb : rb < w.heap.size) (htb : tb.data.toList = t) (hl : Agw w3 (fun q => w.heap.size + 1 ≤ q) l lv) (hr : RdW w3 rb s p c) (hb : But w.heap.size rb w w3) :
    OutA w rb s (.ok (.mk k t l) p c) (.returned (.agg #[.int .i64 k, .string tb, lv])) (((w3.setCell ⟨w.heap.size, 0, none⟩ (.int .i64 k)).setCell ⟨w.heap.size, 1, none⟩ (.string tb)).setCell ⟨w.heap.size, 2, none⟩ lv) :=
  ⟨[.int .i64 k, .string tb, lv], rfl, ⟨tb, lv, rfl, htb, hl.kept fun q hq _ => ⟨by omega, three_other _ (by omega) _ _ _⟩⟩, hr.kept (three_other _ (by omega) _ _ _), three_but hb (Nat.le_refl _) _ _ _⟩
set_option maxHeartbeats 2000000 in
set_option maxRecDepth 100000 in
theorem arg_limit (rb p c d : Nat) (s : ByteArray) (w : World) (hr : RdW w rb s p c) (hc : c ≤ 1000) (hd : d ≤ 1000) (h : 6 < d ∨ 60 < c + 1) :
    Calls Tryz.prog 57 #[.pointer (some ⟨rb, 0, none⟩), .int .i64 (d : Int)] w fun e w' => OutA w rb s (.bad 4 p) e w' := by
  obtain ⟨W1, W2, hW1, hW2, p1, f1, q1, z2, hr2, hb2, hE2⟩ := arg_begun rb p c s w hr
  have cF := fail_is rb p (c + 1) 4 s W2 hr2
  unfold thrownA at cF
  have HB : Hid (But w.heap.size rb w W2 ∧ W2.heap.size = w.heap.size + 1) := ⟨hb2, z2⟩
  clear hr hr2 hb2 hE2 z2
  by_cases h1 : 60 < c + 1
  · have d2 : decide ((60 : Int) < (c : Int) + 1) = true := decide_eq_true (by omega)
    go_enter Tryz.func57, Tryz.ntmps57
    go_wp2_with fail
    refine cF.mono ?_
    rintro e w3 ⟨rfl, ha, hb3⟩
    have HD : Hid (AtIs w3 W2.heap.size 4 p ∧ But w.heap.size rb w w3) := ⟨ha, HB.out.1.trans (to_but (hb3.mono (by have := HB.out.2; omega)))⟩
    clear cF ha hb3
    go_wp2_with fail
    exact ⟨rfl, _, rfl, by have := HB.out.2; omega, HD.out⟩
  · have d2 : decide ((60 : Int) < (c : Int) + 1) = false := decide_eq_false (by omega)
    have d1 : decide ((6 : Int) < (d : Int)) = true := decide_eq_true (by omega)
    go_enter Tryz.func57, Tryz.ntmps57
    go_wp2_with fail
    refine cF.mono ?_
    rintro e w3 ⟨rfl, ha, hb3⟩
    have HD : Hid (AtIs w3 W2.heap.size 4 p ∧ But w.heap.size rb w w3) := ⟨ha, HB.out.1.trans (to_but (hb3.mono (by have := HB.out.2; omega)))⟩
    clear cF ha hb3
    go_wp2_with fail
    exact ⟨rfl, _, rfl, by have := HB.out.2; omega, HD.out⟩
end Go.Proofs.YtmcpohnilgbicaaGreatDoor
namespace Go.Proofs.YtmcpohnilgbicaaGreatDoor
open Go.RowKit Go.Proofs.Aid Go.Proofs.Hd

set_option maxHeartbeats 2000000 in
set_option maxRecDepth 100000 in
theorem arg_counted (rb p c d : Nat) (s : ByteArray) (m : Int) (w : World) (hr : RdW w rb s p c) (hs : s.size ≤ 1000000) (hE : Ends s.data.toList) (hp : p + 2 ≤ s.size) (henv : EnvW w rb m) (hc : c + 1 ≤ 60) (hd : d ≤ 6) (h123 : tookW [123] s.data.toList p = true) :
    Calls Tryz.prog 57 #[.pointer (some ⟨rb, 0, none⟩), .int .i64 (d : Int)] w fun e w' => OutA w rb s ((countedW s.data.toList p (c + 1)).map fun t => .mk 2 t []) e w' := by
  obtain ⟨W1, W2, hW1, hW2, p1, f1, q1, z2, hr2, hb2, hE2⟩ := arg_begun rb p c s w hr
  have hrb := hr.lt
  have d1 : decide ((6 : Int) < (d : Int)) = false := decide_eq_false (by omega)
  have d2 : decide ((60 : Int) < (c : Int) + 1) = false := decide_eq_false (by omega)
  have cR := rest_is rb p (c + 1) s W2 hr2 (by omega)
  have cP : ∀ W, Calls Tryz.prog 52 #[.string (s.extract p s.size), .string ⟨#[123]⟩] W fun e w' => e = .returned (.bool true) ∧ w' = W := fun W => by
    have := Tryz.strings_HasPrefix (s.extract p s.size) ⟨#[123]⟩ W
    rw [took_has 123 s p, h123] at this
    exact this
  obtain ⟨T, hT⟩ : ∃ T, countedW s.data.toList p (c + 1) = T := ⟨_, rfl⟩
  rw [hT]
  have HT : Hid (countedW s.data.toList p (c + 1) = T) := hT
  have HENV : Hid (EnvW w rb m) := henv
  have HEN : Hid (Ends s.data.toList) := hE
  have HX : Hid (RdW W2 rb s p (c + 1) ∧ But w.heap.size rb w W2 ∧ W2.heap[w.heap.size]? = some (.cells #[.int .i64 0, .string ⟨#[]⟩, .slice none 0 0] 59 (0, 0)) ∧ W2.heap.size = w.heap.size + 1) := ⟨hr2, hb2, hE2, z2⟩
  clear hr hr2 hb2 hE2 z2 hT henv hE
  go_enter Tryz.func57, Tryz.ntmps57
  go_wp2_with fail
  refine cR.mono ?_
  rintro e w3 ⟨rfl, hb3⟩
  have hs3 := hb3.size
  have z2 := HX.out.2.2.2
  have HX3 : Hid (RdW w3 rb s p (c + 1) ∧ But w.heap.size rb w w3 ∧ w3.heap[w.heap.size]? = some (.cells #[.int .i64 0, .string ⟨#[]⟩, .slice none 0 0] 59 (0, 0)) ∧ w.heap.size + 1 ≤ w3.heap.size) := ⟨HX.out.1.kept (hb3.block rb (by omega)), HX.out.2.1.trans (to_but (hb3.mono (by omega))), (hb3.block w.heap.size (by omega)).trans HX.out.2.2.1, by omega⟩
  clear cR hb3 HX hs3 z2
  go_wp2_with fail
  refine (cP _).mono ?_
  rintro e w4 ⟨rfl, hw4⟩
  obtain rfl : w3 = w4 := hw4.symm
  clear cP
  have cC := counted_is rb p (c + 1) s m w3 HX3.out.1 hs h123 (fun W hW => (HENV.out W (HX3.out.2.1.trans (to_but (hW.mono (by have := HX3.out.2.2.2; omega))))).2) (HENV.out w3 HX3.out.2.1).1
  rw [HT.out] at cC
  have hz3 := HX3.out.2.2.2
  go_wp2_with fail
  refine cC.mono ?_
  intro e w7 h7
  clear cC
  cases T with
  | bad n q =>
    obtain ⟨N, rfl, hN, hA, hb7⟩ := h7
    have HD : Hid (w.heap.size ≤ N ∧ AtIs w7 N n q ∧ But w.heap.size rb w w7) := ⟨by omega, hA, HX3.out.2.1.trans (hb7.less (by omega))⟩
    clear hN hA hb7
    unfold thrownA
    go_wp2_with fail
    exact ⟨rfl, N, rfl, HD.out⟩
  | ok t q c7 =>
    obtain ⟨tb, rfl, htb, hr7, hb7⟩ := h7
    have e7 := (hb7.block w.heap.size (by omega) (by omega)).trans HX3.out.2.2.1
    obtain ⟨⟨s0, s1, s2⟩, ⟨sf0, sf1, sf2⟩, u0, u1, u2⟩ := three_facts e7 (.int .i64 2) (.string tb) (.slice none 0 0)
    have HD : Hid (OutA w rb s (.ok (.mk 2 t []) q c7) (.returned (.agg #[.int .i64 2, .string tb, .slice none 0 0])) _) := arg_done hrb htb (Agw.nil w7 _) hr7 (HX3.out.2.1.trans (hb7.less (by omega)))
    clear htb hr7 hb7 e7
    go_wp2_with fail
    exact bodyPost_ret (v := .agg #[.int .i64 2, .string tb, .slice none 0 0]) (by simp [results, Tryz.results57, go_sem, u0, u1, u2]) rfl HD.out
set_option maxHeartbeats 2000000 in
set_option maxRecDepth 100000 in
theorem arg_quoted (rb p c d : Nat) (s : ByteArray) (m : Int) (w : World) (hr : RdW w rb s p c) (hs : s.size ≤ 1000000) (hE : Ends s.data.toList) (hp : p + 2 ≤ s.size) (henv : EnvW w rb m) (hc : c + 1 ≤ 60) (hd : d ≤ 6) (h123 : tookW [123] s.data.toList p = false) (h34 : tookW [34] s.data.toList p = true) :
    Calls Tryz.prog 57 #[.pointer (some ⟨rb, 0, none⟩), .int .i64 (d : Int)] w fun e w' => OutA w rb s ((quotedW s.data.toList (p + 1) (c + 1) [] s.size).map fun t => .mk 2 t []) e w' := by
  obtain ⟨W1, W2, hW1, hW2, p1, f1, q1, z2, hr2, hb2, hE2⟩ := arg_begun rb p c s w hr
  have hrb := hr.lt
  have d1 : decide ((6 : Int) < (d : Int)) = false := decide_eq_false (by omega)
  have d2 : decide ((60 : Int) < (c : Int) + 1) = false := decide_eq_false (by omega)
  have cR := rest_is rb p (c + 1) s W2 hr2 (by omega)
  have cP : ∀ W, Calls Tryz.prog 52 #[.string (s.extract p s.size), .string ⟨#[123]⟩] W fun e w' => e = .returned (.bool false) ∧ w' = W := fun W => by
    have := Tryz.strings_HasPrefix (s.extract p s.size) ⟨#[123]⟩ W
    rw [took_has 123 s p, h123] at this
    exact this
  obtain ⟨T, hT⟩ : ∃ T, quotedW s.data.toList (p + 1) (c + 1) [] s.size = T := ⟨_, rfl⟩
  rw [hT]
  have HT : Hid (quotedW s.data.toList (p + 1) (c + 1) [] s.size = T) := hT
  have HENV : Hid (EnvW w rb m) := henv
  have HEN : Hid (Ends s.data.toList) := hE
  have HX : Hid (RdW W2 rb s p (c + 1) ∧ But w.heap.size rb w W2 ∧ W2.heap[w.heap.size]? = some (.cells #[.int .i64 0, .string ⟨#[]⟩, .slice none 0 0] 59 (0, 0)) ∧ W2.heap.size = w.heap.size + 1) := ⟨hr2, hb2, hE2, z2⟩
  clear hr hr2 hb2 hE2 z2 hT henv hE
  go_enter Tryz.func57, Tryz.ntmps57
  go_wp2_with fail
  refine cR.mono ?_
  rintro e w3 ⟨rfl, hb3⟩
  have hs3 := hb3.size
  have z2 := HX.out.2.2.2
  have HX3 : Hid (RdW w3 rb s p (c + 1) ∧ But w.heap.size rb w w3 ∧ w3.heap[w.heap.size]? = some (.cells #[.int .i64 0, .string ⟨#[]⟩, .slice none 0 0] 59 (0, 0)) ∧ w.heap.size + 1 ≤ w3.heap.size) := ⟨HX.out.1.kept (hb3.block rb (by omega)), HX.out.2.1.trans (to_but (hb3.mono (by omega))), (hb3.block w.heap.size (by omega)).trans HX.out.2.2.1, by omega⟩
  clear cR hb3 HX hs3 z2
  go_wp2_with fail
  refine (cP _).mono ?_
  rintro e w4 ⟨rfl, hw4⟩
  obtain rfl : w3 = w4 := hw4.symm
  clear cP
  have cT := took_yes 34 rb p (c + 1) s w3 HX3.out.1 hs (by omega) h34
  go_wp2_with fail
  refine cT.mono ?_
  rintro e w5 ⟨rfl, hrr, hb⟩
  have hsz := hb.size
  have hz3 := HX3.out.2.2.2
  have HX4 : Hid (RdW w5 rb s (p + 1) (c + 1) ∧ But w.heap.size rb w w5 ∧ w5.heap[w.heap.size]? = some (.cells #[.int .i64 0, .string ⟨#[]⟩, .slice none 0 0] 59 (0, 0)) ∧ w.heap.size + 1 ≤ w5.heap.size) := ⟨hrr, HX3.out.2.1.trans (hb.less (by omega)), (hb.block w.heap.size (by omega) (by omega)).trans HX3.out.2.2.1, by omega⟩
  clear cT hb hrr HX3 hsz hz3
  have cC := quoted_is rb (p + 1) (c + 1) s w5 HX4.out.1 hs HEN.out (by have := HEN.out.took h34 (by decide) (by decide); rw [wsize] at this; omega)
  rw [HT.out] at cC
  have hz3 := HX4.out.2.2.2
  go_wp2_with fail
  refine cC.mono ?_
  intro e w7 h7
  clear cC
  cases T with
  | bad n q =>
    obtain ⟨N, rfl, hN, hA, hb7⟩ := h7
    have HD : Hid (w.heap.size ≤ N ∧ AtIs w7 N n q ∧ But w.heap.size rb w w7) := ⟨by omega, hA, HX4.out.2.1.trans (hb7.less (by omega))⟩
    clear hN hA hb7
    unfold thrownA
    go_wp2_with fail
    exact ⟨rfl, N, rfl, HD.out⟩
  | ok t q c7 =>
    obtain ⟨tb, rfl, htb, hr7, hb7⟩ := h7
    have e7 := (hb7.block w.heap.size (by omega) (by omega)).trans HX4.out.2.2.1
    obtain ⟨⟨s0, s1, s2⟩, ⟨sf0, sf1, sf2⟩, u0, u1, u2⟩ := three_facts e7 (.int .i64 2) (.string tb) (.slice none 0 0)
    have HD : Hid (OutA w rb s (.ok (.mk 2 t []) q c7) (.returned (.agg #[.int .i64 2, .string tb, .slice none 0 0])) _) := arg_done hrb htb (Agw.nil w7 _) hr7 (HX4.out.2.1.trans (hb7.less (by omega)))
    clear htb hr7 hb7 e7
    go_wp2_with fail
    exact bodyPost_ret (v := .agg #[.int .i64 2, .string tb, .slice none 0 0]) (by simp [results, Tryz.results57, go_sem, u0, u1, u2]) rfl HD.out
set_option maxHeartbeats 2000000 in
set_option maxRecDepth 100000 in
theorem arg_word (rb p c d : Nat) (s : ByteArray) (m : Int) (w : World) (hr : RdW w rb s p c) (hs : s.size ≤ 1000000) (hE : Ends s.data.toList) (hp : p + 2 ≤ s.size) (henv : EnvW w rb m) (hc : c + 1 ≤ 60) (hd : d ≤ 6) (h123 : tookW [123] s.data.toList p = false) (h34 : tookW [34] s.data.toList p = false) (h40 : tookW [40] s.data.toList p = false) :
    Calls Tryz.prog 57 #[.pointer (some ⟨rb, 0, none⟩), .int .i64 (d : Int)] w fun e w' => OutA w rb s ((wordW s.data.toList p (c + 1)).map fun t => .mk 1 t []) e w' := by
  obtain ⟨W1, W2, hW1, hW2, p1, f1, q1, z2, hr2, hb2, hE2⟩ := arg_begun rb p c s w hr
  have hrb := hr.lt
  have d1 : decide ((6 : Int) < (d : Int)) = false := decide_eq_false (by omega)
  have d2 : decide ((60 : Int) < (c : Int) + 1) = false := decide_eq_false (by omega)
  have cR := rest_is rb p (c + 1) s W2 hr2 (by omega)
  have cP : ∀ W, Calls Tryz.prog 52 #[.string (s.extract p s.size), .string ⟨#[123]⟩] W fun e w' => e = .returned (.bool false) ∧ w' = W := fun W => by
    have := Tryz.strings_HasPrefix (s.extract p s.size) ⟨#[123]⟩ W
    rw [took_has 123 s p, h123] at this
    exact this
  obtain ⟨T, hT⟩ : ∃ T, wordW s.data.toList p (c + 1) = T := ⟨_, rfl⟩
  rw [hT]
  have HT : Hid (wordW s.data.toList p (c + 1) = T) := hT
  have HENV : Hid (EnvW w rb m) := henv
  have HEN : Hid (Ends s.data.toList) := hE
  have HX : Hid (RdW W2 rb s p (c + 1) ∧ But w.heap.size rb w W2 ∧ W2.heap[w.heap.size]? = some (.cells #[.int .i64 0, .string ⟨#[]⟩, .slice none 0 0] 59 (0, 0)) ∧ W2.heap.size = w.heap.size + 1) := ⟨hr2, hb2, hE2, z2⟩
  clear hr hr2 hb2 hE2 z2 hT henv hE
  go_enter Tryz.func57, Tryz.ntmps57
  go_wp2_with fail
  refine cR.mono ?_
  rintro e w3 ⟨rfl, hb3⟩
  have hs3 := hb3.size
  have z2 := HX.out.2.2.2
  have HX3 : Hid (RdW w3 rb s p (c + 1) ∧ But w.heap.size rb w w3 ∧ w3.heap[w.heap.size]? = some (.cells #[.int .i64 0, .string ⟨#[]⟩, .slice none 0 0] 59 (0, 0)) ∧ w.heap.size + 1 ≤ w3.heap.size) := ⟨HX.out.1.kept (hb3.block rb (by omega)), HX.out.2.1.trans (to_but (hb3.mono (by omega))), (hb3.block w.heap.size (by omega)).trans HX.out.2.2.1, by omega⟩
  clear cR hb3 HX hs3 z2
  go_wp2_with fail
  refine (cP _).mono ?_
  rintro e w4 ⟨rfl, hw4⟩
  obtain rfl : w3 = w4 := hw4.symm
  clear cP
  have cT := took_no 34 rb p (c + 1) s w3 HX3.out.1 (by omega) h34
  go_wp2_with fail
  refine cT.mono ?_
  rintro e w5 ⟨rfl, hb⟩
  have hsz := hb.size
  have hz3 := HX3.out.2.2.2
  have HX4 : Hid (RdW w5 rb s p (c + 1) ∧ But w.heap.size rb w w5 ∧ w5.heap[w.heap.size]? = some (.cells #[.int .i64 0, .string ⟨#[]⟩, .slice none 0 0] 59 (0, 0)) ∧ w.heap.size + 1 ≤ w5.heap.size) := ⟨HX3.out.1.kept (hb.block rb (by omega)), HX3.out.2.1.trans (to_but (hb.mono (by omega))), (hb.block w.heap.size (by omega)).trans HX3.out.2.2.1, by omega⟩
  clear cT hb HX3 hsz hz3
  have cT := took_no 40 rb p (c + 1) s w5 HX4.out.1 (by omega) h40
  go_wp2_with fail
  refine cT.mono ?_
  rintro e w6 ⟨rfl, hb⟩
  have hsz := hb.size
  have hz3 := HX4.out.2.2.2
  have HX5 : Hid (RdW w6 rb s p (c + 1) ∧ But w.heap.size rb w w6 ∧ w6.heap[w.heap.size]? = some (.cells #[.int .i64 0, .string ⟨#[]⟩, .slice none 0 0] 59 (0, 0)) ∧ w.heap.size + 1 ≤ w6.heap.size) := ⟨HX4.out.1.kept (hb.block rb (by omega)), HX4.out.2.1.trans (to_but (hb.mono (by omega))), (hb.block w.heap.size (by omega)).trans HX4.out.2.2.1, by omega⟩
  clear cT hb HX4 hsz hz3
  have cC := wword_is rb p (c + 1) s w6 HX5.out.1 hs (by omega)
  rw [HT.out] at cC
  have hz3 := HX5.out.2.2.2
  go_wp2_with fail
  refine cC.mono ?_
  intro e w7 h7
  clear cC
  cases T with
  | bad n q =>
    obtain ⟨N, rfl, hN, hA, hb7⟩ := h7
    have HD : Hid (w.heap.size ≤ N ∧ AtIs w7 N n q ∧ But w.heap.size rb w w7) := ⟨by omega, hA, HX5.out.2.1.trans (hb7.less (by omega))⟩
    clear hN hA hb7
    unfold thrownA
    go_wp2_with fail
    exact ⟨rfl, N, rfl, HD.out⟩
  | ok t q c7 =>
    obtain ⟨tb, rfl, htb, hr7, hb7⟩ := h7
    have e7 := (hb7.block w.heap.size (by omega) (by omega)).trans HX5.out.2.2.1
    obtain ⟨⟨s0, s1, s2⟩, ⟨sf0, sf1, sf2⟩, u0, u1, u2⟩ := three_facts e7 (.int .i64 1) (.string tb) (.slice none 0 0)
    have HD : Hid (OutA w rb s (.ok (.mk 1 t []) q c7) (.returned (.agg #[.int .i64 1, .string tb, .slice none 0 0])) _) := arg_done hrb htb (Agw.nil w7 _) hr7 (HX5.out.2.1.trans (hb7.less (by omega)))
    clear htb hr7 hb7 e7
    go_wp2_with fail
    exact bodyPost_ret (v := .agg #[.int .i64 1, .string tb, .slice none 0 0]) (by simp [results, Tryz.results57, go_sem, u0, u1, u2]) rfl HD.out
set_option maxHeartbeats 2000000 in
set_option maxRecDepth 100000 in
theorem arg_list (rb p c d : Nat) (s : ByteArray) (m : Int) (w : World) (hr : RdW w rb s p c) (hs : s.size ≤ 1000000) (hE : Ends s.data.toList) (hp : p + 2 ≤ s.size) (henv : EnvW w rb m) (hc : c + 1 ≤ 60) (hd : d ≤ 6) (h123 : tookW [123] s.data.toList p = false) (h34 : tookW [34] s.data.toList p = false) (h40 : tookW [40] s.data.toList p = true) (g : Nat → Nat → Wd Sr.Ar)
    (hG : ∀ p c a p' c', p + 2 ≤ s.size → g p c = .ok a p' c' → p' ≤ s.size ∧ c < c' ∧ c' ≤ 60)
    (cK : ∀ W p' c', RdW W rb s p' c' → p' + 2 ≤ s.size → c' ≤ 60 → But w.heap.size rb w W → Calls Tryz.prog 57 #[.pointer (some ⟨rb, 0, none⟩), .int .i64 ((d + 1 : Nat) : Int)] W fun e w' => OutA W rb s (g p' c') e w') :
    Calls Tryz.prog 57 #[.pointer (some ⟨rb, 0, none⟩), .int .i64 (d : Int)] w fun e w' => OutA w rb s ((listW g s.data.toList (p + 1) (c + 1)).map fun l => .mk 3 [] l) e w' := by
  obtain ⟨W1, W2, hW1, hW2, p1, f1, q1, z2, hr2, hb2, hE2⟩ := arg_begun rb p c s w hr
  have hrb := hr.lt
  have d1 : decide ((6 : Int) < (d : Int)) = false := decide_eq_false (by omega)
  have d2 : decide ((60 : Int) < (c : Int) + 1) = false := decide_eq_false (by omega)
  have cR := rest_is rb p (c + 1) s W2 hr2 (by omega)
  have cP : ∀ W, Calls Tryz.prog 52 #[.string (s.extract p s.size), .string ⟨#[123]⟩] W fun e w' => e = .returned (.bool false) ∧ w' = W := fun W => by
    have := Tryz.strings_HasPrefix (s.extract p s.size) ⟨#[123]⟩ W
    rw [took_has 123 s p, h123] at this
    exact this
  obtain ⟨T, hT⟩ : ∃ T, listW g s.data.toList (p + 1) (c + 1) = T := ⟨_, rfl⟩
  rw [hT]
  have HT : Hid (listW g s.data.toList (p + 1) (c + 1) = T) := hT
  have HENV : Hid (EnvW w rb m) := henv
  have HEN : Hid (Ends s.data.toList) := hE
  have HX : Hid (RdW W2 rb s p (c + 1) ∧ But w.heap.size rb w W2 ∧ W2.heap[w.heap.size]? = some (.cells #[.int .i64 0, .string ⟨#[]⟩, .slice none 0 0] 59 (0, 0)) ∧ W2.heap.size = w.heap.size + 1) := ⟨hr2, hb2, hE2, z2⟩
  clear hr hr2 hb2 hE2 z2 hT henv hE
  go_enter Tryz.func57, Tryz.ntmps57
  go_wp2_with fail
  refine cR.mono ?_
  rintro e w3 ⟨rfl, hb3⟩
  have hs3 := hb3.size
  have z2 := HX.out.2.2.2
  have HX3 : Hid (RdW w3 rb s p (c + 1) ∧ But w.heap.size rb w w3 ∧ w3.heap[w.heap.size]? = some (.cells #[.int .i64 0, .string ⟨#[]⟩, .slice none 0 0] 59 (0, 0)) ∧ w.heap.size + 1 ≤ w3.heap.size) := ⟨HX.out.1.kept (hb3.block rb (by omega)), HX.out.2.1.trans (to_but (hb3.mono (by omega))), (hb3.block w.heap.size (by omega)).trans HX.out.2.2.1, by omega⟩
  clear cR hb3 HX hs3 z2
  go_wp2_with fail
  refine (cP _).mono ?_
  rintro e w4 ⟨rfl, hw4⟩
  obtain rfl : w3 = w4 := hw4.symm
  clear cP
  have cT := took_no 34 rb p (c + 1) s w3 HX3.out.1 (by omega) h34
  go_wp2_with fail
  refine cT.mono ?_
  rintro e w5 ⟨rfl, hb⟩
  have hsz := hb.size
  have hz3 := HX3.out.2.2.2
  have HX4 : Hid (RdW w5 rb s p (c + 1) ∧ But w.heap.size rb w w5 ∧ w5.heap[w.heap.size]? = some (.cells #[.int .i64 0, .string ⟨#[]⟩, .slice none 0 0] 59 (0, 0)) ∧ w.heap.size + 1 ≤ w5.heap.size) := ⟨HX3.out.1.kept (hb.block rb (by omega)), HX3.out.2.1.trans (to_but (hb.mono (by omega))), (hb.block w.heap.size (by omega)).trans HX3.out.2.2.1, by omega⟩
  clear cT hb HX3 hsz hz3
  have cT := took_yes 40 rb p (c + 1) s w5 HX4.out.1 hs (by omega) h40
  go_wp2_with fail
  refine cT.mono ?_
  rintro e w6 ⟨rfl, hrr, hb⟩
  have hsz := hb.size
  have hz3 := HX4.out.2.2.2
  have HX5 : Hid (RdW w6 rb s (p + 1) (c + 1) ∧ But w.heap.size rb w w6 ∧ w6.heap[w.heap.size]? = some (.cells #[.int .i64 0, .string ⟨#[]⟩, .slice none 0 0] 59 (0, 0)) ∧ w.heap.size + 1 ≤ w6.heap.size) := ⟨hrr, HX4.out.2.1.trans (hb.less (by omega)), (hb.block w.heap.size (by omega) (by omega)).trans HX4.out.2.2.1, by omega⟩
  clear cT hb hrr HX4 hsz hz3
  have hz4 := HX5.out.2.2.2
  have hp1 := HEN.out.took h40 (by decide) (by decide)
  rw [wsize] at hp1
  have cC := list_wis rb (p + 1) (c + 1) (d + 1) s w6 g HX5.out.1 hs HEN.out hp1 hc hG (fun W p' c' h1 h2 h0 h3 => cK W p' c' h1 h2 h0 (HX5.out.2.1.trans (h3.less (by omega))))
  rw [HT.out, show ((d + 1 : Nat) : Int) = (d : Int) + 1 by omega] at cC
  go_wp2_with fail
  refine cC.mono ?_
  intro e w7 h7
  clear cC
  cases T with
  | bad n q =>
    obtain ⟨N, rfl, hN, hA, hb7⟩ := h7
    have HD : Hid (w.heap.size ≤ N ∧ AtIs w7 N n q ∧ But w.heap.size rb w w7) := ⟨by omega, hA, HX5.out.2.1.trans (hb7.less (by omega))⟩
    clear hN hA hb7
    unfold thrownA
    go_wp2_with fail
    exact ⟨rfl, N, rfl, HD.out⟩
  | ok l q c7 =>
    obtain ⟨lv, rfl, hl7, hr7, hb7⟩ := h7
    have e7 := (hb7.block w.heap.size (by omega) (by omega)).trans HX5.out.2.2.1
    obtain ⟨la, lc, hlv⟩ := hl7.form
    obtain ⟨LN, hLN⟩ : ∃ n, l.length = n := ⟨_, rfl⟩
    rw [hLN] at hlv
    subst hlv
    obtain ⟨⟨s0, s1, s2⟩, ⟨sf0, sf1, sf2⟩, u0, u1, u2⟩ := three_facts e7 (.int .i64 3) (.string ⟨#[]⟩) (.slice la LN lc)
    have HD : Hid (OutA w rb s (.ok (.mk 3 [] l) q c7) (.returned (.agg #[.int .i64 3, .string ⟨#[]⟩, .slice la LN lc])) _) := arg_done (tb := ⟨#[]⟩) hrb rfl (hl7.kept fun q hq _ => ⟨by omega, rfl⟩) hr7 (HX5.out.2.1.trans (hb7.less (by omega)))
    clear hl7 hr7 hb7 e7 hLN
    go_wp2_with fail
    exact bodyPost_ret (v := .agg #[.int .i64 3, .string ⟨#[]⟩, .slice la LN lc]) (by simp [results, Tryz.results57, go_sem, u0, u1, u2]) rfl HD.out
theorem arg_is (rb : Nat) (s : ByteArray) (m : Int) (hs : s.size ≤ 1000000) (hE : Ends s.data.toList) : ∀ (f d p c : Nat) (w : World), d + f = 7 → RdW w rb s p c → c ≤ 1000 → p + 2 ≤ s.size → EnvW w rb m →
    Calls Tryz.prog 57 #[.pointer (some ⟨rb, 0, none⟩), .int .i64 (d : Int)] w fun e w' => OutA w rb s (argW s.data.toList f p c) e w'
  | 0, d, p, c, w, hdf, hr, hc, hp, henv => arg_limit rb p c d s w hr hc (by omega) (Or.inl (by omega))
  | f + 1, d, p, c, w, hdf, hr, hc, hp, henv => by
    rw [argW]
    by_cases h60 : 60 < c + 1
    · rw [if_pos h60]
      exact arg_limit rb p c d s w hr hc (by omega) (Or.inr h60)
    · rw [if_neg h60]
      cases h123 : tookW [123] s.data.toList p with
      | true => rw [if_pos rfl]; exact arg_counted rb p c d s m w hr hs hE hp henv (by omega) (by omega) h123
      | false =>
        rw [if_neg (by simp)]
        cases h34 : tookW [34] s.data.toList p with
        | true => rw [if_pos rfl, wsize]; exact arg_quoted rb p c d s m w hr hs hE hp henv (by omega) (by omega) h123 h34
        | false =>
          rw [if_neg (by simp)]
          cases h40 : tookW [40] s.data.toList p with
          | true =>
            rw [if_pos rfl]
            refine arg_list rb p c d s m w hr hs hE hp henv (by omega) (by omega) h123 h34 h40 (argW s.data.toList f) (fun p c a p' c' hp h => ?_) (fun W p' c' h1 h2 h0 h3 => ?_)
            · have := arg_ok hE f p c a p' c' (by rw [wsize]; exact hp) h
              rw [wsize] at this
              exact this
            · exact arg_is rb s m hs hE f (d + 1) p' c' W (by omega) h1 (by omega) h2 (henv.next h3)
          | false => rw [if_neg (by simp)]; exact arg_word rb p c d s m w hr hs hE hp henv (by omega) (by omega) h123 h34 h40
end Go.Proofs.YtmcpohnilgbicaaGreatDoor
