/-
  What the method list of wire.reader does, by arg's contract.
-/
import Derived.Test.YtligkpcoajnjmaaDoorWireQuo
import Derived.Test.YtligkpcoajnjmaaDoorArgRow
namespace Go.Proofs
theorem Tryd.infoArg : (Tryd.prog.info? 68).map (fun i => (i.zero, i.size, i.bytes)) = some (some (.agg #[.int .i64 0, .string ⟨#[]⟩, .slice none 0 0]), 3, 48) := by kernel_rfl
end Go.Proofs
namespace Go.Proofs.YtligkpcoajnjmaaDoor
open Go.RowKit Go.Proofs.Aid Go.Proofs.Hd

def slLen : Value → Nat
  | .slice _ n _ => n
  | _ => 0
/-- What arg leaves. -/
def OutA (w : World) (rb : Nat) (s : ByteArray) : Wd Sr.Ar → Ending → World → Prop
  | .bad n p, e, w' => ∃ N, e = thrownA N ∧ w.heap.size ≤ N ∧ AtIs w' N n p ∧ But w.heap.size rb w w'
  | .ok a p c, e, w' => ∃ ys, e = .returned (.agg ys.toArray) ∧ Ax w' (fun q => w.heap.size ≤ q) a ys ∧ RdW w' rb s p c ∧ But w.heap.size rb w w'
/-- What list leaves. -/
def OutL (w : World) (rb : Nat) (s : ByteArray) : Wd (List Sr.Ar) → Ending → World → Prop
  | .bad n p, e, w' => ∃ N, e = thrownA N ∧ w.heap.size ≤ N ∧ AtIs w' N n p ∧ But w.heap.size rb w w'
  | .ok l p c, e, w' => ∃ v, e = .returned v ∧ Agw w' (fun q => w.heap.size ≤ q) l v ∧ RdW w' rb s p c ∧ But w.heap.size rb w w'
/-- How far list has come. -/
def LsAt (g : Nat → Nat → Wd Sr.Ar) (T : Wd (List Sr.Ar)) (rb : Nat) (s : ByteArray) (w : World) (va : Option Addr) (N vc : Nat) (wr : World) : Prop :=
  ∃ (n : Nat) (acc : List Sr.Ar) (P c : Nat), acc.length = N ∧ T = moreW g s.data.toList n acc P c ∧ 62 ≤ c + n ∧ c ≤ 60 ∧ N ≤ c ∧ RdW wr rb s P c ∧ P ≤ s.size ∧ But w.heap.size rb w wr ∧
    ARow w.heap.size acc (.slice va acc.length vc) wr ∧ w.heap.size ≤ wr.heap.size
set_option maxHeartbeats 4000000 in
set_option maxRecDepth 100000 in
theorem list_wis (rb p c d : Nat) (s : ByteArray) (w : World) (g : Nat → Nat → Wd Sr.Ar) (hr : RdW w rb s p c) (hs : s.size ≤ 1000000) (hE : Ends s.data.toList) (hp : p + 2 ≤ s.size) (hc : c ≤ 60)
    (hG : ∀ p c a p' c', p + 2 ≤ s.size → g p c = .ok a p' c' → p' ≤ s.size ∧ c < c' ∧ c' ≤ 60)
    (cK : ∀ W p' c', RdW W rb s p' c' → p' + 2 ≤ s.size → c' ≤ 60 → But w.heap.size rb w W → Calls Tryd.prog 52 #[.pointer (some ⟨rb, 0, none⟩), .int .i64 (d : Int)] W fun e w' => OutA W rb s (g p' c') e w') :
    Calls Tryd.prog 77 #[.pointer (some ⟨rb, 0, none⟩), .int .i64 (d : Int)] w fun e w' => OutL w rb s (listW g s.data.toList p c) e w' := by
  obtain ⟨T, hT⟩ : ∃ T, listW g s.data.toList p c = T := ⟨_, rfl⟩
  rw [hT]
  unfold listW at hT
  have hrb := hr.lt
  have HK : Hid (∀ W p' c', RdW W rb s p' c' → p' + 2 ≤ s.size → c' ≤ 60 → But w.heap.size rb w W → Calls Tryd.prog 52 #[.pointer (some ⟨rb, 0, none⟩), .int .i64 (d : Int)] W fun e w' => OutA W rb s (g p' c') e w') := cK
  have HG : Hid (∀ p c a p' c', p + 2 ≤ s.size → g p c = .ok a p' c' → p' ≤ s.size ∧ c < c' ∧ c' ≤ 60) := hG
  have HE : Hid (Ends s.data.toList) := hE
  clear cK hG hE
  cases hq : tookW [41] s.data.toList p with
  | true =>
    rw [hq, if_pos rfl] at hT
    subst hT
    have cT := took_yes 41 rb p c s w hr hs (by omega) hq
    clear hr hq
    go_enter Tryd.func77, Tryd.ntmps77
    go_wp2_with fail
    refine cT.mono ?_
    rintro e w1 ⟨rfl, hr1, hb1⟩
    have HD : Hid (RdW w1 rb s (p + 1) c ∧ But w.heap.size rb w w1) := ⟨hr1, hb1⟩
    clear cT hr1 hb1
    go_wp2_with fail
    go_ret
    exact ⟨_, rfl, Agw.nil _ _, HD.out⟩
  | false =>
    rw [hq, if_neg (by simp)] at hT
    have cT := took_no 41 rb p c s w hr (by omega) hq
    have HR : Hid (RdW w rb s p c) := hr
    obtain ⟨j0, hj, hjz0, hjz1, hjz2⟩ := info_parts Tryd.infoArg
    clear hr hq
    go_enter Tryd.func77, Tryd.ntmps77
    go_wp2_with fail
    refine cT.mono ?_
    rintro e w1 ⟨rfl, hb1⟩
    have hs1 := hb1.size
    have cQ := HK.out w1 p c (HR.out.kept (hb1.block rb hrb)) hp hc (to_but hb1)
    obtain ⟨R, hR⟩ : ∃ R, g p c = R := ⟨_, rfl⟩
    rw [hR] at cQ hT
    have HB1 : Hid (Below w.heap.size w w1) := hb1
    clear cT hb1
    go_wp2_with fail
    refine cQ.mono ?_
    intro e w2 h2
    clear cQ
    cases R with
    | bad n q =>
      subst hT
      obtain ⟨N, rfl, hN, hA, hb2⟩ := h2
      have HD : Hid (w.heap.size ≤ N ∧ AtIs w2 N n q ∧ But w.heap.size rb w w2) := ⟨by omega, hA, (to_but HB1.out).trans (hb2.less (by omega))⟩
      clear hb2 hA hN
      unfold thrownA
      go_wp2_with fail
      exact ⟨rfl, N, rfl, HD.out⟩
    | ok a p2 c2 =>
      have hc2 := HG.out _ _ _ _ _ hp hR
      obtain ⟨ys, rfl, hk2, hr2, hb2⟩ := h2
      obtain ⟨tb, xa, xk, xc, rfl⟩ := ax_cells hk2
      obtain ⟨K, hK⟩ : ∃ K, a.kind = K := ⟨_, rfl⟩
      have hta : ([.int .i64 a.kind, .string tb, .slice xa xk xc] : List Value).toArray = #[.int .i64 K, .string tb, .slice xa xk xc] := by rw [hK]
      rw [hta]
      have hs2 := hb2.size
      have b3 : Below w2.heap.size w2 (w2.alloc (.cells #[.int .i64 K, .string tb, .slice xa xk xc] 68)) := (Below.refl _ _).alloc (Nat.le_refl _) _
      have hrow := ARow.lit (base := w.heap.size) (hk2.kept (Ok' := fun q => w.heap.size ≤ q) fun q hq _ => ⟨by omega, rfl⟩) (by omega)
      rw [hta] at hrow
      obtain ⟨W3, hW3⟩ : ∃ W, w2.alloc (.cells #[.int .i64 K, .string tb, .slice xa xk xc] 68) = W := ⟨_, rfl⟩
      rw [hW3] at b3 hrow
      have z3 := b3.size
      have HS : Hid (LsAt g T rb s w (some ⟨w2.heap.size, 0, none⟩) 1 1 W3) :=
        ⟨62, [a], p2, c2, rfl, hT.symm, by omega, hc2.2.2, by omega, hr2.kept (b3.block rb (by omega)), hc2.1, ((to_but HB1.out).trans (hb2.less (by omega))).trans (to_but (b3.mono (by omega))), hrow, by omega⟩
      clear hta hs2 b3 hrow z3 hk2 hr2 hb2 hT hc2 hK HB1 HR hR
      go_wp2_with fail
      go_loopw [5] (fun s5 wr => ∃ va N vc, s5 = .slice va N vc ∧ LsAt g T rb s w va N vc wr) (fun s5 _ => 61 - slLen s5)
      case atStart => exact ⟨_, _, _, rfl, HS.out⟩
      case round =>
        obtain ⟨va, N, vc, rfl, hks⟩ := hrel
        clear HS hW3 hs1
        obtain ⟨n, acc, P, c4, hN, hT, h62, h60, hNc, hr, hP, hb, hrow, hsz⟩ := hks
        obtain ⟨m, rfl⟩ : ∃ m, n = m + 1 := ⟨n - 1, by omega⟩
        rw [moreW] at hT
        cases hq : tookW [41] s.data.toList P with
        | true =>
          rw [hq, if_pos rfl] at hT
          subst hT
          have cT := took_yes 41 rb P c4 s wr hr hs hP hq
          have hag := hrow.ags
          rw [hN] at hag
          have HX : Hid (Agw wr (fun q => w.heap.size ≤ q) acc (.slice va N vc) ∧ But w.heap.size rb w wr) := ⟨hag, hb⟩
          clear hq hr hb hrow hag h62 hN
          go_wp2_with fail
          refine cT.mono ?_
          rintro e w5 ⟨rfl, hr5, hb5⟩
          have HD : Hid (Agw w5 (fun q => w.heap.size ≤ q) acc (.slice va N vc) ∧ RdW w5 rb s (P + 1) c4 ∧ But w.heap.size rb w w5) := ⟨HX.out.1.kept fun q hq hlt => ⟨hq, hb5.block q hlt (by omega)⟩, hr5, HX.out.2.trans (hb5.less (by omega))⟩
          clear cT hr5 hb5 HX
          go_wp2_with fail
          go_ret
          exact ⟨_, rfl, HD.out⟩
        | false =>
          rw [hq, if_neg (by simp)] at hT
          have cT := took_no 41 rb P c4 s wr hr hP hq
          have HBW : Hid (RdW wr rb s P c4 ∧ But w.heap.size rb w wr ∧ ARow w.heap.size acc (.slice va acc.length vc) wr ∧ acc.length = N) := ⟨hr, hb, hrow, hN⟩
          clear hq hr hb hrow hN
          go_wp2_with fail
          refine cT.mono ?_
          rintro e w5 ⟨rfl, hb5⟩
          have hs5 := hb5.size
          have hrw5 : RdW w5 rb s P c4 := HBW.out.1.kept (hb5.block rb (by omega))
          have cB := blank_is rb P c4 s w5 hrw5 hs hP
          have HB5 : Hid (But w.heap.size rb w w5 ∧ ARow w.heap.size acc (.slice va acc.length vc) w5) := ⟨HBW.out.2.1.trans (to_but (hb5.mono (by omega))), HBW.out.2.2.1.kept fun q _ hlt => hb5.block q hlt⟩
          clear cT hb5 hrw5
          unfold blankW at cB hT
          cases hq2 : tookW [32] s.data.toList P with
          | false =>
            rw [hq2, if_neg (by simp)] at cB hT
            have hT : T = .bad 3 P := hT
            subst hT
            go_wp2_with fail
            refine cB.mono ?_
            rintro e w6 ⟨N6, rfl, h6, hA6, hb6⟩
            have HD : Hid (w.heap.size ≤ N6 ∧ AtIs w6 N6 3 P ∧ But w.heap.size rb w w6) := ⟨by omega, hA6, HB5.out.1.trans (hb6.less (by omega))⟩
            clear cB h6 hA6 hb6
            unfold thrownA
            go_wp2_with fail
            exact ⟨rfl, N6, rfl, HD.out⟩
          | true =>
            rw [hq2, if_pos rfl] at cB hT
            have hP1 := HE.out.took hq2 (by decide) (by decide)
            rw [wsize] at hP1
            have hT : T = (g (P + 1) c4).then fun a p c => moreW g s.data.toList m (acc ++ [a]) p c := hT
            clear hq2
            go_wp2_with fail
            refine cB.mono ?_
            rintro e w6 ⟨rfl, hr6, hb6⟩
            have hs6 := hb6.size
            have hb06 : But w.heap.size rb w w6 := HB5.out.1.trans (hb6.less (by omega))
            have cQ := HK.out w6 (P + 1) c4 hr6 hP1 h60 hb06
            obtain ⟨R, hR⟩ : ∃ R, g (P + 1) c4 = R := ⟨_, rfl⟩
            rw [hR] at cQ hT
            have HR : Hid (g (P + 1) c4 = R) := hR
            have HTT : Hid (T = R.then fun a p c => moreW g s.data.toList m (acc ++ [a]) p c) := hT
            have HB6 : Hid (But w.heap.size rb w w6 ∧ ARow w.heap.size acc (.slice va acc.length vc) w6 ∧ acc.length = N) := ⟨hb06, HB5.out.2.kept fun q hq hlt => hb6.block q hlt (by omega), HBW.out.2.2.2⟩
            clear cB hr6 hb6 hb06 hR hT HB5 HBW
            go_wp2_with fail
            refine cQ.mono ?_
            intro e w7 h7
            clear cQ
            cases R with
            | bad n q =>
              have hTT : T = .bad n q := HTT.out
              subst hTT
              obtain ⟨N7, rfl, hN7, hA, hb7⟩ := h7
              have HD : Hid (w.heap.size ≤ N7 ∧ AtIs w7 N7 n q ∧ But w.heap.size rb w w7) := ⟨by omega, hA, HB6.out.1.trans (hb7.less (by omega))⟩
              clear hb7 hA hN7
              unfold thrownA
              go_wp2_with fail
              exact ⟨rfl, N7, rfl, HD.out⟩
            | ok a7 p7 c7 =>
              have hc7 := HG.out _ _ _ _ _ hP1 HR.out
              obtain ⟨ys, rfl, hk7, hr7, hb7⟩ := h7
              obtain ⟨tb, xa, xk, xc, rfl⟩ := ax_cells hk7
              obtain ⟨K, hK⟩ : ∃ K, a7.kind = K := ⟨_, rfl⟩
              have hta : ([.int .i64 a7.kind, .string tb, .slice xa xk xc] : List Value).toArray = #[.int .i64 K, .string tb, .slice xa xk xc] := by rw [hK]
              rw [hta]
              rw [hK] at hk7
              have hs7 := hb7.size
              obtain ⟨rows, hrl, hown, hsx, h6⟩ := HB6.out.2.1.kept (w' := w7) fun q hq hlt => hb7.block q hlt (by omega)
              have hoz : ∀ q, (Value.slice va acc.length vc).ownBlock = some q → q < w6.heap.size ∧ w.heap.size ≤ q := fun q hq => by
                obtain ⟨_, _, h, _⟩ := HB6.out.2.1
                exact ⟨(h.lt q hq).2, (h.lt q hq).1⟩
              rw [HB6.out.2.2] at hown
              have b8 : Below w7.heap.size w7 (w7.alloc (.cells #[.int .i64 K, .string tb, .slice xa xk xc] 68)) := (Below.refl _ _).alloc (Nat.le_refl _) _
              have hnews := World.news_of_block (heap_alloc_new w7 (.cells #[.int .i64 K, .string tb, .slice xa xk xc] 68))
              have HSX : Hid (rows.length = acc.length ∧ (∀ (j : Nat) k xs, acc[j]? = some k → rows[j]? = some xs → Ax w7 (fun q => w.heap.size ≤ q ∧ (Value.slice va acc.length vc).ownBlock ≠ some q) k xs) ∧ ∀ xs ∈ rows, xs.length = 3) := ⟨hrl, hsx, h6⟩
              have HOZ : Hid (∀ q, (Value.slice va acc.length vc).ownBlock = some q → q < w6.heap.size ∧ w.heap.size ≤ q) := hoz
              have HK7 : Hid (Ax w7 (fun q => w6.heap.size ≤ q) a7 [.int .i64 K, .string tb, .slice xa xk xc]) := hk7
              have HX7 : Hid (RdW w7 rb s p7 c7 ∧ But w6.heap.size rb w6 w7) := ⟨hr7, hb7⟩
              have HB8 : Hid (Below w7.heap.size w7 (w7.alloc (.cells #[.int .i64 K, .string tb, .slice xa xk xc] 68))) := b8
              clear hta hrl hsx h6 hoz hk7 hr7 hb7 b8 hK
              go_wp2_with (at_builtin; go_must (refine wpList_append_lies _ rfl (.tmp 17) (.tmp 21) 23 rfl w.heap.size 68 j0 (.agg #[.int .i64 0, .string ⟨#[]⟩, .slice none 0 0]) 3 48 Tryd.underlying23 hj hjz0 hjz1 hjz2 rfl (by decide) _ _ _ (by rfl) (hown.alloc _) ⟨w7.heap.size, 0, none⟩ 1 1 [.int .i64 K, .string tb, .slice xa xk xc] (by rfl) rfl hnews (by simp [Value.oneCell']) (by decide) (by unfold maxLen; omega) (by omega) (by simp; omega) _ rfl ?_); intro g8 cap8 w8 hown8 hg8 hor8 hlt8)
              have hp := ARow.push (base := w.heap.size) (z := w6.heap.size) (ks := acc) (va := va) (vc := vc) (w := w7) (k := a7) (rows := rows) HSX.out.1 HSX.out.2.1 HSX.out.2.2 (by omega) (fun q hq => (HOZ.out q hq).1) HK7.out HB8.out (by rw [HB6.out.2.2]; exact hown8) (by rw [HB6.out.2.2]; exact hg8) (by rw [HB6.out.2.2]; exact hor8)
              rw [HB6.out.2.2] at hp
              have hfar : ∀ q, q < w7.heap.size → q < w.heap.size → w8.heap[q]? = w7.heap[q]? := fun q h1 h2 => hp.2 q h1 (fun e => by have := (HOZ.out q (by rw [HB6.out.2.2]; exact e.symm)).2; omega)
              have HS8 : Hid (LsAt g T rb s w (some ⟨g8, 0, none⟩) (N + 1) cap8 w8) := by
                refine ⟨m, acc ++ [a7], p7, c7, by rw [List.length_append, HB6.out.2.2]; rfl, HTT.out, by omega, hc7.2.2, by omega, HX7.out.1.kept (hfar rb (by omega) (by omega)), hc7.1, ?_, ?_, ?_⟩
                · refine (HB6.out.1.trans (HX7.out.2.less (by omega))).trans ⟨?_, ?_, ?_, ?_, fun q hq _ => hfar q (by omega) (by omega)⟩
                  · exact hg8.os.trans HB8.out.os
                  · exact hg8.tape.trans HB8.out.tape
                  · exact hg8.output.trans HB8.out.output
                  · exact Nat.le_trans HB8.out.size hg8.size
                · rw [List.length_append, HB6.out.2.2]; exact hp.1
                · have := HB8.out.size; have := hg8.size; omega
              clear hown8 hg8 hor8 hp hfar
              go_roundw
              case rel => exact ⟨_, _, _, rfl, HS8.out⟩
              case measure => simp [slLen]; omega
end Go.Proofs.YtligkpcoajnjmaaDoor
