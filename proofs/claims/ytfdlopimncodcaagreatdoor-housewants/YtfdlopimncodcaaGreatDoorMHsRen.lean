/-
  A box is called otherwise: Rename, of a box that is not INBOX.
-/
import Derived.Test.YtfdlopimncodcaaGreatDoorMHsMove
namespace Go.Proofs.YtfdlopimncodcaaGreatDoor
open Go.RowKit Go.Proofs.Aid

set_option maxHeartbeats 4000000 in
set_option maxRecDepth 100000 in
theorem rename_is (nB : Nm → Option Nm) (hb mb : Nat) (l : Bxs) (nx : Int) (wv : Value) (s u : ByteArray) (N T : Nm) (w : World) (hN : NameC nB w) (h : HsAt w hb mb l nx wv) (hG : 8 ≤ w.heap.size) (hs : s.size ≤ 1000) (hu : u.size ≤ 1000) (hl : l.length ≤ 100) (hsm : ∀ p ∈ l, p.1.length ≤ 1000) (hn : 0 ≤ nx ∧ nx ≤ 900000)
    (e1 : nB s.data.toList = some N) (e2 : hasB l N = true) (e3 : nB u.data.toList = some T) (e4 : hasB l T = false) (e5 : N ≠ inboxN) :
    Calls Tryz.prog 32 #[.pointer (some ⟨hb, 0, none⟩), .string s, .string u] w fun e w' =>
      (inB T N = true ∧ e = .returned (errN 6) ∧ Below w.heap.size w w') ∨
      (inB T N = false ∧ ((mvNames l N).any fun x => decide (60 < (calledB T N x).length)) = true ∧ e = .returned (errN 4) ∧ Below w.heap.size w w') ∨
      (inB T N = false ∧ ((mvNames l N).any fun x => decide (60 < (calledB T N x).length)) = false ∧ 30 < l.length + (lackB l T).length ∧ e = .returned (errN 12) ∧ Below w.heap.size w w') ∨
      (inB T N = false ∧ ((mvNames l N).any fun x => decide (60 < (calledB T N x).length)) = false ∧ l.length + (lackB l T).length ≤ 30 ∧ e = .returned .nilIface ∧ HK hb mb w w' ∧ ∃ ps, Built w.heap.size w' nx (lackB l T) ps ∧ HsAt w' hb mb (mvAll T N (mvNames l N) (putAll l ps)) (nx + ((lackB l T).length : Int)) wv) := by
  have cT := there_is nB hb mb l nx wv s w hN h hs
  have HH : Hid (HsAt w hb mb l nx wv ∧ NameC nB w) := ⟨h, hN⟩
  have HE : Hid (nB s.data.toList = some N ∧ hasB l N = true ∧ nB u.data.toList = some T ∧ hasB l T = false ∧ N ≠ inboxN ∧ ∀ p ∈ l, p.1.length ≤ 1000) := ⟨e1, e2, e3, e4, e5, hsm⟩
  clear hN h e1 e2 e3 e4 e5 hsm
  go_enter Tryz.func32, Tryz.ntmps32
  go_wp2_with fail
  refine cT.mono ?_
  rintro e w1 ⟨hb1, ⟨r, hr, hr2, hr3, rfl⟩ | ⟨r, hr, hr3, rfl⟩ | ⟨hr, rfl⟩⟩
  · have hrN : r.data.toList = N := by rw [HE.out.1] at hr; exact (Option.some.inj hr).symm
    have h1 := HH.out.1.below hb1 (Nat.le_refl _)
    have cF := free_is nB hb mb l nx wv u w1 (HH.out.2.low (hb1.mono hG)) h1 hu
    have hE : ¬ r.toList = [73, 78, 66, 79, 88] := by rw [Lib.toList_data, hrN]; exact HE.out.2.2.2.2.1
    have hE2 : (r.toList == [73, 78, 66, 79, 88]) = false := beq_eq_false_iff_ne.2 hE
    have HR : Hid (r.data.toList = N ∧ HsAt w1 hb mb l nx wv ∧ Below w.heap.size w w1) := ⟨hrN, h1, hb1⟩
    clear cT hr hr3 hrN h1 hb1
    go_wp2_with fail
    refine cF.mono ?_
    rintro e w2 ⟨hb2, ⟨q, hq, hq2, hq3, rfl⟩ | ⟨q, hq, hq3, rfl⟩ | ⟨hq, rfl⟩⟩
    · have hqT : q.data.toList = T := by rw [HE.out.2.2.1] at hq; exact (Option.some.inj hq).symm
      have h2 := HR.out.2.1.below hb2 (Nat.le_refl _)
      have cM := move_is hb mb l nx wv r q w2 h2 (by omega) hq2 hl HE.out.2.2.2.2.2 (by rw [HR.out.1]; exact HE.out.2.1) hn
      rw [HR.out.1, hqT] at cM
      have HB2 : Hid (Below w.heap.size w w2) := HR.out.2.2.trans (hb2.mono HR.out.2.2.size)
      clear cF hq hq3 hqT h2 hb2
      go_wp2_with fail
      refine cM.mono ?_
      rintro e w3 hc
      have HC : Hid ((inB T N = true ∧ e = .returned (errN 6) ∧ Below w.heap.size w w3) ∨
        (inB T N = false ∧ ((mvNames l N).any fun x => decide (60 < (calledB T N x).length)) = true ∧ e = .returned (errN 4) ∧ Below w.heap.size w w3) ∨
        (inB T N = false ∧ ((mvNames l N).any fun x => decide (60 < (calledB T N x).length)) = false ∧ 30 < l.length + (lackB l T).length ∧ e = .returned (errN 12) ∧ Below w.heap.size w w3) ∨
        (inB T N = false ∧ ((mvNames l N).any fun x => decide (60 < (calledB T N x).length)) = false ∧ l.length + (lackB l T).length ≤ 30 ∧ e = .returned .nilIface ∧ HK hb mb w w3 ∧ ∃ ps, Built w.heap.size w3 nx (lackB l T) ps ∧ HsAt w3 hb mb (mvAll T N (mvNames l N) (putAll l ps)) (nx + ((lackB l T).length : Int)) wv)) := by
        have hz := HB2.out.size
        rcases hc with ⟨c1, c2, c3⟩ | ⟨c1, c2, c3, c4⟩ | ⟨c1, c2, c3, c4, c5⟩ | ⟨c1, c2, c3, c4, c5, ps, c6, c7⟩
        · exact Or.inl ⟨c1, c2, HB2.out.trans (c3.mono hz)⟩
        · exact Or.inr (Or.inl ⟨c1, c2, c3, HB2.out.trans (c4.mono hz)⟩)
        · exact Or.inr (Or.inr (Or.inl ⟨c1, c2, c3, c4, HB2.out.trans (c5.mono hz)⟩))
        · exact Or.inr (Or.inr (Or.inr ⟨c1, c2, c3, c4, (HK.of HB2.out).trans c5, ps, ⟨c6.1, fun j p hj => ⟨Nat.le_trans hz (c6.2.1 j p hj).1, (c6.2.1 j p hj).2⟩, c6.2.2⟩, c7⟩))
      obtain ⟨v, rfl⟩ : ∃ v, e = .returned v := by
        rcases hc with ⟨_, c2, _⟩ | ⟨_, _, c3, _⟩ | ⟨_, _, _, c4, _⟩ | ⟨_, _, _, c4, _⟩
        · exact ⟨_, c2⟩
        · exact ⟨_, c3⟩
        · exact ⟨_, c4⟩
        · exact ⟨_, c4⟩
      clear hc cM
      go_wp2_with fail
      go_ret
      exact HC.out
    · exact absurd hq3 (by rw [HE.out.2.2.1] at hq; rw [← Option.some.inj hq, HE.out.2.2.2.1]; simp)
    · rw [HE.out.2.2.1] at hq
      cases hq
  · exact absurd hr3 (by rw [HE.out.1] at hr; rw [← Option.some.inj hr, HE.out.2.1]; simp)
  · rw [HE.out.1] at hr
    cases hr
end Go.Proofs.YtfdlopimncodcaaGreatDoor
