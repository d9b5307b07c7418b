/-
  The walk of MimeParts.
  MimeParts returns true and leaves its arguments as they were, for every text and every list of numbers; the tables of numbers and of utf8, the document's Fine and errors.errorType lie as their initialisers lay them.
-/
import Derived.Test.YtgbbkdflnlagaaaGreatDoorMimeAsk
import Derived.Test.YtgbbkdflnlagaaaGreatDoorMimeSay
import Derived.Test.YtgbbkdflnlagaaaGreatDoorRefAsk
import Derived.Test.YtgbbkdflnlagaaaGreatDoorAsBare
import Derived.Deep.RegionHeld3
import Derived.Test.YtgbbkdflnlagaaaGreatDoorLaw
import Derived.Test.YtgbbkdflnlagaaaGreatDoorCards
import Derived.Test.YtgbbkdflnlagaaaGreatDoorTie
import Derived.Lib.LaidIn
import Derived.LaidHandle
import Derived.LaidLaws
import Derived.Deep.DeepHandedRow
import Derived.Deep.DeepWitnessRowRef
import Derived.ProofKit
namespace Go.Proofs.YtgbbkdflnlagaaaGreatDoor
open Go.RowKit Go.Proofs.Aid Go.Proofs.Sq Go.Proofs.Hd Go.Proofs.Mm

def zeroP : Mm.Pt := .mk [] [] 0 0 0 []
theorem six_zero (w : World) (Ok : Nat → Prop) : Six w Ok zeroP zeroSix := Six.mk ⟨#[]⟩ ⟨#[]⟩ 0 0 0 [] none 0 (fun _ => []) (by simp) (Or.inl rfl)
theorem six_open {w : World} {Ok : Nat → Prop} {p : Mm.Pt} {xs : List Value} (h : Six w Ok p xs) : ∃ (x0 x1 : ByteArray) (x2 x3 x4 : Int) (xa : Option Addr) (xk xc : Nat), xs = [.string x0, .string x1, .int .i64 x2, .int .i64 x3, .int .i64 x4, .slice xa xk xc] := by
  obtain ⟨tb, bb, l1, h1, n1, a1, k1, cc1, rfl⟩ := six_cells h
  exact ⟨_, _, _, _, _, _, _, _, rfl⟩
theorem box_facts {W : World} {b : Nat} {x0 x1 : ByteArray} {x2 x3 x4 : Int} {xa : Option Addr} {xk xc : Nat} (h : W.heap[b]? = some (.cells #[.string x0, .string x1, .int .i64 x2, .int .i64 x3, .int .i64 x4, .slice xa xk xc] 25 (0, 0))) : W.cell? ⟨b, 0, none⟩ = some (.string x0) ∧ W.cell? ⟨b, 1, none⟩ = some (.string x1) ∧ W.cell? ⟨b, 2, none⟩ = some (.int .i64 x2) ∧ W.cell? ⟨b, 3, none⟩ = some (.int .i64 x3) ∧ W.cell? ⟨b, 4, none⟩ = some (.int .i64 x4) ∧ W.cell? ⟨b, 5, none⟩ = some (.slice xa xk xc) :=
  ⟨rd_cell h rfl, rd_cell h rfl, rd_cell h rfl, rd_cell h rfl, rd_cell h rfl, rd_cell h rfl⟩
theorem box_new (w : World) (x0 x1 : ByteArray) (x2 x3 x4 : Int) (xa : Option Addr) (xk xc : Nat) : ∃ W, w.alloc (.cells #[.string x0, .string x1, .int .i64 x2, .int .i64 x3, .int .i64 x4, .slice xa xk xc] 25) = W ∧ Below w.heap.size w W ∧ W.heap[w.heap.size]? = some (.cells #[.string x0, .string x1, .int .i64 x2, .int .i64 x3, .int .i64 x4, .slice xa xk xc] 25 (0, 0)) ∧ w.heap.size < W.heap.size :=
  ⟨_, rfl, (Below.refl _ _).alloc (Nat.le_refl _) _, heap_alloc_new w _, by simp⟩
theorem zero_six : zeroSix = [.string ⟨#[]⟩, .string ⟨#[]⟩, .int .i64 0, .int .i64 0, .int .i64 0, .slice none 0 0] := rfl
set_option maxHeartbeats 8000000 in
set_option maxRecDepth 100000 in
theorem parts_small (s : ByteArray) (vp : Value) (path : List Int) (m : Int) (w : World) (hs : s.size ≤ 2000) (hp : Nq w vp path) (hpl : path.length ≤ 10) (hpz : ∀ z ∈ path, -9223372036854775808 ≤ z ∧ z ≤ 9223372036854775807) (hv : Vars m w) (htab : TabB w.heap.size w) (hg : ErrType w) :
    Calls Tryz.prog 3 #[.string s, vp] w fun e w' => e = .returned (.bool true) ∧ Below w.heap.size w w' := by
  have HV : Hid (∀ W, Below w.heap.size w W → Vars m W ∧ Nq W vp path ∧ TabB W.heap.size W ∧ ErrType W) := fun W h => ⟨hv.below h, hp.below h, htab.at h, hg.below h⟩
  have HPZ : Hid (∀ z ∈ path, -9223372036854775808 ≤ z ∧ z ≤ 9223372036854775807) := hpz
  have cR := rparse_is s m w (by omega) hv
  have i1 : ¬ (2000 : Int) < (s.size : Int) := by omega
  obtain ⟨pa, pc, rfl, _⟩ := hp
  obtain ⟨PN, hPN⟩ : ∃ n, path.length = n := ⟨_, rfl⟩
  have HPN : Hid (path.length = PN) := hPN
  rw [hPN] at hpl HV ⊢
  have i2 : ¬ (10 : Int) < (PN : Int) := by omega
  obtain ⟨G0, hG0⟩ : ∃ G, parseP s.data.toList = G := ⟨_, rfl⟩
  have HG0 : Hid (parseP s.data.toList = G0) := hG0
  clear hv htab hg hpz hPN hG0
  go_enter Tryz.func3, Tryz.ntmps3
  go_wp2_with fail
  refine cR.mono ?_
  clear cR
  rintro e w1 ⟨hb1, hcase1⟩
  obtain ⟨T, y0, y1, y2, y3, y4, ya, yk, yc, er, rfl, HT1⟩ : ∃ (T : Mm.Pt) (y0 y1 : ByteArray) (y2 y3 y4 : Int) (ya : Option Addr) (yk yc : Nat) (er : Int), e = .returned (.tuple #[.agg #[.string y0, .string y1, .int .i64 y2, .int .i64 y3, .int .i64 y4, .slice ya yk yc], .int .i64 er]) ∧ Hid (Six w1 (fun k => w.heap.size ≤ k) T [.string y0, .string y1, .int .i64 y2, .int .i64 y3, .int .i64 y4, .slice ya yk yc] ∧ ((G0 = none ∧ er = 4 ∧ T = zeroP) ∨ (G0 = some T ∧ er = 0))) := by
    rcases hcase1 with ⟨h1, rfl⟩ | ⟨p, xs, h1, rfl, h2⟩
    · exact ⟨zeroP, _, _, _, _, _, _, _, _, 4, rfl, ⟨six_zero _ _, Or.inl ⟨by rw [← HG0.out]; exact h1, rfl, rfl⟩⟩⟩
    · obtain ⟨y0, y1, y2, y3, y4, ya, yk, yc, rfl⟩ := six_open h2
      exact ⟨p, _, _, _, _, _, _, _, _, 0, rfl, ⟨h2, Or.inr ⟨by rw [← HG0.out]; exact h1, rfl⟩⟩⟩
  obtain ⟨W2, hW2, hb2, e2, z2⟩ := box_new w1 y0 y1 y2 y3 y4 ya yk yc
  have hb02 := hb1.trans (hb2.mono hb1.size)
  have cP := parse_is s m W2 (by omega) (HV.out W2 hb02).1.1
  go_wp2_with fail
  refine cP.mono ?_
  clear cP hW2 hcase1
  rintro e w3 ⟨hb3, hcase3⟩
  have hb03 := hb02.trans (hb3.mono hb02.size)
  obtain ⟨x0, x1, x2, x3, x4, xa, xk, xc, ev, rfl, HT3⟩ : ∃ (x0 x1 : ByteArray) (x2 x3 x4 : Int) (xa : Option Addr) (xk xc : Nat) (ev : Value), e = .returned (.tuple #[.agg #[.string x0, .string x1, .int .i64 x2, .int .i64 x3, .int .i64 x4, .slice xa xk xc], ev]) ∧ Hid (Six w3 (fun k => W2.heap.size ≤ k) T [.string x0, .string x1, .int .i64 x2, .int .i64 x3, .int .i64 x4, .slice xa xk xc] ∧ ((er = 4 ∧ ev = .iface 26 (.int .i64 4)) ∨ (er = 0 ∧ ev = .nilIface))) := by
    rcases hcase3 with ⟨h1, rfl⟩ | ⟨p, xs, h1, rfl, h2⟩
    · rw [HG0.out] at h1
      rcases HT1.out.2 with ⟨_, h4, rfl⟩ | ⟨h3, h4⟩
      · exact ⟨_, _, _, _, _, _, _, _, _, rfl, ⟨six_zero _ _, Or.inl ⟨h4, rfl⟩⟩⟩
      · rw [h1] at h3; cases h3
    · rw [HG0.out] at h1
      rcases HT1.out.2 with ⟨h3, _⟩ | ⟨h3, h4⟩
      · rw [h1] at h3; cases h3
      · rw [h1] at h3
        obtain rfl := Option.some.inj h3
        obtain ⟨x0, x1, x2, x3, x4, xa, xk, xc, rfl⟩ := six_open h2
        exact ⟨_, _, _, _, _, _, _, _, _, rfl, ⟨h2, Or.inr ⟨h4, rfl⟩⟩⟩
  obtain ⟨W4, hW4, hb4, e4, z4⟩ := box_new w3 x0 x1 x2 x3 x4 xa xk xc
  have hb04 := hb03.trans (hb4.mono hb03.size)
  have e24 := (hb4.block _ (Nat.lt_of_lt_of_le z2 hb3.size)).trans ((hb3.block _ z2).trans e2)
  have HCT : Hid (countP T ≤ 30) := by
    rcases HT1.out.2 with ⟨_, _, rfl⟩ | ⟨h3, _⟩
    · show countP zeroP ≤ 30; decide
    · exact parse_count (by rw [HG0.out]; exact h3)
  have HSX : Hid (∀ W, Below W4.heap.size W4 W → Six W (fun k => w.heap.size ≤ k) T [.string y0, .string y1, .int .i64 y2, .int .i64 y3, .int .i64 y4, .slice ya yk yc] ∧ Six W (fun k => W2.heap.size ≤ k) T [.string x0, .string x1, .int .i64 x2, .int .i64 x3, .int .i64 x4, .slice xa xk xc] ∧ W.heap[w1.heap.size]? = some (.cells #[.string y0, .string y1, .int .i64 y2, .int .i64 y3, .int .i64 y4, .slice ya yk yc] 25 (0, 0)) ∧ W.heap[w3.heap.size]? = some (.cells #[.string x0, .string x1, .int .i64 x2, .int .i64 x3, .int .i64 x4, .slice xa xk xc] 25 (0, 0))) := by
    intro W h
    have h14 := hb2.trans ((hb3.trans (hb4.mono hb3.size)).mono hb2.size)
    exact ⟨HT1.out.1.under (h14.trans (h.mono h14.size)), HT3.out.1.under (hb4.trans (h.mono hb4.size)), (h.block _ (Nat.lt_of_lt_of_le z2 (Nat.le_trans hb3.size hb4.size))).trans e24, (h.block _ z4).trans e4⟩
  have HER : Hid ((er = 4 ∧ G0 = none ∧ ev = .iface 26 (.int .i64 4)) ∨ (er = 0 ∧ G0 = some T ∧ ev = .nilIface)) := by
    rcases HT3.out.2 with ⟨h1, h2⟩ | ⟨h1, h2⟩
    · rcases HT1.out.2 with ⟨h3, _⟩ | ⟨_, h4⟩
      · exact Or.inl ⟨h1, h3, h2⟩
      · omega
    · rcases HT1.out.2 with ⟨_, h4, _⟩ | ⟨h3, _⟩
      · omega
      · exact Or.inr ⟨h1, h3, h2⟩
  have cB : ∀ W, Below w.heap.size w W → Calls Tryz.prog 9 #[ev, .int .i64 er] W fun e w' => e = .returned (.bool true) ∧ Below W.heap.size W w' := by
    intro W hW
    rcases HER.out with ⟨rfl, _, rfl⟩ | ⟨rfl, _, rfl⟩
    · have := bare_err 4 4 W (HV.out W hW).2.2.2
      rw [show ((4 : Int) == 4) = true from rfl] at this
      exact this
    · have := bare_nil 0 W
      rw [show ((0 : Int) == 0) = true from rfl] at this
      exact this
  have cS : ∀ W, Below W4.heap.size W4 W → Calls Tryz.prog 10 #[.agg #[.string x0, .string x1, .int .i64 x2, .int .i64 x3, .int .i64 x4, .slice xa xk xc], .agg #[.string y0, .string y1, .int .i64 y2, .int .i64 y3, .int .i64 y4, .slice ya yk yc]] W fun e w' => e = .returned (.bool true) ∧ Below W.heap.size W w' := fun W hW => same_is 30 T _ _ _ _ W HCT.out HCT.out (HSX.out W hW).2.1 (HSX.out W hW).1
  clear HT1 HT3 hcase3 e2 e4 e24 hb1 hb2 hb3 hb4
  go_wp2_with fail
  refine (cB W4 hb04).mono ?_
  rintro e w5 ⟨rfl, hb5⟩
  obtain ⟨c50, c51, c52, c53, c54, c55⟩ := box_facts (HSX.out w5 hb5).2.2.1
  obtain ⟨d50, d51, d52, d53, d54, d55⟩ := box_facts (HSX.out w5 hb5).2.2.2
  clear hW4
  go_wp2_with fail
  refine (cS w5 hb5).mono ?_
  rintro e w6 ⟨rfl, hb6⟩
  clear c50 c51 c52 c53 c54 c55 d50 d51 d52 d53 d54 d55
  have hb46 := hb5.trans (hb6.mono hb5.size)
  have hb06 := hb04.trans (hb46.mono hb04.size)
  rcases HER.out with ⟨rfl, hn, rfl⟩ | ⟨rfl, hsm, rfl⟩
  · go_wp2_with fail
    refine (cB w6 hb06).mono ?_
    rintro e w7 ⟨rfl, hb7⟩
    have hb47 := hb46.trans (hb7.mono hb46.size)
    obtain ⟨c50, c51, c52, c53, c54, c55⟩ := box_facts (HSX.out w7 hb47).2.2.1
    obtain ⟨d50, d51, d52, d53, d54, d55⟩ := box_facts (HSX.out w7 hb47).2.2.2
    go_wp2_with fail
    refine (cS w7 hb47).mono ?_
    rintro e w8 ⟨rfl, hb8⟩
    have hb08 := hb04.trans ((hb47.trans (hb8.mono hb47.size)).mono hb04.size)
    go_wp2_with fail
    go_ret
    exact ⟨rfl, hb08⟩
  · have hv6 := HV.out w6 hb06
    have cF := rfind_is path T [.string y0, .string y1, .int .i64 y2, .int .i64 y3, .int .i64 y4, .slice ya yk yc] _ (.slice pa PN pc) w6 HCT.out (HSX.out w6 hb46).1 hv6.2.1 (by rw [HPN.out]; omega) HPZ.out
    rw [show ([.string y0, .string y1, .int .i64 y2, .int .i64 y3, .int .i64 y4, .slice ya yk yc] : List Value).toArray = #[.string y0, .string y1, .int .i64 y2, .int .i64 y3, .int .i64 y4, .slice ya yk yc] from rfl] at cF
    obtain ⟨c50, c51, c52, c53, c54, c55⟩ := box_facts (HSX.out w6 hb46).2.2.1
    obtain ⟨G, hG⟩ : ∃ G, findP T path = G := ⟨_, rfl⟩
    have HG : Hid (findP T path = G) := hG
    rw [hG] at cF
    clear hG hv6 cB cS
    go_wp2_with fail
    refine cF.mono ?_
    clear cF
    rintro e w7 ⟨hb7, hcase7⟩
    obtain ⟨U, u0, u1, u2, u3, u4, ua, uk, uc, ok, rfl, HU⟩ : ∃ (U : Mm.Pt) (u0 u1 : ByteArray) (u2 u3 u4 : Int) (ua : Option Addr) (uk uc : Nat) (ok : Bool), e = .returned (.tuple #[.agg #[.string u0, .string u1, .int .i64 u2, .int .i64 u3, .int .i64 u4, .slice ua uk uc], .bool ok]) ∧ Hid (countP U ≤ 30 ∧ Six w7 (fun k => w.heap.size ≤ k ∧ k < w6.heap.size) U [.string u0, .string u1, .int .i64 u2, .int .i64 u3, .int .i64 u4, .slice ua uk uc] ∧ ((G = none ∧ ok = false ∧ U = zeroP) ∨ (G = some U ∧ ok = true))) := by
      rcases hcase7 with ⟨h1, rfl⟩ | ⟨q, ys, h1, rfl, h2, h3⟩
      · exact ⟨zeroP, _, _, _, _, _, _, _, _, false, rfl, ⟨by decide, six_zero _ _, Or.inl ⟨h1, rfl, rfl⟩⟩⟩
      · obtain ⟨u0, u1, u2, u3, u4, ua, uk, uc, rfl⟩ := six_open h2
        exact ⟨q, _, _, _, _, _, _, _, _, true, rfl, ⟨h3, h2, Or.inr ⟨h1, rfl⟩⟩⟩
    obtain ⟨W8, hW8, hb8, e8, z8⟩ := box_new w7 u0 u1 u2 u3 u4 ua uk uc
    have hb48 := (hb46.trans (hb7.mono hb46.size)).trans (hb8.mono (hb46.trans (hb7.mono hb46.size)).size)
    have hb08 := hb04.trans (hb48.mono hb04.size)
    have cF := find_is T [.string x0, .string x1, .int .i64 x2, .int .i64 x3, .int .i64 x4, .slice xa xk xc] _ (.slice pa PN pc) path W8 HCT.out (HSX.out W8 hb48).2.1 (HV.out W8 hb08).2.1.ng (by rw [HPN.out]; omega)
    rw [HG.out, show ([.string x0, .string x1, .int .i64 x2, .int .i64 x3, .int .i64 x4, .slice xa xk xc] : List Value).toArray = #[.string x0, .string x1, .int .i64 x2, .int .i64 x3, .int .i64 x4, .slice xa xk xc] from rfl] at cF
    obtain ⟨d50, d51, d52, d53, d54, d55⟩ := box_facts (HSX.out W8 hb48).2.2.2
    clear c50 c51 c52 c53 c54 c55 hcase7
    go_wp2_with fail
    refine cF.mono ?_
    clear cF
    rintro e w9 ⟨hb9, hcase9⟩
    obtain ⟨q0, q1, q2, q3, q4, qa, qk, qc, rfl, HQ⟩ : ∃ (q0 q1 : ByteArray) (q2 q3 q4 : Int) (qa : Option Addr) (qk qc : Nat), e = .returned (.tuple #[.agg #[.string q0, .string q1, .int .i64 q2, .int .i64 q3, .int .i64 q4, .slice qa qk qc], .bool ok]) ∧ Hid (Six w9 (fun k => W8.heap.size ≤ k) U [.string q0, .string q1, .int .i64 q2, .int .i64 q3, .int .i64 q4, .slice qa qk qc]) := by
      rcases hcase9 with ⟨h1, rfl⟩ | ⟨q, ys, h1, rfl, h2, h3⟩
      · rcases HU.out.2.2 with ⟨_, rfl, rfl⟩ | ⟨h4, _⟩
        · exact ⟨_, _, _, _, _, _, _, _, rfl, six_zero _ _⟩
        · rw [h1] at h4; cases h4
      · rcases HU.out.2.2 with ⟨h4, _⟩ | ⟨h4, rfl⟩
        · rw [h1] at h4; cases h4
        · rw [h1] at h4
          obtain rfl := Option.some.inj h4
          obtain ⟨q0, q1, q2, q3, q4, qa, qk, qc, rfl⟩ := six_open h2
          exact ⟨_, _, _, _, _, _, _, _, rfl, h2⟩
    obtain ⟨W10, hW10, hb10, e10, z10⟩ := box_new w9 q0 q1 q2 q3 q4 qa qk qc
    have hb810 := hb9.trans (hb10.mono hb9.size)
    have hb4A := hb48.trans (hb810.mono hb48.size)
    have hb0A := hb04.trans (hb4A.mono hb04.size)
    have HKS : Hid (∀ W : World, Below W10.heap.size W10 W → W.cell? ⟨w7.heap.size, 0, none⟩ = some (.string u0) ∧ W.cell? ⟨w7.heap.size, 1, none⟩ = some (.string u1) ∧ W.cell? ⟨w7.heap.size, 2, none⟩ = some (.int .i64 u2) ∧ W.cell? ⟨w7.heap.size, 3, none⟩ = some (.int .i64 u3) ∧ W.cell? ⟨w7.heap.size, 4, none⟩ = some (.int .i64 u4) ∧ W.cell? ⟨w7.heap.size, 5, none⟩ = some (.slice ua uk uc) ∧ W.cell? ⟨w9.heap.size, 0, none⟩ = some (.string q0) ∧ W.cell? ⟨w9.heap.size, 1, none⟩ = some (.string q1) ∧ W.cell? ⟨w9.heap.size, 2, none⟩ = some (.int .i64 q2) ∧ W.cell? ⟨w9.heap.size, 3, none⟩ = some (.int .i64 q3) ∧ W.cell? ⟨w9.heap.size, 4, none⟩ = some (.int .i64 q4) ∧ W.cell? ⟨w9.heap.size, 5, none⟩ = some (.slice qa qk qc) ∧ W.cell? ⟨w1.heap.size, 0, none⟩ = some (.string y0) ∧ W.cell? ⟨w1.heap.size, 1, none⟩ = some (.string y1) ∧ W.cell? ⟨w1.heap.size, 2, none⟩ = some (.int .i64 y2) ∧ W.cell? ⟨w1.heap.size, 3, none⟩ = some (.int .i64 y3) ∧ W.cell? ⟨w1.heap.size, 4, none⟩ = some (.int .i64 y4) ∧ W.cell? ⟨w1.heap.size, 5, none⟩ = some (.slice ya yk yc) ∧ W.cell? ⟨w3.heap.size, 0, none⟩ = some (.string x0) ∧ W.cell? ⟨w3.heap.size, 1, none⟩ = some (.string x1) ∧ W.cell? ⟨w3.heap.size, 2, none⟩ = some (.int .i64 x2) ∧ W.cell? ⟨w3.heap.size, 3, none⟩ = some (.int .i64 x3) ∧ W.cell? ⟨w3.heap.size, 4, none⟩ = some (.int .i64 x4) ∧ W.cell? ⟨w3.heap.size, 5, none⟩ = some (.slice xa xk xc)) := by
      intro W h
      have h8 := hb810.trans (h.mono hb810.size)
      have h4 := hb4A.trans (h.mono hb4A.size)
      obtain ⟨a0, a1, a2, a3, a4, a5⟩ := box_facts ((h8.block _ z8).trans e8)
      obtain ⟨b0, b1, b2, b3, b4, b5⟩ := box_facts ((h.block _ z10).trans e10)
      obtain ⟨c0, c1, c2, c3, c4, c5⟩ := box_facts (HSX.out W h4).2.2.1
      obtain ⟨d0, d1, d2, d3, d4, d5⟩ := box_facts (HSX.out W h4).2.2.2
      exact ⟨a0, a1, a2, a3, a4, a5, b0, b1, b2, b3, b4, b5, c0, c1, c2, c3, c4, c5, d0, d1, d2, d3, d4, d5⟩
    have HF : Hid (Fits 100000 T) := fits_mono (A := s.data.toList.length + 11) (by rw [list_size]; omega) T (parse_fits (by rw [HG0.out]; exact hsm))
    obtain ⟨PR, hPR⟩ : ∃ t : ByteArray, (⟨(printP T).toArray⟩ : ByteArray) = t := ⟨_, rfl⟩
    have cS : ∀ W, Below W10.heap.size W10 W → Calls Tryz.prog 10 #[.agg #[.string q0, .string q1, .int .i64 q2, .int .i64 q3, .int .i64 q4, .slice qa qk qc], .agg #[.string u0, .string u1, .int .i64 u2, .int .i64 u3, .int .i64 u4, .slice ua uk uc]] W fun e w' => e = .returned (.bool true) ∧ Below W10.heap.size W10 w' := fun W hW => (same_is 30 U _ _ _ _ W HU.out.1 HU.out.1 (HQ.out.under (hb10.trans (hW.mono hb10.size))) (HU.out.2.1.under (hb8.trans ((hb810.trans (hW.mono hb810.size)).mono hb8.size)))).mono (by
      rintro e w' ⟨rfl, hb⟩
      exact ⟨rfl, hW.trans (hb.mono hW.size)⟩)
    have cP : ∀ W, Below W10.heap.size W10 W → Calls Tryz.prog 13 #[.agg #[.string x0, .string x1, .int .i64 x2, .int .i64 x3, .int .i64 x4, .slice xa xk xc]] W fun e w' => e = .returned (.string PR) ∧ Below W10.heap.size W10 w' := fun W hW => by
      have h4 := hb4A.trans (hW.mono hb4A.size)
      have h0 := hb0A.trans (hW.mono hb0A.size)
      refine (mprint_is T [.string x0, .string x1, .int .i64 x2, .int .i64 x3, .int .i64 x4, .slice xa xk xc] _ W HCT.out (HSX.out W h4).2.1 HF.out (HV.out W h0).2.2.1).mono ?_
      rintro e w' ⟨rfl, hb⟩
      exact ⟨by rw [hPR], hW.trans (hb.mono hW.size)⟩
    have cR : ∀ W, Below W10.heap.size W10 W → Calls Tryz.prog 14 #[.agg #[.string y0, .string y1, .int .i64 y2, .int .i64 y3, .int .i64 y4, .slice ya yk yc]] W fun e w' => e = .returned (.string PR) ∧ Below W10.heap.size W10 w' := fun W hW => by
      have h4 := hb4A.trans (hW.mono hb4A.size)
      have h0 := hb0A.trans (hW.mono hb0A.size)
      refine (rprint_is 30 T [.string y0, .string y1, .int .i64 y2, .int .i64 y3, .int .i64 y4, .slice ya yk yc] _ W HCT.out HCT.out (HSX.out W h4).1 HF.out (HV.out W h0).2.2.1).mono ?_
      rintro e w' ⟨rfl, hb⟩
      exact ⟨by rw [hPR], hW.trans (hb.mono hW.size)⟩
    clear hPR HSX HU HQ e8 e10 d50 d51 d52 d53 d54 d55 hcase9 HG0 HER
    go_wp2_with fail
    clear hW8 hW10
    have lD : Below W10.heap.size W10 W10.drew := (Below.refl _ _).drew
    go_region_held3 (fun W => W.cell? ⟨w7.heap.size, 0, none⟩ = some (.string u0) ∧ W.cell? ⟨w7.heap.size, 1, none⟩ = some (.string u1) ∧ W.cell? ⟨w7.heap.size, 2, none⟩ = some (.int .i64 u2) ∧ W.cell? ⟨w7.heap.size, 3, none⟩ = some (.int .i64 u3) ∧ W.cell? ⟨w7.heap.size, 4, none⟩ = some (.int .i64 u4) ∧ W.cell? ⟨w7.heap.size, 5, none⟩ = some (.slice ua uk uc) ∧ W.cell? ⟨w9.heap.size, 0, none⟩ = some (.string q0) ∧ W.cell? ⟨w9.heap.size, 1, none⟩ = some (.string q1) ∧ W.cell? ⟨w9.heap.size, 2, none⟩ = some (.int .i64 q2) ∧ W.cell? ⟨w9.heap.size, 3, none⟩ = some (.int .i64 q3) ∧ W.cell? ⟨w9.heap.size, 4, none⟩ = some (.int .i64 q4) ∧ W.cell? ⟨w9.heap.size, 5, none⟩ = some (.slice qa qk qc) ∧ W.cell? ⟨w1.heap.size, 0, none⟩ = some (.string y0) ∧ W.cell? ⟨w1.heap.size, 1, none⟩ = some (.string y1) ∧ W.cell? ⟨w1.heap.size, 2, none⟩ = some (.int .i64 y2) ∧ W.cell? ⟨w1.heap.size, 3, none⟩ = some (.int .i64 y3) ∧ W.cell? ⟨w1.heap.size, 4, none⟩ = some (.int .i64 y4) ∧ W.cell? ⟨w1.heap.size, 5, none⟩ = some (.slice ya yk yc) ∧ W.cell? ⟨w3.heap.size, 0, none⟩ = some (.string x0) ∧ W.cell? ⟨w3.heap.size, 1, none⟩ = some (.string x1) ∧ W.cell? ⟨w3.heap.size, 2, none⟩ = some (.int .i64 x2) ∧ W.cell? ⟨w3.heap.size, 3, none⟩ = some (.int .i64 x3) ∧ W.cell? ⟨w3.heap.size, 4, none⟩ = some (.int .i64 x4) ∧ W.cell? ⟨w3.heap.size, 5, none⟩ = some (.slice xa xk xc))
      (first | (with_reducible exact HKS.out _ kC) | (with_reducible exact HKS.out _ kB) | (with_reducible exact HKS.out _ kA) | exact HKS.out _ lD)
      (first
        | (go_at_call 10; refine (cS _ lD).mono ?_; rintro e wA ⟨rfl, kA⟩)
        | (go_at_call 13; refine (cP _ ?_).mono ?_; (focus (first | (with_reducible exact kC) | (with_reducible exact kA))); rintro e wB ⟨rfl, kB⟩)
        | (go_at_call 14; refine (cR _ ?_).mono ?_; (focus (first | (with_reducible exact kB) | (with_reducible exact kA))); rintro e wC ⟨rfl, kC⟩))
    all_goals
      go_wp2_with fail
      go_ret
      first
        | exact ⟨rfl, hb0A.trans (kC.mono hb0A.size)⟩
        | exact ⟨rfl, hb0A.trans (kB.mono hb0A.size)⟩
end Go.Proofs.YtgbbkdflnlagaaaGreatDoor
namespace Go.Proofs.YtgbbkdflnlagaaaGreatDoor
open Go.ChangeMaps (open_string shut_string)
open Go.Shelf Go.ChangeShapes Go.WideShapes Go.ChangeAt Go.RowKit Go.Lib Go.Proofs.Law

set_option maxHeartbeats 2000000 in
set_option maxRecDepth 100000 in
theorem parts_big (s : ByteArray) (a : Option Addr) (N c : Nat) (w : World) (h : 2000 < s.size ∨ 10 < N) :
    Calls Tryz.prog 3 #[.string s, .slice a N c] w fun e w' => e = .returned (.bool true) ∧ Below w.heap.size w w' := by
  by_cases h1 : 2000 < s.size
  · have i1 : (2000 : Int) < (s.size : Int) := by omega
    go_enter Tryz.func3, Tryz.ntmps3
    go_wp2_with fail
    go_ret
    exact ⟨rfl, Below.refl _ _⟩
  · have i1 : ¬ (2000 : Int) < (s.size : Int) := by omega
    have i2 : (10 : Int) < (N : Int) := by omega
    go_enter Tryz.func3, Tryz.ntmps3
    go_wp2_with fail
    go_ret
    exact ⟨rfl, Below.refl _ _⟩
/-- A slice of numbers that came in, opened, with its room. -/
theorem open_nq {P : Program} {H : Type} {enc : TypeId × Value → H} {t e : TypeId} {W : World} {base : Nat} {r : Reach} {v : Value} {d : DataW H} {ps : List MemPlace} (ht : P.underlying t = some (.slice e)) (he : P.underlying e = some (.int .i64)) (hc : P.cellsOf e = 1)
    (hv : Value.okWide P W r base t v) (h : DataW.Trod enc P W 0 (fun _ => true) true t v d ps) :
    ∃ zs : List Int, Nq W v zs ∧ ∀ n ∈ zs, (Lit.int .i64 n).wf = true := by
  obtain ⟨a, len, cap, rfl⟩ := okWide_slice ht hv
  obtain ⟨fuel, h⟩ := h
  rcases open_ints ht he hc h with ⟨hcs, _⟩ | ⟨a', len', cap', ss, hcs, _, hl, hm, hs, _, hcell, hwz⟩
  · simp [Value.cells] at hcs
    obtain ⟨rfl, rfl, rfl⟩ := hcs
    exact ⟨[], ⟨none, 0, rfl, Nat.le_refl _, Or.inl rfl⟩, by simp⟩
  · simp [Value.cells] at hcs
    obtain ⟨rfl, rfl, rfl⟩ := hcs
    simp only [if_true] at hs
    refine ⟨ss.take len, ⟨some a', cap, by rw [List.length_take]; congr 1; omega, by rw [List.length_take]; omega, ?_⟩, fun s hm => hwz s (List.mem_of_mem_take hm)⟩
    by_cases h0 : ss.take len = []
    · exact Or.inl h0
    · right
      obtain ⟨b, o, spot⟩ := a'
      have hpos : 0 < ss.length := by
        rcases Nat.eq_zero_or_pos ss.length with h1 | h1
        · exact absurd (by rw [List.eq_nil_of_length_eq_zero h1]; simp) h0
        · exact h1
      have hspot : spot = none := by simpa [Addr.add] using World.cell?_spot (hcell 0 hpos)
      subst hspot
      refine ⟨b, o, rfl, fun j z hj => ?_⟩
      have hj1 : j < len := by
        have := (List.getElem?_eq_some_iff.1 hj).1
        rw [List.length_take] at this; omega
      rw [List.getElem?_take_of_lt hj1] at hj
      have := hcell j (List.getElem?_eq_some_iff.1 hj).1
      rw [List.getD_eq_getElem?_getD, hj, Addr.add_lit] at this
      simpa using this
theorem mp_wf {z : Int} (h : (Lit.int .i64 z).wf = true) : -9223372036854775808 ≤ z ∧ z ≤ 9223372036854775807 := by
  simp [Lit.wf] at h
  have h1 : IntKind.i64.min = -9223372036854775808 := rfl
  rw [h1] at h
  omega
theorem mp_pow_eq : Rows.laid_internal_strconv_uint64pow10 (H := Unit) = Lib.tabData .u64 Lib.pow10Tab := by kernel_rfl
theorem mp_tab {W : World} (h : Lib.VarReads Tryz.prog W "internal/strconv.uint64pow10" Rows.laid_internal_strconv_uint64pow10) : TabB W.heap.size W := by
  have h1 : Lib.TabIs Tryz.prog W "internal/strconv.uint64pow10" .u64 Lib.pow10Tab := by
    refine Law.tabIs_of_reads (g := 2) (t := 229) (e := 193) (n := 20) (by kernel_rfl) (by kernel_rfl) (by kernel_rfl) (by kernel_rfl) (by kernel_rfl) (by kernel_rfl) ?_
    rw [← mp_pow_eq]
    exact h
  exact Lib.tabBelow_of_tabIs h1
theorem mp_own : ownKnob Tryz.prog.godebug = none := by kernel_rfl
theorem mp_laidOut : laidOutB Tryz.prog = true := by kernel_rfl
theorem mp_et : Tryz.prog.globalNamed "errors.errorType" = some 3 := by kernel_rfl
theorem mp_rt : (Tryz.prog.cutTypes.find? (·.1 == "internal/reflectlite.rtype")).map (·.2) = some 261 := by kernel_rfl
theorem mp_oneRow : ((List.range 323).filter fun t => Tryz.prog.rowNamed t [101, 114, 114, 111, 114]) = [30] := by kernel_rfl
theorem mp_typesSize : Tryz.prog.types.size = 323 := by kernel_rfl
theorem mp_parts {W : World} (h : laidMetH Tryz.prog Rows.mimePartsRow.laid W) : laidMet Tryz.prog [("math/bits.deBruijn32tab", Rows.laid_math_bits_deBruijn32tab), ("math/bits.deBruijn64tab", Rows.laid_math_bits_deBruijn64tab), ("internal/strconv.uint64pow10", Rows.laid_internal_strconv_uint64pow10), ("unicode/utf8.acceptRanges", Rows.laid_unicode_utf8_acceptRanges), ("letterbox/letterboxref.Fine", Rows.laid_letterbox_letterboxref_Fine), ("unicode/utf8.first", Rows.laid_unicode_utf8_first)] W ∧ handlesMet Tryz.prog [("errors.errorType", Rows.laid_errors_errorType)] W := h
theorem mp_err {W : World} (h : handlesMet Tryz.prog [("errors.errorType", Rows.laid_errors_errorType)] W) : ErrType W := by
  obtain ⟨name, u, ty, e1, e2, e3, e4, e5⟩ := h _ (List.mem_singleton.2 rfl)
  have en : name = [101, 114, 114, 111, 114] := (Option.some.inj e1).symm
  subst en
  obtain rfl := Option.some.inj (mp_rt.symm.trans e2)
  have hm : ty ∈ (List.range 323).filter fun t => Tryz.prog.rowNamed t [101, 114, 114, 111, 114] := List.mem_filter.2 ⟨List.mem_range.2 (by rw [← mp_typesSize]; exact e3), e4⟩
  rw [mp_oneRow] at hm
  obtain rfl := List.mem_singleton.1 hm
  have hh : typeHandle Tryz.prog 30 = .pointer (some ⟨11, 30, none⟩) := by kernel_rfl
  rw [hh] at e5
  show W.cell? ⟨3, 0, none⟩ = some (.iface 261 (.agg #[.pointer (some ⟨11, 30, none⟩)]))
  simpa using World.var?_cell mp_et e5 0
theorem two_of {l : List Value} (h : l.length = 2) : ∃ a b, l = [a, b] := by
  match l, h with
  | [a, b], _ => exact ⟨a, b, rfl⟩
theorem mp_fine {W : World} (h : VarReads Tryz.prog W "letterbox/letterboxref.Fine" Rows.laid_letterbox_letterboxref_Fine) : W.cell? ⟨0, 0, none⟩ = some (.int .i64 0) ∧ W.cell? ⟨0, 1, none⟩ = some (.int .i64 (-1)) := by
  obtain ⟨g', t', cs, fuel, p, h1, h2, h3, h4⟩ := h
  have hg : Tryz.prog.globalNamed "letterbox/letterboxref.Fine" = some 0 := by kernel_rfl
  have ht : (Tryz.prog.globals[(0 : Nat)]?).map (·.type) = some 87 := by kernel_rfl
  obtain rfl : (0 : Nat) = g' := Option.some.inj (hg.symm.trans h1)
  obtain rfl : (87 : Nat) = t' := Option.some.inj (ht.symm.trans h2)
  obtain ⟨y0, y1, n, hx, hl, g0, g1⟩ := trod_struct2 Tryz.underlying87 h4
  have hl2 : cs.toList.length = 2 := hl.trans (by kernel_rfl)
  obtain ⟨cl⟩ := cs
  obtain ⟨v0, v1, rfl⟩ : ∃ v0 v1, cl = [v0, v1] := two_of hl2
  have c0 : Tryz.prog.cellsOf 26 = 1 := by kernel_rfl
  have c1 : Tryz.prog.cellsOf 3 = 1 := by kernel_rfl
  obtain ⟨x, hx0, hd0, _⟩ := DataW.trod_int (t := 26) (k := .i64) Tryz.underlying26 (by simpa [c0] using g0)
  obtain ⟨y, hy0, hd1, _⟩ := DataW.trod_int (t := 3) (k := .i64) Tryz.underlying3 (by simpa [c1] using g1)
  have hxx : Rows.laid_letterbox_letterboxref_Fine (H := Unit) = .agg [.lit (.int .i64 x), .lit (.int .i64 y)] := by
    have := congrArg Prod.fst hx
    rw [hd0, hd1] at this
    exact this
  have hz : x = 0 ∧ y = -1 := by
    have e : (DataW.agg [.lit (.int .i64 0), .lit (.int .i64 (-1))] : DataW Unit) = .agg [.lit (.int .i64 x), .lit (.int .i64 y)] := hxx
    simp at e
    exact ⟨e.1.symm, e.2.symm⟩
  obtain ⟨rfl, rfl⟩ := hz
  simp only [List.cons.injEq, and_true] at hx0 hy0
  subst hx0
  subst hy0
  exact ⟨by rw [World.var?_cell hg h3 0]; rfl, by rw [World.var?_cell hg h3 1]; rfl⟩
/-- The witness's world: the two tables as their initialisers lay them. -/
def mp_two : DataW Unit → Array Value
  | .agg l => (l.flatMap fun | .agg m => m.map cellOf | x => [cellOf x]).toArray
  | _ => #[]
def mp_put (w : World) (g : Nat) (cs : Array Value) : World := { w with heap := w.heap.modify g fun | .cells _ t frozen => .cells cs t frozen | o => o }
noncomputable def mp_world (os : Os) : World :=
  mp_put (lay (lay (lay (lay (lay (mp_put (World.holding Tryz.prog os ⟨#[], #[], []⟩) 8 (mp_two Rows.laid_unicode_utf8_acceptRanges)) 7 Rows.laid_unicode_utf8_first) 0 Rows.laid_letterbox_letterboxref_Fine) 2 Rows.laid_internal_strconv_uint64pow10) 5 Rows.laid_math_bits_deBruijn32tab) 6 Rows.laid_math_bits_deBruijn64tab) 3 #[.iface 261 (.agg #[.pointer (some ⟨11, 30, none⟩)])]
theorem mp_laid_met (os : Os) (args : Array Value) : laidMetH Tryz.prog Rows.mimePartsRow.laid ((mp_world os).forCall (fun _ _ => 0) ⟨#[], args, []⟩).memory :=
  laidMetH_of_parts (LaidIn.of_run (l := [("math/bits.deBruijn32tab", Rows.laid_math_bits_deBruijn32tab), ("math/bits.deBruijn64tab", Rows.laid_math_bits_deBruijn64tab), ("internal/strconv.uint64pow10", Rows.laid_internal_strconv_uint64pow10), ("unicode/utf8.acceptRanges", Rows.laid_unicode_utf8_acceptRanges), ("letterbox/letterboxref.Fine", Rows.laid_letterbox_letterboxref_Fine), ("unicode/utf8.first", Rows.laid_unicode_utf8_first)])
    [5, 6, 2, 8, 0, 7] 8 (by kernel_rfl) (by kernel_rfl) (by kernel_rfl) (by kernel_rfl)).met (by kernel_rfl)
theorem mp_witness (os : Os) {H : Type} (enc : TypeId × Value → H) :
    (OpenSpec.ofChange Rows.mimePartsSpec).preRow enc Tryz.prog Tryz.f3 Rows.mimePartsRow.domain false Rows.mimePartsRow.laid ((mp_world os).forCall (fun _ _ => 0) ⟨#[], #[.string ⟨#[]⟩, .slice none 0 0], []⟩).memory #[.string ⟨#[]⟩, .slice none 0 0] := by
  have hw : (DataW.whole enc Tryz.prog ((mp_world os).forCall (fun _ _ => 0) ⟨#[], #[.string ⟨#[]⟩, .slice none 0 0], []⟩).memory Tryz.f3.params.toList Rows.mimePartsSpec.vars false (#[.string ⟨#[]⟩, .slice none 0 0] : Array Value).toList 8).map (fun x => (x.1, x.2.1)) =
      some ([.lit (.string []), .nil], []) := by kernel_rfl
  obtain ⟨⟨x1, x2, x3⟩, hx, hx1⟩ := Option.map_eq_some_iff.1 hw
  simp only [Prod.mk.injEq] at hx1
  obtain ⟨rfl, rfl⟩ := hx1
  exact OpenSpec.preRow_of_cond 8 hx (by kernel_rfl) (fun k hk => by cases hk) (by kernel_rfl) (mp_laid_met os _)
theorem mp_read : ∀ t ∈ Tryz.f3.params.toList, Tryz.prog.readableRec t = true ∧ t < Tryz.prog.types.size := by
  have h : (Tryz.f3.params.toList.all fun t => Tryz.prog.readableRec t && decide (t < Tryz.prog.types.size)) = true := by kernel_rfl
  intro t ht
  have := List.all_eq_true.1 h t ht
  simpa using this
set_option maxRecDepth 100000 in
set_option maxHeartbeats 2000000 in
theorem mp_lifted (os : Os) (started : os.Started) (H : Type) (enc : TypeId × Value → H) (F : Stop.Interp) :
    ReturnsInHanded {} Tryz.checked os 3 .any ((OpenSpec.ofChange Rows.mimePartsSpec).preRow enc Tryz.prog Tryz.f3 Rows.mimePartsRow.domain false Rows.mimePartsRow.laid) (((OpenSpec.ofChange Rows.mimePartsSpec).at F).post enc Tryz.prog Tryz.f3 false true false false) := by
  refine returnsInHanded_of_row (C := Tryz.checked) (s := OpenSpec.ofChange Rows.mimePartsSpec) mp_own started (by kernel_rfl) Tryz.func3
    (witness_row_atRef (enc := enc) (C := Tryz.checked) false (mp_world os) #[.string ⟨#[]⟩, .slice none 0 0] rfl (by kernel_rfl) (by kernel_rfl) (by kernel_rfl) (mp_witness os enc)) ?_
  intro W base args ds gs before hval0 hW _ _ _ hL hS _
  have hval : ∀ (j : Nat) t v, Tryz.f3.params[j]? = some t → args[j]? = some v → Value.okWide Tryz.prog W .any base t v := hval0
  have hW' := hW
  obtain ⟨p, q, hA0, hV0, rfl, _, _⟩ := hW
  have hA : DataW.TrodAll enc Tryz.prog W 0 (fun _ => true) true Tryz.f3.params.toList args.toList ds p := hA0
  have hK := hA
  have hlt : ∀ x ∈ p, x.block < W.heap.size := fun x hx => hW'.lt x (by simp [hx])
  rw [Tryz.params3] at hA hval
  obtain ⟨l⟩ := args
  obtain ⟨v0, l, d0, ds, p0, p, rfl, rfl, rfl, t0, hA⟩ := trodAll_cons hA
  obtain ⟨v1, l, d1, ds, p1, p, rfl, rfl, rfl, t1, hA⟩ := trodAll_cons hA
  obtain ⟨rfl, rfl, rfl⟩ := trodAll_nil hA
  obtain ⟨rfl, rfl⟩ := trodVars_none hV0
  obtain ⟨s, rfl, rfl, rfl, _⟩ := open_string Tryz.underlying9 (hval 0 _ v0 rfl rfl) t0
  obtain ⟨zs, g1, hwf⟩ := open_nq Tryz.underlying22 Tryz.underlying3 (by kernel_rfl) (hval 1 _ v1 rfl rfl) t1
  clear hA0 hV0 hval0 hval hA t0 t1
  obtain ⟨mx, hm⟩ := Go.Proofs.cell_of_shapedOpen_int (g := 1) (zero := #[.int .i64 0]) (t := 3) hS (of_decide_eq_true (by kernel_rfl)) (by kernel_rfl) rfl (by kernel_rfl) (by kernel_rfl) Tryz.underlying3
  obtain ⟨hLd, hLh⟩ := mp_parts hL
  have hfine := mp_fine (Lib.laidMet.reads hLd (.tail _ (.tail _ (.tail _ (.tail _ (.head _))))))
  have htab := mp_tab (Lib.laidMet.reads hLd (.tail _ (.tail _ (.head _))))
  have hall : Calls Tryz.prog 3 #[.string s, v1] W fun e w' => e = .returned (.bool true) ∧ Below W.heap.size W w' := by
    by_cases hbig : 2000 < s.size ∨ 10 < zs.length
    · obtain ⟨a, c, rfl, _, _⟩ := g1
      exact parts_big s a zs.length c W hbig
    · refine parts_small s v1 zs mx W (by omega) g1 (by omega) (fun z hz => ?_) ⟨hm, hfine.1, hfine.2⟩ htab (mp_err hLh)
      exact mp_wf (hwf z hz)
  refine hall.mono ?_
  rintro e W' ⟨rfl, bel⟩
  have e1 : ((OpenSpec.ofChange Rows.mimePartsSpec).at F).fn H ([.lit (.string s.data.toList), d1] ++ []) = { results := [.lit (.bool true)], args := [.lit (.string s.data.toList), d1] } := rfl
  refine ⟨_, rfl, _, _, _, [], [] ++ (p1 ++ []), [], hW', ?_, ?_, ?_, bel.frame _, fun h => by cases h⟩
  · rw [e1]; exact trodAll_mk1 (shut_bool Tryz.underlying4 _)
  · rw [e1]; exact Law.trodAll_carry mp_laidOut bel _ _ _ _ mp_read hK hlt
  · rw [e1]; rfl

theorem mp_said : Rows.MimePartsSaid :=
  OpenClaim.holds_of_cond 3 Tryz.f3 rfl rfl rfl rfl rfl rfl rfl ⟨rfl, rfl, rfl, rfl, rfl⟩ rfl rfl rfl rfl rfl (by kernel_rfl) Tryz.func3 (by kernel_rfl)
    (of_decide_eq_true (by kernel_rfl)) (by unfold Func.isWrapper; rw [if_neg (of_decide_eq_false (by kernel_rfl))]; exact ⟨rfl, rfl⟩)
    (fun os started H enc _ F => by rw [OpenClaim.pre_eq_preRow]; exact mp_lifted os started H enc F)

theorem mp_plain (f : FuncId) (fn : Func) (hf : Tryz.pinned.checked.prog.funcNamed "letterbox/letterboxlaw.MimeParts" = some f) (hfn : Tryz.pinned.checked.prog.funcs[f]? = some fn) :
    true = Tryz.pinned.checked.prog.looks [] ∧ ∀ (j : Nat) t, fn.params[j]? = some t → Tryz.pinned.checked.prog.wantsStandIn t = false := by
  obtain rfl : f = 3 := Option.some.inj ((show Tryz.prog.funcNamed "letterbox/letterboxlaw.MimeParts" = some 3 by kernel_rfl).symm.trans hf) |>.symm
  obtain rfl : fn = Tryz.f3 := (Option.some.inj (Tryz.func3.symm.trans hfn)).symm
  refine ⟨by kernel_rfl, fun j t ht => ?_⟩
  have h : (Tryz.f3.params.toList.all fun t => !Tryz.prog.wantsStandIn t) = true := by kernel_rfl
  have := List.all_eq_true.1 h t (by simpa using Array.mem_of_getElem? ht)
  exact (show Tryz.prog.wantsStandIn t = false by simpa using this)

theorem mimeParts_card : Rows.MimePartsCardSaid :=
  Claim7.holds_tied_plain_at .later [] _ _ _ _ mp_said (fun _ h => by cases h) (by kernel_rfl) (fun _ h => by cases h) mimeParts_row_tie rfl ⟨rfl, rfl⟩ (by kernel_rfl) rfl mp_plain (by kernel_rfl)
end Go.Proofs.YtgbbkdflnlagaaaGreatDoor
