/-
  What ArchiveChain does.
-/
import Derived.Test.YtdmplfflmdanlaaGreatDoorBpAcMath
namespace Go.Proofs.YtdmplfflmdanlaaGreatDoor
open Go.RowKit Go.Proofs.Aid Go.Proofs.Bx

theorem new_ac (w : World) : Calls Tryz.prog 19 #[] w fun e w' => (∃ hb mb l, e = .returned (.pointer (some ⟨hb, 0, none⟩)) ∧ PH w.heap.size 0 hb mb l 2 [] (fun _ => ⟨1, 1, []⟩) (.slice none 0 0) w') ∧ Below w.heap.size w w' :=
  (new_is w).mono fun e w' ⟨h1, h2, h3, h4⟩ => by
    obtain ⟨st, hi⟩ := hst_new (w := w) (Nat.le_refl _) h2 h3
    exact ⟨⟨_, _, _, h1, st, hi⟩, h4⟩
/-- What was asked of a house, wherever it stands. -/
theorem ph_save {w W : World} {H K hb mb : Nat} {l : Bxs} {nx : Int} {Ws : List Nm} {C : Nat → Bxd} {wv : Value} (h : PH H K hb mb l nx Ws C wv w) (hK : K ≤ 400) (hW : Below w.heap.size w W) :
    Calls Tryz.prog 20 #[.pointer (some ⟨hb, 0, none⟩)] W fun e w' => (∃ nv bv wv', e = .returned (.agg #[nv, bv, wv', .int .i64 nx]) ∧ SvF W.heap.size w' nv bv wv' (svOf l Ws nx C)) ∧ Below W.heap.size W w' :=
  save_f hb mb l nx wv Ws C W (h.below hW).st.hse ((h.hi.saOk hK).sml hK)
theorem AEnv.tab {w : World} (h : AEnv w) : TabW w.heap.size w := h.t
theorem ac_full {w : World} {H K : Nat} {l : Bxs} {nx : Int} {Ws : List Nm} {C : Nat → Bxd} {nv bv wv : Value} (hi : HI H K l nx Ws C) (hK : K ≤ 400) (hE : AEnv w) (h : SvAt w nv bv wv (svOf l Ws nx C)) :
    Calls Tryz.prog 9 #[.agg #[nv, bv, wv, .int .i64 nx]] w fun e w' => e = .returned (.tuple #[.string ⟨(70 :: houseB (svOf l Ws nx C)).toArray⟩, .nilIface]) ∧ Below w.heap.size w w' :=
  full_is nv bv wv (svOf l Ws nx C) w h (hi.arOk hK) (hi.full_len hK) hE.n hE.g hE.tab
theorem ac_read {w : World} {H K : Nat} {l : Bxs} {nx : Int} {Ws : List Nm} {C : Nat → Bxd} (hi : HI H K l nx Ws C) (hK : K ≤ 400) (hE : AEnv w) (sx : ByteArray) (hs : sx.data.toList = 70 :: houseB (svOf l Ws nx C)) :
    Calls Tryz.prog 12 #[.string sx] w fun e w' => (∃ nv bv wv, e = .returned (.tuple #[.agg #[nv, bv, wv, .int .i64 nx], .nilIface]) ∧ SvF w.heap.size w' nv bv wv (svOf l Ws nx C)) ∧ Below w.heap.size w w' :=
  read_is sx (svOf l Ws nx C) w hs (hi.niceS (by omega)) (hi.arOk hK) (hi.full_len hK) hE.n hE.g hE.tab hE.r
theorem ac_diff {w : World} {H H' K K' : Nat} {l l' : Bxs} {nx nx' : Int} {Ws Ws' : List Nm} {C C' : Nat → Bxd} {ma mb mc nv bv wv : Value} (hi : HI H K l nx Ws C) (hi' : HI H' K' l' nx' Ws' C') (hK : K ≤ 400) (hK' : K' ≤ 400) (hE : AEnv w) (hA : SvAt w ma mb mc (svOf l Ws nx C)) (h : SvAt w nv bv wv (svOf l' Ws' nx' C')) :
    Calls Tryz.prog 15 #[.agg #[ma, mb, mc, .int .i64 nx], .agg #[nv, bv, wv, .int .i64 nx']] w fun e w' => e = .returned (.tuple #[.string ⟨(68 :: changeB (lettersB (svOf l Ws nx C).boxes) (svOf l' Ws' nx' C')).toArray⟩, .nilIface]) ∧ Below w.heap.size w w' :=
  diff_is ma mb mc nv bv wv (svOf l Ws nx C) (svOf l' Ws' nx' C') w hA h (hi.arOk hK) (hi'.arOk hK') (hi'.change_len hK' _) hE.n hE.g hE.tab
theorem ac_apply {w : World} {H H' K K' : Nat} {l l' : Bxs} {nx nx' : Int} {Ws Ws' : List Nm} {C C' : Nat → Bxd} {ma mb mc : Value} (hi : HI H K l nx Ws C) (hi' : HI H' K' l' nx' Ws' C') (hK : K ≤ 400) (hK' : K' ≤ 400) (hE : AEnv w) (hA : SvAt w ma mb mc (svOf l Ws nx C)) (sx : ByteArray) (hs : sx.data.toList = 68 :: changeB (lettersB (svOf l Ws nx C).boxes) (svOf l' Ws' nx' C')) :
    Calls Tryz.prog 17 #[.agg #[ma, mb, mc, .int .i64 nx], .string sx] w fun e w' => (∃ nv bv wv, e = .returned (.tuple #[.agg #[nv, bv, wv, .int .i64 nx'], .nilIface]) ∧ SvF w.heap.size w' nv bv wv (svOf l' Ws' nx' C')) ∧ Below w.heap.size w w' :=
  apply_is ma mb mc sx (svOf l Ws nx C) (svOf l' Ws' nx' C') w hs hA (hi.arOk hK) (hi'.niceS (by omega)) (hi'.arOk hK') hi'.rise hi.rise hi.short9 (hi'.change_len hK' _) hE.n hE.g hE.tab hE.r
theorem ac_load {w : World} {H K : Nat} {l : Bxs} {nx : Int} {Ws : List Nm} {C : Nat → Bxd} {nv bv wv : Value} (hi : HI H K l nx Ws C) (hK : K ≤ 400) (hE : AEnv w) (h : SvAt w nv bv wv (svOf l Ws nx C)) :
    Calls Tryz.prog 23 #[.agg #[nv, bv, wv, .int .i64 nx]] w fun e w' => (∃ hb mb wv' l2 C2, e = .returned (.tuple #[.pointer (some ⟨hb, 0, none⟩), .nilIface]) ∧ Hse w' hb mb l2 nx wv' Ws C2 ∧ svOf l2 Ws nx C2 = svOf l Ws nx C) ∧ Below w.heap.size w w' :=
  (load_sep nv bv wv (svOf l Ws nx C) w h (hi.svOk hK) (fun x hx => by have := (hi.short9 x hx).1; omega) hE.n hE.g).mono fun e w' ⟨⟨hb, mb, wv', l2, C2, h1, h2, h3, _⟩, h4⟩ => ⟨⟨hb, mb, wv', l2, C2, h1, h2, h3⟩, h4⟩
theorem ac_all {w : World} {H K hb mb : Nat} {l l2 : Bxs} {nx : Int} {Ws : List Nm} {C C2 : Nat → Bxd} {wv : Value} (hi : HI H K l nx Ws C) (hK : K ≤ 400) (hE : AEnv w) (h : Hse w hb mb l2 nx wv Ws C2) (he : svOf l2 Ws nx C2 = svOf l Ws nx C) :
    Calls Tryz.prog 24 #[.pointer (some ⟨hb, 0, none⟩)] w fun e w' => (∃ t : ByteArray, e = .returned (.string t) ∧ t.data.toList = allB (svOf l Ws nx C)) ∧ Below w.heap.size w w' := by
  have := all_is K hb mb l2 nx wv Ws C2 w h (by rw [he]; exact hi.saOk hK) hK hE.t
  rw [he] at this
  exact this
theorem ba_same {a b : ByteArray} (h : a.data.toList = b.data.toList) : a = b := by
  obtain ⟨⟨x⟩⟩ := a
  obtain ⟨⟨y⟩⟩ := b
  have : x = y := h
  rw [this]
set_option maxHeartbeats 16000000 in
set_option maxRecDepth 100000 in
theorem ac_walk (v : Value) (LL : List (List Dd)) (w : World) (h : DDs w v LL) (hE : AEnv w) : Calls Tryz.prog 4 #[v] w fun e w' => e = .returned (.bool true) ∧ Below w.heap.size w w' := by
  obtain ⟨a, c, rfl, _⟩ := id h
  obtain ⟨N, hN⟩ : ∃ n, LL.length = n := ⟨_, rfl⟩
  have HX : Hid (DDs w (.slice a N c) LL ∧ LL.length = N ∧ AEnv w) := ⟨by rw [← hN]; exact h, hN, hE⟩
  rw [hN]
  have cA := archived_is w hE
  clear h hE hN
  by_cases h8 : N ≤ 8
  · have d8 : decide ((8 : Int) < (N : Int)) = false := decide_eq_false (by omega)
    go_enter Tryz.func4, Tryz.ntmps4
    go_wp2_with fail
    refine cA.mono ?_
    rintro e w1 ⟨rfl, hb1⟩
    have HB1 : Hid (Below w.heap.size w w1) := hb1
    clear cA hb1
    go_wp2_with fail
    refine (new_ac w1).mono ?_
    rintro e w2 ⟨⟨hb, mb, l0, rfl, ph0⟩, hb2⟩
    obtain ⟨H, hH⟩ : ∃ n, w1.heap.size = n := ⟨_, rfl⟩
    rw [hH] at ph0
    have HP0 : Hid (PH H 0 hb mb l0 2 [] (fun _ => ⟨1, 1, []⟩) (.slice none 0 0) w2 ∧ Below w.heap.size w w2 ∧ w.heap.size ≤ H) := ⟨ph0, HB1.out.trans (hb2.mono HB1.out.size), by rw [← hH]; exact HB1.out.size⟩
    have cS := ph_save ph0 (by omega) (Below.refl _ _)
    clear ph0 hb2 hH HB1
    go_wp2_with fail
    refine cS.mono ?_
    rintro e w3 ⟨⟨nv, bv, wv, rfl, sv3⟩, hb3⟩
    have hB3 : Below w.heap.size w w3 := HP0.out.2.1.trans (hb3.mono HP0.out.2.1.size)
    have cF := ac_full HP0.out.1.hi (by omega) (HX.out.2.2.below hB3) sv3.at
    obtain ⟨R, hR⟩ : ∃ t : ByteArray, ⟨(70 :: houseB (svOf l0 [] 2 fun _ => ⟨1, 1, []⟩)).toArray⟩ = t := ⟨_, rfl⟩
    rw [hR] at cF
    have HR : Hid (R.data.toList = 70 :: houseB (svOf l0 [] 2 fun _ => ⟨1, 1, []⟩)) := by show _ = _; rw [← hR]
    obtain ⟨na, nc, rfl, _⟩ := id sv3.1.1
    obtain ⟨ba, bc, rfl, _⟩ := id sv3.2.1.1
    obtain ⟨wa, wc, rfl, _⟩ := id sv3.2.2.1
    have HP3 : Hid (Below w.heap.size w w3 ∧ Below w2.heap.size w2 w3) := ⟨hB3, hb3⟩
    clear cS sv3 hb3 hB3 hR
    go_wp2_with fail
    refine cF.mono ?_
    rintro e w4 ⟨rfl, hb4⟩
    have hB4 : Below w.heap.size w w4 := HP3.out.1.trans (hb4.mono HP3.out.1.size)
    have cR := ac_read (w := w4) HP0.out.1.hi (by omega) (HX.out.2.2.below hB4) R HR.out
    have HP4 : Hid (Below w.heap.size w w4 ∧ Below w2.heap.size w2 w4) := ⟨hB4, HP3.out.2.trans (hb4.mono HP3.out.2.size)⟩
    clear cF hb4 hB4
    go_wp2_with fail
    refine cR.mono ?_
    rintro e w5 ⟨⟨nv, bv, wv, rfl, sv5⟩, hb5⟩
    obtain ⟨na, nc, rfl, _⟩ := id sv5.1.1
    obtain ⟨ba, bc, rfl, _⟩ := id sv5.2.1.1
    obtain ⟨wa, wc, rfl, _⟩ := id sv5.2.2.1
    obtain ⟨NN, hNN⟩ : ∃ n, (svOf l0 [] 2 fun _ => ⟨1, 1, []⟩).names.length = n := ⟨_, rfl⟩
    obtain ⟨BN, hBN⟩ : ∃ n, (svOf l0 [] 2 fun _ => ⟨1, 1, []⟩).boxes.length = n := ⟨_, rfl⟩
    obtain ⟨WN, hWN⟩ : ∃ n, (svOf l0 [] 2 fun _ => ⟨1, 1, []⟩).wants.length = n := ⟨_, rfl⟩
    rw [hNN, hBN, hWN] at sv5 ⊢
    obtain ⟨sb, hsb⟩ : ∃ n, w5.heap.size = n := ⟨_, rfl⟩
    have b6 : Below w5.heap.size w5 (w5.alloc (.cells #[.slice na NN nc, .slice ba BN bc, .slice wa WN wc, .int .i64 2] 26)) := (Below.refl _ _).alloc (Nat.le_refl _) _
    have e6 := heap_alloc_new w5 (.cells #[.slice na NN nc, .slice ba BN bc, .slice wa WN wc, .int .i64 2] 26)
    obtain ⟨W6, hW6⟩ : ∃ W, w5.alloc (.cells #[.slice na NN nc, .slice ba BN bc, .slice wa WN wc, .int .i64 2] 26) = W := ⟨_, rfl⟩
    rw [hW6] at b6 e6
    rw [hsb] at e6
    have hB5 : Below w.heap.size w w5 := HP4.out.1.trans (hb5.mono HP4.out.1.size)
    have hC5 : Below w2.heap.size w2 w5 := HP4.out.2.trans (hb5.mono HP4.out.2.size)
    have HA : Hid (Ac w H hb mb 0 l0 2 [] (fun _ => ⟨1, 1, []⟩) (.slice none 0 0) sb w4.heap.size (.slice na NN nc) (.slice ba BN bc) (.slice wa WN wc) W6) :=
      ⟨hB5.trans (b6.mono hB5.size), HP0.out.1.below (hC5.trans (b6.mono hC5.size)), e6, sv5.below b6, fun k hk => by have := ps_lt HP0.out.1.st k hk; have := HP4.out.2.size; omega, by rw [← hsb]; exact hB5.size, HP0.out.2.2⟩
    clear cR sv5 hb5 b6 e6 hB5 hC5 hNN hBN hWN HP0 HP3 HP4 HR
    go_wp2_with fail
    clear hW6 hsb
    go_loopw [7] (fun iv wr => ∃ k : Nat, iv = .int .i64 (k : Int) ∧ k ≤ N ∧ Hid (∃ K l nx W C wv Bn nv bv wn, K ≤ 40 * k ∧ Ac w H hb mb K l nx W C wv sb Bn nv bv wn wr)) (fun iv _ => N - (intOf iv).toNat)
    case atStart => exact ⟨0, rfl, Nat.zero_le _, 0, l0, 2, [], _, _, _, _, _, _, Nat.le_refl _, HA.out⟩
    case round =>
      clear HA
      obtain ⟨k, rfl, hk, HI0⟩ := hrel
      by_cases hlt : k < N
      · have d1 : decide ((k : Int) < (N : Int)) = true := decide_eq_true (by omega)
        have i1 : (0 : Int) ≤ (k : Int) := by omega
        have i2 : (k : Int) < (N : Int) := by omega
        obtain ⟨K, l, nx, W, C, wv, Bn, nv, bv, wn, hK0, hac⟩ := HI0.out
        have HK : Hid (K ≤ 40 * k ∧ k < N ∧ N ≤ 8) := ⟨hK0, hlt, h8⟩
        obtain ⟨L, hLk⟩ : ∃ x, LL[k]? = some x := ⟨_, List.getElem?_eq_getElem (by have := HX.out.2.1; omega)⟩
        obtain ⟨gb, go, pv, hva, hpc, hpd⟩ := dds2_at (HX.out.1.below hac.low) hLk
        subst hva
        have HA : Hid (Ac w H hb mb K l nx W C wv sb Bn nv bv wn wr) := hac
        have HDW : Hid (∀ W', Below w.heap.size w W' → W'.cell? ⟨gb, go + k, none⟩ = some pv ∧ Dds W' pv L) := fun W' hW' => by
          obtain ⟨gb', go', pv', e1, q1, q2⟩ := dds2_at HX.out.1 hLk
          injection e1 with e1
          injection e1 with e1 e2 _
          subst e1 e2
          have q3 := (hac.low.cell (p := ⟨gb, go + k, none⟩) (World.block_lt_of_cell? _ _ q1)).trans q1
          rw [hpc] at q3
          obtain rfl := Option.some.inj q3
          exact ⟨(hW'.cell (p := ⟨gb, go + k, none⟩) (World.block_lt_of_cell? _ _ q1)).trans q1, q2.below hW' (Nat.le_refl _)⟩
        obtain ⟨da, dc, rfl, _⟩ := id hpd
        obtain ⟨M, hM⟩ : ∃ n, L.length = n := ⟨_, rfl⟩
        have HM : Hid (L.length = M) := hM
        rw [hM] at hpc hpd HDW
        have cSm := small_is (.slice da M dc) L wr hpd
        clear HI0 hac hK0 hLk hpd hM
        go_wp2_with fail
        refine cSm.mono ?_
        rintro e wr' ⟨rfl, hw⟩
        obtain rfl : wr = wr' := hw.symm
        clear cSm hw
        cases hS1 : smallB L with
        | false =>
          have HF : Hid (Below w.heap.size w wr) := HA.out.low
          clear HA hpc
          go_wp2_with fail
          go_ret
          exact ⟨rfl, HF.out⟩
        | true =>
          have HSM : Hid (M ≤ 40 ∧ ∀ d ∈ L, d.s.size ≤ 100 ∧ d.t.size ≤ 100) := by
            unfold smallB at hS1
            rw [Bool.and_eq_true, decide_eq_true_eq, List.all_eq_true] at hS1
            refine ⟨by rw [← HM.out]; exact hS1.1, fun d hd => ?_⟩
            have := hS1.2 d hd
            unfold smallD at this
            rw [Bool.and_eq_true, decide_eq_true_eq, decide_eq_true_eq] at this
            exact this
          have hK4 : K ≤ 280 := by have := HK.out; omega
          have hM40 : M ≤ 40 := HSM.out.1
          have cSv := ph_save HA.out.ph (by omega) (Below.refl _ _)
          clear hS1
          go_wp2_with fail
          refine cSv.mono ?_
          rintro e w2' ⟨⟨nv1, bv1, wv1, rfl, sv1⟩, hbs⟩
          obtain ⟨na1, nc1, rfl, _⟩ := id sv1.1.1
          obtain ⟨ba1, bc1, rfl, _⟩ := id sv1.2.1.1
          obtain ⟨wa1, wc1, rfl, _⟩ := id sv1.2.2.1
          obtain ⟨PN, hPN⟩ : ∃ n, (svOf l W nx C).names.length = n := ⟨_, rfl⟩
          obtain ⟨PQ, hPQ⟩ : ∃ n, (svOf l W nx C).boxes.length = n := ⟨_, rfl⟩
          obtain ⟨PW, hPW⟩ : ∃ n, (svOf l W nx C).wants.length = n := ⟨_, rfl⟩
          rw [hPN, hPQ, hPW] at sv1 ⊢
          obtain ⟨zb, hzb⟩ : ∃ n, w2'.heap.size = n := ⟨_, rfl⟩
          have b3 : Below w2'.heap.size w2' (w2'.alloc (.cells #[.slice na1 PN nc1, .slice ba1 PQ bc1, .slice wa1 PW wc1, .int .i64 nx] 26)) := (Below.refl _ _).alloc (Nat.le_refl _) _
          have e3 := heap_alloc_new w2' (.cells #[.slice na1 PN nc1, .slice ba1 PQ bc1, .slice wa1 PW wc1, .int .i64 nx] 26)
          obtain ⟨ws, hws⟩ : ∃ W, w2'.alloc (.cells #[.slice na1 PN nc1, .slice ba1 PQ bc1, .slice wa1 PW wc1, .int .i64 nx] 26) = W := ⟨_, rfl⟩
          rw [hws] at b3 e3
          rw [hzb] at e3
          have hbw : Below wr.heap.size wr ws := hbs.trans (b3.mono hbs.size)
          have HA3 : Hid (Ac w H hb mb K l nx W C wv sb Bn nv bv wn ws) := HA.out.below hbw
          obtain ⟨S, hS⟩ : ∃ S, PS hb mb wv l = S := ⟨_, rfl⟩
          have HW3 : Hid (SvF wr.heap.size ws (.slice na1 PN nc1) (.slice ba1 PQ bc1) (.slice wa1 PW wc1) (svOf l W nx C) ∧ ws.heap[zb]? = some (.cells #[.slice na1 PN nc1, .slice ba1 PQ bc1, .slice wa1 PW wc1, .int .i64 nx] 26 (0, 0)) ∧ PS hb mb wv l = S ∧ (∀ q, S q → q < wr.heap.size) ∧ (svOf l W nx C).names.length = PN ∧ (svOf l W nx C).boxes.length = PQ ∧ (svOf l W nx C).wants.length = PW) := ⟨sv1.below b3, e3, hS, by rw [← hS]; exact ps_lt HA.out.ph.st, hPN, hPQ, hPW⟩
          have hD : Deeds H hb mb (K + 0) S ws ws := by rw [← hS]; exact Deeds.start HA3.out.ph
          have HD0 : Hid (Deeds H hb mb (K + 0) S ws ws) := hD
          clear cSv sv1 hbs b3 e3 hbw hS hD hPN hPQ hPW HA hpc
          go_wp2_with fail
          clear hws hzb
          obtain ⟨w0, hw0⟩ : ∃ W, W = wr := ⟨_, rfl⟩
          subst hw0
          go_loopw [9] (fun jv wx => ∃ j : Nat, jv = .int .i64 (j : Int) ∧ j ≤ M ∧ Hid (Deeds H hb mb (K + j) S ws wx)) (fun jv _ => M - (intOf jv).toNat)
          case atStart => exact ⟨0, rfl, Nat.zero_le _, HD0.out⟩
          case round =>
          clear HD0
          obtain ⟨wx, hwx⟩ : ∃ W, W = wr := ⟨_, rfl⟩
          subst hwx
          obtain ⟨j, rfl, hj, HDj⟩ := hrel
          obtain ⟨t1, t2, l', nx', W', C', wv', p1, p2⟩ := HDj.out
          have hlow : Below w.heap.size w wx := HA3.out.low.trans (t2.mono HA3.out.hH)
          obtain ⟨hpc, hpd⟩ := HDW.out wx hlow
          have HL : Hid (Below w.heap.size w wx ∧ Tn S ws wx ∧ Below H ws wx ∧ (PH H (K + j) hb mb l' nx' W' C' wv' wx) ∧ ∀ q, PS hb mb wv' l' q → S q ∨ ws.heap.size ≤ q) := ⟨hlow, t1, t2, p1, p2⟩
          clear HDj hlow t1 t2 p1 p2
          by_cases hjl : j < M
          · have dj : decide ((j : Int) < (M : Int)) = true := decide_eq_true (by omega)
            have j1 : (0 : Int) ≤ (j : Int) := by omega
            have j2 : (j : Int) < (M : Int) := by omega
            obtain ⟨d, hdj⟩ : ∃ x, L[j]? = some x := ⟨_, List.getElem?_eq_getElem (by have := HM.out; omega)⟩
            obtain ⟨gd, od, hda, q0, q1, q2, q3⟩ := dds_at hpd hdj
            subst hda
            obtain ⟨hds, hdt⟩ := HSM.out.2 d (List.mem_of_getElem? hdj)
            have hKj : K + j ≤ 400 := by have := HSM.out.1; omega
            have cDe := deed_d H hb mb (K + j) l' nx' W' C' wv' d.what d.s d.t d.yes wx (HX.out.2.2.below HL.out.1).n HL.out.2.2.2.1 hKj hds hdt
            obtain ⟨dw, dS, dT, dY⟩ := d
            have HJ : Hid (j < M) := hjl
            simp only at q0 q1 q2 q3 cDe
            clear hdj hds hdt hKj hpd
            go_wp2_with fail
            refine cDe.mono ?_
            rintro e w7 hO
            have HN : Hid (Deeds H hb mb (K + (j + 1)) S ws w7) := Deeds.next HL.out.2.1 HL.out.2.2.1 HL.out.2.2.2.2 hO
            obtain ⟨⟨vv, rfl⟩, _⟩ := hO
            clear cDe HL
            go_wp2_with fail
            go_roundw
            case rel => exact ⟨j + 1, by go_num, by have := HJ.out; omega, HN⟩
            case measure => have := HJ.out; simp [intOf]; omega
          have dj : decide ((j : Int) < (M : Int)) = false := decide_eq_false (by omega)
          obtain rfl : j = M := by omega
          clear hpd HDW HSM
          have hKM : K + j ≤ 400 := by omega
          -- what was saved before, and what is kept, stay
          have tPS : Tn (PS hb mb wv l) ws wx := by rw [HW3.out.2.2.1]; exact HL.out.2.1
          have svW : SvF w0.heap.size wx (.slice na1 PN nc1) (.slice ba1 PQ bc1) (.slice wa1 PW wc1) (svOf l W nx C) := HW3.out.1.stay HA3.out.ph.st HA3.out.ph.hi.plainS (fun q hq => HW3.out.2.2.2.1 q (by rw [← HW3.out.2.2.1]; exact hq)) tPS
          have svN : SvF Bn wx nv bv wn (svOf l W nx C) := HA3.out.now.stay HA3.out.ph.st HA3.out.ph.hi.plainS HA3.out.ps tPS
          have hzc : wx.heap[zb]? = some (.cells #[.slice na1 PN nc1, .slice ba1 PQ bc1, .slice wa1 PW wc1, .int .i64 nx] 26 (0, 0)) := (tPS.block zb (Array.getElem?_eq_some_iff.1 HW3.out.2.1).1 (ps_kind HA3.out.ph.st HW3.out.2.1 (by decide) (by decide) (by decide))).trans HW3.out.2.1
          have hsc : wx.heap[sb]? = some (.cells #[nv, bv, wn, .int .i64 nx] 26 (0, 0)) := (tPS.block sb (Array.getElem?_eq_some_iff.1 HA3.out.cell).1 (ps_kind HA3.out.ph.st HA3.out.cell (by decide) (by decide) (by decide))).trans HA3.out.cell
          have HZ : Hid (∀ V, Below wx.heap.size wx V → V.cell? ⟨zb, 0, none⟩ = some (.slice na1 PN nc1) ∧ V.cell? ⟨zb, 1, none⟩ = some (.slice ba1 PQ bc1) ∧ V.cell? ⟨zb, 2, none⟩ = some (.slice wa1 PW wc1) ∧ V.cell? ⟨zb, 3, none⟩ = some (.int .i64 nx)) := fun V hV => by
            have e4 := (hV.block zb (Array.getElem?_eq_some_iff.1 hzc).1).trans hzc
            exact ⟨rd_cell e4 rfl, rd_cell e4 rfl, rd_cell e4 rfl, rd_cell e4 rfl⟩
          have HSV : Hid (∀ V, Below wx.heap.size wx V → Calls Tryz.prog 20 #[.pointer (some ⟨hb, 0, none⟩)] V fun e w' => (∃ nv bv wv', e = .returned (.agg #[nv, bv, wv', .int .i64 nx']) ∧ SvF V.heap.size w' nv bv wv' (svOf l' W' nx' C')) ∧ Below V.heap.size V w') := fun V hV => ph_save HL.out.2.2.2.1 hKM hV
          have HEV : Hid (∀ V, Below wx.heap.size wx V → AEnv V) := fun V hV => HX.out.2.2.below (HL.out.1.trans (hV.mono HL.out.1.size))
          obtain ⟨RD, hRD⟩ : ∃ t : ByteArray, ⟨(68 :: changeB (lettersB (svOf l W nx C).boxes) (svOf l' W' nx' C')).toArray⟩ = t := ⟨_, rfl⟩
          have HRD : Hid (RD.data.toList = 68 :: changeB (lettersB (svOf l W nx C).boxes) (svOf l' W' nx' C')) := by show _ = _; rw [← hRD]
          have HDI : Hid (∀ (V : World) (nv2 bv2 wv2 : Value), Below wx.heap.size wx V → SvAt V nv2 bv2 wv2 (svOf l' W' nx' C') → Calls Tryz.prog 15 #[.agg #[.slice na1 PN nc1, .slice ba1 PQ bc1, .slice wa1 PW wc1, .int .i64 nx], .agg #[nv2, bv2, wv2, .int .i64 nx']] V fun e w' => e = .returned (.tuple #[.string RD, .nilIface]) ∧ Below V.heap.size V w') := fun V nv2 bv2 wv2 hV hs => by
            rw [← hRD]
            exact ac_diff HA3.out.ph.hi HL.out.2.2.2.1.hi (by omega) hKM (HEV.out V hV) (svW.at.below hV (Nat.le_refl _)) hs
          obtain ⟨na, nc, hnv, _⟩ := id svN.1.1
          obtain ⟨ba, bc, hbv, _⟩ := id svN.2.1.1
          obtain ⟨wa, wc, hwv, _⟩ := id svN.2.2.1
          rw [HW3.out.2.2.2.2.1] at hnv
          rw [HW3.out.2.2.2.2.2.1] at hbv
          rw [HW3.out.2.2.2.2.2.2] at hwv
          subst hnv hbv hwv
          have HSN : Hid (SvF Bn wx (.slice na PN nc) (.slice ba PQ bc) (.slice wa PW wc) (svOf l W nx C) ∧ wx.heap[sb]? = some (.cells #[.slice na PN nc, .slice ba PQ bc, .slice wa PW wc, .int .i64 nx] 26 (0, 0)) ∧ w.heap.size ≤ sb ∧ w.heap.size ≤ H) := ⟨svN, hsc, HA3.out.sbn, HA3.out.hH⟩
          have HPH : Hid (HI H K l nx W C) := HA3.out.ph.hi
          clear tPS svW svN hzc hsc hRD HW3 HA3
          go_upto_region 24 with fail
          obtain ⟨WD, hWD⟩ : ∃ V, wx.drew = V := ⟨_, rfl⟩
          have hbD : Below wx.heap.size wx WD := by rw [← hWD]; exact (Below.refl _ _).drew
          have HWD : Hid (Below wx.heap.size wx WD) := hbD
          clear hbD
          refine wp_region_held_drew (S := fun W => W.cell? ⟨zb, 0, none⟩ = some (.slice na1 PN nc1) ∧ W.cell? ⟨zb, 1, none⟩ = some (.slice ba1 PQ bc1) ∧ W.cell? ⟨zb, 2, none⟩ = some (.slice wa1 PW wc1) ∧ W.cell? ⟨zb, 3, none⟩ = some (.int .i64 nx)) (by kernel_rfl) ?_ (fun hHeld => ?_)
          · exact HZ.out wx (Below.refl _ _)
          rw [hWD] at hHeld ⊢
          refine wpAnyH_take (i := 0) (v := ?_) rfl (by kernel_rfl) (by kernel_rfl) (by kernel_rfl) (fun _ _ _ h => h) (Or.inl ⟨by rfl, ?_⟩) (by first | assumption | trivial) ?_
          rotate_left
          · intro w hSw; go_simp; (try with_reducible rfl)
          change wpAnyH _ _ _ _ _ _ _ (Act.put _ (some 80) _) _; simp only [Act.put, List.setIfInBounds_toArray, List.set_cons_zero, List.set_cons_succ]
          refine wpAnyH_take (i := 1) (v := ?_) rfl (by kernel_rfl) (by kernel_rfl) (by kernel_rfl) (fun _ _ _ h => h) (Or.inl ⟨by rfl, ?_⟩) (by first | assumption | trivial) ?_
          rotate_left
          · intro w hSw; go_simp; (try with_reducible rfl)
          change wpAnyH _ _ _ _ _ _ _ (Act.put _ (some 81) _) _; simp only [Act.put, List.setIfInBounds_toArray, List.set_cons_zero, List.set_cons_succ]
          refine wpAnyH_ready (rs := [2]) (by kernel_rfl) (by simp) ?_
          refine AllReadyH.cons rfl (fun K hK => ?_) AllReadyH.nil
          go_simp
          refine (HSV.out WD HWD.out).mono ?_
          rintro e u1 ⟨⟨nv2, bv2, wv2, rfl, sv2⟩, hb2⟩
          have l1 : Below wx.heap.size wx u1 := HWD.out.trans (hb2.mono HWD.out.size)
          have k1 := HZ.out u1 l1
          have cD := HDI.out u1 nv2 bv2 wv2 l1 sv2.at
          obtain ⟨na2, nc2, rfl, _⟩ := id sv2.1.1
          obtain ⟨ba2, bc2, rfl, _⟩ := id sv2.2.1.1
          obtain ⟨wa2, wc2, rfl, _⟩ := id sv2.2.2.1
          have HU1 : Hid (Below wx.heap.size wx u1) := l1
          clear hb2 sv2 l1
          refine hK.out _ _ ?_ (fun hHeld => ?_)
          · exact k1
          clear hK K
          refine wpAnyH_ready (rs := [3]) (by kernel_rfl) (by simp) ?_
          refine AllReadyH.cons rfl (fun K hK => ?_) AllReadyH.nil
          go_simp
          refine cD.mono ?_
          rintro e u2 ⟨rfl, hb3⟩
          have l2 : Below wx.heap.size wx u2 := HU1.out.trans (hb3.mono HU1.out.size)
          have k2 := HZ.out u2 l2
          have HU2 : Hid (Below wx.heap.size wx u2) := l2
          clear cD hb3 l2
          refine hK.out _ _ ?_ (fun hHeld => ?_)
          · exact k2
          clear hK K
          refine wpAnyH_take (i := 4) (v := ?_) rfl (by kernel_rfl) (by kernel_rfl) (by kernel_rfl) (fun _ _ _ h => h) (Or.inl ⟨by rfl, ?_⟩) (by first | assumption | trivial) ?_
          rotate_left
          · intro w hSw; go_simp; (try with_reducible rfl)
          change wpAnyH _ _ _ _ _ _ _ (Act.put _ (some 79) _) _; simp only [Act.put, List.setIfInBounds_toArray, List.set_cons_zero, List.set_cons_succ]
          refine wpAnyH_take (i := 5) (v := ?_) rfl (by kernel_rfl) (by kernel_rfl) (by kernel_rfl) (fun _ _ _ h => h) (Or.inl ⟨by rfl, ?_⟩) (by first | assumption | trivial) ?_
          rotate_left
          · intro w hSw; go_simp; (try with_reducible rfl)
          change wpAnyH _ _ _ _ _ _ _ (Act.put _ (some 84) _) _; simp only [Act.put, List.setIfInBounds_toArray, List.set_cons_zero, List.set_cons_succ]
          refine wpAnyH_take (i := 6) (v := ?_) rfl (by kernel_rfl) (by kernel_rfl) (by kernel_rfl) (fun _ _ _ h => h) (Or.inl ⟨by rfl, ?_⟩) (by first | assumption | trivial) ?_
          rotate_left
          · intro w hSw; go_simp; (try with_reducible rfl)
          change wpAnyH _ _ _ _ _ _ _ (Act.put _ (some 85) _) _; simp only [Act.put, List.setIfInBounds_toArray, List.set_cons_zero, List.set_cons_succ]
          refine wpAnyH_take (i := 7) (v := ?_) rfl (by kernel_rfl) (by kernel_rfl) (by kernel_rfl) (fun _ _ _ h => h) (Or.inl ⟨by rfl, ?_⟩) (by first | assumption | trivial) ?_
          rotate_left
          · intro w hSw; go_simp; (try with_reducible rfl)
          change wpAnyH _ _ _ _ _ _ _ (Act.put _ (some 10) _) _; simp only [Act.put, List.setIfInBounds_toArray, List.set_cons_zero, List.set_cons_succ]
          refine wpAnyH_take (i := 8) (v := ?_) rfl (by kernel_rfl) (by kernel_rfl) (by kernel_rfl) (fun _ _ _ h => h) (Or.inl ⟨by rfl, ?_⟩) (by first | assumption | trivial) ?_
          rotate_left
          · intro w hSw; go_simp; (try with_reducible rfl)
          change wpAnyH _ _ _ _ _ _ _ (Act.put _ (some 11) _) _; simp only [Act.put, List.setIfInBounds_toArray, List.set_cons_zero, List.set_cons_succ]
          refine wpAnyH_done (by kernel_rfl) ?_ _
          clear hHeld k1 k2
          clear HZ HDI HSV hpc
          have hi3 : u2.heap[sb]? = some (.cells #[.slice na PN nc, .slice ba PQ bc, .slice wa PW wc, .int .i64 nx] 26 (0, 0)) := (HU2.out.block sb (Array.getElem?_eq_some_iff.1 HSN.out.2.1).1).trans HSN.out.2.1
          obtain ⟨⟨s0, s1, s2, s3⟩, _, _⟩ := four_facts hi3 (.slice none 0 0) (.slice none 0 0) (.slice none 0 0) (.int .i64 0)
          have cAp := ac_apply HPH.out HL.out.2.2.2.1.hi (by omega) hKM (HEV.out u2 HU2.out) (HSN.out.1.at.below HU2.out (Nat.le_refl _)) RD HRD.out
          have HI3 : Hid (u2.heap[sb]? = some (.cells #[.slice na PN nc, .slice ba PQ bc, .slice wa PW wc, .int .i64 nx] 26 (0, 0))) := hi3
          clear hi3
          go_wp2_with fail
          refine cAp.mono ?_
          rintro e u3 ⟨⟨nv3, bv3, wv3, rfl, sv3⟩, hb3⟩
          obtain ⟨na3, nc3, rfl, _⟩ := id sv3.1.1
          obtain ⟨ba3, bc3, rfl, _⟩ := id sv3.2.1.1
          obtain ⟨wa3, wc3, rfl, _⟩ := id sv3.2.2.1
          obtain ⟨QN, hQN⟩ : ∃ n, (svOf l' W' nx' C').names.length = n := ⟨_, rfl⟩
          obtain ⟨QB, hQB⟩ : ∃ n, (svOf l' W' nx' C').boxes.length = n := ⟨_, rfl⟩
          obtain ⟨QW, hQW⟩ : ∃ n, (svOf l' W' nx' C').wants.length = n := ⟨_, rfl⟩
          rw [hQN, hQB, hQW] at sv3 ⊢
          have HQ : Hid ((svOf l' W' nx' C').names.length = QN ∧ (svOf l' W' nx' C').boxes.length = QB ∧ (svOf l' W' nx' C').wants.length = QW) := ⟨hQN, hQB, hQW⟩
          have e3 := (hb3.block sb (Array.getElem?_eq_some_iff.1 HI3.out).1).trans HI3.out
          clear s0 s1 s2 s3
          obtain ⟨⟨s0, s1, s2, s3⟩, ⟨f0, f1, f2, f3⟩, u⟩ := four_facts e3 (.slice na3 QN nc3) (.slice ba3 QB bc3) (.slice wa3 QW wc3) (.int .i64 nx')
          obtain ⟨W9, hW9⟩ : ∃ V, ((((u3.setCell ⟨sb, 0, none⟩ (.slice na3 QN nc3)).setCell ⟨sb, 1, none⟩ (.slice ba3 QB bc3)).setCell ⟨sb, 2, none⟩ (.slice wa3 QW wc3)).setCell ⟨sb, 3, none⟩ (.int .i64 nx')) = V := ⟨_, rfl⟩
          have hbut : But u3.heap.size sb u3 W9 := by rw [← hW9]; exact ((((to_but (Below.refl _ _)).setB 0 _).setB 1 _).setB 2 _).setB 3 _
          rw [hW9] at u
          have hx3 : Below wx.heap.size wx u3 := HU2.out.trans (hb3.mono HU2.out.size)
          have hw3 : Below w.heap.size w u3 := HL.out.1.trans (hx3.mono HL.out.1.size)
          have hsb2 : sb < u2.heap.size := (Array.getElem?_eq_some_iff.1 HI3.out).1
          have HA9 : Hid (Ac w H hb mb (K + j) l' nx' W' C' wv' sb u2.heap.size (.slice na3 QN nc3) (.slice ba3 QB bc3) (.slice wa3 QW wc3) W9) :=
            ⟨hw3.trans (hbut.below hw3.size HSN.out.2.2.1), (HL.out.2.2.2.1.below hx3).apart e3 notx_sv hbut, u, sv3.turned e3 notx_sv hbut hsb2, fun q hq => by have := ps_lt HL.out.2.2.2.1.st q hq; have := HU2.out.size; omega, HSN.out.2.2.1, HSN.out.2.2.2⟩
          have HE9 : Hid (∀ V, Below W9.heap.size W9 V → AEnv V ∧ (V.cell? ⟨sb, 0, none⟩ = some (.slice na3 QN nc3) ∧ V.cell? ⟨sb, 1, none⟩ = some (.slice ba3 QB bc3) ∧ V.cell? ⟨sb, 2, none⟩ = some (.slice wa3 QW wc3) ∧ V.cell? ⟨sb, 3, none⟩ = some (.int .i64 nx'))) := fun V hV => by
            have q := HA9.out.below hV
            exact ⟨HX.out.2.2.below q.low, rd_cell q.cell rfl, rd_cell q.cell rfl, rd_cell q.cell rfl, rd_cell q.cell rfl⟩
          obtain ⟨RX, hRX⟩ : ∃ t : ByteArray, ⟨(70 :: houseB (svOf l' W' nx' C')).toArray⟩ = t := ⟨_, rfl⟩
          have HRX : Hid (RX.data.toList = 70 :: houseB (svOf l' W' nx' C')) := by show _ = _; rw [← hRX]
          have HFU : Hid (∀ (V : World) (nv bv wv : Value), Below W9.heap.size W9 V → SvAt V nv bv wv (svOf l' W' nx' C') → Calls Tryz.prog 9 #[.agg #[nv, bv, wv, .int .i64 nx']] V fun e w' => e = .returned (.tuple #[.string RX, .nilIface]) ∧ Below V.heap.size V w') := fun V nv bv wv hV hs => by
            rw [← hRX]
            exact ac_full HA9.out.ph.hi hKM (HE9.out V hV).1 hs
          clear cAp sv3 hb3 e3 u hbut hx3 hw3 hsb2 hQN hQB hQW hRX HSN HPH HI3 HU1 HU2 HWD HEV HL HRD
          obtain ⟨_, m0, m1, m2, m3⟩ := HE9.out W9 (Below.refl _ _)
          have cF := HFU.out W9 _ _ _ (Below.refl _ _) HA9.out.now.at
          go_wp2_with fail
          refine cF.mono ?_
          rintro e v1 ⟨rfl, hv1⟩
          have HV1 : Hid (Below W9.heap.size W9 v1) := hv1
          have cS3 := ph_save HA9.out.ph hKM hv1
          clear cF hv1 s0 s1 s2 s3 m0 m1 m2 m3 f0 f1 f2 f3 hW9
          go_wp2_with fail
          refine cS3.mono ?_
          rintro e v2 ⟨⟨nv4, bv4, wv4, rfl, sv4⟩, hv2⟩
          have l2 : Below W9.heap.size W9 v2 := HV1.out.trans (hv2.mono HV1.out.size)
          have cF2 := HFU.out v2 _ _ _ l2 sv4.at
          obtain ⟨na4, nc4, rfl, _⟩ := id sv4.1.1
          obtain ⟨ba4, bc4, rfl, _⟩ := id sv4.2.1.1
          obtain ⟨wa4, wc4, rfl, _⟩ := id sv4.2.2.1
          have HV2 : Hid (Below W9.heap.size W9 v2) := l2
          clear cS3 sv4 hv2 l2 HV1
          go_wp2_with fail
          refine cF2.mono ?_
          rintro e v3 ⟨rfl, hv3⟩
          have HV3 : Hid (Below W9.heap.size W9 v3) := HV2.out.trans (hv3.mono HV2.out.size)
          obtain ⟨_, m0, m1, m2, m3⟩ := HE9.out v3 HV3.out
          have cL := ac_load HA9.out.ph.hi hKM (HE9.out v3 HV3.out).1 (HA9.out.now.at.below HV3.out (Nat.le_refl _))
          clear cF2 hv3 HV2
          go_wp2_with fail
          refine cL.mono ?_
          rintro e v4 ⟨⟨hb4, mb4, wv4', l4, C4, rfl, hse4, he4⟩, hv4⟩
          have HV4 : Hid (Below W9.heap.size W9 v4 ∧ Hse v4 hb4 mb4 l4 nx' wv4' W' C4 ∧ svOf l4 W' nx' C4 = svOf l' W' nx' C') := ⟨HV3.out.trans (hv4.mono HV3.out.size), hse4, he4⟩
          have cR := ac_read HA9.out.ph.hi hKM (HE9.out v4 HV4.out.1).1 RX HRX.out
          clear cL hse4 he4 hv4 HV3 m0 m1 m2 m3
          go_wp2_with fail
          refine cR.mono ?_
          rintro e v5 ⟨⟨nz, bz, wz, rfl, sz⟩, hv5⟩
          obtain ⟨naz, ncz, rfl, _⟩ := id sz.1.1
          obtain ⟨baz, bcz, rfl, _⟩ := id sz.2.1.1
          obtain ⟨waz, wcz, rfl, _⟩ := id sz.2.2.1
          rw [HQ.out.1, HQ.out.2.1, HQ.out.2.2]
          obtain ⟨qb, hqb⟩ : ∃ n, v5.heap.size = n := ⟨_, rfl⟩
          have b10 : Below v5.heap.size v5 (v5.alloc (.cells #[.slice naz QN ncz, .slice baz QB bcz, .slice waz QW wcz, .int .i64 nx'] 26)) := (Below.refl _ _).alloc (Nat.le_refl _) _
          have e10 := heap_alloc_new v5 (.cells #[.slice naz QN ncz, .slice baz QB bcz, .slice waz QW wcz, .int .i64 nx'] 26)
          obtain ⟨W10, hW10⟩ : ∃ V, v5.alloc (.cells #[.slice naz QN ncz, .slice baz QB bcz, .slice waz QW wcz, .int .i64 nx'] 26) = V := ⟨_, rfl⟩
          rw [hW10] at b10 e10
          rw [hqb] at e10
          have h410 : Below v4.heap.size v4 W10 := hv5.trans (b10.mono hv5.size)
          have HV10 : Hid (Below W9.heap.size W9 W10 ∧ W10.heap[qb]? = some (.cells #[.slice naz QN ncz, .slice baz QB bcz, .slice waz QW wcz, .int .i64 nx'] 26 (0, 0))) := ⟨HV4.out.1.trans (h410.mono HV4.out.1.size), e10⟩
          have cA1 := ac_all HA9.out.ph.hi hKM (HE9.out W10 HV10.out.1).1 (HV4.out.2.1.below h410) HV4.out.2.2
          clear cR sz hv5 b10 e10 h410 HV4
          go_wp2_with fail
          refine cA1.mono ?_
          rintro e v6 ⟨⟨t1, rfl, ht1⟩, hv6⟩
          have HV6 : Hid (Below W9.heap.size W9 v6 ∧ t1.data.toList = allB (svOf l' W' nx' C') ∧ v6.heap[qb]? = some (.cells #[.slice naz QN ncz, .slice baz QB bcz, .slice waz QW wcz, .int .i64 nx'] 26 (0, 0))) := ⟨HV10.out.1.trans (hv6.mono HV10.out.1.size), ht1, (hv6.block qb (Array.getElem?_eq_some_iff.1 HV10.out.2).1).trans HV10.out.2⟩
          have cA2 := ac_all HA9.out.ph.hi hKM (HE9.out v6 HV6.out.1).1 (HA9.out.ph.below HV6.out.1).st.hse rfl
          clear cA1 ht1 hv6 HV10 hW10 hqb
          go_wp2_with fail
          refine cA2.mono ?_
          rintro e v7 ⟨⟨t2, rfl, ht2⟩, hv7⟩
          obtain rfl : t1 = t2 := ba_same (HV6.out.2.1.trans ht2.symm)
          have HV7 : Hid (Below W9.heap.size W9 v7) := HV6.out.1.trans (hv7.mono HV6.out.1.size)
          have z0 : v7.cell? ⟨qb, 0, none⟩ = some (.slice naz QN ncz) := rd_cell ((hv7.block qb (Array.getElem?_eq_some_iff.1 HV6.out.2.2).1).trans HV6.out.2.2) rfl
          obtain ⟨_, m0, m1, m2, m3⟩ := HE9.out v7 HV7.out
          clear cA2 ht2 hv7 HV6
          go_wp2_with fail
          clear z0
          have HWQ : Hid (W'.length = QW ∧ l'.length = QN ∧ l'.length = QB) := ⟨HQ.out.2.2, by rw [← HQ.out.1]; simp [svOf, namesB], by rw [← HQ.out.2.1]; simp [svOf]⟩
          have hQW : QW ≤ 60 := by rw [← HWQ.out.1]; exact HA9.out.ph.hi.wlen
          have hQN : QN ≤ 30 := by rw [← HWQ.out.2.1]; exact HA9.out.ph.hi.len
          go_loopw [20, 21] (fun mv iv wy => ∃ (i m : Nat), iv = .int .i64 (i : Int) ∧ mv = .int .i64 (m : Int) ∧ i ≤ QW ∧ m ≤ 60 + i * 64 ∧ Hid (m = 60 + ((W'.take i).map fun t => 4 + t.length).sum) ∧ wy = v7) (fun _ iv _ => QW - (intOf iv).toNat)
          case atStart => exact ⟨0, 60, rfl, rfl, Nat.zero_le _, Nat.le_refl _, by first | exact trivial | (show _ = _; simp), by first | exact trivial | rfl⟩
          case round =>
          obtain ⟨i, m, rfl, rfl, hi, hm, HMS, hwy⟩ := hrel
          obtain rfl : v7 = wr := hwy.symm
          clear hwy
          by_cases hil : i < QW
          · have di : decide ((i : Int) < (QW : Int)) = true := decide_eq_true (by omega)
            have y1 : (0 : Int) ≤ (i : Int) := by omega
            have y2 : (i : Int) < (QW : Int) := by omega
            obtain ⟨t, hti⟩ : ∃ x, W'[i]? = some x := ⟨_, List.getElem?_eq_getElem (by have := HWQ.out.1; omega)⟩
            have hsl : Sl v7 (.slice wa3 QW wc3) W' := HA9.out.now.at.2.2.below HV7.out (Nat.le_refl _)
            obtain ⟨gw, ow, hwa, hcw⟩ := sl_at hsl hti
            subst hwa
            have hct := hcw i t hti
            have htl : t.length ≤ 60 := nameB_len60 (HA9.out.ph.hi.wnm t (List.mem_of_getElem? hti))
            obtain ⟨tb, htb⟩ : ∃ q : ByteArray, ⟨t.toArray⟩ = q := ⟨_, rfl⟩
            have htz : tb.size = t.length := by rw [← htb]; exact ba_size t
            rw [htb] at hct
            have hz60 : tb.size ≤ 60 := by omega
            have HN : Hid (m + (4 + tb.size) = 60 + ((W'.take (i + 1)).map fun t => 4 + t.length).sum) := by
              show _ = _
              rw [List.take_add_one, hti, List.map_append, List.sum_append, HMS.out, htz]
              simp
              omega
            clear hti hsl hcw htl htb htz HMS
            go_wp2_with fail
            go_roundw
            case rel => exact ⟨i + 1, m + (4 + tb.size), by go_num, by go_num, by omega, by omega, HN, by first | exact trivial | rfl⟩
            case measure => simp [intOf]; omega
          have di : decide ((i : Int) < (QW : Int)) = false := decide_eq_false (by omega)
          obtain rfl : i = QW := by omega
          have HM3 : Hid (m = 60 + (W'.map fun t => 4 + t.length).sum) := by
            have := HMS.out
            rw [List.take_of_length_le (by have := HWQ.out.1; omega)] at this
            exact this
          clear HMS
          obtain ⟨m3, hm3⟩ : ∃ n, m = n := ⟨_, rfl⟩
          subst hm3
          go_wp2_with fail
          clear di
          have hmm : m ≤ 3900 := by omega
          clear hm m0 m1 m2 m3
          go_loopw [20, 22] (fun mv iv wy => ∃ (i q : Nat), iv = .int .i64 (i : Int) ∧ mv = .int .i64 (q : Int) ∧ i ≤ QN ∧ q ≤ 3900 + i * 1000 ∧ Hid (q = m + ((l'.take i).map fun p => 50 + p.1.length + 11 * (C' p.2).ls.length).sum ∧ Below v7.heap.size v7 wy)) (fun _ iv _ => QN - (intOf iv).toNat)
          case atStart => exact ⟨0, m, rfl, rfl, Nat.zero_le _, by omega, by simp, Below.refl _ _⟩
          case round =>
          obtain ⟨i, q, rfl, rfl, hi, hm, HMS⟩ := hrel
          obtain ⟨wy, hwy⟩ : ∃ V, V = wr := ⟨_, rfl⟩
          subst hwy
          have HY : Hid (Below W9.heap.size W9 wy) := HV7.out.trans (HMS.out.2.mono HV7.out.size)
          obtain ⟨_, m0, m1, m2, m3⟩ := HE9.out wy HY.out
          by_cases hil : i < QN
          · have di : decide ((i : Int) < (QN : Int)) = true := decide_eq_true (by omega)
            have y1 : (0 : Int) ≤ (i : Int) := by omega
            have y2 : (i : Int) < (QN : Int) := by omega
            obtain ⟨p, hpi⟩ : ∃ x, l'[i]? = some x := ⟨_, List.getElem?_eq_getElem (by have := HWQ.out.2.1; omega)⟩
            obtain ⟨WY, hWY⟩ : ∃ V, wy.drew = V := ⟨_, rfl⟩
            have hbY : Below wy.heap.size wy WY := by rw [← hWY]; exact (Below.refl _ _).drew
            have hY9 : Below W9.heap.size W9 WY := HY.out.trans (hbY.mono HY.out.size)
            have hsv := HA9.out.now.at.below HY.out (Nat.le_refl _)
            obtain ⟨gw, ow, hwa, hcw⟩ := sl_at hsv.1 (k := i) (x := p.1) (by show (l'.map Prod.fst)[i]? = _; rw [List.getElem?_map, hpi]; rfl)
            subst hwa
            have hct := hcw i p.1 (by show (l'.map Prod.fst)[i]? = _; rw [List.getElem?_map, hpi]; rfl)
            obtain ⟨gx, ox, hxa, r1, r2, lv, r3, r4⟩ := bxr_at2 hsv.2.1 (k := i) (x := C' p.2) (by show (l'.map fun p => C' p.2)[i]? = _; rw [List.getElem?_map, hpi]; rfl)
            subst hxa
            obtain ⟨la, lc, rfl, _⟩ := id r4
            have htl : p.1.length ≤ 60 := HA9.out.ph.hi.short p (List.mem_of_getElem? hpi)
            have hll : (C' p.2).ls.length ≤ 60 := (HA9.out.ph.hi.bx p (List.mem_of_getElem? hpi)).most
            obtain ⟨tb, htb⟩ : ∃ q : ByteArray, ⟨p.1.toArray⟩ = q := ⟨_, rfl⟩
            have htz : tb.size = p.1.length := by rw [← htb]; exact ba_size p.1
            rw [htb] at hct
            obtain ⟨ll, hlle⟩ : ∃ n, (C' p.2).ls.length = n := ⟨_, rfl⟩
            rw [hlle] at r3 hll
            have hz60 : tb.size ≤ 60 := by omega
            have y3 : (i : Int) < (QB : Int) := by have := HWQ.out; omega
            have HN : Hid (q + (50 + tb.size + 11 * ll) = m + ((l'.take (i + 1)).map fun p => 50 + p.1.length + 11 * (C' p.2).ls.length).sum ∧ Below v7.heap.size v7 WY) := by
              refine ⟨?_, HMS.out.2.trans (hbY.mono HMS.out.2.size)⟩
              rw [List.take_add_one, hpi, List.map_append, List.sum_append, HMS.out.1, htz]
              simp [hlle]
              omega
            clear hpi hsv hcw htl htb htz HMS r1 r2 r4 hlle hbY hY9
            have x1 : IntKind.i64.wrap (50 + (tb.size : Int)) = 50 + (tb.size : Int) := by rw [IntKind.wrap_i64]; omega
            have x2 : IntKind.i64.wrap (11 * (ll : Int)) = 11 * (ll : Int) := by rw [IntKind.wrap_i64]; omega
            have x3 : IntKind.i64.wrap (50 + (tb.size : Int) + 11 * (ll : Int)) = 50 + (tb.size : Int) + 11 * (ll : Int) := by rw [IntKind.wrap_i64]; omega
            have x4 : IntKind.i64.wrap ((q : Int) + (50 + (tb.size : Int) + 11 * (ll : Int))) = ((q + (50 + tb.size + 11 * ll) : Nat) : Int) := by
              rw [show IntKind.i64.wrap ((q : Int) + (50 + (tb.size : Int) + 11 * (ll : Int))) = (q : Int) + (50 + (tb.size : Int) + 11 * (ll : Int)) from by rw [IntKind.wrap_i64]; omega]
              omega
            obtain ⟨qq, hqq⟩ : ∃ n, q + (50 + tb.size + 11 * ll) = n := ⟨_, rfl⟩
            rw [hqq] at x4 HN
            have hq9 : qq ≤ 3900 + (i + 1) * 1000 := by omega
            clear hqq
            go_upto_region 44 with fail
            refine wp_region_held_drew (S := fun W => W.cell? ⟨sb, 0, none⟩ = some (.slice (some ⟨gw, ow, none⟩) QN nc3) ∧ W.cell? ⟨sb, 1, none⟩ = some (.slice (some ⟨gx, ox, none⟩) QB bc3) ∧ W.cell? ⟨gw, ow + i, none⟩ = some (.string tb) ∧ W.cell? ⟨gx, ox + i * 3 + 2, none⟩ = some (.slice la ll lc)) (by kernel_rfl) ?_ (fun hHeld => ?_)
            · exact ⟨m0, m1, hct, r3⟩
            rw [hWY] at hHeld ⊢
            refine wpAnyH_take (i := 0) (v := ?_) rfl (by kernel_rfl) (by kernel_rfl) (by kernel_rfl) (fun _ _ _ h => h) (Or.inl ⟨by rfl, ?_⟩) (by first | assumption | trivial) ?_
            rotate_left
            · intro w hSw; go_simp; (try with_reducible rfl)
            change wpAnyH _ _ _ _ _ _ _ (Act.put _ (some 179) _) _; simp only [Act.put, List.setIfInBounds_toArray, List.set_cons_zero, List.set_cons_succ]
            refine wpAnyH_take (i := 1) (v := ?_) rfl (by kernel_rfl) (by kernel_rfl) (by kernel_rfl) (fun _ _ _ h => h) (Or.inl ⟨by rfl, ?_⟩) (by first | assumption | trivial) ?_
            rotate_left
            · intro w hSw; go_simp; (try with_reducible rfl)
            change wpAnyH _ _ _ _ _ _ _ (Act.put _ (some 180) _) _; simp only [Act.put, List.setIfInBounds_toArray, List.set_cons_zero, List.set_cons_succ]
            refine wpAnyH_take (i := 2) (v := ?_) rfl (by kernel_rfl) (by kernel_rfl) (by kernel_rfl) (fun _ _ _ h => h) (Or.inl ⟨by rfl, ?_⟩) (by first | assumption | trivial) ?_
            rotate_left
            · intro w hSw; go_simp; (try with_reducible rfl)
            change wpAnyH _ _ _ _ _ _ _ (Act.put _ (some 181) _) _; simp only [Act.put, List.setIfInBounds_toArray, List.set_cons_zero, List.set_cons_succ]
            refine wpAnyH_take (i := 3) (v := ?_) rfl (by kernel_rfl) (by kernel_rfl) (by kernel_rfl) (fun _ _ _ h => h) (Or.inl ⟨by rfl, ?_⟩) (by first | assumption | trivial) ?_
            rotate_left
            · intro w hSw; go_simp; (try with_reducible rfl)
            change wpAnyH _ _ _ _ _ _ _ (Act.put _ (some 182) _) _; simp only [Act.put, List.setIfInBounds_toArray, List.set_cons_zero, List.set_cons_succ]
            refine wpAnyH_take (i := 4) (v := ?_) rfl (by kernel_rfl) (by kernel_rfl) (by kernel_rfl) (fun _ _ _ h => h) (Or.inl ⟨by rfl, ?_⟩) (by first | assumption | trivial) ?_
            rotate_left
            · intro w hSw; go_simp; (try with_reducible rfl)
            change wpAnyH _ _ _ _ _ _ _ (Act.put _ (some 183) _) _; simp only [Act.put, List.setIfInBounds_toArray, List.set_cons_zero, List.set_cons_succ]
            refine wpAnyH_take (i := 5) (v := ?_) rfl (by kernel_rfl) (by kernel_rfl) (by kernel_rfl) (fun _ _ _ h => h) (Or.inl ⟨by rfl, ?_⟩) (by first | assumption | trivial) ?_
            rotate_left
            · intro w hSw; go_simp; (try with_reducible rfl)
            change wpAnyH _ _ _ _ _ _ _ (Act.put _ (some 184) _) _; simp only [Act.put, List.setIfInBounds_toArray, List.set_cons_zero, List.set_cons_succ]
            refine wpAnyH_take (i := 6) (v := ?_) rfl (by kernel_rfl) (by kernel_rfl) (by kernel_rfl) (fun _ _ _ h => h) (Or.inl ⟨by rfl, ?_⟩) (by first | assumption | trivial) ?_
            rotate_left
            · intro w hSw; go_simp; (try with_reducible rfl)
            change wpAnyH _ _ _ _ _ _ _ (Act.put _ (some 185) _) _; simp only [Act.put, List.setIfInBounds_toArray, List.set_cons_zero, List.set_cons_succ]
            refine wpAnyH_take (i := 7) (v := ?_) rfl (by kernel_rfl) (by kernel_rfl) (by kernel_rfl) (fun _ _ _ h => h) (Or.inl ⟨by rfl, ?_⟩) (by first | assumption | trivial) ?_
            rotate_left
            · intro w hSw; go_simp; (try with_reducible rfl)
            change wpAnyH _ _ _ _ _ _ _ (Act.put _ (some 186) _) _; simp only [Act.put, List.setIfInBounds_toArray, List.set_cons_zero, List.set_cons_succ]
            refine wpAnyH_take (i := 8) (v := ?_) rfl (by kernel_rfl) (by kernel_rfl) (by kernel_rfl) (fun _ _ _ h => h) (Or.inl ⟨by rfl, ?_⟩) (by first | assumption | trivial) ?_
            rotate_left
            · intro w hSw; go_simp; (try with_reducible rfl)
            change wpAnyH _ _ _ _ _ _ _ (Act.put _ (some 187) _) _; simp only [Act.put, List.setIfInBounds_toArray, List.set_cons_zero, List.set_cons_succ]
            refine wpAnyH_take (i := 9) (v := ?_) rfl (by kernel_rfl) (by kernel_rfl) (by kernel_rfl) (fun _ _ _ h => h) (Or.inl ⟨by rfl, ?_⟩) (by first | assumption | trivial) ?_
            rotate_left
            · intro w hSw; go_simp; (try with_reducible rfl)
            change wpAnyH _ _ _ _ _ _ _ (Act.put _ (some 188) _) _; simp only [Act.put, List.setIfInBounds_toArray, List.set_cons_zero, List.set_cons_succ]
            refine wpAnyH_take (i := 10) (v := ?_) rfl (by kernel_rfl) (by kernel_rfl) (by kernel_rfl) (fun _ _ _ h => h) (Or.inl ⟨by rfl, ?_⟩) (by first | assumption | trivial) ?_
            rotate_left
            · intro w hSw; go_simp; (try with_reducible rfl)
            change wpAnyH _ _ _ _ _ _ _ (Act.put _ (some 189) _) _; simp only [Act.put, List.setIfInBounds_toArray, List.set_cons_zero, List.set_cons_succ]
            refine wpAnyH_take (i := 11) (v := ?_) rfl (by kernel_rfl) (by kernel_rfl) (by kernel_rfl) (fun _ _ _ h => h) (Or.inl ⟨by rfl, ?_⟩) (by first | assumption | trivial) ?_
            rotate_left
            · intro w hSw; go_simp; (try with_reducible rfl)
            change wpAnyH _ _ _ _ _ _ _ (Act.put _ (some 190) _) _; simp only [Act.put, List.setIfInBounds_toArray, List.set_cons_zero, List.set_cons_succ]
            refine wpAnyH_take (i := 12) (v := ?_) rfl (by kernel_rfl) (by kernel_rfl) (by kernel_rfl) (fun _ _ _ h => h) (Or.inl ⟨by rfl, ?_⟩) (by first | assumption | trivial) ?_
            rotate_left
            · intro w hSw; go_simp; (try with_reducible rfl)
            change wpAnyH _ _ _ _ _ _ _ (Act.put _ (some 191) _) _; simp only [Act.put, List.setIfInBounds_toArray, List.set_cons_zero, List.set_cons_succ]
            refine wpAnyH_take (i := 13) (v := ?_) rfl (by kernel_rfl) (by kernel_rfl) (by kernel_rfl) (fun _ _ _ h => h) (Or.inl ⟨by rfl, ?_⟩) (by first | assumption | trivial) ?_
            rotate_left
            · intro w hSw; go_simp; (try with_reducible rfl)
            change wpAnyH _ _ _ _ _ _ _ (Act.put _ (some 192) _) _; simp only [Act.put, List.setIfInBounds_toArray, List.set_cons_zero, List.set_cons_succ]
            refine wpAnyH_take (i := 14) (v := ?_) rfl (by kernel_rfl) (by kernel_rfl) (by kernel_rfl) (fun _ _ _ h => h) (Or.inl ⟨by rfl, ?_⟩) (by first | assumption | trivial) ?_
            rotate_left
            · intro w hSw; go_simp; (try with_reducible rfl)
            change wpAnyH _ _ _ _ _ _ _ (Act.put _ (some 193) _) _; simp only [Act.put, List.setIfInBounds_toArray, List.set_cons_zero, List.set_cons_succ]
            refine wpAnyH_take (i := 15) (v := ?_) rfl (by kernel_rfl) (by kernel_rfl) (by kernel_rfl) (fun _ _ _ h => h) (Or.inl ⟨by rfl, ?_⟩) (by first | assumption | trivial) ?_
            rotate_left
            · intro w hSw; go_simp; (try with_reducible rfl)
            change wpAnyH _ _ _ _ _ _ _ (Act.put _ (some 194) _) _; simp only [Act.put, List.setIfInBounds_toArray, List.set_cons_zero, List.set_cons_succ]
            refine wpAnyH_take (i := 16) (v := ?_) rfl (by kernel_rfl) (by kernel_rfl) (by kernel_rfl) (fun _ _ _ h => h) (Or.inl ⟨by rfl, ?_⟩) (by first | assumption | trivial) ?_
            rotate_left
            · intro w hSw; go_simp; (try with_reducible rfl)
            change wpAnyH _ _ _ _ _ _ _ (Act.put _ (some 195) _) _; simp only [Act.put, List.setIfInBounds_toArray, List.set_cons_zero, List.set_cons_succ]
            refine wpAnyH_take (i := 17) (v := ?_) rfl (by kernel_rfl) (by kernel_rfl) (by kernel_rfl) (fun _ _ _ h => h) (Or.inl ⟨by rfl, ?_⟩) (by first | assumption | trivial) ?_
            rotate_left
            · intro w hSw; go_simp; (try with_reducible rfl)
            change wpAnyH _ _ _ _ _ _ _ (Act.put _ (some 196) _) _; simp only [Act.put, List.setIfInBounds_toArray, List.set_cons_zero, List.set_cons_succ]
            refine wpAnyH_take (i := 18) (v := ?_) rfl (by kernel_rfl) (by kernel_rfl) (by kernel_rfl) (fun _ _ _ h => h) (Or.inl ⟨by rfl, ?_⟩) (by first | assumption | trivial) ?_
            rotate_left
            · intro w hSw; go_simp; (try with_reducible rfl)
            change wpAnyH _ _ _ _ _ _ _ (Act.put _ (some 20) _) _; simp only [Act.put, List.setIfInBounds_toArray, List.set_cons_zero, List.set_cons_succ]
            refine wpAnyH_done (by kernel_rfl) ?_ _
            clear m0 m1 m2 m3 r3 hct x1 x2 x3 x4
            go_wp2_with fail
            go_roundw
            case rel => exact ⟨i + 1, qq, by go_num, rfl, by omega, hq9, HN⟩
            case measure => simp [intOf]; omega
          have di : decide ((i : Int) < (QN : Int)) = false := decide_eq_false (by omega)
          obtain rfl : i = QN := by omega
          have HQ4 : Hid (q = mostB l' W' C') := by
            have := HMS.out.1
            rw [List.take_of_length_le (by have := HWQ.out.2.1; omega), HM3.out] at this
            exact this
          have cD2 := ac_diff HA9.out.ph.hi HA9.out.ph.hi hKM hKM (HE9.out wy HY.out).1 (HA9.out.now.at.below HY.out (Nat.le_refl _)) (HA9.out.now.at.below HY.out (Nat.le_refl _))
          obtain ⟨RZ, hRZ⟩ : ∃ t : ByteArray, ⟨(68 :: changeB (lettersB (svOf l' W' nx' C').boxes) (svOf l' W' nx' C')).toArray⟩ = t := ⟨_, rfl⟩
          have hzl : RZ.size ≤ q := by
            rw [HQ4.out, ← hRZ, ba_size]
            exact HA9.out.ph.hi.same_len hKM
          rw [hRZ] at cD2
          have dz : decide ((q : Int) < (RZ.size : Int)) = false := decide_eq_false (by omega)
          have hzn : ¬ q < RZ.size := by omega
          have hzm : decide (q < RZ.size) = false := decide_eq_false hzn
          clear hRZ HMS HM3 HQ4
          go_wp2_with fail
          refine cD2.mono ?_
          rintro e y1 ⟨rfl, hy1⟩
          have HY1 : Hid (Below W9.heap.size W9 y1) := HY.out.trans (hy1.mono HY.out.size)
          have HNX : Hid (∃ K l nx W C wv Bn nv bv wn, K ≤ 40 * (k + 1) ∧ Ac w H hb mb K l nx W C wv sb Bn nv bv wn y1) := ⟨K + j, l', nx', W', C', wv', _, _, _, _, by have := HK.out; omega, HA9.out.below HY1.out⟩
          have HKN : Hid (k < N ∧ k + 1 ≤ N) := by have := HK.out; exact ⟨this.2.1, this.2.1⟩
          clear cD2 hy1 HA9 HE9 HFU HRX m0 m1 m2 m3
          go_wp2_with fail
          go_roundw
          case rel => exact ⟨k + 1, by go_num, HKN.out.2, HNX⟩
          case measure => have := HKN.out; simp [intOf]; omega
      · have d1 : decide ((k : Int) < (N : Int)) = false := decide_eq_false (by omega)
        have HF : Hid (Below w.heap.size w wr) := by
          obtain ⟨_, _, _, _, _, _, _, _, _, _, _, hac⟩ := HI0.out
          exact hac.low
        clear HI0
        go_wp2_with fail
        go_ret
        exact ⟨rfl, HF.out⟩
  · have d8 : decide ((8 : Int) < (N : Int)) = true := decide_eq_true (by omega)
    clear cA
    go_enter Tryz.func4, Tryz.ntmps4
    go_wp2_with fail
    go_ret
    exact ⟨rfl, Below.refl _ _⟩
end Go.Proofs.YtdmplfflmdanlaaGreatDoor
