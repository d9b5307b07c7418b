/-
  Rows of numbers that a reader of package archive reads, and more.
-/
import Derived.Test.YtdmplfflmdanlaaGreatDoorBpArLetter
namespace Go.Proofs.YtdmplfflmdanlaaGreatDoor
open Go.RowKit Go.Proofs.Aid Go.Proofs.Bx

set_option maxHeartbeats 4000000 in
set_option maxRecDepth 100000 in
theorem rnums_is (rb most : Nat) (s : Nm) (w : World) (h : Rdr rb s w) (hE : RdE w) (hs : s.length ≤ 1000000000) (hm : most ≤ 1000) :
    Calls Tryz.prog 66 #[.pointer (some ⟨rb, 0, none⟩), .int .i64 (most : Int), .func (.func 67) #[.pointer (some ⟨rb, 0, none⟩)] #[]] w fun e w' => (∃ v, e = .returned v ∧ NOwn w' w.heap.size v (readRowS most (untilS 59) s).1) ∧ Rdr rb (readRowS most (untilS 59) s).2 w' ∧ But w.heap.size rb w w' := by
  have cN := rnumber_is rb s w h hE hs
  have hge := until_ge 59 s
  have hle := until_len 59 s
  have hT : readRowS most (untilS 59) s = rowS (untilS 59) (min (untilS 59 s).1.toNat most) (untilS 59 s).2 := rfl
  rw [hT]
  obtain ⟨A, hA⟩ : ∃ a, (untilS 59 s).1 = a := ⟨_, rfl⟩
  obtain ⟨X, hX⟩ : ∃ a, (untilS 59 s).2 = a := ⟨_, rfl⟩
  rw [hA, hX] at cN ⊢
  rw [hA] at hge
  rw [hX] at hle
  obtain ⟨M, hM⟩ : ∃ m, min A.toNat most = m := ⟨_, rfl⟩
  have hMi : min A (most : Int) = (M : Int) := by omega
  have hM1 : M ≤ 1000 := by omega
  rw [hM]
  have HX : Hid (Rdr rb s w ∧ RdE w ∧ X.length ≤ 1000000000) := ⟨h, hE, by omega⟩
  clear h hE hA hX hT hge hle hM hs hm
  go_enter Tryz.func66, Tryz.ntmps66
  go_wp2_with fail
  refine cN.mono ?_
  rintro e w1 ⟨rfl, h1, h2⟩
  have H1 : Hid (RwI w.heap.size rb w 1000000000 X w1) := ⟨h1, h2, HX.out.2.1.but HX.out.1 h2, HX.out.2.2⟩
  clear cN h1 h2
  go_wp2_with fail
  go_loopw [7, 12] (fun ov iv wr => ∃ (k LL : Nat), iv = .int .i64 (k : Int) ∧ k ≤ M ∧ LL = k ∧ ∃ (L : List Int) (s' : Nm), wr.ownsRow w.heap.size 3 1 ov LL (L.map fun z => Value.int .i64 z) ∧ Hid (L.length = LL ∧ RwI w.heap.size rb w 1000000000 s' wr ∧ rowS (untilS 59) M X = (L ++ (rowS (untilS 59) (M - k) s').1, (rowS (untilS 59) (M - k) s').2))) (fun _ iv _ => M - (intOf iv).toNat)
  case atStart => exact ⟨0, 0, rfl, Nat.zero_le _, rfl, [], X, World.ownsRow_nil _ _ _ _, rfl, H1.out, by simp⟩
  case round =>
    obtain ⟨k, LL, rfl, hk, hLL, L, s', hrow, HI⟩ := hrel
    obtain ⟨oa, oc, rfl⟩ := row_form hrow
    by_cases hlt : k < M
    · have d1 : decide ((k : Int) < (M : Int)) = true := decide_eq_true (by omega)
      have hsz := HI.out.2.1.but.size
      have cT := rnumber_is rb s' wr HI.out.2.1.rd HI.out.2.1.env HI.out.2.1.len
      have HS : Hid (k < M ∧ LL = k) := ⟨hlt, hLL⟩
      clear hLL
      have hl1 : LL ≤ 1000 := by have := HS.out; omega
      go_wp2_with fail
      refine cT.mono ?_
      rintro e w2 ⟨rfl, h3, h4⟩
      obtain ⟨t, ht⟩ : ∃ t, (untilS 59 s').1 = t := ⟨_, rfl⟩
      rw [ht]
      have hrow2 := own_oth hrow (rd_oth HI.out.2.1.rd h4) (by decide)
      have H2 : Hid (RwI w.heap.size rb w 1000000000 ((untilS 59) s').2 w2 ∧ (untilS 59 s').1 = t) := ⟨HI.out.2.1.step hsz h3 h4 (until_len 59 s'), ht⟩
      have hsz2 : w.heap.size ≤ w2.heap.size := H2.out.1.but.size
      clear cT h3 h4 hrow ht hsz
      go_wp2_with (at_builtin; go_must (refine wpList_push rfl (.tmp 14) (.tmp 17) 117 rfl _ w.heap.size 3 (.int .i64 0) 8 Tryz.underlying117 Tryz.infoInt rfl _ _ _ (by rfl) hrow2 [.int .i64 t] _ (by rfl) (by simp) (by simp [Value.oneCell']) (by simp) (by rfl) (by decide) (by simp; omega) hsz2 ?_); intro g4 cap4 w4 hown4 hg4 hlt4)
      have HF : Hid ((L ++ [((untilS 59) s').1]).length = LL + 1 ∧ RwI w.heap.size rb w 1000000000 ((untilS 59) s').2 w4 ∧ rowS (untilS 59) M X = ((L ++ [((untilS 59) s').1]) ++ (rowS (untilS 59) (M - (k + 1)) ((untilS 59) s').2).1, (rowS (untilS 59) (M - (k + 1)) ((untilS 59) s').2).2)) := by
        have hb4 : Below w.heap.size w2 w4 := (Below.refl _ _).grown hg4 hsz2 (fun j e => (hrow2.lt j e).1)
        have ho : Oth 3 w2 w4 := app_oth hrow2 fun q hq hne => hg4.block q hq fun e => hne e.symm
        refine ⟨by rw [List.length_append, HI.out.1]; rfl, H2.out.1.oth ho hb4 (by decide) (H2.out.1.env.low hb4 HX.out.2.1.lt), ?_⟩
        rw [HI.out.2.2, show M - k = (M - (k + 1)) + 1 by have := HS.out; omega, rowS_succ]
        simp
      have hown5 : w4.ownsRow w.heap.size 3 1 (.slice (some ⟨g4, 0, none⟩) (LL + 1) cap4) (LL + 1) ((L ++ [((untilS 59) s').1]).map fun z => Value.int .i64 z) := by
        rw [List.map_append, List.map_singleton, show ((untilS 59) s').1 = t from H2.out.2]
        exact hown4
      have hkk : LL + 1 = k + 1 := by have := HS.out; omega
      clear hown4 hg4 hrow2 HI H2
      go_roundw
      case rel => exact ⟨k + 1, LL + 1, by go_num, by have := HS.out; omega, hkk, _, _, hown5, HF⟩
      case measure => have := HS.out; simp [intOf]; omega
    · have d1 : decide ((k : Int) < (M : Int)) = false := decide_eq_false (by omega)
      obtain rfl : k = M := by omega
      have HF : Hid (NOwn wr w.heap.size (.slice oa LL oc) (rowS (untilS 59) k X).1 ∧ Rdr rb (rowS (untilS 59) k X).2 wr ∧ But w.heap.size rb w wr) := by
        have he := HI.out.2.2
        rw [Nat.sub_self] at he
        rw [he]
        refine ⟨?_, HI.out.2.1.rd, HI.out.2.1.but⟩
        show wr.ownsRow _ _ _ _ (L ++ []).length ((L ++ []).map fun z => Value.int .i64 z)
        rw [List.append_nil, HI.out.1]
        exact hrow
      clear HI hrow
      go_wp2_with fail
      go_ret
      exact ⟨⟨_, rfl, HF.out.1⟩, HF.out.2⟩
end Go.Proofs.YtdmplfflmdanlaaGreatDoor
namespace Go.Proofs.YtdmplfflmdanlaaGreatDoor
open Go.RowKit Go.Proofs.Aid Go.Proofs.Bx

set_option maxHeartbeats 4000000 in
set_option maxRecDepth 100000 in
theorem rletters_is (rb most : Nat) (s : Nm) (w : World) (h : Rdr rb s w) (hE : RdE w) (hs : s.length ≤ 1000000000) (hm : most ≤ 1000) :
    Calls Tryz.prog 51 #[.pointer (some ⟨rb, 0, none⟩), .int .i64 (most : Int), .func (.func 52) #[.pointer (some ⟨rb, 0, none⟩)] #[]] w fun e w' => (∃ v, e = .returned v ∧ LNew w' w.heap.size v (readRowS most letterS s).1) ∧ Rdr rb (readRowS most letterS s).2 w' ∧ But w.heap.size rb w w' := by
  have cN := rnumber_is rb s w h hE hs
  have hge := until_ge 59 s
  have hle := until_len 59 s
  have hT : readRowS most letterS s = rowS letterS (min (untilS 59 s).1.toNat most) (untilS 59 s).2 := rfl
  rw [hT]
  obtain ⟨A, hA⟩ : ∃ a, (untilS 59 s).1 = a := ⟨_, rfl⟩
  obtain ⟨X, hX⟩ : ∃ a, (untilS 59 s).2 = a := ⟨_, rfl⟩
  rw [hA, hX] at cN ⊢
  rw [hA] at hge
  rw [hX] at hle
  obtain ⟨M, hM⟩ : ∃ m, min A.toNat most = m := ⟨_, rfl⟩
  have hMi : min A (most : Int) = (M : Int) := by omega
  have hM1 : M ≤ 1000 := by omega
  rw [hM]
  have HX : Hid (Rdr rb s w ∧ RdE w ∧ X.length ≤ 1000000000) := ⟨h, hE, by omega⟩
  clear h hE hA hX hT hge hle hM hs hm
  go_enter Tryz.func51, Tryz.ntmps51
  go_wp2_with fail
  refine cN.mono ?_
  rintro e w1 ⟨rfl, h1, h2⟩
  have H1 : Hid (RwI w.heap.size rb w 1000000000 X w1) := ⟨h1, h2, HX.out.2.1.but HX.out.1 h2, HX.out.2.2⟩
  clear cN h1 h2
  go_wp2_with fail
  go_loopw [7, 12] (fun ov iv wr => ∃ (k LL : Nat), iv = .int .i64 (k : Int) ∧ k ≤ M ∧ LL = k ∧ ∃ (L : List Lt) (s' : Nm), (∃ oa oc, ov = .slice oa LL oc) ∧ Hid (LNew wr w.heap.size ov L) ∧ Hid (L.length = LL ∧ RwI w.heap.size rb w 1000000000 s' wr ∧ rowS letterS M X = (L ++ (rowS letterS (M - k) s').1, (rowS letterS (M - k) s').2))) (fun _ iv _ => M - (intOf iv).toNat)
  case atStart => exact ⟨0, 0, rfl, Nat.zero_le _, rfl, [], X, ⟨_, _, rfl⟩, LNew.nil _ _, rfl, H1.out, by simp⟩
  case round =>
    obtain ⟨k, LL, rfl, hk, hLL, L, s', ⟨oa, oc, rfl⟩, HL, HI⟩ := hrel
    by_cases hlt : k < M
    · have d1 : decide ((k : Int) < (M : Int)) = true := decide_eq_true (by omega)
      have hsz := HI.out.2.1.but.size
      have cT := rletter_is rb s' wr HI.out.2.1.rd HI.out.2.1.env HI.out.2.1.len
      have HS : Hid (k < M ∧ LL = k) := ⟨hlt, hLL⟩
      clear hLL
      have hl1 : LL ≤ 1000 := by have := HS.out; omega
      go_wp2_with fail
      refine cT.mono ?_
      rintro e w2 ⟨⟨fa, fc, rfl, hx⟩, h3, h4⟩
      have HL2 : Hid (LNew w2 w.heap.size (.slice oa LL oc) L) := HL.out.oth (rd_oth HI.out.2.1.rd h4) (by decide) (by decide)
      have H2 : Hid (RwI w.heap.size rb w 1000000000 (letterS s').2 w2) := HI.out.2.1.step hsz h3 h4 (rletter_len s')
      have hsz2 : w.heap.size ≤ w2.heap.size := H2.out.but.size
      have hLL2 : L.length = LL := HI.out.1
      obtain ⟨g9, cap9, W9, hap, hnew, hb9, ho9⟩ := lnew_push (by rw [hLL2]; exact HL2.out) (by omega) (letterS s').1 fa fc _ hx hsz2
      rw [hLL2] at hap hnew
      have HAP : Hid ((Builtin.append_ #[64, 64] 64 #[.slice oa LL oc, .slice (some ⟨w2.heap.size, 0, none⟩) 1 1]).run Tryz.prog (w2.alloc (.cells #[.int .i64 (letterS s').1.uid, .slice fa (letterS s').1.flags.length fc, .int .i64 (letterS s').1.day, .string ⟨(letterS s').1.text.toArray⟩] 71)) = .ok (.slice (some ⟨g9, 0, none⟩) (LL + 1) cap9) W9) := hap
      have HF0 : Hid ((L ++ [(letterS s').1]).length = LL + 1 ∧ RwI w.heap.size rb w 1000000000 (letterS s').2 W9 ∧ rowS letterS M X = ((L ++ [(letterS s').1]) ++ (rowS letterS (M - (k + 1)) (letterS s').2).1, (rowS letterS (M - (k + 1)) (letterS s').2).2)) := by
        refine ⟨by rw [List.length_append, hLL2]; rfl, H2.out.oth ho9 hb9 (by decide) (H2.out.env.low hb9 HX.out.2.1.lt), ?_⟩
        rw [HI.out.2.2, show M - k = (M - (k + 1)) + 1 by have := HS.out; omega, rowS_succ]
        simp
      have HNW : Hid (LNew W9 w.heap.size (.slice (some ⟨g9, 0, none⟩) (LL + 1) cap9) (L ++ [(letterS s').1])) := hnew
      obtain ⟨Y, hY⟩ : ∃ y, (letterS s').1 = y := ⟨_, rfl⟩
      rw [hY] at HAP HF0 HNW ⊢
      obtain ⟨yu, yf, yd, yt⟩ := Y
      simp only at HAP ⊢
      obtain ⟨yn, hyn⟩ : ∃ n, yf.length = n := ⟨_, rfl⟩
      obtain ⟨yb, hyb⟩ : ∃ t : ByteArray, ⟨yt.toArray⟩ = t := ⟨_, rfl⟩
      rw [hyn, hyb] at HAP ⊢
      have HKK : Hid (LL + 1 = k + 1) := by have := HS.out; show _ = _; omega
      clear cT h3 h4 hx hap hnew hb9 ho9 HL HL2 HI H2 hY hyn hyb hLL2 hsz
      go_wp2_with (at_builtin; go_must (refine Go.Lib.wpList_append_run _ rfl (.tmp 14) (.tmp 17) 64 64 rfl _ _ rfl rfl _ W9 HAP.out ?_))
      go_roundw
      case rel => exact ⟨k + 1, LL + 1, by go_num, by have := HS.out; omega, HKK.out, _, _, ⟨_, _, rfl⟩, HNW, HF0⟩
      case measure => have := HS.out; simp [intOf]; omega
    · have d1 : decide ((k : Int) < (M : Int)) = false := decide_eq_false (by omega)
      obtain rfl : k = M := by omega
      have HF : Hid (LNew wr w.heap.size (.slice oa LL oc) (rowS letterS k X).1 ∧ Rdr rb (rowS letterS k X).2 wr ∧ But w.heap.size rb w wr) := by
        have he := HI.out.2.2
        rw [Nat.sub_self] at he
        rw [he]
        refine ⟨?_, HI.out.2.1.rd, HI.out.2.1.but⟩
        show LNew wr w.heap.size _ (L ++ [])
        rw [List.append_nil]
        exact HL.out
      clear HI HL
      go_wp2_with fail
      go_ret
      exact ⟨⟨_, rfl, HF.out.1⟩, HF.out.2⟩
end Go.Proofs.YtdmplfflmdanlaaGreatDoor
namespace Go.Proofs.YtdmplfflmdanlaaGreatDoor
open Go.RowKit Go.Proofs.Aid Go.Proofs.Bx

set_option maxHeartbeats 4000000 in
set_option maxRecDepth 100000 in
theorem full1_is (B b cb : Nat) (x : Bxd) (la : Option Addr) (lc : Nat) (o : Nm) (w : World) (h : IsAw B b o w) (hBw : B ≤ w.heap.size) (hc : w.cell? ⟨cb, 0, none⟩ = some (.pointer (some ⟨b, 0, none⟩))) (hl : LtQ (Wk B b w) (.slice la x.ls.length lc) x.ls) (hx : x.ls.length ≤ 900 ∧ ∀ y ∈ x.ls, LtS y) (hlen : o.length + (rowB letterB x.ls).length ≤ 100000000) (htab : TabW B w) :
    Calls Tryz.prog 40 #[.agg #[.int .i64 x.v, .int .i64 x.n, .slice la x.ls.length lc], .pointer (some ⟨cb, 0, none⟩)] w fun e w' => e = .returned (.tuple #[]) ∧ IsAw B b (o ++ rowB letterB x.ls) w' ∧ Wk B b w w' := by
  obtain ⟨xv, xn, xl⟩ := x
  simp only at hl hx hlen ⊢
  obtain ⟨N, hN⟩ : ∃ n, xl.length = n := ⟨_, rfl⟩
  have b1 : Below w.heap.size w (w.alloc (.cells #[.int .i64 xv, .int .i64 xn, .slice la N lc] 66)) := (Below.refl _ _).alloc (Nat.le_refl _) _
  have e1 := heap_alloc_new w (.cells #[.int .i64 xv, .int .i64 xn, .slice la N lc] 66)
  obtain ⟨W1, hW1⟩ : ∃ W, w.alloc (.cells #[.int .i64 xv, .int .i64 xn, .slice la N lc] 66) = W := ⟨_, rfl⟩
  rw [hW1] at b1 e1
  have k1 : Wk B b w W1 := Wk.of b1 hBw
  have c0 : W1.cell? ⟨cb, 0, none⟩ = some (.pointer (some ⟨b, 0, none⟩)) := (b1.cell (p := ⟨cb, 0, none⟩) (World.block_lt_of_cell? _ _ hc)).trans hc
  have c1 : W1.cell? ⟨w.heap.size, 2, none⟩ = some (.slice la N lc) := rd_cell e1 rfl
  have cL := awletters_is B b o (.slice la xl.length lc) xl W1 (aw_below h b1) (Nat.le_trans hBw b1.size) (by have := hx.1; omega) hx.2 (hl.sub fun W hW => k1.trans hW) hlen (htab.wk k1)
  rw [hN] at cL ⊢
  have K1 : Hid (Wk B b w W1) := k1
  clear h hl hx hlen htab b1 e1 hN k1 hc hBw
  go_enter Tryz.func40, Tryz.ntmps40
  go_wp2_with fail
  refine cL.mono ?_
  rintro e w2 ⟨rfl, h2, k2⟩
  have HF : Hid (IsAw B b (o ++ rowB letterB xl) w2 ∧ Wk B b w w2) := ⟨h2, K1.out.trans k2⟩
  clear cL h2 k2
  go_wp2_with fail
  go_end0
  exact ⟨rfl, HF.out.1, HF.out.2⟩
theorem aw_new (w : World) : IsAw w.heap.size w.heap.size [] (w.alloc (.cells #[.pointer none, .slice none 0 0] 90)) :=
  Or.inl ⟨Nat.le_refl _, .slice none 0 0, heap_alloc_new w _, ⟨rfl, Or.inl ⟨rfl, rfl⟩⟩, by simp [Value.ownBlock]⟩
/-- What a house that may be has is small enough to be written. -/
structure ArOk (S : Svd) : Prop where
  ok : SvOk S
  sv : SvS S
theorem houseB_body (S : Svd) : houseB S = bodyB (fun x => rowB letterB x.ls) S := rfl
set_option maxHeartbeats 8000000 in
set_option maxRecDepth 100000 in
theorem full_is (nv bv wv : Value) (S : Svd) (w : World) (h : SvAt w nv bv wv S) (hO : ArOk S) (hlen : (houseB S).length ≤ 40000000) (hE : NEnv w) (hg : SysAt w) (htab : TabW w.heap.size w) :
    Calls Tryz.prog 9 #[.agg #[nv, bv, wv, .int .i64 S.next]] w fun e w' => e = .returned (.tuple #[.string ⟨(70 :: houseB S).toArray⟩, .nilIface]) ∧ Below w.heap.size w w' := by
  obtain ⟨na, nc, rfl, _⟩ := id h.1
  obtain ⟨ba, bc, rfl, _⟩ := id h.2.1
  obtain ⟨wa, wc, rfl, _⟩ := id h.2.2
  obtain ⟨NL, hNL⟩ : ∃ n, S.names.length = n := ⟨_, rfl⟩
  obtain ⟨WL, hWL⟩ : ∃ n, S.wants.length = n := ⟨_, rfl⟩
  obtain ⟨N, hN⟩ : ∃ n, S.boxes.length = n := ⟨_, rfl⟩
  obtain ⟨X, hX⟩ : ∃ n, S.next = n := ⟨_, rfl⟩
  rw [hNL, hWL, hN, hX]
  have b1 : Below w.heap.size w (w.alloc (.cells #[.slice na NL nc, .slice ba N bc, .slice wa WL wc, .int .i64 X] 26)) := (Below.refl _ _).alloc (Nat.le_refl _) _
  have e1 := heap_alloc_new w (.cells #[.slice na NL nc, .slice ba N bc, .slice wa WL wc, .int .i64 X] 26)
  obtain ⟨W1, hW1⟩ : ∃ W, w.alloc (.cells #[.slice na NL nc, .slice ba N bc, .slice wa WL wc, .int .i64 X] 26) = W := ⟨_, rfl⟩
  rw [hW1] at b1 e1
  have hlt1 : w.heap.size < W1.heap.size := (Array.getElem?_eq_some_iff.1 e1).1
  have HRD : Hid (∀ W, Below W1.heap.size W1 W → W.cell? ⟨w.heap.size, 0, none⟩ = some (.slice na NL nc) ∧ W.cell? ⟨w.heap.size, 1, none⟩ = some (.slice ba N bc) ∧ W.cell? ⟨w.heap.size, 2, none⟩ = some (.slice wa WL wc) ∧ W.cell? ⟨w.heap.size, 3, none⟩ = some (.int .i64 X)) := fun W hW => by
    have e2 := (hW.block _ hlt1).trans e1
    exact ⟨rd_cell e2 rfl, rd_cell e2 rfl, rd_cell e2 rfl, rd_cell e2 rfl⟩
  have cR := right_true _ _ _ S W1 (h.below b1 (Nat.le_refl _)) hO.ok (hE.below b1) (hg.below b1 hg.lt)
  have HX : Hid (SvAt w (.slice na NL nc) (.slice ba N bc) (.slice wa WL wc) S ∧ ArOk S ∧ (houseB S).length ≤ 40000000 ∧ TabW w.heap.size w ∧ S.next = X ∧ Below w.heap.size w W1) := ⟨by rw [← hNL, ← hN, ← hWL]; exact h, hO, hlen, htab, hX, b1⟩
  rw [hNL, hWL, hN, hX] at cR
  obtain ⟨s0, s1, s2, s3⟩ := HRD.out W1 (Below.refl _ _)
  obtain ⟨R, hR⟩ : ∃ r : ByteArray, ⟨(70 :: houseB S).toArray⟩ = r := ⟨_, rfl⟩
  have HR : Hid ((⟨(70 :: houseB S).toArray⟩ : ByteArray) = R) := hR
  rw [hR]
  clear h hO hE hg hNL hWL hN hX b1 e1 hlen htab hR
  go_enter Tryz.func9, Tryz.ntmps9
  go_wp2_with fail
  refine cR.mono ?_
  rintro e w3 ⟨rfl, hb3⟩
  clear s0 s1 s2 s3 cR
  -- the writer, and where the closure finds it
  obtain ⟨b, hbz⟩ : ∃ n, w3.heap.size = n := ⟨_, rfl⟩
  have hA := aw_new w3
  have b4 : Below w3.heap.size w3 (w3.alloc (.cells #[.pointer none, .slice none 0 0] 90)) := (Below.refl _ _).alloc (Nat.le_refl _) _
  have z4 : (w3.alloc (.cells #[.pointer none, .slice none 0 0] 90)).heap.size = w3.heap.size + 1 := World.size_alloc _ _
  obtain ⟨W4, hW4⟩ : ∃ W, w3.alloc (.cells #[.pointer none, .slice none 0 0] 90) = W := ⟨_, rfl⟩
  rw [hW4] at hA b4 z4
  rw [hbz] at hA b4 z4
  have b5 : Below W4.heap.size W4 (W4.alloc (.cells #[.pointer (some ⟨b, 0, none⟩)] 84)) := (Below.refl _ _).alloc (Nat.le_refl _) _
  have e6 := heap_alloc_new W4 (.cells #[.pointer (some ⟨b, 0, none⟩)] 84)
  have hcb : W4.heap.size = b + 1 := z4
  obtain ⟨W6, hW6⟩ : ∃ W, W4.alloc (.cells #[.pointer (some ⟨b, 0, none⟩)] 84) = W := ⟨_, rfl⟩
  rw [hW6] at b5 e6
  have h6 : IsAw b b [] W6 := aw_below hA b5
  rw [hcb] at b5 e6
  have b36 : Below b w3 W6 := b4.trans (b5.mono (by omega))
  have hz1 := hb3.size
  have hB13 : Below W1.heap.size W1 W6 := hb3.trans (b36.mono (by omega))
  have hw6 : Below w.heap.size w W6 := HX.out.2.2.2.2.2.trans (hB13.mono HX.out.2.2.2.2.2.size)
  have hwb : w.heap.size < b := by omega
  have htw : TabW b W6 := fun W hW => HX.out.2.2.2.1 W (hw6.trans (hW.mono (by omega)))
  have hsv : SvAt W6 (.slice na NL nc) (.slice ba N bc) (.slice wa WL wc) S := HX.out.1.below hw6 (Nat.le_refl _)
  have hbW6 : b ≤ W6.heap.size := by have := b36.size; omega
  have hP : ∀ W, Wk b b W6 W → Below w.heap.size w W := fun W hW => hw6.trans (hW.low.mono (by omega))
  have cH := awhouse_is 40 [.pointer (some ⟨b + 1, 0, none⟩)] (fun x => rowB letterB x.ls) b b ⟨#[70]⟩ (.slice na NL nc) (.slice ba N bc) (.slice wa WL wc) S W6 h6 hbW6 HX.out.2.1.sv (fun W hW => HX.out.1.1.below (hP W hW) (Nat.le_refl _)) (bxq_of HX.out.1.2.1 hP) (fun W hW => HX.out.1.2.2.below (hP W hW) (Nat.le_refl _)) (by decide) (by rw [← houseB_body]; have := HX.out.2.2.1; omega) htw
    (enters_of Tryz.func40 (by kernel_rfl) rfl) (fun x la lc o W hx hl hW ho hlo => full1_is b b (b + 1) x la lc o W ho (Nat.le_trans hbW6 hW.size) (rd_cell (hW.cells e6 (by omega) (by decide)) rfl) (hl.sub fun W2 h2 => hW.trans h2) (HX.out.2.1.sv.b x hx).2.2 hlo (htw.wk hW))
  rw [HX.out.2.2.2.2.1] at cH
  obtain ⟨t0, t1, t2, t3⟩ := HRD.out W6 hB13
  have t4 : W6.cell? ⟨b + 1, 0, none⟩ = some (.pointer (some ⟨b, 0, none⟩)) := rd_cell e6 rfl
  have HC6 : Hid (∀ W, Wk b b W6 W → W.cell? ⟨b + 1, 0, none⟩ = some (.pointer (some ⟨b, 0, none⟩))) := fun W hW => rd_cell (hW.cells e6 (by omega) (by decide)) rfl
  have HW6 : Hid (∀ W, Wk b b W6 W → Below w.heap.size w W) := hP
  have HBB : Hid (w.heap.size < b) := hwb
  clear hA b4 b5 e6 h6 b36 hz1 hB13 hw6 htw hsv hbW6 hP hb3 hwb
  go_wp2_with fail
  refine cH.mono ?_
  rintro e w7 ⟨rfl, h7, k7⟩
  have u4 := HC6.out w7 k7
  have cS := aw_string b b _ w7 h7 (by simp)
  have hRR : (⟨((⟨#[70]⟩ : ByteArray).data.toList ++ bodyB (fun x => rowB letterB x.ls) S).toArray⟩ : ByteArray) = R := by rw [← HR.out]; rfl
  rw [hRR] at cS
  have HB7 : Hid (Below w.heap.size w w7) := HW6.out w7 k7
  clear cH h7 k7 t0 t1 t2 t3 t4 hRR
  go_wp2_with fail
  refine cS.mono ?_
  rintro e w8 ⟨rfl, hb8⟩
  have HF : Hid (Below w.heap.size w w8) := HB7.out.trans (hb8.mono (Nat.le_of_lt HBB.out))
  clear cS hb8
  go_wp2_with fail
  go_ret2
  exact ⟨rfl, HF.out⟩
end Go.Proofs.YtdmplfflmdanlaaGreatDoor
