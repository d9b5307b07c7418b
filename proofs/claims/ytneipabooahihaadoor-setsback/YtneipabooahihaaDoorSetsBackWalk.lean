/-
  The walk of SetsBack.
-/
import Derived.Test.YtneipabooahihaaDoorBackNumbered
import Derived.Test.YtneipabooahihaaDoorBackEqual
import Derived.Test.YtneipabooahihaaDoorBackSort
import Derived.Test.YtneipabooahihaaDoorSeqPrint
import Derived.Test.YtneipabooahihaaDoorBackAppend
import Derived.Deep.Cut
import Derived.Deep.CutRange
import Derived.Deep.DeepCutAuto
import Derived.Deep.CutBlock
namespace Go.Proofs.YtneipabooahihaaDoor
open Go.RowKit Go.Proofs.Aid Go.Proofs.Sq

theorem wrap_nonneg (a : Int) : 0 ≤ IntKind.u64.wrap a := by
  have e1 : IntKind.u64.bits = 64 := rfl
  unfold IntKind.wrap
  rw [e1]
  simp only [IntKind.signed]
  first | omega | (simp; omega) | (split <;> omega)
theorem wrap64_small {x : Int} (h0 : 0 ≤ x) (h1 : x < 90) : wrap64 x = x := by
  unfold wrap64; omega
theorem Tryd.infoInt : (Tryd.prog.info? 3).map (fun i => (i.zero, i.size, i.bytes)) = some (some (.int .i64 0), 1, 8) := by kernel_rfl
theorem pick_any (a : Int) (w : World) : Calls Tryd.prog 21 #[.int .i64 a, .int .i64 90] w fun e w' => (∃ r : Nat, r < 90 ∧ e = .returned (.int .i64 (r : Int))) ∧ w' = w := by
  go_enter Tryd.func21, Tryd.ntmps21
  go_wp2
  go_ret
  refine ⟨?_, rfl⟩
  have h1 : 0 ≤ IntKind.u64.wrap a := wrap_nonneg a
  have h2 : (IntKind.u64.wrap a).tmod 90 = (IntKind.u64.wrap a) % 90 := Int.tmod_eq_emod_of_nonneg h1
  refine ⟨((IntKind.u64.wrap a) % 90).toNat, by omega, ?_⟩
  have h3 : wrap64 ((IntKind.u64.wrap a).tmod 90) = (((IntKind.u64.wrap a) % 90).toNat : Int) := by
    rw [h2]
    have : wrap64 (IntKind.u64.wrap a % 90) = IntKind.u64.wrap a % 90 := wrap64_small (by omega) (by omega)
    rw [this]; omega
  rw [← h3]
  rfl
theorem print_any (v : Value) (l : List (Int × Int)) (w : World) (h : Rg w v l) (htab : Lib.TabBelow Tryd.prog w.heap.size w "internal/strconv.uint64pow10" .u64 Lib.pow10Tab) :
    Calls Tryd.prog 16 #[v] w fun e w' => ((rightR l = true ∧ e = .returned (.tuple #[.string ⟨(wrote l).toArray⟩, .nilIface])) ∨ (rightR l = false ∧ e = .returned (.tuple #[.string ⟨#[]⟩, .iface 22 (.int .i64 1)]))) ∧ Below w.heap.size w w' := by
  by_cases hr : rightR l = true
  · refine (print_yes v l w h hr htab).mono ?_
    rintro e w' ⟨rfl, hb⟩
    exact ⟨Or.inl ⟨hr, rfl⟩, hb⟩
  · have hr' : rightR l = false := by simpa using hr
    refine (print_no v l w h hr').mono ?_
    rintro e w' ⟨rfl, hb⟩
    exact ⟨Or.inr ⟨hr', rfl⟩, hb⟩
theorem wrote_length (l : List (Int × Int)) (h : rightR l = true) : (wrote l).length ≤ 10000 := by
  obtain ⟨⟨h1, h2⟩, h3⟩ := (rightR_iff l).1 h
  have hf : ∀ (l : List (Int × Int)), (∀ x ∈ l, (0 ≤ x.1 ∧ x.1 ≤ 2147483647) ∧ (0 ≤ x.2 ∧ x.2 ≤ 2147483647)) → (l.flatMap fun r => 44 :: wroteR r).length ≤ 22 * l.length := by
    intro l
    induction l with
    | nil => intro _; simp
    | cons r rs ih =>
      intro h
      have := wroteR_length (h r (by simp))
      have := ih (fun x hx => h x (by simp [hx]))
      simp only [List.flatMap_cons, List.length_append, List.length_cons]
      omega
  cases l with
  | nil => simp [wrote]
  | cons r rs =>
    rw [wrote, wroteFrom_eq, List.length_append]
    have := wroteR_length (h3 r (by simp))
    have := hf rs (fun x hx => h3 x (by simp [hx]))
    simp only [List.length_cons] at h2
    omega
theorem back_ints (l : List (Int × Int)) (h : rightR l = true) : (l.map natR).map intR = l := by
  obtain ⟨_, h3⟩ := (rightR_iff l).1 h
  rw [List.map_map]
  conv => rhs; rw [← List.map_id l]
  refine List.map_congr_left fun x hx => ?_
  have := h3 x hx
  simp only [Function.comp, intR, natR, id]
  apply Prod.ext
  · show (x.1.toNat : Int) = x.1; omega
  · show (x.2.toNat : Int) = x.2; omega
/-- What Print wrote, Parse reads. -/
theorem parse_back (l : List (Int × Int)) (m : Int) (w : World) (hr : rightR l = true) (hm : w.cell? ⟨3, 0, none⟩ = some (.int .i64 m)) :
    Calls Tryd.prog 17 #[.string ⟨(wrote l).toArray⟩] w fun e w' => (∃ v, e = .returned (.tuple #[v, .nilIface]) ∧ Rg w' v l ∧ ∃ a c, v = .slice a l.length c) ∧ Below w.heap.size w w' := by
  refine (parse_any ⟨(wrote l).toArray⟩ m w (by have := wrote_length l hr; simp [ByteArray.size]; omega) hm).mono ?_
  have hread : readSet (⟨(wrote l).toArray⟩ : ByteArray).data.toList = .ok (l.map natR) := read_wrote l hr
  rintro e w' ⟨hb, ⟨h, _⟩ | ⟨h, _⟩ | ⟨l', v, hl, _, rfl, hrow⟩⟩
  · rw [hread] at h; cases h
  · rw [hread] at h; cases h
  · rw [hread] at hl
    cases hl
    rw [back_ints l hr, List.length_map] at hrow
    exact ⟨⟨v, rfl, rg_of_row hrow, row_form hrow⟩, hb⟩
theorem back_big (l m : List (Int × Int)) (ns : List Int) (v0 v1 v2 : Value) (n g : Int) (w : World) (h0 : Rg w v0 l) (h1 : Rg w v1 m) (h2 : Ig w v2 ns) (h : 15 < l.length ∨ 15 < m.length ∨ 60 < ns.length) :
    Calls Tryd.prog 5 #[v0, v1, v2, .int .i64 n, .int .i64 g] w fun e w' => e = .returned (.bool true) ∧ Below w.heap.size w w' := by
  obtain ⟨a0, c0, rfl, _⟩ := h0
  obtain ⟨a1, c1, rfl, _⟩ := h1
  obtain ⟨a2, c2, rfl, _⟩ := h2
  by_cases k0 : 15 < l.length
  · go_enter Tryd.func5, Tryd.ntmps5
    go_wp2
    go_ret
    exact ⟨rfl, Below.refl _ _⟩
  by_cases k1 : 15 < m.length
  · clear h
    go_enter Tryd.func5, Tryd.ntmps5
    go_wp2
    go_ret
    exact ⟨rfl, Below.refl _ _⟩
  have k2 : 60 < ns.length := by omega
  clear h
  go_enter Tryd.func5, Tryd.ntmps5
  go_wp2
  go_ret
  exact ⟨rfl, Below.refl _ _⟩
theorem ig_of_row {w : World} {base e : Nat} {v : Value} {zs : List Int} (h : w.ownsRow base e 1 v zs.length (ints zs)) : Ig w v zs := by
  rcases h.2 with ⟨h1, h2⟩ | ⟨g, cap, cur, hv, _, hh, _, _, hsz, htk⟩
  · exact ⟨none, 0, by rw [h1, h2], Or.inl (List.eq_nil_of_length_eq_zero h2)⟩
  · refine ⟨_, cap, hv, Or.inr ⟨g, 0, rfl, fun j z hj => ?_⟩⟩
    have hlt : j < zs.length := (List.getElem?_eq_some_iff.1 hj).1
    have h1 : (ints zs)[j]? = some (.int .i64 z) := by simp [ints, hj]
    rw [← htk, List.getElem?_take_of_lt (by omega)] at h1
    simp only [World.cell?, hh, Nat.zero_add]
    simpa using h1
set_option maxHeartbeats 8000000 in
set_option maxRecDepth 100000 in
theorem back_small (l m : List (Int × Int)) (ns : List Int) (v0 v1 v2 : Value) (n g : Int) (mx : Int) (w : World) (h0 : Rg w v0 l) (h1 : Rg w v1 m) (h2 : Ig w v2 ns) (k0 : l.length ≤ 15) (k1 : m.length ≤ 15) (k2 : ns.length ≤ 60)
    (z0 : ∀ k c, v0 = .slice none k c → c = 0) (z1 : ∀ k c, v1 = .slice none k c → c = 0)
    (hm : w.cell? ⟨3, 0, none⟩ = some (.int .i64 mx)) (htab : Lib.TabBelow Tryd.prog w.heap.size w "internal/strconv.uint64pow10" .u64 Lib.pow10Tab) :
    Calls Tryd.prog 5 #[v0, v1, v2, .int .i64 n, .int .i64 g] w fun e w' => e = .returned (.bool true) ∧ Below w.heap.size w w' := by
  have hglt : 3 < w.heap.size := World.block_lt_of_cell? _ _ hm
  have cN := numbered_any mx w hm
  have hmB : ∀ W, Below w.heap.size w W → W.cell? ⟨3, 0, none⟩ = some (.int .i64 mx) := fun W hb => (hb.cell (p := ⟨3, 0, none⟩) hglt).trans hm
  have r0 : ∀ W, Below w.heap.size w W → Rg W v0 l := fun W hb => h0.below hb (Nat.le_refl _)
  have r1 : ∀ W, Below w.heap.size w W → Rg W v1 m := fun W hb => h1.below hb (Nat.le_refl _)
  have r2 : ∀ W, Below w.heap.size w W → Ig W v2 ns := fun W hb => h2.below hb (Nat.le_refl _)
  obtain ⟨a0, c0, rfl, d0⟩ := h0
  obtain ⟨a1, c1, rfl, d1⟩ := h1
  obtain ⟨a2, c2, rfl, d2⟩ := h2
  obtain ⟨n0, e0⟩ : ∃ k, l.length = k := ⟨_, rfl⟩
  obtain ⟨n1, e1⟩ : ∃ k, m.length = k := ⟨_, rfl⟩
  obtain ⟨n2, e2⟩ : ∃ k, ns.length = k := ⟨_, rfl⟩
  rw [e0] at k0 r0 z0 ⊢
  rw [e1] at k1 r1 z1 ⊢
  have Z0 : Hid (∀ k c, (Value.slice a0 n0 c0) = .slice none k c → c = 0) := z0
  have Z1 : Hid (∀ k c, (Value.slice a1 n1 c1) = .slice none k c → c = 0) := z1
  clear z0 z1
  rw [e2] at k2 r2 ⊢
  go_enter Tryd.func5, Tryd.ntmps5
  go_wp2_with fail
  refine cN.mono ?_
  rintro e w1 ⟨rfl, hb1⟩
  go_upto_region 5 with fail
  obtain ⟨R, hR⟩ : ∃ R, rightR l = R := ⟨_, rfl⟩
  go_cut [11, 12] (fun s11 s12 wx => Below w.heap.size w wx ∧ ((R = true ∧ s11 = .string ⟨(wrote l).toArray⟩ ∧ s12 = .nilIface) ∨ (R = false ∧ s11 = .string ⟨#[]⟩ ∧ s12 = .iface 22 (.int .i64 1))))
  case first =>
    have hTB : Lib.TabBelow Tryd.prog w1.heap.size w1 "internal/strconv.uint64pow10" .u64 Lib.pow10Tab := fun w' hb' => htab w' (hb1.trans (hb'.mono hb1.size))
    have cP := print_any _ l w1 (r0 w1 hb1) hTB
    rw [hR] at cP
    go_wp2_with fail
    refine cP.mono ?_
    rintro e w2 ⟨⟨hr, rfl⟩ | ⟨hr, rfl⟩, hb2⟩
    · go_wp2_with fail
      go_meet
      case rel => exact ⟨hb1.trans (hb2.mono hb1.size), Or.inl ⟨hr, rfl, rfl⟩⟩
    · go_wp2_with fail
      go_meet
      case rel => exact ⟨hb1.trans (hb2.mono hb1.size), Or.inr ⟨hr, rfl, rfl⟩⟩
  case rest =>
    obtain ⟨hb2, hc2⟩ := hcut
    have hq : ∀ W, Sem.run Tryd.prog (binOp .eql 26 u12 .nilIface) W = .ok (.bool R) W := by
      intro W
      rcases hc2 with ⟨rfl, _, rfl⟩ | ⟨rfl, _, rfl⟩ <;> rfl
    have hg : ∀ (W : World), Sem.run Tryd.prog (eqGuard .eql 26 (.tmp 42) (.const .nilIface) u12 .nilIface) W = .ok () W := by
      intro W
      rcases hc2 with ⟨rfl, _, rfl⟩ | ⟨rfl, _, rfl⟩ <;> rfl
    go_upto_if 43 with fail
    go_cut [] (fun wx => Below w.heap.size w wx)
    case first =>
      rcases hc2 with ⟨rfl, rfl, rfl⟩ | ⟨rfl, rfl, rfl⟩
      · have cB := parse_back l mx wc hR (hmB wc hb2)
        go_wp2_with fail
        refine cB.mono ?_
        rintro e w3 ⟨⟨v, rfl, hrg, va, vc, rfl⟩, hb3⟩
        have hb13 := hb2.trans (hb3.mono hb2.size)
        have cE := equal_same _ _ l w3 hrg (r0 w3 hb13) (by omega)
        rw [e0] at cE ⊢
        clear cB hq hg hrg r0 r1 r2 d0 d1 d2 hmB htab hm
        go_wp2_with fail
        refine cE.mono ?_
        rintro e w4 ⟨rfl, hb4⟩
        go_wp2_with fail
        go_meet
        case rel => exact hb13.trans (hb4.mono hb13.size)
      · have cR := right_any _ l wc (r0 wc hb2)
        rw [hR] at cR
        go_wp2_with fail
        refine cR.mono ?_
        rintro e w3 ⟨rfl, hb3⟩
        go_wp2_with fail
        go_meet
        case rel => exact hb2.trans (hb3.mono hb2.size)
    case rest =>
      clear hq hg hc2 cN hb1 hb2
      have hbc : Below w.heap.size w wc := hcut
      clear hcut
      go_upto_region 12 with fail
      go_cut [15] (fun s15 wx => Below w.heap.size w wx ∧ wx.ownsRow w.heap.size 40 2 s15 (n0 + n1) (cellsR (l ++ m)))
      case first =>
        have hbA : Below w.heap.size w (wc.alloc (.cells #[] 40)) := hbc.alloc hbc.size _
        have hrA : (wc.alloc (.cells #[] 40)).ownsRow w.heap.size 40 2 (.slice (some ⟨wc.heap.size, 0, none⟩) 0 0) 0 [] := World.ownsRow_lit wc #[] 0 hbc.size (by decide) rfl
        have hrg := r0 _ hbA
        go_wp2_with (first
          | (at_builtin; refine wpList_append_rg rfl (.tmp 59) (.tmp 60) rfl w.heap.size _ 0 [] (by rfl) hrA _ l (by rfl) hrg Z0.out (by omega) hbA.size ?_; intro v' w3 hown3 hg3; have hbB := hbA.grown hg3 hbA.size (fun k e => by cases e; exact hbc.size); have hrg3 := r1 _ hbB)
          | (at_builtin; refine wpList_append_rg rfl (.tmp 61) (.tmp 62) rfl w.heap.size _ _ _ (by rfl) hown3 _ m (by rfl) hrg3 Z1.out (by omega) hbB.size ?_; intro v4 w4 hown4 hg4; have hbC := hbB.grown hg4 hbB.size (fun k e => (hown3.lt k e).1)))
        go_meet
        case rel =>
          refine ⟨hbC, ?_⟩
          rw [cellsR_append]
          simpa [e0, e1] using hown4
      case rest =>
        obtain ⟨hbD, hboth⟩ := hcut
        have rb : ∀ W, Below wc.heap.size wc W → Rg W u15 (l ++ m) := fun W hb => (rg_of_row (by simpa [e0, e1] using hboth)).below hb (Nat.le_refl _)
        obtain ⟨vb, cb, rfl⟩ := row_form hboth
        obtain ⟨B0, hB0⟩ : ∃ B, hasSet n g l = B := ⟨_, rfl⟩
        obtain ⟨B1, hB1⟩ : ∃ B, hasSet n g m = B := ⟨_, rfl⟩
        have hBB : hasSet n g (l ++ m) = (B0 || B1) := by rw [hasSet_append, hB0, hB1]
        have q0 := fun W hb => has_any _ (l ++ m) n g W (rb W hb) (by simp; omega)
        have q1 := fun W hb => has_any _ l n g W (r0 W hb) (by omega)
        have q2 := fun W hb => has_any _ m n g W (r1 W hb) (by omega)
        rw [hBB] at q0
        rw [hB0] at q1
        rw [hB1] at q2
        clear hbc hB0 hB1 hBB hR
        go_upto_region 13 with fail
        go_cut [78] (fun s78 wx => s78 = .bool false ∧ Below w.heap.size w wx)
        case first =>
          go_wp2_with fail
          refine (q0 _ (Below.refl _ _)).mono ?_
          rintro e w5 ⟨rfl, hb5⟩
          have hbE := hbD.trans (hb5.mono hbD.size)
          go_wp2_with fail
          refine (q1 _ hbE).mono ?_
          rintro e w6 ⟨rfl, hb6⟩
          have hbF := hbE.trans (hb6.mono hbE.size)
          cases B0
          · go_wp2_with fail
            refine (q2 _ hbF).mono ?_
            rintro e w7 ⟨rfl, hb7⟩
            have hbG := hbF.trans (hb7.mono hbF.size)
            cases B1
            · go_wp2_with fail
              go_meet
              case rel => exact ⟨rfl, hbG⟩
            · go_wp2_with fail
              go_meet
              case rel => exact ⟨rfl, hbG⟩
          · cases B1
            · go_wp2_with fail
              go_meet
              case rel => exact ⟨rfl, hbF⟩
            · go_wp2_with fail
              go_meet
              case rel => exact ⟨rfl, hbF⟩
        case rest =>
          obtain ⟨rfl, hbH⟩ := hcut
          clear hbD hboth rb q0 q1 q2 r0 r1 d0 d1 d2
          go_wp2
          go_loopw [16, 17] (fun rv i wr => ∃ (k : Nat) (zs : List Int), i = .int .i64 (k : Int) ∧ k ≤ n2 ∧ zs.length = k ∧ wr.ownsRow w.heap.size 3 1 rv zs.length (ints zs) ∧ (∀ z ∈ zs, 1 ≤ z ∧ z ≤ 90) ∧ Below w.heap.size w wr) (fun _ i _ => n2 - (intOf i).toNat)
          case atStart => exact ⟨0, [], rfl, by omega, rfl, World.ownsRow_nil _ _ _ _, by simp, hbH⟩
          case round =>
            obtain ⟨k, zs, rfl, hk, hzl, hrow, hzb, hbW⟩ := hrel
            subst hzl
            by_cases hlt : zs.length < n2
            · obtain ⟨a2', c2', hv2, hd⟩ := r2 _ hbW
              cases hv2
              rcases hd with h0 | ⟨b, o, rfl, hat⟩
              · rw [h0] at hlt; exact absurd hlt (by simp)
              have hlk : ns[zs.length]? = some ns[zs.length] := List.getElem?_eq_getElem _
              have c1 := hat zs.length _ hlk
              obtain ⟨z, hz⟩ : ∃ z, ns[zs.length]'(by omega) = z := ⟨_, rfl⟩
              rw [hz] at c1
              have cP := fun W => pick_any z W
              have hbs := hbW.size
              have HZ : Hid (∀ z ∈ zs, 1 ≤ z ∧ z ≤ 90) := hzb
              clear hat hlk hz hzb r2
              go_wp2_with fail
              refine (cP _).mono ?_
              rintro e w8 ⟨⟨r, hr, rfl⟩, rfl⟩
              have hwr : wrap64 (1 + (r : Int)) = ((1 + r : Nat) : Int) := by unfold wrap64; omega
              go_wp2_with (at_builtin; go_must (refine wpList_push rfl (.tmp 85) (.tmp 92) 34 rfl _ w.heap.size 3 (.int .i64 0) 8 Tryd.underlying34 Tryd.infoInt rfl _ _ _ (by rfl) hrow [.int .i64 (1 + (r : Int))] _ (by rfl) (by simp) (by simp [Value.oneCell']) (by simp) (by rfl) (by decide) (by simp; omega) hbs ?_); intro g1 cap1 w9 hown1 hg1 hlt1)
              have hb9 : Below w.heap.size w w9 := hbW.grown hg1 hbs (fun j e => (hrow.lt j e).1)
              go_roundw
              case rel => exact ⟨zs.length + 1, zs ++ [1 + (r : Int)], by go_num, by omega, by simp, by simpa [ints] using hown1, fun z hz => by rcases List.mem_append.1 hz with h | h; exact HZ.out z h; (have := List.mem_singleton.1 h; omega), hb9⟩
              case measure => simp [intOf]; omega
            · have hbs := hbW.size
              have hlen : zs.length ≤ 60 := by omega
              have cS := sort_row w.heap.size _ zs _ hrow hbs (by omega)
              have hls : (srt zs).length ≤ 60 := by rw [srt_length]; exact hlen
              have hsb : ∀ z ∈ srt zs, 1 ≤ z ∧ z ≤ 90 := fun z hz => hzb z ((srt_mem zs z).1 hz)
              have hss := srt_sorted zs
              obtain ⟨ys, hys⟩ : ∃ ys, srt zs = ys := ⟨_, rfl⟩
              rw [hys] at cS hls hsb hss
              have HZ : Hid (∀ z ∈ ys, 1 ≤ z ∧ z ≤ 90) := hsb
              have HS : Hid (ys.Pairwise (· ≤ ·)) := hss
              clear hzb r2 hrow hys hsb hss
              go_wp2_with fail
              refine cS.mono ?_
              rintro e wS ⟨rfl, hrowS, hbS⟩
              have hbS1 : Below w.heap.size w wS := hbW.trans hbS
              have cC := compact_row w.heap.size _ ys _ hrowS (by omega)
              have hlc : (Lib.compact ys).length ≤ 60 := Nat.le_trans (Lib.compact_length_le ys) hls
              have hcr := compact_rises ys HS.out
              have hcm : ∀ z ∈ Lib.compact ys, 1 ≤ z ∧ z ≤ 90 := fun z hz => HZ.out z (compact_mem ys z hz)
              obtain ⟨ks, hks⟩ : ∃ ks, Lib.compact ys = ks := ⟨_, rfl⟩
              rw [hks] at cC hlc hcr hcm
              have HR : Hid (rising 0 ks = true) := rising_of ks 0 (fun z hz => by have := hcm z hz; omega) hcr
              have HP : Hid (ks.Pairwise (· ≤ ·)) := hcr.imp (fun h => by omega)
              have HB : Hid (∀ z ∈ ks, z ≤ 9223372036854775807) := fun z hz => by have := hcm z hz; omega
              clear hks hcr hcm cS hrowS
              go_wp2_with fail
              refine cC.mono ?_
              rintro e wC ⟨⟨vk, rfl, hrowC⟩, hbC⟩
              have hbC1 : Below w.heap.size w wC := hbS1.trans hbC
              have cO := of_any vk ks wC (ig_of_row hrowC) HR.out (by omega) HB.out
              obtain ⟨ka, kc, rfl⟩ := row_form hrowC
              obtain ⟨nk, hnk⟩ : ∃ nk, ks.length = nk := ⟨_, rfl⟩
              rw [hnk] at cO hrowC hlc ⊢
              clear cC
              go_wp2_with fail
              refine cO.mono ?_
              rintro e wO ⟨⟨vo, rfl, hrowO⟩, hbO⟩
              have hbO1 : Below w.heap.size w wO := hbC1.trans (hbO.mono hbC1.size)
              have hrowK : ∀ W, Below wO.heap.size wO W → W.ownsRow w.heap.size 3 1 (.slice ka nk kc) ks.length (ints ks) := fun W hb => by
                rw [hnk]; exact row_below hb (Nat.le_refl _) (row_below hbO (Nat.le_refl _) hrowC)
              have hrgO : ∀ W, Below wO.heap.size wO W → Rg W vo (ofL ks) := fun W hb => (rg_of_row hrowO).below hb (Nat.le_refl _)
              have hol : (ofL ks).length ≤ nk := by rw [← hnk]; exact ofL_length ks
              obtain ⟨oa, oc, rfl⟩ := row_form hrowO
              have HH : Hid (∀ k : Int, hasSet k 91 (ofL ks) = ks.contains k) := fun k => by
                rw [Bool.eq_iff_iff, has_ofL k 91 ks HR.out]; simp
              have hnk60 : nk ≤ 60 := by omega
              obtain ⟨no, hno⟩ : ∃ no, (ofL ks).length = no := ⟨_, rfl⟩
              rw [hno] at hol hrgO ⊢
              clear cO hrowO hrowC
              go_wp2_with fail
              go_loopw [19] (fun i wr => ∃ k : Nat, i = .int .i64 (k : Int) ∧ k ≤ 92 ∧ Below wO.heap.size wO wr) (fun i _ => 92 - (intOf i).toNat)
              case atStart => exact ⟨0, rfl, by omega, Below.refl _ _⟩
              case round =>
                obtain ⟨k, rfl, hk92, hbL⟩ := hrel
                have hbL1 : Below w.heap.size w wr := hbO1.trans (hbL.mono hbO1.size)
                by_cases hk91 : k ≤ 91
                · have cB := search_row w.heap.size _ ks (k : Int) _ (hrowK _ hbL) (by omega) HP.out
                  obtain ⟨C, hC⟩ : ∃ C, ks.contains (k : Int) = C := ⟨_, rfl⟩
                  have cH := fun W hb => has_any _ (ofL ks) (k : Int) 91 W (hrgO W hb) (by omega)
                  rw [HH.out (k : Int), hC] at cH
                  rw [hC] at cB
                  clear hC hrowK hrgO
                  have hki : (k : Int) ≤ 91 := by omega
                  go_wp2_with fail
                  refine cB.mono ?_
                  rintro e wB ⟨⟨iv, rfl⟩, hbB⟩
                  have hbB2 : Below wO.heap.size wO wB := hbL.trans (hbB.mono hbL.size)
                  go_wp2_with fail
                  refine (cH _ hbB2).mono ?_
                  rintro e wH ⟨rfl, hbH2⟩
                  have hbH3 : Below wO.heap.size wO wH := hbB2.trans (hbH2.mono hbB2.size)
                  cases C
                  all_goals
                    go_wp2_with fail
                    go_roundw
                    case rel => exact ⟨k + 1, by go_num, by omega, hbH3⟩
                    case measure => simp [intOf]; omega
                · have hki : ¬ ((k : Int) ≤ 91) := by omega
                  have hoi : (no : Int) ≤ (nk : Int) := by omega
                  clear hrowK hrgO
                  go_wp2_with fail
                  go_ret
                  exact ⟨by simp, hbL1⟩
end Go.Proofs.YtneipabooahihaaDoor
