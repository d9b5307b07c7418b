/-
  Match of package house, whole.
-/
import Derived.Test.YtfdlopimncodcaaGreatDoorBpHmMatch
namespace Go.Proofs.YtfdlopimncodcaaGreatDoor
open Go.RowKit Go.Proofs.Aid

/-- Where a pattern may end, when one more letter of it was gone through. -/
def endsF (s : List UInt8) (E : List Bool) (c : UInt8) : List Bool :=
  if c = 42 then strAt (fun _ => true) E (E.length - 1) else if c = 37 then strAt (fun k => decide (s.getD k 0 ≠ 47)) E (E.length - 1) else stpL (fun k => s.getD k 0 == c) E
def endsOf (s p : List UInt8) : List Bool := p.foldl (endsF s) (true :: List.replicate s.length false)
def matchB (p s : List UInt8) : Bool := (endsOf s p).getD s.length false
theorem endsF_len (s : List UInt8) (E : List Bool) (c : UInt8) : (endsF s E c).length = E.length := by
  unfold endsF
  split
  · exact strAt_len _ _ _
  · split
    · exact strAt_len _ _ _
    · unfold stpL; rw [List.length_set, stpAt_len]
theorem fold_len (s : List UInt8) : ∀ (p : List UInt8) (E : List Bool), (p.foldl (endsF s) E).length = E.length
  | [], _ => rfl
  | c :: p, E => by rw [List.foldl_cons, fold_len s p, endsF_len]
theorem endsOf_len (s p : List UInt8) : (endsOf s p).length = s.length + 1 := by unfold endsOf; rw [fold_len]; simp
theorem endsOf_next (s p : List UInt8) {i : Nat} (hi : i < p.length) : endsOf s (p.take (i + 1)) = endsF s (endsOf s (p.take i)) (p.getD i 0) := by
  unfold endsOf
  rw [List.take_succ_eq_append_getElem hi, List.foldl_append, List.getD_eq_getElem?_getD, List.getElem?_eq_getElem hi]
  rfl
theorem made_bools (n : Nat) : madeCells #[.bool false] n = ((List.replicate n false).map Value.bool).toArray := by
  apply Array.ext
  · rw [size_madeCells]; simp
  · intro j h1 h2
    rw [size_madeCells] at h1
    simp [madeCells, Nat.mod_one]
set_option maxHeartbeats 8000000 in
set_option maxRecDepth 100000 in
theorem match_is (p s : ByteArray) (w : World) (hs : s.size ≤ 10000) (hp : p.size ≤ 10000) :
    Calls Tryz.prog 22 #[.string p, .string s] w fun e w' => e = .returned (.bool (matchB p.data.toList s.data.toList)) ∧ Below w.heap.size w w' := by
  obtain ⟨R, hR⟩ : ∃ R, matchB p.data.toList s.data.toList = R := ⟨_, rfl⟩
  rw [hR]
  have HR : Hid (matchB p.data.toList s.data.toList = R) := hR
  have hsl : s.data.toList.length = s.size := by rw [Array.length_toList]; rfl
  have hpl : p.data.toList.length = p.size := by rw [Array.length_toList]; rfl
  obtain ⟨AR, hAR⟩ : ∃ A, ((List.replicate (s.size + 1) false).map Value.bool).toArray = A := ⟨_, rfl⟩
  have hmk : ∀ W : World, (Instr.makeSlice 119 (.int .i64 ((s.size : Int) + 1)) (.int .i64 ((s.size : Int) + 1))).run Tryz.prog W = .ok (.slice (some ⟨W.heap.size, 0, none⟩) (s.size + 1) (s.size + 1)) (W.alloc (.cells AR 4)) := fun W => by
    obtain ⟨i0, hi, hz⟩ := Option.map_eq_some_iff.1 Tryz.infoBool
    simp only [Prod.mk.injEq] at hz
    obtain ⟨z0, z1, z2⟩ := hz
    have := run_make (P := Tryz.prog) W 119 4 i0 (.bool false) Tryz.underlying119 hi z0 .i64 .i64 (s.size + 1 : Nat) (s.size + 1 : Nat) (by omega) (by omega) (by rw [z2]; omega) (by omega)
    rw [z1, Nat.mul_one, Int.toNat_natCast] at this
    rw [← hAR, ← made_bools]
    exact this
  have bA : Below w.heap.size w (((w.alloc (.cells #[.string p] 9)).alloc (.cells #[.string s] 9)).alloc (.cells AR 4)) := (((Below.refl _ _).alloc (Nat.le_refl _) _).alloc (by simp) _).alloc (by simp; omega) _
  have e1 := heap_alloc_new w (.cells #[.string p] 9)
  have e2 := heap_alloc_new (w.alloc (.cells #[.string p] 9)) (.cells #[.string s] 9)
  have e3 := heap_alloc_new ((w.alloc (.cells #[.string p] 9)).alloc (.cells #[.string s] 9)) (.cells AR 4)
  have e21 : ((w.alloc (.cells #[.string p] 9)).alloc (.cells #[.string s] 9)).heap[w.heap.size]? = some (.cells #[.string p] 9 (0, 0)) := (((Below.refl _ _).alloc (Nat.le_refl _) _).block _ (by simp)).trans e1
  have bC : Below (w.heap.size + 2) ((w.alloc (.cells #[.string p] 9)).alloc (.cells #[.string s] 9)) (((w.alloc (.cells #[.string p] 9)).alloc (.cells #[.string s] 9)).alloc (.cells AR 4)) := (Below.refl _ _).alloc (by simp) _
  rw [World.size_alloc] at e2
  rw [World.size_alloc, World.size_alloc] at e3
  have e31 := (bC.block w.heap.size (by omega)).trans e21
  have e32 := (bC.block (w.heap.size + 1) (by omega)).trans e2
  have zA : (((w.alloc (.cells #[.string p] 9)).alloc (.cells #[.string s] 9)).alloc (.cells AR 4)).heap.size = w.heap.size + 3 := by simp
  have n1 : ((w.alloc (.cells #[.string p] 9)).alloc (.cells #[.string s] 9)).cell? ⟨w.heap.size + 1, 0, none⟩ = some (.string s) := rd_cell e2 rfl
  have m1 := hmk ((w.alloc (.cells #[.string p] 9)).alloc (.cells #[.string s] 9))
  rw [World.size_alloc, World.size_alloc] at m1
  have i0 : (0 : Int) < ((s.size : Int) + 1) := by omega
  have HAR : Hid (((List.replicate (s.size + 1) false).map Value.bool).toArray = AR) := hAR
  clear hmk bC e1 e2 e21 hAR
  go_enter Tryz.func22, Tryz.ntmps22
  go_upto_region 2 with fail
  obtain ⟨w3, hw3⟩ : ∃ W, ((w.alloc (.cells #[.string p] 9)).alloc (.cells #[.string s] 9)).alloc (.cells AR 4) = W := ⟨_, rfl⟩
  rw [hw3] at bA e3 e31 e32 zA ⊢
  obtain ⟨PB, hPB⟩ : ∃ B, w.heap.size = B := ⟨_, rfl⟩
  rw [hPB] at e3 e31 e32 zA ⊢
  obtain ⟨NB, hNB⟩ : ∃ B, PB + 1 = B := ⟨_, rfl⟩
  rw [hNB] at e3 e32 ⊢
  obtain ⟨EB, hEB⟩ : ∃ B, NB + 1 = B := ⟨_, rfl⟩
  rw [hEB] at e3 ⊢
  have hbl0 : BlAt w3 EB (List.replicate (s.size + 1) false) := by unfold BlAt; rw [HAR.out]; exact e3
  obtain ⟨c0, f0⟩ := hbl0.at (k := 0) (by simp)
  have hbl1 := hbl0.set 0 true
  have hset : (List.replicate (s.size + 1) false).set 0 true = endsOf s.data.toList [] := by
    unfold endsOf
    rw [hsl, List.replicate_succ]
    rfl
  rw [hset] at hbl1
  obtain ⟨w4, hw4⟩ : ∃ W, w3.setCell ⟨EB, 0, none⟩ (.bool true) = W := ⟨_, rfl⟩
  have z4 : w4.heap.size = PB + 3 := by rw [← hw4]; simpa using zA
  have hot : ∀ q, q ≠ EB → w4.heap[q]? = w3.heap[q]? := fun q hq => by rw [← hw4]; exact Below.heap_setCell _ _ _ _ hq
  have p4 := (hot PB (by omega)).trans e31
  have n4 := (hot NB (by omega)).trans e32
  have b4 : Below w.heap.size w w4 := by rw [← hw4]; exact bA.setCell (p := ⟨EB, 0, none⟩) (by show w.heap.size ≤ EB; omega) _
  have HW : Hid (Below w.heap.size w w4 ∧ w.heap.size = PB ∧ PB + 1 = NB ∧ NB + 1 = EB ∧ w4.heap.size = PB + 3) := ⟨b4, hPB, hNB, hEB, z4⟩
  have HPN : Hid (∀ W, But w4.heap.size EB w4 W → W.cell? ⟨PB, 0, none⟩ = some (.string p) ∧ W.cell? ⟨NB, 0, none⟩ = some (.string s)) := fun W hW =>
    ⟨rd_cell ((hW.block PB (by omega) (by omega)).trans p4) rfl, rd_cell ((hW.block NB (by omega) (by omega)).trans n4) rfl⟩
  have HB1 : Hid (BlAt w4 EB (endsOf s.data.toList [])) := by show BlAt w4 EB _; rw [← hw4]; exact hbl1
  have HSP : Hid (s.data.toList.length = s.size ∧ p.data.toList.length = p.size) := ⟨hsl, hpl⟩
  obtain ⟨x4, y4⟩ := HPN.out w4 (to_but (Below.refl _ _))
  have eg1 : ∀ args w, (callFunc 71 args).run Tryz.prog w = .ok (.enter 71 args) w := enters_of Tryz.func71 (by kernel_rfl) rfl
  have eg2 : ∀ args w, (callFunc 72 args).run Tryz.prog w = .ok (.enter 72 args) w := enters_of Tryz.func72 (by kernel_rfl) rfl
  have eg3 : ∀ args w, (callFunc 74 args).run Tryz.prog w = .ok (.enter 74 args) w := enters_of Tryz.func74 (by kernel_rfl) rfl
  have HE : Hid ((∀ args w, (callFunc 71 args).run Tryz.prog w = .ok (.enter 71 args) w) ∧ (∀ args w, (callFunc 72 args).run Tryz.prog w = .ok (.enter 72 args) w) ∧ ∀ args w, (callFunc 74 args).run Tryz.prog w = .ok (.enter 74 args) w) := ⟨eg1, eg2, eg3⟩
  clear bA e3 e31 e32 zA hbl0 hbl1 hset hot p4 n4 b4 n1 m1 hw3 hPB hNB hEB z4 hsl hpl hR eg1 eg2 eg3
  go_upto_region 3 with fail

  clear hw4 c0 f0
  go_wp2_with fail
  go_loopw [15] (fun i wr => ∃ k : Nat, i = .int .i64 (k : Int) ∧ k ≤ p.size ∧ Hid (BlAt wr EB (endsOf s.data.toList (p.data.toList.take k)) ∧ But w4.heap.size EB w4 wr)) (fun i _ => p.size - (intOf i).toNat)
  case atStart => exact ⟨0, rfl, Nat.zero_le _, HB1.out, to_but (Below.refl _ _)⟩
  case round =>
    clear x4 y4 HB1
    obtain ⟨i, rfl, hi, HI⟩ := hrel
    obtain ⟨x4, y4⟩ := HPN.out wr HI.out.2
    by_cases hlt : i < p.size
    · have i1 : (0 : Int) ≤ (i : Int) := by omega
      have i2 : (i : Int) < (p.size : Int) := by omega
      have bI : Below wr.heap.size wr (wr.alloc (.cells #[.int .i64 (i : Int)] 3)) := (Below.refl _ _).alloc (Nat.le_refl _) _
      have eI := heap_alloc_new wr (.cells #[.int .i64 (i : Int)] 3)
      obtain ⟨c, hc⟩ : ∃ c, p[i]'hlt = c := ⟨_, rfl⟩
      have hcd : p.data.toList.getD i 0 = c := by rw [byte_at hlt, hc]
      have HN : Hid (endsOf s.data.toList (p.data.toList.take (i + 1)) = endsF s.data.toList (endsOf s.data.toList (p.data.toList.take i)) c) := by
        unfold Hid
        rw [endsOf_next _ _ (by rw [HSP.out.2]; exact hlt), hcd]
      obtain ⟨E, hE⟩ : ∃ E, endsOf s.data.toList (p.data.toList.take i) = E := ⟨_, rfl⟩
      have hEl : E.length = s.size + 1 := by rw [← hE, endsOf_len, HSP.out.1]
      have HWS := HI.out.2.size
      go_upto_region 6 with fail
      obtain ⟨w5, hw5⟩ : ∃ W, wr.alloc (.cells #[.int .i64 (i : Int)] 3) = W := ⟨_, rfl⟩
      rw [hw5] at bI eI ⊢
      obtain ⟨IB, hIB⟩ : ∃ B, wr.heap.size = B := ⟨_, rfl⟩
      have hIB5 : w5.heap.size = IB + 1 := by rw [← hw5, World.size_alloc, hIB]
      rw [hIB] at eI ⊢
      have hbl5 : BlAt w5 EB E := by
        rw [← hE]
        exact (bI.block EB HI.out.1.lt).trans HI.out.1
      have hb45 : But w4.heap.size EB w4 w5 := HI.out.2.trans (to_but (bI.mono HWS))
      have HK : Hid (∀ W, But w5.heap.size EB w5 W → W.cell? ⟨PB, 0, none⟩ = some (.string p) ∧ W.cell? ⟨NB, 0, none⟩ = some (.string s) ∧ W.cell? ⟨IB, 0, none⟩ = some (.int .i64 (i : Int)) ∧ But w4.heap.size EB w4 W) := fun W hW => by
        have hh := HW.out
        have hb := hb45.trans (hW.less (by have := hb45.size; omega))
        exact ⟨(HPN.out W hb).1, (HPN.out W hb).2, rd_cell ((hW.block IB (by omega) (by omega)).trans eI) rfl, hb⟩
      obtain ⟨k1, k2, k3, _⟩ := HK.out w5 (to_but (Below.refl _ _))
      have hs0 : 0 < E.length := by omega
      have hs1 : E.length ≤ 100000 := by omega
      have cS1 := stretch_is EB E 71 [] (fun _ => true) w5 hbl5 hs0 hs1 HE.out.1 (fun k _ W _ => mt1_is (k : Int) W)
      have cS2 := stretch_is EB E 72 [.pointer (some ⟨NB, 0, none⟩)] (fun k => decide (s.data.toList.getD k 0 ≠ 47)) w5 hbl5 hs0 hs1 HE.out.2.1 (fun k hk W hW => mt2_is k NB s W (HK.out W hW).2.1 (by omega))
      have cS3 := step_is EB E 74 [.pointer (some ⟨NB, 0, none⟩), .pointer (some ⟨PB, 0, none⟩), .pointer (some ⟨IB, 0, none⟩)] (fun k => s.data.toList.getD k 0 == c) w5 hbl5 hs0 hs1 HE.out.2.2 (fun k hk W hW => by
        have := mt3_is k i NB PB IB s p W (HK.out W hW).2.1 (HK.out W hW).1 (HK.out W hW).2.2.1 (by omega) hlt
        rw [hcd] at this
        exact this)
      rw [hEl] at cS1 cS2 cS3
      have HG : Hid (∀ W, BlAt W EB (endsF s.data.toList E c) → But w5.heap.size EB w5 W → BlAt W EB (endsOf s.data.toList (p.data.toList.take (i + 1))) ∧ But w4.heap.size EB w4 W) := fun W h1 h2 => ⟨by rw [HN.out, hE]; exact h1, (HK.out W h2).2.2.2⟩
      have hEF : Hid (E.length = s.size + 1) := hEl
      clear hcd hE hEl hs0 hs1 bI eI hw5 hbl5 hb45 HI x4 y4 HN HWS hIB hIB5
      by_cases h42 : c = 42
      · have d42 : ((c.toNat : Int) == 42) = true := by rw [h42]; rfl
        clear cS2 cS3
        go_wp2_with fail
        refine cS1.mono ?_
        clear cS1
        rintro e w6 ⟨rfl, hb6, hk6⟩
        have HGG : Hid _ := HG.out w6 (by unfold endsF; rw [if_pos h42, hEF.out]; exact hb6) hk6
        clear hb6 hk6
        go_wp2_with fail
        go_roundw
        case rel => exact ⟨i + 1, by go_num, by omega, HGG⟩
        case measure => simp [intOf]; omega
      have d42 : ((c.toNat : Int) == 42) = false := by
        rw [show (42 : Int) = ((42 : UInt8).toNat : Int) from rfl, byte_eq, decide_eq_false h42]
      by_cases h37 : c = 37
      · have d37 : ((c.toNat : Int) == 37) = true := by rw [h37]; rfl
        clear cS1 cS3
        go_wp2_with fail
        refine cS2.mono ?_
        clear cS2
        rintro e w6 ⟨rfl, hb6, hk6⟩
        have HGG : Hid _ := HG.out w6 (by unfold endsF; rw [if_neg h42, if_pos h37, hEF.out]; exact hb6) hk6
        clear hb6 hk6
        go_wp2_with fail
        go_roundw
        case rel => exact ⟨i + 1, by go_num, by omega, HGG⟩
        case measure => simp [intOf]; omega
      have d37 : ((c.toNat : Int) == 37) = false := by
        rw [show (37 : Int) = ((37 : UInt8).toNat : Int) from rfl, byte_eq, decide_eq_false h37]
      clear cS1 cS2
      go_wp2_with fail
      refine cS3.mono ?_
      clear cS3
      rintro e w6 ⟨rfl, hb6, hk6⟩
      have HGG : Hid _ := HG.out w6 (by unfold endsF; rw [if_neg h42, if_neg h37]; exact hb6) hk6
      clear hb6 hk6
      go_wp2_with fail
      go_roundw
      case rel => exact ⟨i + 1, by go_num, by omega, HGG⟩
      case measure => simp [intOf]; omega
    · obtain rfl : i = p.size := by omega
      have hI := HI.out
      rw [List.take_of_length_le (by rw [HSP.out.2]; exact Nat.le_refl _)] at hI
      obtain ⟨q0, _⟩ := hI.1.at (k := s.size) (by rw [endsOf_len, HSP.out.1]; omega)
      have hRR : (endsOf s.data.toList p.data.toList).getD s.size false = R := by rw [← HR.out]; unfold matchB; rw [HSP.out.1]
      rw [hRR] at q0
      have i2 : (s.size : Int) < (s.size : Int) + 1 := by omega
      have i3 : (0 : Int) ≤ (s.size : Int) := by omega
      have HB : Hid (Below w.heap.size w wr) := by
        have hh := HW.out
        exact hh.1.trans (hI.2.below (by omega) (by omega))
      clear hI hRR HI
      go_wp2_with fail
      go_ret
      exact ⟨rfl, HB.out⟩
end Go.Proofs.YtfdlopimncodcaaGreatDoor
