/-
  The document's Match, and more.
-/
import Derived.Test.YtfdlopimncodcaaGreatDoorMRmWalk
namespace Go.Proofs.YtfdlopimncodcaaGreatDoor
open Go.RowKit Go.Proofs.Aid
theorem left_none (p s : ByteArray) : leftOf (allPl p s) (fun x => (fun _ _ => false : Nat → Nat → Bool) x.1 x.2) ≤ (p.size + 1) * (s.size + 1) := by
  unfold leftOf
  refine Nat.le_trans (List.length_filter_le _ _) ?_
  unfold allPl
  rw [List.length_map, List.length_range]
  exact Nat.le_refl _
theorem mstore_new (w : World) (T : TypeId) (f : Nat) (bs : Array Value) (P : Program) : (store ⟨w.heap.size, 0, none⟩ (.func (.func f) #[] bs)).run P (w.alloc (.cells #[.nilFunc] T)) = .ok () (w.alloc (.cells #[.func (.func f) #[] bs] T)) := by
  have z4 := heap_alloc_new w (.cells #[.nilFunc] T)
  rw [run_store_func P _ ⟨w.heap.size, 0, none⟩ f bs .nilFunc (rd_cell z4 rfl) (rd_free z4 0)]
  refine congrArg _ ?_
  have e : ((w.alloc (.cells #[.nilFunc] T)).setCell ⟨w.heap.size, 0, none⟩ (.func (.func f) #[] bs)).heap = (w.alloc (.cells #[.func (.func f) #[] bs] T)).heap := Array.ext_getElem? fun i => by
    by_cases hi : i = w.heap.size
    · rw [hi, one_setCell z4]
      exact (heap_alloc_new _ _).symm
    · rw [Below.heap_setCell _ _ _ _ hi]
      by_cases hl : i < w.heap.size
      · rw [Below.heap_alloc _ _ _ hl, Below.heap_alloc _ _ _ hl]
      · rw [Array.getElem?_eq_none (by rw [World.size_alloc]; omega), Array.getElem?_eq_none (by rw [World.size_alloc]; omega)]
  exact congrArg (fun h => ({ w with heap := h } : World)) e
set_option maxHeartbeats 4000000 in
set_option maxRecDepth 100000 in
theorem rmatch_is (p s : ByteArray) (w : World) (hp : p.size ≤ 900) (hs : s.size ≤ 900) :
    Calls Tryz.prog 23 #[.string p, .string s] w fun e w' => e = .returned (.bool (matchB p.data.toList s.data.toList)) ∧ Below w.heap.size w w' := by
  have hmf : ∀ (fn : Fn) (first cap : Array Value) (w : World), (Instr.makeFunc fn first cap).run Tryz.prog w = .ok (.func fn first cap) w := fun _ _ _ _ => rfl
  obtain ⟨B, hB⟩ : ∃ n, w.heap.size = n := ⟨_, rfl⟩
  have hmm := seen_make
  have hst := mstore_new ((((w.alloc (.cells #[.string p] 9)).alloc (.cells #[.string s] 9)).alloc (.map #[] 0)).alloc (.cells #[.map (some (B + 1 + 1))] 122)) 123 75 #[.pointer (some ⟨B + 1 + 1 + 1, 0, none⟩), .pointer (some ⟨B, 0, none⟩), .pointer (some ⟨B + 1, 0, none⟩), .pointer (some ⟨B + 1 + 1 + 1 + 1, 0, none⟩)] Tryz.prog
  have hz4 : ((((w.alloc (.cells #[.string p] 9)).alloc (.cells #[.string s] 9)).alloc (.map #[] 0)).alloc (.cells #[.map (some (B + 1 + 1))] 122)).heap.size = B + 1 + 1 + 1 + 1 := by simp [hB]
  rw [hz4] at hst
  obtain ⟨W5, hW5⟩ : ∃ W, (((((w.alloc (.cells #[.string p] 9)).alloc (.cells #[.string s] 9)).alloc (.map #[] 0)).alloc (.cells #[.map (some (B + 1 + 1))] 122)).alloc (.cells #[fromV (B + 1 + 1 + 1) B (B + 1) (B + 1 + 1 + 1 + 1)] 123)) = W := ⟨_, rfl⟩
  have hst' := hst
  rw [show (Obj.cells #[.func (.func 75) #[] #[.pointer (some ⟨B + 1 + 1 + 1, 0, none⟩), .pointer (some ⟨B, 0, none⟩), .pointer (some ⟨B + 1, 0, none⟩), .pointer (some ⟨B + 1 + 1 + 1 + 1, 0, none⟩)]] 123) = Obj.cells #[fromV (B + 1 + 1 + 1) B (B + 1) (B + 1 + 1 + 1 + 1)] 123 from rfl, hW5] at hst'
  have HW : Hid (Below B w W5 ∧ RmEnv p s (B + 1 + 1) (B + 1 + 1 + 1) B (B + 1) (B + 1 + 1 + 1 + 1) W5 ∧ SeenAt W5 (B + 1 + 1) 0 (fun _ _ => false)) := by
    have a1 := heap_alloc_new w (.cells #[.string p] 9)
    have b1 : Below B w (w.alloc (.cells #[.string p] 9)) := (Below.refl _ _).alloc (by omega) _
    have z1 : (w.alloc (.cells #[.string p] 9)).heap.size = B + 1 := by simp [hB]
    obtain ⟨W1, hW1⟩ : ∃ W, w.alloc (.cells #[.string p] 9) = W := ⟨_, rfl⟩
    rw [hW1] at a1 b1 z1 hW5
    have a2 := heap_alloc_new W1 (.cells #[.string s] 9)
    have b2 : Below W1.heap.size W1 (W1.alloc (.cells #[.string s] 9)) := (Below.refl _ _).alloc (Nat.le_refl _) _
    have z2 : (W1.alloc (.cells #[.string s] 9)).heap.size = B + 1 + 1 := by simp [z1]
    obtain ⟨W2, hW2⟩ : ∃ W, W1.alloc (.cells #[.string s] 9) = W := ⟨_, rfl⟩
    rw [hW2] at a2 b2 z2 hW5
    have a3 := heap_alloc_new W2 (.map #[] 0)
    have s3 := seen_new W2
    have b3 : Below W2.heap.size W2 (W2.alloc (.map #[] 0)) := (Below.refl _ _).alloc (Nat.le_refl _) _
    have z3 : (W2.alloc (.map #[] 0)).heap.size = B + 1 + 1 + 1 := by simp [z2]
    obtain ⟨W3, hW3⟩ : ∃ W, W2.alloc (.map #[] 0) = W := ⟨_, rfl⟩
    rw [hW3] at a3 s3 b3 z3 hW5
    have a4 := heap_alloc_new W3 (.cells #[.map (some (B + 1 + 1))] 122)
    have b4 : Below W3.heap.size W3 (W3.alloc (.cells #[.map (some (B + 1 + 1))] 122)) := (Below.refl _ _).alloc (Nat.le_refl _) _
    have z4 : (W3.alloc (.cells #[.map (some (B + 1 + 1))] 122)).heap.size = B + 1 + 1 + 1 + 1 := by simp [z3]
    obtain ⟨W4, hW4⟩ : ∃ W, W3.alloc (.cells #[.map (some (B + 1 + 1))] 122) = W := ⟨_, rfl⟩
    rw [hW4] at a4 b4 z4 hW5
    have a5 := heap_alloc_new W4 (.cells #[fromV (B + 1 + 1 + 1) B (B + 1) (B + 1 + 1 + 1 + 1)] 123)
    have b5 : Below W4.heap.size W4 (W4.alloc (.cells #[fromV (B + 1 + 1 + 1) B (B + 1) (B + 1 + 1 + 1 + 1)] 123)) := (Below.refl _ _).alloc (Nat.le_refl _) _
    rw [hW5] at a5 b5
    rw [z4] at a5
    rw [z3] at a4
    rw [z2] at a3 s3
    rw [z1] at a2
    rw [hB] at a1
    have c4 := (b5.block _ (by omega)).trans a4
    have c3 := (b5.block (B + 1 + 1) (by omega)).trans ((b4.block (B + 1 + 1) (by omega)).trans rfl)
    have c2 := (b5.block (B + 1) (by omega)).trans ((b4.block (B + 1) (by omega)).trans ((b3.block (B + 1) (by omega)).trans a2))
    have c1 := (b5.block B (by omega)).trans ((b4.block B (by omega)).trans ((b3.block B (by omega)).trans ((b2.block B (by omega)).trans a1)))
    exact ⟨b1.trans ((b2.mono (by omega)).trans ((b3.mono (by omega)).trans ((b4.mono (by omega)).trans (b5.mono (by omega))))), ⟨rd_cell c4 rfl, rd_cell c1 rfl, rd_cell c2 rfl, rd_cell a5 rfl, by omega, by omega, by omega, by omega⟩, s3.same c3⟩
  have hfv : W5.cell? ⟨B + 1 + 1 + 1 + 1, 0, none⟩ = some (fromV (B + 1 + 1 + 1) B (B + 1) (B + 1 + 1 + 1 + 1)) := HW.out.2.1.2.2.2.1
  have cF := from_is p s (B + 1 + 1) (B + 1 + 1 + 1) B (B + 1) (B + 1 + 1 + 1 + 1) 900000 hp hs (Nat.le_refl _) _ 0 0 rfl (Nat.zero_le _) (Nat.zero_le _) 0 (fun _ _ => false) W5 HW.out.2.1 HW.out.2.2 (by
    have h2 : (p.size + 1) * (s.size + 1) ≤ 901 * 901 := Nat.mul_le_mul (by omega) (by omega)
    exact Nat.le_trans (Nat.le_of_eq (Nat.zero_add _)) (Nat.le_trans (left_none p s) (by omega)))
  rw [Int.natCast_zero] at cF
  clear hst hz4 hW5 hp hs
  go_enter Tryz.func23, Tryz.ntmps23
  go_wp2_with fail
  refine cF.mono ?_
  rintro e w6 ⟨b, S', n', rfl, _, _, g3, g4⟩
  have HF : Hid (b = matchB p.data.toList s.data.toList ∧ Below w.heap.size w w6) := by
    refine ⟨?_, ?_⟩
    · have e0 : SP (fun _ _ => false) = fun _ _ => False := by
        funext a c
        simp [SP]
      rw [e0] at g3
      have h1 := sought_top g3
      have h2 := match_iff p.data.toList s.data.toList
      cases b <;> cases h : matchB p.data.toList s.data.toList
      · rfl
      · exact absurd (h1.2 (h2.1 h)) (by simp)
      · exact absurd (h2.2 (h1.1 rfl)) (by rw [h]; simp)
      · rfl
    · rw [hB]
      exact HW.out.1.trans (g4.below HW.out.1.size (by omega) |>.mono (by omega))
  clear cF g3 g4
  obtain ⟨rfl, _⟩ := id HF.out
  go_wp2_with fail
  go_ret
  exact ⟨rfl, HF.out.2⟩
end Go.Proofs.YtfdlopimncodcaaGreatDoor
namespace Go.Proofs.YtfdlopimncodcaaGreatDoor
open Go.RowKit Go.Proofs.Aid
set_option maxHeartbeats 8000000 in
set_option maxRecDepth 100000 in
theorem rlist_is (hb mb wb : Nat) (l Wl : Bxs) (nx : Int) (p : ByteArray) (y : Bool) (w : World) (h : RHs w hb mb wb l nx) (hW : RNm w wb Wl) (hl : l.length ≤ 1000) (hWl : Wl.length ≤ 1000) (hsm : ∀ p ∈ l, p.1.length ≤ 900) (hwm : ∀ p ∈ Wl, p.1.length ≤ 900) (hp : p.size ≤ 900) :
    Calls Tryz.prog 47 #[.pointer (some ⟨hb, 0, none⟩), .string p, .bool y] w fun e w' => (∃ v, e = .returned v ∧ NRow w' w.heap.size v ((if y then namesB Wl else namesB l).filter fun t => matchB p.data.toList t)) ∧ Below w.heap.size w w' := by
  have cN := rnames_is hb mb wb l nx w h hl (fun q hq => by have := hsm q hq; omega)
  have HP : Hid (∀ (a : ByteArray) (W : World), a.size ≤ 900 → Calls Tryz.prog 23 #[.string p, .string a] W fun e w' => e = .returned (.bool (matchB p.data.toList a.data.toList)) ∧ Below W.heap.size W w') := fun a W ha => rmatch_is p a W hp ha
  have HH : Hid (RHs w hb mb wb l nx ∧ RNm w wb Wl) := ⟨h, hW⟩
  have HM : Hid ((∀ n ∈ namesB l, n.length ≤ 900) ∧ ∀ n ∈ namesB Wl, n.length ≤ 900) := by
    refine ⟨fun n hn => ?_, fun n hn => ?_⟩
    · obtain ⟨q, hq, rfl⟩ := List.mem_map.1 hn
      exact hsm q hq
    · obtain ⟨q, hq, rfl⟩ := List.mem_map.1 hn
      exact hwm q hq
  clear h hW hsm hwm
  cases y with
  | false =>
    rw [if_neg (by decide)]
    obtain ⟨NS, hNS⟩ : ∃ n, namesB l = n := ⟨_, rfl⟩
    obtain ⟨N, hN⟩ : ∃ n, NS.length = n := ⟨_, rfl⟩
    have hNl : N ≤ 1000 := by rw [← hN, ← hNS]; unfold namesB; rw [List.length_map]; exact hl
    have HN : Hid (NS.length = N) := hN
    have HNM : Hid (∀ n ∈ NS, n.length ≤ 900) := by rw [← hNS]; exact HM.out.1
    rw [hNS] at cN ⊢
    clear hNS
    go_enter Tryz.func47, Tryz.ntmps47
    go_wp2_with fail
    refine cN.mono ?_
    rintro e w1 ⟨⟨v, rfl, hrow⟩, hb1⟩
    obtain ⟨va, vc, rfl⟩ := row_form hrow
    have HX : Hid (NRow w1 w.heap.size (.slice va N vc) NS ∧ Below w.heap.size w w1) := ⟨by rw [← hN]; exact hrow, hb1⟩
    rw [hN]
    clear cN hrow hb1 hN
    go_wp2_with fail
    go_loopw [8, 21] (fun ov iv wr => ∃ k : Nat, iv = .int .i64 (k : Int) ∧ k ≤ N ∧ wr.ownsRow w1.heap.size 9 1 ov ((NS.take k).filter fun t => matchB p.data.toList t).length (((NS.take k).filter fun t => matchB p.data.toList t).map encStr) ∧ Below w1.heap.size w1 wr) (fun _ iv _ => N - (intOf iv).toNat)
    case atStart => exact ⟨0, rfl, Nat.zero_le _, World.ownsRow_nil _ _ _ _, Below.refl _ _⟩
    case round =>
      obtain ⟨k, rfl, hk, hrow, hbw⟩ := hrel
      have hlen := filt_len (fun t => matchB p.data.toList t) NS k
      rw [HN.out] at hlen
      obtain ⟨F, hF⟩ : ∃ F, ((NS.take k).filter fun t => matchB p.data.toList t) = F := ⟨_, rfl⟩
      obtain ⟨LL, hLL⟩ : ∃ n, F.length = n := ⟨_, rfl⟩
      obtain ⟨XS, hXS⟩ : ∃ x, F.map encStr = x := ⟨_, rfl⟩
      rw [hF, hLL] at hlen
      rw [hF, hLL, hXS] at hrow
      have HLX : Hid (((NS.take k).filter fun t => matchB p.data.toList t) = F ∧ F.length = LL ∧ F.map encStr = XS) := ⟨hF, hLL, hXS⟩
      clear hF hLL hXS
      obtain ⟨oa, oc, rfl⟩ := row_form hrow
      by_cases hlt : k < N
      · have d0 : decide ((k : Int) < (N : Int)) = true := decide_eq_true (by omega)
        have i1 : (0 : Int) ≤ (k : Int) := by omega
        have i2 : (k : Int) < (N : Int) := by omega
        obtain ⟨n, hnk⟩ : ∃ n, NS[k]? = some n := ⟨_, List.getElem?_eq_getElem (by have := HN.out; omega)⟩
        have hrN : NRow wr w.heap.size (.slice va N vc) NS := HX.out.1.below hbw (Nat.le_refl _)
        obtain ⟨g, cap, hvg, hc0⟩ := nrow_at hrN hnk
        injection hvg with hva hvb hvc
        subst hva
        clear hvb hvc hrN
        obtain ⟨ns, hns⟩ : ∃ q : ByteArray, (⟨n.toArray⟩ : ByteArray) = q := ⟨_, rfl⟩
        have hcg : wr.cell? ⟨g, k, none⟩ = some (.string ns) := by rw [← hns]; exact hc0
        have hnl : ns.data.toList = n := by rw [← hns]
        have hnz : ns.size ≤ 900 := by
          have h1 := HNM.out n (List.mem_of_getElem? hnk)
          rw [← hnl, Array.length_toList] at h1
          exact h1
        have cP := HP.out ns wr hnz
        cases hB : matchB p.data.toList ns.data.toList with
        | true =>
          rw [hB] at cP
          have HNX : Hid (((NS.take (k + 1)).filter fun t => matchB p.data.toList t) = F ++ [ns.data.toList]) := by
            unfold Hid
            rw [← HLX.out.1, hnl]
            exact filt_yes hnk (by rw [← hnl]; exact hB)
          have HBW : Hid (Below w1.heap.size w1 wr) := hbw
          have hbs : w1.heap.size ≤ wr.heap.size := hbw.size
          clear hc0 hnk hns hnl hnz hB hbw
          go_wp2_with fail
          refine cP.mono ?_
          rintro e w2 ⟨rfl, hb2⟩
          have hrow := row_below hb2 (Nat.le_refl _) hrow
          have HBW : Hid (Below w1.heap.size w1 w2) := HBW.out.trans (hb2.mono hbs)
          have hbs : w1.heap.size ≤ w2.heap.size := HBW.out.size
          clear hb2 cP
          go_wp2_with (at_builtin; go_must (refine wpList_push rfl (.tmp 28) (.tmp 30) 32 rfl _ w1.heap.size 9 (.string ⟨#[]⟩) 16 Tryz.underlying32 Tryz.infoNm rfl _ _ _ (by rfl) hrow [.string ns] _ (by rfl) (by simp) (by simp [Value.oneCell']) (by simp) (by rfl) (by decide) (by simp; omega) hbs ?_); intro g3 cap3 w4 hown4 hg4 hlt4)
          have HF : Hid (w4.ownsRow w1.heap.size 9 1 (.slice (some ⟨g3, 0, none⟩) (LL + 1) cap3) ((NS.take (k + 1)).filter fun t => matchB p.data.toList t).length (((NS.take (k + 1)).filter fun t => matchB p.data.toList t).map encStr) ∧ Below w1.heap.size w1 w4) := by
            refine ⟨?_, HBW.out.grown hg4 hbs (fun j e => (hrow.lt j e).1)⟩
            rw [HNX.out, List.length_append, List.map_append, HLX.out.2.1, HLX.out.2.2, List.map_cons, enc_ba]
            exact hown4
          clear hown4 hg4 hrow
          go_roundw
          case rel => exact ⟨k + 1, by go_num, by omega, HF.out.1, HF.out.2⟩
          case measure => simp [intOf]; omega
        | false =>
          rw [hB] at cP
          have HF : Hid (wr.ownsRow w1.heap.size 9 1 (.slice oa LL oc) ((NS.take (k + 1)).filter fun t => matchB p.data.toList t).length (((NS.take (k + 1)).filter fun t => matchB p.data.toList t).map encStr) ∧ Below w1.heap.size w1 wr) := by
            rw [filt_no hnk (by rw [← hnl]; exact hB), HLX.out.1, HLX.out.2.1, HLX.out.2.2]
            exact ⟨hrow, hbw⟩
          clear hc0 hnk hns hnl hnz hB hbw hrow
          go_wp2_with fail
          refine cP.mono ?_
          rintro e w2 ⟨rfl, hb2⟩
          have HF : Hid (w2.ownsRow w1.heap.size 9 1 (.slice oa LL oc) ((NS.take (k + 1)).filter fun t => matchB p.data.toList t).length (((NS.take (k + 1)).filter fun t => matchB p.data.toList t).map encStr) ∧ Below w1.heap.size w1 w2) := ⟨row_below hb2 (Nat.le_refl _) HF.out.1, HF.out.2.trans (hb2.mono HF.out.2.size)⟩
          clear hb2 cP
          go_wp2_with fail
          go_roundw
          case rel => exact ⟨k + 1, by go_num, by omega, HF.out.1, HF.out.2⟩
          case measure => simp [intOf]; omega
      · have d0 : decide ((k : Int) < (N : Int)) = false := decide_eq_false (by omega)
        have HR : Hid (NRow wr w.heap.size (.slice oa LL oc) (NS.filter fun t => matchB p.data.toList t) ∧ Below w.heap.size w wr) := by
          have e1 : (NS.filter fun t => matchB p.data.toList t) = F := by
            rw [← HLX.out.1, List.take_of_length_le (by rw [HN.out]; omega)]
          refine ⟨?_, HX.out.2.trans (hbw.mono HX.out.2.size)⟩
          unfold NRow
          rw [e1, HLX.out.2.1, HLX.out.2.2]
          exact ⟨hrow.1, hrow.2.imp id fun ⟨g, cap, cur, q1, q2, q3⟩ => ⟨g, cap, cur, q1, Nat.le_trans HX.out.2.size q2, q3⟩⟩
        clear hrow hbw hlen
        go_wp2_with fail
        go_ret
        exact ⟨⟨_, rfl, HR.out.1⟩, HR.out.2⟩
  | true =>
    rw [if_pos rfl]
    obtain ⟨NS, hNS⟩ : ∃ n, namesB Wl = n := ⟨_, rfl⟩
    obtain ⟨N, hN⟩ : ∃ n, NS.length = n := ⟨_, rfl⟩
    have hNl : N ≤ 1000 := by rw [← hN, ← hNS]; unfold namesB; rw [List.length_map]; exact hWl
    have HN : Hid (NS.length = N) := hN
    have HNM : Hid (∀ n ∈ NS, n.length ≤ 900) := by rw [← hNS]; exact HM.out.2
    have HNS : Hid (namesB Wl = NS) := hNS
    rw [hNS]
    clear hNS
    go_enter Tryz.func47, Tryz.ntmps47
    go_wp2_with fail
    refine cN.mono ?_
    rintro e w0 ⟨⟨v0, rfl, _⟩, hb0⟩
    have h0 := HH.out.1.below hb0 (Nat.le_refl _)
    have hw0 : RNm w0 wb Wl := HH.out.2.same (hb0.block wb (by obtain ⟨_, D, q, _⟩ := HH.out.2; exact q.lt))
    have c0 := h0.cell.2.1
    have cK := rnm_keysOf wb Wl w0 hw0 hWl
    rw [HNS.out] at cK
    have HB0 : Hid (Below w.heap.size w w0) := hb0
    clear cN h0 hw0 hb0
    go_wp2_with fail
    refine cK.mono ?_
    rintro e w1 ⟨⟨v, rfl, hrow⟩, hb1⟩
    obtain ⟨va, vc, rfl⟩ := row_form hrow
    have HX : Hid (NRow w1 w.heap.size (.slice va N vc) NS ∧ Below w.heap.size w w1) := ⟨by rw [← hN]; exact row_lower hrow HB0.out.size, HB0.out.trans (hb1.mono HB0.out.size)⟩
    rw [hN]
    clear cK hrow hb1 hN c0
    go_wp2_with fail
    go_loopw [8, 21] (fun ov iv wr => ∃ k : Nat, iv = .int .i64 (k : Int) ∧ k ≤ N ∧ wr.ownsRow w1.heap.size 9 1 ov ((NS.take k).filter fun t => matchB p.data.toList t).length (((NS.take k).filter fun t => matchB p.data.toList t).map encStr) ∧ Below w1.heap.size w1 wr) (fun _ iv _ => N - (intOf iv).toNat)
    case atStart => exact ⟨0, rfl, Nat.zero_le _, World.ownsRow_nil _ _ _ _, Below.refl _ _⟩
    case round =>
      obtain ⟨k, rfl, hk, hrow, hbw⟩ := hrel
      have hlen := filt_len (fun t => matchB p.data.toList t) NS k
      rw [HN.out] at hlen
      obtain ⟨F, hF⟩ : ∃ F, ((NS.take k).filter fun t => matchB p.data.toList t) = F := ⟨_, rfl⟩
      obtain ⟨LL, hLL⟩ : ∃ n, F.length = n := ⟨_, rfl⟩
      obtain ⟨XS, hXS⟩ : ∃ x, F.map encStr = x := ⟨_, rfl⟩
      rw [hF, hLL] at hlen
      rw [hF, hLL, hXS] at hrow
      have HLX : Hid (((NS.take k).filter fun t => matchB p.data.toList t) = F ∧ F.length = LL ∧ F.map encStr = XS) := ⟨hF, hLL, hXS⟩
      clear hF hLL hXS
      obtain ⟨oa, oc, rfl⟩ := row_form hrow
      by_cases hlt : k < N
      · have d0 : decide ((k : Int) < (N : Int)) = true := decide_eq_true (by omega)
        have i1 : (0 : Int) ≤ (k : Int) := by omega
        have i2 : (k : Int) < (N : Int) := by omega
        obtain ⟨n, hnk⟩ : ∃ n, NS[k]? = some n := ⟨_, List.getElem?_eq_getElem (by have := HN.out; omega)⟩
        have hrN : NRow wr w.heap.size (.slice va N vc) NS := HX.out.1.below hbw (Nat.le_refl _)
        obtain ⟨g, cap, hvg, hc0⟩ := nrow_at hrN hnk
        injection hvg with hva hvb hvc
        subst hva
        clear hvb hvc hrN
        obtain ⟨ns, hns⟩ : ∃ q : ByteArray, (⟨n.toArray⟩ : ByteArray) = q := ⟨_, rfl⟩
        have hcg : wr.cell? ⟨g, k, none⟩ = some (.string ns) := by rw [← hns]; exact hc0
        have hnl : ns.data.toList = n := by rw [← hns]
        have hnz : ns.size ≤ 900 := by
          have h1 := HNM.out n (List.mem_of_getElem? hnk)
          rw [← hnl, Array.length_toList] at h1
          exact h1
        have cP := HP.out ns wr hnz
        cases hB : matchB p.data.toList ns.data.toList with
        | true =>
          rw [hB] at cP
          have HNX : Hid (((NS.take (k + 1)).filter fun t => matchB p.data.toList t) = F ++ [ns.data.toList]) := by
            unfold Hid
            rw [← HLX.out.1, hnl]
            exact filt_yes hnk (by rw [← hnl]; exact hB)
          have HBW : Hid (Below w1.heap.size w1 wr) := hbw
          have hbs : w1.heap.size ≤ wr.heap.size := hbw.size
          clear hc0 hnk hns hnl hnz hB hbw
          go_wp2_with fail
          refine cP.mono ?_
          rintro e w2 ⟨rfl, hb2⟩
          have hrow := row_below hb2 (Nat.le_refl _) hrow
          have HBW : Hid (Below w1.heap.size w1 w2) := HBW.out.trans (hb2.mono hbs)
          have hbs : w1.heap.size ≤ w2.heap.size := HBW.out.size
          clear hb2 cP
          go_wp2_with (at_builtin; go_must (refine wpList_push rfl (.tmp 28) (.tmp 30) 32 rfl _ w1.heap.size 9 (.string ⟨#[]⟩) 16 Tryz.underlying32 Tryz.infoNm rfl _ _ _ (by rfl) hrow [.string ns] _ (by rfl) (by simp) (by simp [Value.oneCell']) (by simp) (by rfl) (by decide) (by simp; omega) hbs ?_); intro g3 cap3 w4 hown4 hg4 hlt4)
          have HF : Hid (w4.ownsRow w1.heap.size 9 1 (.slice (some ⟨g3, 0, none⟩) (LL + 1) cap3) ((NS.take (k + 1)).filter fun t => matchB p.data.toList t).length (((NS.take (k + 1)).filter fun t => matchB p.data.toList t).map encStr) ∧ Below w1.heap.size w1 w4) := by
            refine ⟨?_, HBW.out.grown hg4 hbs (fun j e => (hrow.lt j e).1)⟩
            rw [HNX.out, List.length_append, List.map_append, HLX.out.2.1, HLX.out.2.2, List.map_cons, enc_ba]
            exact hown4
          clear hown4 hg4 hrow
          go_roundw
          case rel => exact ⟨k + 1, by go_num, by omega, HF.out.1, HF.out.2⟩
          case measure => simp [intOf]; omega
        | false =>
          rw [hB] at cP
          have HF : Hid (wr.ownsRow w1.heap.size 9 1 (.slice oa LL oc) ((NS.take (k + 1)).filter fun t => matchB p.data.toList t).length (((NS.take (k + 1)).filter fun t => matchB p.data.toList t).map encStr) ∧ Below w1.heap.size w1 wr) := by
            rw [filt_no hnk (by rw [← hnl]; exact hB), HLX.out.1, HLX.out.2.1, HLX.out.2.2]
            exact ⟨hrow, hbw⟩
          clear hc0 hnk hns hnl hnz hB hbw hrow
          go_wp2_with fail
          refine cP.mono ?_
          rintro e w2 ⟨rfl, hb2⟩
          have HF : Hid (w2.ownsRow w1.heap.size 9 1 (.slice oa LL oc) ((NS.take (k + 1)).filter fun t => matchB p.data.toList t).length (((NS.take (k + 1)).filter fun t => matchB p.data.toList t).map encStr) ∧ Below w1.heap.size w1 w2) := ⟨row_below hb2 (Nat.le_refl _) HF.out.1, HF.out.2.trans (hb2.mono HF.out.2.size)⟩
          clear hb2 cP
          go_wp2_with fail
          go_roundw
          case rel => exact ⟨k + 1, by go_num, by omega, HF.out.1, HF.out.2⟩
          case measure => simp [intOf]; omega
      · have d0 : decide ((k : Int) < (N : Int)) = false := decide_eq_false (by omega)
        have HR : Hid (NRow wr w.heap.size (.slice oa LL oc) (NS.filter fun t => matchB p.data.toList t) ∧ Below w.heap.size w wr) := by
          have e1 : (NS.filter fun t => matchB p.data.toList t) = F := by
            rw [← HLX.out.1, List.take_of_length_le (by rw [HN.out]; omega)]
          refine ⟨?_, HX.out.2.trans (hbw.mono HX.out.2.size)⟩
          unfold NRow
          rw [e1, HLX.out.2.1, HLX.out.2.2]
          exact ⟨hrow.1, hrow.2.imp id fun ⟨g, cap, cur, q1, q2, q3⟩ => ⟨g, cap, cur, q1, Nat.le_trans HX.out.2.size q2, q3⟩⟩
        clear hrow hbw hlen
        go_wp2_with fail
        go_ret
        exact ⟨⟨_, rfl, HR.out.1⟩, HR.out.2⟩
end Go.Proofs.YtfdlopimncodcaaGreatDoor
