/-
  The document's Names: all boxes' names, in order, and more.
-/
import Derived.Test.YtfdlopimncodcaaGreatDoorMHxMath
import Derived.Lib.SmallJoins
namespace Go.Proofs.YtfdlopimncodcaaGreatDoor
open Go.RowKit Go.Proofs.Aid Go.Sort Go.Lib
theorem sorted_ext : ∀ {A B : List Nm}, A.Pairwise (· < ·) → B.Pairwise (· < ·) → (∀ x, x ∈ A ↔ x ∈ B) → A = B
  | [], [], _, _, _ => rfl
  | [], b :: B, _, _, h => absurd ((h b).2 List.mem_cons_self) List.not_mem_nil
  | a :: A, [], _, _, h => absurd ((h a).1 List.mem_cons_self) List.not_mem_nil
  | a :: A, b :: B, h1, h2, h => by
    obtain ⟨p1, p2⟩ := List.pairwise_cons.1 h1
    obtain ⟨q1, q2⟩ := List.pairwise_cons.1 h2
    have hab : a = b := by
      rcases List.mem_cons.1 ((h a).1 List.mem_cons_self) with e | e
      · exact e
      · rcases List.mem_cons.1 ((h b).2 List.mem_cons_self) with e2 | e2
        · exact e2.symm
        · exact absurd (List.lt_trans (q1 a e) (p1 b e2)) (List.lt_irrefl _)
    subst hab
    congr 1
    refine sorted_ext p2 q2 fun x => ⟨fun hx => ?_, fun hx => ?_⟩
    · rcases List.mem_cons.1 ((h x).1 (List.mem_cons_of_mem _ hx)) with e | e
      · exact absurd (p1 x hx) (by rw [e]; exact List.lt_irrefl _)
      · exact e
    · rcases List.mem_cons.1 ((h x).2 (List.mem_cons_of_mem _ hx)) with e | e
      · exact absurd (q1 x hx) (by rw [e]; exact List.lt_irrefl _)
      · exact e
theorem namesB_sorted {l : Bxs} (h : SortedB l) : (namesB l).Pairwise (· < ·) := List.pairwise_map.2 h
theorem mem_namesB {l : Bxs} {x : Nm} : x ∈ namesB l ↔ hasB l x = true := by
  unfold namesB
  rw [hasB_true, List.mem_map]
  constructor
  · rintro ⟨⟨m, b⟩, hm, rfl⟩
    exact ⟨b, hm⟩
  · rintro ⟨b, hm⟩
    exact ⟨_, hm, rfl⟩
set_option maxHeartbeats 4000000 in
set_option maxRecDepth 100000 in
theorem rnames_is (hb mb wb : Nat) (l : Bxs) (nx : Int) (w : World) (h : RHs w hb mb wb l nx) (hl : l.length ≤ 1000) (hsm : ∀ p ∈ l, p.1.length ≤ 1000) :
    Calls Tryz.prog 19 #[.pointer (some ⟨hb, 0, none⟩)] w fun e w' => (∃ v, e = .returned v ∧ NRow w' w.heap.size v (namesB l)) ∧ Below w.heap.size w w' := by
  have hmk := rnm_make w
  have m1 := rnm_new w
  have b1 : Below w.heap.size w (w.alloc (.map #[] 0)) := (Below.refl _ _).alloc (Nat.le_refl _) _
  have z1 : (w.alloc (.map #[] 0)).heap.size = w.heap.size + 1 := World.size_alloc _ _
  obtain ⟨W1, hW1⟩ : ∃ W, w.alloc (.map #[] 0) = W := ⟨_, rfl⟩
  rw [hW1] at hmk m1 b1 z1
  obtain ⟨hso, D, hown0, hD⟩ := id h.2
  have hpm := rmp_keys hso hown0 hD
  have hzD := rmp_size hso hown0 hD
  have h1 := h.below b1 (Nat.le_refl _)
  have c0 := h1.cell.1
  have hown : W1.ownsMap Tryz.prog 9 ptrElem mb l.length D := by
    obtain ⟨es, clock, q1, r⟩ := hown0
    exact ⟨es, clock, (b1.block mb h.2.lt).trans q1, r⟩
  have hmbl : mb < w.heap.size := h.2.lt
  obtain ⟨B, hB⟩ : ∃ n, w.heap.size = n := ⟨_, rfl⟩
  obtain ⟨N, hN⟩ : ∃ n, l.length = n := ⟨_, rfl⟩
  have HO : Hid ((namesB l).Perm (strKeys D) ∧ SortedB l ∧ Below w.heap.size w W1 ∧ w.heap.size = B ∧ W1.heap.size = B + 1 ∧ W1.ownsMap Tryz.prog 9 ptrElem mb l.length D) := ⟨hpm, hso, b1, hB, by omega, hown⟩
  have HKS : Hid (∀ x, Maps.has D (.string x) = true → x.length ≤ 1000) := fun x hx => by
    rw [hD.has] at hx
    obtain ⟨b, hb'⟩ := hasB_true.1 hx
    exact hsm _ hb'
  rw [hN] at hown hl hzD
  rw [hB] at hmk m1 hmbl
  have hzB : B ≤ w.heap.size := by omega
  clear h hso hown0 hD hpm h1 b1 hsm z1 hB
  go_enter Tryz.func19, Tryz.ntmps19
  go_wp2_with (first
    | (at_range; refine wpList_range_own _ rfl _ 85 rfl 9 82 lawN Tryz.underlying85 _ mb N _ rfl hown ?_; intro w0 hrg0 hg0 hs0)
    | go_in)
  have HN0 : Hid (RNm w0 B [] ∧ Below B w w0) := by
    have e := HO.out
    exact ⟨m1.same (hg0.block B (by omega) (by simp)), by rw [← e.2.2.2.1]; exact e.2.2.1.grown hg0 (by omega) (fun j hj => by cases hj)⟩
  clear hs0 hg0 hown m1
  go_frame
  go_loopw [4] (fun _ wq => ∃ (left : Lit → Bool) (cnt : Nat) (ss : List Nm) (L : Bxs), wq.ranges Tryz.prog 9 ptrElem mb W1.heap.size N D left cnt ∧ ss.length + cnt ≤ N ∧ Hid (RNm wq B L ∧ (namesB L).Perm ss ∧ Collected D left ss ∧ Below B w wq))
    (fun _ wq => wq.rangeLeft mb W1.heap.size)
  case atStart => exact ⟨_, _, [], [], hrg0, by simp; omega, HN0.out.1, List.Perm.refl _, Collected.start D, HN0.out.2⟩
  case round =>
    obtain ⟨left, cnt, ss, L, hrg, hcs, HI⟩ := hrel
    go_wp2_with (first
      | (at_next; refine wpList_next_ranges _ rfl _ rfl 9 lawN ptrElem Value.string (fun v : Value => v) (fun key kl hk => by obtain ⟨x, hx, _⟩ := Maps.keyOf_str Tryz.underlying9 hk; exact ⟨⟨x.toArray⟩, hx⟩) (fun v y _ => ⟨v, rfl⟩) mb W1.heap.size N _ _ _ rfl hrg ?_ ?_)
      | go_in)
    · intro hc0 hl0
      have hLs := HI.out.1.1
      have hLn : namesB L = namesB l := sorted_ext (namesB_sorted hLs) (namesB_sorted HO.out.2.1) fun x => by
        have p1 := HI.out.2.1.trans (HI.out.2.2.1.perm HO.out.2.2.2.2.2 lawN Tryz.underlying9 hl0)
        exact (p1.trans HO.out.1.symm).mem_iff
      have hLl : L.length ≤ 1000 := by
        have h1 := congrArg List.length hLn
        unfold namesB at h1
        rw [List.length_map, List.length_map] at h1
        omega
      have cK := rnm_keysOf B L wr HI.out.1 hLl
      rw [hLn] at cK
      have HB : Hid (Below B w wr) := HI.out.2.2.2
      clear hrg HI hLs hLn hLl
      go_wp2_with fail
      refine cK.mono ?_
      rintro e w4 ⟨⟨v, rfl, hrow⟩, hb4⟩
      have hz := HB.out.size
      have HF : Hid (NRow w4 w.heap.size v (namesB l) ∧ Below w.heap.size w w4) := by
        have e := HO.out.2.2.2.1
        refine ⟨?_, by rw [e]; exact HB.out.trans (hb4.mono (by omega))⟩
        exact ⟨hrow.1, hrow.2.imp id fun ⟨g, cap, cur, q1, q2, q3⟩ => ⟨g, cap, cur, q1, by omega, q3⟩⟩
      clear cK hrow hb4
      go_wp2_with fail
      go_ret
      exact ⟨⟨v, rfl, HF.out.1⟩, HF.out.2⟩
    · intro x c kl yd yp w2 cnt2 hkey hlk hv hat hrg2 hlt hg2 hs2 hen
      obtain ⟨x', ex, rfl, _⟩ := Maps.keyOf_str Tryz.underlying9 hkey
      have hxx : x.data.toList = x' := by
        have : (Value.string x) = .string ⟨x'.toArray⟩ := ex
        injection this with this
        rw [this]
      subst hxx
      have hhas : Maps.has D (.string x.data.toList) = true := Maps.has_true_of_atKey hat
      have hxl : x.data.toList.length ≤ 1000 := HKS.out _ hhas
      have hxz : x.size ≤ 1000 := by rw [Array.length_toList] at hxl; exact hxl
      have hnb : hasB L x.data.toList = false := by
        cases hh : hasB L x.data.toList with
        | false => rfl
        | true =>
          have h1 : x.data.toList ∈ ss := HI.out.2.1.mem_iff.1 (mem_namesB.2 hh)
          have h2 := ((HI.out.2.2.1.2 _).1 h1).2
          rw [hlk] at h2
          cases h2
      have hBr : B < wr.heap.size := by
        obtain ⟨_, D1, h1, _⟩ := HI.out.1
        exact h1.lt
      have HRB : Hid (W1.heap.size = B + 1) := HO.out.2.2.2.2.1
      have hm2 : RNm w2 B L := HI.out.1.same (hg2.block B hBr (by have := HRB.out; simp <;> omega))
      have hLl : L.length ≤ 1000 := by
        have h1 := HI.out.2.1.length_eq
        unfold namesB at h1
        rw [List.length_map] at h1
        omega
      have hlk2 := rnm_none hm2 x (by omega) hnb
      obtain ⟨W3, hput, hm3, ht3⟩ := rnm_put hm2 x (by omega) (by omega) 1 (by decide)
      have hput : (Instr.mapUpdate 86 (.map (some B)) (.string x) (.int .i64 1)).run Tryz.prog w2 = .ok () W3 := hput
      have hrg3 := hrg2.kept ht3.grown (by have := HRB.out; simp <;> omega) (by have := HRB.out; simp <;> omega)
      have HN : Hid (RNm W3 B (putB x.data.toList 1 L) ∧ (namesB (putB x.data.toList 1 L)).Perm (ss ++ [x.data.toList]) ∧ Collected D (fun z => left z && !z.sameKey (.string x.data.toList)) (ss ++ [x.data.toList]) ∧ Below B w W3) := by
        refine ⟨hm3, ?_, HI.out.2.2.1.step hlk hat, ?_⟩
        · refine (List.perm_ext_iff_of_nodup (keys_nodup (sorted_putB HI.out.1.1)) ?_).2 fun y => ?_
          · exact (HI.out.2.2.1.step hlk hat).1
          · show y ∈ namesB _ ↔ _
            rw [mem_namesB, has_putB HI.out.1.1, List.mem_append, List.mem_singleton, ← mem_namesB, HI.out.2.1.mem_iff]
            exact Or.comm
        · exact (HI.out.2.2.2.grown hg2 (by have := HI.out.2.2.2.size; have e := HO.out.2.2.2.1; omega) (fun j hj => by have := Option.some.inj hj; have := HRB.out; omega)).trans ((turned_but ht3).below (by have := hg2.size; omega) (Nat.le_refl _))
      clear hm2 hm3 ht3 hnb hhas hxl HI hkey hv hat hg2
      go_wp2_with fail
      go_roundw
      case rel => exact ⟨_, cnt2, ss ++ [x.data.toList], _, hrg3, by simp; omega, HN⟩
      case measure => rw [hrg3.left_eq, hrg.left_eq]; exact hlt
end Go.Proofs.YtfdlopimncodcaaGreatDoor
namespace Go.Proofs.YtfdlopimncodcaaGreatDoor
open Go.RowKit Go.Proofs.Aid
theorem filt_yes {p : Nm → Bool} {xs : List Nm} {k : Nat} {x : Nm} (hx : xs[k]? = some x) (hp : p x = true) : (xs.take (k + 1)).filter p = (xs.take k).filter p ++ [x] := by
  rw [List.take_add_one, hx, List.filter_append]
  congr 1
  simp [hp]
theorem filt_no {p : Nm → Bool} {xs : List Nm} {k : Nat} {x : Nm} (hx : xs[k]? = some x) (hp : p x = false) : (xs.take (k + 1)).filter p = (xs.take k).filter p := by
  rw [List.take_add_one, hx, List.filter_append]
  simp [hp]
theorem filt_len (p : Nm → Bool) (xs : List Nm) (k : Nat) : ((xs.take k).filter p).length ≤ xs.length := Nat.le_trans (List.length_filter_le _ _) (by rw [List.length_take]; omega)
set_option maxHeartbeats 4000000 in
set_option maxRecDepth 100000 in
theorem rlies_is (hb mb wb : Nat) (l : Bxs) (nx : Int) (s : ByteArray) (w : World) (h : RHs w hb mb wb l nx) (hl : l.length ≤ 1000) (hsm : ∀ p ∈ l, p.1.length ≤ 1000) (hs : s.size ≤ 1000) :
    Calls Tryz.prog 97 #[.pointer (some ⟨hb, 0, none⟩), .string s] w fun e w' => (∃ v, e = .returned v ∧ NRow w' w.heap.size v (withinB l s.data.toList)) ∧ Below w.heap.size w w' := by
  have cN := rnames_is hb mb wb l nx w h hl hsm
  obtain ⟨N, hN⟩ : ∃ n, (namesB l).length = n := ⟨_, rfl⟩
  have hNl : N ≤ 1000 := by rw [← hN]; unfold namesB; rw [List.length_map]; exact hl
  have hlim : (9223372036854775807 < s.size + 1) = False := eq_false (by omega)
  have HP : Hid (∀ (a : ByteArray) (W : World), Calls Tryz.prog 33 #[.string a, .string (s ++ ⟨#[47]⟩)] W fun e w' => e = .returned (.bool (inB a.data.toList s.data.toList)) ∧ w' = W) := fun a W => by
    have cP := Tryz.strings_HasPrefix a (s ++ ⟨#[47]⟩) W
    rw [show (s ++ (⟨#[47]⟩ : ByteArray)).data.toList = s.data.toList ++ [47] by simp] at cP
    exact cP
  have HN : Hid ((namesB l).length = N) := hN
  clear h hsm
  go_enter Tryz.func97, Tryz.ntmps97
  go_wp2_with fail
  refine cN.mono ?_
  rintro e w1 ⟨⟨v, rfl, hrow⟩, hb1⟩
  obtain ⟨va, vc, rfl⟩ := row_form hrow
  have HX : Hid (NRow w1 w.heap.size (.slice va N vc) (namesB l) ∧ Below w.heap.size w w1) := ⟨by rw [← hN]; exact hrow, hb1⟩
  rw [hN]
  clear cN hrow hb1 hN
  go_wp2_with fail
  go_loopw [5, 11] (fun ov iv wr => ∃ k : Nat, iv = .int .i64 (k : Int) ∧ k ≤ N ∧ wr.ownsRow w1.heap.size 9 1 ov (((namesB l).take k).filter fun t => inB t s.data.toList).length ((((namesB l).take k).filter fun t => inB t s.data.toList).map encStr) ∧ Below w1.heap.size w1 wr) (fun _ iv _ => N - (intOf iv).toNat)
  case atStart => exact ⟨0, rfl, Nat.zero_le _, World.ownsRow_nil _ _ _ _, Below.refl _ _⟩
  case round =>
    obtain ⟨k, rfl, hk, hrow, hbw⟩ := hrel
    have hlen := filt_len (fun t => inB t s.data.toList) (namesB l) k
    rw [HN.out] at hlen
    obtain ⟨F, hF⟩ : ∃ F, (((namesB l).take k).filter fun t => inB t s.data.toList) = F := ⟨_, rfl⟩
    obtain ⟨LL, hLL⟩ : ∃ n, F.length = n := ⟨_, rfl⟩
    obtain ⟨XS, hXS⟩ : ∃ x, F.map encStr = x := ⟨_, rfl⟩
    rw [hF, hLL] at hlen
    rw [hF, hLL, hXS] at hrow
    have HLX : Hid ((((namesB l).take k).filter fun t => inB t s.data.toList) = F ∧ F.length = LL ∧ F.map encStr = XS) := ⟨hF, hLL, hXS⟩
    clear hF hLL hXS
    obtain ⟨oa, oc, rfl⟩ := row_form hrow
    by_cases hlt : k < N
    · have d0 : decide ((k : Int) < (N : Int)) = true := decide_eq_true (by omega)
      have i1 : (0 : Int) ≤ (k : Int) := by omega
      have i2 : (k : Int) < (N : Int) := by omega
      obtain ⟨n, hnk⟩ : ∃ n, (namesB l)[k]? = some n := ⟨_, List.getElem?_eq_getElem (by have := HN.out; omega)⟩
      have hrN : NRow wr w.heap.size (.slice va N vc) (namesB l) := HX.out.1.below hbw (Nat.le_refl _)
      obtain ⟨g, cap, hvg, hc0⟩ := nrow_at hrN hnk
      injection hvg with hva hvb hvc
      subst hva
      clear hvb hvc hrN
      obtain ⟨ns, hns⟩ : ∃ q : ByteArray, (⟨n.toArray⟩ : ByteArray) = q := ⟨_, rfl⟩
      have hcg : wr.cell? ⟨g, k, none⟩ = some (.string ns) := by rw [← hns]; exact hc0
      have hnl : ns.data.toList = n := by rw [← hns]
      have cP := HP.out ns wr
      cases hB : inB ns.data.toList s.data.toList with
      | true =>
        rw [hB] at cP
        have HNX : Hid ((((namesB l).take (k + 1)).filter fun t => inB t s.data.toList) = F ++ [ns.data.toList]) := by
          unfold Hid
          rw [← HLX.out.1, hnl]
          exact filt_yes hnk (by rw [← hnl]; exact hB)
        have HBW : Hid (Below w1.heap.size w1 wr) := hbw
        have hbs : w1.heap.size ≤ wr.heap.size := hbw.size
        clear hc0 hnk hns hnl hB hbw
        go_wp2_with fail
        refine cP.mono ?_
        rintro e w2 ⟨rfl, hw⟩
        obtain rfl : wr = w2 := hw.symm
        clear hw cP
        go_wp2_with (at_builtin; go_must (refine wpList_push rfl (.tmp 19) (.tmp 21) 32 rfl _ w1.heap.size 9 (.string ⟨#[]⟩) 16 Tryz.underlying32 Tryz.infoNm rfl _ _ _ (by rfl) hrow [.string ns] _ (by rfl) (by simp) (by simp [Value.oneCell']) (by simp) (by rfl) (by decide) (by simp; omega) hbs ?_); intro g3 cap3 w4 hown4 hg4 hlt4)
        have HF : Hid (w4.ownsRow w1.heap.size 9 1 (.slice (some ⟨g3, 0, none⟩) (LL + 1) cap3) (((namesB l).take (k + 1)).filter fun t => inB t s.data.toList).length ((((namesB l).take (k + 1)).filter fun t => inB t s.data.toList).map encStr) ∧ Below w1.heap.size w1 w4) := by
          refine ⟨?_, HBW.out.grown hg4 hbs (fun j e => (hrow.lt j e).1)⟩
          rw [HNX.out, List.length_append, List.map_append, HLX.out.2.1, HLX.out.2.2, List.map_cons, enc_ba]
          exact hown4
        clear hown4 hg4 hrow
        go_roundw
        case rel => exact ⟨k + 1, by go_num, by omega, HF.out.1, HF.out.2⟩
        case measure => simp [intOf]; omega
      | false =>
        rw [hB] at cP
        have HF : Hid (wr.ownsRow w1.heap.size 9 1 (.slice oa LL oc) (((namesB l).take (k + 1)).filter fun t => inB t s.data.toList).length ((((namesB l).take (k + 1)).filter fun t => inB t s.data.toList).map encStr) ∧ Below w1.heap.size w1 wr) := by
          rw [filt_no hnk (by rw [← hnl]; exact hB), HLX.out.1, HLX.out.2.1, HLX.out.2.2]
          exact ⟨hrow, hbw⟩
        clear hc0 hnk hns hnl hB hbw hrow
        go_wp2_with fail
        refine cP.mono ?_
        rintro e w2 ⟨rfl, hw⟩
        obtain rfl : wr = w2 := hw.symm
        clear hw cP
        go_wp2_with fail
        go_roundw
        case rel => exact ⟨k + 1, by go_num, by omega, HF.out.1, HF.out.2⟩
        case measure => simp [intOf]; omega
    · have d0 : decide ((k : Int) < (N : Int)) = false := decide_eq_false (by omega)
      have HR : Hid (NRow wr w.heap.size (.slice oa LL oc) (withinB l s.data.toList) ∧ Below w.heap.size w wr) := by
        have e1 : withinB l s.data.toList = F := by
          rw [← HLX.out.1, List.take_of_length_le (by rw [HN.out]; omega)]
          rfl
        refine ⟨?_, HX.out.2.trans (hbw.mono HX.out.2.size)⟩
        unfold NRow
        rw [e1, HLX.out.2.1, HLX.out.2.2]
        exact ⟨hrow.1, hrow.2.imp id fun ⟨g, cap, cur, q1, q2, q3⟩ => ⟨g, cap, cur, q1, Nat.le_trans HX.out.2.size q2, q3⟩⟩
      clear hrow hbw hlen
      go_wp2_with fail
      go_ret
      exact ⟨⟨_, rfl, HR.out.1⟩, HR.out.2⟩
end Go.Proofs.YtfdlopimncodcaaGreatDoor
namespace Go.Proofs.YtfdlopimncodcaaGreatDoor
open Go.RowKit Go.Proofs.Aid Go.Proofs.Ut
set_option maxHeartbeats 400000 in
theorem rin_any (n lo hi : Int) (w : World) : Calls Tryz.prog 99 #[.int .i64 n, .int .i64 lo, .int .i64 hi] w fun e w' => e = .returned (.bool (decide (lo ≤ n) && decide (n ≤ hi))) ∧ w' = w := by
  by_cases h1 : lo ≤ n
  · have h1d : decide (lo ≤ n) = true := decide_eq_true h1
    go_enter Tryz.func99, Tryz.ntmps99
    go_wp2
    go_ret
    exact ⟨by rw [h1d]; rfl, rfl⟩
  · have h1d : decide (lo ≤ n) = false := decide_eq_false h1
    go_enter Tryz.func99, Tryz.ntmps99
    go_wp2
    go_ret
    exact ⟨rfl, rfl⟩
theorem rin_yes (n lo hi : Int) (w : World) (h1 : lo ≤ n) (h2 : n ≤ hi) : Calls Tryz.prog 99 #[.int .i64 n, .int .i64 lo, .int .i64 hi] w fun e w' => e = .returned (.bool true) ∧ w' = w := by
  refine (rin_any n lo hi w).mono ?_
  rintro e w' ⟨rfl, rfl⟩
  exact ⟨by simp [h1, h2], rfl⟩
theorem rin_no (n lo hi : Int) (w : World) (h : n < lo ∨ hi < n) : Calls Tryz.prog 99 #[.int .i64 n, .int .i64 lo, .int .i64 hi] w fun e w' => e = .returned (.bool false) ∧ w' = w := by
  refine (rin_any n lo hi w).mono ?_
  rintro e w' ⟨rfl, rfl⟩
  refine ⟨?_, rfl⟩
  congr 2
  rw [Bool.and_eq_false_iff]
  rcases h with h | h
  · exact Or.inl (decide_eq_false (by omega))
  · exact Or.inr (decide_eq_false (by omega))
set_option maxHeartbeats 1000000 in
set_option maxRecDepth 100000 in
theorem named_any (s : ByteArray) (w : World) (hs : s.size ≤ 4611686018427387904) (hT : Tabs w) :
    Calls Tryz.prog 57 #[.string s] w fun e w' => e = .returned (.bool (Ut.rightB s.data.toList)) ∧ Below w.heap.size w w' := by
  have hsl : s.data.toList.length = s.size := (Lib.size_eq s).symm
  have hr : Ut.rightB s.data.toList = ((runes s.data.toList).all okRune && (decide (1 ≤ s.size) && decide (s.size ≤ 60) && Lib.validD s.data.toList)) := by
    simp only [Ut.rightB, hsl]
    rw [Bool.and_comm]
  rw [hr]
  clear hr hsl
  obtain ⟨ANS, hANS⟩ : ∃ ANS, (runes s.data.toList).all okRune = ANS := ⟨_, rfl⟩
  obtain ⟨FIN, hFIN⟩ : ∃ FIN, (ANS && (decide (1 ≤ s.size) && decide (s.size ≤ 60) && Lib.validD s.data.toList)) = FIN := ⟨_, rfl⟩
  rw [hANS, hFIN]
  have HF : Hid ((ANS && (decide (1 ≤ s.size) && decide (s.size ≤ 60) && Lib.validD s.data.toList)) = FIN) := hFIN
  clear hFIN
  go_enter Tryz.func57, Tryz.ntmps57
  go_wp2
  go_loopw [] (fun wr => ∃ pos : Nat, wr.heap[w.heap.size]? = some (.stringIter s pos) ∧ Below w.heap.size w wr ∧ (runes (s.data.toList.drop pos)).all okRune = ANS) (fun wr => s.size - wr.iterPos w.heap.size)
  case atStart =>
    refine ⟨0, World.iter_heap w s 0, ?_, by simpa using hANS⟩
    exact (Below.refl _ _).alloc (Nat.le_refl _) _
  case round =>
    obtain ⟨pos, hit, hbw, hall⟩ := hrel
    clear hANS
    by_cases hp : pos < s.size
    · have hnx : ∀ ty, (Instr.next (.pointer (some ⟨w.heap.size, 0, none⟩)) true ty).run Tryz.prog wr = _ := fun ty => Lib.run_next_any_at wr w.heap.size s pos ty hit hp
      have hra := runes_at s pos hp
      have hwd : 1 ≤ (Utf8.decode s pos).2 := by have := Lib.decodeL_width (s.data.toList.drop pos); rw [Lib.decodeL_drop] at this; exact this
      have hrm : (Utf8.decode s pos).1 ≤ 1114111 := by have := Lib.decodeL_rune (s.data.toList.drop pos); rw [Lib.decodeL_drop] at this; exact this
      rw [hra, List.all_cons] at hall
      have HA : Hid ((okRune (Utf8.decode s pos).1 && (runes (s.data.toList.drop (pos + (Utf8.decode s pos).2))).all okRune) = ANS) := hall
      have hit2 := Lib.iterAt_heap wr w.heap.size s pos (pos + (Utf8.decode s pos).2) hit
      have hbw2 := Lib.below_iterAt hbw (k := w.heap.size) (by omega) s (pos + (Utf8.decode s pos).2)
      clear hra hall
      by_cases hok : okRune (Utf8.decode s pos).1 = true
      · have hok2 : 32 ≤ (Utf8.decode s pos).1 ∧ ((Utf8.decode s pos).1 < 127 ∨ 159 < (Utf8.decode s pos).1) := by
          simp [okRune] at hok; omega
        obtain ⟨hk1, hk2⟩ := hok2
        have cN := fun w => rin_no (Utf8.decode s pos).1 127 159 w (by omega)
        go_wp2_with (go_at_call 99; refine (cN _).mono ?_; rintro e w' ⟨rfl, rfl⟩)
        go_roundw
        case rel =>
          refine ⟨_, hit2, hbw2, ?_⟩
          have := HA.out
          rw [hok, Bool.true_and] at this
          exact this
        case measure =>
          simp only [World.iterPos, hit2, hit]
          omega
      · have hok2 : (Utf8.decode s pos).1 < 32 ∨ (127 ≤ (Utf8.decode s pos).1 ∧ (Utf8.decode s pos).1 ≤ 159) := by
          simp [okRune] at hok; omega
        have hans : ANS = false := by
          have := HA.out
          rw [Bool.not_eq_true] at hok
          rw [hok, Bool.false_and] at this
          exact this.symm
        subst hans
        have hfin : FIN = false := by have := HF.out; rw [Bool.false_and] at this; exact this.symm
        subst hfin
        rcases hok2 with hk1 | ⟨hk1, hk2⟩
        · go_wp2
          go_ret
          exact ⟨rfl, hbw2⟩
        · have cN := fun w => rin_yes (Utf8.decode s pos).1 127 159 w (by omega) (by omega)
          go_wp2_with (go_at_call 99; refine (cN _).mono ?_; rintro e w' ⟨rfl, rfl⟩)
          go_ret
          exact ⟨rfl, hbw2⟩
    · have hnx : ∀ ty, (Instr.next (.pointer (some ⟨w.heap.size, 0, none⟩)) true ty).run Tryz.prog wr = _ := fun ty => Lib.run_next_end_at wr w.heap.size s pos ty hit hp
      rw [drop_nil s pos hp] at hall
      have hans : ANS = true := hall.symm
      subst hans
      have hTr : Tabs wr := hT.below hbw
      have cV := Tryz.utf8_ValidString s wr (by omega) hTr
      generalize Lib.validD s.data.toList = V at cV HF
      by_cases hl : 1 ≤ s.size ∧ s.size ≤ 60
      · obtain ⟨hl1, hl2⟩ := hl
        have cN := fun w => rin_yes s.size 1 60 w (by omega) (by omega)
        have hfin : FIN = V := by have := HF.out; simp [hl1, hl2] at this; exact this.symm
        subst hfin
        go_wp2_with (first | (go_at_call 99; refine (cN _).mono ?_; rintro e w' ⟨rfl, rfl⟩) | (go_at_call 111; refine cV.mono ?_; rintro e w1 ⟨rfl, hb1⟩))
        go_ret
        exact ⟨rfl, hbw.trans (hb1.mono hbw.size)⟩
      · have hl2 : s.size < 1 ∨ 60 < s.size := by omega
        have cN := fun w => rin_no s.size 1 60 w (by omega)
        have hfin : FIN = false := by
          have := HF.out
          rw [← this]
          rcases hl2 with h | h
          · rw [decide_eq_false (show ¬ 1 ≤ s.size by omega)]; rfl
          · rw [decide_eq_false (show ¬ s.size ≤ 60 by omega)]; simp
        subst hfin
        clear hl hl2
        go_wp2_with (first | (go_at_call 99; refine (cN _).mono ?_; rintro e w' ⟨rfl, rfl⟩) | (go_at_call 111; refine cV.mono ?_; rintro e w1 ⟨rfl, hb1⟩))
        go_ret
        exact ⟨rfl, hbw⟩
end Go.Proofs.YtfdlopimncodcaaGreatDoor
namespace Go.Proofs.YtfdlopimncodcaaGreatDoor
open Go.RowKit Go.Proofs.Aid
theorem conv_z (c : UInt8) (z : Int) (h : (c.toNat : Int) = z) (w : World) : (convert 29 9 (.slice (some ⟨w.heap.size, 0, none⟩) 1 1)).run Tryz.prog (w.alloc (.cells #[.int .u8 z] 5)) = .ok (.string ⟨#[c]⟩) (w.alloc (.cells #[.int .u8 z] 5)) := by
  subst h
  exact run_convert_bytes_back _ 29 9 5 ⟨w.heap.size, 0, none⟩ 1 [c] Tryz.underlying29 Tryz.underlying5 Tryz.underlying9 (fun j hj => by
    obtain rfl : j = 0 := by simpa using hj
    simp [Addr.add])
theorem back_list (c : UInt8) (t : ByteArray) : (t ++ (⟨#[c]⟩ : ByteArray)).data.toList = t.data.toList ++ [c] := by
  rw [Joins.data_append]
theorem back_size (c : UInt8) (t : ByteArray) : (t ++ (⟨#[c]⟩ : ByteArray)).size = t.size + 1 := by
  rw [Lib.size_eq, back_list, List.length_append, ← Lib.size_eq]; rfl
end Go.Proofs.YtfdlopimncodcaaGreatDoor
namespace Go.Proofs.YtfdlopimncodcaaGreatDoor
open Go.RowKit Go.Proofs.Aid Go.Proofs.Fl
theorem sm_snoc {l : Tx} {k : Nat} (hk : k < l.length) : (l.take (k + 1)).map sm = (l.take k).map sm ++ [sm l[k]] := by
  rw [List.take_succ_eq_append_getElem hk, List.map_append]; rfl
set_option maxHeartbeats 1000000 in
set_option maxRecDepth 100000 in
theorem ref_small (s : ByteArray) (w : World) (hs : s.size ≤ 1000000) : Calls Tryz.prog 58 #[.string s] w fun e w' => (∃ t : ByteArray, e = .returned (.string t) ∧ t.data.toList = s.data.toList.map sm) ∧ Below w.heap.size w w' := by
  have hla : s.data.toList.length = s.size := by show s.data.toList.length = s.data.size; simp
  go_enter Tryz.func58, Tryz.ntmps58
  go_wp2
  go_loopw [3, 8] (fun ov i wr => ∃ (k : Nat) (t : ByteArray), i = .int .i64 (k : Int) ∧ k ≤ s.size ∧ ov = .string t ∧ t.size = k ∧ Hid (t.data.toList = (s.data.toList.take k).map sm) ∧ Below w.heap.size w wr) (fun _ i _ => s.size - (intOf i).toNat)
  case atStart => exact ⟨0, ⟨#[]⟩, rfl, Nat.zero_le _, rfl, rfl, rfl, Below.refl _ _⟩
  case round =>
    obtain ⟨k, t, rfl, hk, rfl, htk, HT, hbW⟩ := hrel
    by_cases hlt : k < s.size
    · have hkl : k < s.data.toList.length := by omega
      have hc := s[k].toNat_lt
      by_cases hq : 65 ≤ s[k].toNat ∧ s[k].toNat ≤ 90
      · have h1 : decide ((65 : Int) ≤ (s[k].toNat : Int)) = true := by simp; omega
        have h2 : decide ((s[k].toNat : Int) ≤ 90) = true := by simp; omega
        have hsm : (sm s[k]).toNat = s[k].toNat + 32 := by
          unfold sm; rw [if_pos hq, UInt8.toNat_add]
          show (s[k].toNat + 32) % 256 = _
          omega
        have hcv := conv_z (sm s[k]) ((s[k].toNat : Int) + 32) (by omega) wr
        obtain ⟨C, hC⟩ : ∃ C, sm s[k] = C := ⟨_, rfl⟩
        have HC : Hid (sm s.data.toList[k] = C) := hC
        rw [hC] at hcv
        have hsz : t.size + (⟨#[C]⟩ : ByteArray).size ≤ 1000001 := by show t.size + 1 ≤ _; omega
        clear hsm hC
        go_wp2
        go_roundw
        case rel => exact ⟨k + 1, t ++ ⟨#[C]⟩, by go_num, by omega, rfl, by rw [back_size, htk], by show _ = _; rw [back_list, sm_snoc hkl, HT.out, HC.out], hbW.alloc hbW.size _⟩
        case measure => simp [intOf]; omega
      · have hsm : sm s[k] = s[k] := by unfold sm; rw [if_neg hq]
        have hcv := conv_z s[k] (s[k].toNat : Int) rfl wr
        have HC : Hid (sm s.data.toList[k] = s[k]) := hsm
        have hsz : t.size + (⟨#[s[k]]⟩ : ByteArray).size ≤ 1000001 := by show t.size + 1 ≤ _; omega
        clear hsm
        by_cases h1 : 65 ≤ s[k].toNat
        · have h1' : decide ((65 : Int) ≤ (s[k].toNat : Int)) = true := by simp; omega
          have h2' : decide ((s[k].toNat : Int) ≤ 90) = false := by simp; omega
          go_wp2
          go_roundw
          case rel => exact ⟨k + 1, t ++ ⟨#[s[k]]⟩, by go_num, by omega, rfl, by rw [back_size, htk], by show _ = _; rw [back_list, sm_snoc hkl, HT.out, HC.out], hbW.alloc hbW.size _⟩
          case measure => simp [intOf]; omega
        · have h1' : decide ((65 : Int) ≤ (s[k].toNat : Int)) = false := by simp; omega
          go_wp2
          go_roundw
          case rel => exact ⟨k + 1, t ++ ⟨#[s[k]]⟩, by go_num, by omega, rfl, by rw [back_size, htk], by show _ = _; rw [back_list, sm_snoc hkl, HT.out, HC.out], hbW.alloc hbW.size _⟩
          case measure => simp [intOf]; omega
    · have HE : Hid (t.data.toList = s.data.toList.map sm) := by
        have := HT.out
        rw [List.take_of_length_le (by omega)] at this
        exact this
      clear htk
      go_wp2
      go_ret
      exact ⟨⟨t, rfl, HE.out⟩, hbW⟩
end Go.Proofs.YtfdlopimncodcaaGreatDoor
