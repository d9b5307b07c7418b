/-
  The document's answer on a text that tells a set.
-/
import Derived.Test.YtefgpafoajoofaaGreatDoorNumTie
import Derived.Test.YtefgpafoajoofaaGreatDoorSplitTie
import Derived.Test.YtefgpafoajoofaaGreatDoorSplitShelf
import Derived.Test.YtefgpafoajoofaaGreatDoorSeqParse
import Derived.Test.YtefgpafoajoofaaGreatDoorSeqOf
namespace Go.Proofs.YtefgpafoajoofaaGreatDoor
open Go.RowKit Go.Proofs.Aid Go.Proofs.Sq Go.Sort

theorem between_len (c : UInt8) : ∀ (l : List UInt8), ∀ p ∈ between c l, p.length ≤ l.length
  | [], p, h => by simp [between] at h; simp [h]
  | b :: r, p, h => by
    have ih := between_len c r
    rw [between] at h
    split at h
    · rcases List.mem_cons.1 h with rfl | h
      · simp
      · have := ih p h; simp only [List.length_cons]; omega
    · rcases List.mem_cons.1 h with rfl | h
      · have hne := between_ne c r
        cases hb : between c r with
        | nil => exact absurd hb hne
        | cons q qs =>
          have := ih q (by rw [hb]; exact List.mem_cons_self)
          simp only [List.headD_cons, List.length_cons]; omega
      · have := ih p (List.mem_of_mem_tail h); simp only [List.length_cons]; omega
/-- One piece, cut at its colon. -/
theorem two_call (x : ByteArray) (m : Int) (w : World) (hs : x.size ≤ 1000000) (hm : w.cell? ⟨2, 0, none⟩ = some (.int .i64 m)) :
    Calls Tryz.prog 51 #[.string x, .string ⟨#[58]⟩, .int .i64 2] w fun e w' => Below w.heap.size w w' ∧
      ((∃ c, e = .returned (.slice (some ⟨w.heap.size, 0, none⟩) 1 c) ∧ w'.cell? ⟨w.heap.size, 0, none⟩ = some (.string x) ∧ rangeOf x.data.toList = (numOf x.data.toList).bind fun a => (numOf x.data.toList).bind fun b => some (a, b)) ∨
       (∃ c qa qb, e = .returned (.slice (some ⟨w.heap.size, 0, none⟩) 2 c) ∧ w'.cell? ⟨w.heap.size, 0, none⟩ = some (.string qa) ∧ w'.cell? ⟨w.heap.size, 1, none⟩ = some (.string qb) ∧ qa.size ≤ 1000000 ∧ qb.size ≤ 1000000 ∧ rangeOf x.data.toList = (numOf qa.data.toList).bind fun a => (numOf qb.data.toList).bind fun b => some (a, b))) := by
  have hxs : x.data.toList.length = x.size := by show x.data.toList.length = x.data.size; simp
  have hQ := split_two 58 x
  refine (Tryz.strings_SplitN x ⟨#[58]⟩ 2 m w (by omega) hm (by decide) (by omega) (by omega)).mono ?_
  rintro e w' ⟨rfl, rfl⟩
  refine ⟨(Below.refl _ _).alloc (Nat.le_refl _) _, ?_⟩
  generalize Lib.splitB ⟨#[58]⟩ 0 (min 2 (x.size + 1) - 1) x = Q at hQ ⊢
  cases hc : (cutAt 58 x.data.toList).2.2 with
  | false =>
    rw [hc, if_pos rfl] at hQ
    match Q, hQ with
    | [q], hQ =>
      have hq : q.data.toList = x.data.toList := by simpa using hQ
      obtain rfl : q = x := num_ba hq
      refine Or.inl ⟨_, rfl, by simp [Lib.cellsOf], ?_⟩
      unfold rangeOf
      rw [hc, (cutAt_miss hc).1]
      cases numOf q.data.toList <;> rfl
    | [], hQ => simp at hQ
    | _ :: _ :: _, hQ => simp at hQ
  | true =>
    rw [hc, if_neg (by simp)] at hQ
    match Q, hQ with
    | [qa, qb], hQ =>
      obtain ⟨ha, hb⟩ : qa.data.toList = (cutAt 58 x.data.toList).1 ∧ qb.data.toList = (cutAt 58 x.data.toList).2.1 := by simpa using hQ
      have hl := cutAt_length 58 x.data.toList
      rw [← ha, ← hb] at hl
      have la : qa.data.toList.length = qa.size := by show qa.data.toList.length = qa.data.size; simp
      have lb : qb.data.toList.length = qb.size := by show qb.data.toList.length = qb.data.size; simp
      refine Or.inr ⟨_, qa, qb, rfl, by simp [Lib.cellsOf], by simp [Lib.cellsOf], by omega, by omega, ?_⟩
      unfold rangeOf
      rw [hc, ha, hb]
      simp
    | [], hQ => simp at hQ
    | [_], hQ => simp at hQ
    | _ :: _ :: _ :: _, hQ => simp at hQ
theorem one_two {qa qb x : List UInt8} (h : rangeOf x = (numOf qa).bind fun a => (numOf qb).bind fun b => some (a, b)) :
    ∃ za zb oka okb, oneB qa = (za, oka) ∧ oneB qb = (zb, okb) ∧ ((oka = true ∧ okb = true ∧ ∃ a b : Nat, za = (a : Int) ∧ zb = (b : Int) ∧ rangeOf x = some (a, b)) ∨ ((oka = false ∨ (oka = true ∧ okb = false)) ∧ rangeOf x = none)) := by
  cases ha : numOf qa with
  | none =>
    refine ⟨_, _, false, _, Prod.ext rfl (one_none ha), rfl, Or.inr ⟨Or.inl rfl, ?_⟩⟩
    rw [h, ha]; rfl
  | some a =>
    cases hb : numOf qb with
    | none =>
      refine ⟨_, _, true, false, one_some ha, Prod.ext rfl (one_none hb), Or.inr ⟨Or.inr ⟨rfl, rfl⟩, ?_⟩⟩
      rw [h, ha, hb]; rfl
    | some b =>
      refine ⟨_, _, true, true, one_some ha, one_some hb, Or.inl ⟨rfl, rfl, a, b, rfl, rfl, ?_⟩⟩
      rw [h, ha, hb]; rfl
theorem one_as (q : ByteArray) (z : Int) (ok : Bool) (w : World) (hq : q.size ≤ 1000000) (hg : NumAt w) (h : oneB q.data.toList = (z, ok)) :
    Calls Tryz.prog 52 #[.string q] w fun e w' => e = .returned (.tuple #[.int .i64 z, .bool ok]) ∧ Below w.heap.size w w' := by
  have := ref_one q w hq hg
  rw [h] at this
  exact this
set_option maxHeartbeats 4000000 in
set_option maxRecDepth 100000 in
theorem ref_parse (s : ByteArray) (m : Int) (w : World) (hs : s.size ≤ 1000000) (hm : w.cell? ⟨2, 0, none⟩ = some (.int .i64 m)) (hg : NumAt w) :
    Calls Tryz.prog 6 #[.string s] w fun e w' => Below w.heap.size w w' ∧
      ((readSet s.data.toList = .form ∧ e = .returned (.tuple #[.slice none 0 0, .int .i64 3])) ∨
       (readSet s.data.toList = .limit ∧ e = .returned (.tuple #[.slice none 0 0, .int .i64 4])) ∨
       ∃ (l : List (Nat × Nat)) (v : Value), readSet s.data.toList = .ok l ∧ l.length ≤ 20 ∧ e = .returned (.tuple #[v, .int .i64 0]) ∧ Rg w' v (l.map intR)) := by
  obtain ⟨i0, hi, hz0, hz1, hz2⟩ := info_parts Tryz.infoRange2
  have hsl : s.data.toList.length = s.size := by show s.data.toList.length = s.data.size; simp
  have K0 : Hid (∀ W, Below w.heap.size w W → W.cell? ⟨2, 0, none⟩ = some (.int .i64 m) ∧ NumAt W) := fun W hb => ⟨(hb.cell (World.block_lt_of_cell? _ _ hm)).trans hm, hg.below hb⟩
  have cS := Tryz.strings_Split s ⟨#[44]⟩ m w (by omega) hm (by decide)
  have hlen := Lib.splitB_all ⟨#[44]⟩ (by decide) 0 _ s rfl
  have hP := split_between 44 s
  have hle := Lib.countB_le ⟨#[44]⟩ (by decide) _ s (Nat.le_refl _)
  rw [← hlen] at cS
  have hPn : (Lib.splitB ⟨#[44]⟩ 0 (Lib.countB s ⟨#[44]⟩) s).length ≤ 1000001 := by omega
  generalize Lib.splitB ⟨#[44]⟩ 0 (Lib.countB s ⟨#[44]⟩) s = P at cS hP hPn
  obtain ⟨R, hR⟩ : ∃ R, readSet s.data.toList = R := ⟨_, rfl⟩
  rw [hR]
  have HR : Hid (readFrom [] (P.map (·.data.toList)) = R) := by show _ = _; rw [hP]; exact hR
  have HL : Hid (∀ x ∈ P, x.size ≤ 1000000) := fun x hx => by
    have h1 := between_len 44 s.data.toList x.data.toList (by rw [← hP]; exact List.mem_map.2 ⟨x, hx, rfl⟩)
    have h2 : x.data.toList.length = x.size := by show x.data.toList.length = x.data.size; simp
    omega
  obtain ⟨n, hn⟩ : ∃ n, P.length = n := ⟨_, rfl⟩
  rw [hn] at cS hPn
  have HN : Hid (P.length = n) := hn
  have HA : Hid (∀ (j : Nat) x, P[j]? = some x → (w.alloc (.cells (P.map Value.string).toArray 9)).cell? ⟨w.heap.size, j, none⟩ = some (.string x)) := fun j x hj => by
    simp [hj]
  clear hlen hP hle hR hn hsl hm hg hs
  go_enter Tryz.func6, Tryz.ntmps6
  go_wp2_with fail
  refine cS.mono ?_
  rintro e w1 ⟨rfl, hw1⟩
  have hb1 : Below w.heap.size w w1 := by rw [hw1]; exact (Below.refl _ _).alloc (Nat.le_refl _) _
  have HA1 : Hid (∀ (j : Nat) x, P[j]? = some x → w1.cell? ⟨w.heap.size, j, none⟩ = some (.string x)) := by show ∀ _ _, _; rw [hw1]; exact HA.out
  have hsz : w1.heap.size = w.heap.size + 1 := by rw [hw1]; simp
  have HSZ : Hid (w1.heap.size = w.heap.size + 1) := hsz
  clear hw1 cS HA hsz
  go_wp2_with fail
  go_loopw [4, 15] (fun rv i wr => ∃ (k : Nat) (acc : List (Nat × Nat)), i = .int .i64 (k : Int) ∧ k ≤ n ∧ acc.length ≤ 20 ∧ wr.ownsRow w1.heap.size 78 2 rv acc.length (cellsR (acc.map intR)) ∧ Hid (readFrom acc ((P.drop k).map (·.data.toList)) = R) ∧ Below w1.heap.size w1 wr) (fun _ i _ => n - (intOf i).toNat)
  case atStart => exact ⟨0, [], rfl, Nat.zero_le _, by simp, World.ownsRow_nil _ _ _ _, by show _ = _; simpa using HR.out, Below.refl _ _⟩
  case round =>
    obtain ⟨k, acc, rfl, hk, hacc, hrow, HRd, hbW⟩ := hrel
    have hb0W : Below w.heap.size w wr := hb1.trans (hbW.mono hb1.size)
    by_cases hlt : k < n
    · have hkP : k < P.length := by rw [HN.out]; exact hlt
      have c1 := HA1.out k _ (List.getElem?_eq_getElem hkP)
      have c2 := (hbW.cell (p := ⟨w.heap.size, k, none⟩) (World.block_lt_of_cell? _ _ c1)).trans c1
      obtain ⟨x, hx⟩ : ∃ x, P[k] = x := ⟨_, rfl⟩
      have hxs : x.size ≤ 1000000 := by rw [← hx]; exact HL.out _ (List.getElem_mem _)
      rw [hx] at c2
      have HRx : Hid (readFrom acc (x.data.toList :: (P.drop (k + 1)).map (·.data.toList)) = R) := by
        have := HRd.out
        rw [List.drop_eq_getElem_cons hkP, hx] at this
        exact this
      have cT := two_call x m wr hxs (K0.out wr hb0W).1
      clear c1 hx
      go_wp2_with fail
      refine cT.mono ?_
      clear cT
      rintro e w2 ⟨hb2, ⟨c, rfl, d0, hrg⟩ | ⟨c, qa, qb, rfl, d0, d1, hqa, hqb, hrg⟩⟩
      · obtain ⟨za, zb, oka, okb, hoa, hob, hcase⟩ := one_two hrg
        have hb02 := hb0W.trans (hb2.mono hb0W.size)
        have hb12 := hbW.trans (hb2.mono hbW.size)
        have cA := one_as x za oka w2 hxs (K0.out w2 hb02).2 hoa
        clear hrg hoa
        go_wp2_with fail
        refine cA.mono ?_
        clear cA
        rintro e w3 ⟨rfl, hb3⟩
        have hb03 := hb02.trans (hb3.mono hb02.size)
        have hb13 := hb12.trans (hb3.mono hb12.size)
        have d0' := (hb3.cell (p := ⟨wr.heap.size, 0, none⟩) (World.block_lt_of_cell? _ _ d0)).trans d0
        have cB := one_as x zb okb w3 hxs (K0.out w3 hb03).2 hob
        have hrow3 := row_below (hb2.trans (hb3.mono hb2.size)) (Nat.le_refl _) hrow
        clear hob d0 hb3 hb2 hb02 hb12 hrow
        go_wp2_with fail
        refine cB.mono ?_
        clear cB
        rintro e w4 ⟨rfl, hb4⟩
        have hb04 := hb03.trans (hb4.mono hb03.size)
        have hb14 := hb13.trans (hb4.mono hb13.size)
        have hrow4 := row_below hb4 (Nat.le_refl _) hrow3
        clear hb4 hb03 hb13 hrow3 HRd
        rcases hcase with ⟨rfl, rfl, a, b, rfl, rfl, hr⟩ | ⟨rfl | ⟨rfl, rfl⟩, hr⟩
        · have hbs4 := hb14.size
          by_cases h20 : acc.length < 20
          · have h20' : ¬ (20 : Int) ≤ (acc.length : Int) := by omega
            have HN2 : Hid (readFrom (acc ++ [(a, b)]) ((P.drop (k + 1)).map (·.data.toList)) = R) := by
              have := HRx.out
              rw [readFrom, hr] at this
              simp only at this
              rw [if_neg (by omega)] at this
              exact this
            have hnews : ∀ (j : Nat) (u : Value), [Value.int .i64 (a : Int), Value.int .i64 (b : Int)][j]? = some u → (w4.alloc (.cells #[.int .i64 (a : Int), .int .i64 (b : Int)] 78)).cell? (Addr.add ⟨w4.heap.size, 0, none⟩ j) = some u := World.news_of_block (heap_alloc_new w4 (.cells #[.int .i64 (a : Int), .int .i64 (b : Int)] 78))
            obtain ⟨ra, rc, rfl⟩ := row_form hrow4
            clear hr HRx
            go_wp2_with (at_builtin; go_must (refine wpList_append_lies _ rfl (.tmp 47) (.tmp 51) 22 rfl w1.heap.size 78 i0 (.agg #[.int .i64 0, .int .i64 0]) 2 16 Tryz.underlying22 hi hz0 hz1 hz2 rfl (by decide) _ _ _ (by rfl) (hrow4.alloc _) ⟨w4.heap.size, 0, none⟩ 1 1 [.int .i64 (a : Int), .int .i64 (b : Int)] (by rfl) rfl hnews (by simp [Value.oneCell']) (by decide) (by unfold maxLen; omega) (by omega) (by simp; omega) _ rfl ?_); intro g1 cap1 w5 hown5 hg5 _ hlt5)
            have hb5 : Below w1.heap.size w1 w5 := (hb14.alloc hbs4 _).grown hg5 (by simp; omega) (fun j e => (hrow4.lt j e).1)
            go_roundw
            case rel => exact ⟨k + 1, acc ++ [(a, b)], by go_num, by omega, by simp; omega, by rw [List.map_append, cellsR_append, List.length_append]; exact hown5, HN2.out, hb5⟩
            case measure => simp [intOf]; omega
          · have h20' : (20 : Int) ≤ (acc.length : Int) := by omega
            have HE : Hid (R = .limit) := by
              have := HRx.out
              rw [readFrom, hr] at this
              simp only at this
              rw [if_pos (by omega)] at this
              exact this.symm
            obtain ⟨ra, rc, rfl⟩ := row_form hrow4
            clear hr HRx hrow4
            go_wp2_with fail
            go_ret2
            exact ⟨hb04, Or.inr (Or.inl ⟨HE.out, rfl⟩)⟩
        · have HE : Hid (R = .form) := by
            have := HRx.out
            rw [readFrom, hr] at this
            exact this.symm
          clear hr HRx hrow4
          go_wp2_with fail
          go_ret2
          exact ⟨hb04, Or.inl ⟨HE.out, rfl⟩⟩
        · have HE : Hid (R = .form) := by
            have := HRx.out
            rw [readFrom, hr] at this
            exact this.symm
          clear hr HRx hrow4
          go_wp2_with fail
          go_ret2
          exact ⟨hb04, Or.inl ⟨HE.out, rfl⟩⟩
      · obtain ⟨za, zb, oka, okb, hoa, hob, hcase⟩ := one_two hrg
        have hb02 := hb0W.trans (hb2.mono hb0W.size)
        have hb12 := hbW.trans (hb2.mono hbW.size)
        have cA := one_as qa za oka w2 hqa (K0.out w2 hb02).2 hoa
        clear hrg hoa
        go_wp2_with fail
        refine cA.mono ?_
        clear cA
        rintro e w3 ⟨rfl, hb3⟩
        have hb03 := hb02.trans (hb3.mono hb02.size)
        have hb13 := hb12.trans (hb3.mono hb12.size)
        have d0' := (hb3.cell (p := ⟨wr.heap.size, 1, none⟩) (World.block_lt_of_cell? _ _ d1)).trans d1
        have cB := one_as qb zb okb w3 hqb (K0.out w3 hb03).2 hob
        have hrow3 := row_below (hb2.trans (hb3.mono hb2.size)) (Nat.le_refl _) hrow
        clear hob d0 d1 hb3 hb2 hb02 hb12 hrow
        go_wp2_with fail
        refine cB.mono ?_
        clear cB
        rintro e w4 ⟨rfl, hb4⟩
        have hb04 := hb03.trans (hb4.mono hb03.size)
        have hb14 := hb13.trans (hb4.mono hb13.size)
        have hrow4 := row_below hb4 (Nat.le_refl _) hrow3
        clear hb4 hb03 hb13 hrow3 HRd
        rcases hcase with ⟨rfl, rfl, a, b, rfl, rfl, hr⟩ | ⟨rfl | ⟨rfl, rfl⟩, hr⟩
        · have hbs4 := hb14.size
          by_cases h20 : acc.length < 20
          · have h20' : ¬ (20 : Int) ≤ (acc.length : Int) := by omega
            have HN2 : Hid (readFrom (acc ++ [(a, b)]) ((P.drop (k + 1)).map (·.data.toList)) = R) := by
              have := HRx.out
              rw [readFrom, hr] at this
              simp only at this
              rw [if_neg (by omega)] at this
              exact this
            have hnews : ∀ (j : Nat) (u : Value), [Value.int .i64 (a : Int), Value.int .i64 (b : Int)][j]? = some u → (w4.alloc (.cells #[.int .i64 (a : Int), .int .i64 (b : Int)] 78)).cell? (Addr.add ⟨w4.heap.size, 0, none⟩ j) = some u := World.news_of_block (heap_alloc_new w4 (.cells #[.int .i64 (a : Int), .int .i64 (b : Int)] 78))
            obtain ⟨ra, rc, rfl⟩ := row_form hrow4
            clear hr HRx
            go_wp2_with (at_builtin; go_must (refine wpList_append_lies _ rfl (.tmp 47) (.tmp 51) 22 rfl w1.heap.size 78 i0 (.agg #[.int .i64 0, .int .i64 0]) 2 16 Tryz.underlying22 hi hz0 hz1 hz2 rfl (by decide) _ _ _ (by rfl) (hrow4.alloc _) ⟨w4.heap.size, 0, none⟩ 1 1 [.int .i64 (a : Int), .int .i64 (b : Int)] (by rfl) rfl hnews (by simp [Value.oneCell']) (by decide) (by unfold maxLen; omega) (by omega) (by simp; omega) _ rfl ?_); intro g1 cap1 w5 hown5 hg5 _ hlt5)
            have hb5 : Below w1.heap.size w1 w5 := (hb14.alloc hbs4 _).grown hg5 (by simp; omega) (fun j e => (hrow4.lt j e).1)
            go_roundw
            case rel => exact ⟨k + 1, acc ++ [(a, b)], by go_num, by omega, by simp; omega, by rw [List.map_append, cellsR_append, List.length_append]; exact hown5, HN2.out, hb5⟩
            case measure => simp [intOf]; omega
          · have h20' : (20 : Int) ≤ (acc.length : Int) := by omega
            have HE : Hid (R = .limit) := by
              have := HRx.out
              rw [readFrom, hr] at this
              simp only at this
              rw [if_pos (by omega)] at this
              exact this.symm
            obtain ⟨ra, rc, rfl⟩ := row_form hrow4
            clear hr HRx hrow4
            go_wp2_with fail
            go_ret2
            exact ⟨hb04, Or.inr (Or.inl ⟨HE.out, rfl⟩)⟩
        · have HE : Hid (R = .form) := by
            have := HRx.out
            rw [readFrom, hr] at this
            exact this.symm
          clear hr HRx hrow4
          go_wp2_with fail
          go_ret2
          exact ⟨hb04, Or.inl ⟨HE.out, rfl⟩⟩
        · have HE : Hid (R = .form) := by
            have := HRx.out
            rw [readFrom, hr] at this
            exact this.symm
          clear hr HRx hrow4
          go_wp2_with fail
          go_ret2
          exact ⟨hb04, Or.inl ⟨HE.out, rfl⟩⟩
    · have HE : Hid (R = .ok acc) := by
        have := HRd.out
        rw [List.drop_eq_nil_of_le (by rw [HN.out]; omega)] at this
        exact this.symm
      have hrg := rg_of_row (l := acc.map intR) (by rw [List.length_map]; exact hrow)
      clear HRd hrow
      go_wp2_with fail
      go_ret2
      exact ⟨hb0W, Or.inr (Or.inr ⟨acc, _, HE.out, hacc, rfl, hrg⟩)⟩
end Go.Proofs.YtefgpafoajoofaaGreatDoor
