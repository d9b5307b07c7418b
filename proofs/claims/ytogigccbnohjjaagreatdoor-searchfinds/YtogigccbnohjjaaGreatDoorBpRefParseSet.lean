/-
  The document's answer on a text that tells a set, and more.
-/
import Derived.Test.YtogigccbnohjjaaGreatDoorBpSeqRange
namespace Go.Proofs.YtogigccbnohjjaaGreatDoor
open Go.RowKit Go.Proofs.Aid Go.Proofs.Sq Go.Sort
set_option maxHeartbeats 4000000
set_option maxRecDepth 100000
theorem between_len (c : UInt8) : ∀ (l : List UInt8), ∀ p ∈ between c l, p.length ≤ l.length
 | [], p, h => by simp [between] at h; simp [h]
 | b :: r, p, h => by
  have ih := between_len c r
  rw [between] at h
  split at h
  ·rcases List.mem_cons.1 h with rfl | h
   ·simp
   ·have := ih p h; simp only [List.length_cons]; omega
  ·rcases List.mem_cons.1 h with rfl | h
   ·have hne := between_ne c r
    cases hb : between c r with
    | nil => exact absurd hb hne
    | cons q qs =>
     have := ih q (by rw [hb]; exact List.mem_cons_self)
     simp only [List.headD_cons, List.length_cons]; omega
   ·have := ih p (List.mem_of_mem_tail h); simp only [List.length_cons]; omega
theorem two_call (x : ByteArray) (m : Int) (w : World) (hs : x.size ≤ 1000000) (hm : w.cell? ⟨1, 0, none⟩ = some (.int .i64 m)) :
  Calls Tryz.prog 111 #[.string x, .string ⟨#[58]⟩, .int .i64 2] w fun e w' => Below w.heap.size w w' ∧
   ((∃ c, e = .returned (.slice (some ⟨w.heap.size, 0, none⟩) 1 c) ∧ w'.cell? ⟨w.heap.size, 0, none⟩ = some (.string x) ∧ rangeOf x.data.toList = (numOf x.data.toList).bind fun a => (numOf x.data.toList).bind fun b => some (a, b)) ∨
   (∃ c qa qb, e = .returned (.slice (some ⟨w.heap.size, 0, none⟩) 2 c) ∧ w'.cell? ⟨w.heap.size, 0, none⟩ = some (.string qa) ∧ w'.cell? ⟨w.heap.size, 1, none⟩ = some (.string qb) ∧ qa.size ≤ 1000000 ∧ qb.size ≤ 1000000 ∧ rangeOf x.data.toList = (numOf qa.data.toList).bind fun a => (numOf qb.data.toList).bind fun b => some (a, b))) := by
 have hxs : x.data.toList.length = x.size := by show x.data.toList.length = x.data.size; simp
 have hQ := split_two 58 x
 refine (Tryz.strings_SplitN x ⟨#[58]⟩ 2 m w (by omega) hm (by decide) (by omega) (by omega)).mono ?_
 rintro e w' ⟨rfl, rfl⟩
 refine ⟨(Below.refl _ _).alloc (Nat.le_refl _) _, ?_⟩
 generalize Lib.splitB ⟨#[58]⟩ 0 (min 2 (x.size + 1) - 1) x = Q at hQ ⊢
 cases hc : (cutAt 58 x.data.toList).2.2 with
 | false =>
  rw [hc, if_pos rfl] at hQ
  match Q, hQ with
  | [q], hQ =>
   have hq : q.data.toList = x.data.toList := by simpa using hQ
   obtain rfl : q = x := num_ba hq
   refine Or.inl ⟨_, rfl, by simp [Lib.cellsOf], ?_⟩
   unfold rangeOf
   rw [hc, (cutAt_miss hc).1]
   cases numOf q.data.toList <;> rfl
  | [], hQ => simp at hQ
  | _ :: _ :: _, hQ => simp at hQ
 | true =>
  rw [hc, if_neg (by simp)] at hQ
  match Q, hQ with
  | [qa, qb], hQ =>
   obtain ⟨ha, hb⟩ : qa.data.toList = (cutAt 58 x.data.toList).1 ∧ qb.data.toList = (cutAt 58 x.data.toList).2.1 := by simpa using hQ
   have hl := cutAt_length 58 x.data.toList
   rw [← ha, ← hb] at hl
   have la : qa.data.toList.length = qa.size := by show qa.data.toList.length = qa.data.size; simp
   have lb : qb.data.toList.length = qb.size := by show qb.data.toList.length = qb.data.size; simp
   refine Or.inr ⟨_, qa, qb, rfl, by simp [Lib.cellsOf], by simp [Lib.cellsOf], by omega, by omega, ?_⟩
   unfold rangeOf
   rw [hc, ha, hb]
   simp
  | [], hQ => simp at hQ
  | [_], hQ => simp at hQ
  | _ :: _ :: _ :: _, hQ => simp at hQ
theorem one_two {qa qb x : List UInt8} (h : rangeOf x = (numOf qa).bind fun a => (numOf qb).bind fun b => some (a, b)) :
  ∃ za zb oka okb, oneB qa = (za, oka) ∧ oneB qb = (zb, okb) ∧ ((oka = true ∧ okb = true ∧ ∃ a b : Nat, za = (a : Int) ∧ zb = (b : Int) ∧ rangeOf x = some (a, b)) ∨ ((oka = false ∨ (oka = true ∧ okb = false)) ∧ rangeOf x = none)) := by
 cases ha : numOf qa with
 | none =>
  refine ⟨_, _, false, _, Prod.ext rfl (one_none ha), rfl, Or.inr ⟨Or.inl rfl, ?_⟩⟩
  rw [h, ha]; rfl
 | some a =>
  cases hb : numOf qb with
  | none =>
   refine ⟨_, _, true, false, one_some ha, Prod.ext rfl (one_none hb), Or.inr ⟨Or.inr ⟨rfl, rfl⟩, ?_⟩⟩
   rw [h, ha, hb]; rfl
  | some b =>
   refine ⟨_, _, true, true, one_some ha, one_some hb, Or.inl ⟨rfl, rfl, a, b, rfl, rfl, ?_⟩⟩
   rw [h, ha, hb]; rfl
theorem one_as (q : ByteArray) (z : Int) (ok : Bool) (w : World) (hq : q.size ≤ 1000000) (hg : NumAt w) (h : oneB q.data.toList = (z, ok)) :
  Calls Tryz.prog 112 #[.string q] w fun e w' => e = .returned (.tuple #[.int .i64 z, .bool ok]) ∧ Below w.heap.size w w' := by
 have := ref_one q w hq hg
 rw [h] at this
 exact this
theorem ref_parse (s : ByteArray) (m : Int) (w : World) (hs : s.size ≤ 1000000) (hm : w.cell? ⟨1, 0, none⟩ = some (.int .i64 m)) (hg : NumAt w) :
  Calls Tryz.prog 91 #[.string s] w fun e w' => Below w.heap.size w w' ∧
   ((readSet s.data.toList = .form ∧ e = .returned (.tuple #[.slice none 0 0, .int .i64 3])) ∨
   (readSet s.data.toList = .limit ∧ e = .returned (.tuple #[.slice none 0 0, .int .i64 4])) ∨
   ∃ (l : List (Nat × Nat)) (v : Value), readSet s.data.toList = .ok l ∧ l.length ≤ 20 ∧ e = .returned (.tuple #[v, .int .i64 0]) ∧ StS w' (fun q => w.heap.size ≤ q) v l) := by
 obtain ⟨i0, hi, hz0, hz1, hz2⟩ := info_parts Tryz.infoRange2
 have hsl : s.data.toList.length = s.size := by show s.data.toList.length = s.data.size; simp
 have K0 : Hid (∀ W, Below w.heap.size w W → W.cell? ⟨1, 0, none⟩ = some (.int .i64 m) ∧ NumAt W) := fun W hb => ⟨(hb.cell (World.block_lt_of_cell? _ _ hm)).trans hm, hg.below hb⟩
 have cS := Tryz.strings_Split s ⟨#[44]⟩ m w (by omega) hm (by decide)
 have hlen := Lib.splitB_all ⟨#[44]⟩ (by decide) 0 _ s rfl
 have hP := split_between 44 s
 have hle := Lib.countB_le ⟨#[44]⟩ (by decide) _ s (Nat.le_refl _)
 rw [← hlen] at cS
 have hPn : (Lib.splitB ⟨#[44]⟩ 0 (Lib.countB s ⟨#[44]⟩) s).length ≤ 1000001 := by omega
 generalize Lib.splitB ⟨#[44]⟩ 0 (Lib.countB s ⟨#[44]⟩) s = P at cS hP hPn
 obtain ⟨R, hR⟩ : ∃ R, readSet s.data.toList = R := ⟨_, rfl⟩
 rw [hR]
 have HR : Hid (readFrom [] (P.map (·.data.toList)) = R) := by show _ = _; rw [hP]; exact hR
 have HL : Hid (∀ x ∈ P, x.size ≤ 1000000) := fun x hx => by
  have h1 := between_len 44 s.data.toList x.data.toList (by rw [← hP]; exact List.mem_map.2 ⟨x, hx, rfl⟩)
  have h2 : x.data.toList.length = x.size := by show x.data.toList.length = x.data.size; simp
  omega
 obtain ⟨n, hn⟩ : ∃ n, P.length = n := ⟨_, rfl⟩
 rw [hn] at cS hPn
 have HN : Hid (P.length = n) := hn
 have HA : Hid (∀ (j : Nat) x, P[j]? = some x → (w.alloc (.cells (P.map Value.string).toArray 9)).cell? ⟨w.heap.size, j, none⟩ = some (.string x)) := fun j x hj => by
  simp [hj]
 clear hlen hP hle hR hn hsl hm hg hs
 go_enter Tryz.func91, Tryz.ntmps91
 go_wp2_with fail
 refine cS.mono ?_
 rintro e w1 ⟨rfl, hw1⟩
 have hb1 : Below w.heap.size w w1 := by rw [hw1]; exact (Below.refl _ _).alloc (Nat.le_refl _) _
 have HA1 : Hid (∀ (j : Nat) x, P[j]? = some x → w1.cell? ⟨w.heap.size, j, none⟩ = some (.string x)) := by show ∀ _ _, _; rw [hw1]; exact HA.out
 have hsz : w1.heap.size = w.heap.size + 1 := by rw [hw1]; simp
 have HSZ : Hid (w1.heap.size = w.heap.size + 1) := hsz
 clear hw1 cS HA hsz
 go_wp2_with fail
 go_loopw [4, 15] (fun rv i wr => ∃ (k : Nat) (acc : List (Nat × Nat)), i = .int .i64 (k : Int) ∧ k ≤ n ∧ acc.length ≤ 20 ∧ wr.ownsRow w1.heap.size 96 2 rv acc.length (cellsR (acc.map intR)) ∧ Hid (readFrom acc ((P.drop k).map (·.data.toList)) = R) ∧ Below w1.heap.size w1 wr) (fun _ i _ => n - (intOf i).toNat)
 case atStart => exact ⟨0, [], rfl, Nat.zero_le _, by simp, World.ownsRow_nil _ _ _ _, by show _ = _; simpa using HR.out, Below.refl _ _⟩
 case round =>
  obtain ⟨k, acc, rfl, hk, hacc, hrow, HRd, hbW⟩ := hrel
  have hb0W : Below w.heap.size w wr := hb1.trans (hbW.mono hb1.size)
  by_cases hlt : k < n
  ·have hkP : k < P.length := by rw [HN.out]; exact hlt
   have c1 := HA1.out k _ (List.getElem?_eq_getElem hkP)
   have c2 := (hbW.cell (p := ⟨w.heap.size, k, none⟩) (World.block_lt_of_cell? _ _ c1)).trans c1
   obtain ⟨x, hx⟩ : ∃ x, P[k] = x := ⟨_, rfl⟩
   have hxs : x.size ≤ 1000000 := by rw [← hx]; exact HL.out _ (List.getElem_mem _)
   rw [hx] at c2
   have HRx : Hid (readFrom acc (x.data.toList :: (P.drop (k + 1)).map (·.data.toList)) = R) := by
    have := HRd.out
    rw [List.drop_eq_getElem_cons hkP, hx] at this
    exact this
   have cT := two_call x m wr hxs (K0.out wr hb0W).1
   clear c1 hx
   go_wp2_with fail
   refine cT.mono ?_
   clear cT
   rintro e w2 ⟨hb2, ⟨c, rfl, d0, hrg⟩ | ⟨c, qa, qb, rfl, d0, d1, hqa, hqb, hrg⟩⟩
   ·obtain ⟨za, zb, oka, okb, hoa, hob, hcase⟩ := one_two hrg
    have hb02 := hb0W.trans (hb2.mono hb0W.size)
    have hb12 := hbW.trans (hb2.mono hbW.size)
    have cA := one_as x za oka w2 hxs (K0.out w2 hb02).2 hoa
    clear hrg hoa
    go_wp2_with fail
    refine cA.mono ?_
    clear cA
    rintro e w3 ⟨rfl, hb3⟩
    have hb03 := hb02.trans (hb3.mono hb02.size)
    have hb13 := hb12.trans (hb3.mono hb12.size)
    have d0' := (hb3.cell (p := ⟨wr.heap.size, 0, none⟩) (World.block_lt_of_cell? _ _ d0)).trans d0
    have cB := one_as x zb okb w3 hxs (K0.out w3 hb03).2 hob
    have hrow3 := row_below (hb2.trans (hb3.mono hb2.size)) (Nat.le_refl _) hrow
    clear hob d0 hb3 hb2 hb02 hb12 hrow
    go_wp2_with fail
    refine cB.mono ?_
    clear cB
    rintro e w4 ⟨rfl, hb4⟩
    have hb04 := hb03.trans (hb4.mono hb03.size)
    have hb14 := hb13.trans (hb4.mono hb13.size)
    have hrow4 := row_below hb4 (Nat.le_refl _) hrow3
    clear hb4 hb03 hb13 hrow3 HRd
    rcases hcase with ⟨rfl, rfl, a, b, rfl, rfl, hr⟩ | ⟨rfl | ⟨rfl, rfl⟩, hr⟩
    ·have hbs4 := hb14.size
     by_cases h20 : acc.length < 20
     ·have h20' : ¬ (20 : Int) ≤ (acc.length : Int) := by omega
      have HN2 : Hid (readFrom (acc ++ [(a, b)]) ((P.drop (k + 1)).map (·.data.toList)) = R) := by
       have := HRx.out
       rw [readFrom, hr] at this
       simp only at this
       rw [if_neg (by omega)] at this
       exact this
      have hnews : ∀ (j : Nat) (u : Value), [Value.int .i64 (a : Int), Value.int .i64 (b : Int)][j]? = some u → (w4.alloc (.cells #[.int .i64 (a : Int), .int .i64 (b : Int)] 96)).cell? (Addr.add ⟨w4.heap.size, 0, none⟩ j) = some u := World.news_of_block (heap_alloc_new w4 (.cells #[.int .i64 (a : Int), .int .i64 (b : Int)] 96))
      obtain ⟨ra, rc, rfl⟩ := row_form hrow4
      clear hr HRx
      go_wp2_with (at_builtin; go_must (refine wpList_append_lies _ rfl (.tmp 47) (.tmp 51) 29 rfl w1.heap.size 96 i0 (.agg #[.int .i64 0, .int .i64 0]) 2 16 Tryz.underlying29 hi hz0 hz1 hz2 rfl (by decide) _ _ _ (by rfl) (hrow4.alloc _) ⟨w4.heap.size, 0, none⟩ 1 1 [.int .i64 (a : Int), .int .i64 (b : Int)] (by rfl) rfl hnews (by simp [Value.oneCell']) (by decide) (by unfold maxLen; omega) (by omega) (by simp; omega) _ rfl ?_); intro g1 cap1 w5 hown5 hg5 _ hlt5)
      have hb5 : Below w1.heap.size w1 w5 := (hb14.alloc hbs4 _).grown hg5 (by simp; omega) (fun j e => (hrow4.lt j e).1)
      go_roundw
      case rel => exact ⟨k + 1, acc ++ [(a, b)], by go_num, by omega, by simp; omega, by rw [List.map_append, cellsR_append, List.length_append]; exact hown5, HN2.out, hb5⟩
      case measure => simp [intOf]; omega
     ·have h20' : (20 : Int) ≤ (acc.length : Int) := by omega
      have HE : Hid (R = .limit) := by
       have := HRx.out
       rw [readFrom, hr] at this
       simp only at this
       rw [if_pos (by omega)] at this
       exact this.symm
      obtain ⟨ra, rc, rfl⟩ := row_form hrow4
      clear hr HRx hrow4
      go_wp2_with fail
      go_ret2
      exact ⟨hb04, Or.inr (Or.inl ⟨HE.out, rfl⟩)⟩
    ·have HE : Hid (R = .form) := by
      have := HRx.out
      rw [readFrom, hr] at this
      exact this.symm
     clear hr HRx hrow4
     go_wp2_with fail
     go_ret2
     exact ⟨hb04, Or.inl ⟨HE.out, rfl⟩⟩
    ·have HE : Hid (R = .form) := by
      have := HRx.out
      rw [readFrom, hr] at this
      exact this.symm
     clear hr HRx hrow4
     go_wp2_with fail
     go_ret2
     exact ⟨hb04, Or.inl ⟨HE.out, rfl⟩⟩
   ·obtain ⟨za, zb, oka, okb, hoa, hob, hcase⟩ := one_two hrg
    have hb02 := hb0W.trans (hb2.mono hb0W.size)
    have hb12 := hbW.trans (hb2.mono hbW.size)
    have cA := one_as qa za oka w2 hqa (K0.out w2 hb02).2 hoa
    clear hrg hoa
    go_wp2_with fail
    refine cA.mono ?_
    clear cA
    rintro e w3 ⟨rfl, hb3⟩
    have hb03 := hb02.trans (hb3.mono hb02.size)
    have hb13 := hb12.trans (hb3.mono hb12.size)
    have d0' := (hb3.cell (p := ⟨wr.heap.size, 1, none⟩) (World.block_lt_of_cell? _ _ d1)).trans d1
    have cB := one_as qb zb okb w3 hqb (K0.out w3 hb03).2 hob
    have hrow3 := row_below (hb2.trans (hb3.mono hb2.size)) (Nat.le_refl _) hrow
    clear hob d0 d1 hb3 hb2 hb02 hb12 hrow
    go_wp2_with fail
    refine cB.mono ?_
    clear cB
    rintro e w4 ⟨rfl, hb4⟩
    have hb04 := hb03.trans (hb4.mono hb03.size)
    have hb14 := hb13.trans (hb4.mono hb13.size)
    have hrow4 := row_below hb4 (Nat.le_refl _) hrow3
    clear hb4 hb03 hb13 hrow3 HRd
    rcases hcase with ⟨rfl, rfl, a, b, rfl, rfl, hr⟩ | ⟨rfl | ⟨rfl, rfl⟩, hr⟩
    ·have hbs4 := hb14.size
     by_cases h20 : acc.length < 20
     ·have h20' : ¬ (20 : Int) ≤ (acc.length : Int) := by omega
      have HN2 : Hid (readFrom (acc ++ [(a, b)]) ((P.drop (k + 1)).map (·.data.toList)) = R) := by
       have := HRx.out
       rw [readFrom, hr] at this
       simp only at this
       rw [if_neg (by omega)] at this
       exact this
      have hnews : ∀ (j : Nat) (u : Value), [Value.int .i64 (a : Int), Value.int .i64 (b : Int)][j]? = some u → (w4.alloc (.cells #[.int .i64 (a : Int), .int .i64 (b : Int)] 96)).cell? (Addr.add ⟨w4.heap.size, 0, none⟩ j) = some u := World.news_of_block (heap_alloc_new w4 (.cells #[.int .i64 (a : Int), .int .i64 (b : Int)] 96))
      obtain ⟨ra, rc, rfl⟩ := row_form hrow4
      clear hr HRx
      go_wp2_with (at_builtin; go_must (refine wpList_append_lies _ rfl (.tmp 47) (.tmp 51) 29 rfl w1.heap.size 96 i0 (.agg #[.int .i64 0, .int .i64 0]) 2 16 Tryz.underlying29 hi hz0 hz1 hz2 rfl (by decide) _ _ _ (by rfl) (hrow4.alloc _) ⟨w4.heap.size, 0, none⟩ 1 1 [.int .i64 (a : Int), .int .i64 (b : Int)] (by rfl) rfl hnews (by simp [Value.oneCell']) (by decide) (by unfold maxLen; omega) (by omega) (by simp; omega) _ rfl ?_); intro g1 cap1 w5 hown5 hg5 _ hlt5)
      have hb5 : Below w1.heap.size w1 w5 := (hb14.alloc hbs4 _).grown hg5 (by simp; omega) (fun j e => (hrow4.lt j e).1)
      go_roundw
      case rel => exact ⟨k + 1, acc ++ [(a, b)], by go_num, by omega, by simp; omega, by rw [List.map_append, cellsR_append, List.length_append]; exact hown5, HN2.out, hb5⟩
      case measure => simp [intOf]; omega
     ·have h20' : (20 : Int) ≤ (acc.length : Int) := by omega
      have HE : Hid (R = .limit) := by
       have := HRx.out
       rw [readFrom, hr] at this
       simp only at this
       rw [if_pos (by omega)] at this
       exact this.symm
      obtain ⟨ra, rc, rfl⟩ := row_form hrow4
      clear hr HRx hrow4
      go_wp2_with fail
      go_ret2
      exact ⟨hb04, Or.inr (Or.inl ⟨HE.out, rfl⟩)⟩
    ·have HE : Hid (R = .form) := by
      have := HRx.out
      rw [readFrom, hr] at this
      exact this.symm
     clear hr HRx hrow4
     go_wp2_with fail
     go_ret2
     exact ⟨hb04, Or.inl ⟨HE.out, rfl⟩⟩
    ·have HE : Hid (R = .form) := by
      have := HRx.out
      rw [readFrom, hr] at this
      exact this.symm
     clear hr HRx hrow4
     go_wp2_with fail
     go_ret2
     exact ⟨hb04, Or.inl ⟨HE.out, rfl⟩⟩
  ·have HE : Hid (R = .ok acc) := by
    have := HRd.out
    rw [List.drop_eq_nil_of_le (by rw [HN.out]; omega)] at this
    exact this.symm
   have hrg := (sts_of_row hrow).kept (w' := wr) (Ok' := fun q => w.heap.size ≤ q) fun q hq _ => ⟨Nat.le_trans hb1.size hq, rfl⟩
   clear HRd hrow
   go_wp2_with fail
   go_ret2
   exact ⟨hb0W, Or.inr (Or.inr ⟨acc, _, HE.out, hacc, rfl, hrg⟩)⟩
end Go.Proofs.YtogigccbnohjjaaGreatDoor
namespace Go.Proofs.YtogigccbnohjjaaGreatDoor
open Go.RowKit Go.Proofs.Aid Go.Proofs.Fl Go.Sort Go.Lib
def Sl (w : World) (v : Value) (l : List Tx) : Prop :=
 ∃ a c, v = .slice a l.length c ∧ ((a = none → c = 0) ∧ l.length ≤ c) ∧ (l = [] ∨ ∃ b o, a = some ⟨b, o, none⟩ ∧ ∀ (j : Nat) t, l[j]? = some t → w.cell? ⟨b, o + j, none⟩ = some (encStr t))
theorem Sl.below {w w' : World} {v : Value} {B : Nat} {l : List Tx} (h : Sl w v l) (hb : Below B w w') (hB : w.heap.size ≤ B) : Sl w' v l := by
 obtain ⟨a, c, h1, h0, h2⟩ := h
 refine ⟨a, c, h1, h0, ?_⟩
 rcases h2 with h2 | ⟨b, o, h3, h4⟩
 ·exact Or.inl h2
 ·refine Or.inr ⟨b, o, h3, fun j z hj => ?_⟩
  have h5 := h4 j z hj
  have hlt := World.block_lt_of_cell? _ _ h5
  exact (hb.cell (p := ⟨b, _, none⟩) (Nat.lt_of_lt_of_le hlt hB)).trans h5
end Go.Proofs.YtogigccbnohjjaaGreatDoor
namespace Go.Proofs.YtogigccbnohjjaaGreatDoor
open Go.RowKit Go.Proofs.Aid Go.Proofs.Fl
set_option maxHeartbeats 2000000
set_option maxRecDepth 100000
theorem ref_five (j : Nat) (hj : j < 5) (w : World) : Calls Tryz.prog 110 #[.int .i64 (j : Int)] w fun e w' => e = .returned (.string (sysB j)) ∧ w' = w := by
 have i0 := Tryz.ix0
 have i1 := Tryz.ix1
 have i2 := Tryz.ix2
 have i3 := Tryz.ix3
 have i4 := Tryz.ix4
 have : j = 0 ∨ j = 1 ∨ j = 2 ∨ j = 3 ∨ j = 4 := by omega
 rcases this with rfl | rfl | rfl | rfl | rfl
 all_goals
  go_enter Tryz.func110, Tryz.ntmps110
  go_wp2
  go_ret
  exact ⟨rfl, rfl⟩
theorem sm_snoc {l : Tx} {k : Nat} (hk : k < l.length) : (l.take (k + 1)).map sm = (l.take k).map sm ++ [sm l[k]] := by
 rw [List.take_succ_eq_append_getElem hk, List.map_append]; rfl
theorem ref_small (s : ByteArray) (w : World) (hs : s.size ≤ 1000000) : Calls Tryz.prog 25 #[.string s] w fun e w' => (∃ t : ByteArray, e = .returned (.string t) ∧ t.data.toList = s.data.toList.map sm) ∧ Below w.heap.size w w' := by
 have hla : s.data.toList.length = s.size := by show s.data.toList.length = s.data.size; simp
 go_enter Tryz.func25, Tryz.ntmps25
 go_wp2
 go_loopw [3, 8] (fun ov i wr => ∃ (k : Nat) (t : ByteArray), i = .int .i64 (k : Int) ∧ k ≤ s.size ∧ ov = .string t ∧ t.size = k ∧ Hid (t.data.toList = (s.data.toList.take k).map sm) ∧ Below w.heap.size w wr) (fun _ i _ => s.size - (intOf i).toNat)
 case atStart => exact ⟨0, ⟨#[]⟩, rfl, Nat.zero_le _, rfl, rfl, rfl, Below.refl _ _⟩
 case round =>
  obtain ⟨k, t, rfl, hk, rfl, htk, HT, hbW⟩ := hrel
  by_cases hlt : k < s.size
  ·have hkl : k < s.data.toList.length := by omega
   have hc := s[k].toNat_lt
   by_cases hq : 65 ≤ s[k].toNat ∧ s[k].toNat ≤ 90
   ·have h1 : decide ((65 : Int) ≤ (s[k].toNat : Int)) = true := by simp; omega
    have h2 : decide ((s[k].toNat : Int) ≤ 90) = true := by simp; omega
    have hsm : (sm s[k]).toNat = s[k].toNat + 32 := by
     unfold sm; rw [if_pos hq, UInt8.toNat_add]
     show (s[k].toNat + 32) % 256 = _
     omega
    have hcv := conv_z (sm s[k]) ((s[k].toNat : Int) + 32) (by omega) wr
    obtain ⟨C, hC⟩ : ∃ C, sm s[k] = C := ⟨_, rfl⟩
    have HC : Hid (sm s.data.toList[k] = C) := hC
    rw [hC] at hcv
    have hsz : t.size + (⟨#[C]⟩ : ByteArray).size ≤ 1000001 := by show t.size + 1 ≤ _; omega
    clear hsm hC
    go_wp2
    go_roundw
    case rel => exact ⟨k + 1, t ++ ⟨#[C]⟩, by go_num, by omega, rfl, by rw [back_size, htk], by show _ = _; rw [back_list, sm_snoc hkl, HT.out, HC.out], hbW.alloc hbW.size _⟩
    case measure => simp [intOf]; omega
   ·have hsm : sm s[k] = s[k] := by unfold sm; rw [if_neg hq]
    have hcv := conv_z s[k] (s[k].toNat : Int) rfl wr
    have HC : Hid (sm s.data.toList[k] = s[k]) := hsm
    have hsz : t.size + (⟨#[s[k]]⟩ : ByteArray).size ≤ 1000001 := by show t.size + 1 ≤ _; omega
    clear hsm
    by_cases h1 : 65 ≤ s[k].toNat
    ·have h1' : decide ((65 : Int) ≤ (s[k].toNat : Int)) = true := by simp; omega
     have h2' : decide ((s[k].toNat : Int) ≤ 90) = false := by simp; omega
     go_wp2
     go_roundw
     case rel => exact ⟨k + 1, t ++ ⟨#[s[k]]⟩, by go_num, by omega, rfl, by rw [back_size, htk], by show _ = _; rw [back_list, sm_snoc hkl, HT.out, HC.out], hbW.alloc hbW.size _⟩
     case measure => simp [intOf]; omega
    ·have h1' : decide ((65 : Int) ≤ (s[k].toNat : Int)) = false := by simp; omega
     go_wp2
     go_roundw
     case rel => exact ⟨k + 1, t ++ ⟨#[s[k]]⟩, by go_num, by omega, rfl, by rw [back_size, htk], by show _ = _; rw [back_list, sm_snoc hkl, HT.out, HC.out], hbW.alloc hbW.size _⟩
     case measure => simp [intOf]; omega
  ·have HE : Hid (t.data.toList = s.data.toList.map sm) := by
    have := HT.out
    rw [List.take_of_length_le (by omega)] at this
    exact this
   clear htk
   go_wp2
   go_ret
   exact ⟨⟨t, rfl, HE.out⟩, hbW⟩
end Go.Proofs.YtogigccbnohjjaaGreatDoor
namespace Go.Proofs.YtogigccbnohjjaaGreatDoor
open Go.RowKit Go.Proofs.Aid Go.Proofs.Fl
set_option maxHeartbeats 2000000
set_option maxRecDepth 100000
theorem kw_ref (c : UInt8) : kw c = true ↔ (97 ≤ c.toNat ∧ c.toNat ≤ 122) ∨ (65 ≤ c.toNat ∧ c.toNat ≤ 90) ∨ (48 ≤ c.toNat ∧ c.toNat ≤ 57) ∨ c.toNat = 95 ∨ c.toNat = 36 := by
 rw [kw_of]
 have hc := c.toNat_lt
 by_cases h : 65 ≤ c.toNat ∧ c.toNat ≤ 90
 ·have : (sm c).toNat = c.toNat + 32 := by
   unfold sm; rw [if_pos h, UInt8.toNat_add]
   show (c.toNat + 32) % 256 = _
   omega
  rw [this]; omega
 ·rw [sm_small c (by omega)]; omega
theorem sysB_size (k : Nat) (h : k < 5) : (sysB k).size ≤ 20 := by
 have : k = 0 ∨ k = 1 ∨ k = 2 ∨ k = 3 ∨ k = 4 := by omega
 rcases this with rfl | rfl | rfl | rfl | rfl <;> decide
theorem ref_name (s : ByteArray) (w : World) (hs : s.size ≤ 1000000) : Calls Tryz.prog 90 #[.string s] w fun e w' => (∃ n : ByteArray, e = .returned (.tuple #[.string n, .int .i64 (fname s.data.toList).2]) ∧ n.data.toList = (fname s.data.toList).1) ∧ Below w.heap.size w w' := by
 have hla : s.data.toList.length = s.size := by show s.data.toList.length = s.data.size; simp
 have cF := ref_five
 obtain ⟨R, hR⟩ : ∃ R, fname s.data.toList = R := ⟨_, rfl⟩
 rw [hR]
 have HR : Hid (fname s.data.toList = R) := hR
 clear hR
 by_cases h92 : s.data.toList.head? = some 92
 ·have h0 : 0 < s.size := by
   rw [← hla]
   cases hl : s.data.toList with
   | nil => rw [hl] at h92; simp at h92
   | cons => simp
  have hb0 : s[0] = 92 := by
   have h1 : s.data.toList[0]'(by omega) = 92 := by
    rw [List.head?_eq_getElem?, List.getElem?_eq_getElem (by omega)] at h92
    exact Option.some.inj h92
   exact h1
  have hi0 : (s[0].toNat : Int) = 92 := by rw [hb0]; rfl
  have h0' : decide ((0 : Int) < (s.size : Int)) = true := by simp; omega
  have hbe : ((s[0].toNat : Int) == 92) = true := by rw [hi0]; rfl
  have H92 : Hid (s.data.toList.head? = some 92) := h92
  clear h92 hb0 hi0
  go_enter Tryz.func90, Tryz.ntmps90
  go_wp2
  go_loopw [15] (fun i wr => ∃ k : Nat, i = .int .i64 (k : Int) ∧ k ≤ 5 ∧ Hid (none_of s.data.toList k) ∧ Below w.heap.size w wr) (fun i _ => 5 - (intOf i).toNat)
  case atStart => exact ⟨0, rfl, by omega, fun j hj => absurd hj (by omega), Below.refl _ _⟩
  case round =>
   obtain ⟨k, rfl, hk, HN, hbW⟩ := hrel
   by_cases hlt : k < 5
   ·have hlt' : (k : Int) < 5 := by omega
    have cA := cF k hlt wr
    have cB := ref_small (sysB k) wr (by have := sysB_size k hlt; omega)
    rw [sysB_data] at cB
    clear cF
    go_wp2_with fail
    refine cA.mono ?_
    rintro e w1 ⟨rfl, hw⟩
    obtain rfl : wr = w1 := hw.symm
    go_wp2_with fail
    refine cB.mono ?_
    rintro e w2 ⟨⟨t, rfl, ht⟩, hb2⟩
    have hbW2 : Below w.heap.size w w2 := hbW.trans (hb2.mono hbW.size)
    have cC := ref_small s w2 hs
    go_wp2_with fail
    refine cC.mono ?_
    rintro e w3 ⟨⟨u, rfl, hu⟩, hb3⟩
    have hbW3 : Below w.heap.size w w3 := hbW2.trans (hb3.mono hbW2.size)
    obtain ⟨B, hB⟩ : ∃ B, (t.toList == u.toList) = B := ⟨_, rfl⟩
    have HB : Hid (sameL s.data.toList (five.getD k []) = B) := by
     show _ = B
     rw [← hB, Lib.toList_data, Lib.toList_data, ht, hu]
     unfold sameL
     rw [Bool.eq_iff_iff, decide_eq_true_eq, beq_iff_eq]
     exact eq_comm
    have cD := ref_five k hlt w3
    clear ht hu cA cB cC
    cases B
    ·go_wp2_with fail
     go_roundw
     case rel => exact ⟨k + 1, by go_num, by omega, none_succ HN.out HB.out, hbW3⟩
     case measure => simp [intOf]; omega
    ·obtain rfl : t = u := by
      rw [Lib.toList_data, Lib.toList_data] at hB
      have h1 : t.data.toList = u.data.toList := by simpa using hB
      obtain ⟨⟨tl⟩⟩ := t
      obtain ⟨⟨ul⟩⟩ := u
      have : tl = ul := h1
      rw [this]
     clear hB
     go_wp2_with fail
     refine cD.mono ?_
     rintro e w4 ⟨rfl, hw⟩
     obtain rfl : w3 = w4 := hw.symm
     go_wp2_with fail
     go_ret2
     have hf : R = (five.getD k [], 0) := by
      rw [← HR.out]
      unfold fname
      rw [if_pos H92.out, find_hit hlt HN.out HB.out]
     rw [hf]
     exact ⟨⟨sysB k, rfl, sysB_data k⟩, hbW3⟩
   ·obtain rfl : k = 5 := by omega
    clear cF
    go_wp2
    go_ret2
    have hf : R = ([], 3) := by
     rw [← HR.out]
     unfold fname
     rw [if_pos H92.out, find_miss HN.out]
    rw [hf]
    exact ⟨⟨⟨#[]⟩, rfl, rfl⟩, hbW⟩
 ·-- the second loop, from whichever way it is come to
  have hfn : R = if s.data.toList = [] ∨ s.data.toList.all kw = false then ([], 3) else if 20 < s.data.toList.length then ([], 4) else (s.data.toList, 0) := by
   rw [← HR.out]; unfold fname; rw [if_neg h92]
  have HF : Hid (R = if s.data.toList = [] ∨ s.data.toList.all kw = false then ([], 3) else if 20 < s.data.toList.length then ([], 4) else (s.data.toList, 0)) := hfn
  have hfirst : (s.size = 0) ∨ (0 < s.size ∧ ∃ h : 0 < s.size, ((s[0].toNat : Int) == 92) = false) := by
   rcases Nat.eq_zero_or_pos s.size with h | h
   ·exact Or.inl h
   ·refine Or.inr ⟨h, h, ?_⟩
    rw [beq_eq_false_iff_ne]
    intro h1
    apply h92
    rw [List.head?_eq_getElem?, List.getElem?_eq_getElem (by omega)]
    have h2 : s[0].toNat = 92 := by omega
    have : s[0] = 92 := UInt8.toNat_inj.1 h2
    exact congrArg some this
  clear hfn h92 cF HR
  rcases hfirst with hz | ⟨hz, hz2, hz3⟩
  ·have h0' : decide ((0 : Int) < (s.size : Int)) = false := decide_eq_false (by omega)
   have hE : s.toList.isEmpty = true := by
    rw [Lib.toList_data, List.isEmpty_iff]; exact List.eq_nil_of_length_eq_zero (by omega)
   have hR3 : R = ([], 3) := by
    rw [HF.out, if_pos (Or.inl (List.eq_nil_of_length_eq_zero (by omega)))]
   rw [hR3]
   have hz' : (s.size : Int) = 0 := by omega
   clear hz HF hR3
   go_enter Tryz.func90, Tryz.ntmps90
   go_wp2
   go_loop [29] (fun i => i = .int .i64 0) (fun _ => 0)
   case atStart => rfl
   case round =>
    subst hrel
    go_wp2
    go_ret2
    exact ⟨⟨⟨#[]⟩, rfl, rfl⟩, Below.refl _ _⟩
  ·have h0' : decide ((0 : Int) < (s.size : Int)) = true := decide_eq_true (by omega)
   have hE : s.toList.isEmpty = false := by
    rw [Lib.toList_data]
    cases hl : s.data.toList with
    | nil =>
     have h1 : s.data.toList.length = 0 := by rw [hl]; rfl
     omega
    | cons => rfl
   have hne : s.data.toList ≠ [] := fun h => by
    have h1 : s.data.toList.length = 0 := by rw [h]; rfl
    omega
   have HNE : Hid (s.data.toList ≠ []) := hne
   clear hne
   go_enter Tryz.func90, Tryz.ntmps90
   go_wp2
   go_loop [29] (fun i => ∃ k : Nat, i = .int .i64 (k : Int) ∧ k ≤ s.size ∧ Hid ((s.data.toList.take k).all kw = true)) (fun i => s.size - (intOf i).toNat)
   case atStart => exact ⟨0, rfl, Nat.zero_le _, rfl⟩
   case round =>
    obtain ⟨k, rfl, hk, HL⟩ := hrel
    by_cases hlt : k < s.size
    ·have hkl : k < s.data.toList.length := by omega
     have hkw := kw_ref s[k]
     have h256 : s[k].toNat < 256 := s[k].toNat_lt
     obtain ⟨c, hc⟩ : ∃ c, s[k].toNat = c := ⟨_, rfl⟩
     rw [hc] at hkw h256
     by_cases hq : kw s[k] = true
     ·have HN : Hid ((s.data.toList.take (k + 1)).all kw = true) := kw_snoc hkl HL.out hq
      have hways := hkw.1 hq
      clear hkw hq
      have fin : True := trivial
      rcases hways with ⟨h1, h2⟩ | ⟨h1, h2⟩ | ⟨h1, h2⟩ | h1 | h1
      ·have g1 : decide ((97 : Int) ≤ (c : Int)) = true := by simp; omega
       have g2 : decide ((c : Int) ≤ 122) = true := by simp; omega
       go_wp2
       go_round
       case rel => exact ⟨k + 1, by go_num, by omega, HN.out⟩
       case measure => simp [intOf]; omega
      ·have g1 : decide ((97 : Int) ≤ (c : Int)) = false := by simp; omega
       have g3 : decide ((65 : Int) ≤ (c : Int)) = true := by simp; omega
       have g4 : decide ((c : Int) ≤ 90) = true := by simp; omega
       go_wp2
       go_round
       case rel => exact ⟨k + 1, by go_num, by omega, HN.out⟩
       case measure => simp [intOf]; omega
      ·have g1 : decide ((97 : Int) ≤ (c : Int)) = false := by simp; omega
       have g3 : decide ((65 : Int) ≤ (c : Int)) = false := by simp; omega
       have g5 : decide ((48 : Int) ≤ (c : Int)) = true := by simp; omega
       have g6 : decide ((c : Int) ≤ 57) = true := by simp; omega
       go_wp2
       go_round
       case rel => exact ⟨k + 1, by go_num, by omega, HN.out⟩
       case measure => simp [intOf]; omega
      ·have g1 : decide ((97 : Int) ≤ (c : Int)) = false := by simp; omega
       have g3 : decide ((65 : Int) ≤ (c : Int)) = true := by simp; omega
       have g4 : decide ((c : Int) ≤ 90) = false := by simp; omega
       have g5 : decide ((48 : Int) ≤ (c : Int)) = true := by simp; omega
       have g6 : decide ((c : Int) ≤ 57) = false := by simp; omega
       have g7 : ((c : Int) == 95) = true := by simp; omega
       clear h1
       go_wp2
       go_round
       case rel => exact ⟨k + 1, by go_num, by omega, HN.out⟩
       case measure => simp [intOf]; omega
      ·have g1 : decide ((97 : Int) ≤ (c : Int)) = false := by simp; omega
       have g3 : decide ((65 : Int) ≤ (c : Int)) = false := by simp; omega
       have g5 : decide ((48 : Int) ≤ (c : Int)) = false := by simp; omega
       have g7 : ((c : Int) == 95) = false := by simp; omega
       have g8 : ((c : Int) == 36) = true := by simp; omega
       clear h1
       go_wp2
       go_round
       case rel => exact ⟨k + 1, by go_num, by omega, HN.out⟩
       case measure => simp [intOf]; omega
     ·have hn : ¬ ((97 ≤ c ∧ c ≤ 122) ∨ (65 ≤ c ∧ c ≤ 90) ∨ (48 ≤ c ∧ c ≤ 57) ∨ c = 95 ∨ c = 36) := fun h => hq (hkw.2 h)
      have hR3 : R = ([], 3) := by rw [HF.out, if_pos (Or.inr (all_miss hkl hq))]
      have HR3 : Hid (R = ([], 3)) := hR3
      have g7 : ((c : Int) == 95) = false := by simp; omega
      have g8 : ((c : Int) == 36) = false := by simp; omega
      clear hkw hq hR3
      have hways : 122 < c ∨ (90 < c ∧ c < 97) ∨ (57 < c ∧ c < 65) ∨ c < 48 := by omega
      clear hn
      rcases hways with h1 | ⟨h1, h2⟩ | ⟨h1, h2⟩ | h1
      ·have g1 : decide ((97 : Int) ≤ (c : Int)) = true := by simp; omega
       have g2 : decide ((c : Int) ≤ 122) = false := by simp; omega
       have g3 : decide ((65 : Int) ≤ (c : Int)) = true := by simp; omega
       have g4 : decide ((c : Int) ≤ 90) = false := by simp; omega
       have g5 : decide ((48 : Int) ≤ (c : Int)) = true := by simp; omega
       have g6 : decide ((c : Int) ≤ 57) = false := by simp; omega
       go_wp2
       go_ret2
       exact ⟨⟨⟨#[]⟩, by rw [HR3.out]; rfl, by rw [HR3.out]⟩, Below.refl _ _⟩
      ·have g1 : decide ((97 : Int) ≤ (c : Int)) = false := by simp; omega
       have g3 : decide ((65 : Int) ≤ (c : Int)) = true := by simp; omega
       have g4 : decide ((c : Int) ≤ 90) = false := by simp; omega
       have g5 : decide ((48 : Int) ≤ (c : Int)) = true := by simp; omega
       have g6 : decide ((c : Int) ≤ 57) = false := by simp; omega
       go_wp2
       go_ret2
       exact ⟨⟨⟨#[]⟩, by rw [HR3.out]; rfl, by rw [HR3.out]⟩, Below.refl _ _⟩
      ·have g1 : decide ((97 : Int) ≤ (c : Int)) = false := by simp; omega
       have g3 : decide ((65 : Int) ≤ (c : Int)) = false := by simp; omega
       have g5 : decide ((48 : Int) ≤ (c : Int)) = true := by simp; omega
       have g6 : decide ((c : Int) ≤ 57) = false := by simp; omega
       go_wp2
       go_ret2
       exact ⟨⟨⟨#[]⟩, by rw [HR3.out]; rfl, by rw [HR3.out]⟩, Below.refl _ _⟩
      ·have g1 : decide ((97 : Int) ≤ (c : Int)) = false := by simp; omega
       have g3 : decide ((65 : Int) ≤ (c : Int)) = false := by simp; omega
       have g5 : decide ((48 : Int) ≤ (c : Int)) = false := by simp; omega
       go_wp2
       go_ret2
       exact ⟨⟨⟨#[]⟩, by rw [HR3.out]; rfl, by rw [HR3.out]⟩, Below.refl _ _⟩
    ·have hall : s.data.toList.all kw = true := by
      have := HL.out
      rw [List.take_of_length_le (by omega)] at this
      exact this
     have hRR : R = if 20 < s.data.toList.length then ([], 4) else (s.data.toList, 0) := by
      rw [HF.out, if_neg]
      rintro (h | h)
      ·exact HNE.out h
      ·rw [hall] at h; cases h
     have HRR : Hid (R = if 20 < s.data.toList.length then ([], 4) else (s.data.toList, 0)) := hRR
     clear hall hRR
     by_cases h20 : 20 < s.size
     ·have h20' : (20 : Int) < (s.size : Int) := by omega
      go_wp2
      go_ret2
      exact ⟨⟨⟨#[]⟩, by rw [HRR.out, if_pos (by omega)]; rfl, by rw [HRR.out, if_pos (by omega)]⟩, Below.refl _ _⟩
     ·have h20' : ¬ (20 : Int) < (s.size : Int) := by omega
      go_wp2
      go_ret2
      exact ⟨⟨s, by rw [HRR.out, if_neg (by omega)]; rfl, by rw [HRR.out, if_neg (by omega)]⟩, Below.refl _ _⟩
end Go.Proofs.YtogigccbnohjjaaGreatDoor
