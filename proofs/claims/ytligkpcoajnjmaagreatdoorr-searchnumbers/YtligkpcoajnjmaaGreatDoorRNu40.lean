/-
  What seq.Right does.
  What seq.Print does.
-/
import Derived.Test.YtligkpcoajnjmaaGreatDoorRNu03
import Derived.Test.YtligkpcoajnjmaaGreatDoorRNu39
namespace Go.Proofs.YtligkpcoajnjmaaGreatDoorR
open Go.RowKit Go.Proofs.Aid Go.Proofs.Sq

def okR (r : Int × Int) : Bool := decide (0 ≤ r.1 ∧ r.1 ≤ 2147483647) && decide (0 ≤ r.2 ∧ r.2 ≤ 2147483647)
theorem may_any (n : Int) (w : World) : Calls Tryz.prog 107 #[.int .i64 n] w fun e w' => e = .returned (.bool (decide (0 ≤ n ∧ n ≤ 2147483647))) ∧ w' = w := by
  by_cases h0 : 0 ≤ n
  · by_cases h1 : n ≤ 2147483647
    · rw [decide_eq_true ⟨h0, h1⟩]
      go_enter Tryz.func107, Tryz.ntmps107
      go_wp2
      go_ret
      exact ⟨by simp, rfl⟩
    · rw [decide_eq_false (by omega)]
      go_enter Tryz.func107, Tryz.ntmps107
      go_wp2
      go_ret
      exact ⟨by simp, rfl⟩
  · rw [decide_eq_false (by omega)]
    go_enter Tryz.func107, Tryz.ntmps107
    go_wp2
    go_ret
    exact ⟨rfl, rfl⟩
set_option maxHeartbeats 1000000 in
set_option maxRecDepth 100000 in
theorem right_any (v : Value) (l : List (Int × Int)) (w : World) (h : Rg w v l) :
    Calls Tryz.prog 46 #[v] w fun e w' => e = .returned (.bool (rightR l)) ∧ Below w.heap.size w w' := by
  obtain ⟨a, c, rfl, ha⟩ := h
  by_cases h1 : l.length < 1
  · have hr : rightR l = false := by simp [rightR]; intro h2; omega
    rw [hr]
    go_enter Tryz.func46, Tryz.ntmps46
    go_wp2
    go_ret
    exact ⟨rfl, Below.refl _ _⟩
  by_cases h2 : 20 < l.length
  · have hr : rightR l = false := by simp [rightR]; intro h2; omega
    rw [hr]
    go_enter Tryz.func46, Tryz.ntmps46
    go_wp2
    go_ret
    exact ⟨rfl, Below.refl _ _⟩
  rcases ha with rfl | ⟨b, o, rfl, hat⟩
  · simp at h1
  have hr : rightR l = l.all okR := by
    unfold rightR
    rw [decide_eq_true (by omega), Bool.true_and]; rfl
  rw [hr]
  obtain ⟨ANS, hANS⟩ : ∃ ANS, l.all okR = ANS := ⟨_, rfl⟩
  rw [hANS]
  obtain ⟨n, hn⟩ : ∃ n, l.length = n := ⟨_, rfl⟩
  rw [hn] at h1 h2 ⊢
  have hbig : n ≤ 9223372036854775807 := by omega
  go_enter Tryz.func46, Tryz.ntmps46
  go_wp2
  go_loopw [16] (fun i wr => ∃ k : Nat, i = .int .i64 (k : Int) ∧ k ≤ n ∧ (l.drop k).all okR = ANS ∧ Below w.heap.size w wr) (fun i _ => n - (intOf i).toNat)
  case atStart => exact ⟨0, rfl, by omega, by simpa using hANS, Below.refl _ _⟩
  case round =>
    obtain ⟨k, rfl, hk, hd, hb⟩ := hrel
    by_cases hlt : k < n
    · have hlk : l[k]? = some l[k] := List.getElem?_eq_getElem _
      obtain ⟨c1, c2⟩ := (hat.below hb (Nat.le_refl _)) k _ hlk
      rw [List.drop_eq_getElem_cons (by omega), List.all_cons] at hd
      obtain ⟨⟨x, y⟩, hxy⟩ : ∃ p, l[k]'(by omega) = p := ⟨_, rfl⟩
      rw [hxy] at c1 c2 hd
      simp only at c1 c2
      have m1 := may_any x
      have m2 := may_any y
      rw [show okR (x, y) = (decide (0 ≤ x ∧ x ≤ 2147483647) && decide (0 ≤ y ∧ y ≤ 2147483647)) from rfl] at hd
      generalize decide (0 ≤ x ∧ x ≤ 2147483647) = bx at m1 hd
      generalize decide (0 ≤ y ∧ y ≤ 2147483647) = b_y at m2 hd
      clear hANS hr hlk hxy hat
      cases bx
      · have HD : Hid (false = ANS) := by show false = ANS; simpa using hd
        clear hd
        go_wp2_with fail
        refine (m1 _).mono ?_
        rintro e w1 ⟨rfl, rfl⟩
        go_wp2
        go_ret
        exact ⟨congrArg (fun b => Ending.returned (Value.bool b)) HD, hb.alloc hb.size _⟩
      · cases b_y
        · have HD : Hid (false = ANS) := by show false = ANS; simpa using hd
          clear hd
          go_wp2_with fail
          refine (m1 _).mono ?_
          rintro e w1 ⟨rfl, rfl⟩
          go_wp2_with fail
          refine (m2 _).mono ?_
          rintro e w1 ⟨rfl, rfl⟩
          go_wp2
          go_ret
          exact ⟨congrArg (fun b => Ending.returned (Value.bool b)) HD, hb.alloc hb.size _⟩
        · have HD : Hid ((l.drop (k + 1)).all okR = ANS) := by show _ = ANS; simpa using hd
          clear hd
          go_wp2_with fail
          refine (m1 _).mono ?_
          rintro e w1 ⟨rfl, rfl⟩
          go_wp2_with fail
          refine (m2 _).mono ?_
          rintro e w1 ⟨rfl, rfl⟩
          go_wp2
          go_roundw
          case rel => exact ⟨k + 1, by go_num, by omega, HD, hb.alloc hb.size _⟩
          case measure => simp [intOf]; omega
    · have HD : Hid (true = ANS) := by
        show true = ANS
        rw [List.drop_eq_nil_of_le (by omega)] at hd
        simpa using hd
      clear hd hANS hat hr
      go_wp2
      go_ret
      exact ⟨congrArg (fun b => Ending.returned (Value.bool b)) HD, hb⟩
end Go.Proofs.YtligkpcoajnjmaaGreatDoorR
namespace Go.Proofs.YtligkpcoajnjmaaGreatDoorR
open Go.RowKit Go.Proofs.Aid Go.Proofs.Sq

theorem print_no (v : Value) (l : List (Int × Int)) (w : World) (h : Rg w v l) (hr : rightR l = false) :
    Calls Tryz.prog 14 #[v] w fun e w' => e = .returned (.tuple #[.string ⟨#[]⟩, .iface 53 (.int .i64 1)]) ∧ Below w.heap.size w w' := by
  have cR := right_any v l w h
  rw [hr] at cR
  obtain ⟨a, c, rfl, _⟩ := h
  go_enter Tryz.func14, Tryz.ntmps14
  go_wp2_with fail
  refine cR.mono ?_
  rintro e w1 ⟨rfl, hb⟩
  go_wp2
  go_ret2
  exact ⟨rfl, hb⟩
/-- 'string(out)' of a row that the call owns. -/
theorem conv_bytes {B : Nat} {v : Value} {xs : List UInt8} {w : World} (h : w.ownsRow B 5 1 v xs.length (Lib.byteCells xs)) :
    (convert 106 9 v).run Tryz.prog w = .ok (.string ⟨xs.toArray⟩) w := by
  have h0 := h
  rcases h.2 with ⟨rfl, hn⟩ | ⟨g, cap, cur, rfl, _⟩
  · obtain rfl : xs = [] := List.length_eq_zero_iff.1 hn
    rw [run_convert_bytes_string w 106 9 5 none 0 0 Tryz.underlying106 Tryz.underlying5 Tryz.underlying9]
    rfl
  · refine run_convert_bytes_back w 106 9 5 ⟨g, 0, none⟩ cap xs Tryz.underlying106 Tryz.underlying5 Tryz.underlying9 (fun j hj => ?_)
    rw [Addr.add_lit, Nat.zero_add, h0.cellAt j (by omega)]
    simp [Lib.byteCells, hj]
def RB (R : Nat) (x y : Int) (W : World) : Prop := W.heap[R]? = some (.cells #[.int .i64 x, .int .i64 y] 110 (0, 0))
theorem RB.kept {R bo : Nat} {x y : Int} {W W' : World} (h : RB R x y W) (k : Lib.OthersKept 5 (some bo) W W') (hne : R ≠ bo) : RB R x y W' :=
  k R _ h (by simpa using hne) (fun c fz e => by simp at e)
theorem RB.fst {R : Nat} {x y : Int} {W : World} (h : RB R x y W) : W.cell? ⟨R, 0, none⟩ = some (.int .i64 x) := by simp [World.cell?, show W.heap[R]? = _ from h]
theorem RB.snd {R : Nat} {x y : Int} {W : World} (h : RB R x y W) : W.cell? ⟨R, 1, none⟩ = some (.int .i64 y) := by simp [World.cell?, show W.heap[R]? = _ from h]
theorem RB.new (W : World) (x y : Int) : RB W.heap.size x y (W.alloc (.cells #[.int .i64 x, .int .i64 y] 110)) := heap_alloc_new W _
theorem wroteR_length {r : Int × Int} (h : (0 ≤ r.1 ∧ r.1 ≤ 2147483647) ∧ (0 ≤ r.2 ∧ r.2 ≤ 2147483647)) : (wroteR r).length ≤ 21 := by
  have h1 := star_length h.1.1 h.1.2
  have h2 := star_length h.2.1 h.2.2
  unfold wroteR
  split
  · simp; omega
  · simp; omega
/-- A step of what is written. -/
theorem wrote_step {l : List (Int × Int)} {k : Nat} {xs : List UInt8} (hk : k < l.length) (h : (k = 0 ∧ xs = []) ∨ (0 < k ∧ wroteFrom xs (l.drop k) = wrote l)) : wroteFrom ((if 0 < k then xs ++ [44] else xs) ++ wroteR l[k]) (l.drop (k + 1)) = wrote l := by
  rcases h with ⟨rfl, rfl⟩ | ⟨h0, h1⟩
  · cases l with
    | nil => simp at hk
    | cons r rs => simp [wrote]
  · rw [if_pos h0, ← h1, List.drop_eq_getElem_cons hk, wroteFrom]
    simp
theorem buf_alloc {B bo : Nat} {xs : List UInt8} {w : World} (h : Buf B bo xs w) (o : Obj) : Buf B bo xs (w.alloc o) := by
  obtain ⟨lo, vo, ho, hown⟩ := h
  exact ⟨lo, vo, (Below.heap_alloc w o bo (Array.getElem?_eq_some_iff.1 ho).1).trans ho, hown.alloc o⟩
set_option maxHeartbeats 2000000 in
set_option maxRecDepth 100000 in
theorem print_yes (v : Value) (l : List (Int × Int)) (w : World) (h : Rg w v l) (hr : rightR l = true) (htab : Lib.TabBelow Tryz.prog w.heap.size w "internal/strconv.uint64pow10" .u64 Lib.pow10Tab) :
    Calls Tryz.prog 14 #[v] w fun e w' => e = .returned (.tuple #[.string ⟨(wrote l).toArray⟩, .nilIface]) ∧ Below w.heap.size w w' := by
  have cR := right_any v l w h
  rw [hr] at cR
  obtain ⟨⟨hl1, hl2⟩, hall⟩ := (rightR_iff l).1 hr
  have hreg := h
  obtain ⟨a, c, rfl, ha⟩ := h
  rcases ha with rfl | ⟨b, o, rfl, hat⟩
  · simp at hl1
  obtain ⟨len, hn⟩ : ∃ n, l.length = n := ⟨_, rfl⟩
  rw [hn] at hl1 hl2 cR ⊢
  go_enter Tryz.func14, Tryz.ntmps14
  go_wp2_with fail
  refine cR.mono ?_
  rintro e w1 ⟨rfl, hb⟩
  go_wp2
  go_loopw [15] (fun i wr => ∃ (k : Nat) (xs : List UInt8), i = .int .i64 (k : Int) ∧ k ≤ len ∧ Buf w.heap.size w1.heap.size xs wr ∧ Below w.heap.size w wr ∧ xs.length ≤ 22 * k ∧ ((k = 0 ∧ xs = []) ∨ (0 < k ∧ wroteFrom xs (l.drop k) = wrote l))) (fun i _ => len - (intOf i).toNat)
  case atStart =>
    refine ⟨0, [], rfl, by omega, ⟨hb.size, .slice none 0 0, heap_alloc_new w1 _, World.ownsRow_nil _ _ _ _⟩, hb.alloc hb.size _, by simp, Or.inl ⟨rfl, rfl⟩⟩
  case round =>
    obtain ⟨k, xs, rfl, hk, hbuf, hbw, hxl, hcase⟩ := hrel
    by_cases hlt : k < len
    · have hlk : l[k]? = some l[k] := List.getElem?_eq_getElem _
      obtain ⟨c1, c2⟩ := (hat.below hbw (Nat.le_refl _)) k _ hlk
      have hstep := wrote_step (by omega) hcase
      have hok := hall (l[k]'(by omega)) (List.getElem_mem _)
      have hwl := wroteR_length hok
      obtain ⟨⟨x, y⟩, hxy⟩ : ∃ p, l[k]'(by omega) = p := ⟨_, rfl⟩
      rw [hxy] at c1 c2 hstep hok hwl
      simp only at c1 c2 hok
      clear hcase hxy hlk hat hall hreg cR
      have hH : w.heap.size ≤ wr.heap.size := hbw.size
      have hne : wr.heap.size ≠ w1.heap.size := by
        obtain ⟨_, vo, ho, _⟩ := hbuf
        have := (Array.getElem?_eq_some_iff.1 ho).1
        omega
      have hrb := RB.new wr x y
      have hbf := buf_alloc hbuf (.cells #[.int .i64 x, .int .i64 y] 110)
      have hb2 : Below w.heap.size w (wr.alloc (.cells #[.int .i64 x, .int .i64 y] 110)) := hbw.alloc hH _
      have hsz2 : w.heap.size ≤ (wr.alloc (.cells #[.int .i64 x, .int .i64 y] 110)).heap.size := hb2.size
      by_cases hk0 : 0 < k
      · rw [if_pos hk0] at hstep
        obtain ⟨lo, vo, ho, hown⟩ := hbf
        have cO := one_cell ho
        have fO := one_free ho
        go_wp2_with (at_builtin; go_must (refine wpList_push rfl (.tmp 22) (.tmp 23) 106 rfl _ w.heap.size 5 (.int .u8 0) 1 Tryz.underlying106 Tryz.infoByte rfl _ _ _ (by rfl) hown [.int .u8 44] _ (by rfl) (by simp) (by simp [Value.oneCell']) (by simp) (by rfl) (by decide) (by simp; omega) hsz2 ?_); intro g1 cap1 w2 hown1 hg1 hlt1; have hk1 := (Kept.refl _ _ _).grown hown hg1 (Nat.le_refl _) hsz2; have ho1 := hk1.one ho (by decide); have cO1 := one_cell ho1; have fO1 := one_free ho1; have hst := buf_store hk1 ho lo (xs := xs ++ [44]) (v' := .slice (some ⟨g1, 0, none⟩) (xs.length + 1) cap1) (by simpa [Lib.byteCells] using hown1); have hr1 := (hrb.kept hst.2.2 hne).fst; clear cO fO)
        have hbufV := hst.1
        have hrbV := hrb.kept hst.2.2 hne
        have hbV := hb2.trans hst.2.1
        refine (write_any w.heap.size w1.heap.size x (xs ++ [44]) _ hbufV hok.1.1 hok.1.2 hbV.size (by first | omega | (simp; omega)) (htab.on hbV)).mono ?_
        rintro e w3 ⟨rfl, hbuf3, hbl3, hot3⟩
        have hrb3 := hrbV.kept hot3 hne
        have d1 := hrb3.fst
        have d2 := hrb3.snd
        have hb3 := hbV.trans hbl3
        have hs3 := hb3.size
        have hlx := star_length hok.1.1 hok.1.2
        have hly := star_length hok.2.1 hok.2.2
        by_cases hyx : y = x
        · have hq : (y == x) = true := by simp [hyx]
          have HS : Hid (wroteFrom (xs ++ [44] ++ star x) (l.drop (k + 1)) = wrote l) := by show _ = _; rw [← hstep]; simp [wroteR, hyx]
          clear hstep
          go_wp2
          go_roundw
          case rel => exact ⟨k + 1, _, by go_num, by omega, hbuf3, hb3, by simp; omega, Or.inr ⟨by omega, HS⟩⟩
          case measure => simp [intOf]; omega
        · have hq : (y == x) = false := by simpa using hyx
          have HS : Hid (wroteFrom (xs ++ [44] ++ star x ++ [58] ++ star y) (l.drop (k + 1)) = wrote l) := by show _ = _; rw [← hstep]; simp [wroteR, hyx]
          clear hstep
          have hyl : (xs ++ [44] ++ star x).length ≤ 22 * k + 11 := by simp; omega
          generalize xs ++ [44] ++ star x = Y at HS hbuf3 hyl
          obtain ⟨lo3, vo3, ho3, hown3⟩ := hbuf3
          have cO3 := one_cell ho3
          have fO3 := one_free ho3
          go_wp2_with (at_builtin; go_must (refine wpList_push rfl (.tmp 34) (.tmp 35) 106 rfl _ w.heap.size 5 (.int .u8 0) 1 Tryz.underlying106 Tryz.infoByte rfl _ _ _ (by rfl) hown3 [.int .u8 58] _ (by rfl) (by simp) (by simp [Value.oneCell']) (by simp) (by rfl) (by decide) (by simp; omega) hs3 ?_); intro g4 cap4 w4 hown4 hg4 hlt4; have hk4 := (Kept.refl _ _ _).grown hown3 hg4 (Nat.le_refl _) hs3; have ho4 := hk4.one ho3 (by decide); have cO4 := one_cell ho4; have fO4 := one_free ho4; have hst4 := buf_store hk4 ho3 lo3 (xs := Y ++ [58]) (v' := .slice (some ⟨g4, 0, none⟩) (Y.length + 1) cap4) (by simpa [Lib.byteCells] using hown4); have hr4 := (hrb3.kept hst4.2.2 hne).snd; clear cO3 fO3)
          have hb4 := hb3.trans hst4.2.1
          refine (write_any w.heap.size w1.heap.size y (Y ++ [58]) _ hst4.1 hok.2.1 hok.2.2 hb4.size (by simp; omega) (htab.on hb4)).mono ?_
          rintro e w5 ⟨rfl, hbuf5, hbl5, hot5⟩
          go_wp2
          go_roundw
          case rel => exact ⟨k + 1, _, by go_num, by omega, hbuf5, hb4.trans hbl5, by simp; omega, Or.inr ⟨by omega, HS⟩⟩
          case measure => simp [intOf]; omega
      · rw [if_neg hk0] at hstep
        have hbufV := hbf
        have hrbV := hrb
        have hbV := hb2
        go_wp2_with fail
        refine (write_any w.heap.size w1.heap.size x (xs) _ hbufV hok.1.1 hok.1.2 hbV.size (by first | omega | (simp; omega)) (htab.on hbV)).mono ?_
        rintro e w3 ⟨rfl, hbuf3, hbl3, hot3⟩
        have hrb3 := hrbV.kept hot3 hne
        have d1 := hrb3.fst
        have d2 := hrb3.snd
        have hb3 := hbV.trans hbl3
        have hs3 := hb3.size
        have hlx := star_length hok.1.1 hok.1.2
        have hly := star_length hok.2.1 hok.2.2
        by_cases hyx : y = x
        · have hq : (y == x) = true := by simp [hyx]
          have HS : Hid (wroteFrom (xs ++ star x) (l.drop (k + 1)) = wrote l) := by show _ = _; rw [← hstep]; simp [wroteR, hyx]
          clear hstep
          go_wp2
          go_roundw
          case rel => exact ⟨k + 1, _, by go_num, by omega, hbuf3, hb3, by simp; omega, Or.inr ⟨by omega, HS⟩⟩
          case measure => simp [intOf]; omega
        · have hq : (y == x) = false := by simpa using hyx
          have HS : Hid (wroteFrom (xs ++ star x ++ [58] ++ star y) (l.drop (k + 1)) = wrote l) := by show _ = _; rw [← hstep]; simp [wroteR, hyx]
          clear hstep
          have hyl : (xs ++ star x).length ≤ 22 * k + 11 := by simp; omega
          generalize xs ++ star x = Y at HS hbuf3 hyl
          obtain ⟨lo3, vo3, ho3, hown3⟩ := hbuf3
          have cO3 := one_cell ho3
          have fO3 := one_free ho3
          go_wp2_with (at_builtin; go_must (refine wpList_push rfl (.tmp 34) (.tmp 35) 106 rfl _ w.heap.size 5 (.int .u8 0) 1 Tryz.underlying106 Tryz.infoByte rfl _ _ _ (by rfl) hown3 [.int .u8 58] _ (by rfl) (by simp) (by simp [Value.oneCell']) (by simp) (by rfl) (by decide) (by simp; omega) hs3 ?_); intro g4 cap4 w4 hown4 hg4 hlt4; have hk4 := (Kept.refl _ _ _).grown hown3 hg4 (Nat.le_refl _) hs3; have ho4 := hk4.one ho3 (by decide); have cO4 := one_cell ho4; have fO4 := one_free ho4; have hst4 := buf_store hk4 ho3 lo3 (xs := Y ++ [58]) (v' := .slice (some ⟨g4, 0, none⟩) (Y.length + 1) cap4) (by simpa [Lib.byteCells] using hown4); have hr4 := (hrb3.kept hst4.2.2 hne).snd; clear cO3 fO3)
          have hb4 := hb3.trans hst4.2.1
          refine (write_any w.heap.size w1.heap.size y (Y ++ [58]) _ hst4.1 hok.2.1 hok.2.2 hb4.size (by simp; omega) (htab.on hb4)).mono ?_
          rintro e w5 ⟨rfl, hbuf5, hbl5, hot5⟩
          go_wp2
          go_roundw
          case rel => exact ⟨k + 1, _, by go_num, by omega, hbuf5, hb4.trans hbl5, by simp; omega, Or.inr ⟨by omega, HS⟩⟩
          case measure => simp [intOf]; omega
    · have hke : k = len := by omega
      have hxs : xs = wrote l := by
        rcases hcase with ⟨h1, _⟩ | ⟨_, h2⟩
        · omega
        · rw [List.drop_eq_nil_of_le (by omega)] at h2
          exact h2
      subst hxs
      obtain ⟨lo, vo, ho, hown⟩ := hbuf
      have cO := one_cell ho
      have hcv := conv_bytes hown
      clear hcase hat hall hreg cR
      go_wp2
      go_ret2
      exact ⟨rfl, hbw⟩
end Go.Proofs.YtligkpcoajnjmaaGreatDoorR
