/-
  The statements' texts: are texts short enough to be held?
  What the closure of seq.Print does: it writes a number behind what is there.
-/
import Derived.Test.YtligkpcoajnjmaaGreatDoorRNu36
import Derived.Test.YtligkpcoajnjmaaGreatDoorRNu03
import Derived.Test.YtligkpcoajnjmaaGreatDoorRNu25
import Derived.Lib.BufferKept
import Derived.Lib.AppendIntMem
namespace Go.Proofs.YtligkpcoajnjmaaGreatDoorR
open Go.RowKit Go.Proofs.Aid Go.Proofs.Sq Go.Proofs.Hd

theorem texts_trow (fa : Option Addr) (fn fc : Nat) (l : List Sr.Tx) (w : World) (h : Trow w fa fn l) :
    Calls Tryz.prog 7 #[.slice fa fn fc] w fun e w' => e = .returned (.bool (decide (l.length ≤ 40) && l.all fun t => decide (t.length ≤ 100))) ∧ w' = w := by
  obtain ⟨rfl, ha⟩ := h
  obtain ⟨R, hR⟩ : ∃ R, (decide (l.length ≤ 40) && l.all fun t => decide (t.length ≤ 100)) = R := ⟨_, rfl⟩
  rw [hR]
  by_cases hl : l.length ≤ 40
  · rw [decide_eq_true hl, Bool.true_and] at hR
    have HR : Hid ((l.all fun t => decide (t.length ≤ 100)) = R) := hR
    obtain ⟨len, hn⟩ : ∃ n, l.length = n := ⟨_, rfl⟩
    rw [hn] at hl ⊢
    have hl' : ¬ (40 : Int) < (len : Int) := by omega
    have HN : Hid (l.length = len) := hn
    clear hR hn
    go_enter Tryz.func7, Tryz.ntmps7
    go_wp2
    go_loop [3] (fun i => ∃ k : Nat, i = .int .i64 (k : Int) ∧ k ≤ len ∧ Hid (∀ t ∈ l.take k, t.length ≤ 100)) (fun i => len - (intOf i).toNat)
    case atStart => exact ⟨0, rfl, Nat.zero_le _, fun t ht => by simp at ht⟩
    case round =>
      obtain ⟨k, rfl, hk, HK⟩ := hrel
      have hnn := HN.out
      by_cases hlt : k < len
      · rcases ha with rfl | ⟨b, o, rfl, hat⟩
        · simp at hnn; omega
        have hkl : k < l.length := by omega
        have c1 := hat k _ (List.getElem?_eq_getElem hkl)
        obtain ⟨t, ht⟩ : ∃ t, l[k] = t := ⟨_, rfl⟩
        have HT : Hid (l[k] = t) := ht
        rw [ht] at c1
        obtain ⟨s, hse⟩ : ∃ s : ByteArray, ⟨t.toArray⟩ = s := ⟨_, rfl⟩
        have hst : t.length = s.size := by rw [← hse]; simp [ByteArray.size]
        have HST : Hid (t.length = s.size) := hst
        have c2 : w.cell? ⟨b, o + k, none⟩ = some (.string s) := by rw [← hse]; exact c1
        clear hat ht hse hst c1 hnn
        by_cases h100 : s.size ≤ 100
        · have h1 : ¬ (100 : Int) < (s.size : Int) := by omega
          go_wp2
          go_round
          case rel => exact ⟨k + 1, by go_num, by omega, fun t' ht' => by
            rw [List.take_succ_eq_append_getElem hkl, HT.out] at ht'
            rcases List.mem_append.1 ht' with h | h
            · exact HK.out t' h
            · rw [List.mem_singleton.1 h, HST.out]; exact h100⟩
          case measure => simp [intOf]; omega
        · have h1 : (100 : Int) < (s.size : Int) := by omega
          go_wp2
          go_ret
          refine ⟨?_, rfl⟩
          rw [← HR.out]
          have : (l.all fun t => decide (t.length ≤ 100)) = false := by
            rw [List.all_eq_false]
            exact ⟨t, by rw [← HT.out]; exact List.getElem_mem _, by rw [HST.out]; simpa using h100⟩
          rw [this]; rfl
      · clear ha
        go_wp2
        go_ret
        refine ⟨?_, rfl⟩
        rw [← HR.out]
        have : (l.all fun t => decide (t.length ≤ 100)) = true := by
          rw [List.all_eq_true]
          intro t ht
          have := HK.out t (by rw [List.take_of_length_le (by omega)]; exact ht)
          simpa using this
        rw [this]; rfl
  · rw [decide_eq_false hl, Bool.false_and] at hR
    subst hR
    have hl' : (40 : Int) < (l.length : Int) := by omega
    go_enter Tryz.func7, Tryz.ntmps7
    go_wp2
    go_ret
    exact ⟨rfl, rfl⟩
end Go.Proofs.YtligkpcoajnjmaaGreatDoorR
namespace Go.Proofs.YtligkpcoajnjmaaGreatDoorR
open Go.RowKit Go.Proofs.Aid Go.Proofs.Sq

theorem Tryz.infoByte : (Tryz.prog.info? 5).map (fun i => (i.zero, i.size, i.bytes)) = some (some (.int .u8 0), 1, 1) := by kernel_rfl
/-- What is written lies in a variable. -/
structure Buf (B bo : Nat) (xs : List UInt8) (w : World) : Prop where
  lo : B ≤ bo
  o : ∃ vo, w.heap[bo]? = some (.cells #[vo] 106 (0, 0)) ∧ w.ownsRow B 5 1 vo xs.length (Lib.byteCells xs)
theorem one_cell {w : World} {b t : Nat} {v : Value} (h : w.heap[b]? = some (.cells #[v] t (0, 0))) : w.cell? ⟨b, 0, none⟩ = some v := by simp [World.cell?, h]
theorem one_free {w : World} {b t : Nat} {v : Value} (h : w.heap[b]? = some (.cells #[v] t (0, 0))) : w.frozen? ⟨b, 0, none⟩ = false := by simp [World.frozen?, h]
theorem one_set {w : World} {b t : Nat} {v v' : Value} (h : w.heap[b]? = some (.cells #[v] t (0, 0))) : (w.setCell ⟨b, 0, none⟩ v').heap[b]? = some (.cells #[v'] t (0, 0)) := by
  obtain ⟨hlt, hk⟩ := Array.getElem?_eq_some_iff.1 h
  show (w.heap.modify b _)[b]? = _
  rw [Array.getElem?_eq_getElem (by rw [Array.size_modify]; exact hlt), Array.getElem_modify_self, hk]
  rfl
theorem grown_set (w : World) (b : Nat) (v : Value) : w.grownBy (w.setCell ⟨b, 0, none⟩ v) (some b) :=
  ⟨rfl, rfl, rfl, by simp [World.setCell], fun k _ hk => Below.heap_setCell _ _ _ k (fun e => hk (by rw [e]))⟩
theorem row_not {w : World} {b t e size base n : Nat} {u v : Value} {xs : List Value} (h : w.heap[b]? = some (.cells #[u] t (0, 0))) (hte : t ≠ e) (hr : w.ownsRow base e size v n xs) : some b ≠ v.ownBlock := by
  rcases hr.2 with ⟨rfl, _⟩ | ⟨g, cap, cur, rfl, _, hgb, _⟩
  · simp [Value.ownBlock]
  · intro e'
    obtain rfl : b = g := by simpa [Value.ownBlock] using e'
    have := h.symm.trans hgb
    simp at this
    exact hte this.2
/-- Behind an append, its store. -/
theorem buf_store {B bo : Nat} {w w1 : World} {vo v' : Value} {xs : List UInt8} (hk : Kept 5 B w w1) (ho : w.heap[bo]? = some (.cells #[vo] 106 (0, 0))) (lo : B ≤ bo)
    (hown : w1.ownsRow B 5 1 v' xs.length (Lib.byteCells xs)) :
    Buf B bo xs (w1.setCell ⟨bo, 0, none⟩ v') ∧ Below B w (w1.setCell ⟨bo, 0, none⟩ v') ∧ Lib.OthersKept 5 (some bo) w (w1.setCell ⟨bo, 0, none⟩ v') := by
  have ho1 := hk.one ho (by decide)
  refine ⟨⟨lo, v', one_set ho1, hown.kept (grown_set w1 bo v') (.inr (row_not ho1 (by decide) hown).symm)⟩, hk.below.setCell (p := ⟨bo, 0, none⟩) lo v', ?_⟩
  exact Lib.OthersKept.setCell (b := bo) (fun k o h1 _ h3 => hk.others k o h1 (by simp) h3) ⟨bo, 0, none⟩ rfl v'
theorem star_zero : star 0 = [42] := rfl

set_option maxHeartbeats 1000000 in
set_option maxRecDepth 100000 in
theorem write_any (B bo : Nat) (n : Int) (xs : List UInt8) (w : World) (h : Buf B bo xs w) (h0 : 0 ≤ n) (h1 : n ≤ 2147483647) (hB : B ≤ w.heap.size) (hl : xs.length ≤ 10000) (htab : Lib.TabBelow Tryz.prog B w "internal/strconv.uint64pow10" .u64 Lib.pow10Tab) :
    Calls Tryz.prog 47 #[.int .i64 n, .pointer (some ⟨bo, 0, none⟩)] w fun e w' => e = .returned (.tuple #[]) ∧ Buf B bo (xs ++ star n) w' ∧ Below B w w' ∧ Lib.OthersKept 5 (some bo) w w' := by
  obtain ⟨lo, vo, ho, hown⟩ := h
  have cO := one_cell ho
  have fO := one_free ho
  by_cases hz : n = 0
  · subst hz
    go_enter Tryz.func47, Tryz.ntmps47
    go_wp2_with (at_builtin; refine wpList_push rfl (.tmp 5) (.tmp 6) 106 rfl _ B 5 (.int .u8 0) 1 Tryz.underlying106 Tryz.infoByte rfl _ _ _ (by rfl) hown [.int .u8 42] _ (by rfl) (by simp) (by simp [Value.oneCell']) (by simp) (by rfl) (by decide) (by simp; omega) hB ?_; intro g1 cap1 w1 hown1 hg1 hlt1; have hk1 := (Kept.refl _ _ _).grown hown hg1 (Nat.le_refl _) hB; have ho1 := hk1.one ho (by decide); have cO1 := one_cell ho1; have fO1 := one_free ho1; clear cO fO)
    have hb := buf_store hk1 ho lo (xs := xs ++ star 0) (v' := .slice (some ⟨g1, 0, none⟩) (xs.length + 1) cap1) (by rw [star_zero]; simpa [Lib.byteCells] using hown1)
    refine bodyPost_ret (results_none rfl _ _ _) rfl ?_
    exact ⟨rfl, hb⟩
  · have hst : star n = Lib.itoa n := if_neg hz
    have cA := Tryz.strconv_AppendInt_10 B xs.length n (by omega) (by omega) vo (Lib.byteCells xs) w hown hB (by omega) htab
    obtain ⟨va, vc, rfl⟩ := row_form hown
    go_enter Tryz.func47, Tryz.ntmps47
    go_wp2_with fail
    refine cA.mono ?_
    rintro e w1 ⟨v', rfl, hown1, hb1, hok1⟩
    have hk1 : Kept 5 B w w1 := ⟨hb1, hok1⟩
    have ho1 := hk1.one ho (by decide)
    have hown2 : w1.ownsRow B 5 1 v' (xs ++ star n).length (Lib.byteCells (xs ++ star n)) := by rw [hst]; simpa [Lib.byteCells] using hown1
    obtain ⟨va', vc', rfl⟩ := row_form hown1
    have cO1 := one_cell ho1
    have fO1 := one_free ho1
    have hb := buf_store hk1 ho lo hown2
    go_wp2
    go_end0
    exact ⟨rfl, hb⟩
end Go.Proofs.YtligkpcoajnjmaaGreatDoorR
