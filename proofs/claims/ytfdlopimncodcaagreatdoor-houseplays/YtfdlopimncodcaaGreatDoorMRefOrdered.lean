/-
  The document's answer on flags in order.
-/
import Derived.Test.YtfdlopimncodcaaGreatDoorBpRefMap
namespace Go.Proofs.YtfdlopimncodcaaGreatDoor
open Go.RowKit Go.Proofs.Aid Go.Proofs.Fl Go.Sort Go.Lib
open Go.Maps (Keyed string_keyed)
theorem lawS : Keyed Tryz.prog 9 := string_keyed Tryz.underlying9
theorem zeroI (w : World) : (zeroValue 3).run Tryz.prog w = .ok (.int .i64 0) w := by kernel_rfl
def bytesOrder (l : List Tx) : List Tx := l.mergeSort fun x y => decide (x ≤ y)
theorem bytesOrder_length (l : List Tx) : (bytesOrder l).length = l.length := by simp [bytesOrder, List.length_mergeSort]
theorem sort_bytes (base : Nat) (v : Value) (l : List Tx) (w : World) (h : Row w base v l) (hB : base ≤ w.heap.size) (hl : l.length ≤ 1000) :
    Calls Tryz.prog 118 #[v] w fun e w' => e = .returned (.tuple #[]) ∧ Row w' base v (bytesOrder l) ∧ Below base w w' := by
  by_cases hv : v = .slice none 0 0
  · subst hv
    obtain rfl := h.nil_of
    refine (Tryz.slices_Sort_string_none none 0 w).mono ?_
    rintro e w' ⟨rfl, rfl⟩
    exact ⟨rfl, by rw [show bytesOrder [] = [] by simp [bytesOrder]]; exact World.ownsRow_nil _ _ _ _, Below.refl _ _⟩
  · obtain ⟨g, cap, rfl, hgb2, hlt, hc, hm, _, hH⟩ := Lib.holds_of_ownsRow h hv
    refine (Tryz.slices_Sort_string g 0 cap l w hH hlt (by omega)).mono ?_
    rintro e w' ⟨rfl, n, os, rfl⟩
    have h1 := Lib.ownsRow_putRow (q := n) (ys := bytesOrder l) (k := l.length) h (bytesOrder_length l) (Nat.le_refl _)
    rw [List.take_of_length_le (by rw [bytesOrder_length]; exact Nat.le_refl _)] at h1
    refine ⟨rfl, ?_, below_grow3 (Lib.below_putRow (Below.refl _ _) hgb2) (by simp [putRow, mapBlock, Sort.ahead]; exact hB) os⟩
    unfold Row
    rw [bytesOrder_length]
    exact row_grow3 h1 os
theorem sort_strings (base : Nat) (v : Value) (l : List Tx) (w : World) (h : Row w base v l) (hB : base ≤ w.heap.size) (hl : l.length ≤ 1000) :
    Calls Tryz.prog 120 #[v] w fun e w' => e = .returned (.tuple #[]) ∧ Row w' base v (bytesOrder l) ∧ Below base w w' := by
  have cS := sort_bytes base v l w h hB hl
  clear h
  go_enter Tryz.func120, Tryz.ntmps120
  go_wp2_with fail
  refine cS.mono ?_
  rintro e w1 ⟨rfl, h1, hb1⟩
  go_wp2_with fail
  go_end0
  exact ⟨rfl, h1, hb1⟩
theorem five_snoc {i : Nat} (hi : i < 5) : five.take (i + 1) = five.take i ++ [five.getD i []] := by
  have : i = 0 ∨ i = 1 ∨ i = 2 ∨ i = 3 ∨ i = 4 := by omega
  rcases this with rfl | rfl | rfl | rfl | rfl <;> rfl
theorem five_new {i : Nat} (hi : i < 5) : five.getD i [] ∉ five.take i := by
  have : i = 0 ∨ i = 1 ∨ i = 2 ∨ i = 3 ∨ i = 4 := by omega
  rcases this with rfl | rfl | rfl | rfl | rfl <;> decide
theorem rest_yes {l : List Tx} {i : Nat} (hi : i < 5) : (l.filter fun t => decide (t ∉ five.take i)).filter (fun u => decide (u ≠ five.getD i [])) = l.filter fun t => decide (t ∉ five.take (i + 1)) := by
  rw [List.filter_filter, five_snoc hi]
  refine List.filter_congr fun x _ => ?_
  rw [Bool.eq_iff_iff]
  simp only [Bool.and_eq_true, decide_eq_true_eq, List.mem_append, List.mem_singleton, _root_.not_or]
  exact And.comm
theorem rest_no {l : List Tx} {i : Nat} (hi : i < 5) (h : five.getD i [] ∉ l) : (l.filter fun t => decide (t ∉ five.take i)) = l.filter fun t => decide (t ∉ five.take (i + 1)) := by
  rw [five_snoc hi]
  refine List.filter_congr fun x hx => ?_
  rw [Bool.eq_iff_iff]
  simp only [decide_eq_true_eq, List.mem_append, List.mem_singleton, _root_.not_or]
  exact ⟨fun h1 => ⟨h1, fun e => h (e ▸ hx)⟩, fun h1 => h1.1⟩
theorem out_yes {l : List Tx} {i : Nat} (hi : i < 5) (h : five.getD i [] ∈ l) : ((five.take (i + 1)).filter fun t => decide (t ∈ l)) = ((five.take i).filter fun t => decide (t ∈ l)) ++ [five.getD i []] := by
  rw [five_snoc hi, List.filter_append, List.filter_cons_of_pos (by simpa using h)]; rfl
theorem out_no {l : List Tx} {i : Nat} (hi : i < 5) (h : five.getD i [] ∉ l) : ((five.take (i + 1)).filter fun t => decide (t ∈ l)) = (five.take i).filter fun t => decide (t ∈ l) := by
  rw [five_snoc hi, List.filter_append, List.filter_cons_of_neg (by simpa using h)]; simp
set_option maxHeartbeats 4000000 in
set_option maxRecDepth 100000 in
theorem ref_ordered (v : Value) (l : List Tx) (w : World) (h : Sl w v l) (hl : l.length ≤ 400) (hs : ∀ t ∈ l, t.length ≤ 1000000) :
    Calls Tryz.prog 143 #[v] w fun e w' => (∃ v', e = .returned v' ∧ Sl w' v' (order l)) ∧ Below w.heap.size w w' := by
  have hk : ∀ W, Below w.heap.size w W → Sl W v l := fun W hb => h.below hb (Nat.le_refl _)
  obtain ⟨a, c, rfl, _, _⟩ := h
  obtain ⟨n, hn⟩ : ∃ n, l.length = n := ⟨_, rfl⟩
  rw [hn] at hl hk ⊢
  have HN : Hid (l.length = n) := hn
  have HS : Hid (∀ t ∈ l, t.length ≤ 1000000) := hs
  clear hn hs
  have hmm := @run_makeMap Tryz.prog
  go_enter Tryz.func143, Tryz.ntmps143
  go_wp2
  go_loopw [13] (fun i wr => ∃ (k : Nat) (D : DataW Unit), i = .int .i64 (k : Int) ∧ k ≤ n ∧ wr.ownsMap Tryz.prog 9 (plainElem Tryz.prog 3) w.heap.size k D ∧ Hid (Cnt D (l.take k) k) ∧ Below w.heap.size w wr) (fun i _ => n - (intOf i).toNat)
  case atStart => exact ⟨0, .map [], rfl, Nat.zero_le _, World.ownsMap_made _ _ _ _, cnt_start, (Below.refl _ _).alloc (Nat.le_refl _) _⟩
  case round =>
    obtain ⟨k, D, rfl, hkn, hown, HC, hbW⟩ := hrel
    by_cases hlt : k < n
    · obtain ⟨a', c', hv, _, hd⟩ := hk _ hbW
      rw [HN.out] at hv
      cases hv
      rcases hd with h0 | ⟨b, o, rfl, hat⟩
      · have := HN.out; rw [h0] at this; simp at this; omega
      have hkl : k < l.length := by rw [HN.out]; exact hlt
      have c1 := hat k _ (List.getElem?_eq_getElem hkl)
      obtain ⟨u, hu⟩ : ∃ u : ByteArray, ⟨l[k].toArray⟩ = u := ⟨_, rfl⟩
      have c2 : wr.cell? ⟨b, o + k, none⟩ = some (.string u) := by rw [← hu]; exact c1
      have HU : Hid (u.data.toList = l[k]) := by show u.data.toList = _; rw [← hu]
      have hus : u.size ≤ maxLen := by
        have h1 := HS.out _ (List.getElem_mem hkl)
        have h2 : u.size = l[k].length := by rw [← hu]; simp [ByteArray.size]
        unfold maxLen; omega
      have hkey : keyOf Tryz.prog 9 (.string u) = some (.string u.data.toList) := Go.WideMaps.keyOf_string_mk Tryz.underlying9 hus
      clear hat c1 hu hk hmm
      go_wp2_with (first
        | (at_lookup; refine wpList_lookup_own_int _ rfl _ _ 86 rfl 9 3 .i64 lawS Tryz.underlying86 Tryz.underlying3 (zeroI _) w.heap.size k _ rfl hown _ _ rfl hkey ?_; intro cc hatc hwc; have hcc : 0 ≤ cc ∧ cc ≤ k := by
            obtain ⟨c', e1, e2, e3, _⟩ := HC.out.2 u.data.toList
            rw [hatc] at e1; cases e1; exact ⟨e2, e3⟩)
        | (at_mapUpdate; refine wpList_mapUpdate_own _ rfl _ _ _ 86 rfl 9 3 lawS Tryz.underlying86 _ w.heap.size k _ rfl hown (by unfold maxLen; omega) _ _ _ rfl rfl hkey _ [] (plainElem_int Tryz.underlying3 (WalkArith.wf_i64 (by omega))) ?_; intro w1 hown1 hgrow1)
        | go_in)
      go_roundw
      case rel => exact ⟨k + 1, _, by go_num, by omega, hown1, by
        show Cnt _ _ _
        rw [List.take_succ_eq_append_getElem hkl, ← HU.out]
        exact cnt_put HC.out hatc, hbW.grown hgrow1 hbW.size (fun j hj => by cases hj; exact Nat.le_refl _)⟩
      case measure => simp [intOf]; omega
    · have HC2 : Hid (Cnt D l n) := by
        have := HC.out
        rw [List.take_of_length_le (by rw [HN.out]; omega)] at this
        obtain rfl : k = n := by omega
        exact this
      have hown0 : wr.ownsMap Tryz.prog 9 (plainElem Tryz.prog 3) w.heap.size n D := hown.mono hkn
      have hbl := hown.lt
      clear hown HC hk hmm
      go_wp2_with fail
      go_loopw [3, 22] (fun rv i wr => ∃ (k : Nat) (D : DataW Unit) (ns : List Tx), i = .int .i64 (k : Int) ∧ k ≤ 5 ∧ ns.length ≤ k ∧ wr.ownsMap Tryz.prog 9 (plainElem Tryz.prog 3) w.heap.size n D ∧ Hid (Cnt D (l.filter fun t => decide (t ∉ five.take k)) n ∧ ns = (five.take k).filter fun t => decide (t ∈ l)) ∧ wr.ownsRow (w.heap.size + 1) 9 1 rv ns.length (ns.map encStr) ∧ Below w.heap.size w wr) (fun _ i _ => 5 - (intOf i).toNat)
      case atStart => exact ⟨0, D, [], rfl, by omega, Nat.le_refl _, hown0, ⟨by
        have e : (l.filter fun t => decide (t ∉ five.take 0)) = l := by simp
        rw [e]; exact HC2.out, rfl⟩, World.ownsRow_nil _ _ _ _, hbW⟩
      case round =>
        obtain ⟨j, D2, ns, rfl, hj5, hnl, hmap, HD, hrow, hbV⟩ := hrel
        by_cases hj : j < 5
        · have cF := fun W => ref_five j hj W
          have hkey : keyOf Tryz.prog 9 (.string (sysB j)) = some (.string (five.getD j [])) := by
            have := Go.WideMaps.keyOf_string_mk (s := sysB j) Tryz.underlying9 (by have := sysB_size j hj; unfold maxLen; omega)
            rw [sysB_data] at this
            exact this
          have HE : Hid (encStr (five.getD j []) = .string (sysB j)) := rfl
          have hcnt : ∀ c : Int, D2.atKey (.string (five.getD j [])) (.lit (.int .i64 0)) = .lit (.int .i64 c) → (0 < c ↔ five.getD j [] ∈ l) := fun c hc => by
            obtain ⟨c', e1, _, _, e4, _⟩ := HD.out.1.2 (five.getD j [])
            rw [hc] at e1
            cases e1
            rw [e4, List.mem_filter]
            simp only [decide_eq_true_eq]
            exact ⟨fun h => h.1, fun h => ⟨h, five_new hj⟩⟩
          have hbs := hbV.size
          have hml := hmap.lt
          by_cases hin : five.getD j [] ∈ l
          · go_wp2_with (first
              | (go_at_call 171; refine (cF _).mono ?_; rintro e w2 ⟨rfl, rfl⟩)
              | (at_lookup; refine wpList_lookup_own_int _ rfl _ _ 86 rfl 9 3 .i64 lawS Tryz.underlying86 Tryz.underlying3 (zeroI _) w.heap.size n _ rfl hmap _ _ rfl hkey ?_; intro cc hatc hwc; have hpos : 0 < cc := (hcnt cc hatc).2 hin)
              | (at_builtin; go_must (refine wpList_push rfl (.tmp 30) (.tmp 33) 32 rfl _ (w.heap.size + 1) 9 (.string ⟨#[]⟩) 16 Tryz.underlying32 Tryz.infoStr rfl _ _ _ (by rfl) hrow [.string (sysB j)] _ (by rfl) (by simp) (by simp [Value.oneCell']) (by simp) (by rfl) (by decide) (by simp; omega) hml ?_); intro g1 cap1 w9 hown1 hg1 hlt1; have hmap9 := hmap.kept hg1 (fun e => by have := (hrow.lt _ e.symm).1; omega))
              | (at_delete; refine wpList_delete_own _ rfl _ _ 86 9 rfl 3 lawS Tryz.underlying86 _ w.heap.size n _ rfl hmap9 _ _ rfl hkey ?_; intro w10 hmap10 hturn10)
              | go_in)
            go_roundw
            case rel =>
              have hrow10 := hown1.kept hturn10.grown (by first | exact Or.inr (row_ne_low hown1 (Nat.lt_succ_self _)).symm | exact Or.inr (fun e => by have := (hown1.lt _ e).1; omega))
              refine ⟨j + 1, _, ns ++ [five.getD j []], by go_num, by omega, by simp; omega, hmap10, ⟨?_, ?_⟩, ?_, ?_⟩
              · have := cnt_del (t := five.getD j []) HD.out.1
                rw [rest_yes hj] at this
                exact this
              · rw [out_yes hj hin, ← HD.out.2]
              · have e1 : (ns ++ [five.getD j []]).map encStr = ns.map encStr ++ [.string (sysB j)] := by rw [List.map_append]; rfl
                have e2 : (ns ++ [five.getD j []]).length = ns.length + 1 := by rw [List.length_append]; rfl
                rw [e1, e2]
                exact hrow10
              · exact (hbV.grown hg1 hbs (fun k' e => by have := (hrow.lt k' e).1; omega)).grown hturn10.grown (by have := hg1.size; omega) (fun k' e => by cases e; exact Nat.le_refl _)
            case measure => simp [intOf]; omega
          · go_wp2_with (first
              | (go_at_call 171; refine (cF _).mono ?_; rintro e w2 ⟨rfl, rfl⟩)
              | (at_lookup; refine wpList_lookup_own_int _ rfl _ _ 86 rfl 9 3 .i64 lawS Tryz.underlying86 Tryz.underlying3 (zeroI _) w.heap.size n _ rfl hmap _ _ rfl hkey ?_; intro cc hatc hwc; have hpos : ¬ 0 < cc := fun h => hin ((hcnt cc hatc).1 h))
              | go_in)
            go_roundw
            case rel => exact ⟨j + 1, _, ns, by go_num, by omega, by omega, hmap, ⟨by rw [← rest_no hj hin]; exact HD.out.1, by rw [out_no hj hin]; exact HD.out.2⟩, hrow, hbV⟩
            case measure => simp [intOf]; omega
        · obtain rfl : j = 5 := by omega
          obtain ⟨W3, hW3⟩ : ∃ W, W = wr := ⟨_, rfl⟩
          subst hW3
          have hbs := hbV.size
          have hml := hmap.lt
          have hsz := hmap.size_le
          obtain ⟨a9, c9, rfl⟩ := row_form hrow
          have HD2 : Hid (Cnt D2 (l.filter fun t => decide (t ∉ five)) n ∧ ns = five.filter fun t => decide (t ∈ l)) := HD.out
          clear HD
          go_wp2_with (first
            | (at_range; refine wpList_range_own _ rfl _ 86 rfl 9 3 lawS Tryz.underlying86 _ w.heap.size n _ rfl hmap ?_; intro w0 hrg0 hg0 hs0)
            | go_in)
          go_frame
          have hnk : w.heap.size < W3.heap.size := hml
          clear hs0
          go_loopw [8] (fun v wq => ∃ (left : Lit → Bool) (cnt : Nat) (ss : List Tx), wq.ranges Tryz.prog 9 (plainElem Tryz.prog 3) w.heap.size W3.heap.size n D2 left cnt ∧ ss.length + cnt ≤ n ∧
              wq.ownsRow W3.heap.size 9 1 v ss.length (ss.map encStr) ∧ Hid (Collected D2 left ss) ∧ Below W3.heap.size W3 wq)
            (fun _ wq => wq.rangeLeft w.heap.size W3.heap.size)
          case atStart => exact ⟨_, _, [], hrg0, by simpa using hsz, World.ownsRow_nil _ _ _ _, Collected.start D2, (Below.refl _ _).grown hg0 (Nat.le_refl _) (fun j hj => by cases hj)⟩
          case round =>
            obtain ⟨left, cnt, ss, hrg, hcs, hrowS, HCo, hnx⟩ := hrel
            go_wp2_with (first
              | (at_next; refine wpList_next_ranges _ rfl _ rfl 9 lawS (plainElem Tryz.prog 3) encStr (Value.int .i64) (fun key kl hk => by obtain ⟨x, hx, _⟩ := Maps.keyOf_str Tryz.underlying9 hk; exact ⟨x, hx⟩) (fun v y hv => by obtain ⟨c, rfl, _⟩ := plainElem_int_inv Tryz.underlying3 hv; exact ⟨c, rfl⟩) w.heap.size W3.heap.size n _ _ _ rfl hrg ?_ ?_)
              | go_in)
            · intro hc0 hl0
              have cS := sort_strings W3.heap.size _ ss wr hrowS hnx.size (by omega)
              obtain ⟨a8, c8, rfl⟩ := row_form hrowS
              go_wp2_with (first
                | (go_at_call 120; refine cS.mono ?_; rintro e w4 ⟨rfl, hrow4, hb4⟩
                   have hrowQ := row_below (hnx.trans hb4) (Nat.le_refl _) hrow
                   have hsl4 := Sl.of_row hrow4
                   have hb04 := (hnx.trans hb4).size)
                | (at_builtin; refine wpList_append_sl rfl (.tmp 51) (.tmp 52) rfl (w.heap.size + 1) _ ns.length _ (by rfl) hrowQ _ (bytesOrder ss) (by rfl) hsl4 (by rw [bytesOrder_length]; omega) (by omega) ?_; intro v' w5 hown5 hg5)
                | go_in)
              go_ret
              have e : ns ++ bytesOrder ss = order l := by
                rw [HD2.out.2]
                refine ord_parts HCo.out.1 fun x => ?_
                rw [HCo.out.2 x, hl0]
                obtain ⟨_, _, _, _, _, e5⟩ := HD2.out.1.2 x
                rw [e5, List.mem_filter]
                simp
              refine ⟨⟨_, rfl, ?_⟩, ?_⟩
              · rw [← e]
                refine Sl.of_row (base := w.heap.size + 1) ?_
                unfold Row
                rw [List.length_append, List.map_append]
                exact hown5
              · exact (hbV.trans ((hnx.trans hb4).mono hbs)).grown hg5 (by omega) (fun k' e => by have := (hrowQ.lt k' e).1; omega)
            · intro x c kl yd yp w2 cnt2 hkey hlk hv hat hrg2 hlt hg2 hs2 hen
              obtain ⟨x', ex, rfl, _⟩ := Maps.keyOf_str Tryz.underlying9 hkey
              obtain rfl : x = x' := encStr_inj ex
              have hrow2 := hrowS.kept hg2 (Or.inr (row_ne_iter hrowS hrg).symm)
              have hb2 : W3.heap.size ≤ w2.heap.size := Nat.le_trans hnx.size hg2.size
              clear hs2
              go_wp2_with (first
                | (at_builtin; go_must (refine wpList_push rfl (.tmp 45) (.tmp 47) 32 rfl _ W3.heap.size 9 (.string ⟨#[]⟩) 16 Tryz.underlying32 Tryz.infoStr rfl _ _ _ (by rfl) hrow2 [encStr x] _ (by rfl) (by simp) (by simp [Value.oneCell', encStr]) (by simp) (by rfl) (by decide) (by simp; omega) hb2 ?_); intro g1 cap1 w9 hown1 hg1 hlt1)
                | go_in)
              have hrg3 := hrg2.kept hg1 (row_ne_low hrow2 hnk) (row_ne_iter hrow2 hrg2)
              go_roundw
              case rel =>
                refine ⟨_, cnt2, hrg3, ss ++ [x], by simp; omega, ?_, HCo.out.step hlk hat, ?_⟩
                · rw [List.length_append, List.map_append]
                  exact hown1
                · exact (hnx.grown hg2 hnx.size (fun j hj => by cases hj; exact Nat.le_refl _)).grown hg1 hb2 (fun j hj => (hrow2.lt j hj).1)
              case measure => rw [hrg3.left_eq, hrg.left_eq]; exact hlt
end Go.Proofs.YtfdlopimncodcaaGreatDoor
