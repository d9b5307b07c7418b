/-
  flags, and more.
-/
import Derived.Test.YtdmplfflmdanlaaGreatDoorBpFlagsOrder
import Derived.Test.YtdmplfflmdanlaaGreatDoorBpBoxRow
import Derived.Laws.AppendOwnNone
namespace Go.Proofs.YtdmplfflmdanlaaGreatDoor
open Go.RowKit Go.Proofs.Aid Go.Proofs.Fl Go.Sort Go.Lib

/-- A row of texts that the call owns. -/
def Row (w : World) (base : Nat) (v : Value) (l : List Tx) : Prop := w.ownsRow base 9 1 v l.length (l.map encStr)
theorem below_grow3 {B : Nat} {w0 w : World} (h : Below B w0 w) (hB : B ≤ w.heap.size) (os : Array Obj) : Below B w0 (grow w os) :=
  h.trans (Lib.below_grow B w hB 0 os)
theorem row_grow3 {w : World} {base e size n : Nat} {v : Value} {xs : List Value} (h : w.ownsRow base e size v n xs) (os : Array Obj) : (grow w os).ownsRow base e size v n xs :=
  row_below (B := w.heap.size) (Lib.below_grow w.heap.size w (Nat.le_refl _) 0 os) (Nat.le_refl _) h
theorem Row.nil_of {w : World} {base : Nat} {l : List Tx} (h : Row w base (.slice none 0 0) l) : l = [] := by
  rcases h.2 with ⟨_, h2⟩ | ⟨g, cap, cur, h2, _⟩
  · exact List.eq_nil_of_length_eq_zero h2
  · cases h2
theorem below_sortWorld {α : Type} [Inhabited α] (enc : α → Value) (B : Nat) (w : World) (blk m : Nat) (dk : Array α) (os : Array Obj) (hB : B ≤ w.heap.size) (hb : B ≤ blk) : Below B w (sortWorld enc w blk 0 m dk os) :=
  below_grow3 (Lib.below_putRow (Below.refl _ _) hb) (by simp [putRow, mapBlock, Sort.ahead]; exact hB) os
theorem ltOf_cf : ltOf cf = ltc := rfl
theorem compare_cI : ∀ x y W, Calls Tryz.prog 120 #[.int .i64 x, .int .i64 y] W fun e w' => e = .returned (.int .i64 (Lib.compareInt x y)) ∧ w' = W := fun x y W => Tryz.cmp_Compare_int x y W
theorem compare_tx (x y : Tx) (w : World) (hg : SysAt w) : Calls Tryz.prog 227 #[encStr x, encStr y] w fun e w' => e = .returned (.int .i64 (cf x y)) ∧ w' = w := by
  have := compare_any ⟨x.toArray⟩ ⟨y.toArray⟩ w hg compare_cI
  simpa using this
theorem sort_txs (base : Nat) (v : Value) (l : List Tx) (w : World) (h : Row w base v l) (hB : base ≤ w.heap.size) (hl : l.length ≤ 1000) (hg : SysAt w) (hgb : 4 < base) :
    Calls Tryz.prog 226 #[v, .func (.func 227) #[] #[]] w fun e w' => e = .returned (.tuple #[]) ∧ Row w' base v (sorted l) ∧ Below base w w' := by
  by_cases hv : v = .slice none 0 0
  · subst hv
    obtain rfl := h.nil_of
    refine (Tryz.slices_SortFunc_none (α := Tx) none 0 _ w).mono ?_
    rintro e w' ⟨rfl, rfl⟩
    exact ⟨rfl, by rw [show sorted [] = [] by simp [sorted]]; exact World.ownsRow_nil _ _ _ _, Below.refl _ _⟩
  · obtain ⟨g, cap, rfl, hgb2, hlt, hc, hm, _, hH⟩ := Lib.holds_of_ownsRow h hv
    have eg : ∀ args w, (callFunc 227 args).run Tryz.prog w = .ok (.enter 227 args) w := enters_of Tryz.func227 (by kernel_rfl) rfl
    have hcmp : CmpReads Tryz.prog 227 #[] encStr cf g 0 l.toArray.size w := fun m os dk _ x y => by
      have := compare_tx x y (sortWorld encStr w g 0 m dk os) (hg.below (below_sortWorld encStr base w g m dk os hB hgb2) hgb)
      refine this.mono ?_
      rintro e w' ⟨rfl, rfl⟩
      exact ⟨rfl, 0, rfl⟩
    have hS := Tryz.slices_SortFunc_total encStr (fun _ => rfl) cf (by rw [ltOf_cf]; exact swo) 227 #[] g 0 cap l.toArray w eg hcmp.lays hH hlt (by simp; omega) (by rw [ltOf_cf]; exact tot)
    rw [ltOf_cf] at hS
    have hsz : l.toArray.size = l.length := by simp
    rw [hsz] at hS
    refine hS.mono ?_
    rintro e w' ⟨rfl, n, os, rfl⟩
    have h1 := Lib.ownsRow_putRow (q := n) (ys := sorted l) (k := l.length) h (sorted_length l) (Nat.le_refl _)
    rw [List.take_of_length_le (by rw [sorted_length]; exact Nat.le_refl _)] at h1
    refine ⟨rfl, ?_, below_sortWorld encStr base w g n _ os hB hgb2⟩
    unfold Row
    rw [sorted_length]
    exact row_grow3 h1 os
theorem compact_txs (base : Nat) (v : Value) (l : List Tx) (w : World) (h : Row w base v l) (hl : l.length ≤ 1000) :
    Calls Tryz.prog 228 #[v] w fun e w' => (∃ v', e = .returned v' ∧ Row w' base v' (Lib.compact l)) ∧ Below base w w' := by
  by_cases hv : v = .slice none 0 0
  · subst hv
    obtain rfl := h.nil_of
    refine (Tryz.slices_Compact_string_empty none 0 w).mono ?_
    rintro e w' ⟨rfl, rfl⟩
    exact ⟨⟨_, rfl, World.ownsRow_nil _ _ _ _⟩, Below.refl _ _⟩
  · obtain ⟨g, cap, rfl, hg, hlt, hc, hm, _, hH⟩ := Lib.holds_of_ownsRow h hv
    refine (Tryz.slices_Compact_string g 0 cap l w hH (by omega) hc).mono ?_
    rintro e w' ⟨rfl, q, rfl⟩
    have hcl := Lib.compact_length_le l
    have h1 := Lib.ownsRow_putRow (q := q) (ys := Lib.compact l ++ List.replicate (l.length - (Lib.compact l).length) []) (k := (Lib.compact l).length) h (by simp; omega) hcl
    rw [List.take_left] at h1
    exact ⟨⟨_, rfl, h1⟩, Lib.below_putRow (Below.refl _ _) hg⟩
set_option maxHeartbeats 1000000 in
theorem order_row (base : Nat) (v : Value) (l : List Tx) (w : World) (h : Row w base v l) (hB : base ≤ w.heap.size) (hl : l.length ≤ 1000) (hg : SysAt w) (hgb : 4 < base) :
    Calls Tryz.prog 188 #[v] w fun e w' => (∃ v', e = .returned v' ∧ Row w' base v' (order l)) ∧ Below base w w' := by
  have cS := sort_txs base v l w h hB hl hg hgb
  clear h hg
  go_enter Tryz.func188, Tryz.ntmps188
  go_wp2_with fail
  refine cS.mono ?_
  rintro e w1 ⟨rfl, h1, hb1⟩
  have cC := compact_txs base v (sorted l) w1 h1 (by rw [sorted_length]; exact hl)
  clear cS h1
  go_wp2_with fail
  refine cC.mono ?_
  rintro e w2 ⟨⟨v', rfl, h2⟩, hb2⟩
  go_wp2_with fail
  go_ret
  exact ⟨⟨v', rfl, h2⟩, hb1.trans hb2⟩
end Go.Proofs.YtdmplfflmdanlaaGreatDoor
namespace Go.Proofs.YtdmplfflmdanlaaGreatDoor
open Go.RowKit Go.Proofs.Aid Go.Proofs.Fl Go.Sort Go.Lib

theorem Sl.of_row {w : World} {base : Nat} {v : Value} {l : List Tx} (h : Row w base v l) : Sl w v l := by
  rcases h.2 with ⟨h1, h2⟩ | ⟨g, cap, cur, hv, _, hh, hcp, _, hsz, htk⟩
  · exact ⟨none, 0, by rw [h1, h2], ⟨fun _ => rfl, by rw [h2]; exact Nat.le_refl _⟩, Or.inl (List.eq_nil_of_length_eq_zero h2)⟩
  · refine ⟨_, cap, hv, ⟨fun e => (by cases e), hcp⟩, Or.inr ⟨g, 0, rfl, fun j z hj => ?_⟩⟩
    have hlt : j < l.length := (List.getElem?_eq_some_iff.1 hj).1
    have h1 : (l.map encStr)[j]? = some (encStr z) := by simp [hj]
    rw [← htk, List.getElem?_take_of_lt (by omega)] at h1
    simp only [World.cell?, hh, Nat.zero_add]
    simpa using h1
end Go.Proofs.YtdmplfflmdanlaaGreatDoor
namespace Go.Proofs.YtdmplfflmdanlaaGreatDoor
open Go.RowKit Go.Proofs.Aid Go.Proofs.Fl Go.Sort Go.Lib

def bas (l : List Tx) : List ByteArray := l.map fun t => ⟨t.toArray⟩
theorem bas_length (l : List Tx) : (bas l).length = l.length := by simp [bas]
theorem bas_inj {a b : List Tx} (h : bas a = bas b) : a = b := by
  have := congrArg (List.map fun s : ByteArray => s.data.toList) h
  simpa [bas, Function.comp_def] using this
theorem cells_bas {w : World} {b o : Nat} {l : List Tx} (h : ∀ (j : Nat) t, l[j]? = some t → w.cell? ⟨b, o + j, none⟩ = some (encStr t)) : ∀ j, j < (bas l).length → w.cell? ⟨b, o + j, none⟩ = some (.string ((bas l).getD j ByteArray.empty)) := by
  intro j hj
  rw [bas_length] at hj
  rw [h j _ (List.getElem?_eq_getElem hj)]
  simp [bas, List.getD_eq_getElem?_getD, hj]
theorem Tryz.infoStr : (Tryz.prog.info? 9).map (fun i => (i.zero, i.size, i.bytes)) = some (some (.string ⟨#[]⟩), 1, 16) := by kernel_rfl
end Go.Proofs.YtdmplfflmdanlaaGreatDoor
namespace Go.Proofs.YtdmplfflmdanlaaGreatDoor
open Go.RowKit Go.Proofs.Aid Go.Proofs.Fl

/-- What Name tells of an error. -/
theorem name_any (s : ByteArray) (w : World) (hs : s.size ≤ 2000000) (hg : SysAt w)
    (cH : ∀ W, Calls Tryz.prog 222 #[.string s, .string ⟨#[92]⟩] W fun e w' => e = .returned (.bool (Lib.hasPrefix s.data.toList [92])) ∧ w' = W) :
    Calls Tryz.prog 187 #[.string s] w fun e w' =>
      (((fname s.data.toList).2 = 0 ∧ ∃ n : ByteArray, n.data.toList = (fname s.data.toList).1 ∧ e = .returned (.tuple #[.string n, .nilIface])) ∨ ((fname s.data.toList).2 ≠ 0 ∧ e = .returned (.tuple #[.string ⟨#[]⟩, .iface 34 (.int .i64 (fname s.data.toList).2)]))) ∧ ∃ n, w' = w.drewN n := by
  have hpre : Lib.hasPrefix s.data.toList [92] = decide (s.data.toList.head? = some 92) := by
    cases s.data.toList with
    | nil => rfl
    | cons c l =>
      show (List.isPrefixOf [92] (c :: l)) = _
      by_cases h : c = 92
      · subst h; simp [List.isPrefixOf]
      · have : ¬ (92 : UInt8) = c := fun e => h e.symm
        simp [List.isPrefixOf, h, this]
  have hla : s.data.toList.length = s.size := by show s.data.toList.length = s.data.size; simp
  rw [hpre] at cH
  by_cases h1 : s.data.toList.head? = some 92
  · have cS := fun W hW => system_any s W hs hW
    rw [decide_eq_true h1] at cH
    clear hpre
    go_enter Tryz.func187, Tryz.ntmps187
    go_wp2_with (first | (go_at_call 222; refine (cH _).mono ?_; rintro e w1 ⟨rfl, rfl⟩) | fail)
    refine (cS _ hg).mono ?_
    rintro e w2 ⟨⟨j, hj, hf, rfl⟩ | ⟨hf, rfl⟩, m, rfl⟩
    · have HF : Hid (five.find? (sameL s.data.toList) = some (five.getD j [])) := hf
      clear hf
      go_wp2
      go_ret2
      refine ⟨Or.inl ?_, m, rfl⟩
      have : fname s.data.toList = (five.getD j [], 0) := by unfold fname; rw [if_pos h1, HF.out]
      rw [this]
      exact ⟨rfl, sysB j, sysB_data j, rfl⟩
    · have HF : Hid (five.find? (sameL s.data.toList) = none) := hf
      clear hf
      go_wp2
      go_ret2
      refine ⟨Or.inr ?_, m, rfl⟩
      have : fname s.data.toList = ([], 3) := by unfold fname; rw [if_pos h1, HF.out]
      rw [this]
      exact ⟨by decide, rfl⟩
  · rw [decide_eq_false h1] at cH
    have cK := fun W => keyword_any s W hs
    obtain ⟨K, hK⟩ : ∃ K, (s.data.toList.all kw && !s.data.toList.isEmpty) = K := ⟨_, rfl⟩
    rw [hK] at cK
    clear hpre hg
    cases K
    · have HF : Hid (fname s.data.toList = ([], 3)) := by
        show fname s.data.toList = ([], 3)
        unfold fname
        rw [if_neg h1, if_pos]
        rw [Bool.and_eq_false_iff] at hK
        rcases hK with h | h
        · exact Or.inr h
        · exact Or.inl (by simpa using h)
      rw [HF.out]
      clear hK
      go_enter Tryz.func187, Tryz.ntmps187
      go_wp2_with (first | (go_at_call 222; refine (cH _).mono ?_; rintro e w1 ⟨rfl, rfl⟩) | (go_at_call 225; refine (cK _).mono ?_; rintro e w1 ⟨rfl, rfl⟩))
      go_ret2
      exact ⟨Or.inr ⟨by decide, rfl⟩, 0, rfl⟩
    · have hk2 : ¬ (s.data.toList = [] ∨ s.data.toList.all kw = false) := by
        rw [Bool.and_eq_true] at hK
        rintro (h | h)
        · rw [h] at hK; simp at hK
        · rw [h] at hK; simp at hK
      clear hK
      by_cases h20 : 20 < s.size
      · have HF : Hid (fname s.data.toList = ([], 4)) := by
          show fname s.data.toList = ([], 4)
          unfold fname
          rw [if_neg h1, if_neg hk2, if_pos (by omega)]
        rw [HF.out]
        have g : (20 : Int) < (s.size : Int) := by omega
        clear hk2
        go_enter Tryz.func187, Tryz.ntmps187
        go_wp2_with (first | (go_at_call 222; refine (cH _).mono ?_; rintro e w1 ⟨rfl, rfl⟩) | (go_at_call 225; refine (cK _).mono ?_; rintro e w1 ⟨rfl, rfl⟩))
        go_ret2
        exact ⟨Or.inr ⟨by decide, rfl⟩, 0, rfl⟩
      · have HF : Hid (fname s.data.toList = (s.data.toList, 0)) := by
          show fname s.data.toList = (s.data.toList, 0)
          unfold fname
          rw [if_neg h1, if_neg hk2, if_neg (by omega)]
        rw [HF.out]
        have g : ¬ (20 : Int) < (s.size : Int) := by omega
        clear hk2
        go_enter Tryz.func187, Tryz.ntmps187
        go_wp2_with (first | (go_at_call 222; refine (cH _).mono ?_; rintro e w1 ⟨rfl, rfl⟩) | (go_at_call 225; refine (cK _).mono ?_; rintro e w1 ⟨rfl, rfl⟩))
        go_ret2
        exact ⟨Or.inl ⟨trivial, s, rfl, rfl⟩, 0, rfl⟩
end Go.Proofs.YtdmplfflmdanlaaGreatDoor
namespace Go.Proofs.YtdmplfflmdanlaaGreatDoor
open Go.RowKit Go.Proofs.Aid Go.Proofs.Fl Go.Sort Go.Lib

theorem namesOf_append : ∀ (a b : List Tx), namesOf (a ++ b) = if (namesOf a).2 ≠ 0 then ([], (namesOf a).2) else if (namesOf b).2 ≠ 0 then ([], (namesOf b).2) else ((namesOf a).1 ++ (namesOf b).1, 0)
  | [], b => by
    have h0 : (namesOf []).2 = 0 := rfl
    rw [if_neg (by simp [h0]), List.nil_append]
    by_cases hb : (namesOf b).2 = 0
    · rw [if_neg (by simp [hb])]
      show namesOf b = ((namesOf b).1, 0)
      rw [← hb]
    · rw [if_pos hb]
      cases b with
      | nil => exact absurd rfl hb
      | cons t b =>
        rw [namesOf] at hb ⊢
        split at hb
        · next h => simp [h]
        · next h =>
          split at hb
          · next h2 => simp [h, h2]
          · exact absurd rfl hb
  | s :: a, b => by
    rw [List.cons_append, namesOf, namesOf_append a b, namesOf]
    by_cases h1 : (fname s).2 = 0
    · by_cases h2 : (namesOf a).2 = 0
      · by_cases h3 : (namesOf b).2 = 0
        · simp [h1, h2, h3]
        · simp [h1, h2, h3]
      · simp [h1, h2]
    · simp [h1]
theorem namesOf_one (s : Tx) : namesOf [s] = if (fname s).2 ≠ 0 then ([], (fname s).2) else ([(fname s).1], 0) := by
  rw [namesOf]
  by_cases h : (fname s).2 = 0 <;> simp [h, namesOf]
theorem names_step {l : List Tx} {k : Nat} {ns : List Tx} (hk : k < l.length) (h : namesOf (l.take k) = (ns, 0)) (he : (fname l[k]).2 = 0) : namesOf (l.take (k + 1)) = (ns ++ [(fname l[k]).1], 0) := by
  rw [List.take_succ_eq_append_getElem hk, namesOf_append, h, namesOf_one]
  simp [he]
theorem names_stop {l : List Tx} {k : Nat} {ns : List Tx} (hk : k < l.length) (h : namesOf (l.take k) = (ns, 0)) (he : (fname l[k]).2 ≠ 0) : setOf l = ([], (fname l[k]).2) := by
  have h1 : namesOf (l.take (k + 1)) = ([], (fname l[k]).2) := by
    rw [List.take_succ_eq_append_getElem hk, namesOf_append, h, namesOf_one]
    simp [he]
  have h2 : (namesOf l).2 = (fname l[k]).2 := by
    conv => lhs; rw [← List.take_append_drop (k + 1) l, namesOf_append, h1]
    simp [he]
  unfold setOf
  rw [if_pos (by rw [h2]; exact he), h2]
set_option maxHeartbeats 2000000 in
set_option maxRecDepth 100000 in
theorem set_any (v : Value) (l : List Tx) (w : World) (h : Sl w v l) (hl : l.length ≤ 400) (hs : ∀ t ∈ l, t.length ≤ 1000000) (hg : SysAt w) :
    Calls Tryz.prog 133 #[v] w fun e w' => (((setOf l).2 = 0 ∧ ∃ v', e = .returned (.tuple #[v', .nilIface]) ∧ Sl w' v' (setOf l).1) ∨ ((setOf l).2 ≠ 0 ∧ e = .returned (.tuple #[.slice none 0 0, .iface 34 (.int .i64 (setOf l).2)]))) ∧ Below w.heap.size w w' := by
  have hgl := hg.lt
  have hk : ∀ W, Below w.heap.size w W → Sl W v l ∧ SysAt W := fun W hb => ⟨h.below hb (Nat.le_refl _), hg.below hb hgl⟩
  obtain ⟨a, c, rfl, _, _⟩ := h
  obtain ⟨len, hn⟩ : ∃ n, l.length = n := ⟨_, rfl⟩
  rw [hn] at hl hk ⊢
  have HS : Hid (∀ t ∈ l, t.length ≤ 1000000) := hs
  clear hs
  go_enter Tryz.func133, Tryz.ntmps133
  go_wp2
  go_loopw [4, 11] (fun rv i wr => ∃ (k : Nat) (ns : List Tx), i = .int .i64 (k : Int) ∧ k ≤ len ∧ ns.length = k ∧ wr.ownsRow w.heap.size 9 1 rv ns.length (ns.map encStr) ∧ Hid (namesOf (l.take k) = (ns, 0)) ∧ Below w.heap.size w wr) (fun _ i _ => len - (intOf i).toNat)
  case atStart => exact ⟨0, [], rfl, by omega, rfl, World.ownsRow_nil _ _ _ _, rfl, Below.refl _ _⟩
  case round =>
    obtain ⟨k, ns, rfl, hkl, hnl, hrow, HN, hbW⟩ := hrel
    subst hnl
    by_cases hlt : ns.length < len
    · obtain ⟨⟨a', c', hv, _, hd⟩, hgW⟩ := hk _ hbW
      cases hv
      rcases hd with h0 | ⟨b, o, rfl, hat⟩
      · rw [h0] at hlt; exact absurd hlt (by simp)
      have hkk : ns.length < l.length := by omega
      have c1 := hat ns.length _ (List.getElem?_eq_getElem hkk)
      have hts : l[ns.length].length ≤ 1000000 := HS.out _ (List.getElem_mem _)
      obtain ⟨t, ht⟩ : ∃ t, l[ns.length] = t := ⟨_, rfl⟩
      have HT : Hid (l[ns.length] = t) := ht
      rw [ht] at c1 hts
      obtain ⟨s, hse⟩ : ∃ s : ByteArray, ⟨t.toArray⟩ = s := ⟨_, rfl⟩
      have hst : s.data.toList = t := by rw [← hse]
      have hsz : s.size ≤ 1000000 := by rw [← hse]; simpa [ByteArray.size] using hts
      have c2 : wr.cell? ⟨b, o + ns.length, none⟩ = some (.string s) := by rw [← hse]; exact c1
      have cN := name_any s wr (by omega) hgW (fun W => Tryz.strings_HasPrefix s ⟨#[92]⟩ W)
      rw [hst] at cN
      have hbs := hbW.size
      clear hat ht hse hst c1 hts hgW hk
      go_wp2_with fail
      refine cN.mono ?_
      rintro e w1 ⟨⟨h0, n, hnn, rfl⟩ | ⟨h0, rfl⟩, q, rfl⟩
      · have HE : Hid (namesOf (l.take (ns.length + 1)) = (ns ++ [(fname t).1], 0)) := by
          have := names_step hkk HN.out (by rw [HT.out]; exact h0)
          rw [HT.out] at this; exact this
        have HNN : Hid (n.data.toList = (fname t).1) := hnn
        have hrowq : (wr.drewN q).ownsRow w.heap.size 9 1 u4 ns.length (ns.map encStr) := hrow
        have hbq : Below w.heap.size w (wr.drewN q) := below_drewN hbW q
        clear hnn h0 cN hrow
        go_wp2_with (at_builtin; go_must (refine wpList_push rfl (.tmp 23) (.tmp 25) 22 rfl _ w.heap.size 9 (.string ⟨#[]⟩) 16 Tryz.underlying22 Tryz.infoStr rfl _ _ _ (by rfl) hrowq [.string n] _ (by rfl) (by simp) (by simp [Value.oneCell']) (by simp) (by rfl) (by decide) (by simp; omega) hbs ?_); intro g1 cap1 w9 hown1 hg1 hlt1)
        have hb9 : Below w.heap.size w w9 := hbq.grown hg1 hbs (fun j e => (hrowq.lt j e).1)
        go_roundw
        case rel => exact ⟨ns.length + 1, ns ++ [(fname t).1], by go_num, by omega, by simp, by rw [← HNN.out]; simpa [encStr] using hown1, HE.out, hb9⟩
        case measure => simp [intOf]; omega
      · have HE : Hid (setOf l = ([], (fname t).2)) := by
          have := names_stop hkk HN.out (by rw [HT.out]; exact h0)
          rw [HT.out] at this; exact this
        clear cN hrow
        go_wp2_with fail
        go_ret2
        exact ⟨Or.inr (by rw [HE.out]; exact ⟨h0, rfl⟩), below_drewN hbW q⟩
    · have hke : ns.length = len := by omega
      have HA : Hid (namesOf l = (ns, 0)) := by
        have := HN.out
        rw [List.take_of_length_le (by omega)] at this
        exact this
      have cO := order_row w.heap.size _ ns _ hrow hbW.size (by omega) (hk _ hbW).2 hgl
      clear hrow hk
      go_wp2_with fail
      refine cO.mono ?_
      rintro e w2 ⟨⟨v2, rfl, h2⟩, hb2⟩
      have hs2 := Sl.of_row h2
      obtain ⟨oa, oc, rfl⟩ := row_form h2
      have hset : setOf l = if 12 < (order ns).length then ([], 4) else (order ns, 0) := by
        unfold setOf
        rw [HA.out]
        simp
      obtain ⟨m, hm⟩ : ∃ m, (order ns).length = m := ⟨_, rfl⟩
      rw [hm] at hset hs2 ⊢
      have HSET : Hid (setOf l = if 12 < m then ([], 4) else (order ns, 0)) := hset
      clear hset cO h2 hm
      by_cases h12 : 12 < m
      · have h12' : (12 : Int) < (m : Int) := by omega
        go_wp2_with fail
        go_ret2
        exact ⟨Or.inr (by rw [HSET.out, if_pos h12]; exact ⟨by decide, rfl⟩), hbW.trans hb2⟩
      · have h12' : ¬ (12 : Int) < (m : Int) := by omega
        go_wp2_with fail
        go_ret2
        exact ⟨Or.inl (by rw [HSET.out, if_neg h12]; exact ⟨rfl, _, rfl, hs2⟩), hbW.trans hb2⟩
end Go.Proofs.YtdmplfflmdanlaaGreatDoor
namespace Go.Proofs.YtdmplfflmdanlaaGreatDoor
open Go.RowKit Go.Proofs.Aid Go.Proofs.Bx

/-- Where the numbers of messages go. -/
theorem Tryz.infoInt : (Tryz.prog.info? 3).map (fun i => (i.zero, i.size, i.bytes)) = some (some (.int .i64 0), 1, 8) := by kernel_rfl
end Go.Proofs.YtdmplfflmdanlaaGreatDoor
namespace Go.Proofs.YtdmplfflmdanlaaGreatDoor
open Go.RowKit Go.Proofs.Aid Go.Proofs.Bx

/-- A row of numbers that is nobody else's. -/
def NOwn (w : World) (base : Nat) (v : Value) (ns : List Int) : Prop := w.ownsRow base 3 1 v ns.length (ns.map (Value.int .i64))
/-- Two rows of different types lie apart. -/
theorem own_apart {w : World} {base e e' size size' n n' : Nat} {v v' : Value} {xs xs' : List Value} (h : w.ownsRow base e size v n xs) (h' : w.ownsRow base e' size' v' n' xs') (hne : e ≠ e') {q : Nat} (hq : v.ownBlock = some q) : v'.ownBlock ≠ some q := by
  intro hq'
  rcases h.2 with ⟨rfl, _⟩ | ⟨g, cap, cur, rfl, _, hh, _⟩
  · cases hq
  rcases h'.2 with ⟨rfl, _⟩ | ⟨g', cap', cur', rfl, _, hh', _⟩
  · cases hq'
  obtain rfl : g = q := by simpa [Value.ownBlock] using hq
  obtain rfl : g' = g := by simpa [Value.ownBlock] using hq'
  rw [hh] at hh'
  injection hh' with hh'
  injection hh' with _ e1 _
  exact hne e1
theorem NOwn.below {w w' : World} {base : Nat} {v : Value} {ns : List Int} (h : NOwn w base v ns) (hb : Below w.heap.size w w') : NOwn w' base v ns := own_same h fun q hq => hb.block q (h.lt q hq).2
end Go.Proofs.YtdmplfflmdanlaaGreatDoor
namespace Go.Proofs.YtdmplfflmdanlaaGreatDoor
open Go.RowKit Go.Proofs.Aid Go.Proofs.Fl Go.Sort Go.Lib

theorem equal_len (a0 a1 : Option Addr) (n m c0 c1 : Nat) (w : World) (h : n ≠ m) :
    Calls Tryz.prog 160 #[.slice a0 n c0, .slice a1 m c1] w fun e w' => e = .returned (.bool false) ∧ w' = w := by
  have h' : ((n : Int) == (m : Int)) = false := by rw [beq_eq_false_iff_ne]; omega
  go_enter Tryz.func160, Tryz.ntmps160
  go_wp2
  go_ret
  exact ⟨rfl, rfl⟩
theorem equal_txs (va vb : Value) (x y : List Tx) (w : World) (ha : Sl w va x) (hb : Sl w vb y) (hx : x.length ≤ 1000) (hy : y.length ≤ 1000) :
    Calls Tryz.prog 160 #[va, vb] w fun e w' => e = .returned (.bool (decide (x = y))) ∧ ∃ q, w' = w.drewN q := by
  obtain ⟨a0, c0, rfl, _, ha⟩ := ha
  obtain ⟨a1, c1, rfl, _, hb⟩ := hb
  rcases ha with rfl | ⟨b, o, rfl, hat⟩
  · have := Tryz.slices_Equal_string_empty a0 a1 c0 y.length c1 w (by omega)
    refine this.mono ?_
    rintro e w' ⟨rfl, rfl⟩
    refine ⟨?_, 0, rfl⟩
    congr 2
    rw [Bool.eq_iff_iff]
    cases y <;> simp
  · by_cases hxy : x.length = y.length
    · rcases hb with rfl | ⟨b', o', rfl, hbt⟩
      · have h0 : x = [] := List.eq_nil_of_length_eq_zero hxy
        subst h0
        have := Tryz.slices_Equal_string_empty (some ⟨b, o, none⟩) a1 c0 0 c1 w (by omega)
        refine this.mono ?_
        rintro e w' ⟨rfl, rfl⟩
        exact ⟨rfl, 0, rfl⟩
      · have := Tryz.slices_Equal_string b o x.length c0 b' o' y.length c1 (bas x) (bas y) w (by rw [bas_length]; exact Nat.le_refl _) (by rw [bas_length]; exact Nat.le_refl _) (by omega) (by omega) (cells_bas hat) (cells_bas hbt)
        rw [List.take_of_length_le (by rw [bas_length]; exact Nat.le_refl _), List.take_of_length_le (by rw [bas_length]; exact Nat.le_refl _)] at this
        refine this.mono ?_
        rintro e w' ⟨rfl, q, rfl⟩
        refine ⟨?_, q, rfl⟩
        have e1 : decide (bas x = bas y) = decide (x = y) := by
          rw [Bool.eq_iff_iff, decide_eq_true_eq, decide_eq_true_eq]
          exact ⟨bas_inj, fun h => by rw [h]⟩
        rw [e1]
    · refine (equal_len _ a1 x.length y.length c0 c1 w hxy).mono ?_
      rintro e w' ⟨rfl, rfl⟩
      refine ⟨?_, 0, rfl⟩
      rw [decide_eq_false (fun h => hxy (by rw [h]))]
end Go.Proofs.YtdmplfflmdanlaaGreatDoor
