/-
  Which boxes lie in a box, and more.
-/
import Derived.Test.YtdmplfflmdanlaaGreatDoorBpKeysShelf
import Derived.Lib.OwnBridge
import Derived.Lib.RowBridge
import Derived.Lib.AppendIntMem
namespace Go.Proofs.YtdmplfflmdanlaaGreatDoor
open Go.RowKit Go.Proofs.Aid Go.Sort Go.Lib

theorem nbelow_grow {B : Nat} {w0 w : World} (h : Below B w0 w) (hB : B ≤ w.heap.size) (os : Array Obj) : Below B w0 (grow w os) := h.trans (Lib.below_grow B w hB 0 os)
theorem nbelow_sort {α : Type} [Inhabited α] (enc : α → Value) (B : Nat) (w : World) (blk m : Nat) (dk : Array α) (os : Array Obj) (hB : B ≤ w.heap.size) (hb : B ≤ blk) : Below B w (sortWorld enc w blk 0 m dk os) :=
  nbelow_grow (Lib.below_putRow (Below.refl _ _) hb) (by simp [putRow, mapBlock, Sort.ahead]; exact hB) os
theorem NRow.nil_of {w : World} {base : Nat} {l : List Nm} (h : NRow w base (.slice none 0 0) l) : l = [] := by
  rcases h.2 with ⟨_, h2⟩ | ⟨g, cap, cur, h2, _⟩
  · exact List.eq_nil_of_length_eq_zero h2
  · cases h2
theorem nindex_nil (f : Value) (w : World) : Calls Tryz.prog 145 #[.slice none 0 0, f] w fun e w' => e = .returned (.int .i64 (-1)) ∧ w' = w := by
  go_enter Tryz.func145, Tryz.ntmps145
  go_wp2
  refine wp_loop_rounds 1 ?_
  rw [rounds_succ]
  go_wp2
  go_ret
  exact ⟨rfl, rfl⟩
theorem ndelete_nil (f : Value) (w : World) : Calls Tryz.prog 180 #[.slice none 0 0, f] w fun e w' => e = .returned (.slice none 0 0) ∧ w' = w := by
  go_enter Tryz.func180, Tryz.ntmps180
  go_wp2_with (refine (nindex_nil _ _).mono ?_; rintro e w' ⟨rfl, rfl⟩)
  go_ret
  exact ⟨rfl, rfl⟩
theorem Tryz.zeroNm (w : World) : (zeroValue 9).run Tryz.prog w = .ok (encStr []) w := by kernel_rfl
/-- slices.DeleteFunc at a row of names, and a function that tells of each. -/
theorem ndelete_fn (g : Nat) (lb : Array Value) (eg : ∀ args w, (callFunc g args).run Tryz.prog w = .ok (.enter g args) w) (p : Nm → Bool) (base : Nat) (v : Value) (x : List Nm) (w : World) (h : NRow w base v x) (hB : base ≤ w.heap.size) (hx : x.length ≤ 1000)
    (hk : ∀ W t, Below base w W → FnGives Tryz.prog g lb #[encStr t] (.bool (p t)) W) :
    Calls Tryz.prog 180 #[v, .func (.func g) #[] lb] w fun e w' => (∃ v', e = .returned v' ∧ NRow w' base v' (x.filter fun t => !p t)) ∧ Below base w w' := by
  by_cases hv : v = .slice none 0 0
  · subst hv
    obtain rfl := h.nil_of
    refine (ndelete_nil _ w).mono ?_
    rintro e w' ⟨rfl, rfl⟩
    exact ⟨⟨_, rfl, World.ownsRow_nil _ _ _ _⟩, Below.refl _ _⟩
  · obtain ⟨gg, cap, rfl, hgb2, hlt, hc, hm, _, hH⟩ := Lib.holds_of_ownsRow h hv
    have hD := Tryz.slices_DeleteFunc encStr (fun _ => rfl) p g lb eg [] Tryz.zeroNm gg 0 cap x.toArray w
      (fun W t hb => hk W t (hb.mono hB)) (fun n os dk t _ => hk _ t (nbelow_sort encStr base w gg n dk os hB hgb2)) hH (by simp; omega) (by simpa using hc)
    have hsz : x.toArray.size = x.length := by simp
    rw [hsz] at hD
    refine hD.mono ?_
    rintro e w' ⟨rfl, q, rfl⟩
    have hfl : (x.filter fun t => !p t).length ≤ x.length := List.length_filter_le _ _
    have h1 := Lib.ownsRow_putRow (q := q) (ys := (x.filter fun t => !p t) ++ List.replicate (x.length - (x.filter fun t => !p t).length) []) (k := (x.filter fun t => !p t).length) h (by rw [List.length_append, List.length_replicate]; omega) hfl
    rw [List.take_left] at h1
    exact ⟨⟨_, rfl, h1⟩, Lib.below_putRow (Below.refl _ _) hgb2⟩
/-- Whether a box of that name lies in another one. -/
def inB (a b : Nm) : Bool := Lib.hasPrefix a (b ++ [47])
set_option maxHeartbeats 1000000 in
theorem liesIn_is (a b : ByteArray) (w : World) (hb : b.size ≤ 1000000) :
    Calls Tryz.prog 182 #[.string a, .string b] w fun e w' => e = .returned (.bool (inB a.data.toList b.data.toList)) ∧ w' = w := by
  have cP := Tryz.strings_HasPrefix a (b ++ ⟨#[47]⟩) w
  have e1 : (b ++ (⟨#[47]⟩ : ByteArray)).data.toList = b.data.toList ++ [47] := by simp
  rw [e1] at cP
  have HA : Hid (inB a.data.toList b.data.toList = Lib.hasPrefix a.data.toList (b.data.toList ++ [47])) := rfl
  obtain ⟨A, hA⟩ : ∃ A, Lib.hasPrefix a.data.toList (b.data.toList ++ [47]) = A := ⟨_, rfl⟩
  rw [hA] at cP
  have HA2 : Hid (inB a.data.toList b.data.toList = A) := HA.out.trans hA
  rw [HA2.out]
  clear hA HA e1 HA2
  have hlim : (9223372036854775807 < b.size + 1) = False := eq_false (by omega)
  go_enter Tryz.func182, Tryz.ntmps182
  go_wp2_with fail
  refine cP.mono ?_
  rintro e w1 ⟨rfl, hw⟩
  obtain rfl : w = w1 := hw.symm
  go_wp2_with fail
  go_ret
  exact ⟨rfl, rfl⟩
set_option maxHeartbeats 1000000 in
theorem within1_is (n : ByteArray) (p : Nat) (s : ByteArray) (w : World) (hp : w.cell? ⟨p, 0, none⟩ = some (.string s)) (hs : s.size ≤ 1000000) :
    Calls Tryz.prog 181 #[.string n, .pointer (some ⟨p, 0, none⟩)] w fun e w' => e = .returned (.bool (!inB n.data.toList s.data.toList)) ∧ w' = w := by
  have cL := liesIn_is n s w hs
  obtain ⟨A, hA⟩ : ∃ A, inB n.data.toList s.data.toList = A := ⟨_, rfl⟩
  rw [hA] at cL ⊢
  clear hA
  go_enter Tryz.func181, Tryz.ntmps181
  go_wp2_with fail
  refine cL.mono ?_
  rintro e w1 ⟨rfl, hw⟩
  obtain rfl : w = w1 := hw.symm
  go_wp2_with fail
  go_ret
  exact ⟨rfl, rfl⟩
def withinB (l : Bxs) (n : Nm) : List Nm := (namesB l).filter fun t => inB t n
set_option maxHeartbeats 2000000 in
set_option maxRecDepth 100000 in
theorem within_is (hb mb : Nat) (l : Bxs) (nx : Int) (wv : Value) (s : ByteArray) (w : World) (h : HsAt w hb mb l nx wv) (hl : l.length ≤ 1000) (hs : s.size ≤ 1000000) :
    Calls Tryz.prog 128 #[.pointer (some ⟨hb, 0, none⟩), .string s] w fun e w' => (∃ v, e = .returned v ∧ NRow w' w.heap.size v (withinB l s.data.toList)) ∧ Below w.heap.size w w' := by
  have b1 : Below w.heap.size w (w.alloc (.cells #[.string s] 9)) := (Below.refl _ _).alloc (Nat.le_refl _) _
  have e1 := heap_alloc_new w (.cells #[.string s] 9)
  have z1 : (w.alloc (.cells #[.string s] 9)).heap.size = w.heap.size + 1 := World.size_alloc _ _
  have h1 := h.below b1 (Nat.le_refl _)
  obtain ⟨W1, hW1⟩ : ∃ W, w.alloc (.cells #[.string s] 9) = W := ⟨_, rfl⟩
  rw [hW1] at b1 e1 z1 h1
  have cN := names_is hb mb l nx wv W1 h1 hl
  have HB1 : Hid (Below w.heap.size w W1 ∧ W1.heap.size = w.heap.size + 1 ∧ W1.heap[w.heap.size]? = some (.cells #[.string s] 9 (0, 0))) := ⟨b1, z1, e1⟩
  have hnl : (namesB l).length ≤ 1000 := by unfold namesB; rw [List.length_map]; exact hl
  clear h h1 b1 e1 z1
  go_enter Tryz.func128, Tryz.ntmps128
  go_wp2_with fail
  refine cN.mono ?_
  rintro e w2 ⟨⟨v, rfl, hrow⟩, hb2⟩
  obtain ⟨va, vc, rfl⟩ := row_form hrow
  have cD := ndelete_fn 181 #[.pointer (some ⟨w.heap.size, 0, none⟩)] (enters_of Tryz.func181 (by kernel_rfl) rfl) (fun t => !inB t s.data.toList) W1.heap.size (.slice va (namesB l).length vc) (namesB l) w2 hrow hb2.size hnl (fun W t hW => by
    have hc : W.cell? ⟨w.heap.size, 0, none⟩ = some (.string s) := rd_cell ((hW.block _ (by have := HB1.out.2.1; omega)).trans ((hb2.block _ (by have := HB1.out.2.1; omega)).trans HB1.out.2.2)) rfl
    have := within1_is ⟨t.toArray⟩ w.heap.size s W hc hs
    refine this.mono ?_
    rintro e w' ⟨rfl, rfl⟩
    exact ⟨by simp, 0, rfl⟩)
  have HB2 : Hid (Below W1.heap.size W1 w2) := hb2
  clear cN hrow hb2
  go_wp2_with fail
  refine cD.mono ?_
  rintro e w3 ⟨⟨v3, rfl, hrow3⟩, hb3⟩
  have HF : Hid (NRow w3 w.heap.size v3 (withinB l s.data.toList) ∧ Below w.heap.size w w3) := by
    refine ⟨?_, HB1.out.1.trans ((HB2.out.trans hb3).mono (by have := HB1.out.2.1; omega))⟩
    have : (fun t => !(!inB t s.data.toList)) = fun t => inB t s.data.toList := by funext t; simp
    rw [this] at hrow3
    exact ownsRow_base_a hrow3 (by have := HB1.out.2.1; omega)
  clear hrow3 hb3 cD
  go_wp2_with fail
  go_ret
  exact ⟨⟨_, rfl, HF.out.1⟩, HF.out.2⟩
end Go.Proofs.YtdmplfflmdanlaaGreatDoor
namespace Go.Proofs.YtdmplfflmdanlaaGreatDoor
open Go.RowKit Go.Proofs.Aid

/-- What Name promises, of whatever text: nB tells it. -/
def NameC (nB : Nm → Option Nm) (w : World) : Prop := ∀ (s : ByteArray) (W : World), Below 10 w W → s.size ≤ 1000 → Calls Tryz.prog 82 #[.string s] W fun e w' => Below W.heap.size W w' ∧
  ((∃ r : ByteArray, nB s.data.toList = some r.data.toList ∧ r.size ≤ 60 ∧ e = .returned (.tuple #[.string r, .nilIface])) ∨ (nB s.data.toList = none ∧ e = .returned (.tuple #[.string ⟨#[]⟩, .iface 34 (.int .i64 1)])))
/-- An error of that number. -/
abbrev errN (n : Int) : Value := .iface 34 (.int .i64 n)
set_option maxHeartbeats 2000000 in
set_option maxRecDepth 100000 in
theorem there_is (nB : Nm → Option Nm) (hb mb : Nat) (l : Bxs) (nx : Int) (wv : Value) (s : ByteArray) (w : World) (hN : NameC nB w) (h : HsAt w hb mb l nx wv) (hs : s.size ≤ 1000) :
    Calls Tryz.prog 127 #[.pointer (some ⟨hb, 0, none⟩), .string s] w fun e w' => Below w.heap.size w w' ∧
      ((∃ r : ByteArray, nB s.data.toList = some r.data.toList ∧ r.size ≤ 60 ∧ hasB l r.data.toList = true ∧ e = .returned (.tuple #[.string r, .nilIface])) ∨
       (∃ r : ByteArray, nB s.data.toList = some r.data.toList ∧ hasB l r.data.toList = false ∧ e = .returned (.tuple #[.string r, errN 7])) ∨
       (nB s.data.toList = none ∧ e = .returned (.tuple #[.string ⟨#[]⟩, errN 1]))) := by
  have cN := hN s w (Below.refl _ _) hs
  have HH : Hid (HsAt w hb mb l nx wv) := h
  clear hN h
  go_enter Tryz.func127, Tryz.ntmps127
  go_wp2_with fail
  refine cN.mono ?_
  rintro e w1 ⟨hb1, ⟨r, hr, hr2, rfl⟩ | ⟨hr, rfl⟩⟩
  · have cH := has_is hb mb l nx wv r w1 (HH.out.below hb1 (Nat.le_refl _)) (by omega)
    have HB1 : Hid (Below w.heap.size w w1 ∧ nB s.data.toList = some r.data.toList) := ⟨hb1, hr⟩
    cases hB : hasB l r.data.toList with
    | true =>
      have HBB : Hid (hasB l r.data.toList = true) := hB
      rw [hB] at cH
      clear cN hb1 hB hr
      go_wp2_with fail
      refine cH.mono ?_
      rintro e w2 ⟨rfl, hw⟩
      obtain rfl : w1 = w2 := hw.symm
      clear hw cH
      go_wp2_with fail
      go_ret2
      exact ⟨HB1.out.1, Or.inl ⟨r, HB1.out.2, hr2, HBB.out, rfl⟩⟩
    | false =>
      have HBB : Hid (hasB l r.data.toList = false) := hB
      rw [hB] at cH
      clear cN hb1 hB hr
      go_wp2_with fail
      refine cH.mono ?_
      rintro e w2 ⟨rfl, hw⟩
      obtain rfl : w1 = w2 := hw.symm
      clear hw cH
      go_wp2_with fail
      go_ret2
      exact ⟨HB1.out.1, Or.inr (Or.inl ⟨r, HB1.out.2, HBB.out, rfl⟩)⟩
  · have HB1 : Hid (Below w.heap.size w w1 ∧ nB s.data.toList = none) := ⟨hb1, hr⟩
    clear cN hb1 hr
    go_wp2_with fail
    go_ret2
    exact ⟨HB1.out.1, Or.inr (Or.inr ⟨HB1.out.2, rfl⟩)⟩
set_option maxHeartbeats 2000000 in
set_option maxRecDepth 100000 in
theorem free_is (nB : Nm → Option Nm) (hb mb : Nat) (l : Bxs) (nx : Int) (wv : Value) (s : ByteArray) (w : World) (hN : NameC nB w) (h : HsAt w hb mb l nx wv) (hs : s.size ≤ 1000) :
    Calls Tryz.prog 124 #[.pointer (some ⟨hb, 0, none⟩), .string s] w fun e w' => Below w.heap.size w w' ∧
      ((∃ r : ByteArray, nB s.data.toList = some r.data.toList ∧ r.size ≤ 60 ∧ hasB l r.data.toList = false ∧ e = .returned (.tuple #[.string r, .nilIface])) ∨
       (∃ r : ByteArray, nB s.data.toList = some r.data.toList ∧ hasB l r.data.toList = true ∧ e = .returned (.tuple #[.string r, errN 9])) ∨
       (nB s.data.toList = none ∧ e = .returned (.tuple #[.string ⟨#[]⟩, errN 1]))) := by
  have cN := hN s w (Below.refl _ _) hs
  have HH : Hid (HsAt w hb mb l nx wv) := h
  clear hN h
  go_enter Tryz.func124, Tryz.ntmps124
  go_wp2_with fail
  refine cN.mono ?_
  rintro e w1 ⟨hb1, ⟨r, hr, hr2, rfl⟩ | ⟨hr, rfl⟩⟩
  · have cH := has_is hb mb l nx wv r w1 (HH.out.below hb1 (Nat.le_refl _)) (by omega)
    have HB1 : Hid (Below w.heap.size w w1 ∧ nB s.data.toList = some r.data.toList) := ⟨hb1, hr⟩
    cases hB : hasB l r.data.toList with
    | true =>
      have HBB : Hid (hasB l r.data.toList = true) := hB
      rw [hB] at cH
      clear cN hb1 hB hr
      go_wp2_with fail
      refine cH.mono ?_
      rintro e w2 ⟨rfl, hw⟩
      obtain rfl : w1 = w2 := hw.symm
      clear hw cH
      go_wp2_with fail
      go_ret2
      exact ⟨HB1.out.1, Or.inr (Or.inl ⟨r, HB1.out.2, HBB.out, rfl⟩)⟩
    | false =>
      have HBB : Hid (hasB l r.data.toList = false) := hB
      rw [hB] at cH
      clear cN hb1 hB hr
      go_wp2_with fail
      refine cH.mono ?_
      rintro e w2 ⟨rfl, hw⟩
      obtain rfl : w1 = w2 := hw.symm
      clear hw cH
      go_wp2_with fail
      go_ret2
      exact ⟨HB1.out.1, Or.inl ⟨r, HB1.out.2, hr2, HBB.out, rfl⟩⟩
  · have HB1 : Hid (Below w.heap.size w w1 ∧ nB s.data.toList = none) := ⟨hb1, hr⟩
    clear cN hb1 hr
    go_wp2_with fail
    go_ret2
    exact ⟨HB1.out.1, Or.inr (Or.inr ⟨HB1.out.2, rfl⟩)⟩
theorem lack_short {l : Bxs} {n m : Nm} (h : m ∈ lackB l n) : m.length ≤ n.length := by
  unfold lackB lackTo at h
  obtain ⟨i, _, rfl⟩ := List.mem_map.1 h
  rw [List.length_take]
  omega
set_option maxHeartbeats 4000000 in
set_option maxRecDepth 100000 in
theorem create_is (nB : Nm → Option Nm) (hb mb : Nat) (l : Bxs) (nx : Int) (wv : Value) (s : ByteArray) (w : World) (hN : NameC nB w) (h : HsAt w hb mb l nx wv) (hs : s.size ≤ 1000) (hl : l.length ≤ 100) (hn : 0 ≤ nx ∧ nx ≤ 900000) :
    Calls Tryz.prog 73 #[.pointer (some ⟨hb, 0, none⟩), .string s] w fun e w' =>
      (nB s.data.toList = none ∧ e = .returned (errN 1) ∧ Below w.heap.size w w') ∨
      (∃ r, nB s.data.toList = some r ∧ hasB l r = true ∧ e = .returned (errN 9) ∧ Below w.heap.size w w') ∨
      (∃ r, nB s.data.toList = some r ∧ hasB l r = false ∧ 30 < l.length + (lackB l r ++ [r]).length ∧ e = .returned (errN 12) ∧ Below w.heap.size w w') ∨
      (∃ r ps, nB s.data.toList = some r ∧ hasB l r = false ∧ l.length + (lackB l r ++ [r]).length ≤ 30 ∧ e = .returned .nilIface ∧ HK hb mb w w' ∧ Built w.heap.size w' nx (lackB l r ++ [r]) ps ∧ HsAt w' hb mb (putAll l ps) (nx + ((lackB l r ++ [r]).length : Int)) wv) := by
  have cF := free_is nB hb mb l nx wv s w hN h hs
  have HH : Hid (HsAt w hb mb l nx wv) := h
  clear hN h
  go_enter Tryz.func73, Tryz.ntmps73
  go_wp2_with fail
  refine cF.mono ?_
  rintro e w1 ⟨hb1, ⟨r, hr, hr2, hr3, rfl⟩ | ⟨r, hr, hr3, rfl⟩ | ⟨hr, rfl⟩⟩
  · have h1 := HH.out.below hb1 (Nat.le_refl _)
    have cL := lacking_is hb mb l nx wv r w1 h1 (by omega)
    have HR : Hid (nB s.data.toList = some r.data.toList ∧ hasB l r.data.toList = false ∧ Below w.heap.size w w1 ∧ HsAt w1 hb mb l nx wv) := ⟨hr, hr3, hb1, h1⟩
    clear cF hr hr3 hb1 h1
    go_wp2_with fail
    refine cL.mono ?_
    rintro e w2 ⟨⟨v, rfl, hrow⟩, hb2⟩
    obtain ⟨LL, hLL⟩ : ∃ n, (lackB l r.data.toList).length = n := ⟨_, rfl⟩
    obtain ⟨XS, hXS⟩ : ∃ x, (lackB l r.data.toList).map encStr = x := ⟨_, rfl⟩
    have hlen : LL ≤ 60 := by
      have := lackTo_len l r.data.toList r.data.toList.length
      rw [Array.length_toList] at this
      have e2 : (lackB l r.data.toList).length ≤ r.size := by unfold lackB; rw [Array.length_toList]; exact this
      omega
    unfold NRow at hrow
    rw [hLL, hXS] at hrow
    obtain ⟨oa, oc, rfl⟩ := row_form hrow
    have hbs := hb2.size
    have HL : Hid ((lackB l r.data.toList).length = LL ∧ (lackB l r.data.toList).map encStr = XS ∧ Below w1.heap.size w1 w2) := ⟨hLL, hXS, hb2⟩
    clear cL hLL hXS hb2
    go_wp2_with (at_builtin; go_must (refine wpList_push rfl (.tmp 18) (.tmp 20) 22 rfl _ w1.heap.size 9 (.string ⟨#[]⟩) 16 Tryz.underlying22 Tryz.infoNm rfl _ _ _ (by rfl) hrow [.string r] _ (by rfl) (by simp) (by simp [Value.oneCell']) (by simp) (by rfl) (by decide) (by simp; omega) hbs ?_); intro g3 cap3 w3 hown3 hg3 hlt3)
    have hb3 : Below w1.heap.size w1 w3 := HL.out.2.2.grown hg3 hbs (fun j e => (hrow.lt j e).1)
    have h3 := HR.out.2.2.2.below hb3 (Nat.le_refl _)
    have hrow3 : NRow w3 w1.heap.size (.slice (some ⟨g3, 0, none⟩) (LL + 1) cap3) (lackB l r.data.toList ++ [r.data.toList]) := by
      unfold NRow
      rw [List.length_append, List.map_append, HL.out.1, HL.out.2.1, List.map_cons, enc_ba]
      exact hown3
    have cB := build_is hb mb w1.heap.size l nx wv (.slice (some ⟨g3, 0, none⟩) (LL + 1) cap3) (lackB l r.data.toList ++ [r.data.toList]) w3 h3 hrow3 (fun n hn' => by
      have hsz : r.data.toList.length = r.size := by rw [Array.length_toList]; rfl
      rcases List.mem_append.1 hn' with h4 | h4
      · have := lack_short h4
        omega
      · rw [List.mem_singleton.1 h4]
        omega) hl (by rw [List.length_append, HL.out.1]; simp; omega) hn
    have HB3 : Hid (Below w.heap.size w w3) := HR.out.2.2.1.trans (hb3.mono HR.out.2.2.1.size)
    clear hown3 hg3 hb3 h3 hrow3 hrow
    go_wp2_with fail
    refine cB.mono ?_
    rintro e w4 (⟨q1, rfl, hw⟩ | ⟨q1, rfl, q2, ps, q3, q4⟩)
    · obtain rfl : w3 = w4 := hw.symm
      have HQ : Hid (30 < l.length + (lackB l r.data.toList ++ [r.data.toList]).length) := q1
      clear hw cB q1
      go_wp2_with fail
      go_ret
      exact Or.inr (Or.inr (Or.inl ⟨_, HR.out.1, HR.out.2.1, HQ.out, rfl, HB3.out⟩))
    · have HQ : Hid (l.length + (lackB l r.data.toList ++ [r.data.toList]).length ≤ 30 ∧ HK hb mb w w4 ∧ Built w.heap.size w4 nx (lackB l r.data.toList ++ [r.data.toList]) ps ∧ HsAt w4 hb mb (putAll l ps) (nx + ((lackB l r.data.toList ++ [r.data.toList]).length : Int)) wv) := ⟨q1, (HK.of HB3.out).trans q2, ⟨q3.1, fun j p hj => ⟨Nat.le_trans HB3.out.size (q3.2.1 j p hj).1, (q3.2.1 j p hj).2⟩, q3.2.2⟩, q4⟩
      clear cB q1 q2 q3 q4
      go_wp2_with fail
      go_ret
      exact Or.inr (Or.inr (Or.inr ⟨_, ps, HR.out.1, HR.out.2.1, HQ.out.1, rfl, HQ.out.2.1, HQ.out.2.2.1, HQ.out.2.2.2⟩))
  · have HR : Hid (nB s.data.toList = some r.data.toList ∧ hasB l r.data.toList = true ∧ Below w.heap.size w w1) := ⟨hr, hr3, hb1⟩
    clear cF hr hr3 hb1
    go_wp2_with fail
    go_ret
    exact Or.inr (Or.inl ⟨_, HR.out.1, HR.out.2.1, rfl, HR.out.2.2⟩)
  · have HR : Hid (nB s.data.toList = none ∧ Below w.heap.size w w1) := ⟨hr, hb1⟩
    clear cF hr hb1
    go_wp2_with fail
    go_ret
    exact Or.inl ⟨HR.out.1, rfl, HR.out.2⟩
end Go.Proofs.YtdmplfflmdanlaaGreatDoor
