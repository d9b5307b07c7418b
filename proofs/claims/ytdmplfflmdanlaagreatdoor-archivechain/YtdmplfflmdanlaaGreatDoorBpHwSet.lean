/-
  No flags are a set; a message without flags is put into a box, and more.
-/
import Derived.Test.YtdmplfflmdanlaaGreatDoorBpBoxRow
import Derived.Test.YtdmplfflmdanlaaGreatDoorMHsMove
namespace Go.Proofs.YtdmplfflmdanlaaGreatDoor
open Go.RowKit Go.Proofs.Aid Go.Proofs.Bx

theorem ins_nil (f : Value) (w : World) : Calls Tryz.prog 289 #[.slice none 0 0, .int .i64 0, .int .i64 0, f] w fun e w' => e = .returned (.tuple #[]) ∧ w' = w := by
  go_enter Tryz.func289, Tryz.ntmps289
  go_wp2
  refine wp_loop_rounds 1 ?_
  rw [rounds_succ]
  go_wp2
  go_end0
  exact ⟨rfl, rfl⟩
theorem pdq_nil (n : Int) (f : Value) (w : World) : Calls Tryz.prog 269 #[.slice none 0 0, .int .i64 0, .int .i64 0, .int .i64 n, f] w fun e w' => e = .returned (.tuple #[]) ∧ w' = w := by
  have cI := ins_nil f w
  go_enter Tryz.func269, Tryz.ntmps269
  go_wp2
  refine wp_loop_rounds 1 ?_
  rw [rounds_succ]
  go_wp2_with (refine cI.mono ?_; rintro e w' ⟨rfl, rfl⟩)
  refine bodyPost_ret (results_none rfl _ _ _) rfl ?_
  exact ⟨rfl, rfl⟩
theorem sortf_nil (f : Value) (w : World) : Calls Tryz.prog 226 #[.slice none 0 0, f] w fun e w' => e = .returned (.tuple #[]) ∧ w' = w := by
  have cL := Tryz.bits_Len 0 w (by decide) (by decide)
  have cP := pdq_nil (Lib.bitLen (0 : Int).toNat) f w
  go_enter Tryz.func226, Tryz.ntmps226
  go_wp2_with fail
  refine cL.mono ?_
  rintro e w' ⟨rfl, rfl⟩
  go_wp2_with fail
  refine cP.mono ?_
  rintro e w' ⟨rfl, rfl⟩
  go_wp2_with fail
  go_end0
  exact ⟨rfl, rfl⟩
theorem order_nil (w : World) : Calls Tryz.prog 188 #[.slice none 0 0] w fun e w' => e = .returned (.slice none 0 0) ∧ w' = w := by
  have cS := sortf_nil (.func (.func 227) #[] #[]) w
  have cC := Tryz.slices_Compact_string_empty none 0 w
  go_enter Tryz.func188, Tryz.ntmps188
  go_wp2_with fail
  refine cS.mono ?_
  rintro e w' ⟨rfl, rfl⟩
  go_wp2_with fail
  refine cC.mono ?_
  rintro e w' ⟨rfl, rfl⟩
  go_wp2_with fail
  go_ret
  exact ⟨rfl, rfl⟩
theorem set_nil (w : World) : Calls Tryz.prog 133 #[.slice none 0 0] w fun e w' => SetOut w ([], 0) e w' := by
  have cO := order_nil w
  go_enter Tryz.func133, Tryz.ntmps133
  go_wp2
  refine wp_loop_rounds 1 ?_
  rw [rounds_succ]
  go_wp2_with (refine cO.mono ?_; rintro e w' ⟨rfl, rfl⟩)
  go_ret2
  exact ⟨Or.inl ⟨rfl, _, rfl, ⟨none, 0, rfl, ⟨fun _ => rfl, Nat.le_refl _⟩, Or.inl rfl⟩⟩, Below.refl _ _⟩
/-- Blocks that hold a text stay. -/
def TxKeep (w w' : World) : Prop := ∀ (g i : Nat) (s : ByteArray), w.cell? ⟨g, i, none⟩ = some (.string s) → w'.heap[g]? = w.heap[g]?
theorem TxKeep.cell {w w' : World} (h : TxKeep w w') {g i : Nat} {s : ByteArray} (hc : w.cell? ⟨g, i, none⟩ = some (.string s)) (j : Nat) : w'.cell? ⟨g, j, none⟩ = w.cell? ⟨g, j, none⟩ := World.cell?_of_block (w := w) (a := ⟨g, j, none⟩) (h g i s hc)
theorem TxKeep.trans {a b c : World} (h : TxKeep a b) (k : TxKeep b c) : TxKeep a c := fun g i s hc => (k g i s ((h.cell hc i).trans hc)).trans (h g i s hc)
theorem TxKeep.of {a b : World} (h : Below a.heap.size a b) : TxKeep a b := fun g _ _ hc => h.block g (World.block_lt_of_cell? _ _ hc)
theorem Sl.tx {w w' : World} {v : Value} {l : List Fl.Tx} (h : Sl w v l) (k : TxKeep w w') : Sl w' v l := by
  obtain ⟨a, c, h1, h0, h2⟩ := h
  refine ⟨a, c, h1, h0, ?_⟩
  rcases h2 with h2 | ⟨b, o, h3, h4⟩
  · exact Or.inl h2
  · exact Or.inr ⟨b, o, h3, fun j t hj => (k.cell (h4 j t hj) _).trans (h4 j t hj)⟩
theorem Lts.tx {w w' : World} {v : Value} {l : List Lt} (h : Lts w v l) (k : TxKeep w w') : Lts w' v l := by
  obtain ⟨a, c, h1, h0, h2⟩ := h
  refine ⟨a, c, h1, h0, ?_⟩
  rcases h2 with h2 | ⟨b, o, h3, h4⟩
  · exact Or.inl h2
  · refine Or.inr ⟨b, o, h3, fun j x hj => ?_⟩
    obtain ⟨q1, ⟨fv, q2, q3⟩, q4, q5⟩ := h4 j x hj
    exact ⟨(k.cell q5 _).trans q1, ⟨fv, (k.cell q5 _).trans q2, q3.tx k⟩, (k.cell q5 _).trans q4, (k.cell q5 _).trans q5⟩
theorem noStr_house {w : World} {hb mb : Nat} {l : Bxs} {nx : Int} {a : Option Addr} {n c : Nat} (h : HsAt w hb mb l nx (.slice a n c)) (i : Nat) (s : ByteArray) : w.cell? ⟨hb, i, none⟩ ≠ some (.string s) := fun e => by
  match i with
  | 0 => rw [h.cell.1] at e; cases e
  | 1 => rw [h.cell.2.1] at e; cases e
  | 2 => rw [h.cell.2.2] at e; cases e
  | i + 3 => simp [World.cell?, h.1] at e
theorem TxKeep.hk {w w' : World} {hb mb : Nat} {l : Bxs} {nx : Int} {a : Option Addr} {n c : Nat} (hS : HsAt w hb mb l nx (.slice a n c)) (h : HK hb mb w w') : TxKeep w w' := fun g i s hc => by
  refine h.block g (World.block_lt_of_cell? _ _ hc) (fun e => ?_) (fun e => ?_)
  · rw [e] at hc
    exact noStr_house hS i s hc
  · rw [e] at hc
    obtain ⟨_, _, D, ⟨es, clock, h2, _⟩, _⟩ := hS
    simp [World.cell?, h2] at hc
theorem TxKeep.but {w w' : World} {b : Nat} {v n : Int} {ls : List Lt} (hB : BoxAt w b v n ls) (h : But w.heap.size b w w') : TxKeep w w' := fun g i s hc => by
  refine h.block g (World.block_lt_of_cell? _ _ hc) fun e => ?_
  rw [e] at hc
  obtain ⟨lv, h1, a, c, rfl, _⟩ := hB
  exact noStr_box h1 ⟨_, _, _, rfl⟩ i s hc
/-- A box stays where its own block does, and texts. -/
theorem BoxAt.tx {w w' : World} {b : Nat} {v n : Int} {ls : List Lt} (h : BoxAt w b v n ls) (hb : w'.heap[b]? = w.heap[b]?) (k : TxKeep w w') : BoxAt w' b v n ls := by
  obtain ⟨lv, h1, h2⟩ := h
  exact ⟨lv, hb.trans h1, h2.tx k⟩
theorem BoxAt.hk {w w' : World} {hb mb b : Nat} {v n : Int} {ls : List Lt} {l : Bxs} {nx : Int} {a : Option Addr} {m c : Nat} (h : BoxAt w b v n ls) (hS : HsAt w hb mb l nx (.slice a m c)) (hk : HK hb mb w w') : BoxAt w' b v n ls := by
  refine h.tx ?_ (TxKeep.hk hS hk)
  obtain ⟨lv, h1, _⟩ := h
  exact hk.block b (Array.getElem?_eq_some_iff.1 h1).1 (ne_of_kind hS h1 (by decide)).1 (ne_of_kind hS h1 (by decide)).2
theorem newBox_at {w : World} {b : Nat} {v : Int} (h : NewBox w b v) : BoxAt w b v 1 [] := ⟨_, h, Lts.nil w⟩
theorem mem_putAll {q : Nm × Nat} : ∀ (ps l : Bxs), SortedB l → q ∈ putAll l ps → q ∈ l ∨ q ∈ ps
  | [], _, _, h => Or.inl h
  | p :: ps, l, hs, h => by
    rcases mem_putAll ps (putB p.1 p.2 l) (sorted_putB hs) h with h | h
    · rcases (mem_putB hs (m := q.1) (c := q.2)).1 h with ⟨h1, h2⟩ | ⟨_, h2⟩
      · exact Or.inr (by rw [show q = p from Prod.ext h1 h2]; exact List.mem_cons_self)
      · exact Or.inl h2
    · exact Or.inr (List.mem_cons_of_mem _ h)
end Go.Proofs.YtdmplfflmdanlaaGreatDoor
namespace Go.Proofs.YtdmplfflmdanlaaGreatDoor
open Go.RowKit Go.Proofs.Aid Go.Proofs.Bx

theorem hown_set {w0 w : World} {base g cap k : Nat} {v : Value} {l : List Lt} {x : Lt} (h : LOwn w0 w base v l) (hv : v = .slice (some ⟨g, 0, none⟩) l.length cap) (hk : l[k]? = some x) {fv : Value} {F : List Fl.Tx} (hf : Sl w0 fv F) :
    LOwn w0 (w.setCell ⟨g, k * 4 + 1, none⟩ fv) base v (l.set k ⟨x.uid, F, x.day, x.text⟩) ∧ (∃ a n c, w.cell? ⟨g, k * 4 + 1, none⟩ = some (.slice a n c)) ∧ w.frozen? ⟨g, k * 4 + 1, none⟩ = false := by
  obtain ⟨rows, h1, h2, h3, h4⟩ := id h
  subst hv
  have hkl := (List.getElem?_eq_some_iff.1 hk).1
  rcases h1.2 with ⟨hz, _⟩ | ⟨g', cap', cur, hv, hb, hh, hnc, hcm, hcs, htk⟩
  · cases hz
  injection hv with hv _ hv2
  injection hv with hv
  injection hv with hv _ _
  subst hv
  subst hv2
  have e9 := rd_set (i := k * 4 + 1) fv hh
  have hrk : rows[k]? = some (rows[k]'(by omega)) := List.getElem?_eq_getElem (by omega)
  obtain ⟨fu, e1, hfu⟩ := h3 k x _ hk hrk
  obtain ⟨ua, uc, hfue, _⟩ := id hfu
  refine ⟨⟨rows.set k [.int .i64 x.uid, fv, .int .i64 x.day, .string ⟨x.text.toArray⟩], ⟨?_, Or.inr ⟨g, cap, _, by rw [List.length_set], hb, e9, by rw [List.length_set]; exact hnc, hcm, by rw [Array.size_setIfInBounds]; exact hcs, ?_⟩⟩, by simp [h2], fun j y ys hj hy => ?_, fun xs hx => ?_⟩, ⟨ua, x.flags.length, uc, ?_⟩, rd_free hh _⟩
  · rw [flat4_len (fun xs hx => by
      rcases List.mem_or_eq_of_mem_set hx with h | h
      · exact h4 xs h
      · rw [h]; rfl), List.length_set, List.length_set, h2]
  · rw [List.length_set, Array.toList_setIfInBounds, List.take_set, htk]
    apply List.ext_getElem?
    intro i
    rw [List.getElem?_set]
    by_cases hi : i < l.length * 4
    · have hd : i = i / 4 * 4 + i % 4 := by omega
      have hjr : rows[i / 4]? = some (rows[i / 4]'(by omega)) := List.getElem?_eq_getElem (by omega)
      have hfl := flat4_get (i := i % 4) h4 hjr (by omega)
      rw [← hd] at hfl
      have h4' : ∀ xs ∈ rows.set k [.int .i64 x.uid, fv, .int .i64 x.day, .string ⟨x.text.toArray⟩], xs.length = 4 := fun xs hx => by
        rcases List.mem_or_eq_of_mem_set hx with h | h
        · exact h4 xs h
        · rw [h]; rfl
      have hlt' : i / 4 < (rows.set k [.int .i64 x.uid, fv, .int .i64 x.day, .string ⟨x.text.toArray⟩]).length := by rw [List.length_set]; omega
      have hfl' := flat4_get (i := i % 4) h4' (List.getElem?_eq_getElem hlt') (by omega)
      rw [← hd] at hfl'
      rw [hfl']
      by_cases hik : k = i / 4
      · subst hik
        rw [List.getElem_set_self]
        by_cases h1i : i % 4 = 1
        · rw [if_pos (by omega), if_pos (by rw [flat4_len h4, h2]; omega), h1i]
          rfl
        · rw [if_neg (by omega), hfl, e1]
          have : i % 4 = 0 ∨ i % 4 = 2 ∨ i % 4 = 3 := by omega
          rcases this with h | h | h <;> rw [h] <;> rfl
      · rw [List.getElem_set_ne hik, if_neg (by omega), hfl]
    · have hl1 : rows.flatten.length = l.length * 4 := by rw [flat4_len h4, h2]
      have hl2 : (rows.set k [.int .i64 x.uid, fv, .int .i64 x.day, .string ⟨x.text.toArray⟩]).flatten.length = l.length * 4 := by
        rw [flat4_len (fun xs hx => by
          rcases List.mem_or_eq_of_mem_set hx with h | h
          · exact h4 xs h
          · rw [h]; rfl), List.length_set, h2]
      rw [if_neg (by omega), List.getElem?_eq_none (by omega), List.getElem?_eq_none (by omega)]
  · by_cases hjk : k = j
    · subst hjk
      rw [List.getElem?_set_self hkl] at hj
      rw [List.getElem?_set_self (by omega)] at hy
      obtain rfl := Option.some.inj hj
      obtain rfl := Option.some.inj hy
      exact ⟨fv, rfl, hf⟩
    · rw [List.getElem?_set_ne hjk] at hj hy
      exact h3 j y ys hj hy
  · rcases List.mem_or_eq_of_mem_set hx with h | h
    · exact h4 xs h
    · rw [h]; rfl
  · rw [h1.cellAt (k * 4 + 1) (by omega), flat4_get h4 hrk (by omega), e1, hfue]
    rfl
theorem hown_at {w0 w : World} {base : Nat} {v : Value} {l : List Lt} (h : LOwn w0 w base v l) {k : Nat} {x : Lt} (hk : l[k]? = some x) : ∃ g cap fv, v = .slice (some ⟨g, 0, none⟩) l.length cap ∧ base ≤ g ∧ g < w.heap.size ∧
    w.cell? ⟨g, k * 4, none⟩ = some (.int .i64 x.uid) ∧ w.cell? ⟨g, k * 4 + 1, none⟩ = some fv ∧ w.cell? ⟨g, k * 4 + 2, none⟩ = some (.int .i64 x.day) ∧ w.cell? ⟨g, k * 4 + 3, none⟩ = some (.string ⟨x.text.toArray⟩) ∧ Sl w0 fv x.flags := by
  obtain ⟨rows, h1, h2, h3, h4⟩ := h
  have hkl : k < l.length := (List.getElem?_eq_some_iff.1 hk).1
  rcases h1.2 with ⟨_, h0⟩ | ⟨g, cap, cur, rfl, hg, hh, _⟩
  · omega
  · have hjr : rows[k]? = some (rows[k]'(by omega)) := List.getElem?_eq_getElem (by omega)
    obtain ⟨fv, hx, hs⟩ := h3 k x _ hk hjr
    have hc : ∀ i u, i < 4 → (rows[k]'(by omega))[i]? = some u → w.cell? ⟨g, k * 4 + i, none⟩ = some u := fun i u hi hu => by
      rw [h1.cellAt (k * 4 + i) (by omega), flat4_get h4 hjr hi]
      exact hu
    refine ⟨g, cap, fv, rfl, hg, (Array.getElem?_eq_some_iff.1 hh).1, ?_, hc 1 fv (by omega) (by rw [hx]; rfl), hc 2 _ (by omega) (by rw [hx]; rfl), hc 3 _ (by omega) (by rw [hx]; rfl), hs⟩
    have := hc 0 (.int .i64 x.uid) (by omega) (by rw [hx]; rfl)
    rwa [Nat.add_zero] at this
theorem Sl.hstrs {w w' : World} {v : Value} {l : List Fl.Tx} (h : Sl w v l) (hs : ∀ p s, w.cell? p = some (.string s) → w'.cell? p = some (.string s)) : Sl w' v l := by
  obtain ⟨a, c, h1, h0, h2⟩ := h
  refine ⟨a, c, h1, h0, ?_⟩
  rcases h2 with h2 | ⟨b, o, h3, h4⟩
  · exact Or.inl h2
  · exact Or.inr ⟨b, o, h3, fun j z hj => hs _ _ (h4 j z hj)⟩
theorem LOwn.hsame {w0 w w' : World} {base : Nat} {v : Value} {l : List Lt} (h : LOwn w0 w base v l) (hk : ∀ q, base ≤ q → q < w.heap.size → v.ownBlock = some q → w'.heap[q]? = w.heap[q]?) : LOwn w0 w' base v l := by
  obtain ⟨rows, h1, h2, h3, h4⟩ := h
  exact ⟨rows, own_same h1 fun q hq => hk q (h1.lt q hq).1 (h1.lt q hq).2 hq, h2, h3, h4⟩
theorem LOwn.hnow {w0 w : World} {base : Nat} {v : Value} {l : List Lt} (h : LOwn w0 w base v l) (hs : ∀ fv F, Sl w0 fv F → Sl w fv F) : LOwn w w base v l := by
  obtain ⟨rows, h1, h2, h3, h4⟩ := h
  exact ⟨rows, h1, h2, fun j x xs h5 h6 => (by obtain ⟨fv, e1, e2⟩ := h3 j x xs h5 h6; exact ⟨fv, e1, hs fv _ e2⟩), h4⟩
theorem LOwn.hblk {w0 w : World} {base : Nat} {v : Value} {l : List Lt} (h : LOwn w0 w base v l) {q : Nat} (hq : v.ownBlock = some q) : base ≤ q ∧ q < w.heap.size := by
  obtain ⟨rows, h1, _⟩ := h
  exact h1.lt q hq
theorem hset_strs {w : World} {g i : Nat} {v : Value} {a : Option Addr} {n c : Nat} (h : w.cell? ⟨g, i, none⟩ = some (.slice a n c)) : ∀ p s, w.cell? p = some (.string s) → (w.setCell ⟨g, i, none⟩ v).cell? p = some (.string s) := fun p s hp => by
  have hne : p ≠ ⟨g, i, none⟩ := fun e => by rw [e, h] at hp; cases hp
  rw [World.cell?_setCell_other (h := Ne.symm hne)]
  exact hp
end Go.Proofs.YtdmplfflmdanlaaGreatDoor
