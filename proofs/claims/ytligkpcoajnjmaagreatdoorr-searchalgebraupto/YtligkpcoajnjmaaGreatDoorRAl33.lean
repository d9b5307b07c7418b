/-
  The statements' texts: are texts short enough to be held?
  Two that are not seen: the fact that search's statements begin with.
  What SearchAlgebra's walk goes by.
-/
import Derived.Test.YtligkpcoajnjmaaGreatDoorRSearchIs2
import Derived.Test.YtligkpcoajnjmaaGreatDoorRAl24
import Derived.Test.YtligkpcoajnjmaaGreatDoorRSearchAskA
namespace Go.Proofs.YtligkpcoajnjmaaGreatDoorR
open Go.RowKit Go.Proofs.Aid Go.Proofs.Sq Go.Proofs.Hd

theorem texts_trow (fa : Option Addr) (fn fc : Nat) (l : List Sr.Tx) (w : World) (h : Trow w fa fn l) :
    Calls Tryz.prog 7 #[.slice fa fn fc] w fun e w' => e = .returned (.bool (decide (l.length ≤ 40) && l.all fun t => decide (t.length ≤ 100))) ∧ w' = w := by
  obtain ⟨rfl, ha⟩ := h
  obtain ⟨R, hR⟩ : ∃ R, (decide (l.length ≤ 40) && l.all fun t => decide (t.length ≤ 100)) = R := ⟨_, rfl⟩
  rw [hR]
  by_cases hl : l.length ≤ 40
  · rw [decide_eq_true hl, Bool.true_and] at hR
    have HR : Hid ((l.all fun t => decide (t.length ≤ 100)) = R) := hR
    obtain ⟨len, hn⟩ : ∃ n, l.length = n := ⟨_, rfl⟩
    rw [hn] at hl ⊢
    have hl' : ¬ (40 : Int) < (len : Int) := by omega
    have HN : Hid (l.length = len) := hn
    clear hR hn
    go_enter Tryz.func7, Tryz.ntmps7
    go_wp2
    go_loop [3] (fun i => ∃ k : Nat, i = .int .i64 (k : Int) ∧ k ≤ len ∧ Hid (∀ t ∈ l.take k, t.length ≤ 100)) (fun i => len - (intOf i).toNat)
    case atStart => exact ⟨0, rfl, Nat.zero_le _, fun t ht => by simp at ht⟩
    case round =>
      obtain ⟨k, rfl, hk, HK⟩ := hrel
      have hnn := HN.out
      by_cases hlt : k < len
      · rcases ha with rfl | ⟨b, o, rfl, hat⟩
        · simp at hnn; omega
        have hkl : k < l.length := by omega
        have c1 := hat k _ (List.getElem?_eq_getElem hkl)
        obtain ⟨t, ht⟩ : ∃ t, l[k] = t := ⟨_, rfl⟩
        have HT : Hid (l[k] = t) := ht
        rw [ht] at c1
        obtain ⟨s, hse⟩ : ∃ s : ByteArray, ⟨t.toArray⟩ = s := ⟨_, rfl⟩
        have hst : t.length = s.size := by rw [← hse]; simp [ByteArray.size]
        have HST : Hid (t.length = s.size) := hst
        have c2 : w.cell? ⟨b, o + k, none⟩ = some (.string s) := by rw [← hse]; exact c1
        clear hat ht hse hst c1 hnn
        by_cases h100 : s.size ≤ 100
        · have h1 : ¬ (100 : Int) < (s.size : Int) := by omega
          go_wp2
          go_round
          case rel => exact ⟨k + 1, by go_num, by omega, fun t' ht' => by
            rw [List.take_succ_eq_append_getElem hkl, HT.out] at ht'
            rcases List.mem_append.1 ht' with h | h
            · exact HK.out t' h
            · rw [List.mem_singleton.1 h, HST.out]; exact h100⟩
          case measure => simp [intOf]; omega
        · have h1 : (100 : Int) < (s.size : Int) := by omega
          go_wp2
          go_ret
          refine ⟨?_, rfl⟩
          rw [← HR.out]
          have : (l.all fun t => decide (t.length ≤ 100)) = false := by
            rw [List.all_eq_false]
            exact ⟨t, by rw [← HT.out]; exact List.getElem_mem _, by rw [HST.out]; simpa using h100⟩
          rw [this]; rfl
      · clear ha
        go_wp2
        go_ret
        refine ⟨?_, rfl⟩
        rw [← HR.out]
        have : (l.all fun t => decide (t.length ≤ 100)) = true := by
          rw [List.all_eq_true]
          intro t ht
          have := HK.out t (by rw [List.take_of_length_le (by omega)]; exact ht)
          simpa using this
        rw [this]; rfl
  · rw [decide_eq_false hl, Bool.false_and] at hR
    subst hR
    have hl' : (40 : Int) < (l.length : Int) := by omega
    go_enter Tryz.func7, Tryz.ntmps7
    go_wp2
    go_ret
    exact ⟨rfl, rfl⟩
end Go.Proofs.YtligkpcoajnjmaaGreatDoorR
namespace Go.Proofs.YtligkpcoajnjmaaGreatDoorR
open Go.RowKit Go.Proofs.Aid Go.Proofs.Sq Go.Proofs.Hd

def lookL : List Sr.Ar := [.mk 1 [117, 110, 115, 101, 101, 110] [], .mk 1 [108, 97, 114, 103, 101, 114] [], .mk 1 [50] []]
def lookK : Sr.Ky := .mk 15 [] [] 0 [] [.mk 13 [] [] 0 [] [.mk 2 [92, 83, 101, 101, 110] [] 0 [] []], .mk 6 [] [] 2 [] []]
theorem look_parse : Sr.parseK lookL = .ok lookK [] 2 := by kernel_rfl
def lookM (t : Sr.Tx) : Sr.Lt := ⟨1, [], 0, t, 1, 1, 1⟩
theorem look_yes : Sr.holdsK (lookM [97, 98, 99]) lookK = true := by simp [lookK, lookM, Sr.holdsK, Sr.allK, Sr.notFirst]
theorem look_no : Sr.holdsK (lookM [97, 98]) lookK = false := by simp [lookK, lookM, Sr.holdsK, Sr.allK, Sr.notFirst]
theorem look_fit : Fit FlagL 900 lookK := by
  have : Fit FlagL 3 lookK := by
    refine ⟨by simp, by simp, Or.inr ⟨Or.inr (Or.inr rfl), fun k hk => ?_⟩⟩
    rcases List.mem_cons.1 hk with rfl | hk
    · refine ⟨by simp, by simp, Or.inr ⟨Or.inl ⟨rfl, by simp⟩, fun k hk => ?_⟩⟩
      obtain rfl := List.mem_singleton.1 hk
      exact ⟨by simp, by simp, Or.inl (Or.inl rfl)⟩
    · obtain rfl := List.mem_singleton.1 hk
      exact ⟨by simp, by simp, Or.inl (Or.inr (Or.inr (Or.inl rfl)))⟩
  exact this.le (by omega)
theorem look_args (w : World) : Ags (w.alloc (.cells #[.int .i64 1, .string ⟨#[117, 110, 115, 101, 101, 110]⟩, .slice none 0 0, .int .i64 1, .string ⟨#[108, 97, 114, 103, 101, 114]⟩, .slice none 0 0, .int .i64 1, .string ⟨#[50]⟩, .slice none 0 0] 41)) (fun k => k = w.heap.size) 100 lookL (.slice (some ⟨w.heap.size, 0, none⟩) 3 3) := by
  have e := heap_alloc_new w (.cells #[.int .i64 1, .string ⟨#[117, 110, 115, 101, 101, 110]⟩, .slice none 0 0, .int .i64 1, .string ⟨#[108, 97, 114, 103, 101, 114]⟩, .slice none 0 0, .int .i64 1, .string ⟨#[50]⟩, .slice none 0 0] 41)
  have nil : ∀ W Ok, Ags W Ok 100 [] (.slice none 0 0) := fun W Ok => Ags.mk [] none 0 (fun _ => ⟨#[]⟩) (fun _ => .nilIface) (by simp) (by omega) (fun j x hj => by simp at hj) (fun j x hj => by simp at hj) (Or.inl rfl)
  refine Ags.mk lookL _ 3 (fun j => if j = 0 then ⟨#[117, 110, 115, 101, 101, 110]⟩ else if j = 1 then ⟨#[108, 97, 114, 103, 101, 114]⟩ else ⟨#[50]⟩) (fun _ => .slice none 0 0) (by simp [lookL]) (by omega) ?_ ?_ (Or.inr ⟨w.heap.size, 0, rfl, rfl, ?_⟩)
  · intro j x hj
    match j, hj with
    | 0, hj => obtain rfl := Option.some.inj hj; exact ⟨rfl, by decide⟩
    | 1, hj => obtain rfl := Option.some.inj hj; exact ⟨rfl, by decide⟩
    | 2, hj => obtain rfl := Option.some.inj hj; exact ⟨rfl, by decide⟩
    | j + 3, hj => simp [lookL] at hj
  · intro j x hj
    match j, hj with
    | 0, hj => obtain rfl := Option.some.inj hj; exact nil _ _
    | 1, hj => obtain rfl := Option.some.inj hj; exact nil _ _
    | 2, hj => obtain rfl := Option.some.inj hj; exact nil _ _
    | j + 3, hj => simp [lookL] at hj
  · intro j x hj
    match j, hj with
    | 0, hj => obtain rfl := Option.some.inj hj; exact ⟨rd_cell e rfl, rd_cell e rfl, rd_cell e rfl⟩
    | 1, hj => obtain rfl := Option.some.inj hj; exact ⟨rd_cell e rfl, rd_cell e rfl, rd_cell e rfl⟩
    | 2, hj => obtain rfl := Option.some.inj hj; exact ⟨rd_cell e rfl, rd_cell e rfl, rd_cell e rfl⟩
    | j + 3, hj => simp [lookL] at hj
theorem look_holds (tb : ByteArray) (t : Sr.Tx) (A : Bool) (ht : tb.data.toList = t) (hA : Sr.holdsK (lookM t) lookK = A) (Ok : Nat → Prop) (ys : List Value) (w : World) (hk : Kx w Ok lookK ys) :
    Calls Tryz.prog 11 #[.agg ys.toArray, .agg #[.int .i64 1, .slice none 0 0, .int .i64 0, .string tb], .int .i64 1, .agg #[.int .i64 1, .int .i64 1]] w fun e w' => e = .returned (.bool A) ∧ Below w.heap.size w w' := by
  rw [← hA]
  exact holds_is (lookM t) FlagL Ok lookK ys tb none 0 0 w ht look_fit hk (flag_leafs (lookM t) Ok tb none 0 0 w ht ⟨rfl, Or.inl rfl⟩ (by simp [lookM]))
set_option maxHeartbeats 2000000 in
set_option maxRecDepth 100000 in
theorem looked_is (w : World) (hg : ∀ W, Below w.heap.size w W → SysAt W ∧ ErrType W ∧ NumAt W ∧ ∃ m, W.cell? ⟨1, 0, none⟩ = some (.int .i64 m)) :
    Calls Tryz.prog 8 #[] w fun e w' => e = .returned (.bool true) ∧ Below w.heap.size w w' := by
  obtain ⟨W1, hW1⟩ : ∃ W, w.alloc (.cells #[.int .i64 1, .string ⟨#[117, 110, 115, 101, 101, 110]⟩, .slice none 0 0, .int .i64 1, .string ⟨#[108, 97, 114, 103, 101, 114]⟩, .slice none 0 0, .int .i64 1, .string ⟨#[50]⟩, .slice none 0 0] 41) = W := ⟨_, rfl⟩
  have hb1 : Below w.heap.size w W1 := by rw [← hW1]; exact (Below.refl _ _).alloc (Nat.le_refl _) _
  have ha := look_args w
  rw [hW1] at ha
  have cP := sparse_is 100 lookL _ _ W1 (by omega) ha (fun k hk => by rw [hk, ← hW1]; simp) (fun W hW => hg W (hb1.trans (hW.mono hb1.size)))
  rw [look_parse] at cP
  have HB1 : Hid (Below w.heap.size w W1) := hb1
  clear hg ha hb1
  go_enter Tryz.func8, Tryz.ntmps8
  go_wp2_with fail
  refine cP.mono ?_
  rintro e w2 ⟨ys, rfl, hk2, hb2⟩
  have hb02 := HB1.out.trans (hb2.mono HB1.out.size)
  clear cP
  obtain ⟨x0, x3, x1, x2, xa, xk, xc, ya, yk, yc, rfl⟩ := kx_cells hk2
  rw [show ([.int .i64 x0, .string x1, .string x2, .int .i64 x3, .slice xa xk xc, .slice ya yk yc] : List Value).toArray = #[.int .i64 x0, .string x1, .string x2, .int .i64 x3, .slice xa xk xc, .slice ya yk yc] from rfl]
  have e3 := heap_alloc_new w2 (.cells #[.int .i64 x0, .string x1, .string x2, .int .i64 x3, .slice xa xk xc, .slice ya yk yc] 33)
  have hb23 : Below w2.heap.size w2 (w2.alloc (.cells #[.int .i64 x0, .string x1, .string x2, .int .i64 x3, .slice xa xk xc, .slice ya yk yc] 33)) := (Below.refl _ _).alloc (Nat.le_refl _) _
  have hk3 := hk2.under hb23
  have cY := look_holds ⟨#[97, 98, 99]⟩ [97, 98, 99] true rfl look_yes _ _ _ hk3
  have HC : Hid (Below w.heap.size w w2 ∧ (w2.alloc (.cells #[.int .i64 x0, .string x1, .string x2, .int .i64 x3, .slice xa xk xc, .slice ya yk yc] 33)).heap[w2.heap.size]? = some (.cells #[.int .i64 x0, .string x1, .string x2, .int .i64 x3, .slice xa xk xc, .slice ya yk yc] 33 (0, 0)) ∧ Below w2.heap.size w2 (w2.alloc (.cells #[.int .i64 x0, .string x1, .string x2, .int .i64 x3, .slice xa xk xc, .slice ya yk yc] 33)) ∧ Kx (w2.alloc (.cells #[.int .i64 x0, .string x1, .string x2, .int .i64 x3, .slice xa xk xc, .slice ya yk yc] 33)) (fun q => W1.heap.size ≤ q) lookK [.int .i64 x0, .string x1, .string x2, .int .i64 x3, .slice xa xk xc, .slice ya yk yc]) := ⟨hb02, e3, hb23, hk3⟩
  clear hb02 e3 hb23 hk3 hk2 hb2
  rw [show ([.int .i64 x0, .string x1, .string x2, .int .i64 x3, .slice xa xk xc, .slice ya yk yc] : List Value).toArray = #[.int .i64 x0, .string x1, .string x2, .int .i64 x3, .slice xa xk xc, .slice ya yk yc] from rfl] at cY
  go_wp2_with fail
  refine cY.mono ?_
  rintro e w4 ⟨rfl, hb4⟩
  obtain ⟨hb02, e3, hb23, hk3⟩ := HC.out
  have e4 := (hb4.block w2.heap.size (Array.getElem?_eq_some_iff.1 e3).1).trans e3
  have k0 : w4.cell? ⟨w2.heap.size, 0, none⟩ = some (.int .i64 x0) := rd_cell e4 rfl
  have k1 : w4.cell? ⟨w2.heap.size, 1, none⟩ = some (.string x1) := rd_cell e4 rfl
  have k2 : w4.cell? ⟨w2.heap.size, 2, none⟩ = some (.string x2) := rd_cell e4 rfl
  have k3 : w4.cell? ⟨w2.heap.size, 3, none⟩ = some (.int .i64 x3) := rd_cell e4 rfl
  have k4 : w4.cell? ⟨w2.heap.size, 4, none⟩ = some (.slice xa xk xc) := rd_cell e4 rfl
  have k5 : w4.cell? ⟨w2.heap.size, 5, none⟩ = some (.slice ya yk yc) := rd_cell e4 rfl
  have cN := look_holds ⟨#[97, 98]⟩ [97, 98] false rfl look_no _ _ _ (hk3.under hb4)
  rw [show ([.int .i64 x0, .string x1, .string x2, .int .i64 x3, .slice xa xk xc, .slice ya yk yc] : List Value).toArray = #[.int .i64 x0, .string x1, .string x2, .int .i64 x3, .slice xa xk xc, .slice ya yk yc] from rfl] at cN
  have HB4 : Hid (Below w.heap.size w w4) := (hb02.trans (hb23.mono hb02.size)).trans (hb4.mono (Nat.le_trans hb02.size hb23.size))
  clear cY HC hb02 e3 hb23 hk3 e4 hb4
  go_wp2_with fail
  refine cN.mono ?_
  rintro e w5 ⟨rfl, hb5⟩
  have HB5 : Hid (Below w.heap.size w w5) := HB4.out.trans (hb5.mono HB4.out.size)
  clear cN hb5
  go_wp2_with fail
  go_ret
  exact ⟨rfl, HB5.out⟩
end Go.Proofs.YtligkpcoajnjmaaGreatDoorR
namespace Go.Proofs.YtligkpcoajnjmaaGreatDoorR
open Go.RowKit Go.Proofs.Aid Go.Proofs.Sq Go.Proofs.Hd

theorem aw_nil (w : World) : Aw w [] (.slice none 0 0) := Ags.mk [] none 0 (fun _ => ⟨#[]⟩) (fun _ => .slice none 0 0) (by simp) (by omega) (fun j x hj => by simp at hj) (fun j x hj => by simp at hj) (Or.inl rfl)
theorem aw_1 (x0 : Sr.Ar) (t0 : ByteArray) (v0 : Value) (w : World) (h0 : t0.data.toList = x0.text) (z0 : t0.size ≤ 2000000) (a0 : Aw w x0.list v0) :
    Aw (w.alloc (.cells #[.int .i64 x0.kind, .string t0, v0] 41)) [x0] (.slice (some ⟨w.heap.size, 0, none⟩) 1 1) := by
  have hb : Below w.heap.size w (w.alloc (.cells #[.int .i64 x0.kind, .string t0, v0] 41)) := (Below.refl _ _).alloc (Nat.le_refl _) _
  refine Ags.mk [x0] _ 1 (fun j => t0) (fun j => v0) (by simp) (by omega) (fun j x hj => ?_) (fun j x hj => ?_) (Or.inr ⟨w.heap.size, 0, rfl, by simp, fun j x hj => ?_⟩)
  · match j, hj with
    | 0, hj => obtain rfl := Option.some.inj hj; exact ⟨h0, z0⟩
    | j + 1, hj => simp at hj
  · match j, hj with
    | 0, hj => obtain rfl := Option.some.inj hj; exact a0.below hb
    | j + 1, hj => simp at hj
  · match j, hj with
    | 0, hj => obtain rfl := Option.some.inj hj; exact ⟨rd_cell (heap_alloc_new w _) rfl, rd_cell (heap_alloc_new w _) rfl, rd_cell (heap_alloc_new w _) rfl⟩
    | j + 1, hj => simp at hj
theorem aw_2 (x0 x1 : Sr.Ar) (t0 t1 : ByteArray) (v0 v1 : Value) (w : World) (h0 : t0.data.toList = x0.text) (z0 : t0.size ≤ 2000000) (a0 : Aw w x0.list v0) (h1 : t1.data.toList = x1.text) (z1 : t1.size ≤ 2000000) (a1 : Aw w x1.list v1) :
    Aw (w.alloc (.cells #[.int .i64 x0.kind, .string t0, v0, .int .i64 x1.kind, .string t1, v1] 41)) [x0, x1] (.slice (some ⟨w.heap.size, 0, none⟩) 2 2) := by
  have hb : Below w.heap.size w (w.alloc (.cells #[.int .i64 x0.kind, .string t0, v0, .int .i64 x1.kind, .string t1, v1] 41)) := (Below.refl _ _).alloc (Nat.le_refl _) _
  refine Ags.mk [x0, x1] _ 2 (fun j => if j = 0 then t0 else t1) (fun j => if j = 0 then v0 else v1) (by simp) (by omega) (fun j x hj => ?_) (fun j x hj => ?_) (Or.inr ⟨w.heap.size, 0, rfl, by simp, fun j x hj => ?_⟩)
  · match j, hj with
    | 0, hj => obtain rfl := Option.some.inj hj; exact ⟨h0, z0⟩
    | 1, hj => obtain rfl := Option.some.inj hj; exact ⟨h1, z1⟩
    | j + 2, hj => simp at hj
  · match j, hj with
    | 0, hj => obtain rfl := Option.some.inj hj; exact a0.below hb
    | 1, hj => obtain rfl := Option.some.inj hj; exact a1.below hb
    | j + 2, hj => simp at hj
  · match j, hj with
    | 0, hj => obtain rfl := Option.some.inj hj; exact ⟨rd_cell (heap_alloc_new w _) rfl, rd_cell (heap_alloc_new w _) rfl, rd_cell (heap_alloc_new w _) rfl⟩
    | 1, hj => obtain rfl := Option.some.inj hj; exact ⟨rd_cell (heap_alloc_new w _) rfl, rd_cell (heap_alloc_new w _) rfl, rd_cell (heap_alloc_new w _) rfl⟩
    | j + 2, hj => simp at hj
theorem aw_3 (x0 x1 x2 : Sr.Ar) (t0 t1 t2 : ByteArray) (v0 v1 v2 : Value) (w : World) (h0 : t0.data.toList = x0.text) (z0 : t0.size ≤ 2000000) (a0 : Aw w x0.list v0) (h1 : t1.data.toList = x1.text) (z1 : t1.size ≤ 2000000) (a1 : Aw w x1.list v1) (h2 : t2.data.toList = x2.text) (z2 : t2.size ≤ 2000000) (a2 : Aw w x2.list v2) :
    Aw (w.alloc (.cells #[.int .i64 x0.kind, .string t0, v0, .int .i64 x1.kind, .string t1, v1, .int .i64 x2.kind, .string t2, v2] 41)) [x0, x1, x2] (.slice (some ⟨w.heap.size, 0, none⟩) 3 3) := by
  have hb : Below w.heap.size w (w.alloc (.cells #[.int .i64 x0.kind, .string t0, v0, .int .i64 x1.kind, .string t1, v1, .int .i64 x2.kind, .string t2, v2] 41)) := (Below.refl _ _).alloc (Nat.le_refl _) _
  refine Ags.mk [x0, x1, x2] _ 3 (fun j => if j = 0 then t0 else if j = 1 then t1 else t2) (fun j => if j = 0 then v0 else if j = 1 then v1 else v2) (by simp) (by omega) (fun j x hj => ?_) (fun j x hj => ?_) (Or.inr ⟨w.heap.size, 0, rfl, by simp, fun j x hj => ?_⟩)
  · match j, hj with
    | 0, hj => obtain rfl := Option.some.inj hj; exact ⟨h0, z0⟩
    | 1, hj => obtain rfl := Option.some.inj hj; exact ⟨h1, z1⟩
    | 2, hj => obtain rfl := Option.some.inj hj; exact ⟨h2, z2⟩
    | j + 3, hj => simp at hj
  · match j, hj with
    | 0, hj => obtain rfl := Option.some.inj hj; exact a0.below hb
    | 1, hj => obtain rfl := Option.some.inj hj; exact a1.below hb
    | 2, hj => obtain rfl := Option.some.inj hj; exact a2.below hb
    | j + 3, hj => simp at hj
  · match j, hj with
    | 0, hj => obtain rfl := Option.some.inj hj; exact ⟨rd_cell (heap_alloc_new w _) rfl, rd_cell (heap_alloc_new w _) rfl, rd_cell (heap_alloc_new w _) rfl⟩
    | 1, hj => obtain rfl := Option.some.inj hj; exact ⟨rd_cell (heap_alloc_new w _) rfl, rd_cell (heap_alloc_new w _) rfl, rd_cell (heap_alloc_new w _) rfl⟩
    | 2, hj => obtain rfl := Option.some.inj hj; exact ⟨rd_cell (heap_alloc_new w _) rfl, rd_cell (heap_alloc_new w _) rfl, rd_cell (heap_alloc_new w _) rfl⟩
    | j + 3, hj => simp at hj
theorem ask_ok {m : Sr.Lt} {l : List Sr.Ar} (h : askO l = true) : ∃ k r c, Sr.parseK l = .ok k r c ∧ askH m l = Sr.holdsK m k := by
  unfold askO at h
  cases hp : Sr.parseK l with
  | bad n => rw [hp] at h; cases h
  | ok k r c => exact ⟨k, r, c, rfl, by unfold askH; rw [hp]⟩
theorem law_not {m : Sr.Lt} {w : Sr.Tx} {a : List Sr.Ar} (hw : Hd.great w = Sr.wNot) (ha : askO a = true) (h : askO [Sr.wd w, Sr.la a] = true) : askH m [Sr.wd w, Sr.la a] = !askH m a := by
  obtain ⟨ka, _, _, pa, ea⟩ := ask_ok (m := m) ha
  obtain ⟨k, _, _, p, e⟩ := ask_ok (m := m) h
  rw [e, ea, Sr.alg_not hw p pa, Sr.holds_not]
theorem law_and {m : Sr.Lt} {a b : List Sr.Ar} (ha : askO a = true) (hb : askO b = true) (h : askO [Sr.la a, Sr.la b] = true) : askH m [Sr.la a, Sr.la b] = (askH m a && askH m b) := by
  obtain ⟨ka, _, _, pa, ea⟩ := ask_ok (m := m) ha
  obtain ⟨kb, _, _, pb, eb⟩ := ask_ok (m := m) hb
  obtain ⟨k, _, _, p, e⟩ := ask_ok (m := m) h
  rw [e, ea, eb, Sr.alg_and p pa pb, Sr.holds_and]
theorem law_or {m : Sr.Lt} {w : Sr.Tx} {a b : List Sr.Ar} (hw : Hd.great w = Sr.wOr) (ha : askO a = true) (hb : askO b = true) (h : askO [Sr.wd w, Sr.la a, Sr.la b] = true) : askH m [Sr.wd w, Sr.la a, Sr.la b] = (askH m a || askH m b) := by
  obtain ⟨ka, _, _, pa, ea⟩ := ask_ok (m := m) ha
  obtain ⟨kb, _, _, pb, eb⟩ := ask_ok (m := m) hb
  obtain ⟨k, _, _, p, e⟩ := ask_ok (m := m) h
  rw [e, ea, eb, Sr.alg_or hw p pa pb, Sr.holds_or]
theorem law_none {m : Sr.Lt} {w v : Sr.Tx} {a b : List Sr.Ar} (hw : Hd.great w = Sr.wNot) (hv : Hd.great v = Sr.wOr) (ha : askO a = true) (hb : askO b = true) (h : askO [Sr.wd w, Sr.la [Sr.wd v, Sr.la a, Sr.la b]] = true) :
    askH m [Sr.wd w, Sr.la [Sr.wd v, Sr.la a, Sr.la b]] = !(askH m a || askH m b) := by
  obtain ⟨ka, _, _, pa, ea⟩ := ask_ok (m := m) ha
  obtain ⟨kb, _, _, pb, eb⟩ := ask_ok (m := m) hb
  obtain ⟨k, _, _, p, e⟩ := ask_ok (m := m) h
  rw [e, ea, eb, Sr.alg_none hw hv p pa pb, Sr.holds_not, Sr.holds_or]
theorem law_all {m : Sr.Lt} {w : Sr.Tx} (hw : Hd.great w = Sr.wAll) : askH m [Sr.wd w] = true ∧ askO [Sr.wd w] = true := by
  unfold askH askO
  rw [Sr.alg_all hw]
  refine ⟨?_, rfl⟩
  show Sr.holdsK m (.mk 1 [] [] 0 [] []) = true
  rw [Sr.holdsK]
  simp
end Go.Proofs.YtligkpcoajnjmaaGreatDoorR
