/-
  What (message).is of package search does at a flag.
  Two that are not seen: the fact that search's statements begin with.
-/
import Derived.Test.YtligkpcoajnjmaaGreatDoorRNu18
import Derived.Test.YtligkpcoajnjmaaGreatDoorRNu35
namespace Go.Proofs.YtligkpcoajnjmaaGreatDoorR
open Go.RowKit Go.Proofs.Aid Go.Proofs.Sq Go.Proofs.Hd

/-- Texts that stand in a row. -/
def Trow (w : World) (fa : Option Addr) (fn : Nat) (l : List Sr.Tx) : Prop := fn = l.length ∧ (l = [] ∨ ∃ b o, fa = some ⟨b, o, none⟩ ∧ ∀ (j : Nat) t, l[j]? = some t → w.cell? ⟨b, o + j, none⟩ = some (.string ⟨t.toArray⟩))
theorem Trow.below {w w' : World} {fa : Option Addr} {fn : Nat} {l : List Sr.Tx} (h : Trow w fa fn l) (hb : Below w.heap.size w w') : Trow w' fa fn l := by
  obtain ⟨h1, h2⟩ := h
  refine ⟨h1, h2.imp id ?_⟩
  rintro ⟨b, o, h3, h4⟩
  exact ⟨b, o, h3, fun j t hj => (hb.cell (World.block_lt_of_cell? _ _ (h4 j t hj))).trans (h4 j t hj)⟩
theorem trow_has (l : List Sr.Tx) (x : ByteArray) : Lib.containsS (l.map fun t => (⟨t.toArray⟩ : ByteArray)) x = l.contains x.data.toList := by
  rw [Bool.eq_iff_iff, Lib.containsS_iff, List.contains_iff_mem, List.mem_map]
  constructor
  · rintro ⟨t, ht, h⟩
    have : t = x.data.toList := by simpa using congrArg (fun s : ByteArray => s.data.toList) h
    rw [← this]; exact ht
  · intro h; exact ⟨_, h, rfl⟩
theorem has_trow (fa : Option Addr) (fn fc : Nat) (l : List Sr.Tx) (x : ByteArray) (w : World) (h : Trow w fa fn l) (hl : l.length ≤ 1000) :
    Calls Tryz.prog 102 #[.slice fa fn fc, .string x] w fun e w' => e = .returned (.bool (l.contains x.data.toList)) ∧ w' = w := by
  obtain ⟨rfl, h⟩ := h
  rcases h with rfl | ⟨b, o, rfl, hat⟩
  · exact Tryz.slices_Contains_string_empty fa fc x w
  · have := Tryz.slices_Contains_string b o l.length fc (l.map fun t => (⟨t.toArray⟩ : ByteArray)) x w (by rw [List.length_map]; exact Nat.le_refl _) (by omega) (fun j hj => by
      rw [List.length_map] at hj
      rw [hat j _ (List.getElem?_eq_getElem hj), List.getD_eq_getElem?_getD, List.getElem?_map, List.getElem?_eq_getElem hj]
      rfl)
    rw [List.take_of_length_le (by rw [List.length_map]; exact Nat.le_refl _), trow_has] at this
    exact this
set_option maxHeartbeats 2000000 in
set_option maxRecDepth 100000 in
theorem is_2 (m : Sr.Lt) (name text : Sr.Tx) (n : Int) (set : List (Nat × Nat)) (keys : List Sr.Ky) (ys : List Value) (Ok : Nat → Prop) (d : Nat) (tb : ByteArray) (fa : Option Addr) (fn fc : Nat) (w : World) (hk : Kx w Ok (.mk 2 name text n set keys) ys) (hd : d ≤ 1000) (hF : Trow w fa fn m.flags) (hFl : m.flags.length ≤ 1000) :
    Calls Tryz.prog 45 #[.agg #[.int .i64 m.uid, .slice fa fn fc, .int .i64 m.day, .string tb, .int .i64 m.which, .int .i64 m.many, .int .i64 m.greatest], .agg ys.toArray, .int .i64 (d : Int)] w fun e w' => e = .returned (.bool (m.flags.contains name)) ∧ Below w.heap.size w w' := by
  cases hk with
  | mk code n nb tx set sv ks a c rows hst hkk ha =>
    obtain ⟨sa, sc, rfl, _⟩ := hst
    obtain ⟨SN, hSN⟩ : ∃ n, set.length = n := ⟨_, rfl⟩
    obtain ⟨KN, hKN⟩ : ∃ n, keys.length = n := ⟨_, rfl⟩
    rw [hSN, hKN, show ([.int .i64 2, .string nb, .string tx, .int .i64 n, .slice sa SN sc, .slice a KN c] : List Value).toArray = #[.int .i64 2, .string nb, .string tx, .int .i64 n, .slice sa SN sc, .slice a KN c] from rfl]
    have dd : decide ((65536 : Int) < (d : Int)) = false := decide_eq_false (by omega)
    obtain ⟨W2, hW2, hz2, e1, e2, hb2⟩ := two_boxes w #[.int .i64 m.uid, .slice fa fn fc, .int .i64 m.day, .string tb, .int .i64 m.which, .int .i64 m.many, .int .i64 m.greatest] #[.int .i64 2, .string nb, .string tx, .int .i64 n, .slice sa SN sc, .slice a KN c] 103 33
    have r1 : W2.cell? ⟨w.heap.size, 1, none⟩ = some (.slice fa fn fc) := rd_cell e1 rfl
    have r3 : W2.cell? ⟨w.heap.size, 3, none⟩ = some (.string tb) := rd_cell e1 rfl
    have k0 : W2.cell? ⟨w.heap.size + 1, 0, none⟩ = some (.int .i64 2) := rd_cell e2 rfl
    have k1 : W2.cell? ⟨w.heap.size + 1, 1, none⟩ = some (.string nb) := rd_cell e2 rfl
    have HB2 : Hid (Below w.heap.size w W2) := hb2
    have cH := has_trow fa fn fc m.flags nb W2 (hF.below hb2) hFl
    obtain ⟨A, hA⟩ : ∃ A, m.flags.contains nb.data.toList = A := ⟨_, rfl⟩
    rw [hA] at cH ⊢
    clear e1 e2 hkk ha hb2 hKN hSN hF hFl hA
    go_enter Tryz.func45, Tryz.ntmps45
    go_wp2_with fail
    refine cH.mono ?_
    rintro e w3 ⟨rfl, rfl⟩
    clear cH
    go_wp2_with fail
    go_ret
    exact ⟨rfl, HB2.out⟩
/-- The leaves that look at numbers and flags. -/
def FlagL (code : Int) : Prop := code = 2 ∨ NumL code
theorem flag_leafs (m : Sr.Lt) (Ok : Nat → Prop) (tb : ByteArray) (fa : Option Addr) (fn fc : Nat) (w0 : World) (htb : tb.data.toList = m.text) (hF : Trow w0 fa fn m.flags) (hFl : m.flags.length ≤ 1000) : Leafs m [.int .i64 m.uid, .slice fa fn fc, .int .i64 m.day, .string tb, .int .i64 m.which, .int .i64 m.many, .int .i64 m.greatest] FlagL Ok w0 := by
  intro code name text n set keys ys d W hc h0 hk hd hs
  rcases hc with rfl | hc
  · rw [show Sr.holdsK m (.mk 2 name text n set keys) = m.flags.contains name by rw [Sr.holdsK]; simp]
    exact is_2 m name text n set keys ys Ok d tb fa fn fc W hk hd (hF.below h0) hFl
  · exact num_leafs m _ Ok w0 ⟨tb, fa, fn, fc, rfl, htb⟩ code name text n set keys ys d W hc h0 hk hd hs
end Go.Proofs.YtligkpcoajnjmaaGreatDoorR
namespace Go.Proofs.YtligkpcoajnjmaaGreatDoorR
open Go.RowKit Go.Proofs.Aid Go.Proofs.Sq Go.Proofs.Hd

def lookL : List Sr.Ar := [.mk 1 [117, 110, 115, 101, 101, 110] [], .mk 1 [108, 97, 114, 103, 101, 114] [], .mk 1 [50] []]
def lookK : Sr.Ky := .mk 15 [] [] 0 [] [.mk 13 [] [] 0 [] [.mk 2 [92, 83, 101, 101, 110] [] 0 [] []], .mk 6 [] [] 2 [] []]
theorem look_parse : Sr.parseK lookL = .ok lookK [] 2 := by kernel_rfl
def lookM (t : Sr.Tx) : Sr.Lt := ⟨1, [], 0, t, 1, 1, 1⟩
theorem look_yes : Sr.holdsK (lookM [97, 98, 99]) lookK = true := by simp [lookK, lookM, Sr.holdsK, Sr.allK, Sr.notFirst]
theorem look_no : Sr.holdsK (lookM [97, 98]) lookK = false := by simp [lookK, lookM, Sr.holdsK, Sr.allK, Sr.notFirst]
theorem look_fit : Fit FlagL 900 lookK := by
  have : Fit FlagL 3 lookK := by
    refine ⟨by simp, by simp, Or.inr ⟨Or.inr (Or.inr rfl), fun k hk => ?_⟩⟩
    rcases List.mem_cons.1 hk with rfl | hk
    · refine ⟨by simp, by simp, Or.inr ⟨Or.inl ⟨rfl, by simp⟩, fun k hk => ?_⟩⟩
      obtain rfl := List.mem_singleton.1 hk
      exact ⟨by simp, by simp, Or.inl (Or.inl rfl)⟩
    · obtain rfl := List.mem_singleton.1 hk
      exact ⟨by simp, by simp, Or.inl (Or.inr (Or.inr (Or.inl rfl)))⟩
  exact this.le (by omega)
theorem look_args (w : World) : Ags (w.alloc (.cells #[.int .i64 1, .string ⟨#[117, 110, 115, 101, 101, 110]⟩, .slice none 0 0, .int .i64 1, .string ⟨#[108, 97, 114, 103, 101, 114]⟩, .slice none 0 0, .int .i64 1, .string ⟨#[50]⟩, .slice none 0 0] 41)) (fun k => k = w.heap.size) 100 lookL (.slice (some ⟨w.heap.size, 0, none⟩) 3 3) := by
  have e := heap_alloc_new w (.cells #[.int .i64 1, .string ⟨#[117, 110, 115, 101, 101, 110]⟩, .slice none 0 0, .int .i64 1, .string ⟨#[108, 97, 114, 103, 101, 114]⟩, .slice none 0 0, .int .i64 1, .string ⟨#[50]⟩, .slice none 0 0] 41)
  have nil : ∀ W Ok, Ags W Ok 100 [] (.slice none 0 0) := fun W Ok => Ags.mk [] none 0 (fun _ => ⟨#[]⟩) (fun _ => .nilIface) (by simp) (by omega) (fun j x hj => by simp at hj) (fun j x hj => by simp at hj) (Or.inl rfl)
  refine Ags.mk lookL _ 3 (fun j => if j = 0 then ⟨#[117, 110, 115, 101, 101, 110]⟩ else if j = 1 then ⟨#[108, 97, 114, 103, 101, 114]⟩ else ⟨#[50]⟩) (fun _ => .slice none 0 0) (by simp [lookL]) (by omega) ?_ ?_ (Or.inr ⟨w.heap.size, 0, rfl, rfl, ?_⟩)
  · intro j x hj
    match j, hj with
    | 0, hj => obtain rfl := Option.some.inj hj; exact ⟨rfl, by decide⟩
    | 1, hj => obtain rfl := Option.some.inj hj; exact ⟨rfl, by decide⟩
    | 2, hj => obtain rfl := Option.some.inj hj; exact ⟨rfl, by decide⟩
    | j + 3, hj => simp [lookL] at hj
  · intro j x hj
    match j, hj with
    | 0, hj => obtain rfl := Option.some.inj hj; exact nil _ _
    | 1, hj => obtain rfl := Option.some.inj hj; exact nil _ _
    | 2, hj => obtain rfl := Option.some.inj hj; exact nil _ _
    | j + 3, hj => simp [lookL] at hj
  · intro j x hj
    match j, hj with
    | 0, hj => obtain rfl := Option.some.inj hj; exact ⟨rd_cell e rfl, rd_cell e rfl, rd_cell e rfl⟩
    | 1, hj => obtain rfl := Option.some.inj hj; exact ⟨rd_cell e rfl, rd_cell e rfl, rd_cell e rfl⟩
    | 2, hj => obtain rfl := Option.some.inj hj; exact ⟨rd_cell e rfl, rd_cell e rfl, rd_cell e rfl⟩
    | j + 3, hj => simp [lookL] at hj
theorem look_holds (tb : ByteArray) (t : Sr.Tx) (A : Bool) (ht : tb.data.toList = t) (hA : Sr.holdsK (lookM t) lookK = A) (Ok : Nat → Prop) (ys : List Value) (w : World) (hk : Kx w Ok lookK ys) :
    Calls Tryz.prog 11 #[.agg ys.toArray, .agg #[.int .i64 1, .slice none 0 0, .int .i64 0, .string tb], .int .i64 1, .agg #[.int .i64 1, .int .i64 1]] w fun e w' => e = .returned (.bool A) ∧ Below w.heap.size w w' := by
  rw [← hA]
  exact holds_is (lookM t) FlagL Ok lookK ys tb none 0 0 w ht look_fit hk (flag_leafs (lookM t) Ok tb none 0 0 w ht ⟨rfl, Or.inl rfl⟩ (by simp [lookM]))
set_option maxHeartbeats 2000000 in
set_option maxRecDepth 100000 in
theorem looked_is (w : World) (hg : ∀ W, Below w.heap.size w W → SysAt W ∧ ErrType W ∧ NumAt W ∧ ∃ m, W.cell? ⟨1, 0, none⟩ = some (.int .i64 m)) :
    Calls Tryz.prog 8 #[] w fun e w' => e = .returned (.bool true) ∧ Below w.heap.size w w' := by
  obtain ⟨W1, hW1⟩ : ∃ W, w.alloc (.cells #[.int .i64 1, .string ⟨#[117, 110, 115, 101, 101, 110]⟩, .slice none 0 0, .int .i64 1, .string ⟨#[108, 97, 114, 103, 101, 114]⟩, .slice none 0 0, .int .i64 1, .string ⟨#[50]⟩, .slice none 0 0] 41) = W := ⟨_, rfl⟩
  have hb1 : Below w.heap.size w W1 := by rw [← hW1]; exact (Below.refl _ _).alloc (Nat.le_refl _) _
  have ha := look_args w
  rw [hW1] at ha
  have cP := sparse_is 100 lookL _ _ W1 (by omega) ha (fun k hk => by rw [hk, ← hW1]; simp) (fun W hW => hg W (hb1.trans (hW.mono hb1.size)))
  rw [look_parse] at cP
  have HB1 : Hid (Below w.heap.size w W1) := hb1
  clear hg ha hb1
  go_enter Tryz.func8, Tryz.ntmps8
  go_wp2_with fail
  refine cP.mono ?_
  rintro e w2 ⟨ys, rfl, hk2, hb2⟩
  have hb02 := HB1.out.trans (hb2.mono HB1.out.size)
  clear cP
  obtain ⟨x0, x3, x1, x2, xa, xk, xc, ya, yk, yc, rfl⟩ := kx_cells hk2
  rw [show ([.int .i64 x0, .string x1, .string x2, .int .i64 x3, .slice xa xk xc, .slice ya yk yc] : List Value).toArray = #[.int .i64 x0, .string x1, .string x2, .int .i64 x3, .slice xa xk xc, .slice ya yk yc] from rfl]
  have e3 := heap_alloc_new w2 (.cells #[.int .i64 x0, .string x1, .string x2, .int .i64 x3, .slice xa xk xc, .slice ya yk yc] 33)
  have hb23 : Below w2.heap.size w2 (w2.alloc (.cells #[.int .i64 x0, .string x1, .string x2, .int .i64 x3, .slice xa xk xc, .slice ya yk yc] 33)) := (Below.refl _ _).alloc (Nat.le_refl _) _
  have hk3 := hk2.under hb23
  have cY := look_holds ⟨#[97, 98, 99]⟩ [97, 98, 99] true rfl look_yes _ _ _ hk3
  have HC : Hid (Below w.heap.size w w2 ∧ (w2.alloc (.cells #[.int .i64 x0, .string x1, .string x2, .int .i64 x3, .slice xa xk xc, .slice ya yk yc] 33)).heap[w2.heap.size]? = some (.cells #[.int .i64 x0, .string x1, .string x2, .int .i64 x3, .slice xa xk xc, .slice ya yk yc] 33 (0, 0)) ∧ Below w2.heap.size w2 (w2.alloc (.cells #[.int .i64 x0, .string x1, .string x2, .int .i64 x3, .slice xa xk xc, .slice ya yk yc] 33)) ∧ Kx (w2.alloc (.cells #[.int .i64 x0, .string x1, .string x2, .int .i64 x3, .slice xa xk xc, .slice ya yk yc] 33)) (fun q => W1.heap.size ≤ q) lookK [.int .i64 x0, .string x1, .string x2, .int .i64 x3, .slice xa xk xc, .slice ya yk yc]) := ⟨hb02, e3, hb23, hk3⟩
  clear hb02 e3 hb23 hk3 hk2 hb2
  rw [show ([.int .i64 x0, .string x1, .string x2, .int .i64 x3, .slice xa xk xc, .slice ya yk yc] : List Value).toArray = #[.int .i64 x0, .string x1, .string x2, .int .i64 x3, .slice xa xk xc, .slice ya yk yc] from rfl] at cY
  go_wp2_with fail
  refine cY.mono ?_
  rintro e w4 ⟨rfl, hb4⟩
  obtain ⟨hb02, e3, hb23, hk3⟩ := HC.out
  have e4 := (hb4.block w2.heap.size (Array.getElem?_eq_some_iff.1 e3).1).trans e3
  have k0 : w4.cell? ⟨w2.heap.size, 0, none⟩ = some (.int .i64 x0) := rd_cell e4 rfl
  have k1 : w4.cell? ⟨w2.heap.size, 1, none⟩ = some (.string x1) := rd_cell e4 rfl
  have k2 : w4.cell? ⟨w2.heap.size, 2, none⟩ = some (.string x2) := rd_cell e4 rfl
  have k3 : w4.cell? ⟨w2.heap.size, 3, none⟩ = some (.int .i64 x3) := rd_cell e4 rfl
  have k4 : w4.cell? ⟨w2.heap.size, 4, none⟩ = some (.slice xa xk xc) := rd_cell e4 rfl
  have k5 : w4.cell? ⟨w2.heap.size, 5, none⟩ = some (.slice ya yk yc) := rd_cell e4 rfl
  have cN := look_holds ⟨#[97, 98]⟩ [97, 98] false rfl look_no _ _ _ (hk3.under hb4)
  rw [show ([.int .i64 x0, .string x1, .string x2, .int .i64 x3, .slice xa xk xc, .slice ya yk yc] : List Value).toArray = #[.int .i64 x0, .string x1, .string x2, .int .i64 x3, .slice xa xk xc, .slice ya yk yc] from rfl] at cN
  have HB4 : Hid (Below w.heap.size w w4) := (hb02.trans (hb23.mono hb02.size)).trans (hb4.mono (Nat.le_trans hb02.size hb23.size))
  clear cY HC hb02 e3 hb23 hk3 e4 hb4
  go_wp2_with fail
  refine cN.mono ?_
  rintro e w5 ⟨rfl, hb5⟩
  have HB5 : Hid (Below w.heap.size w w5) := HB4.out.trans (hb5.mono HB4.out.size)
  clear cN hb5
  go_wp2_with fail
  go_ret
  exact ⟨rfl, HB5.out⟩
end Go.Proofs.YtligkpcoajnjmaaGreatDoorR
