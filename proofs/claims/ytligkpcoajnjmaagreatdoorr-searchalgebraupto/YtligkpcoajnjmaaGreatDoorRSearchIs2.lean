/-
  What (message).is of package search does at a flag.
-/
import Derived.Test.YtligkpcoajnjmaaGreatDoorRAl12
import Derived.Test.YtligkpcoajnjmaaGreatDoorRAl24
namespace Go.Proofs.YtligkpcoajnjmaaGreatDoorR
open Go.RowKit Go.Proofs.Aid Go.Proofs.Sq Go.Proofs.Hd

/-- Texts that stand in a row. -/
def Trow (w : World) (fa : Option Addr) (fn : Nat) (l : List Sr.Tx) : Prop := fn = l.length ∧ (l = [] ∨ ∃ b o, fa = some ⟨b, o, none⟩ ∧ ∀ (j : Nat) t, l[j]? = some t → w.cell? ⟨b, o + j, none⟩ = some (.string ⟨t.toArray⟩))
theorem Trow.below {w w' : World} {fa : Option Addr} {fn : Nat} {l : List Sr.Tx} (h : Trow w fa fn l) (hb : Below w.heap.size w w') : Trow w' fa fn l := by
  obtain ⟨h1, h2⟩ := h
  refine ⟨h1, h2.imp id ?_⟩
  rintro ⟨b, o, h3, h4⟩
  exact ⟨b, o, h3, fun j t hj => (hb.cell (World.block_lt_of_cell? _ _ (h4 j t hj))).trans (h4 j t hj)⟩
theorem trow_has (l : List Sr.Tx) (x : ByteArray) : Lib.containsS (l.map fun t => (⟨t.toArray⟩ : ByteArray)) x = l.contains x.data.toList := by
  rw [Bool.eq_iff_iff, Lib.containsS_iff, List.contains_iff_mem, List.mem_map]
  constructor
  · rintro ⟨t, ht, h⟩
    have : t = x.data.toList := by simpa using congrArg (fun s : ByteArray => s.data.toList) h
    rw [← this]; exact ht
  · intro h; exact ⟨_, h, rfl⟩
theorem has_trow (fa : Option Addr) (fn fc : Nat) (l : List Sr.Tx) (x : ByteArray) (w : World) (h : Trow w fa fn l) (hl : l.length ≤ 1000) :
    Calls Tryz.prog 102 #[.slice fa fn fc, .string x] w fun e w' => e = .returned (.bool (l.contains x.data.toList)) ∧ w' = w := by
  obtain ⟨rfl, h⟩ := h
  rcases h with rfl | ⟨b, o, rfl, hat⟩
  · exact Tryz.slices_Contains_string_empty fa fc x w
  · have := Tryz.slices_Contains_string b o l.length fc (l.map fun t => (⟨t.toArray⟩ : ByteArray)) x w (by rw [List.length_map]; exact Nat.le_refl _) (by omega) (fun j hj => by
      rw [List.length_map] at hj
      rw [hat j _ (List.getElem?_eq_getElem hj), List.getD_eq_getElem?_getD, List.getElem?_map, List.getElem?_eq_getElem hj]
      rfl)
    rw [List.take_of_length_le (by rw [List.length_map]; exact Nat.le_refl _), trow_has] at this
    exact this
set_option maxHeartbeats 2000000 in
set_option maxRecDepth 100000 in
theorem is_2 (m : Sr.Lt) (name text : Sr.Tx) (n : Int) (set : List (Nat × Nat)) (keys : List Sr.Ky) (ys : List Value) (Ok : Nat → Prop) (d : Nat) (tb : ByteArray) (fa : Option Addr) (fn fc : Nat) (w : World) (hk : Kx w Ok (.mk 2 name text n set keys) ys) (hd : d ≤ 1000) (hF : Trow w fa fn m.flags) (hFl : m.flags.length ≤ 1000) :
    Calls Tryz.prog 45 #[.agg #[.int .i64 m.uid, .slice fa fn fc, .int .i64 m.day, .string tb, .int .i64 m.which, .int .i64 m.many, .int .i64 m.greatest], .agg ys.toArray, .int .i64 (d : Int)] w fun e w' => e = .returned (.bool (m.flags.contains name)) ∧ Below w.heap.size w w' := by
  cases hk with
  | mk code n nb tx set sv ks a c rows hst hkk ha =>
    obtain ⟨sa, sc, rfl, _⟩ := hst
    obtain ⟨SN, hSN⟩ : ∃ n, set.length = n := ⟨_, rfl⟩
    obtain ⟨KN, hKN⟩ : ∃ n, keys.length = n := ⟨_, rfl⟩
    rw [hSN, hKN, show ([.int .i64 2, .string nb, .string tx, .int .i64 n, .slice sa SN sc, .slice a KN c] : List Value).toArray = #[.int .i64 2, .string nb, .string tx, .int .i64 n, .slice sa SN sc, .slice a KN c] from rfl]
    have dd : decide ((65536 : Int) < (d : Int)) = false := decide_eq_false (by omega)
    obtain ⟨W2, hW2, hz2, e1, e2, hb2⟩ := two_boxes w #[.int .i64 m.uid, .slice fa fn fc, .int .i64 m.day, .string tb, .int .i64 m.which, .int .i64 m.many, .int .i64 m.greatest] #[.int .i64 2, .string nb, .string tx, .int .i64 n, .slice sa SN sc, .slice a KN c] 103 33
    have r1 : W2.cell? ⟨w.heap.size, 1, none⟩ = some (.slice fa fn fc) := rd_cell e1 rfl
    have r3 : W2.cell? ⟨w.heap.size, 3, none⟩ = some (.string tb) := rd_cell e1 rfl
    have k0 : W2.cell? ⟨w.heap.size + 1, 0, none⟩ = some (.int .i64 2) := rd_cell e2 rfl
    have k1 : W2.cell? ⟨w.heap.size + 1, 1, none⟩ = some (.string nb) := rd_cell e2 rfl
    have HB2 : Hid (Below w.heap.size w W2) := hb2
    have cH := has_trow fa fn fc m.flags nb W2 (hF.below hb2) hFl
    obtain ⟨A, hA⟩ : ∃ A, m.flags.contains nb.data.toList = A := ⟨_, rfl⟩
    rw [hA] at cH ⊢
    clear e1 e2 hkk ha hb2 hKN hSN hF hFl hA
    go_enter Tryz.func45, Tryz.ntmps45
    go_wp2_with fail
    refine cH.mono ?_
    rintro e w3 ⟨rfl, rfl⟩
    clear cH
    go_wp2_with fail
    go_ret
    exact ⟨rfl, HB2.out⟩
/-- The leaves that look at numbers and flags. -/
def FlagL (code : Int) (name text : Sr.Tx) : Prop := code = 2 ∨ NumL code name text
theorem flag_leafs (m : Sr.Lt) (Ok : Nat → Prop) (tb : ByteArray) (fa : Option Addr) (fn fc : Nat) (w0 : World) (htb : tb.data.toList = m.text) (hF : Trow w0 fa fn m.flags) (hFl : m.flags.length ≤ 1000) : Leafs m [.int .i64 m.uid, .slice fa fn fc, .int .i64 m.day, .string tb, .int .i64 m.which, .int .i64 m.many, .int .i64 m.greatest] FlagL Ok w0 := by
  intro code name text n set keys ys d W hc h0 hk hd hs
  rcases hc with rfl | hc
  · rw [show Sr.holdsK m (.mk 2 name text n set keys) = m.flags.contains name by rw [Sr.holdsK]; simp]
    exact is_2 m name text n set keys ys Ok d tb fa fn fc W hk hd (hF.below h0) hFl
  · exact num_leafs m _ Ok w0 ⟨tb, fa, fn, fc, rfl, htb⟩ code name text n set keys ys d W hc h0 hk hd hs
end Go.Proofs.YtligkpcoajnjmaaGreatDoorR
