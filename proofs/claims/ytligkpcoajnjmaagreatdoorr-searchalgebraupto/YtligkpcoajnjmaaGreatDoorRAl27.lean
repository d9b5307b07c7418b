/-
  What the methods goOn, begin and take of head.reader do.
  What the methods take and all of head.reader do.
  What slices.ContainsFunc does of fields, by what the function that it is handed does.
-/
import Derived.Test.YtligkpcoajnjmaaGreatDoorRHeadJoin
import Derived.Test.YtligkpcoajnjmaaGreatDoorRAl10
namespace Go.Proofs.YtligkpcoajnjmaaGreatDoorR
open Go.RowKit Go.Proofs.Aid Go.Proofs.Hd Go.Proofs.Sq

def tx (f : Fb) : Hd.Fd := (f.1.data.toList, f.2.data.toList)
theorem join_snoc (S : List Tx) (x : Tx) : Lib.join (S ++ [x]) [32] = if S = [] then x else Lib.join S [32] ++ 32 :: x := by
  induction S with
  | nil => simp [Lib.join, List.intercalate]
  | cons a S ih =>
    rw [if_neg (by simp)]
    cases S with
    | nil => simp [Lib.join, List.intercalate]
    | cons c S =>
      rw [if_neg (by simp)] at ih
      have e : ∀ (y : Tx) (ys : List Tx), Lib.join (a :: y :: ys) [32] = a ++ 32 :: Lib.join (y :: ys) [32] := fun y ys => by simp [Lib.join, List.intercalate]
      rw [List.cons_append, List.cons_append, e, e, ← List.cons_append, ih]
      simp
theorem join_ne {S : List Tx} (h : ∀ x ∈ S, x ≠ []) (hS : S ≠ []) : Lib.join S [32] ≠ [] := by
  cases S with
  | nil => exact absurd rfl hS
  | cons a S =>
    have ha := h a List.mem_cons_self
    cases S with
    | nil => simpa [Lib.join, List.intercalate] using ha
    | cons c S => simp [Lib.join, List.intercalate]
theorem join_len (M : Nat) : ∀ (S : List Tx), (∀ x ∈ S, x.length ≤ M) → (Lib.join S [32]).length ≤ S.length * (M + 1)
  | [], _ => by simp [Lib.join, List.intercalate]
  | [a], h => by have := h a List.mem_cons_self; simp [Lib.join, List.intercalate]; omega
  | a :: c :: S, h => by
    have ih := join_len M (c :: S) (fun x hx => h x (List.mem_cons_of_mem _ hx))
    have ha := h a List.mem_cons_self
    rw [show Lib.join (a :: c :: S) [32] = a ++ 32 :: Lib.join (c :: S) [32] by simp [Lib.join, List.intercalate], List.length_append, List.length_cons]
    simp only [List.length_cons] at ih ⊢
    rw [Nat.add_mul _ 1]
    omega
theorem cutAt_len (c : UInt8) : ∀ s : Tx, (cutAt c s).1.length ≤ s.length ∧ (cutAt c s).2.1.length ≤ s.length
  | [] => by simp [cutAt]
  | b :: r => by
    have ih := cutAt_len c r
    rw [cutAt]
    split
    · simp
    · simp only [List.length_cons]
      omega
/-- How the fields in memory tell the fields so far. -/
def Tells (R : List Fb) (S : List ByteArray) (l : List Hd.Fd) : Prop := (R = [] ∧ S = [] ∧ l = []) ∨ ∃ P n v, R = P ++ [(n, v)] ∧ l = P.map tx ++ [(n.data.toList, Lib.join (S.map (·.data.toList)) [32])]
structure St (base b : Nat) (l : List Hd.Fd) (k : Nat) (w : World) : Prop where
  st : ∃ R S, Rd base b R S w ∧ S.length ≤ k ∧ (∀ x ∈ S, x.size ≤ 2000000 ∧ x.data.toList ≠ []) ∧ Tells R S l
theorem St.below {base b k : Nat} {l : List Hd.Fd} {w w' : World} (h : St base b l k w) (hb : Below w.heap.size w w') : St base b l k w' := by
  obtain ⟨R, S, h1, h2⟩ := h.st
  exact ⟨R, S, h1.below hb, h2⟩
theorem St.more {base b k : Nat} {l : List Hd.Fd} {w : World} (h : St base b l k w) : St base b l (k + 1) w := by
  obtain ⟨R, S, h1, h2, h3⟩ := h.st
  exact ⟨R, S, h1, by omega, h3⟩
theorem onto_snoc (P : List Hd.Fd) (n v b : Tx) : onto (P ++ [(n, v)]) b = P ++ [(n, joinV v b)] := by
  induction P with
  | nil => rfl
  | cons f P ih =>
    cases P with
    | nil => rfl
    | cons g P => rw [List.cons_append, List.cons_append, onto, ← List.cons_append, ih]; rfl
theorem tells_say {R : List Fb} {S : List ByteArray} {l : List Hd.Fd} {p : Tx} (h : Tells R S l) (hl : l ≠ []) (hS : ∀ x ∈ S, x.size ≤ 2000000 ∧ x.data.toList ≠ []) : Tells R (if bare p = [] then S else S ++ [⟨(bare p).toArray⟩]) (onto l (bare p)) := by
  rcases h with ⟨_, _, h⟩ | ⟨P, n, v, rfl, rfl⟩
  · exact absurd h hl
  · refine Or.inr ⟨P, n, v, rfl, ?_⟩
    rw [onto_snoc]
    congr 3
    unfold joinV
    by_cases hb : bare p = []
    · rw [if_pos hb, if_pos hb]
    · rw [if_neg hb, if_neg hb, List.map_append, List.map_cons, List.map_nil, join_snoc]
      by_cases hs : S = []
      · subst hs
        rfl
      · rw [if_neg (join_ne (fun x hx => by obtain ⟨y, hy, rfl⟩ := List.mem_map.1 hx; exact (hS y hy).2) (by simpa using hs)), if_neg (by simpa using hs)]
theorem said_ok {S : List ByteArray} {p : ByteArray} (hp : p.size ≤ 2000000) (hS : ∀ x ∈ S, x.size ≤ 2000000 ∧ x.data.toList ≠ []) : ∀ x ∈ (if bare p.data.toList = [] then S else S ++ [⟨(bare p.data.toList).toArray⟩]), x.size ≤ 2000000 ∧ x.data.toList ≠ [] := by
  intro x hx
  split at hx
  · exact hS x hx
  · next hb =>
    rcases List.mem_append.1 hx with hx | hx
    · exact hS x hx
    · obtain rfl := List.mem_singleton.1 hx
      refine ⟨?_, hb⟩
      have := bare_length p.data.toList
      rw [list_size] at this
      rw [Lib.size_eq]
      show (bare p.data.toList).length ≤ _
      omega
theorem said_len {S : List ByteArray} {p : Tx} {k : Nat} (h : S.length ≤ k) : (if bare p = [] then S else S ++ [⟨(bare p).toArray⟩]).length ≤ k + 1 := by
  split
  · omega
  · simp; omega
set_option maxRecDepth 100000 in
theorem goOn_is (base b k : Nat) (l : List Hd.Fd) (p : ByteArray) (w : World) (h : St base b l k w) (hp : p.size ≤ 2000000) (hk : k ≤ 100000) (hbw : base ≤ w.heap.size) (hn : l.length ≤ 40) :
    Calls Tryz.prog 242 #[.pointer (some ⟨b, 0, none⟩), .string p] w fun e w' => But base b w w' ∧ ((l = [] ∧ e = .returned (.int .i64 3)) ∨ (l ≠ [] ∧ e = .returned (.int .i64 0) ∧ St base b (onto l (bare p.data.toList)) (k + 1) w')) := by
  obtain ⟨R, S, hR, hSk, hS, hT⟩ := h.st
  obtain ⟨vf, vs, hh, hrf, _⟩ := hR.st
  obtain ⟨a, cap, rfl⟩ := row_slice hrf
  have c0 : w.cell? ⟨b, 0, none⟩ = some (.slice a R.length cap) := rd_cell hh rfl
  by_cases hl : l = []
  · have hR0 : R.length = 0 := by
      rcases hT with ⟨rfl, _⟩ | ⟨P, n, v, rfl, rfl⟩
      · rfl
      · simp at hl
    rw [hR0] at c0
    clear hrf hh hR
    go_enter Tryz.func242, Tryz.ntmps242
    go_wp2_with fail
    go_ret
    exact ⟨to_but (Below.refl _ _), Or.inl ⟨hl, rfl⟩⟩
  · obtain ⟨N, hN⟩ : ∃ N, R.length = N + 1 := by
      rcases hT with ⟨_, _, h⟩ | ⟨P, n, v, rfl, _⟩
      · exact absurd h hl
      · exact ⟨P.length, by simp⟩
    have cS := say_is base b R S p w hR hp (by omega) hbw
    have HT : Hid (Tells R (if bare p.data.toList = [] then S else S ++ [⟨(bare p.data.toList).toArray⟩]) (onto l (bare p.data.toList))) := tells_say hT hl hS
    have HS : Hid (∀ x ∈ (if bare p.data.toList = [] then S else S ++ [⟨(bare p.data.toList).toArray⟩]), x.size ≤ 2000000 ∧ x.data.toList ≠ []) := said_ok hp hS
    have HK : Hid ((if bare p.data.toList = [] then S else S ++ [⟨(bare p.data.toList).toArray⟩]).length ≤ k + 1) := said_len hSk
    obtain ⟨S', hS'⟩ : ∃ S', (if bare p.data.toList = [] then S else S ++ [⟨(bare p.data.toList).toArray⟩]) = S' := ⟨_, rfl⟩
    rw [hS'] at cS HT HS HK
    obtain ⟨L', hL'⟩ : ∃ L', onto l (bare p.data.toList) = L' := ⟨_, rfl⟩
    rw [hL'] at HT ⊢
    rw [hN] at c0
    have hne : (((N : Int) + 1) == 0) = false := by rw [beq_eq_false_iff_ne]; omega
    clear hrf hh hR hT hS hS' hL'
    go_enter Tryz.func242, Tryz.ntmps242
    go_wp2_with fail
    refine cS.mono ?_
    rintro e w1 ⟨rfl, hR1, hb1⟩
    go_wp2_with fail
    go_ret
    exact ⟨hb1, Or.inr ⟨hl, rfl, R, S', hR1, HK.out, HS.out, HT.out⟩⟩
/-- A row of another type stays what it was where one grows. -/
theorem row_grown {e e' : TypeId} {base size size' : Nat} {w w' : World} {v v' : Value} {n n' : Nat} {xs xs' : List Value} (hg : w.grownBy w' v.ownBlock) (hv : w.ownsRow base e size v n xs) (h : w.ownsRow base e' size' v' n' xs') (hne : e ≠ e') : w'.ownsRow base e' size' v' n' xs' := by
  refine ⟨h.1, ?_⟩
  rcases h.2 with h2 | ⟨g, cap, cur, h3, h4, hh, r⟩
  · exact Or.inl h2
  · exact Or.inr ⟨g, cap, cur, h3, h4, (hg.block g (Array.getElem?_eq_some_iff.1 hh).1 (fun e1 => row_off hv hh hne e1.symm)).trans hh, r⟩
/-- Behind join the fields in memory are the fields so far. -/
theorem join_is (base b k : Nat) (l : List Hd.Fd) (w : World) (h : St base b l k w) (hk : k ≤ 100000) (hbw : base ≤ w.heap.size) (hn : l.length ≤ 40) :
    Calls Tryz.prog 244 #[.pointer (some ⟨b, 0, none⟩)] w fun e w' => e = .returned (.tuple #[]) ∧ (∃ R, Rd base b R [] w' ∧ R.map tx = l) ∧ But base b w w' := by
  obtain ⟨R, S, hR, hSk, hS, hT⟩ := h.st
  rcases hT with ⟨rfl, rfl, rfl⟩ | ⟨P, n, v, rfl, rfl⟩
  · refine (join_none base b [] w hR hbw).mono ?_
    rintro e w' ⟨rfl, h1, h2⟩
    exact ⟨rfl, ⟨[], h1, rfl⟩, h2⟩
  · have hl : (Lib.join (S.map (·.data.toList)) [32]).length ≤ 140737488355328 := by
      have := join_len 2000000 (S.map (·.data.toList)) (fun x hx => by
        obtain ⟨y, hy, rfl⟩ := List.mem_map.1 hx
        rw [list_size]
        exact (hS y hy).1)
      rw [List.length_map] at this
      have h2 : S.length * (2000000 + 1) ≤ 100000 * (2000000 + 1) := Nat.mul_le_mul_right _ (by omega)
      omega
    refine (join_some base b P n v S w hR (by simp at hn; omega) (by omega) hl hbw).mono ?_
    rintro e w' ⟨rfl, h1, h2⟩
    exact ⟨rfl, ⟨_, h1, by simp [tx, joinB]⟩, h2⟩
set_option maxHeartbeats 2000000 in
set_option maxRecDepth 100000 in
theorem begin_is (base b k : Nat) (l : List Hd.Fd) (p : ByteArray) (m : Int) (w : World) (h : St base b l k w) (hp : p.size ≤ 2000000) (hk : k ≤ 100000) (hbw : base ≤ w.heap.size) (hn : l.length ≤ 40) (hm : w.cell? ⟨1, 0, none⟩ = some (.int .i64 m)) :
    Calls Tryz.prog 243 #[.pointer (some ⟨b, 0, none⟩), .string p] w fun e w' => But base b w w' ∧
      (((cutAt 58 p.data.toList).2.2 = false ∨ nameOk (cutAt 58 p.data.toList).1 = false) ∧ e = .returned (.int .i64 3) ∨
       ¬ ((cutAt 58 p.data.toList).2.2 = false ∨ nameOk (cutAt 58 p.data.toList).1 = false) ∧ (l.length = 40 ∧ e = .returned (.int .i64 4) ∨ l.length ≠ 40 ∧ e = .returned (.int .i64 0) ∧ St base b (l ++ [((cutAt 58 p.data.toList).1, bare (cutAt 58 p.data.toList).2.1)]) (k + 1) w')) := by
  have cC := Tryz.strings_Cut p ⟨#[58]⟩ m w (by omega) hm
  have hce : Lib.cut p.data.toList (⟨#[58]⟩ : ByteArray).data.toList = cutAt 58 p.data.toList := cut_eq 58 p.data.toList
  rw [hce] at cC
  obtain ⟨nm, hnm⟩ : ∃ n : ByteArray, ⟨(cutAt 58 p.data.toList).1.toArray⟩ = n := ⟨_, rfl⟩
  obtain ⟨vl, hvl⟩ : ∃ n : ByteArray, ⟨(cutAt 58 p.data.toList).2.1.toArray⟩ = n := ⟨_, rfl⟩
  have hnl : (cutAt 58 p.data.toList).1 = nm.data.toList := by rw [← hnm]
  have hvl' : (cutAt 58 p.data.toList).2.1 = vl.data.toList := by rw [← hvl]
  have hsz : nm.size ≤ 2000000 ∧ vl.size ≤ 2000000 := by
    have hc := cutAt_len 58 p.data.toList
    rw [hnl, hvl', list_size, list_size, list_size] at hc
    omega
  obtain ⟨told, htold⟩ : ∃ b, (cutAt 58 p.data.toList).2.2 = b := ⟨_, rfl⟩
  rw [hnm, hvl, htold] at cC
  rw [hnl, hvl', htold]
  have hns := hsz.1
  have hvs := hsz.2
  clear hce hnm hvl hnl hvl' htold hsz hm
  obtain ⟨R0, S0, hR0, hSk, hS, hT⟩ := h.st
  obtain ⟨vf, vs, hh, hrf, _⟩ := hR0.st
  obtain ⟨a, cap, rfl⟩ := row_slice hrf
  have hlen : R0.length = l.length := by
    rcases hT with ⟨rfl, _, rfl⟩ | ⟨P, n, v, rfl, rfl⟩
    · rfl
    · simp
  rw [hlen] at hh hrf
  have HH : Hid (w.heap[b]? = some (.cells #[.slice a l.length cap, vs] 250 (0, 0))) := hh
  have c0 : w.cell? ⟨b, 0, none⟩ = some (.slice a l.length cap) := rd_cell hh rfl
  obtain ⟨len, hln⟩ : ∃ n, l.length = n := ⟨_, rfl⟩
  rw [hln] at c0 hn ⊢
  have HLN : Hid (l.length = len) := hln
  have HST : Hid (St base b l k w) := h
  clear hR0 hT hS hrf hh h HH hlen hln hSk
  cases told with
  | false =>
    go_enter Tryz.func243, Tryz.ntmps243
    go_wp2_with fail
    refine cC.mono ?_
    rintro e w1 ⟨rfl, q, rfl⟩
    go_wp2_with fail
    go_ret
    exact ⟨to_but (below_drewN (Below.refl _ _) q), Or.inl ⟨Or.inl trivial, rfl⟩⟩
  | true =>
    have cN := fun W => isName_is nm W hns
    obtain ⟨ok, hok⟩ : ∃ b, nameOk nm.data.toList = b := ⟨_, rfl⟩
    rw [hok] at cN ⊢
    clear hok
    cases ok with
    | false =>
      go_enter Tryz.func243, Tryz.ntmps243
      go_wp2_with fail
      refine cC.mono ?_
      rintro e w1 ⟨rfl, q, rfl⟩
      go_wp2_with fail
      refine (cN _).mono ?_
      rintro e w2 ⟨rfl, hw⟩
      subst hw
      go_wp2_with fail
      go_ret
      exact ⟨to_but (below_drewN (Below.refl _ _) q), Or.inl ⟨Or.inr trivial, rfl⟩⟩
    | true =>
      by_cases h40 : len = 40
      · subst h40
        go_enter Tryz.func243, Tryz.ntmps243
        go_wp2_with fail
        refine cC.mono ?_
        rintro e w1 ⟨rfl, q, rfl⟩
        go_wp2_with fail
        refine (cN _).mono ?_
        rintro e w2 ⟨rfl, hw⟩
        subst hw
        go_wp2_with fail
        go_ret
        exact ⟨to_but (below_drewN (Below.refl _ _) q), Or.inr ⟨by simp, Or.inl ⟨trivial, rfl⟩⟩⟩
      · have hq : ((len : Int) == 40) = false := by rw [beq_eq_false_iff_ne]; omega
        obtain ⟨i0, hi, hz0, hz1, hz2⟩ := info_parts Tryz.infoField
        go_enter Tryz.func243, Tryz.ntmps243
        go_wp2_with fail
        refine cC.mono ?_
        rintro e w1 ⟨rfl, q, rfl⟩
        go_wp2_with fail
        refine (cN _).mono ?_
        rintro e w2 ⟨rfl, hw⟩
        subst hw
        have hbq : Below w.heap.size w (w.drewN q) := below_drewN (Below.refl _ _) q
        have cJ := join_is base b k l (w.drewN q) (HST.out.below hbq) hk hbw (by have := HLN.out; omega)
        have hbq' : Below base w (w.drewN q) := below_drewN (Below.refl _ _) q
        clear cC cN hbq
        go_wp2_with fail
        refine cJ.mono ?_
        clear cJ
        rintro e w3 ⟨rfl, ⟨R, hR, hRl⟩, hb3⟩
        have hb03 := (to_but hbq').trans hb3
        have hbs3 : base ≤ w3.heap.size := Nat.le_trans hbw hb03.size
        obtain ⟨vf, vs, hh, hrf, hrs⟩ := hR.st
        obtain ⟨ra, rc, rfl⟩ := row_slice hrf
        have hRlen : R.length = len := by rw [← HLN.out, ← hRl, List.length_map]
        rw [hRlen] at hh hrf
        have d0 : w3.cell? ⟨b, 0, none⟩ = some (.slice ra len rc) := rd_cell hh rfl
        have hnews : ∀ (j : Nat) (u : Value), [Value.string nm, Value.string ⟨#[]⟩][j]? = some u → (w3.alloc (.cells #[.string nm, .string ⟨#[]⟩] 216)).cell? (Addr.add ⟨w3.heap.size, 0, none⟩ j) = some u := World.news_of_block (heap_alloc_new w3 (.cells #[.string nm, .string ⟨#[]⟩] 216))
        have HRL : Hid (R.map tx = l) := hRl
        clear hR hRl hb3 hbq'
        go_wp2_with (at_builtin; go_must (refine wpList_append_lies _ rfl (.tmp 33) (.tmp 36) 211 rfl base 216 i0 (.agg #[.string ⟨#[]⟩, .string ⟨#[]⟩]) 2 32 Tryz.underlying211 hi hz0 hz1 hz2 rfl (by decide) _ _ _ (by rfl) (hrf.alloc _) ⟨w3.heap.size, 0, none⟩ 1 1 [.string nm, .string ⟨#[]⟩] (by rfl) rfl hnews (by simp [Value.oneCell']) (by decide) (by unfold maxLen; omega) (by omega) (by simp; omega) _ rfl ?_); intro g4 cap4 w4 hown4 hg4 _ hlt4; have hg4' := grownBy_of_alloc hg4; have hh4 : w4.heap[b]? = some (.cells #[.slice ra len rc, vs] 250 (0, 0)) := (hg4'.block b (Array.getElem?_eq_some_iff.1 hh).1 (fun e => row_off hrf hh (by decide) e.symm)).trans hh; have c4 := rd_cell (j := 0) hh4 rfl; have f4 := rd_free hh4 0)
        have hb4 : But base b w w4 := hb03.trans (to_but ((Below.refl base w3).grown hg4' hbs3 (fun j e => (hrf.lt j e).1)))
        have hrs4 := row_grown hg4' hrf hrs (by decide)
        have hh5 := rd_set (i := 0) (.slice (some ⟨g4, 0, none⟩) (len + 1) cap4) hh4
        have hrf5 := ownsRow_setCell_other hown4 (a := ⟨b, 0, none⟩) (row_off hown4 hh4 (by decide)) (.slice (some ⟨g4, 0, none⟩) (len + 1) cap4)
        have hrs5 := ownsRow_setCell_other hrs4 (a := ⟨b, 0, none⟩) (row_off hrs4 hh4 (by decide)) (.slice (some ⟨g4, 0, none⟩) (len + 1) cap4)
        have hb5 := hb4.setB 0 (.slice (some ⟨g4, 0, none⟩) (len + 1) cap4)
        have hR5 : Rd base b (R ++ [(nm, ⟨#[]⟩)]) [] (w4.setCell ⟨b, 0, none⟩ (.slice (some ⟨g4, 0, none⟩) (len + 1) cap4)) := by
          refine ⟨_, _, hh5, ?_, hrs5⟩
          rw [List.length_append, hRlen, cellsF_append]
          exact hrf5
        have cS := say_is base b _ [] vl _ hR5 hvs (by simp) (Nat.le_trans hbw hb5.size)
        have HT : Hid (Tells (R ++ [(nm, ⟨#[]⟩)]) (if bare vl.data.toList = [] then [] else [] ++ [⟨(bare vl.data.toList).toArray⟩]) (l ++ [(nm.data.toList, bare vl.data.toList)])) := by
          refine Or.inr ⟨R, nm, ⟨#[]⟩, rfl, ?_⟩
          rw [HRL.out]
          congr 3
          by_cases hv : bare vl.data.toList = []
          · rw [if_pos hv, hv]; rfl
          · rw [if_neg hv]; simp [Lib.join, List.intercalate]
        have HS : Hid (∀ x ∈ (if bare vl.data.toList = [] then ([] : List ByteArray) else [] ++ [⟨(bare vl.data.toList).toArray⟩]), x.size ≤ 2000000 ∧ x.data.toList ≠ []) := said_ok hvs (by simp)
        have HK : Hid ((if bare vl.data.toList = [] then ([] : List ByteArray) else [] ++ [⟨(bare vl.data.toList).toArray⟩]).length ≤ k + 1) := said_len (Nat.zero_le _)
        obtain ⟨S', hS'⟩ : ∃ S', (if bare vl.data.toList = [] then ([] : List ByteArray) else [] ++ [⟨(bare vl.data.toList).toArray⟩]) = S' := ⟨_, rfl⟩
        rw [hS'] at cS HT HS HK
        clear hR5 hh5 hrf5 hrs5 hrs4 hown4 hg4 hg4' hrf hrs hh hh4 c4 f4 d0 hS'
        refine cS.mono ?_
        rintro e w6 ⟨rfl, hR6, hb6⟩
        go_wp2_with fail
        go_ret
        exact ⟨hb5.trans hb6, Or.inr ⟨by simp, Or.inr ⟨h40, rfl, _, S', hR6, HK.out, HS.out, HT.out⟩⟩⟩
end Go.Proofs.YtligkpcoajnjmaaGreatDoorR
namespace Go.Proofs.YtligkpcoajnjmaaGreatDoorR
open Go.RowKit Go.Proofs.Aid Go.Proofs.Hd Go.Proofs.Sq

theorem contains_one (c : UInt8) : Lib.contains [32, 9] [c] = blk c := by
  have h : ∀ n : Fin 256, Lib.contains [32, 9] [UInt8.ofNat n.val] = blk (UInt8.ofNat n.val) := by decide +kernel
  have := h ⟨c.toNat, c.toNat_lt⟩
  simpa using this
theorem low_bad : Low ⟨#[13, 10, 0]⟩ := fun j b h => by
  match j, h with
  | 0, h => obtain rfl : _ = b := by simpa using h
            decide
  | 1, h => obtain rfl : _ = b := by simpa using h
            decide
  | 2, h => obtain rfl : _ = b := by simpa using h
            decide
  | j + 3, h => simp at h
set_option maxHeartbeats 2000000 in
set_option maxRecDepth 100000 in
theorem take_is (base b k : Nat) (l : List Hd.Fd) (p : ByteArray) (m : Int) (w : World) (h : St base b l k w) (hp : p.size ≤ 2000000) (hk : k ≤ 100000) (hbw : base ≤ w.heap.size) (hn : l.length ≤ 40) (hm : w.cell? ⟨1, 0, none⟩ = some (.int .i64 m)) :
    Calls Tryz.prog 204 #[.pointer (some ⟨b, 0, none⟩), .string p] w fun e w' => But base b w w' ∧ e = .returned (.int .i64 (Hd.step l p.data.toList).1) ∧ ((Hd.step l p.data.toList).1 = 0 → St base b (Hd.step l p.data.toList).2 (k + 1) w') := by
  by_cases h0 : p.data.toList = []
  · have hs : Hd.step l p.data.toList = (0, l) := by unfold Hd.step; rw [if_pos h0]
    rw [hs]
    have f1 : p.toList = [] := by rw [Lib.toList_data]; exact h0
    have f2 : p.toList.isEmpty = true := by rw [f1]; rfl
    have hst := h.more
    clear h
    go_enter Tryz.func204, Tryz.ntmps204
    go_wp2_with fail
    go_ret
    exact ⟨to_but (Below.refl _ _), rfl, fun _ => hst⟩
  have f1 : ¬ p.toList = [] := by rw [Lib.toList_data]; exact h0
  have f2 : p.toList.isEmpty = false := by rw [Lib.toList_data]; cases hh : p.data.toList with | nil => exact absurd hh h0 | cons _ _ => rfl
  have cA := any_is p ⟨#[13, 10, 0]⟩ w (by decide) low_bad (by decide) hp
  rw [show (p.data.toList.any fun c => (⟨#[13, 10, 0]⟩ : ByteArray).data.toList.contains c) = p.data.toList.any isBad from rfl] at cA
  cases hb : p.data.toList.any isBad with
  | true =>
    have hs : Hd.step l p.data.toList = (3, []) := by unfold Hd.step; rw [if_neg h0, if_pos hb]
    rw [hs]
    rw [hb] at cA
    clear h
    go_enter Tryz.func204, Tryz.ntmps204
    go_wp2_with fail
    refine cA.mono ?_
    rintro e w1 ⟨rfl, hb1⟩
    go_wp2_with fail
    go_ret
    exact ⟨to_but (hb1.mono hbw), rfl, fun h => absurd h (by decide)⟩
  | false =>
    rw [hb] at cA
    obtain ⟨c, r, hcr⟩ : ∃ c r, p.data.toList = c :: r := by
      cases hh : p.data.toList with
      | nil => exact absurd hh h0
      | cons c r => exact ⟨c, r, rfl⟩
    have hhd : p.data.toList.headD 0 = c := by rw [hcr]; rfl
    have h1 : 1 ≤ p.size := by rw [← list_size, hcr]; simp
    have hx : p.extract 0 1 = ⟨#[c]⟩ := text_ext (by rw [Lib.extract_from_zero, hcr]; rfl)
    have K1 : ∀ W, Below w.heap.size w W → W.cell? ⟨1, 0, none⟩ = some (.int .i64 m) ∧ Calls Tryz.prog 164 #[.string ⟨#[32, 9]⟩, .string (p.extract 0 1)] W fun e w' => e = .returned (.bool (blk c)) ∧ w' = W := fun W hW => by
      have hmW := (hW.cell (World.block_lt_of_cell? _ _ hm)).trans hm
      have := Tryz.strings_Contains ⟨#[32, 9]⟩ (p.extract 0 1) m W (by decide) hmW
      rw [hx] at this ⊢
      rw [show Lib.contains (⟨#[32, 9]⟩ : ByteArray).data.toList (⟨#[c]⟩ : ByteArray).data.toList = blk c from contains_one c] at this
      exact ⟨hmW, this⟩
    have HK : Hid (∀ W, Below w.heap.size w W → W.cell? ⟨1, 0, none⟩ = some (.int .i64 m) ∧ Calls Tryz.prog 164 #[.string ⟨#[32, 9]⟩, .string (p.extract 0 1)] W fun e w' => e = .returned (.bool (blk c)) ∧ w' = W) := K1
    have HST : Hid (St base b l k w) := h
    have HE : Hid (Hd.step l p.data.toList = if blk c = true then (if l = [] then (3, []) else (0, onto l (bare p.data.toList)))
        else if (cutAt 58 p.data.toList).2.2 = false ∨ nameOk (cutAt 58 p.data.toList).1 = false then (3, [])
        else if l.length = 40 then (4, []) else (0, l ++ [((cutAt 58 p.data.toList).1, bare (cutAt 58 p.data.toList).2.1)])) := by
      show _ = _
      unfold Hd.step
      rw [if_neg h0, hb, hhd]
      rfl
    obtain ⟨E, hE⟩ : ∃ E, Hd.step l p.data.toList = E := ⟨_, rfl⟩
    rw [hE] at HE ⊢
    clear h K1 hb h0 hcr hhd hx hm hE
    cases hbl : blk c with
    | true =>
      rw [hbl] at HE
      go_enter Tryz.func204, Tryz.ntmps204
      go_wp2_with fail
      refine cA.mono ?_
      clear cA
      rintro e w1 ⟨rfl, hb1⟩
      have cC := (HK.out w1 hb1).2
      rw [hbl] at cC
      go_wp2_with fail
      refine cC.mono ?_
      clear cC
      rintro e w2 ⟨rfl, hw⟩
      subst hw
      have cG := goOn_is base b k l p w2 (HST.out.below hb1) hp hk (Nat.le_trans hbw hb1.size) hn
      go_wp2_with fail
      refine cG.mono ?_
      clear cG
      rintro e w3 ⟨hb3, ⟨hl, rfl⟩ | ⟨hl, rfl, hst⟩⟩
      · have HEE : Hid (E = (3, [])) := by have := HE.out; rw [if_pos trivial, if_pos hl] at this; exact this
        go_wp2_with fail
        go_ret
        exact ⟨(to_but (hb1.mono hbw)).trans hb3, by rw [HEE.out]; rfl, fun h => absurd h (by rw [HEE.out]; decide)⟩
      · have he : E = (0, onto l (bare p.data.toList)) := by have := HE.out; rw [if_pos trivial, if_neg hl] at this; exact this
        have HEE : Hid (E = (0, onto l (bare p.data.toList))) := he
        clear he
        go_wp2_with fail
        go_ret
        refine ⟨(to_but (hb1.mono hbw)).trans hb3, by rw [HEE.out]; rfl, fun _ => by rw [HEE.out]; exact hst⟩
    | false =>
      rw [hbl] at HE
      go_enter Tryz.func204, Tryz.ntmps204
      go_wp2_with fail
      refine cA.mono ?_
      clear cA
      rintro e w1 ⟨rfl, hb1⟩
      have cC := (HK.out w1 hb1).2
      rw [hbl] at cC
      go_wp2_with fail
      refine cC.mono ?_
      clear cC
      rintro e w2 ⟨rfl, hw⟩
      subst hw
      have cG := begin_is base b k l p m w2 (HST.out.below hb1) hp hk (Nat.le_trans hbw hb1.size) hn (HK.out w2 hb1).1
      go_wp2_with fail
      refine cG.mono ?_
      clear cG
      rintro e w3 ⟨hb3, ⟨hx, rfl⟩ | ⟨hx, ⟨hl, rfl⟩ | ⟨hl, rfl, hst⟩⟩⟩
      · have HEE : Hid (E = (3, [])) := by have := HE.out; rw [if_neg (by simp), if_pos hx] at this; exact this
        clear hx
        go_wp2_with fail
        go_ret
        exact ⟨(to_but (hb1.mono hbw)).trans hb3, by rw [HEE.out]; rfl, fun h => absurd h (by rw [HEE.out]; decide)⟩
      · have HEE : Hid (E = (4, [])) := by have := HE.out; rw [if_neg (by simp), if_neg hx, if_pos hl] at this; exact this
        clear hx
        go_wp2_with fail
        go_ret
        exact ⟨(to_but (hb1.mono hbw)).trans hb3, by rw [HEE.out]; rfl, fun h => absurd h (by rw [HEE.out]; decide)⟩
      · have HEE : Hid (E = (0, l ++ [((cutAt 58 p.data.toList).1, bare (cutAt 58 p.data.toList).2.1)])) := by have := HE.out; rw [if_neg (by simp), if_neg hx, if_neg hl] at this; exact this
        clear hx
        go_wp2_with fail
        go_ret
        exact ⟨(to_but (hb1.mono hbw)).trans hb3, by rw [HEE.out]; rfl, fun _ => by rw [HEE.out]; exact hst⟩
/-- A slice of fields. -/
def Fg (w : World) (v : Value) (l : List Fb) : Prop :=
  ∃ a c, v = .slice a l.length c ∧ (l = [] ∨ ∃ b o, a = some ⟨b, o, none⟩ ∧ ∀ (j : Nat) f, l[j]? = some f → w.cell? ⟨b, o + j * 2, none⟩ = some (.string f.1) ∧ w.cell? ⟨b, o + j * 2 + 1, none⟩ = some (.string f.2))
theorem Fg.below {w w' : World} {v : Value} {B : Nat} {l : List Fb} (h : Fg w v l) (hb : Below B w w') (hB : w.heap.size ≤ B) : Fg w' v l := by
  obtain ⟨a, c, h1, h2⟩ := h
  refine ⟨a, c, h1, ?_⟩
  rcases h2 with h2 | ⟨b, o, h2, h3⟩
  · exact Or.inl h2
  · refine Or.inr ⟨b, o, h2, fun j f hj => ?_⟩
    obtain ⟨x, y⟩ := h3 j f hj
    exact ⟨(hb.cell (Nat.lt_of_lt_of_le (World.block_lt_of_cell? _ _ x) hB)).trans x, (hb.cell (Nat.lt_of_lt_of_le (World.block_lt_of_cell? _ _ y) hB)).trans y⟩
theorem cellsF_get : ∀ (l : List Fb) (j : Nat) f, l[j]? = some f → (cellsF l)[j * 2]? = some (.string f.1) ∧ (cellsF l)[j * 2 + 1]? = some (.string f.2)
  | [], _, _, h => by simp at h
  | g :: l, 0, f, h => by
    obtain rfl : g = f := by simpa using h
    exact ⟨rfl, rfl⟩
  | g :: l, j + 1, f, h => by
    have := cellsF_get l j f (by simpa using h)
    rw [show (j + 1) * 2 = j * 2 + 2 by omega]
    exact this
theorem fg_of_row {w : World} {base : Nat} {v : Value} {l : List Fb} (h : w.ownsRow base 216 2 v l.length (cellsF l)) : Fg w v l := by
  by_cases h0 : l = []
  · subst h0
    obtain ⟨a, c, rfl⟩ := row_slice h
    exact ⟨a, c, rfl, Or.inl rfl⟩
  · obtain ⟨g, c, rfl⟩ := row_some h (fun e => h0 (List.eq_nil_of_length_eq_zero e))
    refine ⟨_, c, rfl, Or.inr ⟨g, 0, rfl, fun j f hj => ?_⟩⟩
    have hjl := (List.getElem?_eq_some_iff.1 hj).1
    have := cellsF_get l j f hj
    rw [Nat.zero_add, h.cellAt _ (by omega), h.cellAt _ (by omega)]
    exact this
set_option maxRecDepth 100000 in
theorem all_is (base b k : Nat) (l : List Hd.Fd) (w : World) (h : St base b l k w) (hk : k ≤ 100000) (hbw : base ≤ w.heap.size) (hn : l.length ≤ 40) :
    Calls Tryz.prog 205 #[.pointer (some ⟨b, 0, none⟩)] w fun e w' => (∃ v L, e = .returned v ∧ Fg w' v L ∧ L.map tx = l) ∧ But base b w w' := by
  have cJ := join_is base b k l w h hk hbw hn
  clear h
  go_enter Tryz.func205, Tryz.ntmps205
  go_wp2_with fail
  refine cJ.mono ?_
  rintro e w1 ⟨rfl, ⟨R, hR, hRl⟩, hb1⟩
  obtain ⟨vf, vs, hh, hrf, _⟩ := hR.st
  have hFg := fg_of_row hrf
  have c0 : w1.cell? ⟨b, 0, none⟩ = some vf := rd_cell hh rfl
  obtain ⟨a, cap, rfl⟩ := row_slice hrf
  have HF : Hid (Fg w1 (.slice a R.length cap) R) := hFg
  have HR : Hid (R.map tx = l) := hRl
  obtain ⟨N, hN⟩ : ∃ N, R.length = N := ⟨_, rfl⟩
  rw [hN] at c0 HF
  clear hR hrf hFg hRl cJ hh
  go_wp2_with fail
  go_ret
  exact ⟨⟨_, R, rfl, HF.out, HR.out⟩, hb1⟩
end Go.Proofs.YtligkpcoajnjmaaGreatDoorR
namespace Go.Proofs.YtligkpcoajnjmaaGreatDoorR
open Go.RowKit Go.Proofs.Aid Go.Proofs.Sq Go.Proofs.Hd

set_option maxHeartbeats 2000000 in
set_option maxRecDepth 100000 in
theorem index_fields (F : Nat) (eg : ∀ args w, (callFunc F args).run Tryz.prog w = .ok (.enter F args) w) (caps : Array Value) (P : Fb → Bool) (v : Value) (ks : List Fb) (w : World) (h : Fg w v ks) (hl : ks.length ≤ 1000)
    (hF : ∀ (j : Nat) (k : Fb) W, ks[j]? = some k → Below w.heap.size w W → Calls Tryz.prog F (#[.agg #[.string k.1, .string k.2]] ++ caps) W fun e w' => e = .returned (.bool (P k)) ∧ Below W.heap.size W w') :
    Calls Tryz.prog 206 #[v, .func (.func F) #[] caps] w fun e w' => ∃ z : Int, e = .returned (.int .i64 z) ∧ decide (0 ≤ z) = ks.any P ∧ Below w.heap.size w w' := by
  have HF : Hid (∀ (j : Nat) (k : Fb) W, ks[j]? = some k → Below w.heap.size w W → Calls Tryz.prog F (#[.agg #[.string k.1, .string k.2]] ++ caps) W fun e w' => e = .returned (.bool (P k)) ∧ Below W.heap.size W w') := hF
  have HK : Hid (∀ W, Below w.heap.size w W → Fg W v ks) := fun W hW => h.below hW (Nat.le_refl _)
  obtain ⟨a, c, rfl, _⟩ := h
  obtain ⟨N, hN⟩ : ∃ N, ks.length = N := ⟨_, rfl⟩
  have HN : Hid (ks.length = N) := hN
  rw [hN] at hl HK ⊢
  clear hF hN
  go_enter Tryz.func206, Tryz.ntmps206
  go_wp2_with fail
  go_loopw [8] (fun i wr => ∃ k : Nat, i = .int .i64 (k : Int) ∧ k ≤ N ∧ Hid (∀ j q, j < k → ks[j]? = some q → P q = false) ∧ Below w.heap.size w wr) (fun i _ => N - (intOf i).toNat)
  case atStart => exact ⟨0, rfl, by omega, fun j q h => absurd h (by omega), Below.refl _ _⟩
  case round =>
    obtain ⟨k, rfl, hk, HA, hbW⟩ := hrel
    by_cases hlt : k < N
    · have hkp : k < ks.length := by rw [HN.out]; exact hlt
      obtain ⟨q, hq⟩ : ∃ q, ks[k] = q := ⟨_, rfl⟩
      have hpk : ks[k]? = some q := by rw [List.getElem?_eq_getElem hkp, hq]
      obtain ⟨a', c', hv, hat⟩ := HK.out wr hbW
      injection hv with hv1 hv2 hv3
      subst hv1
      rcases hat with hat | ⟨b, o, rfl, hat⟩
      · exact absurd hpk (by rw [hat]; simp)
      obtain ⟨c0, c1⟩ := hat k q hpk
      have cF := HF.out k q wr hpk hbW
      obtain ⟨q1, q2⟩ := q
      have HPK : Hid (ks[k]? = some (q1, q2)) := hpk
      obtain ⟨B, hB⟩ : ∃ B, P (q1, q2) = B := ⟨_, rfl⟩
      have HB : Hid (P (q1, q2) = B) := hB
      rw [hB] at cF
      clear hat hpk hq hB hv2 hv3
      go_wp2_with fail
      refine cF.mono ?_
      clear cF
      rintro e w1 ⟨rfl, hb1⟩
      have hb01 := hbW.trans (hb1.mono hbW.size)
      cases B
      · go_wp2_with fail
        go_roundw
        case rel =>
          refine ⟨k + 1, by go_num, by omega, fun j q' hj hj' => ?_, hb01⟩
          by_cases hjk : j < k
          · exact HA.out j q' hjk hj'
          · obtain rfl : j = k := by omega
            obtain rfl : (q1, q2) = q' := Option.some.inj (HPK.out.symm.trans hj')
            exact HB.out
        case measure => simp [intOf]; omega
      · go_wp2_with fail
        go_ret
        refine ⟨(k : Int), rfl, ?_, hb01⟩
        rw [decide_eq_true (by omega)]
        exact (List.any_eq_true.2 ⟨(q1, q2), List.mem_of_getElem? HPK.out, HB.out⟩).symm
    · obtain rfl : k = N := by omega
      go_wp2_with fail
      go_ret
      refine ⟨-1, rfl, ?_, hbW⟩
      rw [decide_eq_false (by omega)]
      refine (List.any_eq_false.2 fun x hx => ?_).symm
      obtain ⟨j, hj, hjx⟩ := List.getElem_of_mem hx
      have := HA.out j x (by rw [HN.out] at hj; exact hj) (by rw [List.getElem?_eq_getElem hj, hjx])
      simp [this]
set_option maxHeartbeats 2000000 in
theorem any_fields (F : Nat) (eg : ∀ args w, (callFunc F args).run Tryz.prog w = .ok (.enter F args) w) (caps : Array Value) (P : Fb → Bool) (v : Value) (ks : List Fb) (w : World) (h : Fg w v ks) (hl : ks.length ≤ 1000)
    (hF : ∀ (j : Nat) (k : Fb) W, ks[j]? = some k → Below w.heap.size w W → Calls Tryz.prog F (#[.agg #[.string k.1, .string k.2]] ++ caps) W fun e w' => e = .returned (.bool (P k)) ∧ Below W.heap.size W w') :
    Calls Tryz.prog 160 #[v, .func (.func F) #[] caps] w fun e w' => e = .returned (.bool (ks.any P)) ∧ Below w.heap.size w w' := by
  have c := index_fields F eg caps P v ks w h hl hF
  go_enter Tryz.func160, Tryz.ntmps160
  go_wp2_with fail
  refine c.mono ?_
  rintro e w1 ⟨z, rfl, hz, hb⟩
  go_wp2_with fail
  go_ret
  exact ⟨by rw [← hz]; rfl, hb⟩
end Go.Proofs.YtligkpcoajnjmaaGreatDoorR
