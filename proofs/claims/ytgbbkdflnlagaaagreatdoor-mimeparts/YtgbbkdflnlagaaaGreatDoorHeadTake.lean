/-
  What the methods goOn, begin and take of head.reader do.
-/
import Derived.Test.YtgbbkdflnlagaaaGreatDoorHeadJoin
namespace Go.Proofs.YtgbbkdflnlagaaaGreatDoor
open Go.RowKit Go.Proofs.Aid Go.Proofs.Hd Go.Proofs.Sq

def tx (f : Fb) : Hd.Fd := (f.1.data.toList, f.2.data.toList)
theorem join_snoc (S : List Tx) (x : Tx) : Lib.join (S ++ [x]) [32] = if S = [] then x else Lib.join S [32] ++ 32 :: x := by
  induction S with
  | nil => simp [Lib.join, List.intercalate]
  | cons a S ih =>
    rw [if_neg (by simp)]
    cases S with
    | nil => simp [Lib.join, List.intercalate]
    | cons c S =>
      rw [if_neg (by simp)] at ih
      have e : ∀ (y : Tx) (ys : List Tx), Lib.join (a :: y :: ys) [32] = a ++ 32 :: Lib.join (y :: ys) [32] := fun y ys => by simp [Lib.join, List.intercalate]
      rw [List.cons_append, List.cons_append, e, e, ← List.cons_append, ih]
      simp
theorem join_ne {S : List Tx} (h : ∀ x ∈ S, x ≠ []) (hS : S ≠ []) : Lib.join S [32] ≠ [] := by
  cases S with
  | nil => exact absurd rfl hS
  | cons a S =>
    have ha := h a List.mem_cons_self
    cases S with
    | nil => simpa [Lib.join, List.intercalate] using ha
    | cons c S => simp [Lib.join, List.intercalate]
theorem join_len (M : Nat) : ∀ (S : List Tx), (∀ x ∈ S, x.length ≤ M) → (Lib.join S [32]).length ≤ S.length * (M + 1)
  | [], _ => by simp [Lib.join, List.intercalate]
  | [a], h => by have := h a List.mem_cons_self; simp [Lib.join, List.intercalate]; omega
  | a :: c :: S, h => by
    have ih := join_len M (c :: S) (fun x hx => h x (List.mem_cons_of_mem _ hx))
    have ha := h a List.mem_cons_self
    rw [show Lib.join (a :: c :: S) [32] = a ++ 32 :: Lib.join (c :: S) [32] by simp [Lib.join, List.intercalate], List.length_append, List.length_cons]
    simp only [List.length_cons] at ih ⊢
    rw [Nat.add_mul _ 1]
    omega
theorem cutAt_len (c : UInt8) : ∀ s : Tx, (cutAt c s).1.length ≤ s.length ∧ (cutAt c s).2.1.length ≤ s.length
  | [] => by simp [cutAt]
  | b :: r => by
    have ih := cutAt_len c r
    rw [cutAt]
    split
    · simp
    · simp only [List.length_cons]
      omega
/-- How the fields in memory tell the fields so far. -/
def Tells (R : List Fb) (S : List ByteArray) (l : List Hd.Fd) : Prop := (R = [] ∧ S = [] ∧ l = []) ∨ ∃ P n v, R = P ++ [(n, v)] ∧ l = P.map tx ++ [(n.data.toList, Lib.join (S.map (·.data.toList)) [32])]
structure St (base b : Nat) (l : List Hd.Fd) (k : Nat) (w : World) : Prop where
  st : ∃ R S, Rd base b R S w ∧ S.length ≤ k ∧ (∀ x ∈ S, x.size ≤ 1000000 ∧ x.data.toList ≠ []) ∧ Tells R S l
theorem St.below {base b k : Nat} {l : List Hd.Fd} {w w' : World} (h : St base b l k w) (hb : Below w.heap.size w w') : St base b l k w' := by
  obtain ⟨R, S, h1, h2⟩ := h.st
  exact ⟨R, S, h1.below hb, h2⟩
theorem St.more {base b k : Nat} {l : List Hd.Fd} {w : World} (h : St base b l k w) : St base b l (k + 1) w := by
  obtain ⟨R, S, h1, h2, h3⟩ := h.st
  exact ⟨R, S, h1, by omega, h3⟩
theorem onto_snoc (P : List Hd.Fd) (n v b : Tx) : onto (P ++ [(n, v)]) b = P ++ [(n, joinV v b)] := by
  induction P with
  | nil => rfl
  | cons f P ih =>
    cases P with
    | nil => rfl
    | cons g P => rw [List.cons_append, List.cons_append, onto, ← List.cons_append, ih]; rfl
theorem tells_say {R : List Fb} {S : List ByteArray} {l : List Hd.Fd} {p : Tx} (h : Tells R S l) (hl : l ≠ []) (hS : ∀ x ∈ S, x.size ≤ 1000000 ∧ x.data.toList ≠ []) : Tells R (if bare p = [] then S else S ++ [⟨(bare p).toArray⟩]) (onto l (bare p)) := by
  rcases h with ⟨_, _, h⟩ | ⟨P, n, v, rfl, rfl⟩
  · exact absurd h hl
  · refine Or.inr ⟨P, n, v, rfl, ?_⟩
    rw [onto_snoc]
    congr 3
    unfold joinV
    by_cases hb : bare p = []
    · rw [if_pos hb, if_pos hb]
    · rw [if_neg hb, if_neg hb, List.map_append, List.map_cons, List.map_nil, join_snoc]
      by_cases hs : S = []
      · subst hs
        rfl
      · rw [if_neg (join_ne (fun x hx => by obtain ⟨y, hy, rfl⟩ := List.mem_map.1 hx; exact (hS y hy).2) (by simpa using hs)), if_neg (by simpa using hs)]
theorem said_ok {S : List ByteArray} {p : ByteArray} (hp : p.size ≤ 1000000) (hS : ∀ x ∈ S, x.size ≤ 1000000 ∧ x.data.toList ≠ []) : ∀ x ∈ (if bare p.data.toList = [] then S else S ++ [⟨(bare p.data.toList).toArray⟩]), x.size ≤ 1000000 ∧ x.data.toList ≠ [] := by
  intro x hx
  split at hx
  · exact hS x hx
  · next hb =>
    rcases List.mem_append.1 hx with hx | hx
    · exact hS x hx
    · obtain rfl := List.mem_singleton.1 hx
      refine ⟨?_, hb⟩
      have := bare_length p.data.toList
      rw [list_size] at this
      rw [Lib.size_eq]
      show (bare p.data.toList).length ≤ _
      omega
theorem said_len {S : List ByteArray} {p : Tx} {k : Nat} (h : S.length ≤ k) : (if bare p = [] then S else S ++ [⟨(bare p).toArray⟩]).length ≤ k + 1 := by
  split
  · omega
  · simp; omega
set_option maxRecDepth 100000 in
theorem goOn_is (base b k : Nat) (l : List Hd.Fd) (p : ByteArray) (w : World) (h : St base b l k w) (hp : p.size ≤ 1000000) (hk : k ≤ 100000) (hbw : base ≤ w.heap.size) (hn : l.length ≤ 40) :
    Calls Tryz.prog 179 #[.pointer (some ⟨b, 0, none⟩), .string p] w fun e w' => But base b w w' ∧ ((l = [] ∧ e = .returned (.int .i64 3)) ∨ (l ≠ [] ∧ e = .returned (.int .i64 0) ∧ St base b (onto l (bare p.data.toList)) (k + 1) w')) := by
  obtain ⟨R, S, hR, hSk, hS, hT⟩ := h.st
  obtain ⟨vf, vs, hh, hrf, _⟩ := hR.st
  obtain ⟨a, cap, rfl⟩ := row_slice hrf
  have c0 : w.cell? ⟨b, 0, none⟩ = some (.slice a R.length cap) := rd_cell hh rfl
  by_cases hl : l = []
  · have hR0 : R.length = 0 := by
      rcases hT with ⟨rfl, _⟩ | ⟨P, n, v, rfl, rfl⟩
      · rfl
      · simp at hl
    rw [hR0] at c0
    clear hrf hh hR
    go_enter Tryz.func179, Tryz.ntmps179
    go_wp2_with fail
    go_ret
    exact ⟨to_but (Below.refl _ _), Or.inl ⟨hl, rfl⟩⟩
  · obtain ⟨N, hN⟩ : ∃ N, R.length = N + 1 := by
      rcases hT with ⟨_, _, h⟩ | ⟨P, n, v, rfl, _⟩
      · exact absurd h hl
      · exact ⟨P.length, by simp⟩
    have cS := say_is base b R S p w hR hp (by omega) hbw
    have HT : Hid (Tells R (if bare p.data.toList = [] then S else S ++ [⟨(bare p.data.toList).toArray⟩]) (onto l (bare p.data.toList))) := tells_say hT hl hS
    have HS : Hid (∀ x ∈ (if bare p.data.toList = [] then S else S ++ [⟨(bare p.data.toList).toArray⟩]), x.size ≤ 1000000 ∧ x.data.toList ≠ []) := said_ok hp hS
    have HK : Hid ((if bare p.data.toList = [] then S else S ++ [⟨(bare p.data.toList).toArray⟩]).length ≤ k + 1) := said_len hSk
    obtain ⟨S', hS'⟩ : ∃ S', (if bare p.data.toList = [] then S else S ++ [⟨(bare p.data.toList).toArray⟩]) = S' := ⟨_, rfl⟩
    rw [hS'] at cS HT HS HK
    obtain ⟨L', hL'⟩ : ∃ L', onto l (bare p.data.toList) = L' := ⟨_, rfl⟩
    rw [hL'] at HT ⊢
    rw [hN] at c0
    have hne : (((N : Int) + 1) == 0) = false := by rw [beq_eq_false_iff_ne]; omega
    clear hrf hh hR hT hS hS' hL'
    go_enter Tryz.func179, Tryz.ntmps179
    go_wp2_with fail
    refine cS.mono ?_
    rintro e w1 ⟨rfl, hR1, hb1⟩
    go_wp2_with fail
    go_ret
    exact ⟨hb1, Or.inr ⟨hl, rfl, R, S', hR1, HK.out, HS.out, HT.out⟩⟩
/-- A row of another type stays what it was where one grows. -/
theorem row_grown {e e' : TypeId} {base size size' : Nat} {w w' : World} {v v' : Value} {n n' : Nat} {xs xs' : List Value} (hg : w.grownBy w' v.ownBlock) (hv : w.ownsRow base e size v n xs) (h : w.ownsRow base e' size' v' n' xs') (hne : e ≠ e') : w'.ownsRow base e' size' v' n' xs' := by
  refine ⟨h.1, ?_⟩
  rcases h.2 with h2 | ⟨g, cap, cur, h3, h4, hh, r⟩
  · exact Or.inl h2
  · exact Or.inr ⟨g, cap, cur, h3, h4, (hg.block g (Array.getElem?_eq_some_iff.1 hh).1 (fun e1 => row_off hv hh hne e1.symm)).trans hh, r⟩
/-- Behind join the fields in memory are the fields so far. -/
theorem join_is (base b k : Nat) (l : List Hd.Fd) (w : World) (h : St base b l k w) (hk : k ≤ 100000) (hbw : base ≤ w.heap.size) (hn : l.length ≤ 40) :
    Calls Tryz.prog 181 #[.pointer (some ⟨b, 0, none⟩)] w fun e w' => e = .returned (.tuple #[]) ∧ (∃ R, Rd base b R [] w' ∧ R.map tx = l) ∧ But base b w w' := by
  obtain ⟨R, S, hR, hSk, hS, hT⟩ := h.st
  rcases hT with ⟨rfl, rfl, rfl⟩ | ⟨P, n, v, rfl, rfl⟩
  · refine (join_none base b [] w hR hbw).mono ?_
    rintro e w' ⟨rfl, h1, h2⟩
    exact ⟨rfl, ⟨[], h1, rfl⟩, h2⟩
  · have hl : (Lib.join (S.map (·.data.toList)) [32]).length ≤ 140737488355328 := by
      have := join_len 1000000 (S.map (·.data.toList)) (fun x hx => by
        obtain ⟨y, hy, rfl⟩ := List.mem_map.1 hx
        rw [list_size]
        exact (hS y hy).1)
      rw [List.length_map] at this
      have h2 : S.length * (1000000 + 1) ≤ 100000 * (1000000 + 1) := Nat.mul_le_mul_right _ (by omega)
      omega
    refine (join_some base b P n v S w hR (by simp at hn; omega) (by omega) hl hbw).mono ?_
    rintro e w' ⟨rfl, h1, h2⟩
    exact ⟨rfl, ⟨_, h1, by simp [tx, joinB]⟩, h2⟩
set_option maxHeartbeats 1000000 in
set_option maxRecDepth 100000 in
theorem begin_is (base b k : Nat) (l : List Hd.Fd) (p : ByteArray) (m : Int) (w : World) (h : St base b l k w) (hp : p.size ≤ 1000000) (hk : k ≤ 100000) (hbw : base ≤ w.heap.size) (hn : l.length ≤ 40) (hm : w.cell? ⟨1, 0, none⟩ = some (.int .i64 m)) :
    Calls Tryz.prog 180 #[.pointer (some ⟨b, 0, none⟩), .string p] w fun e w' => But base b w w' ∧
      (((cutAt 58 p.data.toList).2.2 = false ∨ nameOk (cutAt 58 p.data.toList).1 = false) ∧ e = .returned (.int .i64 3) ∨
       ¬ ((cutAt 58 p.data.toList).2.2 = false ∨ nameOk (cutAt 58 p.data.toList).1 = false) ∧ (l.length = 40 ∧ e = .returned (.int .i64 4) ∨ l.length ≠ 40 ∧ e = .returned (.int .i64 0) ∧ St base b (l ++ [((cutAt 58 p.data.toList).1, bare (cutAt 58 p.data.toList).2.1)]) (k + 1) w')) := by
  have cC := Tryz.strings_Cut p ⟨#[58]⟩ m w (by omega) hm
  have hce : Lib.cut p.data.toList (⟨#[58]⟩ : ByteArray).data.toList = cutAt 58 p.data.toList := cut_eq 58 p.data.toList
  rw [hce] at cC
  obtain ⟨nm, hnm⟩ : ∃ n : ByteArray, ⟨(cutAt 58 p.data.toList).1.toArray⟩ = n := ⟨_, rfl⟩
  obtain ⟨vl, hvl⟩ : ∃ n : ByteArray, ⟨(cutAt 58 p.data.toList).2.1.toArray⟩ = n := ⟨_, rfl⟩
  have hnl : (cutAt 58 p.data.toList).1 = nm.data.toList := by rw [← hnm]
  have hvl' : (cutAt 58 p.data.toList).2.1 = vl.data.toList := by rw [← hvl]
  have hsz : nm.size ≤ 1000000 ∧ vl.size ≤ 1000000 := by
    have hc := cutAt_len 58 p.data.toList
    rw [hnl, hvl', list_size, list_size, list_size] at hc
    omega
  obtain ⟨told, htold⟩ : ∃ b, (cutAt 58 p.data.toList).2.2 = b := ⟨_, rfl⟩
  rw [hnm, hvl, htold] at cC
  rw [hnl, hvl', htold]
  have hns := hsz.1
  have hvs := hsz.2
  clear hce hnm hvl hnl hvl' htold hsz hm
  obtain ⟨R0, S0, hR0, hSk, hS, hT⟩ := h.st
  obtain ⟨vf, vs, hh, hrf, _⟩ := hR0.st
  obtain ⟨a, cap, rfl⟩ := row_slice hrf
  have hlen : R0.length = l.length := by
    rcases hT with ⟨rfl, _, rfl⟩ | ⟨P, n, v, rfl, rfl⟩
    · rfl
    · simp
  rw [hlen] at hh hrf
  have HH : Hid (w.heap[b]? = some (.cells #[.slice a l.length cap, vs] 201 (0, 0))) := hh
  have c0 : w.cell? ⟨b, 0, none⟩ = some (.slice a l.length cap) := rd_cell hh rfl
  obtain ⟨len, hln⟩ : ∃ n, l.length = n := ⟨_, rfl⟩
  rw [hln] at c0 hn ⊢
  have HLN : Hid (l.length = len) := hln
  have HST : Hid (St base b l k w) := h
  clear hR0 hT hS hrf hh h HH hlen hln hSk
  cases told with
  | false =>
    go_enter Tryz.func180, Tryz.ntmps180
    go_wp2_with fail
    refine cC.mono ?_
    rintro e w1 ⟨rfl, q, rfl⟩
    go_wp2_with fail
    go_ret
    exact ⟨to_but (below_drewN (Below.refl _ _) q), Or.inl ⟨Or.inl trivial, rfl⟩⟩
  | true =>
    have cN := fun W => isName_is nm W hns
    obtain ⟨ok, hok⟩ : ∃ b, nameOk nm.data.toList = b := ⟨_, rfl⟩
    rw [hok] at cN ⊢
    clear hok
    cases ok with
    | false =>
      go_enter Tryz.func180, Tryz.ntmps180
      go_wp2_with fail
      refine cC.mono ?_
      rintro e w1 ⟨rfl, q, rfl⟩
      go_wp2_with fail
      refine (cN _).mono ?_
      rintro e w2 ⟨rfl, hw⟩
      subst hw
      go_wp2_with fail
      go_ret
      exact ⟨to_but (below_drewN (Below.refl _ _) q), Or.inl ⟨Or.inr trivial, rfl⟩⟩
    | true =>
      by_cases h40 : len = 40
      · subst h40
        go_enter Tryz.func180, Tryz.ntmps180
        go_wp2_with fail
        refine cC.mono ?_
        rintro e w1 ⟨rfl, q, rfl⟩
        go_wp2_with fail
        refine (cN _).mono ?_
        rintro e w2 ⟨rfl, hw⟩
        subst hw
        go_wp2_with fail
        go_ret
        exact ⟨to_but (below_drewN (Below.refl _ _) q), Or.inr ⟨by simp, Or.inl ⟨trivial, rfl⟩⟩⟩
      · have hq : ((len : Int) == 40) = false := by rw [beq_eq_false_iff_ne]; omega
        obtain ⟨i0, hi, hz0, hz1, hz2⟩ := info_parts Tryz.infoField
        go_enter Tryz.func180, Tryz.ntmps180
        go_wp2_with fail
        refine cC.mono ?_
        rintro e w1 ⟨rfl, q, rfl⟩
        go_wp2_with fail
        refine (cN _).mono ?_
        rintro e w2 ⟨rfl, hw⟩
        subst hw
        have hbq : Below w.heap.size w (w.drewN q) := below_drewN (Below.refl _ _) q
        have cJ := join_is base b k l (w.drewN q) (HST.out.below hbq) hk hbw (by have := HLN.out; omega)
        have hbq' : Below base w (w.drewN q) := below_drewN (Below.refl _ _) q
        clear cC cN hbq
        go_wp2_with fail
        refine cJ.mono ?_
        clear cJ
        rintro e w3 ⟨rfl, ⟨R, hR, hRl⟩, hb3⟩
        have hb03 := (to_but hbq').trans hb3
        have hbs3 : base ≤ w3.heap.size := Nat.le_trans hbw hb03.size
        obtain ⟨vf, vs, hh, hrf, hrs⟩ := hR.st
        obtain ⟨ra, rc, rfl⟩ := row_slice hrf
        have hRlen : R.length = len := by rw [← HLN.out, ← hRl, List.length_map]
        rw [hRlen] at hh hrf
        have d0 : w3.cell? ⟨b, 0, none⟩ = some (.slice ra len rc) := rd_cell hh rfl
        have hnews : ∀ (j : Nat) (u : Value), [Value.string nm, Value.string ⟨#[]⟩][j]? = some u → (w3.alloc (.cells #[.string nm, .string ⟨#[]⟩] 123)).cell? (Addr.add ⟨w3.heap.size, 0, none⟩ j) = some u := World.news_of_block (heap_alloc_new w3 (.cells #[.string nm, .string ⟨#[]⟩] 123))
        have HRL : Hid (R.map tx = l) := hRl
        clear hR hRl hb3 hbq'
        go_wp2_with (at_builtin; go_must (refine wpList_append_lies _ rfl (.tmp 33) (.tmp 36) 119 rfl base 123 i0 (.agg #[.string ⟨#[]⟩, .string ⟨#[]⟩]) 2 32 Tryz.underlying119 hi hz0 hz1 hz2 rfl (by decide) _ _ _ (by rfl) (hrf.alloc _) ⟨w3.heap.size, 0, none⟩ 1 1 [.string nm, .string ⟨#[]⟩] (by rfl) rfl hnews (by simp [Value.oneCell']) (by decide) (by unfold maxLen; omega) (by omega) (by simp; omega) _ rfl ?_); intro g4 cap4 w4 hown4 hg4 _ hlt4; have hg4' := grownBy_of_alloc hg4; have hh4 : w4.heap[b]? = some (.cells #[.slice ra len rc, vs] 201 (0, 0)) := (hg4'.block b (Array.getElem?_eq_some_iff.1 hh).1 (fun e => row_off hrf hh (by decide) e.symm)).trans hh; have c4 := rd_cell (j := 0) hh4 rfl; have f4 := rd_free hh4 0)
        have hb4 : But base b w w4 := hb03.trans (to_but ((Below.refl base w3).grown hg4' hbs3 (fun j e => (hrf.lt j e).1)))
        have hrs4 := row_grown hg4' hrf hrs (by decide)
        have hh5 := rd_set (i := 0) (.slice (some ⟨g4, 0, none⟩) (len + 1) cap4) hh4
        have hrf5 := ownsRow_setCell_other hown4 (a := ⟨b, 0, none⟩) (row_off hown4 hh4 (by decide)) (.slice (some ⟨g4, 0, none⟩) (len + 1) cap4)
        have hrs5 := ownsRow_setCell_other hrs4 (a := ⟨b, 0, none⟩) (row_off hrs4 hh4 (by decide)) (.slice (some ⟨g4, 0, none⟩) (len + 1) cap4)
        have hb5 := hb4.setB 0 (.slice (some ⟨g4, 0, none⟩) (len + 1) cap4)
        have hR5 : Rd base b (R ++ [(nm, ⟨#[]⟩)]) [] (w4.setCell ⟨b, 0, none⟩ (.slice (some ⟨g4, 0, none⟩) (len + 1) cap4)) := by
          refine ⟨_, _, hh5, ?_, hrs5⟩
          rw [List.length_append, hRlen, cellsF_append]
          exact hrf5
        have cS := say_is base b _ [] vl _ hR5 hvs (by simp) (Nat.le_trans hbw hb5.size)
        have HT : Hid (Tells (R ++ [(nm, ⟨#[]⟩)]) (if bare vl.data.toList = [] then [] else [] ++ [⟨(bare vl.data.toList).toArray⟩]) (l ++ [(nm.data.toList, bare vl.data.toList)])) := by
          refine Or.inr ⟨R, nm, ⟨#[]⟩, rfl, ?_⟩
          rw [HRL.out]
          congr 3
          by_cases hv : bare vl.data.toList = []
          · rw [if_pos hv, hv]; rfl
          · rw [if_neg hv]; simp [Lib.join, List.intercalate]
        have HS : Hid (∀ x ∈ (if bare vl.data.toList = [] then ([] : List ByteArray) else [] ++ [⟨(bare vl.data.toList).toArray⟩]), x.size ≤ 1000000 ∧ x.data.toList ≠ []) := said_ok hvs (by simp)
        have HK : Hid ((if bare vl.data.toList = [] then ([] : List ByteArray) else [] ++ [⟨(bare vl.data.toList).toArray⟩]).length ≤ k + 1) := said_len (Nat.zero_le _)
        obtain ⟨S', hS'⟩ : ∃ S', (if bare vl.data.toList = [] then ([] : List ByteArray) else [] ++ [⟨(bare vl.data.toList).toArray⟩]) = S' := ⟨_, rfl⟩
        rw [hS'] at cS HT HS HK
        clear hR5 hh5 hrf5 hrs5 hrs4 hown4 hg4 hg4' hrf hrs hh hh4 c4 f4 d0 hS'
        refine cS.mono ?_
        rintro e w6 ⟨rfl, hR6, hb6⟩
        go_wp2_with fail
        go_ret
        exact ⟨hb5.trans hb6, Or.inr ⟨by simp, Or.inr ⟨h40, rfl, _, S', hR6, HK.out, HS.out, HT.out⟩⟩⟩
end Go.Proofs.YtgbbkdflnlagaaaGreatDoor
