/-
  Deeds at a box, in memory; whether they are short.
-/
import Derived.Test.YtkneeoaeoiaefaaDoorFlagsTexts
import Derived.Test.YtkneeoaeoiaefaaDoorPickN
import Derived.Test.YtkneeoaeoiaefaaDoorBoxInv
namespace Go.Proofs.YtkneeoaeoiaefaaDoor
open Go.RowKit Go.Proofs.Aid Go.Proofs.Bx

/-- A deed. -/
structure Ps where
  what : Int
  uid : Int
  n : Int
  flags : List Fl.Tx
  text : ByteArray
def PsAt (w : World) (b o : Nat) (x : Ps) : Prop :=
  w.cell? ⟨b, o, none⟩ = some (.int .i64 x.what) ∧ w.cell? ⟨b, o + 1, none⟩ = some (.int .i64 x.uid) ∧ w.cell? ⟨b, o + 2, none⟩ = some (.int .i64 x.n) ∧ (∃ fv, w.cell? ⟨b, o + 3, none⟩ = some fv ∧ Sl w fv x.flags) ∧ w.cell? ⟨b, o + 4, none⟩ = some (.string x.text)
def Pts (w : World) (v : Value) (L : List Ps) : Prop := ∃ a c, v = .slice a L.length c ∧ (L = [] ∨ ∃ b o, a = some ⟨b, o, none⟩ ∧ ∀ (j : Nat) x, L[j]? = some x → PsAt w b (o + j * 5) x)
theorem PsAt.below {w w' : World} {b o B : Nat} {x : Ps} (h : PsAt w b o x) (hb : Below B w w') (hB : w.heap.size ≤ B) : PsAt w' b o x := by
  obtain ⟨h1, h2, h3, ⟨fv, h4, h5⟩, h6⟩ := h
  have hlt : b < B := Nat.lt_of_lt_of_le (World.block_lt_of_cell? _ _ h1) hB
  have ec : ∀ i, w'.cell? ⟨b, i, none⟩ = w.cell? ⟨b, i, none⟩ := fun i => hb.cell (p := ⟨b, i, none⟩) hlt
  exact ⟨(ec _).trans h1, (ec _).trans h2, (ec _).trans h3, ⟨fv, (ec _).trans h4, h5.below hb hB⟩, (ec _).trans h6⟩
theorem Pts.below {w w' : World} {v : Value} {B : Nat} {L : List Ps} (h : Pts w v L) (hb : Below B w w') (hB : w.heap.size ≤ B) : Pts w' v L := by
  obtain ⟨a, c, h1, h2⟩ := h
  refine ⟨a, c, h1, ?_⟩
  rcases h2 with h2 | ⟨b, o, h3, h4⟩
  · exact Or.inl h2
  · exact Or.inr ⟨b, o, h3, fun j x hj => (h4 j x hj).below hb hB⟩
def shortP (x : Ps) : Bool := (decide (x.flags.length ≤ 40) && x.flags.all fun t => decide (t.length ≤ 100)) && decide (x.text.size ≤ 300)
def shortB (L : List Ps) : Bool := decide (L.length ≤ 40) && L.all shortP
set_option maxHeartbeats 2000000 in
set_option maxRecDepth 100000 in
theorem short_is (v : Value) (L : List Ps) (w : World) (h : Pts w v L) : Calls Tryd.prog 5 #[v] w fun e w' => e = .returned (.bool (shortB L)) ∧ w' = w := by
  obtain ⟨a, c, rfl, ha⟩ := h
  obtain ⟨R, hR⟩ : ∃ R, shortB L = R := ⟨_, rfl⟩
  rw [hR]
  unfold shortB at hR
  by_cases hl : L.length ≤ 40
  · rw [decide_eq_true hl, Bool.true_and] at hR
    have HR : Hid (L.all shortP = R) := hR
    obtain ⟨len, hn⟩ : ∃ n, L.length = n := ⟨_, rfl⟩
    rw [hn] at hl ⊢
    have hl' : ¬ (40 : Int) < (len : Int) := by omega
    have HN : Hid (L.length = len) := hn
    have HA : Hid (L = [] ∨ ∃ b o, a = some ⟨b, o, none⟩ ∧ ∀ (j : Nat) x, L[j]? = some x → PsAt w b (o + j * 5) x) := ha
    clear hR hn ha
    go_enter Tryd.func5, Tryd.ntmps5
    go_wp2_with fail
    go_loopw [3] (fun i wr => ∃ k : Nat, i = .int .i64 (k : Int) ∧ k ≤ len ∧ Hid (∀ t ∈ L.take k, shortP t = true) ∧ wr = w) (fun i _ => len - (intOf i).toNat)
    case atStart => exact ⟨0, rfl, Nat.zero_le _, fun t ht => by simp at ht, rfl⟩
    case round =>
      obtain ⟨k, rfl, hk, HK, hwr⟩ := hrel
      obtain rfl : w = wr := hwr.symm
      by_cases hlt : k < len
      · have hkl : k < L.length := by rw [HN.out]; exact hlt
        obtain ⟨b, o, rfl, hat⟩ : ∃ b o, a = some ⟨b, o, none⟩ ∧ ∀ (j : Nat) x, L[j]? = some x → PsAt w b (o + j * 5) x := by
          rcases HA.out with h | h
          · rw [h] at hkl; simp at hkl
          · exact h
        obtain ⟨x, hx⟩ : ∃ x, L[k] = x := ⟨_, rfl⟩
        obtain ⟨_, _, _, ⟨fv, q3, hsf⟩, q4⟩ := hat k _ (List.getElem?_eq_getElem hkl)
        rw [hx] at q4 hsf
        have HX : Hid (L[k] = x) := hx
        have cT := texts_any fv x.flags w hsf
        obtain ⟨TB, hTB⟩ : ∃ B, (decide (x.flags.length ≤ 40) && x.flags.all fun t => decide (t.length ≤ 100)) = B := ⟨_, rfl⟩
        rw [hTB] at cT
        have HTB : Hid ((decide (x.flags.length ≤ 40) && x.flags.all fun t => decide (t.length ≤ 100)) = TB) := hTB
        obtain ⟨T, hT⟩ : ∃ T, x.text = T := ⟨_, rfl⟩
        rw [hT] at q4
        have HT : Hid (x.text = T) := hT
        have HNO : Hid (shortP x = false → R = false) := fun h => by
          show R = false
          rw [← HR.out, List.all_eq_false]
          exact ⟨x, by rw [← HX.out]; exact List.getElem_mem _, by simpa using h⟩
        obtain ⟨fa, fc, rfl, _⟩ := hsf
        obtain ⟨FLs, hFLs⟩ : ∃ n, x.flags.length = n := ⟨_, rfl⟩
        rw [hFLs] at q3 cT
        clear hx hat hTB hT hFLs
        cases TB with
        | true =>
          by_cases h300 : T.size ≤ 300
          · have h1 : ¬ (300 : Int) < (T.size : Int) := by omega
            have d1 : decide ((300 : Int) < (T.size : Int)) = false := decide_eq_false h1
            go_wp2_with fail
            refine cT.mono ?_
            rintro e w1 ⟨rfl, hw1⟩
            obtain rfl : w = w1 := hw1.symm
            go_wp2_with fail
            go_roundw
            case rel => exact ⟨k + 1, by go_num, by omega, fun t' ht' => by
              rw [List.take_succ_eq_append_getElem hkl, HX.out] at ht'
              rcases List.mem_append.1 ht' with h | h
              · exact HK.out t' h
              · rw [List.mem_singleton.1 h]; unfold shortP; rw [HTB.out, HT.out]; simpa using h300, trivial⟩
            case measure => simp [intOf]; omega
          · have h1 : (300 : Int) < (T.size : Int) := by omega
            have d1 : decide ((300 : Int) < (T.size : Int)) = true := decide_eq_true h1
            have HRF := HNO.out (by unfold shortP; rw [HTB.out, HT.out]; simpa using h300)
            subst HRF
            go_wp2_with fail
            refine cT.mono ?_
            rintro e w1 ⟨rfl, hw1⟩
            obtain rfl : w = w1 := hw1.symm
            go_wp2_with fail
            go_ret
            exact ⟨rfl, rfl⟩
        | false =>
          have HRF := HNO.out (by unfold shortP; rw [HTB.out]; rfl)
          subst HRF
          go_wp2_with fail
          refine cT.mono ?_
          rintro e w1 ⟨rfl, hw1⟩
          obtain rfl : w = w1 := hw1.symm
          go_wp2_with fail
          go_ret
          exact ⟨rfl, rfl⟩
      · have hRT : R = true := by
          rw [← HR.out, List.all_eq_true]
          intro t ht
          exact HK.out t (by rw [List.take_of_length_le (by rw [HN.out]; omega)]; exact ht)
        subst hRT
        go_wp2_with fail
        go_ret
        exact ⟨rfl, rfl⟩
  · rw [decide_eq_false hl, Bool.false_and] at hR
    subst hR
    have hl' : (40 : Int) < (L.length : Int) := by omega
    clear ha
    go_enter Tryd.func5, Tryd.ntmps5
    go_wp2_with fail
    go_ret
    exact ⟨rfl, rfl⟩
end Go.Proofs.YtkneeoaeoiaefaaDoor
