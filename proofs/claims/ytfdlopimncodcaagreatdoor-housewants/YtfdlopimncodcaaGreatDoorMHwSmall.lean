/-
  Deeds of a house that are handed in; whether they are short enough.
-/
import Derived.Test.YtfdlopimncodcaaGreatDoorBpFlagsSl
namespace Go.Proofs.YtfdlopimncodcaaGreatDoor
open Go.RowKit Go.Proofs.Aid

/-- A deed. -/
structure Dd where
  what : Int
  s : ByteArray
  t : ByteArray
  yes : Bool
def DdAt (w : World) (b o : Nat) (x : Dd) : Prop :=
  w.cell? ⟨b, o, none⟩ = some (.int .i64 x.what) ∧ w.cell? ⟨b, o + 1, none⟩ = some (.string x.s) ∧ w.cell? ⟨b, o + 2, none⟩ = some (.string x.t) ∧ w.cell? ⟨b, o + 3, none⟩ = some (.bool x.yes)
def Dds (w : World) (v : Value) (L : List Dd) : Prop := ∃ a c, v = .slice a L.length c ∧ (L = [] ∨ ∃ b o, a = some ⟨b, o, none⟩ ∧ ∀ (j : Nat) x, L[j]? = some x → DdAt w b (o + j * 4) x)
theorem DdAt.below {w w' : World} {b o B : Nat} {x : Dd} (h : DdAt w b o x) (hb : Below B w w') (hB : w.heap.size ≤ B) : DdAt w' b o x := by
  obtain ⟨h1, h2, h3, h4⟩ := h
  have hlt : b < B := Nat.lt_of_lt_of_le (World.block_lt_of_cell? _ _ h1) hB
  have ec : ∀ i, w'.cell? ⟨b, i, none⟩ = w.cell? ⟨b, i, none⟩ := fun i => hb.cell (p := ⟨b, i, none⟩) hlt
  exact ⟨(ec _).trans h1, (ec _).trans h2, (ec _).trans h3, (ec _).trans h4⟩
theorem Dds.below {w w' : World} {v : Value} {B : Nat} {L : List Dd} (h : Dds w v L) (hb : Below B w w') (hB : w.heap.size ≤ B) : Dds w' v L := by
  obtain ⟨a, c, h1, h2⟩ := h
  refine ⟨a, c, h1, ?_⟩
  rcases h2 with h2 | ⟨b, o, h3, h4⟩
  · exact Or.inl h2
  · exact Or.inr ⟨b, o, h3, fun j x hj => (h4 j x hj).below hb hB⟩
theorem dds_at {w : World} {a : Option Addr} {n c : Nat} {L : List Dd} (h : Dds w (.slice a n c) L) {k : Nat} {x : Dd} (hk : L[k]? = some x) : ∃ b o, a = some ⟨b, o, none⟩ ∧ DdAt w b (o + k * 4) x := by
  obtain ⟨a', c', h1, h2⟩ := h
  injection h1 with h1 _ _
  subst h1
  rcases h2 with h2 | ⟨b, o, h3, h4⟩
  · rw [h2] at hk
    simp at hk
  · exact ⟨b, o, h3, h4 k x hk⟩
def smallD (x : Dd) : Bool := decide (x.s.size ≤ 100) && decide (x.t.size ≤ 100)
def smallB (L : List Dd) : Bool := decide (L.length ≤ 40) && L.all smallD
set_option maxHeartbeats 2000000 in
set_option maxRecDepth 100000 in
theorem small_is (v : Value) (L : List Dd) (w : World) (h : Dds w v L) : Calls Tryz.prog 24 #[v] w fun e w' => e = .returned (.bool (smallB L)) ∧ w' = w := by
  obtain ⟨a, c, rfl, ha⟩ := id h
  obtain ⟨R, hR⟩ : ∃ R, smallB L = R := ⟨_, rfl⟩
  rw [hR]
  unfold smallB at hR
  by_cases hl : L.length ≤ 40
  · rw [decide_eq_true hl, Bool.true_and] at hR
    have HR : Hid (L.all smallD = R) := hR
    obtain ⟨len, hn⟩ : ∃ n, L.length = n := ⟨_, rfl⟩
    rw [hn] at hl
    have HA : Hid (Dds w (.slice a len c) L) := by rw [← hn]; exact h
    rw [hn]
    have hl' : decide ((40 : Int) < (len : Int)) = false := decide_eq_false (by omega)
    have HN : Hid (L.length = len) := hn
    clear hR hn ha h
    go_enter Tryz.func24, Tryz.ntmps24
    go_wp2_with fail
    go_loopw [3] (fun i wr => ∃ k : Nat, i = .int .i64 (k : Int) ∧ k ≤ len ∧ Hid (∀ t ∈ L.take k, smallD t = true) ∧ wr = w) (fun i _ => len - (intOf i).toNat)
    case atStart => exact ⟨0, rfl, Nat.zero_le _, fun t ht => by simp at ht, rfl⟩
    case round =>
      obtain ⟨k, rfl, hk, HK, hwr⟩ := hrel
      obtain rfl : w = wr := hwr.symm
      by_cases hlt : k < len
      · have d1 : decide ((k : Int) < (len : Int)) = true := decide_eq_true (by omega)
        have i1 : (0 : Int) ≤ (k : Int) := by omega
        have i2 : (k : Int) < (len : Int) := by omega
        obtain ⟨x, hxk⟩ : ∃ x, L[k]? = some x := ⟨_, List.getElem?_eq_getElem (by have := HN.out; omega)⟩
        obtain ⟨b, o, rfl, _, q1, q2, _⟩ := dds_at HA.out hxk
        obtain ⟨S, hS⟩ : ∃ s, x.s = s := ⟨_, rfl⟩
        obtain ⟨T, hT⟩ : ∃ s, x.t = s := ⟨_, rfl⟩
        rw [hS] at q1
        rw [hT] at q2
        have HX : Hid (L[k]? = some x ∧ x.s = S ∧ x.t = T) := ⟨hxk, hS, hT⟩
        have HNO : Hid (smallD x = false → R = false) := fun h => by
          show R = false
          rw [← HR.out, List.all_eq_false]
          exact ⟨x, List.mem_of_getElem? hxk, by simpa using h⟩
        clear hxk hS hT
        by_cases hs : S.size ≤ 100
        · have e1 : decide ((100 : Int) < (S.size : Int)) = false := decide_eq_false (by omega)
          by_cases ht : T.size ≤ 100
          · have e2 : decide ((100 : Int) < (T.size : Int)) = false := decide_eq_false (by omega)
            have HNX : Hid (∀ t ∈ L.take (k + 1), smallD t = true) := fun t hm => by
              rw [List.take_add_one, HX.out.1] at hm
              rcases List.mem_append.1 hm with hm | hm
              · exact HK.out t hm
              · obtain rfl : t = x := by simpa using hm
                unfold smallD
                rw [HX.out.2.1, HX.out.2.2, decide_eq_true hs, decide_eq_true ht]
                rfl
            clear HK
            go_wp2_with fail
            go_roundw
            case rel => exact ⟨k + 1, by go_num, by omega, HNX, by first | rfl | trivial⟩
            case measure => simp [intOf]; omega
          · have e2 : decide ((100 : Int) < (T.size : Int)) = true := decide_eq_true (by omega)
            have hRF : R = false := HNO.out (by unfold smallD; rw [HX.out.2.1, HX.out.2.2, decide_eq_false ht, Bool.and_false])
            subst hRF
            clear HK
            go_wp2_with fail
            go_ret
            exact ⟨rfl, rfl⟩
        · have e1 : decide ((100 : Int) < (S.size : Int)) = true := decide_eq_true (by omega)
          have hRF : R = false := HNO.out (by unfold smallD; rw [HX.out.2.1, decide_eq_false hs, Bool.false_and])
          subst hRF
          clear HK
          go_wp2_with fail
          go_ret
          exact ⟨rfl, rfl⟩
      · have d1 : decide ((k : Int) < (len : Int)) = false := decide_eq_false (by omega)
        obtain rfl : k = len := by omega
        have hRT : R = true := by
          rw [← HR.out, List.all_eq_true]
          have := HK.out
          rwa [List.take_of_length_le (by rw [HN.out]; exact Nat.le_refl _)] at this
        subst hRT
        clear HK
        go_wp2_with fail
        go_ret
        exact ⟨rfl, rfl⟩
  · rw [decide_eq_false hl, Bool.false_and] at hR
    subst hR
    have hl' : decide ((40 : Int) < (L.length : Int)) = true := decide_eq_true (by omega)
    clear ha h
    go_enter Tryz.func24, Tryz.ntmps24
    go_wp2_with fail
    go_ret
    exact ⟨rfl, rfl⟩
end Go.Proofs.YtfdlopimncodcaaGreatDoor
