/-
  All names that are wanted, and more.
-/
import Derived.Test.YtfdlopimncodcaaGreatDoorMHwWant
import Derived.LaidEql
import Derived.Stop.Asserts
import Derived.RowKitTokens
import Derived.Carry
import Derived.OpenShut
import Derived.ChangeSlices
import Derived.SliceStrings
import Derived.Deep.SlicePairs
import Derived.WideShapes
import Derived.Lib.LaidU8
import Derived.Lib.LaidTab
import Derived.Lib.SmallJoins
namespace Go.Proofs.YtfdlopimncodcaaGreatDoor
open Go.RowKit Go.Proofs.Aid

theorem star_all (s : List UInt8) : matchB [42] s = true := (match_iff _ _).2 (mt_star_all s)
set_option maxHeartbeats 2000000 in
theorem list1_is (n : ByteArray) (p : Nat) (w : World) (hp : w.cell? ⟨p, 0, none⟩ = some (.string ⟨#[42]⟩)) (hn : n.size ≤ 1000) :
    Calls Tryz.prog 79 #[.string n, .pointer (some ⟨p, 0, none⟩)] w fun e w' => e = .returned (.bool false) ∧ Below w.heap.size w w' := by
  have cM := match_is ⟨#[42]⟩ n w (by omega) (by decide)
  rw [show matchB (⟨#[42]⟩ : ByteArray).data.toList n.data.toList = true from star_all _] at cM
  go_enter Tryz.func79, Tryz.ntmps79
  go_wp2_with fail
  refine cM.mono ?_
  rintro e w1 ⟨rfl, hb1⟩
  clear cM
  go_wp2_with fail
  go_ret
  exact ⟨rfl, hb1⟩
set_option maxHeartbeats 2000000 in
set_option maxRecDepth 100000 in
theorem idx_none (p base : Nat) (v : Value) (ns : List Nm) (w : World) (h : NRow w base v ns) (hp : w.cell? ⟨p, 0, none⟩ = some (.string ⟨#[42]⟩)) (hns : ∀ n ∈ ns, n.length ≤ 1000) (hl : ns.length ≤ 1000) :
    Calls Tryz.prog 122 #[v, .func (.func 79) #[] #[.pointer (some ⟨p, 0, none⟩)]] w fun e w' => e = .returned (.int .i64 (-1)) ∧ Below w.heap.size w w' := by
  obtain ⟨a, c, rfl⟩ := row_form h
  obtain ⟨M, hM⟩ : ∃ m, ns.length = m := ⟨_, rfl⟩
  have HX : Hid (NRow w base (.slice a M c) ns ∧ ns.length = M ∧ (∀ n ∈ ns, n.length ≤ 1000) ∧ w.cell? ⟨p, 0, none⟩ = some (.string ⟨#[42]⟩)) := ⟨by rw [← hM]; exact h, hM, hns, hp⟩
  rw [hM] at hl ⊢
  clear h hM hns hp
  go_enter Tryz.func122, Tryz.ntmps122
  go_wp2_with fail
  go_loopw [8] (fun iv wr => ∃ k : Nat, iv = .int .i64 (k : Int) ∧ k ≤ M ∧ Hid (Below w.heap.size w wr)) (fun iv _ => M - (intOf iv).toNat)
  case atStart => exact ⟨0, rfl, Nat.zero_le _, Below.refl _ _⟩
  case round =>
    obtain ⟨k, rfl, hk, HB⟩ := hrel
    by_cases hlt : k < M
    · have d1 : decide ((k : Int) < (M : Int)) = true := decide_eq_true (by omega)
      have i1 : (0 : Int) ≤ (k : Int) := by omega
      have i2 : (k : Int) < (M : Int) := by omega
      obtain ⟨n, hnk⟩ : ∃ n, ns[k]? = some n := ⟨_, List.getElem?_eq_getElem (by have := HX.out.2.1; omega)⟩
      obtain ⟨g, cap, hvg, hc0⟩ := nrow_at (HX.out.1.below HB.out (Nat.le_refl _)) hnk
      injection hvg with hva hvb hvc
      subst hva
      clear hvb hvc
      have hcg : wr.cell? ⟨g, k, none⟩ = some (.string ⟨n.toArray⟩) := hc0
      have hnl := HX.out.2.2.1 n (List.mem_of_getElem? hnk)
      have cL := list1_is ⟨n.toArray⟩ p wr ((HB.out.cell (p := ⟨p, 0, none⟩) (World.block_lt_of_cell? _ _ HX.out.2.2.2)).trans HX.out.2.2.2) (by show n.toArray.size ≤ _; rw [List.size_toArray]; exact hnl)
      clear hc0 hnk hnl
      go_wp2_with fail
      refine cL.mono ?_
      rintro e w1 ⟨rfl, hb1⟩
      have HB1 : Hid (Below w.heap.size w w1) := HB.out.trans (hb1.mono HB.out.size)
      clear cL hb1
      go_wp2_with fail
      go_roundw
      case rel => exact ⟨k + 1, by go_num, by omega, HB1⟩
      case measure => simp [intOf]; omega
    · have d1 : decide ((k : Int) < (M : Int)) = false := decide_eq_false (by omega)
      go_wp2_with fail
      go_ret
      exact ⟨rfl, HB.out⟩
theorem idx_empty (a : Option Addr) (c : Nat) (f : Value) (w : World) : Calls Tryz.prog 122 #[.slice a 0 c, f] w fun e w' => e = .returned (.int .i64 (-1)) ∧ w' = w := Tryz.slices_IndexFunc_empty (α := Nat) a c f w
/-- Nothing is deleted. -/
theorem del_none (v f : Value) (w : World) (hv : ∃ a n c, v = .slice a n c) (cI : Calls Tryz.prog 122 #[v, f] w fun e w' => e = .returned (.int .i64 (-1)) ∧ Below w.heap.size w w') :
    Calls Tryz.prog 78 #[v, f] w fun e w' => e = .returned v ∧ Below w.heap.size w w' := by
  obtain ⟨a, n, c, rfl⟩ := hv
  go_enter Tryz.func78, Tryz.ntmps78
  go_wp2_with fail
  refine cI.mono ?_
  rintro e w1 ⟨rfl, hb1⟩
  clear cI
  go_wp2_with fail
  go_ret
  exact ⟨rfl, hb1⟩
set_option maxHeartbeats 4000000 in
set_option maxRecDepth 100000 in
/-- List("*", true): just what is wanted. -/
theorem list_is (hb mb base : Nat) (l : Bxs) (nx : Int) (wv : Value) (ns : List Nm) (w : World) (h : HsAt w hb mb l nx wv) (hl : l.length ≤ 1000) (hr : NRow w base wv ns ∨ (ns = [] ∧ ∃ a c, wv = .slice a 0 c)) (hns : ∀ n ∈ ns, n.length ≤ 1000) (hnl : ns.length ≤ 1000) :
    Calls Tryz.prog 29 #[.pointer (some ⟨hb, 0, none⟩), .string ⟨#[42]⟩, .bool true] w fun e w' => (∃ v, e = .returned v ∧ ∃ base, NRow w' base v ns) ∧ Below w.heap.size w w' := by
  have b1 : Below w.heap.size w (w.alloc (.cells #[.string ⟨#[42]⟩] 9)) := (Below.refl _ _).alloc (Nat.le_refl _) _
  have e1 := heap_alloc_new w (.cells #[.string ⟨#[42]⟩] 9)
  obtain ⟨W1, hW1⟩ : ∃ W, w.alloc (.cells #[.string ⟨#[42]⟩] 9) = W := ⟨_, rfl⟩
  rw [hW1] at b1 e1
  have h1 := h.below b1 (Nat.le_refl _)
  have cN := names_is hb mb l nx wv W1 h1 hl
  have hz1 := b1.size
  have hw1 : w.heap.size < W1.heap.size := (Array.getElem?_eq_some_iff.1 e1).1
  have HX : Hid (HsAt W1 hb mb l nx wv ∧ Below w.heap.size w W1 ∧ W1.heap[w.heap.size]? = some (.cells #[.string ⟨#[42]⟩] 9 (0, 0)) ∧ (NRow W1 base wv ns ∨ (ns = [] ∧ ∃ a c, wv = .slice a 0 c)) ∧ ∀ n ∈ ns, n.length ≤ 1000) := ⟨h1, b1, e1, hr.imp (fun h => h.below b1 (Nat.le_refl _)) id, hns⟩
  have HCl : Hid (∀ W, Below W1.heap.size W1 W → Calls Tryz.prog 51 #[wv] W fun e w' => (∃ v, e = .returned v ∧ NRow w' W.heap.size v ns) ∧ Below W.heap.size W w') := fun W hW => by
    rcases hr with hr | ⟨rfl, a, c, rfl⟩
    · have hr' := (hr.below b1 (Nat.le_refl _)).below hW (Nat.le_refl _)
      cases ns with
      | nil =>
        obtain ⟨a, c, rfl⟩ := row_form hr
        cases a with
        | none =>
          refine (Tryz.slices_Clone_string_nil _ c W).mono ?_
          rintro e w' ⟨rfl, rfl⟩
          exact ⟨⟨_, rfl, World.ownsRow_nil _ _ _ _⟩, Below.refl _ _⟩
        | some a =>
          refine (Tryz.slices_Clone_string_zero a c W).mono ?_
          rintro e w' ⟨v, rfl, q1, _, q3⟩
          exact ⟨⟨_, rfl, q1⟩, q3⟩
      | cons x xs =>
        obtain ⟨g, cap, rfl, _⟩ := nrow_at hr' (j := 0) (x := x) rfl
        have hc : ∀ j, j < ((x :: xs).map fun t => (⟨t.toArray⟩ : ByteArray)).length → W.cell? ⟨g, 0 + j, none⟩ = some (.string (((x :: xs).map fun t => (⟨t.toArray⟩ : ByteArray)).getD j ByteArray.empty)) := fun j hj => by
          rw [List.length_map] at hj
          obtain ⟨g', cap', e2, e3⟩ := nrow_at hr' (List.getElem?_eq_getElem hj)
          injection e2 with e2 _ _
          injection e2 with e2
          injection e2 with e2 _ _
          subst e2
          rw [Nat.zero_add, e3, List.getD_eq_getElem?_getD, List.getElem?_map, List.getElem?_eq_getElem hj]
          rfl
        refine (Tryz.slices_Clone_string g 0 (x :: xs).length cap ((x :: xs).map fun t => (⟨t.toArray⟩ : ByteArray)) W (by rw [List.length_map]; exact Nat.le_refl _) (by omega) hc).mono ?_
        rintro e w' ⟨v, rfl, q1, _, q3⟩
        rw [List.take_of_length_le (by rw [List.length_map]; exact Nat.le_refl _), List.map_map] at q1
        exact ⟨⟨_, rfl, q1⟩, q3⟩
    · cases a with
      | none =>
        refine (Tryz.slices_Clone_string_nil 0 c W).mono ?_
        rintro e w' ⟨rfl, rfl⟩
        exact ⟨⟨_, rfl, World.ownsRow_nil _ _ _ _⟩, Below.refl _ _⟩
      | some a =>
        refine (Tryz.slices_Clone_string_zero a c W).mono ?_
        rintro e w' ⟨v, rfl, q1, _, q3⟩
        exact ⟨⟨_, rfl, q1⟩, q3⟩
  clear h h1 b1 e1 hr hns
  go_enter Tryz.func29, Tryz.ntmps29
  go_wp2_with fail
  refine cN.mono ?_
  rintro e w2 ⟨⟨v2, rfl, _⟩, hb2⟩
  have c1 := (HX.out.1.below hb2 (Nat.le_refl _)).cell.2.1
  have cC := HCl.out w2 hb2
  have HB2 : Hid (Below W1.heap.size W1 w2) := hb2
  clear cN hb2 HCl
  go_wp2_with fail
  refine cC.mono ?_
  rintro e w3 ⟨⟨v3, rfl, hrow⟩, hb3⟩
  have hp3 : w3.cell? ⟨w.heap.size, 0, none⟩ = some (.string ⟨#[42]⟩) := rd_cell ((hb3.block _ (Nat.lt_of_lt_of_le hw1 HB2.out.size)).trans ((HB2.out.block _ hw1).trans HX.out.2.2.1)) rfl
  have cI := idx_none w.heap.size w2.heap.size v3 ns w3 hrow hp3 HX.out.2.2.2.2 hnl
  have cD := del_none v3 (.func (.func 79) #[] #[.pointer (some ⟨w.heap.size, 0, none⟩)]) w3 (by obtain ⟨a, c, e⟩ := row_form hrow; exact ⟨_, _, _, e⟩) cI
  have HY : Hid (NRow w3 w2.heap.size v3 ns ∧ Below w.heap.size w w3) := ⟨hrow, HX.out.2.1.trans ((HB2.out.trans (hb3.mono HB2.out.size)).mono hz1)⟩
  obtain ⟨a3, c3, rfl⟩ := row_form hrow
  clear cC cI hrow hb3 hp3 c1
  go_wp2_with fail
  refine cD.mono ?_
  rintro e w4 ⟨rfl, hb4⟩
  have HF : Hid (NRow w4 w2.heap.size (.slice a3 ns.length c3) ns ∧ Below w.heap.size w w4) := ⟨HY.out.1.below hb4 (Nat.le_refl _), HY.out.2.trans (hb4.mono HY.out.2.size)⟩
  clear cD hb4
  go_wp2_with fail
  go_ret
  exact ⟨⟨_, rfl, _, HF.out.1⟩, HF.out.2⟩
end Go.Proofs.YtfdlopimncodcaaGreatDoor
namespace Go.Proofs.YtfdlopimncodcaaGreatDoor
open Go.RowKit Go.Proofs.Aid

/-- A deed. -/
structure Dd where
  what : Int
  s : ByteArray
  t : ByteArray
  yes : Bool
def DdAt (w : World) (b o : Nat) (x : Dd) : Prop :=
  w.cell? ⟨b, o, none⟩ = some (.int .i64 x.what) ∧ w.cell? ⟨b, o + 1, none⟩ = some (.string x.s) ∧ w.cell? ⟨b, o + 2, none⟩ = some (.string x.t) ∧ w.cell? ⟨b, o + 3, none⟩ = some (.bool x.yes)
def Dds (w : World) (v : Value) (L : List Dd) : Prop := ∃ a c, v = .slice a L.length c ∧ (L = [] ∨ ∃ b o, a = some ⟨b, o, none⟩ ∧ ∀ (j : Nat) x, L[j]? = some x → DdAt w b (o + j * 4) x)
theorem DdAt.below {w w' : World} {b o B : Nat} {x : Dd} (h : DdAt w b o x) (hb : Below B w w') (hB : w.heap.size ≤ B) : DdAt w' b o x := by
  obtain ⟨h1, h2, h3, h4⟩ := h
  have hlt : b < B := Nat.lt_of_lt_of_le (World.block_lt_of_cell? _ _ h1) hB
  have ec : ∀ i, w'.cell? ⟨b, i, none⟩ = w.cell? ⟨b, i, none⟩ := fun i => hb.cell (p := ⟨b, i, none⟩) hlt
  exact ⟨(ec _).trans h1, (ec _).trans h2, (ec _).trans h3, (ec _).trans h4⟩
theorem Dds.below {w w' : World} {v : Value} {B : Nat} {L : List Dd} (h : Dds w v L) (hb : Below B w w') (hB : w.heap.size ≤ B) : Dds w' v L := by
  obtain ⟨a, c, h1, h2⟩ := h
  refine ⟨a, c, h1, ?_⟩
  rcases h2 with h2 | ⟨b, o, h3, h4⟩
  · exact Or.inl h2
  · exact Or.inr ⟨b, o, h3, fun j x hj => (h4 j x hj).below hb hB⟩
theorem dds_at {w : World} {a : Option Addr} {n c : Nat} {L : List Dd} (h : Dds w (.slice a n c) L) {k : Nat} {x : Dd} (hk : L[k]? = some x) : ∃ b o, a = some ⟨b, o, none⟩ ∧ DdAt w b (o + k * 4) x := by
  obtain ⟨a', c', h1, h2⟩ := h
  injection h1 with h1 _ _
  subst h1
  rcases h2 with h2 | ⟨b, o, h3, h4⟩
  · rw [h2] at hk
    simp at hk
  · exact ⟨b, o, h3, h4 k x hk⟩
def smallD (x : Dd) : Bool := decide (x.s.size ≤ 100) && decide (x.t.size ≤ 100)
def smallB (L : List Dd) : Bool := decide (L.length ≤ 40) && L.all smallD
set_option maxHeartbeats 2000000 in
set_option maxRecDepth 100000 in
theorem small_is (v : Value) (L : List Dd) (w : World) (h : Dds w v L) : Calls Tryz.prog 24 #[v] w fun e w' => e = .returned (.bool (smallB L)) ∧ w' = w := by
  obtain ⟨a, c, rfl, ha⟩ := id h
  obtain ⟨R, hR⟩ : ∃ R, smallB L = R := ⟨_, rfl⟩
  rw [hR]
  unfold smallB at hR
  by_cases hl : L.length ≤ 40
  · rw [decide_eq_true hl, Bool.true_and] at hR
    have HR : Hid (L.all smallD = R) := hR
    obtain ⟨len, hn⟩ : ∃ n, L.length = n := ⟨_, rfl⟩
    rw [hn] at hl
    have HA : Hid (Dds w (.slice a len c) L) := by rw [← hn]; exact h
    rw [hn]
    have hl' : decide ((40 : Int) < (len : Int)) = false := decide_eq_false (by omega)
    have HN : Hid (L.length = len) := hn
    clear hR hn ha h
    go_enter Tryz.func24, Tryz.ntmps24
    go_wp2_with fail
    go_loopw [3] (fun i wr => ∃ k : Nat, i = .int .i64 (k : Int) ∧ k ≤ len ∧ Hid (∀ t ∈ L.take k, smallD t = true) ∧ wr = w) (fun i _ => len - (intOf i).toNat)
    case atStart => exact ⟨0, rfl, Nat.zero_le _, fun t ht => by simp at ht, rfl⟩
    case round =>
      obtain ⟨k, rfl, hk, HK, hwr⟩ := hrel
      obtain rfl : w = wr := hwr.symm
      by_cases hlt : k < len
      · have d1 : decide ((k : Int) < (len : Int)) = true := decide_eq_true (by omega)
        have i1 : (0 : Int) ≤ (k : Int) := by omega
        have i2 : (k : Int) < (len : Int) := by omega
        obtain ⟨x, hxk⟩ : ∃ x, L[k]? = some x := ⟨_, List.getElem?_eq_getElem (by have := HN.out; omega)⟩
        obtain ⟨b, o, rfl, _, q1, q2, _⟩ := dds_at HA.out hxk
        obtain ⟨S, hS⟩ : ∃ s, x.s = s := ⟨_, rfl⟩
        obtain ⟨T, hT⟩ : ∃ s, x.t = s := ⟨_, rfl⟩
        rw [hS] at q1
        rw [hT] at q2
        have HX : Hid (L[k]? = some x ∧ x.s = S ∧ x.t = T) := ⟨hxk, hS, hT⟩
        have HNO : Hid (smallD x = false → R = false) := fun h => by
          show R = false
          rw [← HR.out, List.all_eq_false]
          exact ⟨x, List.mem_of_getElem? hxk, by simpa using h⟩
        clear hxk hS hT
        by_cases hs : S.size ≤ 100
        · have e1 : decide ((100 : Int) < (S.size : Int)) = false := decide_eq_false (by omega)
          by_cases ht : T.size ≤ 100
          · have e2 : decide ((100 : Int) < (T.size : Int)) = false := decide_eq_false (by omega)
            have HNX : Hid (∀ t ∈ L.take (k + 1), smallD t = true) := fun t hm => by
              rw [List.take_add_one, HX.out.1] at hm
              rcases List.mem_append.1 hm with hm | hm
              · exact HK.out t hm
              · obtain rfl : t = x := by simpa using hm
                unfold smallD
                rw [HX.out.2.1, HX.out.2.2, decide_eq_true hs, decide_eq_true ht]
                rfl
            clear HK
            go_wp2_with fail
            go_roundw
            case rel => exact ⟨k + 1, by go_num, by omega, HNX, by first | rfl | trivial⟩
            case measure => simp [intOf]; omega
          · have e2 : decide ((100 : Int) < (T.size : Int)) = true := decide_eq_true (by omega)
            have hRF : R = false := HNO.out (by unfold smallD; rw [HX.out.2.1, HX.out.2.2, decide_eq_false ht, Bool.and_false])
            subst hRF
            clear HK
            go_wp2_with fail
            go_ret
            exact ⟨rfl, rfl⟩
        · have e1 : decide ((100 : Int) < (S.size : Int)) = true := decide_eq_true (by omega)
          have hRF : R = false := HNO.out (by unfold smallD; rw [HX.out.2.1, decide_eq_false hs, Bool.false_and])
          subst hRF
          clear HK
          go_wp2_with fail
          go_ret
          exact ⟨rfl, rfl⟩
      · have d1 : decide ((k : Int) < (len : Int)) = false := decide_eq_false (by omega)
        obtain rfl : k = len := by omega
        have hRT : R = true := by
          rw [← HR.out, List.all_eq_true]
          have := HK.out
          rwa [List.take_of_length_le (by rw [HN.out]; exact Nat.le_refl _)] at this
        subst hRT
        clear HK
        go_wp2_with fail
        go_ret
        exact ⟨rfl, rfl⟩
  · rw [decide_eq_false hl, Bool.false_and] at hR
    subst hR
    have hl' : decide ((40 : Int) < (L.length : Int)) = true := decide_eq_true (by omega)
    clear ha h
    go_enter Tryz.func24, Tryz.ntmps24
    go_wp2_with fail
    go_ret
    exact ⟨rfl, rfl⟩
end Go.Proofs.YtfdlopimncodcaaGreatDoor
namespace Go.Proofs.YtfdlopimncodcaaGreatDoor
open Go.RowKit Go.Extern.Stop Go.Stop Go.Extern

theorem as_nil (t : Value) (w : World) :
    Calls Tryz.prog 86 #[.nilIface, t] w fun e w' => e = .returned (.bool false) ∧ w' = w := by
  go_enter Tryz.func86, Tryz.ntmps86
  go_wp2
  go_ret
  exact ⟨rfl, rfl⟩

theorem Tryz.valueOf70 (t : Addr) (w : World) : (ReflectliteValue.unpack (.iface 131 (.pointer (some t)))).run Tryz.prog w
    = .ok (.agg #[.pointer (some ⟨8, 131, none⟩), .pointer (some ⟨w.heap.size, 0, none⟩), .int .u64 150]) (w.alloc (.cells #[.pointer (some t)] 131)) := by kernel_rfl
theorem Tryz.type70 (a : Addr) (w : World) : (ReflectliteValue.methodAny (ReflectliteValue.valueError "reflectlite.Value.Type" 0) (fun t _ _ _ => ReflectliteType.toType t) #[.agg #[.pointer (some ⟨8, 131, none⟩), .pointer (some a), .int .u64 150]]).run Tryz.prog w
    = .ok (.iface 202 (.agg #[.pointer (some ⟨8, 131, none⟩)])) w := by kernel_rfl
theorem Tryz.methodKind (h : Value) (w : World) : (Go.method 393 202 (.agg #[h]) "Kind").run Tryz.prog w = .ok (246, h) w := by kernel_rfl
theorem Tryz.kind70 (w : World) : ((ReflectliteType.abiMethod fun t => (fun a : Nat => Value.int IntKind.u8 (a : Int)) <$> Rtype.kind t) #[.pointer (some ⟨8, 131, none⟩)]).run Tryz.prog w = .ok (.int .u8 22) w := by kernel_rfl
theorem Tryz.kind22 (w : World) : ((ReflectliteType.abiMethod fun t => (fun a : Nat => Value.int IntKind.u8 (a : Int)) <$> Rtype.kind t) #[.pointer (some ⟨8, 42, none⟩)]).run Tryz.prog w = .ok (.int .u8 2) w := by kernel_rfl
theorem Tryz.parts70 (a : Addr) (w : World) : (ReflectliteValue.parts (.agg #[.pointer (some ⟨8, 131, none⟩), .pointer (some a), .int .u64 150])).run Tryz.prog w = .ok (some (131, a, 150)) w := by kernel_rfl
theorem Tryz.isNil70 (a p : Addr) (W : World) (ha : W.cell? a = some (.pointer (some p))) :
    (ReflectliteValue.method (ReflectliteValue.valueError "reflectlite.Value.IsNil" 0) ReflectliteValue.isNil #[.agg #[.pointer (some ⟨8, 131, none⟩), .pointer (some a), .int .u64 150]]).run Tryz.prog W = .ok (.bool false) W := by
  show (Bind.bind (ReflectliteValue.parts (.agg #[.pointer (some ⟨8, 131, none⟩), .pointer (some a), .int .u64 150])) _).run Tryz.prog W = _
  simp only [Sem.run_bind, Tryz.parts70, Result.andThen]
  simp [ReflectliteValue.isNil, loadVar, isAgg, underlying, Tryz.underlying131, ha, Result.andThen]
theorem Tryz.methodElem (h : Value) (w : World) : (Go.method 393 202 (.agg #[h]) "Elem").run Tryz.prog w = .ok (262, .agg #[h]) w := by kernel_rfl
theorem Tryz.methodAssignableTo (h : Value) (w : World) : (Go.method 393 202 (.agg #[h]) "AssignableTo").run Tryz.prog w = .ok (260, .agg #[h]) w := by kernel_rfl
theorem Tryz.elem70 (w : World) : (ReflectliteType.method ReflectliteType.elem #[.agg #[.pointer (some ⟨8, 131, none⟩)]]).run Tryz.prog w = .ok (.iface 202 (.agg #[.pointer (some ⟨8, 42, none⟩)])) w := by kernel_rfl
theorem Tryz.methodImplements (h : Value) (w : World) : (Go.method 393 202 (.agg #[h]) "Implements").run Tryz.prog w = .ok (263, .agg #[h]) w := by kernel_rfl
theorem Tryz.implements22 (w : World) : (ReflectliteType.relation "Implements" ReflectliteType.implements_ #[.agg #[.pointer (some ⟨8, 42, none⟩)], .iface 202 (.agg #[.pointer (some ⟨8, 38, none⟩)])]).run Tryz.prog w = .ok (.bool true) w := by kernel_rfl
theorem Tryz.typeOf22 (v : Value) (w : World) : (ReflectliteType.typeOf #[.iface 42 v]).run Tryz.prog w = .ok (.iface 202 (.agg #[.pointer (some ⟨8, 42, none⟩)])) w := by kernel_rfl
theorem Tryz.assignable22 (w : World) : (ReflectliteType.relation "AssignableTo" ReflectliteType.assignableTo #[.agg #[.pointer (some ⟨8, 42, none⟩)], .iface 202 (.agg #[.pointer (some ⟨8, 42, none⟩)])]).run Tryz.prog w = .ok (.bool true) w := by kernel_rfl
theorem Tryz.valueOf22 (n : Int) (w : World) : (ReflectliteValue.unpack (.iface 42 (.int .i64 n))).run Tryz.prog w
    = .ok (.agg #[.pointer (some ⟨8, 42, none⟩), .pointer (some ⟨w.heap.size, 0, none⟩), .int .u64 130]) (w.alloc (.cells #[.int .i64 n] 42)) := by kernel_rfl
theorem Tryz.elemOf70 (w : World) : (Rtype.elem? 131).run Tryz.prog w = .ok (some 42) w := by kernel_rfl
theorem Tryz.mk22 (p : Addr) (w : World) : (ReflectliteValue.mk 42 p ReflectliteValue.flagAddr).run Tryz.prog w = .ok (.agg #[.pointer (some ⟨8, 42, none⟩), .pointer (some p), .int .u64 386]) w := by kernel_rfl
theorem Tryz.elemV70 (a p : Addr) (W : World) (ha : W.cell? a = some (.pointer (some p))) :
    (ReflectliteValue.method (ReflectliteValue.valueError "reflectlite.Value.Elem" 0) ReflectliteValue.elem #[.agg #[.pointer (some ⟨8, 131, none⟩), .pointer (some a), .int .u64 150]]).run Tryz.prog W
      = .ok (.agg #[.pointer (some ⟨8, 42, none⟩), .pointer (some p), .int .u64 386]) W := by
  show (Bind.bind (ReflectliteValue.parts (.agg #[.pointer (some ⟨8, 131, none⟩), .pointer (some a), .int .u64 150])) _).run Tryz.prog W = _
  simp only [Sem.run_bind, Tryz.parts70, Result.andThen]
  simp [ReflectliteValue.elem, loadVar, isAgg, underlying, Tryz.underlying131, ha, Result.andThen, Tryz.elemOf70, Tryz.mk22]
theorem Tryz.parts22a (a : Addr) (w : World) : (ReflectliteValue.parts (.agg #[.pointer (some ⟨8, 42, none⟩), .pointer (some a), .int .u64 386])).run Tryz.prog w = .ok (some (42, a, 386)) w := by kernel_rfl
theorem Tryz.parts22 (a : Addr) (w : World) : (ReflectliteValue.parts (.agg #[.pointer (some ⟨8, 42, none⟩), .pointer (some a), .int .u64 130])).run Tryz.prog w = .ok (some (42, a, 130)) w := by kernel_rfl
theorem Tryz.direct22 (w : World) : (Rtype.directlyAssignable 42 42).run Tryz.prog w = .ok true w := by kernel_rfl
end Go.Proofs.YtfdlopimncodcaaGreatDoor
namespace Go.Proofs.Law
open Go.RowKit Go.ChangeShapes Go.WideShapes Go.Deep

variable {H : Type} {enc : TypeId × Value → H} {P : Program}

theorem trodAll_carry (hl : laidOutB P = true) {W W' : World} (hb : Below W.heap.size W W') :
    ∀ (ts : List TypeId) (vs : List Value) (ds : List (DataW H)) (ps : List MemPlace), (∀ t ∈ ts, P.readableRec t = true ∧ t < P.types.size) → DataW.TrodAll enc P W 0 (fun _ => true) true ts vs ds ps → (∀ x ∈ ps, x.block < W.heap.size) →
      DataW.TrodAll enc P W' 0 (fun b => decide (b < W.heap.size)) true ts vs ds ps
  | [], [], [], _, _, h, _ => h
  | t :: ts, v :: vs, d :: ds, ps, hr, h, hlt => by
    obtain ⟨p, q, h1, h2, rfl⟩ := h
    exact ⟨p, q, Below.trod hl (hr t (by simp)).1 (hr t (by simp)).2 h1 hb (fun x hx => hlt x (by simp [hx])), trodAll_carry hl hb ts vs ds q (fun u hu => hr u (by simp [hu])) h2 (fun x hx => hlt x (by simp [hx])), rfl⟩
  | [], _ :: _, _, _, _, h, _ => h.elim
  | [], [], _ :: _, _, _, h, _ => h.elim
  | _ :: _, [], _, _, _, h, _ => h.elim
  | _ :: _, _ :: _, [], _, _, h, _ => h.elim

/-- Texts lie in a slice. -/
def Tg (w : World) (v : Value) (l : List ByteArray) : Prop :=
  ∃ a c, v = .slice a l.length c ∧ l.length ≤ c ∧ (a = none → c = 0) ∧ (l = [] ∨ ∃ b o, a = some ⟨b, o, none⟩ ∧ ∀ (j : Nat) s, l[j]? = some s → w.cell? ⟨b, o + j, none⟩ = some (.string s))

theorem open_tg {t e : TypeId} {W : World} {base : Nat} {r : Reach} {v : Value} {d : DataW H} {ps : List MemPlace} (ht : P.underlying t = some (.slice e)) (he : P.underlying e = some .string) (hc : P.cellsOf e = 1)
    (hv : Value.okWide P W r base t v) (h : DataW.Trod enc P W 0 (fun _ => true) true t v d ps) : ∃ l, Tg W v l ∧ ∀ s ∈ l, s.size ≤ maxLen := by
  obtain ⟨a, len, cap, rfl⟩ := okWide_slice ht hv
  obtain ⟨fuel, h⟩ := h
  rcases open_strings ht he hc h with ⟨hcs, _⟩ | ⟨a', len', cap', ss, hcs, _, hl, hm, hs, _, hcell, hwz⟩
  · simp [Value.cells] at hcs
    obtain ⟨rfl, rfl, rfl⟩ := hcs
    exact ⟨[], ⟨none, 0, rfl, Nat.le_refl _, fun _ => rfl, Or.inl rfl⟩, by simp⟩
  · simp [Value.cells] at hcs
    obtain ⟨rfl, rfl, rfl⟩ := hcs
    simp only [if_true] at hs
    refine ⟨ss.take len, ⟨some a', cap, by rw [List.length_take]; congr 1; omega, by rw [List.length_take]; omega, fun e => (by cases e), ?_⟩, fun s hm => hwz s (List.mem_of_mem_take hm)⟩
    by_cases h0 : ss.take len = []
    · exact Or.inl h0
    · right
      obtain ⟨b, o, spot⟩ := a'
      have hpos : 0 < ss.length := by
        rcases Nat.eq_zero_or_pos ss.length with h1 | h1
        · exact absurd (by rw [List.eq_nil_of_length_eq_zero h1]; simp) h0
        · exact h1
      have hspot : spot = none := by simpa [Addr.add] using World.cell?_spot (hcell 0 hpos)
      subst hspot
      refine ⟨b, o, rfl, fun j s hj => ?_⟩
      have hj1 : j < len := by
        have := (List.getElem?_eq_some_iff.1 hj).1
        rw [List.length_take] at this; omega
      rw [List.getElem?_take_of_lt hj1] at hj
      have := hcell j (List.getElem?_eq_some_iff.1 hj).1
      rw [List.getD_eq_getElem?_getD, hj, Addr.add_lit] at this
      simpa using this

theorem open_ig {t e : TypeId} {W : World} {base : Nat} {r : Reach} {v : Value} {d : DataW H} {ps : List MemPlace} (ht : P.underlying t = some (.slice e)) (he : P.underlying e = some (.int .i64)) (hc : P.cellsOf e = 1)
    (hv : Value.okWide P W r base t v) (h : DataW.Trod enc P W 0 (fun _ => true) true t v d ps) :
    ∃ zs : List Int, (∃ a c, v = .slice a zs.length c ∧ (zs = [] ∨ ∃ b o, a = some ⟨b, o, none⟩ ∧ ∀ (j : Nat) z, zs[j]? = some z → W.cell? ⟨b, o + j, none⟩ = some (.int .i64 z))) ∧ ∀ n ∈ zs, (Lit.int .i64 n).wf = true := by
  obtain ⟨a, len, cap, rfl⟩ := okWide_slice ht hv
  obtain ⟨fuel, h⟩ := h
  rcases open_ints ht he hc h with ⟨hcs, _⟩ | ⟨a', len', cap', ss, hcs, _, hl, hm, hs, _, hcell, hwz⟩
  · simp [Value.cells] at hcs
    obtain ⟨rfl, rfl, rfl⟩ := hcs
    exact ⟨[], ⟨none, 0, rfl, Or.inl rfl⟩, by simp⟩
  · simp [Value.cells] at hcs
    obtain ⟨rfl, rfl, rfl⟩ := hcs
    simp only [if_true] at hs
    refine ⟨ss.take len, ⟨some a', cap, by rw [List.length_take]; congr 1; omega, ?_⟩, fun s hm => hwz s (List.mem_of_mem_take hm)⟩
    by_cases h0 : ss.take len = []
    · exact Or.inl h0
    · right
      obtain ⟨b, o, spot⟩ := a'
      have hpos : 0 < ss.length := by
        rcases Nat.eq_zero_or_pos ss.length with h1 | h1
        · exact absurd (by rw [List.eq_nil_of_length_eq_zero h1]; simp) h0
        · exact h1
      have hspot : spot = none := by simpa [Addr.add] using World.cell?_spot (hcell 0 hpos)
      subst hspot
      refine ⟨b, o, rfl, fun j s hj => ?_⟩
      have hj1 : j < len := by
        have := (List.getElem?_eq_some_iff.1 hj).1
        rw [List.length_take] at this; omega
      rw [List.getElem?_take_of_lt hj1] at hj
      have := hcell j (List.getElem?_eq_some_iff.1 hj).1
      rw [List.getD_eq_getElem?_getD, hj, Addr.add_lit] at this
      simpa using this

theorem open_pairs {t e : TypeId} {f0 f1 : Field} {W : World} {base : Nat} {r : Reach} {v : Value} {d : DataW H} {ps : List MemPlace} (ht : P.underlying t = some (.slice e)) (he : P.underlying e = some (.struct #[f0, f1]))
    (ce : P.cellsOf e = 2) (o0 : f0.offset = 0) (o1 : f1.offset = 1) (c0 : P.cellsOf f0.type = 1) (c1 : P.cellsOf f1.type = 1) (u0 : P.underlying f0.type = some (.int .i64)) (u1 : P.underlying f1.type = some (.int .i64))
    (hv : Value.okWide P W r base t v) (h : DataW.Trod enc P W 0 (fun _ => true) true t v d ps) :
    ∃ l : List (Int × Int), (∃ a c, v = .slice a l.length c ∧ (a = none → c = 0) ∧ (l = [] ∨ ∃ b o, a = some ⟨b, o, none⟩ ∧ ∀ (j : Nat) q, l[j]? = some q → W.cell? ⟨b, o + j * 2, none⟩ = some (.int .i64 q.1) ∧ W.cell? ⟨b, o + j * 2 + 1, none⟩ = some (.int .i64 q.2))) ∧ ∀ q ∈ l, (Lit.int .i64 q.1).wf = true ∧ (Lit.int .i64 q.2).wf = true := by
  obtain ⟨a, len, cap, rfl⟩ := okWide_slice ht hv
  obtain ⟨fuel, h⟩ := h
  rcases open_slice_pairs ht he ce o0 o1 c0 c1 h with ⟨hcs, _⟩ | ⟨a', len', cap', m, n, V0, V1, D0, D1, P0, P1, hcs, _, hl, hm, hmm, _, hall⟩
  · simp [Value.cells] at hcs
    obtain ⟨rfl, rfl, rfl⟩ := hcs
    exact ⟨[], ⟨none, 0, rfl, fun _ => rfl, Or.inl rfl⟩, by simp⟩
  · simp [Value.cells] at hcs
    obtain ⟨rfl, rfl, rfl⟩ := hcs
    simp only [if_true] at hmm
    subst hmm
    have hint : ∀ i, ∃ q : Int × Int, i < m → W.cell? (a'.add (i * 2)) = some (.int .i64 q.1) ∧ W.cell? (a'.add (i * 2 + 1)) = some (.int .i64 q.2) ∧ (Lit.int .i64 q.1).wf = true ∧ (Lit.int .i64 q.2).wf = true := by
      intro i
      by_cases hi : i < m
      · obtain ⟨g1, g2, g3, g4⟩ := hall i hi
        obtain ⟨x, hx, _, wx⟩ := DataW.trod_int u0 g3
        obtain ⟨y, hy, _, wy⟩ := DataW.trod_int u1 g4
        simp only [List.cons.injEq, and_true] at hx hy
        exact ⟨(x, y), fun _ => ⟨by rw [g1, hx], by rw [g2, hy], wx, wy⟩⟩
      · exact ⟨(0, 0), fun h => absurd h hi⟩
    let q : Nat → Int × Int := fun i => (hint i).choose
    have hq : ∀ i, i < m → W.cell? (a'.add (i * 2)) = some (.int .i64 (q i).1) ∧ W.cell? (a'.add (i * 2 + 1)) = some (.int .i64 (q i).2) ∧ (Lit.int .i64 (q i).1).wf = true ∧ (Lit.int .i64 (q i).2).wf = true := fun i => (hint i).choose_spec
    refine ⟨(List.range len).map q, ⟨some a', m, by simp, fun e => (by cases e), ?_⟩, ?_⟩
    · by_cases h0 : len = 0
      · left; rw [h0]; rfl
      · right
        obtain ⟨b, o, spot⟩ := a'
        have hspot : spot = none := by simpa [Addr.add] using World.cell?_spot (hq 0 (by omega)).1
        subst hspot
        refine ⟨b, o, rfl, fun j r hj => ?_⟩
        rw [List.getElem?_map, Option.map_eq_some_iff] at hj
        obtain ⟨i, hi, rfl⟩ := hj
        have hi2 := List.getElem?_eq_some_iff.1 hi
        obtain ⟨hlt, he2⟩ := hi2
        simp at he2 hlt
        subst he2
        have := hq j (by omega)
        exact ⟨by have := this.1; rw [Addr.add_lit] at this; exact this, by have := this.2.1; rw [Addr.add_lit] at this; exact this⟩
    · intro r hr
      obtain ⟨i, hi, rfl⟩ := List.mem_map.1 hr
      have := hq i (by have := List.mem_range.1 hi; omega)
      exact ⟨this.2.2.1, this.2.2.2⟩

theorem tabIs_of_reads {W : World} {name : String} {k : IntKind} {zs : List Int} {g : Nat} {t e : TypeId} {n : Nat}
    (hg : P.globalNamed name = some g) (hty : (P.globals[g]?).map (·.type) = some t) (ht : P.underlying t = some (.array n e)) (he : P.underlying e = some (.int k)) (hce : P.cellsOf e = 1) (hct : P.cellsOf t = n)
    (h : Lib.VarReads P W name (Lib.tabData k zs)) : Lib.TabIs P W name k zs := by
  obtain ⟨g', t', cs, fuel, p, hg', ht', hvar, hd⟩ := h
  obtain rfl := Option.some.inj (hg.symm.trans hg')
  obtain rfl := Option.some.inj (hty.symm.trans ht')
  unfold Lib.TabIs
  rw [hvar, ← Lib.cells_of_tab ht he hce hct hd]

/-- An array of texts that reads as a table holds the table's texts, cell by cell. -/
theorem texts_of_reads {W : World} {name : String} {ls : List (List UInt8)} {g : Nat} {t e : TypeId} {n : Nat}
    (hg : P.globalNamed name = some g) (hty : (P.globals[g]?).map (·.type) = some t) (ht : P.underlying t = some (.array n e)) (he : P.underlying e = some .string) (hce : P.cellsOf e = 1) (hct : P.cellsOf t = n)
    (h : Lib.VarReads P W name (.agg (ls.map fun s => .lit (.string s)))) : ∀ (i : Nat) s, ls[i]? = some s → W.cell? ⟨g, i, none⟩ = some (.string ⟨s.toArray⟩) := by
  obtain ⟨g', t', cs, fuel, p, hg', ht', hvar, hd⟩ := h
  obtain rfl := Option.some.inj (hg.symm.trans hg')
  obtain rfl := Option.some.inj (hty.symm.trans ht')
  intro i s hi
  have hcell := World.var?_cell hg hvar i
  rw [hcell]
  cases fuel with
  | zero => simp [DataW.trod] at hd
  | succ fuel =>
    simp only [DataW.trod, ht, hce, hct, Nat.mul_one] at hd
    split at hd
    · rename_i hl
      obtain ⟨xs, hm, hx⟩ := Option.map_eq_some_iff.1 hd
      have hxs : xs.map (·.1) = ls.map fun z => (DataW.lit (.string z) : DataW Unit) := by
        have := congrArg Prod.fst hx
        simpa using this
      have hxl : xs.length = n := by simpa using Lib.mapM_length hm
      have hzl : ls.length = n := by
        have := congrArg List.length hxs
        simp at this
        omega
      have hin : i < n := by rw [← hzl]; exact (List.getElem?_eq_some_iff.1 hi).1
      obtain ⟨b, hb, hf⟩ := Lib.mapM_at hm i i (by simp [hin])
      obtain ⟨z, hc, rfl, _⟩ := DataW.trod_string he hf
      have h1 : cs.toList[i]? = some (.string z) := by
        have := congrArg (·[0]?) hc
        simpa [List.getElem?_take, List.getElem?_drop] using this
      have h2 : (xs.map (·.1))[i]? = some (DataW.lit (.string z.data.toList) : DataW Unit) := by simp [hb]
      rw [hxs] at h2
      simp only [List.getElem?_map, Option.map_eq_some_iff, DataW.lit.injEq, Lit.string.injEq] at h2
      obtain ⟨z', hz', e2⟩ := h2
      rw [hi] at hz'
      cases hz'
      have h3 : cs[i]? = some (.string z) := by simpa using h1
      rw [h3, e2]
    · cases hd

/-- A table's cells. -/
def cellOf : DataW Unit → Value
  | .lit (.int k z) => .int k z
  | .lit (.string s) => .string ⟨s.toArray⟩
  | _ => .int .i64 0
def cellsOf : DataW Unit → Array Value
  | .agg l => (l.map cellOf).toArray
  | d => #[cellOf d]
/-- The world in which a variable holds a table. -/
def lay (w : World) (g : Nat) (d : DataW Unit) : World := { w with heap := w.heap.modify g fun | .cells _ t frozen => .cells (cellsOf d) t frozen | o => o }
end Go.Proofs.Law
namespace Go.Proofs.Law
open Go.RowKit Go.ChangeShapes Go.WideShapes Go.Deep

variable {H : Type} {enc : TypeId × Value → H} {P : Program}

theorem open_tgs {t e : TypeId} {W : World} {fuel : Nat} {v : Value} {x : DataW H × List MemPlace} (ht : P.underlying t = some (.slice e)) (he : P.underlying e = some .string) (hc : P.cellsOf e = 1)
    (h : DataW.trod enc P W 0 (fun _ => true) true fuel t [v] = some x) : ∃ l, Tg W v l := by
  rcases open_strings ht he hc h with ⟨hcs, _⟩ | ⟨a', len, cap, ss, hcs, _, hl, hm, hs, _, hcell, hwz⟩
  · simp only [List.cons.injEq, and_true] at hcs
    subst hcs
    exact ⟨[], none, 0, rfl, Nat.le_refl _, fun _ => rfl, Or.inl rfl⟩
  · simp only [List.cons.injEq, and_true] at hcs
    subst hcs
    simp only [if_true] at hs
    refine ⟨ss.take len, some a', cap, by rw [List.length_take]; congr 1; omega, by rw [List.length_take]; omega, fun e => (by cases e), ?_⟩
    by_cases h0 : ss.take len = []
    · exact Or.inl h0
    · right
      obtain ⟨b, o, spot⟩ := a'
      have hpos : 0 < ss.length := by
        rcases Nat.eq_zero_or_pos ss.length with h1 | h1
        · exact absurd (by rw [List.eq_nil_of_length_eq_zero h1]; simp) h0
        · exact h1
      have hspot : spot = none := by simpa [Addr.add] using World.cell?_spot (hcell 0 hpos)
      subst hspot
      refine ⟨b, o, rfl, fun j s hj => ?_⟩
      have hj1 : j < len := by
        have := (List.getElem?_eq_some_iff.1 hj).1
        rw [List.length_take] at this; omega
      rw [List.getElem?_take_of_lt hj1] at hj
      have := hcell j (List.getElem?_eq_some_iff.1 hj).1
      rw [List.getD_eq_getElem?_getD, hj, Addr.add_lit] at this
      simpa using this
theorem open_letter {t e : TypeId} {f0 f1 f2 f3 : Field} {W : World} {base : Nat} {r : Reach} {v : Value} {d : DataW H} {ps : List MemPlace} (ht : P.underlying t = some (.struct #[f0, f1, f2, f3])) (hone : Deep.oneCellFields P #[f0, f1, f2, f3] = true) (hC : P.cellsOf t = 4)
    (u0 : P.underlying f0.type = some (.int .i64)) (u1 : P.underlying f1.type = some (.slice e)) (he : P.underlying e = some .string) (hc : P.cellsOf e = 1) (u2 : P.underlying f2.type = some (.int .i64)) (u3 : P.underlying f3.type = some .string)
    (hv : Value.okWide P W r base t v) (h : DataW.Trod enc P W 0 (fun _ => true) true t v d ps) :
    ∃ (uid day : Int) (tb : ByteArray) (fa : Option Addr) (fc : Nat) (l : List ByteArray), v = .agg #[.int .i64 uid, .slice fa l.length fc, .int .i64 day, .string tb] ∧ Tg W (.slice fa l.length fc) l := by
  obtain ⟨v0, v1, v2, v3, y0, y1, y2, y3, n, rfl, _, _, h0, h1, h2, h3⟩ := Joins.open_agg4 ht hone hC hv h
  obtain ⟨uid, e0, _⟩ := DataW.trod_int u0 h0
  obtain ⟨l, ht1⟩ := open_tgs u1 he hc h1
  obtain ⟨day, e2, _⟩ := DataW.trod_int u2 h2
  obtain ⟨tb, e3, _⟩ := DataW.trod_string u3 h3
  simp only [List.cons.injEq, and_true] at e0 e2 e3
  subst e0 e2 e3
  have h1' := ht1
  obtain ⟨a, c, rfl, _⟩ := ht1
  exact ⟨uid, day, tb, a, c, l, rfl, h1'⟩
end Go.Proofs.Law
namespace Go.Proofs.YtfdlopimncodcaaGreatDoor
open Go.RowKit Go.ChangeShapes Go.WideShapes Go.Deep Go.Proofs.Law

variable {H : Type} {enc : TypeId × Value → H} {P : Program}
theorem open_deeds {t e : TypeId} {f0 f1 f2 f3 : Field} {W : World} (ht : P.underlying t = some (.slice e)) (he : P.underlying e = some (.struct #[f0, f1, f2, f3])) (ce : P.cellsOf e = 4) (o0 : f0.offset = 0) (o1 : f1.offset = 1) (o2 : f2.offset = 2) (o3 : f3.offset = 3)
    (c0 : P.cellsOf f0.type = 1) (c1 : P.cellsOf f1.type = 1) (c2 : P.cellsOf f2.type = 1) (c3 : P.cellsOf f3.type = 1) (u0 : P.underlying f0.type = some (.int .i64)) (u1 : P.underlying f1.type = some .string) (u2 : P.underlying f2.type = some .string) (u3 : P.underlying f3.type = some .bool)
    (v : Value) (x : DataW H × List MemPlace) (fuel : Nat) (h : DataW.trod enc P W 0 (fun _ => true) true fuel t [v] = some x) : ∃ L, Dds W v L := by
  rcases open_slice ht h with ⟨hcs, rfl⟩ | ⟨a, len, cap, m, n, D, Pl, hcs, hb, hl, hm, hmm, rfl, hx⟩
  · simp only [List.cons.injEq, and_true] at hcs
    subst hcs
    exact ⟨[], none, 0, rfl, Or.inl rfl⟩
  · simp only [List.cons.injEq, and_true] at hcs
    subst hcs
    simp only [if_true] at hmm
    subst hmm
    have each : ∀ i, ∃ q : Dd, i < len → W.cell? (a.add (i * 4)) = some (.int .i64 q.what) ∧ W.cell? (a.add (i * 4 + 1)) = some (.string q.s) ∧ W.cell? (a.add (i * 4 + 2)) = some (.string q.t) ∧ W.cell? (a.add (i * 4 + 3)) = some (.bool q.yes) := by
      intro i
      by_cases hi : i < len
      · obtain ⟨cs', h1, h2⟩ := hx i (by omega)
        rw [ce] at h1
        obtain ⟨_, hlen, hcell⟩ := World.cells?_some h1
        obtain ⟨xs, k, hk, hxy, _, hxl, hf⟩ := DataW.trod_struct he h2
        match xs, hxl, cs', hlen with
        | [y0, y1, y2, y3], _, [v0, v1, v2, v3], _ =>
          have g0 := hf 0 f0 rfl
          have g1 := hf 1 f1 rfl
          have g2 := hf 2 f2 rfl
          have g3 := hf 3 f3 rfl
          simp [o0, o1, o2, o3, c0, c1, c2, c3] at g0 g1 g2 g3
          have e0 := hcell 0 (by omega)
          have e1 := hcell 1 (by omega)
          have e2 := hcell 2 (by omega)
          have e3 := hcell 3 (by omega)
          rw [add_add] at e0 e1 e2 e3
          obtain ⟨z0, hz0, _, _⟩ := DataW.trod_int u0 g0
          obtain ⟨s, hs, _, _⟩ := DataW.trod_string u1 g1
          obtain ⟨s2, hs2, _, _⟩ := DataW.trod_string u2 g2
          obtain ⟨bl, hbl, _, _⟩ := DataW.trod_bool u3 g3
          simp only [List.cons.injEq, and_true] at hz0 hs hs2 hbl
          subst hz0 hs hs2 hbl
          exact ⟨⟨z0, s, s2, bl⟩, fun _ => ⟨by simpa using e0, by simpa using e1, by simpa using e2, by simpa using e3⟩⟩
      · exact ⟨⟨0, ⟨#[]⟩, ⟨#[]⟩, false⟩, fun h => absurd h hi⟩
    let q : Nat → Dd := fun i => (each i).choose
    have hq : ∀ i, i < len → W.cell? (a.add (i * 4)) = some (.int .i64 (q i).what) ∧ W.cell? (a.add (i * 4 + 1)) = some (.string (q i).s) ∧ W.cell? (a.add (i * 4 + 2)) = some (.string (q i).t) ∧ W.cell? (a.add (i * 4 + 3)) = some (.bool (q i).yes) := fun i => (each i).choose_spec
    refine ⟨(List.range len).map q, some a, m, by simp, ?_⟩
    by_cases h0 : len = 0
    · left; rw [h0]; rfl
    · right
      obtain ⟨b, o, spot⟩ := a
      have hspot : spot = none := by
        obtain ⟨h1, _⟩ := hq 0 (by omega)
        simpa [Addr.add] using World.cell?_spot h1
      subst hspot
      refine ⟨b, o, rfl, fun j y hj => ?_⟩
      rw [List.getElem?_map, Option.map_eq_some_iff] at hj
      obtain ⟨i, hi, rfl⟩ := hj
      obtain ⟨hlt, he2⟩ := List.getElem?_eq_some_iff.1 hi
      simp at he2 hlt
      subst he2
      obtain ⟨k0, k1, k2, k3⟩ := hq j (by omega)
      rw [Addr.add_lit] at k0 k1 k2 k3
      exact ⟨k0, k1, k2, k3⟩
end Go.Proofs.YtfdlopimncodcaaGreatDoor
