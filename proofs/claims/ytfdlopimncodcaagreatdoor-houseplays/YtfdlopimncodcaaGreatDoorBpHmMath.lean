/-
  What a pattern asks, plain mathematics, and more.
-/
import Derived.Test.YtfdlopimncodcaaGreatDoorBpHsRight2
import Derived.Laws.AppendOwnNone
import Derived.Shelf.Spec.SearchS
namespace Go.Proofs.YtfdlopimncodcaaGreatDoor
inductive Mt : List UInt8 → List UInt8 → Prop
  | nil : Mt [] []
  | star {p t : List UInt8} (u : List UInt8) : Mt p t → Mt (p ++ [42]) (t ++ u)
  | part {p t : List UInt8} (u : List UInt8) : Mt p t → 47 ∉ u → Mt (p ++ [37]) (t ++ u)
  | one {p t : List UInt8} (c : UInt8) : c ≠ 42 → c ≠ 37 → Mt p t → Mt (p ++ [c]) (t ++ [c])
theorem snoc_inj {p q : List UInt8} {a b : UInt8} (h : p ++ [a] = q ++ [b]) : p = q ∧ a = b := by
  have := List.append_inj' h rfl
  exact ⟨this.1, by simpa using this.2⟩
theorem mt_nil {t : List UInt8} : Mt [] t ↔ t = [] := by
  constructor
  · intro h
    generalize hp : ([] : List UInt8) = p at h
    cases h with
    | nil => rfl
    | star u h => simp at hp
    | part u h _ => simp at hp
    | one c _ _ h => simp at hp
  · rintro rfl
    exact Mt.nil
theorem mt_snoc {p t : List UInt8} {c : UInt8} : Mt (p ++ [c]) t ↔ ∃ t1 u, t = t1 ++ u ∧ Mt p t1 ∧ (c = 42 ∨ (c = 37 ∧ 47 ∉ u) ∨ (c ≠ 42 ∧ c ≠ 37 ∧ u = [c])) := by
  constructor
  · intro h
    generalize hp : p ++ [c] = q at h
    cases h with
    | nil => simp at hp
    | star u h =>
      obtain ⟨rfl, rfl⟩ := snoc_inj hp
      exact ⟨_, u, rfl, h, Or.inl rfl⟩
    | part u h hu =>
      obtain ⟨rfl, rfl⟩ := snoc_inj hp
      exact ⟨_, u, rfl, h, Or.inr (Or.inl ⟨rfl, hu⟩)⟩
    | one c h1 h2 h =>
      obtain ⟨rfl, rfl⟩ := snoc_inj hp
      exact ⟨_, _, rfl, h, Or.inr (Or.inr ⟨h1, h2, rfl⟩)⟩
  · rintro ⟨t1, u, rfl, h, rfl | ⟨rfl, hu⟩ | ⟨h1, h2, rfl⟩⟩
    · exact Mt.star u h
    · exact Mt.part u h hu
    · exact Mt.one c h1 h2 h
theorem strAt_get (ok : Nat → Bool) (E : List Bool) : ∀ (n k : Nat), n < E.length → ((strAt ok E n).getD k false = true ↔ if k ≤ n then ∃ j, j ≤ k ∧ E.getD j false = true ∧ ∀ i, j ≤ i → i < k → ok i = true else E.getD k false = true)
  | 0, k, _ => by
    rw [strAt]
    by_cases hk : k ≤ 0
    · rw [if_pos hk]
      obtain rfl : k = 0 := by omega
      exact ⟨fun h => ⟨0, Nat.le_refl _, h, fun i _ h => absurd h (by omega)⟩, fun ⟨j, hj, h, _⟩ => (show j = 0 by omega) ▸ h⟩
    · rw [if_neg hk]
  | n + 1, k, hn => by
    have ih := strAt_get ok E n
    rw [strAt, getD_set _ _ _ _ (by rw [strAt_len]; exact hn)]
    by_cases hk : n + 1 = k
    · subst hk
      rw [if_pos rfl, if_pos (Nat.le_refl _), Bool.or_eq_true, Bool.and_eq_true, ih (n + 1) (by omega), ih n (by omega), if_neg (by omega), if_pos (Nat.le_refl _)]
      constructor
      · rintro (h | ⟨⟨j, hj, h, hi⟩, ho⟩)
        · exact ⟨n + 1, Nat.le_refl _, h, fun i h1 h2 => absurd h2 (by omega)⟩
        · refine ⟨j, by omega, h, fun i h1 h2 => ?_⟩
          by_cases e : i = n
          · rw [e]; exact ho
          · exact hi i h1 (by omega)
      · rintro ⟨j, hj, h, hi⟩
        by_cases e : j = n + 1
        · subst e
          exact Or.inl h
        · exact Or.inr ⟨⟨j, by omega, h, fun i h1 h2 => hi i h1 (by omega)⟩, hi n (by omega) (by omega)⟩
    · rw [if_neg hk, ih k (by omega)]
      by_cases h1 : k ≤ n
      · rw [if_pos h1, if_pos (by omega)]
      · rw [if_neg h1, if_neg (by omega)]
theorem stpL_get (ok : Nat → Bool) (E : List Bool) (k : Nat) (hk : k < E.length) : (stpL ok E).getD k false = true ↔ 0 < k ∧ E.getD (k - 1) false = true ∧ ok (k - 1) = true := by
  unfold stpL
  rw [getD_set _ _ _ _ (by rw [stpAt_len]; omega)]
  by_cases h0 : 0 = k
  · rw [if_pos h0]
    constructor
    · intro h; cases h
    · rintro ⟨h, _⟩; omega
  · rw [if_neg h0, stpAt_get _ _ _ _ hk, if_pos (by omega), Bool.and_eq_true]
    exact ⟨fun h => ⟨by omega, h⟩, fun h => h.2⟩
theorem take_split {s t1 u : List UInt8} {k : Nat} (h : s.take k = t1 ++ u) (hk : k ≤ s.length) : t1 = s.take t1.length ∧ t1.length ≤ k ∧ u = (s.take k).drop t1.length := by
  have hl : t1.length + u.length = k := by
    have := congrArg List.length h
    rw [List.length_take, List.length_append] at this
    omega
  refine ⟨?_, by omega, by rw [h, List.drop_left]⟩
  have := congrArg (List.take t1.length) h
  rw [List.take_take, List.take_left, Nat.min_eq_left (by omega)] at this
  exact this.symm
theorem drop_no {s : List UInt8} {j k : Nat} (hk : k ≤ s.length) : 47 ∉ (s.take k).drop j ↔ ∀ i, j ≤ i → i < k → decide (s.getD i 0 ≠ 47) = true := by
  constructor
  · intro h i h1 h2
    rw [decide_eq_true_eq]
    intro e
    refine h (List.mem_iff_getElem?.2 ⟨i - j, ?_⟩)
    rw [List.getElem?_drop, show j + (i - j) = i by omega, List.getElem?_take_of_lt h2, List.getElem?_eq_getElem (by omega)]
    rw [List.getD_eq_getElem?_getD, List.getElem?_eq_getElem (by omega)] at e
    exact congrArg some e
  · intro h hm
    obtain ⟨i, hi⟩ := List.mem_iff_getElem?.1 hm
    rw [List.getElem?_drop] at hi
    have hlt : j + i < k := by
      have := (List.getElem?_eq_some_iff.1 hi).1
      rw [List.length_take] at this
      omega
    rw [List.getElem?_take_of_lt hlt] at hi
    have := h (j + i) (by omega) hlt
    rw [List.getD_eq_getElem?_getD, hi] at this
    simp at this
theorem ends_iff (s : List UInt8) : ∀ (n : Nat) (p : List UInt8), p.length = n → ∀ k, k ≤ s.length → ((endsOf s p).getD k false = true ↔ Mt p (s.take k))
  | 0, p, hp, k, hk => by
    obtain rfl := List.eq_nil_of_length_eq_zero hp
    rw [mt_nil]
    unfold endsOf
    rw [List.foldl_nil]
    cases k with
    | zero => simp
    | succ k =>
      have : (true :: List.replicate s.length false).getD (k + 1) false = false := by
        rw [List.getD_cons_succ, List.getD_eq_getElem?_getD, List.getElem?_replicate]
        split <;> rfl
      rw [this]
      constructor
      · intro h; cases h
      · intro h
        have hl := congrArg List.length h
        rw [List.length_take, Nat.min_eq_left hk] at hl
        simp at hl
  | n + 1, p, hp, k, hk => by
    have hne : p ≠ [] := fun e => by rw [e] at hp; simp at hp
    obtain ⟨q, c, rfl⟩ : ∃ q c, p = q ++ [c] := ⟨p.dropLast, p.getLast hne, (List.dropLast_concat_getLast hne).symm⟩
    have ih := ends_iff s n q (by rw [List.length_append] at hp; simpa using hp)
    have hE : endsOf s (q ++ [c]) = endsF s (endsOf s q) c := by unfold endsOf; rw [List.foldl_append]; rfl
    have hl := endsOf_len s q
    rw [hE, mt_snoc]
    obtain ⟨E, hEE⟩ : ∃ E, endsOf s q = E := ⟨_, rfl⟩
    rw [hEE] at ih hl ⊢
    have cut : ∀ j, j ≤ k → s.take k = s.take j ++ (s.take k).drop j := fun j hj => by
      have := (List.take_append_drop j (s.take k)).symm
      rw [List.take_take, Nat.min_eq_left hj] at this
      exact this
    unfold endsF
    by_cases h42 : c = 42
    · rw [if_pos h42, strAt_get _ _ _ _ (by omega), if_pos (by omega)]
      constructor
      · rintro ⟨j, hj, h, _⟩
        exact ⟨s.take j, _, cut j hj, (ih j (by omega)).1 h, Or.inl h42⟩
      · rintro ⟨t1, u, he, h, _⟩
        obtain ⟨h1, h2, _⟩ := take_split he hk
        refine ⟨t1.length, h2, (ih _ (by omega)).2 (h1 ▸ h), fun _ _ _ => rfl⟩
    rw [if_neg h42]
    by_cases h37 : c = 37
    · rw [if_pos h37, strAt_get _ _ _ _ (by omega), if_pos (by omega)]
      constructor
      · rintro ⟨j, hj, h, hi⟩
        exact ⟨s.take j, _, cut j hj, (ih j (by omega)).1 h, Or.inr (Or.inl ⟨h37, (drop_no hk).2 hi⟩)⟩
      · rintro ⟨t1, u, he, h, hc⟩
        obtain ⟨h1, h2, h3⟩ := take_split he hk
        have hu : 47 ∉ u := by
          rcases hc with e | ⟨_, e⟩ | ⟨_, e, _⟩
          · exact absurd e h42
          · exact e
          · exact absurd h37 e
        exact ⟨t1.length, h2, (ih _ (by omega)).2 (h1 ▸ h), (drop_no hk).1 (h3 ▸ hu)⟩
    rw [if_neg h37, stpL_get _ _ _ (by omega)]
    constructor
    · rintro ⟨h0, h, ho⟩
      have hlt : k - 1 < s.length := by omega
      refine ⟨s.take (k - 1), [c], ?_, (ih _ (by omega)).1 h, Or.inr (Or.inr ⟨h42, h37, rfl⟩)⟩
      have hc : s[k - 1] = c := by
        rw [List.getD_eq_getElem?_getD, List.getElem?_eq_getElem hlt] at ho
        simpa using ho
      have := List.take_succ_eq_append_getElem hlt
      rw [show k - 1 + 1 = k by omega, hc] at this
      exact this
    · rintro ⟨t1, u, he, h, hc⟩
      have hu : u = [c] := by
        rcases hc with e | ⟨e, _⟩ | ⟨_, _, e⟩
        · exact absurd e h42
        · exact absurd e h37
        · exact e
      subst hu
      obtain ⟨h1, h2, h3⟩ := take_split he hk
      have hlen : t1.length + 1 = k := by
        have := congrArg List.length he
        rw [List.length_take, List.length_append] at this
        simp at this
        omega
      have hlt : t1.length < s.length := by omega
      refine ⟨by omega, ?_, ?_⟩
      · rw [show k - 1 = t1.length by omega]
        exact (ih _ (by omega)).2 (h1 ▸ h)
      · rw [show k - 1 = t1.length by omega, List.getD_eq_getElem?_getD, List.getElem?_eq_getElem hlt]
        have h5 := List.take_succ_eq_append_getElem hlt
        rw [hlen, he, ← h1] at h5
        have := List.append_cancel_left h5
        have h6 : c = s[t1.length] := by simpa using this
        rw [← h6]
        simp
theorem match_iff (p s : List UInt8) : matchB p s = true ↔ Mt p s := by
  unfold matchB
  rw [ends_iff s p.length p rfl s.length (Nat.le_refl _), List.take_length]
theorem snoc_cases (p : List UInt8) : p = [] ∨ ∃ q c, p = q ++ [c] := by
  by_cases h : p = []
  · exact Or.inl h
  · exact Or.inr ⟨p.dropLast, p.getLast h, (List.dropLast_concat_getLast h).symm⟩
end Go.Proofs.YtfdlopimncodcaaGreatDoor
namespace Go.Proofs.YtfdlopimncodcaaGreatDoor
open Go.RowKit Go.Proofs.Aid Go.Proofs.Bx
theorem bs_nil (a : Option Addr) (c : Nat) (x : ByteArray) (w : World) : Calls Tryz.prog 87 #[.slice a 0 c, .string x] w fun e w' => e = .returned (.tuple #[.int .i64 0, .bool false]) ∧ w' = w := by
  go_enter Tryz.func87, Tryz.ntmps87
  go_wp2
  refine wp_loop_rounds 1 ?_
  rw [rounds_succ]
  go_wp2
  go_ret2
  exact ⟨rfl, rfl⟩
theorem house_set {w : World} {hb mb : Nat} {l : Bxs} {nx : Int} {wv : Value} (h : HsAt w hb mb l nx wv) (v : Value) : HsAt (w.setCell ⟨hb, 1, none⟩ v) hb mb l nx v :=
  ⟨by simpa using rd_set (i := 1) v h.1, h.2.same (Below.heap_setCell _ _ _ _ (fun e => h.ne e.symm))⟩
end Go.Proofs.YtfdlopimncodcaaGreatDoor
namespace Go.Proofs
open Go.Shelf
def Tryz.laysBs_ren : Go.Shelf.Ren := ⟨fun | 26 => 87 | 33 => 132 | 34 => 133 | 38 => 163 | n => n, fun | 24 => 32 | 9 => 9 | 3 => 3 | 4 => 4 | 40 => 27 | 0 => 0 | n => n, fun | n => n⟩
theorem Tryz.laysBs : Go.Proofs.Lays2.n26 Tryz.prog Tryz.laysBs_ren := {
  mixed := by kernel_rfl
  f26 := Tryz.func87.trans (congrArg some (by kernel_rfl))
  f33 := Tryz.func132.trans (congrArg some (by kernel_rfl))
  f34 := Tryz.func133.trans (congrArg some (by kernel_rfl))
  f38 := Tryz.func163.trans (congrArg some (by kernel_rfl))
  t0 := Tryz.underlying0
  a0 := Tryz.isAgg0
  z0 := Tryz.sizeOf0
  v0 := Tryz.zeroValue0
  t3 := Tryz.underlying3
  a3 := Tryz.isAgg3
  z3 := Tryz.sizeOf3
  v3 := Tryz.zeroValue3
  t4 := Tryz.underlying4
  a4 := Tryz.isAgg4
  z4 := Tryz.sizeOf4
  v4 := Tryz.zeroValue4
  t9 := Tryz.underlying9
  a9 := Tryz.isAgg9
  z9 := Tryz.sizeOf9
  v9 := Tryz.zeroValue9
  t24 := Tryz.underlying32
  a24 := Tryz.isAgg32
  z24 := Tryz.sizeOf32
  v24 := Tryz.zeroValue32
  t40 := Tryz.underlying27
  a40 := Tryz.isAgg27
  z40 := Tryz.sizeOf27
  v40 := Tryz.zeroValue27 }
open Go.RowKit Go.Lib in
theorem Tryz.slices_BinarySearch_string (b off n c : Nat) (Sx : Nat → ByteArray) (x : ByteArray) (w : World) (hbig : n < 4611686018427387904) (hc : ∀ j, j < n → w.cell? ⟨b, off + j, none⟩ = some (.string (Sx j))) :
    Calls Tryz.prog 87 #[.slice (some ⟨b, off, none⟩) n c, .string x] w fun e w' =>
      e = .returned (.tuple #[.int .i64 (Lib.bsGo (fun t => Op.bytesLess (Sx t).toList x.toList) n 0 n : Nat), .bool (decide (Lib.bsGo (fun t => Op.bytesLess (Sx t).toList x.toList) n 0 n < n ∧ Sx (Lib.bsGo (fun t => Op.bytesLess (Sx t).toList x.toList) n 0 n) = x))]) ∧ ∃ q, w' = w.drewN q := Any2.slices_BinarySearch_string Tryz.laysBs b off n c Sx x w hbig hc
end Go.Proofs
namespace Go.Proofs.YtfdlopimncodcaaGreatDoor
open Go.RowKit Go.Proofs.Aid Go.Proofs.Bx
theorem place_of (x : Nm) : ∀ (ns : List Nm), ns.Pairwise (· < ·) → ∃ k, k ≤ ns.length ∧ (∀ t (h : t < ns.length), t < k → ns[t] < x) ∧ ∀ t (h : t < ns.length), k ≤ t → ¬ ns[t] < x
  | [], _ => ⟨0, Nat.le_refl _, fun t h => absurd h (Nat.not_lt_zero _), fun t h => absurd h (Nat.not_lt_zero _)⟩
  | a :: ns, hs => by
    obtain ⟨h1, h2⟩ := List.pairwise_cons.1 hs
    by_cases ha : a < x
    · obtain ⟨k, k1, k2, k3⟩ := place_of x ns h2
      refine ⟨k + 1, by simp; omega, fun t h ht => ?_, fun t h ht => ?_⟩
      · cases t with
        | zero => exact ha
        | succ t => exact k2 t (by simpa using h) (by omega)
      · cases t with
        | zero => omega
        | succ t => exact k3 t (by simpa using h) (by omega)
    · refine ⟨0, Nat.zero_le _, fun t _ ht => absurd ht (Nat.not_lt_zero _), fun t h _ hlt => ?_⟩
      cases t with
      | zero => exact ha hlt
      | succ t => exact ha (List.lt_trans (h1 _ (List.getElem_mem (by simpa using h))) hlt)
theorem bs_is (v : Value) (ns : List Nm) (x : ByteArray) (w : World) (h : Sl w v ns) (hs : ns.Pairwise (· < ·)) (hl : ns.length ≤ 1000) :
    Calls Tryz.prog 87 #[v, .string x] w fun e w' => (∃ k : Nat, e = .returned (.tuple #[.int .i64 (k : Int), .bool (decide (x.data.toList ∈ ns))]) ∧ k ≤ ns.length ∧ (∀ t (h : t < ns.length), t < k → ns[t] < x.data.toList) ∧ ∀ t (h : t < ns.length), k ≤ t → ¬ ns[t] < x.data.toList) ∧ ∃ q, w' = w.drewN q := by
  obtain ⟨k, k1, k2, k3⟩ := place_of x.data.toList ns hs
  by_cases hn : ns = []
  · subst hn
    obtain ⟨a, c, rfl, _⟩ := h
    refine (bs_nil a c x w).mono ?_
    rintro e w' ⟨rfl, rfl⟩
    exact ⟨⟨0, by simp, Nat.zero_le _, fun t h => absurd h (Nat.not_lt_zero _), fun t h => absurd h (Nat.not_lt_zero _)⟩, 0, rfl⟩
  · obtain ⟨a, c, rfl, _⟩ := id h
    obtain ⟨b, o, rfl, hat⟩ := sl_at h (k := 0) (x := ns[0]'(List.length_pos_iff.2 hn)) (List.getElem?_eq_getElem _)
    have hSx : ∀ t, ((⟨(ns.getD t x.data.toList).toArray⟩ : ByteArray)).toList = ns.getD t x.data.toList := fun t => by rw [Lib.toList_data]
    have hless : ∀ t, Op.bytesLess ((⟨(ns.getD t x.data.toList).toArray⟩ : ByteArray)).toList x.toList = decide (ns.getD t x.data.toList < x.data.toList) := fun t => by
      rw [hSx, bytesLess_eq, Lib.toList_data]
    have hbs : Lib.bsGo (fun t => Op.bytesLess ((⟨(ns.getD t x.data.toList).toArray⟩ : ByteArray)).toList x.toList) ns.length 0 ns.length = k := by
      refine Lib.bsGo_spec _ k (fun t ht => ?_) (fun t ht => ?_) _ _ _ (by omega) (Nat.zero_le _) k1
      · rw [hless]
        refine decide_eq_true ?_
        rw [List.getD_eq_getElem?_getD, List.getElem?_eq_getElem (by omega)]
        exact k2 t (by omega) ht
      · rw [hless]
        refine decide_eq_false ?_
        by_cases htl : t < ns.length
        · rw [List.getD_eq_getElem?_getD, List.getElem?_eq_getElem htl]
          exact k3 t htl ht
        · rw [List.getD_eq_getElem?_getD, List.getElem?_eq_none (by omega)]
          exact List.lt_irrefl _
    have hB := Tryz.slices_BinarySearch_string b o ns.length c (fun t => (⟨(ns.getD t x.data.toList).toArray⟩ : ByteArray)) x w (by omega) (fun j hj => by
      rw [hat j _ (List.getElem?_eq_getElem hj), List.getD_eq_getElem?_getD, List.getElem?_eq_getElem hj]
      rfl)
    rw [hbs] at hB
    have hfound : decide (k < ns.length ∧ (⟨(ns.getD k x.data.toList).toArray⟩ : ByteArray) = x) = decide (x.data.toList ∈ ns) := by
      refine decide_eq_decide.2 ⟨fun ⟨q1, q2⟩ => ?_, fun hm => ?_⟩
      · have e1 : ns.getD k x.data.toList = x.data.toList := by
          have := congrArg (fun y : ByteArray => y.data.toList) q2
          simpa using this
        rw [List.getD_eq_getElem?_getD, List.getElem?_eq_getElem q1] at e1
        have e1 : ns[k] = x.data.toList := e1
        rw [← e1]
        exact List.getElem_mem q1
      · obtain ⟨t, ht, e1⟩ := List.getElem_of_mem hm
        have htk : t = k := by
          rcases Nat.lt_trichotomy t k with h5 | h5 | h5
          · exact absurd (k2 t ht h5) (by rw [e1]; exact List.lt_irrefl _)
          · exact h5
          · have h6 := List.pairwise_iff_getElem.1 hs k t (by omega) ht h5
            rw [e1] at h6
            exact absurd h6 (k3 k (by omega) (Nat.le_refl _))
        subst htk
        refine ⟨ht, ?_⟩
        rw [List.getD_eq_getElem?_getD, List.getElem?_eq_getElem ht]
        show (⟨ns[t].toArray⟩ : ByteArray) = x
        rw [e1]
    rw [hfound] at hB
    refine hB.mono ?_
    rintro e w' ⟨rfl, q, rfl⟩
    exact ⟨⟨k, rfl, k1, k2, k3⟩, q, rfl⟩
set_option maxHeartbeats 2000000 in
theorem has1_is (x : ByteArray) (p : Nat) (v : Value) (ns : List Nm) (w : World) (hp : w.cell? ⟨p, 0, none⟩ = some v) (h : Sl w v ns) (hs : ns.Pairwise (· < ·)) (hl : ns.length ≤ 1000) :
    Calls Tryz.prog 104 #[.string x, .pointer (some ⟨p, 0, none⟩)] w fun e w' => e = .returned (.bool (decide (x.data.toList ∈ ns))) ∧ ∃ q, w' = w.drewN q := by
  have cB : Calls Tryz.prog 87 #[v, .string x] w fun e w' => (∃ k : Nat, e = .returned (.tuple #[.int .i64 (k : Int), .bool (decide (x.data.toList ∈ ns))])) ∧ ∃ q, w' = w.drewN q := (bs_is v ns x w h hs hl).mono fun _ _ ⟨⟨k, e1, _⟩, e2⟩ => ⟨⟨k, e1⟩, e2⟩
  obtain ⟨A, hA⟩ : ∃ A, decide (x.data.toList ∈ ns) = A := ⟨_, rfl⟩
  rw [hA] at cB ⊢
  obtain ⟨a, c, rfl, _⟩ := id h
  obtain ⟨M, hM⟩ : ∃ m, ns.length = m := ⟨_, rfl⟩
  rw [hM] at hp cB
  clear hA h hs hM
  go_enter Tryz.func104, Tryz.ntmps104
  go_wp2_with fail
  refine cB.mono ?_
  rintro e w1 ⟨⟨k, rfl⟩, q, hq⟩
  have HQ : Hid (∃ q, w1 = w.drewN q) := ⟨q, hq⟩
  clear cB hq
  go_wp2_with fail
  go_ret
  exact ⟨rfl, HQ.out⟩
end Go.Proofs.YtfdlopimncodcaaGreatDoor
namespace Go.Proofs
open Go.Shelf
def Tryz.lays148_ren : Go.Shelf.Ren := ⟨fun | 148 => 106 | 222 => 80 | 223 => 146 | 269 => 177 | n => n, fun | 9 => 9 | 3 => 3 | 4 => 4 | 5 => 5 | 146 => 218 | 51 => 217 | 46 => 27 | n => n, fun | n => n⟩
theorem Tryz.lays148 : Go.Proofs.Lays.n148 Tryz.prog Tryz.lays148_ren := {
  mixed := by kernel_rfl
  f148 := Tryz.func106.trans (congrArg some (by kernel_rfl))
  f222 := Tryz.func80.trans (congrArg some (by kernel_rfl))
  f223 := Tryz.func146.trans (congrArg some (by kernel_rfl))
  f269 := Tryz.func177.trans (congrArg some (by kernel_rfl))
  t3 := Tryz.underlying3
  a3 := Tryz.isAgg3
  z3 := Tryz.sizeOf3
  v3 := Tryz.zeroValue3
  t4 := Tryz.underlying4
  a4 := Tryz.isAgg4
  z4 := Tryz.sizeOf4
  v4 := Tryz.zeroValue4
  t5 := Tryz.underlying5
  a5 := Tryz.isAgg5
  z5 := Tryz.sizeOf5
  v5 := Tryz.zeroValue5
  t9 := Tryz.underlying9
  a9 := Tryz.isAgg9
  z9 := Tryz.sizeOf9
  v9 := Tryz.zeroValue9
  t46 := Tryz.underlying27
  a46 := Tryz.isAgg27
  z46 := Tryz.sizeOf27
  v46 := Tryz.zeroValue27
  t51 := Tryz.underlying217
  a51 := Tryz.isAgg217
  z51 := Tryz.sizeOf217
  v51 := Tryz.zeroValue217
  t146 := Tryz.underlying218
  a146 := Tryz.isAgg218
  z146 := Tryz.sizeOf218
  v146 := Tryz.zeroValue218 }
open Go.RowKit Go.Lib in
theorem Tryz.strings_LastIndex_one (s sub : ByteArray) (h1 : sub.size = 1) (hs : s.size < 4611686018427387904) (w : World) :
    Calls Tryz.prog 106 #[.string s, .string sub] w fun e w' => e = .returned (.int .i64 (Lib.lastIndexByte s ((sub[0]'(by omega)).toNat : Int))) ∧ w' = w := Any.strings_LastIndex_one Tryz.lays148 s sub h1 hs w
end Go.Proofs
