/-
  Names that are in order, each as boxes are called: rightNames says so, and more.
-/
import Derived.Test.YtdmplfflmdanlaaGreatDoorMHsCopy
import Derived.Laws.AppendOwnNone
import Derived.Lib.SlBy
import Derived.Shelf.Spec.SearchS
import Derived.Ground.Names2Prog
import Derived.Lib.PathFns
import Derived.Shelf.Strings.LastIndex
namespace Go.Proofs.YtdmplfflmdanlaaGreatDoor
open Go.RowKit Go.Proofs.Aid Go.Proofs.Bx

theorem sl_at {w : World} {a : Option Addr} {n c : Nat} {l : List Nm} (h : Sl w (.slice a n c) l) {k : Nat} {x : Nm} (hk : l[k]? = some x) : ∃ b o, a = some ⟨b, o, none⟩ ∧ ∀ (j : Nat) t, l[j]? = some t → w.cell? ⟨b, o + j, none⟩ = some (.string ⟨t.toArray⟩) := by
  obtain ⟨a', c', h1, _, h2⟩ := h
  injection h1 with h1 _ _
  subst h1
  rcases h2 with h2 | ⟨b, o, h3, h4⟩
  · rw [h2] at hk
    simp at hk
  · exact ⟨b, o, h3, h4⟩
theorem ba_size (n : Nm) : (⟨n.toArray⟩ : ByteArray).size = n.length := by show n.toArray.size = _; rw [List.size_toArray]
set_option maxHeartbeats 4000000 in
set_option maxRecDepth 100000 in
theorem rnames_true (v : Value) (ns : List Nm) (w : World) (hE : NEnv w) (h : Sl w v ns) (hl : ns.length ≤ 1000) (hn : ∀ n ∈ ns, nameB n = some n) (hs : ns.Pairwise (· < ·)) :
    Calls Tryz.prog 28 #[v] w fun e w' => e = .returned (.bool true) ∧ Below w.heap.size w w' := by
  obtain ⟨a, c, rfl, _⟩ := id h
  obtain ⟨M, hM⟩ : ∃ m, ns.length = m := ⟨_, rfl⟩
  have HX : Hid (Sl w (.slice a M c) ns ∧ ns.length = M ∧ (∀ n ∈ ns, nameB n = some n) ∧ ns.Pairwise (· < ·) ∧ NEnv w) := ⟨by rw [← hM]; exact h, hM, hn, hs, hE⟩
  rw [hM] at hl ⊢
  clear h hM hn hs hE
  go_enter Tryz.func28, Tryz.ntmps28
  go_wp2_with fail
  go_loopw [9] (fun iv wr => ∃ k : Nat, iv = .int .i64 (k : Int) ∧ k ≤ M ∧ Hid (Below w.heap.size w wr)) (fun iv _ => M - (intOf iv).toNat)
  case atStart => exact ⟨0, rfl, Nat.zero_le _, Below.refl _ _⟩
  case round =>
    obtain ⟨k, rfl, hk, HB⟩ := hrel
    by_cases hlt : k < M
    · have d1 : decide ((k : Int) < (M : Int)) = true := decide_eq_true (by omega)
      have i1 : (0 : Int) ≤ (k : Int) := by omega
      have i2 : (k : Int) < (M : Int) := by omega
      obtain ⟨n, hnk⟩ : ∃ n, ns[k]? = some n := ⟨_, List.getElem?_eq_getElem (by have := HX.out.2.1; omega)⟩
      obtain ⟨b, o, rfl, hat⟩ := sl_at (HX.out.1.below HB.out (Nat.le_refl _)) hnk
      have x0 := hat k n hnk
      have hnm := HX.out.2.2.1 n (List.mem_of_getElem? hnk)
      have hnl := nameB_len hnm
      have cN := name_is ⟨n.toArray⟩ wr (HX.out.2.2.2.2.below HB.out) (by rw [ba_size]; omega)
      have HAT : Hid (∀ W, Below wr.heap.size wr W → ∀ (j : Nat) t, ns[j]? = some t → W.cell? ⟨b, o + j, none⟩ = some (.string ⟨t.toArray⟩)) := fun W hW j t hj => (hW.cell (p := ⟨b, o + j, none⟩) (World.block_lt_of_cell? _ _ (hat j t hj))).trans (hat j t hj)
      have HNM : Hid (ns[k]? = some n ∧ nameB n = some n) := ⟨hnk, hnm⟩
      clear hat hnk hnm
      go_wp2_with fail
      refine cN.mono ?_
      rintro e w1 ⟨hb1, ⟨r, hr, _, rfl⟩ | ⟨hr, rfl⟩⟩
      · have hrn : r = ⟨n.toArray⟩ := by
          have hr : nameB n = some r.data.toList := hr
          rw [HNM.out.2] at hr
          exact ba_list (Option.some.inj hr).symm
        subst hrn
        have HB1 : Hid (Below w.heap.size w w1) := HB.out.trans (hb1.mono HB.out.size)
        have y0 : w1.cell? ⟨b, o + k, none⟩ = some (.string ⟨n.toArray⟩) := HAT.out w1 hb1 k n HNM.out.1
        by_cases h0 : k = 0
        · subst h0
          clear cN hr hb1 HAT
          go_wp2_with fail
          go_roundw
          case rel => exact ⟨1, by go_num, by omega, HB1⟩
          case measure => simp [intOf]; omega
        · obtain ⟨j, hj⟩ : ∃ j, k = j + 1 := ⟨k - 1, by omega⟩
          have HJ : Hid (k = j + 1) := hj
          obtain ⟨m, hmj⟩ : ∃ m, ns[j]? = some m := ⟨_, List.getElem?_eq_getElem (by have := HX.out.2.1; omega)⟩
          have z0 : w1.cell? ⟨b, o + (k - 1), none⟩ = some (.string ⟨m.toArray⟩) := by rw [show k - 1 = j by omega]; exact HAT.out w1 hb1 j m hmj
          have hless : Op.bytesLess (⟨m.toArray⟩ : ByteArray).toList (⟨n.toArray⟩ : ByteArray).toList = true := by
            rw [bytesLess_eq]
            refine decide_eq_true ?_
            rw [Lib.toList_data, Lib.toList_data]
            obtain ⟨g1, e1⟩ := List.getElem?_eq_some_iff.1 hmj
            obtain ⟨g2, e2⟩ := List.getElem?_eq_some_iff.1 HNM.out.1
            have := List.pairwise_iff_getElem.1 HX.out.2.2.2.1 j k g1 g2 (by omega)
            rw [e1, e2] at this
            exact this
          have hless2 : Op.bytesLess m n = true := by
            have h5 := hless
            rw [Lib.toList_data, Lib.toList_data] at h5
            exact h5
          have d2 : decide ((0 : Int) < (k : Int)) = true := decide_eq_true (by omega)
          have i5 : (0 : Int) ≤ (k : Int) - 1 := by omega
          have i6 : (k : Int) - 1 < (M : Int) := by omega
          have i3 : (0 : Int) ≤ (j : Int) := by omega
          have i4 : (j : Int) < (M : Int) := by omega
          clear cN hr hb1 HAT hmj hj
          go_wp2_with fail
          go_roundw
          case rel => exact ⟨k + 1, by go_num, by omega, HB1⟩
          case measure => simp [intOf]; omega
      · have hr : nameB n = none := hr
        rw [HNM.out.2] at hr
        cases hr
    · have d1 : decide ((k : Int) < (M : Int)) = false := decide_eq_false (by omega)
      go_wp2_with fail
      go_ret
      exact ⟨rfl, HB.out⟩
end Go.Proofs.YtdmplfflmdanlaaGreatDoor
namespace Go.Proofs.YtdmplfflmdanlaaGreatDoor
open Go.RowKit Go.Proofs.Aid Go.Proofs.Bx

theorem keep_putAll {q : Nm × Nat} : ∀ (ps l : Bxs), SortedB l → q ∈ l → q.1 ∉ ps.map Prod.fst → q ∈ putAll l ps
  | [], _, _, h, _ => h
  | p :: ps, l, hs, h, hn => by
    refine keep_putAll ps (putB p.1 p.2 l) (sorted_putB hs) ((mem_putB hs (m := q.1) (c := q.2)).2 (Or.inr ⟨fun e => hn ?_, h⟩)) fun e => hn ?_
    · rw [e]; exact List.mem_cons_self
    · exact List.mem_cons_of_mem _ e
theorem last_putAll {T : Nm} {ns : List Nm} {ps l : Bxs} (hs : SortedB l) (h : ps.map Prod.fst = ns ++ [T]) : ∃ (tb j : Nat), (T, tb) ∈ putAll l ps ∧ ps[j]? = some (T, tb) := by
  have hne : ps ≠ [] := fun e => by rw [e] at h; simp at h
  have e := List.dropLast_concat_getLast hne
  obtain ⟨q, hq⟩ : ∃ q, ps.getLast hne = q := ⟨_, rfl⟩
  rw [hq] at e
  have hT : q.1 = T := by
    rw [← e, List.map_append] at h
    have := (List.append_inj' h (by simp)).2
    simpa using this
  obtain ⟨q1, q2⟩ := q
  obtain rfl : q1 = T := hT
  refine ⟨q2, ps.dropLast.length, ?_, ?_⟩
  · rw [← e, putAll_snoc]
    exact (mem_putB (putAll_sorted ps.dropLast l hs)).2 (Or.inl ⟨rfl, rfl⟩)
  · have h3 : (ps.dropLast ++ [(q1, q2)])[ps.dropLast.length]? = some (q1, q2) := by
      rw [List.getElem?_append_right (Nat.le_refl _), Nat.sub_self]
      rfl
    rw [e] at h3
    exact h3
theorem lack_free {l : Bxs} {n m : Nm} (h : m ∈ lackB l n) : hasB l m = false := by
  unfold lackB lackTo at h
  obtain ⟨i, hi, rfl⟩ := List.mem_map.1 h
  have := (List.mem_filter.1 hi).2
  simp only [Bool.and_eq_true, Bool.not_eq_true'] at this
  exact this.2
end Go.Proofs.YtdmplfflmdanlaaGreatDoor
namespace Go.Proofs.YtdmplfflmdanlaaGreatDoor
open Go.RowKit Go.Proofs.Aid Go.Proofs.Bx

theorem del_len {l : Bxs} {x : Nm} (h : hasB l x = true) : (delB l x).length + 1 ≤ l.length := by
  obtain ⟨b, hb⟩ := hasB_true.1 h
  unfold delB
  have := List.length_filter_lt_length_iff_exists (p := fun p : Nm × Nat => decide (p.1 ≠ x)) (l := l) |>.2 ⟨(x, b), hb, by simp⟩
  omega
theorem look_has {l : Bxs} {x : Nm} {b : Nat} (h : lookB l x = some b) : (x, b) ∈ l := by
  unfold lookB at h
  obtain ⟨q, hq, rfl⟩ := Option.map_eq_some_iff.1 h
  have hm := List.mem_of_find?_eq_some hq
  have hx : (q.1 == x) = true := List.find?_some (p := fun p : Nm × Nat => p.1 == x) hq
  obtain ⟨q1, q2⟩ := q
  obtain rfl : q1 = x := by simpa using hx
  exact hm
theorem mvStep_le {t n : Nm} {l : Bxs} {x : Nm} (hs : SortedB l) : (mvStep t n l x).length ≤ l.length := by
  unfold mvStep
  split
  · rename_i b hb
    have h1 := putB_len (calledB t n x) b l
    have h2 := del_len (has_put hs (c := calledB t n x) (b := b) (hasB_true.2 ⟨b, look_has hb⟩))
    omega
  · exact Nat.le_refl _
theorem mvAll_le {t n : Nm} : ∀ (xs : List Nm) (l : Bxs), SortedB l → (mvAll t n xs l).length ≤ l.length
  | [], _, _ => Nat.le_refl _
  | x :: xs, l, hs => Nat.le_trans (mvAll_le xs (mvStep t n l x) (mvStep_sorted hs)) (mvStep_le hs)
theorem mem_mvStep {t n : Nm} {l : Bxs} {x : Nm} {q : Nm × Nat} (hs : SortedB l) (h : q ∈ mvStep t n l x) : ∃ p ∈ l, q.2 = p.2 ∧ (q.1 = p.1 ∨ q.1 = calledB t n x) := by
  unfold mvStep at h
  split at h
  · rename_i b hb
    obtain ⟨q1, q2⟩ := q
    rcases (mem_putB hs).1 (mem_delB.1 h).2 with ⟨e1, e2⟩ | ⟨_, hm⟩
    · exact ⟨(x, b), look_has hb, e2, Or.inr e1⟩
    · exact ⟨(q1, q2), hm, rfl, Or.inl rfl⟩
  · exact ⟨q, h, rfl, Or.inl rfl⟩
theorem mem_mvAll {t n : Nm} {q : Nm × Nat} : ∀ (xs : List Nm) (l : Bxs), SortedB l → q ∈ mvAll t n xs l → ∃ p ∈ l, q.2 = p.2 ∧ (q.1 = p.1 ∨ ∃ x ∈ xs, q.1 = calledB t n x)
  | [], _, _, h => ⟨q, h, rfl, Or.inl rfl⟩
  | x :: xs, l, hs, h => by
    obtain ⟨p, hp, e1, e2⟩ := mem_mvAll xs (mvStep t n l x) (mvStep_sorted hs) h
    obtain ⟨p', hp', f1, f2⟩ := mem_mvStep hs hp
    refine ⟨p', hp', e1.trans f1, ?_⟩
    rcases e2 with e2 | ⟨y, hy, e2⟩
    · rcases f2 with f2 | f2
      · exact Or.inl (e2.trans f2)
      · exact Or.inr ⟨x, List.mem_cons_self, e2.trans f2⟩
    · exact Or.inr ⟨y, List.mem_cons_of_mem _ hy, e2⟩
end Go.Proofs.YtdmplfflmdanlaaGreatDoor
namespace Go.Proofs.YtdmplfflmdanlaaGreatDoor
open Go.RowKit Go.Proofs.Aid Go.Proofs.Bx

set_option maxHeartbeats 4000000 in
set_option maxRecDepth 100000 in
theorem get_is (nB : Nm → Option Nm) (hb mb : Nat) (l : Bxs) (nx : Int) (wv : Value) (s : ByteArray) (w : World) (hN : NameC nB w) (h : HsAt w hb mb l nx wv) (hs : s.size ≤ 1000) :
    Calls Tryz.prog 77 #[.pointer (some ⟨hb, 0, none⟩), .string s] w fun e w' => Below w.heap.size w w' ∧
      ((∃ r b, nB s.data.toList = some r ∧ (r, b) ∈ l ∧ e = .returned (.tuple #[.pointer (some ⟨b, 0, none⟩), .nilIface])) ∨ ∃ E, (E = 1 ∨ E = 7) ∧ e = .returned (.tuple #[.pointer none, errN E])) := by
  have cT := there_is nB hb mb l nx wv s w hN h hs
  have HH : Hid (HsAt w hb mb l nx wv) := h
  clear hN h
  go_enter Tryz.func77, Tryz.ntmps77
  go_wp2_with fail
  refine cT.mono ?_
  rintro e w1 ⟨hb1, ⟨r, hr, hr2, hr3, rfl⟩ | ⟨r, hr, hr3, rfl⟩ | ⟨hr, rfl⟩⟩
  · have h1 := HH.out.below hb1 (Nat.le_refl _)
    obtain ⟨b, hb⟩ := hasB_true.1 hr3
    have hlk := mp_look h1.2 r (by omega) (b := b) hb
    have c0 := h1.cell.1
    have HR : Hid (Below w.heap.size w w1 ∧ nB s.data.toList = some r.data.toList ∧ (r.data.toList, b) ∈ l) := ⟨hb1, hr, hb⟩
    clear cT hr hr3 hb1 h1 hb
    go_wp2_with fail
    go_ret2
    exact ⟨HR.out.1, Or.inl ⟨_, b, HR.out.2.1, HR.out.2.2, rfl⟩⟩
  · have HR : Hid (Below w.heap.size w w1) := hb1
    clear cT hr hr3 hb1
    go_wp2_with fail
    go_ret2
    exact ⟨HR.out, Or.inr ⟨7, Or.inr rfl, rfl⟩⟩
  · have HR : Hid (Below w.heap.size w w1) := hb1
    clear cT hr hb1
    go_wp2_with fail
    go_ret2
    exact ⟨HR.out, Or.inr ⟨1, Or.inl rfl, rfl⟩⟩
end Go.Proofs.YtdmplfflmdanlaaGreatDoor
namespace Go.Proofs.YtdmplfflmdanlaaGreatDoor
open Go.RowKit Go.Proofs.Aid Go.Proofs.Bx

theorem bs_nil (a : Option Addr) (c : Nat) (x : ByteArray) (w : World) : Calls Tryz.prog 84 #[.slice a 0 c, .string x] w fun e w' => e = .returned (.tuple #[.int .i64 0, .bool false]) ∧ w' = w := by
  go_enter Tryz.func84, Tryz.ntmps84
  go_wp2
  refine wp_loop_rounds 1 ?_
  rw [rounds_succ]
  go_wp2
  go_ret2
  exact ⟨rfl, rfl⟩
theorem house_set {w : World} {hb mb : Nat} {l : Bxs} {nx : Int} {wv : Value} (h : HsAt w hb mb l nx wv) (v : Value) : HsAt (w.setCell ⟨hb, 1, none⟩ v) hb mb l nx v :=
  ⟨by simpa using rd_set (i := 1) v h.1, h.2.same (Below.heap_setCell _ _ _ _ (fun e => h.ne e.symm))⟩
end Go.Proofs.YtdmplfflmdanlaaGreatDoor
namespace Go.Proofs
open Go.Shelf
def Tryz.laysBs_ren : Go.Shelf.Ren := ⟨fun | 26 => 84 | 33 => 142 | 34 => 143 | 38 => 194 | n => n, fun | 24 => 22 | 9 => 9 | 3 => 3 | 4 => 4 | 40 => 193 | 0 => 0 | n => n, fun | n => n⟩
theorem Tryz.laysBs : Go.Proofs.Lays2.n26 Tryz.prog Tryz.laysBs_ren := {
  mixed := by kernel_rfl
  f26 := Tryz.func84.trans (congrArg some (by kernel_rfl))
  f33 := Tryz.func142.trans (congrArg some (by kernel_rfl))
  f34 := Tryz.func143.trans (congrArg some (by kernel_rfl))
  f38 := Tryz.func194.trans (congrArg some (by kernel_rfl))
  t0 := Tryz.underlying0
  a0 := Tryz.isAgg0
  z0 := Tryz.sizeOf0
  v0 := Tryz.zeroValue0
  t3 := Tryz.underlying3
  a3 := Tryz.isAgg3
  z3 := Tryz.sizeOf3
  v3 := Tryz.zeroValue3
  t4 := Tryz.underlying4
  a4 := Tryz.isAgg4
  z4 := Tryz.sizeOf4
  v4 := Tryz.zeroValue4
  t9 := Tryz.underlying9
  a9 := Tryz.isAgg9
  z9 := Tryz.sizeOf9
  v9 := Tryz.zeroValue9
  t24 := Tryz.underlying22
  a24 := Tryz.isAgg22
  z24 := Tryz.sizeOf22
  v24 := Tryz.zeroValue22
  t40 := Tryz.underlying193
  a40 := Tryz.isAgg193
  z40 := Tryz.sizeOf193
  v40 := Tryz.zeroValue193 }
open Go.RowKit Go.Lib in
theorem Tryz.slices_BinarySearch_string (b off n c : Nat) (Sx : Nat → ByteArray) (x : ByteArray) (w : World) (hbig : n < 4611686018427387904) (hc : ∀ j, j < n → w.cell? ⟨b, off + j, none⟩ = some (.string (Sx j))) :
    Calls Tryz.prog 84 #[.slice (some ⟨b, off, none⟩) n c, .string x] w fun e w' =>
      e = .returned (.tuple #[.int .i64 (Lib.bsGo (fun t => Op.bytesLess (Sx t).toList x.toList) n 0 n : Nat), .bool (decide (Lib.bsGo (fun t => Op.bytesLess (Sx t).toList x.toList) n 0 n < n ∧ Sx (Lib.bsGo (fun t => Op.bytesLess (Sx t).toList x.toList) n 0 n) = x))]) ∧ ∃ q, w' = w.drewN q := Any2.slices_BinarySearch_string Tryz.laysBs b off n c Sx x w hbig hc
end Go.Proofs
namespace Go.Proofs.YtdmplfflmdanlaaGreatDoor
open Go.RowKit Go.Proofs.Aid Go.Proofs.Bx

theorem place_of (x : Nm) : ∀ (ns : List Nm), ns.Pairwise (· < ·) → ∃ k, k ≤ ns.length ∧ (∀ t (h : t < ns.length), t < k → ns[t] < x) ∧ ∀ t (h : t < ns.length), k ≤ t → ¬ ns[t] < x
  | [], _ => ⟨0, Nat.le_refl _, fun t h => absurd h (Nat.not_lt_zero _), fun t h => absurd h (Nat.not_lt_zero _)⟩
  | a :: ns, hs => by
    obtain ⟨h1, h2⟩ := List.pairwise_cons.1 hs
    by_cases ha : a < x
    · obtain ⟨k, k1, k2, k3⟩ := place_of x ns h2
      refine ⟨k + 1, by simp; omega, fun t h ht => ?_, fun t h ht => ?_⟩
      · cases t with
        | zero => exact ha
        | succ t => exact k2 t (by simpa using h) (by omega)
      · cases t with
        | zero => omega
        | succ t => exact k3 t (by simpa using h) (by omega)
    · refine ⟨0, Nat.zero_le _, fun t _ ht => absurd ht (Nat.not_lt_zero _), fun t h _ hlt => ?_⟩
      cases t with
      | zero => exact ha hlt
      | succ t => exact ha (List.lt_trans (h1 _ (List.getElem_mem (by simpa using h))) hlt)
/-- slices.BinarySearch at names in order. -/
theorem bs_is (v : Value) (ns : List Nm) (x : ByteArray) (w : World) (h : Sl w v ns) (hs : ns.Pairwise (· < ·)) (hl : ns.length ≤ 1000) :
    Calls Tryz.prog 84 #[v, .string x] w fun e w' => (∃ k : Nat, e = .returned (.tuple #[.int .i64 (k : Int), .bool (decide (x.data.toList ∈ ns))]) ∧ k ≤ ns.length ∧ (∀ t (h : t < ns.length), t < k → ns[t] < x.data.toList) ∧ ∀ t (h : t < ns.length), k ≤ t → ¬ ns[t] < x.data.toList) ∧ ∃ q, w' = w.drewN q := by
  obtain ⟨k, k1, k2, k3⟩ := place_of x.data.toList ns hs
  by_cases hn : ns = []
  · subst hn
    obtain ⟨a, c, rfl, _⟩ := h
    refine (bs_nil a c x w).mono ?_
    rintro e w' ⟨rfl, rfl⟩
    exact ⟨⟨0, by simp, Nat.zero_le _, fun t h => absurd h (Nat.not_lt_zero _), fun t h => absurd h (Nat.not_lt_zero _)⟩, 0, rfl⟩
  · obtain ⟨a, c, rfl, _⟩ := id h
    obtain ⟨b, o, rfl, hat⟩ := sl_at h (k := 0) (x := ns[0]'(List.length_pos_iff.2 hn)) (List.getElem?_eq_getElem _)
    have hSx : ∀ t, ((⟨(ns.getD t x.data.toList).toArray⟩ : ByteArray)).toList = ns.getD t x.data.toList := fun t => by rw [Lib.toList_data]
    have hless : ∀ t, Op.bytesLess ((⟨(ns.getD t x.data.toList).toArray⟩ : ByteArray)).toList x.toList = decide (ns.getD t x.data.toList < x.data.toList) := fun t => by
      rw [hSx, bytesLess_eq, Lib.toList_data]
    have hbs : Lib.bsGo (fun t => Op.bytesLess ((⟨(ns.getD t x.data.toList).toArray⟩ : ByteArray)).toList x.toList) ns.length 0 ns.length = k := by
      refine Lib.bsGo_spec _ k (fun t ht => ?_) (fun t ht => ?_) _ _ _ (by omega) (Nat.zero_le _) k1
      · rw [hless]
        refine decide_eq_true ?_
        rw [List.getD_eq_getElem?_getD, List.getElem?_eq_getElem (by omega)]
        exact k2 t (by omega) ht
      · rw [hless]
        refine decide_eq_false ?_
        by_cases htl : t < ns.length
        · rw [List.getD_eq_getElem?_getD, List.getElem?_eq_getElem htl]
          exact k3 t htl ht
        · rw [List.getD_eq_getElem?_getD, List.getElem?_eq_none (by omega)]
          exact List.lt_irrefl _
    have hB := Tryz.slices_BinarySearch_string b o ns.length c (fun t => (⟨(ns.getD t x.data.toList).toArray⟩ : ByteArray)) x w (by omega) (fun j hj => by
      rw [hat j _ (List.getElem?_eq_getElem hj), List.getD_eq_getElem?_getD, List.getElem?_eq_getElem hj]
      rfl)
    rw [hbs] at hB
    have hfound : decide (k < ns.length ∧ (⟨(ns.getD k x.data.toList).toArray⟩ : ByteArray) = x) = decide (x.data.toList ∈ ns) := by
      refine decide_eq_decide.2 ⟨fun ⟨q1, q2⟩ => ?_, fun hm => ?_⟩
      · have e1 : ns.getD k x.data.toList = x.data.toList := by
          have := congrArg (fun y : ByteArray => y.data.toList) q2
          simpa using this
        rw [List.getD_eq_getElem?_getD, List.getElem?_eq_getElem q1] at e1
        have e1 : ns[k] = x.data.toList := e1
        rw [← e1]
        exact List.getElem_mem q1
      · obtain ⟨t, ht, e1⟩ := List.getElem_of_mem hm
        have htk : t = k := by
          rcases Nat.lt_trichotomy t k with h5 | h5 | h5
          · exact absurd (k2 t ht h5) (by rw [e1]; exact List.lt_irrefl _)
          · exact h5
          · have h6 := List.pairwise_iff_getElem.1 hs k t (by omega) ht h5
            rw [e1] at h6
            exact absurd h6 (k3 k (by omega) (Nat.le_refl _))
        subst htk
        refine ⟨ht, ?_⟩
        rw [List.getD_eq_getElem?_getD, List.getElem?_eq_getElem ht]
        show (⟨ns[t].toArray⟩ : ByteArray) = x
        rw [e1]
    rw [hfound] at hB
    refine hB.mono ?_
    rintro e w' ⟨rfl, q, rfl⟩
    exact ⟨⟨k, rfl, k1, k2, k3⟩, q, rfl⟩
set_option maxHeartbeats 2000000 in
theorem has1_is (x : ByteArray) (p : Nat) (v : Value) (ns : List Nm) (w : World) (hp : w.cell? ⟨p, 0, none⟩ = some v) (h : Sl w v ns) (hs : ns.Pairwise (· < ·)) (hl : ns.length ≤ 1000) :
    Calls Tryz.prog 83 #[.string x, .pointer (some ⟨p, 0, none⟩)] w fun e w' => e = .returned (.bool (decide (x.data.toList ∈ ns))) ∧ ∃ q, w' = w.drewN q := by
  have cB : Calls Tryz.prog 84 #[v, .string x] w fun e w' => (∃ k : Nat, e = .returned (.tuple #[.int .i64 (k : Int), .bool (decide (x.data.toList ∈ ns))])) ∧ ∃ q, w' = w.drewN q := (bs_is v ns x w h hs hl).mono fun _ _ ⟨⟨k, e1, _⟩, e2⟩ => ⟨⟨k, e1⟩, e2⟩
  obtain ⟨A, hA⟩ : ∃ A, decide (x.data.toList ∈ ns) = A := ⟨_, rfl⟩
  rw [hA] at cB ⊢
  obtain ⟨a, c, rfl, _⟩ := id h
  obtain ⟨M, hM⟩ : ∃ m, ns.length = m := ⟨_, rfl⟩
  rw [hM] at hp cB
  clear hA h hs hM
  go_enter Tryz.func83, Tryz.ntmps83
  go_wp2_with fail
  refine cB.mono ?_
  rintro e w1 ⟨⟨k, rfl⟩, q, hq⟩
  have HQ : Hid (∃ q, w1 = w.drewN q) := ⟨q, hq⟩
  clear cB hq
  go_wp2_with fail
  go_ret
  exact ⟨rfl, HQ.out⟩
end Go.Proofs.YtdmplfflmdanlaaGreatDoor
namespace Go.Proofs
open Go.Shelf
def Tryz.lays148_ren : Go.Shelf.Ren := ⟨fun | 148 => 86 | 222 => 94 | 223 => 144 | 269 => 195 | n => n, fun | 9 => 9 | 3 => 3 | 4 => 4 | 5 => 5 | 146 => 221 | 51 => 220 | 46 => 193 | n => n, fun | n => n⟩
theorem Tryz.lays148 : Go.Proofs.Lays.n148 Tryz.prog Tryz.lays148_ren := {
  mixed := by kernel_rfl
  f148 := Tryz.func86.trans (congrArg some (by kernel_rfl))
  f222 := Tryz.func94.trans (congrArg some (by kernel_rfl))
  f223 := Tryz.func144.trans (congrArg some (by kernel_rfl))
  f269 := Tryz.func195.trans (congrArg some (by kernel_rfl))
  t3 := Tryz.underlying3
  a3 := Tryz.isAgg3
  z3 := Tryz.sizeOf3
  v3 := Tryz.zeroValue3
  t4 := Tryz.underlying4
  a4 := Tryz.isAgg4
  z4 := Tryz.sizeOf4
  v4 := Tryz.zeroValue4
  t5 := Tryz.underlying5
  a5 := Tryz.isAgg5
  z5 := Tryz.sizeOf5
  v5 := Tryz.zeroValue5
  t9 := Tryz.underlying9
  a9 := Tryz.isAgg9
  z9 := Tryz.sizeOf9
  v9 := Tryz.zeroValue9
  t46 := Tryz.underlying193
  a46 := Tryz.isAgg193
  z46 := Tryz.sizeOf193
  v46 := Tryz.zeroValue193
  t51 := Tryz.underlying220
  a51 := Tryz.isAgg220
  z51 := Tryz.sizeOf220
  v51 := Tryz.zeroValue220
  t146 := Tryz.underlying221
  a146 := Tryz.isAgg221
  z146 := Tryz.sizeOf221
  v146 := Tryz.zeroValue221 }
open Go.RowKit Go.Lib in
theorem Tryz.strings_LastIndex_one (s sub : ByteArray) (h1 : sub.size = 1) (hs : s.size < 4611686018427387904) (w : World) :
    Calls Tryz.prog 86 #[.string s, .string sub] w fun e w' => e = .returned (.int .i64 (Lib.lastIndexByte s ((sub[0]'(by omega)).toNat : Int))) ∧ w' = w := Any.strings_LastIndex_one Tryz.lays148 s sub h1 hs w
end Go.Proofs
