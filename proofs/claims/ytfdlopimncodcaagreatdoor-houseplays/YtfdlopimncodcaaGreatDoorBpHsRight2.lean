/-
  Names that are in order, each as boxes are called: rightNames says so, and more.
-/
import Derived.Test.YtfdlopimncodcaaGreatDoorBpHwSet
namespace Go.Proofs.YtfdlopimncodcaaGreatDoor
open Go.RowKit Go.Proofs.Aid Go.Proofs.Bx
theorem sl_at {w : World} {a : Option Addr} {n c : Nat} {l : List Nm} (h : Sl w (.slice a n c) l) {k : Nat} {x : Nm} (hk : l[k]? = some x) : ∃ b o, a = some ⟨b, o, none⟩ ∧ ∀ (j : Nat) t, l[j]? = some t → w.cell? ⟨b, o + j, none⟩ = some (.string ⟨t.toArray⟩) := by
  obtain ⟨a', c', h1, _, h2⟩ := h
  injection h1 with h1 _ _
  subst h1
  rcases h2 with h2 | ⟨b, o, h3, h4⟩
  · rw [h2] at hk
    simp at hk
  · exact ⟨b, o, h3, h4⟩
theorem ba_size (n : Nm) : (⟨n.toArray⟩ : ByteArray).size = n.length := by show n.toArray.size = _; rw [List.size_toArray]
set_option maxHeartbeats 4000000 in
set_option maxRecDepth 100000 in
theorem rnames_true (v : Value) (ns : List Nm) (w : World) (hE : NEnv w) (h : Sl w v ns) (hl : ns.length ≤ 1000) (hn : ∀ n ∈ ns, nameB n = some n) (hs : ns.Pairwise (· < ·)) :
    Calls Tryz.prog 53 #[v] w fun e w' => e = .returned (.bool true) ∧ Below w.heap.size w w' := by
  obtain ⟨a, c, rfl, _⟩ := id h
  obtain ⟨M, hM⟩ : ∃ m, ns.length = m := ⟨_, rfl⟩
  have HX : Hid (Sl w (.slice a M c) ns ∧ ns.length = M ∧ (∀ n ∈ ns, nameB n = some n) ∧ ns.Pairwise (· < ·) ∧ NEnv w) := ⟨by rw [← hM]; exact h, hM, hn, hs, hE⟩
  rw [hM] at hl ⊢
  clear h hM hn hs hE
  go_enter Tryz.func53, Tryz.ntmps53
  go_wp2_with fail
  go_loopw [9] (fun iv wr => ∃ k : Nat, iv = .int .i64 (k : Int) ∧ k ≤ M ∧ Hid (Below w.heap.size w wr)) (fun iv _ => M - (intOf iv).toNat)
  case atStart => exact ⟨0, rfl, Nat.zero_le _, Below.refl _ _⟩
  case round =>
    obtain ⟨k, rfl, hk, HB⟩ := hrel
    by_cases hlt : k < M
    · have d1 : decide ((k : Int) < (M : Int)) = true := decide_eq_true (by omega)
      have i1 : (0 : Int) ≤ (k : Int) := by omega
      have i2 : (k : Int) < (M : Int) := by omega
      obtain ⟨n, hnk⟩ : ∃ n, ns[k]? = some n := ⟨_, List.getElem?_eq_getElem (by have := HX.out.2.1; omega)⟩
      obtain ⟨b, o, rfl, hat⟩ := sl_at (HX.out.1.below HB.out (Nat.le_refl _)) hnk
      have x0 := hat k n hnk
      have hnm := HX.out.2.2.1 n (List.mem_of_getElem? hnk)
      have hnl := nameB_len hnm
      have cN := name_is ⟨n.toArray⟩ wr (HX.out.2.2.2.2.below HB.out) (by rw [ba_size]; omega)
      have HAT : Hid (∀ W, Below wr.heap.size wr W → ∀ (j : Nat) t, ns[j]? = some t → W.cell? ⟨b, o + j, none⟩ = some (.string ⟨t.toArray⟩)) := fun W hW j t hj => (hW.cell (p := ⟨b, o + j, none⟩) (World.block_lt_of_cell? _ _ (hat j t hj))).trans (hat j t hj)
      have HNM : Hid (ns[k]? = some n ∧ nameB n = some n) := ⟨hnk, hnm⟩
      clear hat hnk hnm
      go_wp2_with fail
      refine cN.mono ?_
      rintro e w1 ⟨hb1, ⟨r, hr, _, rfl⟩ | ⟨hr, rfl⟩⟩
      · have hrn : r = ⟨n.toArray⟩ := by
          have hr : nameB n = some r.data.toList := hr
          rw [HNM.out.2] at hr
          exact ba_list (Option.some.inj hr).symm
        subst hrn
        have HB1 : Hid (Below w.heap.size w w1) := HB.out.trans (hb1.mono HB.out.size)
        have y0 : w1.cell? ⟨b, o + k, none⟩ = some (.string ⟨n.toArray⟩) := HAT.out w1 hb1 k n HNM.out.1
        by_cases h0 : k = 0
        · subst h0
          clear cN hr hb1 HAT
          go_wp2_with fail
          go_roundw
          case rel => exact ⟨1, by go_num, by omega, HB1⟩
          case measure => simp [intOf]; omega
        · obtain ⟨j, hj⟩ : ∃ j, k = j + 1 := ⟨k - 1, by omega⟩
          have HJ : Hid (k = j + 1) := hj
          obtain ⟨m, hmj⟩ : ∃ m, ns[j]? = some m := ⟨_, List.getElem?_eq_getElem (by have := HX.out.2.1; omega)⟩
          have z0 : w1.cell? ⟨b, o + (k - 1), none⟩ = some (.string ⟨m.toArray⟩) := by rw [show k - 1 = j by omega]; exact HAT.out w1 hb1 j m hmj
          have hless : Op.bytesLess (⟨m.toArray⟩ : ByteArray).toList (⟨n.toArray⟩ : ByteArray).toList = true := by
            rw [bytesLess_eq]
            refine decide_eq_true ?_
            rw [Lib.toList_data, Lib.toList_data]
            obtain ⟨g1, e1⟩ := List.getElem?_eq_some_iff.1 hmj
            obtain ⟨g2, e2⟩ := List.getElem?_eq_some_iff.1 HNM.out.1
            have := List.pairwise_iff_getElem.1 HX.out.2.2.2.1 j k g1 g2 (by omega)
            rw [e1, e2] at this
            exact this
          have hless2 : Op.bytesLess m n = true := by
            have h5 := hless
            rw [Lib.toList_data, Lib.toList_data] at h5
            exact h5
          have d2 : decide ((0 : Int) < (k : Int)) = true := decide_eq_true (by omega)
          have i5 : (0 : Int) ≤ (k : Int) - 1 := by omega
          have i6 : (k : Int) - 1 < (M : Int) := by omega
          have i3 : (0 : Int) ≤ (j : Int) := by omega
          have i4 : (j : Int) < (M : Int) := by omega
          clear cN hr hb1 HAT hmj hj
          go_wp2_with fail
          go_roundw
          case rel => exact ⟨k + 1, by go_num, by omega, HB1⟩
          case measure => simp [intOf]; omega
      · have hr : nameB n = none := hr
        rw [HNM.out.2] at hr
        cases hr
    · have d1 : decide ((k : Int) < (M : Int)) = false := decide_eq_false (by omega)
      go_wp2_with fail
      go_ret
      exact ⟨rfl, HB.out⟩
end Go.Proofs.YtfdlopimncodcaaGreatDoor
namespace Go.Proofs.YtfdlopimncodcaaGreatDoor
open Go.RowKit Go.Proofs.Aid Go.Proofs.Bx
theorem keep_putAll {q : Nm × Nat} : ∀ (ps l : Bxs), SortedB l → q ∈ l → q.1 ∉ ps.map Prod.fst → q ∈ putAll l ps
  | [], _, _, h, _ => h
  | p :: ps, l, hs, h, hn => by
    refine keep_putAll ps (putB p.1 p.2 l) (sorted_putB hs) ((mem_putB hs (m := q.1) (c := q.2)).2 (Or.inr ⟨fun e => hn ?_, h⟩)) fun e => hn ?_
    · rw [e]; exact List.mem_cons_self
    · exact List.mem_cons_of_mem _ e
theorem last_putAll {T : Nm} {ns : List Nm} {ps l : Bxs} (hs : SortedB l) (h : ps.map Prod.fst = ns ++ [T]) : ∃ (tb j : Nat), (T, tb) ∈ putAll l ps ∧ ps[j]? = some (T, tb) := by
  have hne : ps ≠ [] := fun e => by rw [e] at h; simp at h
  have e := List.dropLast_concat_getLast hne
  obtain ⟨q, hq⟩ : ∃ q, ps.getLast hne = q := ⟨_, rfl⟩
  rw [hq] at e
  have hT : q.1 = T := by
    rw [← e, List.map_append] at h
    have := (List.append_inj' h (by simp)).2
    simpa using this
  obtain ⟨q1, q2⟩ := q
  obtain rfl : q1 = T := hT
  refine ⟨q2, ps.dropLast.length, ?_, ?_⟩
  · rw [← e, putAll_snoc]
    exact (mem_putB (putAll_sorted ps.dropLast l hs)).2 (Or.inl ⟨rfl, rfl⟩)
  · have h3 : (ps.dropLast ++ [(q1, q2)])[ps.dropLast.length]? = some (q1, q2) := by
      rw [List.getElem?_append_right (Nat.le_refl _), Nat.sub_self]
      rfl
    rw [e] at h3
    exact h3
theorem lack_free {l : Bxs} {n m : Nm} (h : m ∈ lackB l n) : hasB l m = false := by
  unfold lackB lackTo at h
  obtain ⟨i, hi, rfl⟩ := List.mem_map.1 h
  have := (List.mem_filter.1 hi).2
  simp only [Bool.and_eq_true, Bool.not_eq_true'] at this
  exact this.2
end Go.Proofs.YtfdlopimncodcaaGreatDoor
namespace Go.Proofs.YtfdlopimncodcaaGreatDoor
open Go.RowKit Go.Proofs.Aid Go.Proofs.Bx
theorem del_len {l : Bxs} {x : Nm} (h : hasB l x = true) : (delB l x).length + 1 ≤ l.length := by
  obtain ⟨b, hb⟩ := hasB_true.1 h
  unfold delB
  have := List.length_filter_lt_length_iff_exists (p := fun p : Nm × Nat => decide (p.1 ≠ x)) (l := l) |>.2 ⟨(x, b), hb, by simp⟩
  omega
theorem look_has {l : Bxs} {x : Nm} {b : Nat} (h : lookB l x = some b) : (x, b) ∈ l := by
  unfold lookB at h
  obtain ⟨q, hq, rfl⟩ := Option.map_eq_some_iff.1 h
  have hm := List.mem_of_find?_eq_some hq
  have hx : (q.1 == x) = true := List.find?_some (p := fun p : Nm × Nat => p.1 == x) hq
  obtain ⟨q1, q2⟩ := q
  obtain rfl : q1 = x := by simpa using hx
  exact hm
theorem mvStep_le {t n : Nm} {l : Bxs} {x : Nm} (hs : SortedB l) : (mvStep t n l x).length ≤ l.length := by
  unfold mvStep
  split
  · rename_i b hb
    have h1 := putB_len (calledB t n x) b l
    have h2 := del_len (has_put hs (c := calledB t n x) (b := b) (hasB_true.2 ⟨b, look_has hb⟩))
    omega
  · exact Nat.le_refl _
theorem mvAll_le {t n : Nm} : ∀ (xs : List Nm) (l : Bxs), SortedB l → (mvAll t n xs l).length ≤ l.length
  | [], _, _ => Nat.le_refl _
  | x :: xs, l, hs => Nat.le_trans (mvAll_le xs (mvStep t n l x) (mvStep_sorted hs)) (mvStep_le hs)
theorem mem_mvStep {t n : Nm} {l : Bxs} {x : Nm} {q : Nm × Nat} (hs : SortedB l) (h : q ∈ mvStep t n l x) : ∃ p ∈ l, q.2 = p.2 ∧ (q.1 = p.1 ∨ q.1 = calledB t n x) := by
  unfold mvStep at h
  split at h
  · rename_i b hb
    obtain ⟨q1, q2⟩ := q
    rcases (mem_putB hs).1 (mem_delB.1 h).2 with ⟨e1, e2⟩ | ⟨_, hm⟩
    · exact ⟨(x, b), look_has hb, e2, Or.inr e1⟩
    · exact ⟨(q1, q2), hm, rfl, Or.inl rfl⟩
  · exact ⟨q, h, rfl, Or.inl rfl⟩
theorem mem_mvAll {t n : Nm} {q : Nm × Nat} : ∀ (xs : List Nm) (l : Bxs), SortedB l → q ∈ mvAll t n xs l → ∃ p ∈ l, q.2 = p.2 ∧ (q.1 = p.1 ∨ ∃ x ∈ xs, q.1 = calledB t n x)
  | [], _, _, h => ⟨q, h, rfl, Or.inl rfl⟩
  | x :: xs, l, hs, h => by
    obtain ⟨p, hp, e1, e2⟩ := mem_mvAll xs (mvStep t n l x) (mvStep_sorted hs) h
    obtain ⟨p', hp', f1, f2⟩ := mem_mvStep hs hp
    refine ⟨p', hp', e1.trans f1, ?_⟩
    rcases e2 with e2 | ⟨y, hy, e2⟩
    · rcases f2 with f2 | f2
      · exact Or.inl (e2.trans f2)
      · exact Or.inr ⟨x, List.mem_cons_self, e2.trans f2⟩
    · exact Or.inr ⟨y, List.mem_cons_of_mem _ hy, e2⟩
end Go.Proofs.YtfdlopimncodcaaGreatDoor
namespace Go.Proofs.YtfdlopimncodcaaGreatDoor
open Go.RowKit Go.Proofs.Aid
def endsF (s : List UInt8) (E : List Bool) (c : UInt8) : List Bool :=
  if c = 42 then strAt (fun _ => true) E (E.length - 1) else if c = 37 then strAt (fun k => decide (s.getD k 0 ≠ 47)) E (E.length - 1) else stpL (fun k => s.getD k 0 == c) E
def endsOf (s p : List UInt8) : List Bool := p.foldl (endsF s) (true :: List.replicate s.length false)
def matchB (p s : List UInt8) : Bool := (endsOf s p).getD s.length false
theorem endsF_len (s : List UInt8) (E : List Bool) (c : UInt8) : (endsF s E c).length = E.length := by
  unfold endsF
  split
  · exact strAt_len _ _ _
  · split
    · exact strAt_len _ _ _
    · unfold stpL; rw [List.length_set, stpAt_len]
theorem fold_len (s : List UInt8) : ∀ (p : List UInt8) (E : List Bool), (p.foldl (endsF s) E).length = E.length
  | [], _ => rfl
  | c :: p, E => by rw [List.foldl_cons, fold_len s p, endsF_len]
theorem endsOf_len (s p : List UInt8) : (endsOf s p).length = s.length + 1 := by unfold endsOf; rw [fold_len]; simp
theorem endsOf_next (s p : List UInt8) {i : Nat} (hi : i < p.length) : endsOf s (p.take (i + 1)) = endsF s (endsOf s (p.take i)) (p.getD i 0) := by
  unfold endsOf
  rw [List.take_succ_eq_append_getElem hi, List.foldl_append, List.getD_eq_getElem?_getD, List.getElem?_eq_getElem hi]
  rfl
theorem made_bools (n : Nat) : madeCells #[.bool false] n = ((List.replicate n false).map Value.bool).toArray := by
  apply Array.ext
  · rw [size_madeCells]; simp
  · intro j h1 h2
    rw [size_madeCells] at h1
    simp [madeCells, Nat.mod_one]
set_option maxHeartbeats 8000000 in
set_option maxRecDepth 100000 in
theorem match_is (p s : ByteArray) (w : World) (hs : s.size ≤ 10000) (hp : p.size ≤ 10000) :
    Calls Tryz.prog 22 #[.string p, .string s] w fun e w' => e = .returned (.bool (matchB p.data.toList s.data.toList)) ∧ Below w.heap.size w w' := by
  obtain ⟨R, hR⟩ : ∃ R, matchB p.data.toList s.data.toList = R := ⟨_, rfl⟩
  rw [hR]
  have HR : Hid (matchB p.data.toList s.data.toList = R) := hR
  have hsl : s.data.toList.length = s.size := by rw [Array.length_toList]; rfl
  have hpl : p.data.toList.length = p.size := by rw [Array.length_toList]; rfl
  obtain ⟨AR, hAR⟩ : ∃ A, ((List.replicate (s.size + 1) false).map Value.bool).toArray = A := ⟨_, rfl⟩
  have hmk : ∀ W : World, (Instr.makeSlice 119 (.int .i64 ((s.size : Int) + 1)) (.int .i64 ((s.size : Int) + 1))).run Tryz.prog W = .ok (.slice (some ⟨W.heap.size, 0, none⟩) (s.size + 1) (s.size + 1)) (W.alloc (.cells AR 4)) := fun W => by
    obtain ⟨i0, hi, hz⟩ := Option.map_eq_some_iff.1 Tryz.infoBool
    simp only [Prod.mk.injEq] at hz
    obtain ⟨z0, z1, z2⟩ := hz
    have := run_make (P := Tryz.prog) W 119 4 i0 (.bool false) Tryz.underlying119 hi z0 .i64 .i64 (s.size + 1 : Nat) (s.size + 1 : Nat) (by omega) (by omega) (by rw [z2]; omega) (by omega)
    rw [z1, Nat.mul_one, Int.toNat_natCast] at this
    rw [← hAR, ← made_bools]
    exact this
  have bA : Below w.heap.size w (((w.alloc (.cells #[.string p] 9)).alloc (.cells #[.string s] 9)).alloc (.cells AR 4)) := (((Below.refl _ _).alloc (Nat.le_refl _) _).alloc (by simp) _).alloc (by simp; omega) _
  have e1 := heap_alloc_new w (.cells #[.string p] 9)
  have e2 := heap_alloc_new (w.alloc (.cells #[.string p] 9)) (.cells #[.string s] 9)
  have e3 := heap_alloc_new ((w.alloc (.cells #[.string p] 9)).alloc (.cells #[.string s] 9)) (.cells AR 4)
  have e21 : ((w.alloc (.cells #[.string p] 9)).alloc (.cells #[.string s] 9)).heap[w.heap.size]? = some (.cells #[.string p] 9 (0, 0)) := (((Below.refl _ _).alloc (Nat.le_refl _) _).block _ (by simp)).trans e1
  have bC : Below (w.heap.size + 2) ((w.alloc (.cells #[.string p] 9)).alloc (.cells #[.string s] 9)) (((w.alloc (.cells #[.string p] 9)).alloc (.cells #[.string s] 9)).alloc (.cells AR 4)) := (Below.refl _ _).alloc (by simp) _
  rw [World.size_alloc] at e2
  rw [World.size_alloc, World.size_alloc] at e3
  have e31 := (bC.block w.heap.size (by omega)).trans e21
  have e32 := (bC.block (w.heap.size + 1) (by omega)).trans e2
  have zA : (((w.alloc (.cells #[.string p] 9)).alloc (.cells #[.string s] 9)).alloc (.cells AR 4)).heap.size = w.heap.size + 3 := by simp
  have n1 : ((w.alloc (.cells #[.string p] 9)).alloc (.cells #[.string s] 9)).cell? ⟨w.heap.size + 1, 0, none⟩ = some (.string s) := rd_cell e2 rfl
  have m1 := hmk ((w.alloc (.cells #[.string p] 9)).alloc (.cells #[.string s] 9))
  rw [World.size_alloc, World.size_alloc] at m1
  have i0 : (0 : Int) < ((s.size : Int) + 1) := by omega
  have HAR : Hid (((List.replicate (s.size + 1) false).map Value.bool).toArray = AR) := hAR
  clear hmk bC e1 e2 e21 hAR
  go_enter Tryz.func22, Tryz.ntmps22
  go_upto_region 2 with fail
  obtain ⟨w3, hw3⟩ : ∃ W, ((w.alloc (.cells #[.string p] 9)).alloc (.cells #[.string s] 9)).alloc (.cells AR 4) = W := ⟨_, rfl⟩
  rw [hw3] at bA e3 e31 e32 zA ⊢
  obtain ⟨PB, hPB⟩ : ∃ B, w.heap.size = B := ⟨_, rfl⟩
  rw [hPB] at e3 e31 e32 zA ⊢
  obtain ⟨NB, hNB⟩ : ∃ B, PB + 1 = B := ⟨_, rfl⟩
  rw [hNB] at e3 e32 ⊢
  obtain ⟨EB, hEB⟩ : ∃ B, NB + 1 = B := ⟨_, rfl⟩
  rw [hEB] at e3 ⊢
  have hbl0 : BlAt w3 EB (List.replicate (s.size + 1) false) := by unfold BlAt; rw [HAR.out]; exact e3
  obtain ⟨c0, f0⟩ := hbl0.at (k := 0) (by simp)
  have hbl1 := hbl0.set 0 true
  have hset : (List.replicate (s.size + 1) false).set 0 true = endsOf s.data.toList [] := by
    unfold endsOf
    rw [hsl, List.replicate_succ]
    rfl
  rw [hset] at hbl1
  obtain ⟨w4, hw4⟩ : ∃ W, w3.setCell ⟨EB, 0, none⟩ (.bool true) = W := ⟨_, rfl⟩
  have z4 : w4.heap.size = PB + 3 := by rw [← hw4]; simpa using zA
  have hot : ∀ q, q ≠ EB → w4.heap[q]? = w3.heap[q]? := fun q hq => by rw [← hw4]; exact Below.heap_setCell _ _ _ _ hq
  have p4 := (hot PB (by omega)).trans e31
  have n4 := (hot NB (by omega)).trans e32
  have b4 : Below w.heap.size w w4 := by rw [← hw4]; exact bA.setCell (p := ⟨EB, 0, none⟩) (by show w.heap.size ≤ EB; omega) _
  have HW : Hid (Below w.heap.size w w4 ∧ w.heap.size = PB ∧ PB + 1 = NB ∧ NB + 1 = EB ∧ w4.heap.size = PB + 3) := ⟨b4, hPB, hNB, hEB, z4⟩
  have HPN : Hid (∀ W, But w4.heap.size EB w4 W → W.cell? ⟨PB, 0, none⟩ = some (.string p) ∧ W.cell? ⟨NB, 0, none⟩ = some (.string s)) := fun W hW =>
    ⟨rd_cell ((hW.block PB (by omega) (by omega)).trans p4) rfl, rd_cell ((hW.block NB (by omega) (by omega)).trans n4) rfl⟩
  have HB1 : Hid (BlAt w4 EB (endsOf s.data.toList [])) := by show BlAt w4 EB _; rw [← hw4]; exact hbl1
  have HSP : Hid (s.data.toList.length = s.size ∧ p.data.toList.length = p.size) := ⟨hsl, hpl⟩
  obtain ⟨x4, y4⟩ := HPN.out w4 (to_but (Below.refl _ _))
  have eg1 : ∀ args w, (callFunc 71 args).run Tryz.prog w = .ok (.enter 71 args) w := enters_of Tryz.func71 (by kernel_rfl) rfl
  have eg2 : ∀ args w, (callFunc 72 args).run Tryz.prog w = .ok (.enter 72 args) w := enters_of Tryz.func72 (by kernel_rfl) rfl
  have eg3 : ∀ args w, (callFunc 74 args).run Tryz.prog w = .ok (.enter 74 args) w := enters_of Tryz.func74 (by kernel_rfl) rfl
  have HE : Hid ((∀ args w, (callFunc 71 args).run Tryz.prog w = .ok (.enter 71 args) w) ∧ (∀ args w, (callFunc 72 args).run Tryz.prog w = .ok (.enter 72 args) w) ∧ ∀ args w, (callFunc 74 args).run Tryz.prog w = .ok (.enter 74 args) w) := ⟨eg1, eg2, eg3⟩
  clear bA e3 e31 e32 zA hbl0 hbl1 hset hot p4 n4 b4 n1 m1 hw3 hPB hNB hEB z4 hsl hpl hR eg1 eg2 eg3
  go_upto_region 3 with fail
  clear hw4 c0 f0
  go_wp2_with fail
  go_loopw [15] (fun i wr => ∃ k : Nat, i = .int .i64 (k : Int) ∧ k ≤ p.size ∧ Hid (BlAt wr EB (endsOf s.data.toList (p.data.toList.take k)) ∧ But w4.heap.size EB w4 wr)) (fun i _ => p.size - (intOf i).toNat)
  case atStart => exact ⟨0, rfl, Nat.zero_le _, HB1.out, to_but (Below.refl _ _)⟩
  case round =>
    clear x4 y4 HB1
    obtain ⟨i, rfl, hi, HI⟩ := hrel
    obtain ⟨x4, y4⟩ := HPN.out wr HI.out.2
    by_cases hlt : i < p.size
    · have i1 : (0 : Int) ≤ (i : Int) := by omega
      have i2 : (i : Int) < (p.size : Int) := by omega
      have bI : Below wr.heap.size wr (wr.alloc (.cells #[.int .i64 (i : Int)] 3)) := (Below.refl _ _).alloc (Nat.le_refl _) _
      have eI := heap_alloc_new wr (.cells #[.int .i64 (i : Int)] 3)
      obtain ⟨c, hc⟩ : ∃ c, p[i]'hlt = c := ⟨_, rfl⟩
      have hcd : p.data.toList.getD i 0 = c := by rw [byte_at hlt, hc]
      have HN : Hid (endsOf s.data.toList (p.data.toList.take (i + 1)) = endsF s.data.toList (endsOf s.data.toList (p.data.toList.take i)) c) := by
        unfold Hid
        rw [endsOf_next _ _ (by rw [HSP.out.2]; exact hlt), hcd]
      obtain ⟨E, hE⟩ : ∃ E, endsOf s.data.toList (p.data.toList.take i) = E := ⟨_, rfl⟩
      have hEl : E.length = s.size + 1 := by rw [← hE, endsOf_len, HSP.out.1]
      have HWS := HI.out.2.size
      go_upto_region 6 with fail
      obtain ⟨w5, hw5⟩ : ∃ W, wr.alloc (.cells #[.int .i64 (i : Int)] 3) = W := ⟨_, rfl⟩
      rw [hw5] at bI eI ⊢
      obtain ⟨IB, hIB⟩ : ∃ B, wr.heap.size = B := ⟨_, rfl⟩
      have hIB5 : w5.heap.size = IB + 1 := by rw [← hw5, World.size_alloc, hIB]
      rw [hIB] at eI ⊢
      have hbl5 : BlAt w5 EB E := by
        rw [← hE]
        exact (bI.block EB HI.out.1.lt).trans HI.out.1
      have hb45 : But w4.heap.size EB w4 w5 := HI.out.2.trans (to_but (bI.mono HWS))
      have HK : Hid (∀ W, But w5.heap.size EB w5 W → W.cell? ⟨PB, 0, none⟩ = some (.string p) ∧ W.cell? ⟨NB, 0, none⟩ = some (.string s) ∧ W.cell? ⟨IB, 0, none⟩ = some (.int .i64 (i : Int)) ∧ But w4.heap.size EB w4 W) := fun W hW => by
        have hh := HW.out
        have hb := hb45.trans (hW.less (by have := hb45.size; omega))
        exact ⟨(HPN.out W hb).1, (HPN.out W hb).2, rd_cell ((hW.block IB (by omega) (by omega)).trans eI) rfl, hb⟩
      obtain ⟨k1, k2, k3, _⟩ := HK.out w5 (to_but (Below.refl _ _))
      have hs0 : 0 < E.length := by omega
      have hs1 : E.length ≤ 100000 := by omega
      have cS1 := stretch_is EB E 71 [] (fun _ => true) w5 hbl5 hs0 hs1 HE.out.1 (fun k _ W _ => mt1_is (k : Int) W)
      have cS2 := stretch_is EB E 72 [.pointer (some ⟨NB, 0, none⟩)] (fun k => decide (s.data.toList.getD k 0 ≠ 47)) w5 hbl5 hs0 hs1 HE.out.2.1 (fun k hk W hW => mt2_is k NB s W (HK.out W hW).2.1 (by omega))
      have cS3 := step_is EB E 74 [.pointer (some ⟨NB, 0, none⟩), .pointer (some ⟨PB, 0, none⟩), .pointer (some ⟨IB, 0, none⟩)] (fun k => s.data.toList.getD k 0 == c) w5 hbl5 hs0 hs1 HE.out.2.2 (fun k hk W hW => by
        have := mt3_is k i NB PB IB s p W (HK.out W hW).2.1 (HK.out W hW).1 (HK.out W hW).2.2.1 (by omega) hlt
        rw [hcd] at this
        exact this)
      rw [hEl] at cS1 cS2 cS3
      have HG : Hid (∀ W, BlAt W EB (endsF s.data.toList E c) → But w5.heap.size EB w5 W → BlAt W EB (endsOf s.data.toList (p.data.toList.take (i + 1))) ∧ But w4.heap.size EB w4 W) := fun W h1 h2 => ⟨by rw [HN.out, hE]; exact h1, (HK.out W h2).2.2.2⟩
      have hEF : Hid (E.length = s.size + 1) := hEl
      clear hcd hE hEl hs0 hs1 bI eI hw5 hbl5 hb45 HI x4 y4 HN HWS hIB hIB5
      by_cases h42 : c = 42
      · have d42 : ((c.toNat : Int) == 42) = true := by rw [h42]; rfl
        clear cS2 cS3
        go_wp2_with fail
        refine cS1.mono ?_
        clear cS1
        rintro e w6 ⟨rfl, hb6, hk6⟩
        have HGG : Hid _ := HG.out w6 (by unfold endsF; rw [if_pos h42, hEF.out]; exact hb6) hk6
        clear hb6 hk6
        go_wp2_with fail
        go_roundw
        case rel => exact ⟨i + 1, by go_num, by omega, HGG⟩
        case measure => simp [intOf]; omega
      have d42 : ((c.toNat : Int) == 42) = false := by
        rw [show (42 : Int) = ((42 : UInt8).toNat : Int) from rfl, byte_eq, decide_eq_false h42]
      by_cases h37 : c = 37
      · have d37 : ((c.toNat : Int) == 37) = true := by rw [h37]; rfl
        clear cS1 cS3
        go_wp2_with fail
        refine cS2.mono ?_
        clear cS2
        rintro e w6 ⟨rfl, hb6, hk6⟩
        have HGG : Hid _ := HG.out w6 (by unfold endsF; rw [if_neg h42, if_pos h37, hEF.out]; exact hb6) hk6
        clear hb6 hk6
        go_wp2_with fail
        go_roundw
        case rel => exact ⟨i + 1, by go_num, by omega, HGG⟩
        case measure => simp [intOf]; omega
      have d37 : ((c.toNat : Int) == 37) = false := by
        rw [show (37 : Int) = ((37 : UInt8).toNat : Int) from rfl, byte_eq, decide_eq_false h37]
      clear cS1 cS2
      go_wp2_with fail
      refine cS3.mono ?_
      clear cS3
      rintro e w6 ⟨rfl, hb6, hk6⟩
      have HGG : Hid _ := HG.out w6 (by unfold endsF; rw [if_neg h42, if_neg h37]; exact hb6) hk6
      clear hb6 hk6
      go_wp2_with fail
      go_roundw
      case rel => exact ⟨i + 1, by go_num, by omega, HGG⟩
      case measure => simp [intOf]; omega
    · obtain rfl : i = p.size := by omega
      have hI := HI.out
      rw [List.take_of_length_le (by rw [HSP.out.2]; exact Nat.le_refl _)] at hI
      obtain ⟨q0, _⟩ := hI.1.at (k := s.size) (by rw [endsOf_len, HSP.out.1]; omega)
      have hRR : (endsOf s.data.toList p.data.toList).getD s.size false = R := by rw [← HR.out]; unfold matchB; rw [HSP.out.1]
      rw [hRR] at q0
      have i2 : (s.size : Int) < (s.size : Int) + 1 := by omega
      have i3 : (0 : Int) ≤ (s.size : Int) := by omega
      have HB : Hid (Below w.heap.size w wr) := by
        have hh := HW.out
        exact hh.1.trans (hI.2.below (by omega) (by omega))
      clear hI hRR HI
      go_wp2_with fail
      go_ret
      exact ⟨rfl, HB.out⟩
end Go.Proofs.YtfdlopimncodcaaGreatDoor
