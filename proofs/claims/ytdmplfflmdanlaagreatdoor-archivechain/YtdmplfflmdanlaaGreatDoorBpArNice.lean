/-
  Numbers that are small are read as they were written, and more.
-/
import Derived.Test.YtdmplfflmdanlaaGreatDoorMAwPart
namespace Go.Proofs.YtdmplfflmdanlaaGreatDoor
open Go.RowKit Go.Proofs.Aid Go.Proofs.Bx Go.Proofs.Sq

theorem ar_digit {c : UInt8} {d : Nat} (h : digit? c = some d) : 48 ≤ c.toNat ∧ c.toNat ≤ 57 ∧ d = c.toNat - 48 := by
  unfold digit? at h
  split at h
  · next h1 => cases h; exact ⟨h1.1, h1.2, rfl⟩
  · cases h
theorem ar_cons {acc : Nat} {c : UInt8} {r : List UInt8} {n : Nat} (h : digitsFrom acc (c :: r) = some n) : ∃ d, digit? c = some d ∧ acc * 10 + d ≤ 2147483647 ∧ digitsFrom (acc * 10 + d) r = some n := by
  rw [digitsFrom] at h
  cases hd : digit? c with
  | none => rw [hd] at h; cases h
  | some d =>
    rw [hd] at h
    simp only [Option.bind_some] at h
    split at h
    · next h1 => exact ⟨d, rfl, h1, h⟩
    · cases h
theorem ar_parse : ∀ (l : List UInt8) (acc n : Nat), acc ≤ 2147483647 → digitsFrom acc l = some n → Lib.parseUint10 acc l = .ok n ∧ acc ≤ n ∧ n ≤ 2147483647
  | [], acc, n, ha, h => by
    have : acc = n := by simpa [digitsFrom] using h
    subst this
    exact ⟨rfl, Nat.le_refl _, ha⟩
  | c :: r, acc, n, ha, h => by
    obtain ⟨d, hd, h1, h2⟩ := ar_cons h
    obtain ⟨e1, e2, rfl⟩ := ar_digit hd
    obtain ⟨i1, i2, i3⟩ := ar_parse r _ n h1 h2
    refine ⟨?_, by omega, i3⟩
    rw [Lib.parseUint10, if_pos ⟨e1, e2⟩, if_neg (by omega), if_neg (by omega)]
    exact i1
theorem nice_of {n : Nat} (h : n ≤ 2147483647) : Nice (n : Int) := by
  have h1 := Sq.digits_back n h
  have hi : Lib.itoa (n : Int) = Lib.decDigits n := by rw [Lib.itoa, if_neg (by omega), Int.toNat_natCast]
  refine ⟨by omega, by rw [hi]; exact Sq.decDigits_mem n, ?_⟩
  obtain ⟨p1, _, _⟩ := ar_parse _ 0 n (by omega) h1
  rw [hi]
  cases hl : Lib.decDigits n with
  | nil => exact absurd hl (Sq.decDigits_ne n)
  | cons c r =>
    rw [hl] at h1 p1
    obtain ⟨d, hd, _, _⟩ := ar_cons h1
    obtain ⟨e1, e2, _⟩ := ar_digit hd
    have hm : Lib.parseMag (c :: r) = .ok n := by unfold Lib.parseMag; rw [if_neg (by simp)]; exact p1
    unfold Lib.atoiAll
    simp only
    rw [if_neg (by omega), hm]
    simp only
    rw [if_neg (by omega), if_neg (by omega), if_neg (by omega)]
/-- What may be saved may be written, where its letters are small. -/
theorem nice_int {n : Int} (h0 : 0 ≤ n) (h1 : n ≤ 2147483647) : Nice n := by
  have := nice_of (n := n.toNat) (by omega)
  rwa [Int.toNat_of_nonneg h0] at this
end Go.Proofs.YtdmplfflmdanlaaGreatDoor
namespace Go.Proofs.YtdmplfflmdanlaaGreatDoor
open Go.RowKit Go.Proofs.Aid Go.Proofs.Bx

/-- A box's letters against those that were under its number. -/
noncomputable def dboxB (was : Int → List Lt) (x : Bxd) : Nm := numB x.v ++ (numB x.n ++ (rowB numB (keptU x.ls (was x.v)) ++ rowB letterB (othersL x.ls (was x.v))))
noncomputable def changeB (was : Int → List Lt) (S : Svd) : Nm := numB S.next ++ (rowB textB S.wants ++ (rowB textB S.names ++ (S.boxes.map (dboxB was)).flatten))
/-- What is read of a box that changed: its numbers, what was kept, and the others. -/
structure Dbx where
  v : Int
  n : Int
  kept : List Int
  others : List Lt
def dboxS (s : Nm) : Dbx × Nm :=
  let a := untilS 59 s
  let b := untilS 59 a.2
  let c := readRowS 60 (untilS 59) b.2
  let d := readRowS 60 letterS c.2
  (⟨a.1, b.1, c.1, d.1⟩, d.2)
noncomputable def dbxOf (was : Int → List Lt) (x : Bxd) : Dbx := ⟨x.v, x.n, keptU x.ls (was x.v), othersL x.ls (was x.v)⟩
theorem kept_len {now before : List Lt} : (keptU now before).length ≤ now.length := by
  unfold keptU
  rw [List.length_map]
  exact List.length_filter_le _ _
theorem others_len {now before : List Lt} : (othersL now before).length ≤ now.length := List.length_filter_le _ _
theorem dbox_back {was : Int → List Lt} {x : Bxd} (h : NiceB x) (r : Nm) : dboxS (dboxB was x ++ r) = (dbxOf was x, r) := by
  obtain ⟨h1, h2, h3, _, h5⟩ := h
  have k1 := kept_len (now := x.ls) (before := was x.v)
  have k2 := others_len (now := x.ls) (before := was x.v)
  have m1 : ∀ u ∈ keptU x.ls (was x.v), Nice u := fun u hu => by
    unfold keptU at hu
    obtain ⟨y, hy, rfl⟩ := List.mem_map.1 hu
    exact (h5 y (List.mem_filter.1 hy).1).1
  have m2 : ∀ y ∈ othersL x.ls (was x.v), NiceL y := fun y hy => h5 y (List.mem_filter.1 hy).1
  unfold dboxS dboxB dbxOf
  simp only [List.append_assoc, num_back h1, num_back h2, readRow_back (f := numB) (show (keptU x.ls (was x.v)).length ≤ 60 by omega) (nice_of (by omega)) (fun u hu r => num_back (m1 u hu) r), readRow_back (f := letterB) (show (othersL x.ls (was x.v)).length ≤ 60 by omega) (nice_of (by omega)) (fun y hy r => letter_back (m2 y hy) r)]
def changeS (s : Nm) : (Int × List Nm × List Nm × List Dbx) × Nm :=
  let a := untilS 59 s
  let b := readRowS 60 textS a.2
  let c := readRowS 30 textS b.2
  let d := rowS dboxS c.1.length c.2
  ((a.1, b.1, c.1, d.1), d.2)
/-- rows of things that are read as other things -/
theorem row_as {α β : Type} {f : α → Nm} {g : α → β} {one : Nm → β × Nm} : ∀ (l : List α), (∀ x ∈ l, ∀ r, one (f x ++ r) = (g x, r)) → ∀ r, rowS one l.length ((l.map f).flatten ++ r) = (l.map g, r)
  | [], _, r => by simp [rowS]
  | x :: l, h, r => by
    have h1 := h x List.mem_cons_self ((l.map f).flatten ++ r)
    have h2 := row_as l (fun y hy => h y (List.mem_cons_of_mem _ hy)) r
    simp only [List.length_cons, List.map_cons, List.flatten_cons, List.append_assoc, rowS, h1, h2]
theorem change_back {was : Int → List Lt} {S : Svd} (h : NiceS S) (r : Nm) : changeS (changeB was S ++ r) = ((S.next, S.wants, S.names, S.boxes.map (dbxOf was)), r) := by
  unfold changeS changeB
  simp only [List.append_assoc, num_back h.next, readRow_back h.wl h.wn (fun t ht r => text_back (h.w t ht) r), readRow_back h.nl h.nn (fun t ht r => text_back (h.n t ht) r), h.len, row_as S.boxes (fun x hx r => dbox_back (was := was) (h.b x hx) r)]
end Go.Proofs.YtdmplfflmdanlaaGreatDoor
namespace Go.Proofs.YtdmplfflmdanlaaGreatDoor
open Go.RowKit Go.Proofs.Aid Go.Proofs.Bx

open Classical in
theorem kept_yes {now before : List Lt} {k : Nat} {x : Lt} (h : now[k]? = some x) (hx : x ∈ before) : keptU (now.take (k + 1)) before = keptU (now.take k) before ++ [x.uid] ∧ othersL (now.take (k + 1)) before = othersL (now.take k) before := by
  unfold keptU othersL
  rw [List.take_add_one, h]
  simp [List.filter_append, hx]
open Classical in
theorem kept_no {now before : List Lt} {k : Nat} {x : Lt} (h : now[k]? = some x) (hx : ¬ x ∈ before) : keptU (now.take (k + 1)) before = keptU (now.take k) before ∧ othersL (now.take (k + 1)) before = othersL (now.take k) before ++ [x] := by
  unfold keptU othersL
  rw [List.take_add_one, h]
  simp [List.filter_append, hx]
theorem keptU_le {now before : List Lt} : (keptU now before).length ≤ now.length := by
  unfold keptU
  rw [List.length_map]
  exact List.length_filter_le _ _
theorem othersL_le {now before : List Lt} : (othersL now before).length ≤ now.length := List.length_filter_le _ _
set_option maxHeartbeats 8000000 in
set_option maxRecDepth 100000 in
theorem parted_is (P : World → Prop) (vn vb : Value) (now before : List Lt) (w : World) (hP : ∀ W, Below w.heap.size w W → P W) (hn : LtQ P vn now) (hb : Lts w vb before) (hl : now.length ≤ 900) (hbl : before.length ≤ 1000) (hs : ∀ x ∈ now, LtSm x) (hs2 : ∀ x ∈ before, LtSm x) :
    Calls Tryz.prog 59 #[vn, vb] w fun e w' => (∃ kv ov, e = .returned (.tuple #[kv, ov]) ∧ NOwn w' w.heap.size kv (keptU now before) ∧ LOwQ P w' w.heap.size ov (othersL now before)) ∧ Below w.heap.size w w' := by
  obtain ⟨na, nc, rfl, _⟩ := id hn
  obtain ⟨ba, bc, rfl, _⟩ := id hb
  obtain ⟨M, hM⟩ : ∃ m, now.length = m := ⟨_, rfl⟩
  obtain ⟨BM, hBM⟩ : ∃ m, before.length = m := ⟨_, rfl⟩
  have HX : Hid ((∀ W, Below w.heap.size w W → P W) ∧ LtQ P (.slice na M nc) now ∧ Lts w (.slice ba BM bc) before ∧ now.length = M ∧ M ≤ 900 ∧ before.length ≤ 1000 ∧ (∀ x ∈ now, LtSm x) ∧ (∀ x ∈ before, LtSm x)) := ⟨hP, by rw [← hM]; exact hn, by rw [← hBM]; exact hb, hM, by rw [← hM]; exact hl, hbl, hs, hs2⟩
  have hM9 : M ≤ 900 := HX.out.2.2.2.2.1
  rw [hM, hBM]
  clear hP hn hb hl hbl hs hs2 hM hBM
  go_enter Tryz.func59, Tryz.ntmps59
  go_wp2_with fail
  go_loopw [4, 5, 10] (fun kv ov iv wr => ∃ (k : Nat) (ka : Option Addr) (kn kc : Nat) (oa : Option Addr) (on oc : Nat), kv = .slice ka kn kc ∧ ov = .slice oa on oc ∧ iv = .int .i64 (k : Int) ∧ k ≤ M ∧ Hid (kn = (keptU (now.take k) before).length ∧ on = (othersL (now.take k) before).length ∧ NOwn wr w.heap.size (.slice ka kn kc) (keptU (now.take k) before) ∧ LOwQ P wr w.heap.size (.slice oa on oc) (othersL (now.take k) before) ∧ Below w.heap.size w wr)) (fun _ _ iv _ => M - (intOf iv).toNat)
  case atStart => exact ⟨0, none, 0, 0, none, 0, 0, rfl, rfl, rfl, Nat.zero_le _, by simp [keptU], by simp [othersL], World.ownsRow_nil _ _ _ _, LOwQ.nil _ _ _, Below.refl _ _⟩
  case round =>
    obtain ⟨k, ka, kn, kc, oa, on, oc, rfl, rfl, rfl, hk, HI⟩ := hrel
    by_cases hlt : k < M
    · have d1 : decide ((k : Int) < (M : Int)) = true := decide_eq_true (by omega)
      have i1 : (0 : Int) ≤ (k : Int) := by omega
      have i2 : (k : Int) < (M : Int) := by omega
      obtain ⟨x, hxk⟩ : ∃ x, now[k]? = some x := ⟨_, List.getElem?_eq_getElem (by have := HX.out.2.2.2.1; omega)⟩
      have hxm := List.mem_of_getElem? hxk
      obtain ⟨g, o, fv, hva, hat⟩ := ltq_at HX.out.2.1 hxk
      subst hva
      obtain ⟨q1, q2, q3, q4, q5⟩ := hat wr (HX.out.1 wr HI.out.2.2.2.2)
      obtain ⟨fa, fc, rfl, _⟩ := id q3
      obtain ⟨W2, hW2⟩ : ∃ W, wr.alloc (.cells #[.int .i64 x.uid, .slice fa x.flags.length fc, .int .i64 x.day, .string ⟨x.text.toArray⟩] 71) = W := ⟨_, rfl⟩
      have b2 : Below wr.heap.size wr W2 := by rw [← hW2]; exact (Below.refl _ _).alloc (Nat.le_refl _) _
      have e2 : W2.heap[wr.heap.size]? = some (.cells #[.int .i64 x.uid, .slice fa x.flags.length fc, .int .i64 x.day, .string ⟨x.text.toArray⟩] 71 (0, 0)) := by rw [← hW2]; exact heap_alloc_new _ _
      obtain ⟨lb, hlb⟩ : ∃ n, wr.heap.size = n := ⟨_, rfl⟩
      rw [hlb] at e2
      have hB2 : Below w.heap.size w W2 := HI.out.2.2.2.2.trans (b2.mono HI.out.2.2.2.2.size)
      have cC := lcontains_is (.slice ba BM bc) before x _ lb W2 (HX.out.2.2.1.below hB2 (Nat.le_refl _)) HX.out.2.2.2.2.2.1 HX.out.2.2.2.2.2.2.2 (hat W2 (HX.out.1 W2 hB2)).2.2.1 (HX.out.2.2.2.2.2.2.1 x hxm) e2
      have HK : Hid (now[k]? = some x ∧ Below wr.heap.size wr W2 ∧ Below w.heap.size w W2 ∧ (∀ W, P W → LtRow W x [.int .i64 x.uid, .slice fa x.flags.length fc, .int .i64 x.day, .string ⟨x.text.toArray⟩])) := ⟨hxk, b2, hB2, fun W hW => ⟨_, rfl, (hat W hW).2.2.1⟩⟩
      have HE : Hid (∀ W, Below W2.heap.size W2 W → W.heap[lb]? = some (.cells #[.int .i64 x.uid, .slice fa x.flags.length fc, .int .i64 x.day, .string ⟨x.text.toArray⟩] 71 (0, 0))) := fun W hW => (hW.block _ (Array.getElem?_eq_some_iff.1 e2).1).trans e2
      obtain ⟨XU, XF, XD, XT⟩ := x
      obtain ⟨FN, hFN⟩ : ∃ n, XF.length = n := ⟨_, rfl⟩
      obtain ⟨tx, htx⟩ : ∃ t : ByteArray, ⟨XT.toArray⟩ = t := ⟨_, rfl⟩
      have HFN : Hid (XF.length = FN ∧ (⟨XT.toArray⟩ : ByteArray) = tx) := ⟨hFN, htx⟩
      simp only at q1 q2 q4 q5 hW2
      simp only [hFN] at q2 hW2
      simp only [htx] at q5 hW2
      clear hxk hxm hat q3 b2 e2 hB2 hFN htx
      go_wp2_with fail
      refine cC.mono ?_
      rintro e w3 ⟨⟨r, rfl, hr⟩, hb3⟩
      have e3 := HE.out w3 hb3
      simp only [HFN.out.1, HFN.out.2] at e3
      have c0 : w3.cell? ⟨lb, 0, none⟩ = some (.int .i64 XU) := rd_cell e3 rfl
      have c1 : w3.cell? ⟨lb, 1, none⟩ = some (.slice fa FN fc) := rd_cell e3 rfl
      have c2 : w3.cell? ⟨lb, 2, none⟩ = some (.int .i64 XD) := rd_cell e3 rfl
      have c3 : w3.cell? ⟨lb, 3, none⟩ = some (.string tx) := rd_cell e3 rfl
      have hB3 : Below w.heap.size w w3 := HK.out.2.2.1.trans (hb3.mono HK.out.2.2.1.size)
      have hwr3 : Below wr.heap.size wr w3 := HK.out.2.1.trans (hb3.mono HK.out.2.1.size)
      have hkn : (keptU (now.take k) before).length ≤ 1000 := Nat.le_trans keptU_le (by rw [List.length_take]; have := HX.out.2.2.2.2.1; omega)
      have hon : (othersL (now.take k) before).length ≤ 1000 := Nat.le_trans othersL_le (by rw [List.length_take]; have := HX.out.2.2.2.2.1; omega)
      have hN3 := NOwn.below HI.out.2.2.1 hwr3
      have hO3 := LOwQ.below HI.out.2.2.2.1 hwr3
      cases r with
      | true =>
        obtain ⟨s1, s2⟩ := kept_yes HK.out.1 (hr.1 rfl)
        rw [HI.out.1] at hN3
        obtain ⟨g9, cap9, W9, hap, hown9, ⟨p1, p2, p3, p4, p5⟩⟩ := num_push hN3 hkn XU hB3.size
        have HN : Hid ((kn + 1 = (keptU (now.take (k + 1)) before).length ∧ on = (othersL (now.take (k + 1)) before).length ∧ NOwn W9 w.heap.size (.slice (some ⟨g9, 0, none⟩) (kn + 1) cap9) (keptU (now.take (k + 1)) before) ∧ LOwQ P W9 w.heap.size (.slice oa on oc) (othersL (now.take (k + 1)) before) ∧ Below w.heap.size w W9)) := by
          rw [s1, s2]
          refine ⟨by rw [List.length_append, HI.out.1]; rfl, HI.out.2.1, by rw [HI.out.1]; exact hown9, hO3.same fun q hq => p5 q (hO3.lt hq).2 fun e => ?_, hB3.trans ⟨p1, p2, p3, p4, fun q hq => p5 q (Nat.lt_of_lt_of_le hq hB3.size) fun e => by have := (hN3.lt q e).1; omega⟩⟩
          obtain ⟨rows, r1, _⟩ := hO3
          exact own_apart hN3 r1 (by decide) e hq
        rw [← HI.out.1] at hap
        have HAP : Hid ((Builtin.append_ #[117, 117] 117 #[.slice ka kn kc, .slice (some ⟨w3.heap.size, 0, none⟩) 1 1]).run Tryz.prog (w3.alloc (.cells #[.int .i64 XU] 3)) = .ok (.slice (some ⟨g9, 0, none⟩) (kn + 1) cap9) W9) := hap
        clear hap
        clear cC hr hb3 hB3 hwr3 hkn hon hN3 hO3 s1 s2 hown9 p1 p2 p3 p4 p5 e3 HE
        go_wp2_with (at_builtin; go_must (refine Go.Lib.wpList_append_run _ rfl (.tmp 17) (.tmp 20) 117 117 rfl _ _ rfl rfl _ W9 HAP.out ?_))
        go_roundw
        case rel => exact ⟨k + 1, _, _, _, _, _, _, rfl, rfl, by go_num, by omega, HN⟩
        case measure => simp [intOf]; omega
      | false =>
        obtain ⟨s1, s2⟩ := kept_no HK.out.1 (fun h => by have := hr.2 h; cases this)
        obtain ⟨W8, hW8⟩ : ∃ W, w3.alloc (.cells #[.int .i64 XU, .slice fa FN fc, .int .i64 XD, .string tx] 71) = W := ⟨_, rfl⟩
        have b8 : Below w3.heap.size w3 W8 := by rw [← hW8]; exact (Below.refl _ _).alloc (Nat.le_refl _) _
        have e8 : W8.heap[w3.heap.size]? = some (.cells #[.int .i64 XU, .slice fa FN fc, .int .i64 XD, .string tx] 71 (0, 0)) := by rw [← hW8]; exact heap_alloc_new _ _
        have hO8 := hO3.below b8
        have hN8 := hN3.below b8
        rw [HI.out.2.1] at hO8
        have hrow : ∀ W, P W → LtRow W ⟨XU, XF, XD, XT⟩ [.int .i64 XU, .slice fa FN fc, .int .i64 XD, .string tx] := fun W hW => by
          have := HK.out.2.2.2 W hW
          simp only [HFN.out.1, HFN.out.2] at this
          exact this
        obtain ⟨g9, cap9, W9, hap, hown9, ⟨p1, p2, p3, p4, p5⟩, _⟩ := lowq_push hO8 hon ⟨XU, XF, XD, XT⟩ [.int .i64 XU, .slice fa FN fc, .int .i64 XD, .string tx] hrow rfl w3.heap.size (fun j u hu => rd_cell e8 (by simpa using hu)) (by simp [Value.oneCell']) (Nat.le_trans hB3.size b8.size)
        have HN : Hid ((kn = (keptU (now.take (k + 1)) before).length ∧ on + 1 = (othersL (now.take (k + 1)) before).length ∧ NOwn W9 w.heap.size (.slice ka kn kc) (keptU (now.take (k + 1)) before) ∧ LOwQ P W9 w.heap.size (.slice (some ⟨g9, 0, none⟩) (on + 1) cap9) (othersL (now.take (k + 1)) before) ∧ Below w.heap.size w W9)) := by
          rw [s1, s2]
          refine ⟨HI.out.1, by rw [List.length_append, HI.out.2.1]; rfl, own_same hN8 fun q hq => p5 q (hN8.lt q hq).2 fun e => ?_, by rw [HI.out.2.1]; exact hown9, (hB3.trans (b8.mono hB3.size)).trans ⟨p1, p2, p3, p4, fun q hq => p5 q (Nat.lt_of_lt_of_le hq (Nat.le_trans hB3.size b8.size)) fun e => by have := (hO8.lt e).1; omega⟩⟩
          obtain ⟨rows, r1, _⟩ := hO8
          exact own_apart r1 hN8 (by decide) e hq
        rw [← HI.out.2.1] at hap
        have HAP : Hid ((Builtin.append_ #[64, 64] 64 #[.slice oa on oc, .slice (some ⟨w3.heap.size, 0, none⟩) 1 1]).run Tryz.prog W8 = .ok (.slice (some ⟨g9, 0, none⟩) (on + 1) cap9) W9) := hap
        clear hap
        clear cC hr hb3 hB3 hwr3 hkn hon hN3 hO3 s1 s2 hown9 p1 p2 p3 p4 p5 e3 HE b8 e8 hO8 hN8 hrow
        go_wp2_with (at_builtin; go_must (refine Go.Lib.wpList_append_run _ rfl (.tmp 22) (.tmp 24) 64 64 rfl _ _ rfl rfl _ W9 HAP.out ?_))
        go_roundw
        case rel => exact ⟨k + 1, _, _, _, _, _, _, rfl, rfl, by go_num, by omega, HN⟩
        case measure => simp [intOf]; omega
    · have d1 : decide ((k : Int) < (M : Int)) = false := decide_eq_false (by omega)
      obtain rfl : k = M := by omega
      have HF : Hid ((NOwn wr w.heap.size (.slice ka kn kc) (keptU now before) ∧ LOwQ P wr w.heap.size (.slice oa on oc) (othersL now before)) ∧ Below w.heap.size w wr) := by
        obtain ⟨_, _, h1, h2, h3⟩ := HI.out
        rw [List.take_of_length_le (by have := HX.out.2.2.2.1; omega)] at h1 h2
        exact ⟨⟨h1, h2⟩, h3⟩
      clear HI
      go_wp2_with fail
      go_ret2
      exact ⟨⟨_, _, rfl, HF.out.1⟩, HF.out.2⟩
end Go.Proofs.YtdmplfflmdanlaaGreatDoor
