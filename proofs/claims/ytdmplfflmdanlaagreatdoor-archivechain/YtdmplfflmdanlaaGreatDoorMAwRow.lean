/-
  What a writer of package archive writes: rows of texts, of numbers and of letters.
-/
import Derived.Test.YtdmplfflmdanlaaGreatDoorBpBuildShelf
namespace Go.Proofs.YtdmplfflmdanlaaGreatDoor
open Go.RowKit Go.Proofs.Aid Go.Proofs.Bx

theorem flat_step {α : Type} (f : α → Nm) {l : List α} {k : Nat} {x : α} (h : l[k]? = some x) : ((l.take (k + 1)).map f).flatten = ((l.take k).map f).flatten ++ f x := by
  rw [List.take_add_one, h]
  simp
theorem flat_pre {α : Type} (f : α → Nm) (l : List α) (k : Nat) : ((l.take k).map f).flatten.length ≤ (l.map f).flatten.length := by
  have : (l.map f).flatten = ((l.take k).map f).flatten ++ ((l.drop k).map f).flatten := by
    rw [← List.flatten_append, ← List.map_append, List.take_append_drop]
  rw [this, List.length_append]
  omega
/-- A slice of numbers. -/
def In (w : World) (v : Value) (l : List Int) : Prop := ∃ a c, v = .slice a l.length c ∧ (l = [] ∨ ∃ b o, a = some ⟨b, o, none⟩ ∧ ∀ (j : Nat) x, l[j]? = some x → w.cell? ⟨b, o + j, none⟩ = some (.int .i64 x))
theorem in_at {w : World} {a : Option Addr} {n c : Nat} {l : List Int} (h : In w (.slice a n c) l) {k : Nat} {x : Int} (hk : l[k]? = some x) : ∃ b o, a = some ⟨b, o, none⟩ ∧ w.cell? ⟨b, o + k, none⟩ = some (.int .i64 x) := by
  obtain ⟨a', c', h1, h2⟩ := h
  injection h1 with h1 _ _
  subst h1
  rcases h2 with h2 | ⟨b, o, h3, h4⟩
  · rw [h2] at hk; simp at hk
  · exact ⟨b, o, h3, h4 k x hk⟩
/-- A letter lies there, in all these worlds. -/
def LtQat (P : World → Prop) (b o : Nat) (fv : Value) (x : Lt) : Prop := ∀ W, P W → W.cell? ⟨b, o, none⟩ = some (.int .i64 x.uid) ∧ W.cell? ⟨b, o + 1, none⟩ = some fv ∧ Sl W fv x.flags ∧ W.cell? ⟨b, o + 2, none⟩ = some (.int .i64 x.day) ∧ W.cell? ⟨b, o + 3, none⟩ = some (.string ⟨x.text.toArray⟩)
/-- A slice of letters, in all these worlds. -/
def LtQ (P : World → Prop) (v : Value) (l : List Lt) : Prop := ∃ a c, v = .slice a l.length c ∧ ((a = none → c = 0) ∧ l.length ≤ c ∧ c ≤ 9223372036854775807) ∧ (l = [] ∨ ∃ b o, a = some ⟨b, o, none⟩ ∧ ∀ (j : Nat) x, l[j]? = some x → ∃ fv, LtQat P b (o + j * 4) fv x)
theorem ltq_at {P : World → Prop} {a : Option Addr} {n c : Nat} {l : List Lt} (h : LtQ P (.slice a n c) l) {k : Nat} {x : Lt} (hk : l[k]? = some x) : ∃ b o fv, a = some ⟨b, o, none⟩ ∧ LtQat P b (o + k * 4) fv x := by
  obtain ⟨a', c', h1, _, h2⟩ := h
  injection h1 with h1 _ _
  subst h1
  rcases h2 with h2 | ⟨b, o, h3, h4⟩
  · rw [h2] at hk; simp at hk
  · obtain ⟨fv, h5⟩ := h4 k x hk
    exact ⟨b, o, fv, h3, h5⟩
theorem LtQ.sub {P Q : World → Prop} {v : Value} {l : List Lt} (h : LtQ P v l) (hq : ∀ W, Q W → P W) : LtQ Q v l := by
  obtain ⟨a, c, h1, h0, h2⟩ := h
  refine ⟨a, c, h1, h0, h2.imp id fun ⟨b, o, h3, h4⟩ => ⟨b, o, h3, fun j x hj => ?_⟩⟩
  obtain ⟨fv, h5⟩ := h4 j x hj
  exact ⟨fv, fun W hW => h5 W (hq W hW)⟩
theorem LtQ.lts {P : World → Prop} {v : Value} {l : List Lt} (h : LtQ P v l) {W : World} (hW : P W) : Lts W v l := by
  obtain ⟨a, c, h1, h0, h2⟩ := h
  refine ⟨a, c, h1, h0, h2.imp id fun ⟨b, o, h3, h4⟩ => ⟨b, o, h3, fun j x hj => ?_⟩⟩
  obtain ⟨fv, h5⟩ := h4 j x hj
  obtain ⟨q1, q2, q3, q4, q5⟩ := h5 W hW
  exact ⟨q1, ⟨fv, q2, q3⟩, q4, q5⟩
/-- What lies there stays where only what is new is turned. -/
theorem ltq_of {P : World → Prop} {w : World} {v : Value} {l : List Lt} (h : Lts w v l) (hp : ∀ W, P W → Below w.heap.size w W) : LtQ P v l := by
  obtain ⟨a, c, h1, h0, h2⟩ := h
  refine ⟨a, c, h1, h0, h2.imp id fun ⟨b, o, h3, h4⟩ => ⟨b, o, h3, fun j x hj => ?_⟩⟩
  obtain ⟨q1, ⟨fv, q2, q3⟩, q4, q5⟩ := h4 j x hj
  have hlt : b < w.heap.size := World.block_lt_of_cell? _ _ q1
  exact ⟨fv, fun W hW => ⟨((hp W hW).cell (p := ⟨b, _, none⟩) hlt).trans q1, ((hp W hW).cell (p := ⟨b, _, none⟩) hlt).trans q2, q3.below (hp W hW) (Nat.le_refl _), ((hp W hW).cell (p := ⟨b, _, none⟩) hlt).trans q4, ((hp W hW).cell (p := ⟨b, _, none⟩) hlt).trans q5⟩⟩
/-- A letter that may be written. -/
def LtS (x : Lt) : Prop := (0 ≤ x.uid ∧ x.uid ≤ 9000000000) ∧ (x.flags.length ≤ 1000 ∧ ∀ s ∈ x.flags, s.length ≤ 1000000) ∧ (0 ≤ x.day ∧ x.day ≤ 9000000000) ∧ x.text.length ≤ 1000000
set_option maxHeartbeats 4000000 in
set_option maxRecDepth 100000 in
theorem awtexts_is (B b : Nat) (out : Nm) (v : Value) (l : List Nm) (w : World) (h : IsAw B b out w) (hBw : B ≤ w.heap.size) (hl : l.length ≤ 1000) (hs : ∀ s ∈ l, s.length ≤ 1000000) (hv : ∀ W, Wk B b w W → Sl W v l) (hlen : out.length + (rowB textB l).length ≤ 100000000) (htab : TabW B w) :
    Calls Tryz.prog 99 #[.pointer (some ⟨b, 0, none⟩), v, .func (.func 100) #[.pointer (some ⟨b, 0, none⟩)] #[]] w fun e w' => e = .returned (.tuple #[]) ∧ IsAw B b (out ++ rowB textB l) w' ∧ Wk B b w w' := by
  obtain ⟨a, c, rfl⟩ : ∃ a c, v = .slice a l.length c := by obtain ⟨a, c, e, _⟩ := hv w (Wk.refl _ _ _); exact ⟨a, c, e⟩
  obtain ⟨M, hM⟩ : ∃ m, l.length = m := ⟨_, rfl⟩
  rw [hM] at hv
  have hnum : (rowB textB l).length = (numB (M : Int)).length + (l.map textB).flatten.length := by unfold rowB; rw [List.length_append, hM]
  have HV : Hid (l.length = M ∧ (∀ s ∈ l, s.length ≤ 1000000) ∧ (∀ W, Wk B b w W → Sl W (.slice a M c) l) ∧ TabW B w ∧ B ≤ w.heap.size ∧ out.length + ((numB (M : Int)).length + (l.map textB).flatten.length) ≤ 100000000) := ⟨hM, hs, hv, htab, hBw, by rw [← hnum]; exact hlen⟩
  have cN := awnum_is B b out (M : Int) w h hBw (by omega) (by omega) htab
  have HG : Hid (out ++ rowB textB l = out ++ numB (M : Int) ++ (l.map textB).flatten) := by show _ = _; unfold rowB; rw [hM, List.append_assoc]
  obtain ⟨FIN, hFIN⟩ : ∃ t, out ++ rowB textB l = t := ⟨_, rfl⟩
  rw [hFIN]
  rw [hFIN] at HG
  have hM1000 : M ≤ 1000 := by omega
  rw [hM]
  clear h hv hs htab hM hlen hnum hFIN hBw hl
  go_enter Tryz.func99, Tryz.ntmps99
  go_wp2_with fail
  refine cN.mono ?_
  rintro e w1 ⟨rfl, h1, hk1⟩
  have H1 : Hid (IsAw B b (out ++ numB (M : Int)) w1 ∧ Wk B b w w1) := ⟨h1, hk1⟩
  clear cN h1 hk1
  go_wp2_with fail
  go_loopw [14] (fun iv wr => ∃ k : Nat, iv = .int .i64 (k : Int) ∧ k ≤ M ∧ Hid (IsAw B b (out ++ numB (M : Int) ++ ((l.take k).map textB).flatten) wr ∧ Wk B b w wr)) (fun iv _ => M - (intOf iv).toNat)
  case atStart => exact ⟨0, rfl, Nat.zero_le _, by simpa using H1.out.1, H1.out.2⟩
  case round =>
    obtain ⟨k, rfl, hk, HI⟩ := hrel
    by_cases hlt : k < M
    · have d1 : decide ((k : Int) < (M : Int)) = true := decide_eq_true (by omega)
      have i1 : (0 : Int) ≤ (k : Int) := by omega
      have i2 : (k : Int) < (M : Int) := by omega
      obtain ⟨x, hxk⟩ : ∃ x, l[k]? = some x := ⟨_, List.getElem?_eq_getElem (by have := HV.out.1; omega)⟩
      have hxm := List.mem_of_getElem? hxk
      have hn := flat_step textB hxk
      have hp := flat_pre textB l (k + 1)
      rw [hn, List.length_append] at hp
      have hle := HV.out.2.2.2.2.2
      obtain ⟨g, o, hva, hcg0⟩ := sl_at (HV.out.2.2.1 wr HI.out.2) hxk
      subst hva
      have hcg := hcg0 k x hxk
      have cT := awtext_is B b _ ⟨x.toArray⟩ wr HI.out.1 (Nat.le_trans HV.out.2.2.2.2.1 HI.out.2.size) (by rw [ba_size]; exact HV.out.2.1 x hxm) (by rw [List.length_append, List.length_append]; omega) (HV.out.2.2.2.1.wk HI.out.2)
      have HN : Hid (∀ w', IsAw B b (out ++ numB (M : Int) ++ ((l.take k).map textB).flatten ++ textB x) w' → Wk B b wr w' → IsAw B b (out ++ numB (M : Int) ++ ((l.take (k + 1)).map textB).flatten) w' ∧ Wk B b w w') := fun w' q1 q2 => by
        rw [hn, ← List.append_assoc]
        exact ⟨q1, HI.out.2.trans q2⟩

      clear hxk hxm hn hp hle HI hcg0
      go_wp2_with fail
      refine cT.mono ?_
      rintro e w' ⟨rfl, q1, q2⟩
      have HF : Hid _ := HN.out w' q1 q2
      clear q1 q2 cT HN
      go_wp2_with fail
      go_roundw
      case rel => exact ⟨k + 1, by go_num, by omega, HF⟩
      case measure => simp [intOf]; omega
    · have d1 : decide ((k : Int) < (M : Int)) = false := decide_eq_false (by omega)
      obtain rfl : k = M := by omega
      have HF : Hid (IsAw B b FIN wr ∧ Wk B b w wr) := by
        rw [HG.out]
        have := HI.out.1
        rw [List.take_of_length_le (by have := HV.out.1; omega)] at this
        exact ⟨this, HI.out.2⟩
      clear HI
      go_wp2_with fail
      go_end0
      exact ⟨rfl, HF.out.1, HF.out.2⟩
set_option maxHeartbeats 4000000 in
set_option maxRecDepth 100000 in
theorem awnums_is (B b : Nat) (out : Nm) (v : Value) (l : List Int) (w : World) (h : IsAw B b out w) (hBw : B ≤ w.heap.size) (hl : l.length ≤ 1000) (hs : ∀ s ∈ l, 0 ≤ s ∧ s ≤ 9000000000) (hv : ∀ W, Wk B b w W → In W v l) (hlen : out.length + (rowB numB l).length ≤ 100000000) (htab : TabW B w) :
    Calls Tryz.prog 61 #[.pointer (some ⟨b, 0, none⟩), v, .func (.func 62) #[.pointer (some ⟨b, 0, none⟩)] #[]] w fun e w' => e = .returned (.tuple #[]) ∧ IsAw B b (out ++ rowB numB l) w' ∧ Wk B b w w' := by
  obtain ⟨a, c, rfl⟩ : ∃ a c, v = .slice a l.length c := by obtain ⟨a, c, e, _⟩ := hv w (Wk.refl _ _ _); exact ⟨a, c, e⟩
  obtain ⟨M, hM⟩ : ∃ m, l.length = m := ⟨_, rfl⟩
  rw [hM] at hv
  have hnum : (rowB numB l).length = (numB (M : Int)).length + (l.map numB).flatten.length := by unfold rowB; rw [List.length_append, hM]
  have HV : Hid (l.length = M ∧ (∀ s ∈ l, 0 ≤ s ∧ s ≤ 9000000000) ∧ (∀ W, Wk B b w W → In W (.slice a M c) l) ∧ TabW B w ∧ B ≤ w.heap.size ∧ out.length + ((numB (M : Int)).length + (l.map numB).flatten.length) ≤ 100000000) := ⟨hM, hs, hv, htab, hBw, by rw [← hnum]; exact hlen⟩
  have cN := awnum_is B b out (M : Int) w h hBw (by omega) (by omega) htab
  have HG : Hid (out ++ rowB numB l = out ++ numB (M : Int) ++ (l.map numB).flatten) := by show _ = _; unfold rowB; rw [hM, List.append_assoc]
  obtain ⟨FIN, hFIN⟩ : ∃ t, out ++ rowB numB l = t := ⟨_, rfl⟩
  rw [hFIN]
  rw [hFIN] at HG
  have hM1000 : M ≤ 1000 := by omega
  rw [hM]
  clear h hv hs htab hM hlen hnum hFIN hBw hl
  go_enter Tryz.func61, Tryz.ntmps61
  go_wp2_with fail
  refine cN.mono ?_
  rintro e w1 ⟨rfl, h1, hk1⟩
  have H1 : Hid (IsAw B b (out ++ numB (M : Int)) w1 ∧ Wk B b w w1) := ⟨h1, hk1⟩
  clear cN h1 hk1
  go_wp2_with fail
  go_loopw [14] (fun iv wr => ∃ k : Nat, iv = .int .i64 (k : Int) ∧ k ≤ M ∧ Hid (IsAw B b (out ++ numB (M : Int) ++ ((l.take k).map numB).flatten) wr ∧ Wk B b w wr)) (fun iv _ => M - (intOf iv).toNat)
  case atStart => exact ⟨0, rfl, Nat.zero_le _, by simpa using H1.out.1, H1.out.2⟩
  case round =>
    obtain ⟨k, rfl, hk, HI⟩ := hrel
    by_cases hlt : k < M
    · have d1 : decide ((k : Int) < (M : Int)) = true := decide_eq_true (by omega)
      have i1 : (0 : Int) ≤ (k : Int) := by omega
      have i2 : (k : Int) < (M : Int) := by omega
      obtain ⟨x, hxk⟩ : ∃ x, l[k]? = some x := ⟨_, List.getElem?_eq_getElem (by have := HV.out.1; omega)⟩
      have hxm := List.mem_of_getElem? hxk
      have hn := flat_step numB hxk
      have hp := flat_pre numB l (k + 1)
      rw [hn, List.length_append] at hp
      have hle := HV.out.2.2.2.2.2
      obtain ⟨g, o, hva, hcg⟩ := in_at (HV.out.2.2.1 wr HI.out.2) hxk
      subst hva
      have cT := awnum_is B b _ x wr HI.out.1 (Nat.le_trans HV.out.2.2.2.2.1 HI.out.2.size) (HV.out.2.1 x hxm) (by rw [List.length_append, List.length_append]; omega) (HV.out.2.2.2.1.wk HI.out.2)
      have HN : Hid (∀ w', IsAw B b (out ++ numB (M : Int) ++ ((l.take k).map numB).flatten ++ numB x) w' → Wk B b wr w' → IsAw B b (out ++ numB (M : Int) ++ ((l.take (k + 1)).map numB).flatten) w' ∧ Wk B b w w') := fun w' q1 q2 => by
        rw [hn, ← List.append_assoc]
        exact ⟨q1, HI.out.2.trans q2⟩

      clear hxk hxm hn hp hle HI
      go_wp2_with fail
      refine cT.mono ?_
      rintro e w' ⟨rfl, q1, q2⟩
      have HF : Hid _ := HN.out w' q1 q2
      clear q1 q2 cT HN
      go_wp2_with fail
      go_roundw
      case rel => exact ⟨k + 1, by go_num, by omega, HF⟩
      case measure => simp [intOf]; omega
    · have d1 : decide ((k : Int) < (M : Int)) = false := decide_eq_false (by omega)
      obtain rfl : k = M := by omega
      have HF : Hid (IsAw B b FIN wr ∧ Wk B b w wr) := by
        rw [HG.out]
        have := HI.out.1
        rw [List.take_of_length_le (by have := HV.out.1; omega)] at this
        exact ⟨this, HI.out.2⟩
      clear HI
      go_wp2_with fail
      go_end0
      exact ⟨rfl, HF.out.1, HF.out.2⟩
set_option maxHeartbeats 4000000 in
set_option maxRecDepth 100000 in
theorem awletter_is (B b : Nat) (out : Nm) (x : Lt) (fv : Value) (w : World) (h : IsAw B b out w) (hBw : B ≤ w.heap.size) (hx : LtS x) (hv : ∀ W, Wk B b w W → Sl W fv x.flags) (hlen : out.length + (letterB x).length ≤ 100000000) (htab : TabW B w) :
    Calls Tryz.prog 42 #[.pointer (some ⟨b, 0, none⟩), .agg #[.int .i64 x.uid, fv, .int .i64 x.day, .string ⟨x.text.toArray⟩]] w fun e w' => e = .returned (.tuple #[]) ∧ IsAw B b (out ++ letterB x) w' ∧ Wk B b w w' := by
  obtain ⟨fa, fc, rfl, _⟩ := id (hv w (Wk.refl _ _ _))
  obtain ⟨XU, XF, XD, XT⟩ := x
  obtain ⟨⟨x1, x2⟩, ⟨x3, x4⟩, ⟨x5, x6⟩, x7⟩ := hx
  simp only at x1 x2 x3 x4 x5 x6 x7 hv ⊢
  obtain ⟨N, hN⟩ : ∃ n, XF.length = n := ⟨_, rfl⟩
  obtain ⟨tb, htb⟩ : ∃ t : ByteArray, ⟨XT.toArray⟩ = t := ⟨_, rfl⟩
  have htl : tb.data.toList = XT := by rw [← htb]
  have htz : tb.size ≤ 1000000 := by rw [← htb, ba_size]; exact x7
  have hL : letterB ⟨XU, XF, XD, XT⟩ = numB XU ++ (rowB textB XF ++ (numB XD ++ textB tb.data.toList)) := by rw [htl]; rfl
  rw [hL] at hlen ⊢
  simp only [List.length_append] at hlen
  rw [htb]
  rw [hN] at hv ⊢
  have b1 : Below w.heap.size w (w.alloc (.cells #[.int .i64 XU, .slice fa N fc, .int .i64 XD, .string tb] 71)) := (Below.refl _ _).alloc (Nat.le_refl _) _
  have e1 := heap_alloc_new w (.cells #[.int .i64 XU, .slice fa N fc, .int .i64 XD, .string tb] 71)
  obtain ⟨W1, hW1⟩ : ∃ W, w.alloc (.cells #[.int .i64 XU, .slice fa N fc, .int .i64 XD, .string tb] 71) = W := ⟨_, rfl⟩
  rw [hW1] at b1 e1
  have k1 : Wk B b w W1 := Wk.of b1 hBw
  have hbw : b ≠ w.heap.size := fun e => by
    obtain ⟨p, hp⟩ : ∃ p, Lib.BuilderAtF 90 5 B b p (Lib.byteCells out) w := by
      rcases h with h | h
      · exact ⟨_, h⟩
      · exact ⟨_, h⟩
    obtain ⟨_, v, hb, _⟩ := hp
    have := (Array.getElem?_eq_some_iff.1 hb).1
    omega
  have HRD : Hid (∀ W, Wk B b W1 W → W.cell? ⟨w.heap.size, 0, none⟩ = some (.int .i64 XU) ∧ W.cell? ⟨w.heap.size, 1, none⟩ = some (.slice fa N fc) ∧ W.cell? ⟨w.heap.size, 2, none⟩ = some (.int .i64 XD) ∧ W.cell? ⟨w.heap.size, 3, none⟩ = some (.string tb)) := fun W hW => by
    have e2 := hW.cells e1 (fun e => hbw e.symm) (by decide)
    exact ⟨rd_cell e2 rfl, rd_cell e2 rfl, rd_cell e2 rfl, rd_cell e2 rfl⟩
  obtain ⟨s0, s1, s2, s3⟩ := HRD.out W1 (Wk.refl _ _ _)
  have h1 := aw_below h b1
  have HX : Hid (Wk B b w W1 ∧ TabW B w ∧ B ≤ w.heap.size ∧ (XF.length ≤ 1000 ∧ ∀ s ∈ XF, s.length ≤ 1000000) ∧ (∀ W, Wk B b w W → Sl W (.slice fa N fc) XF) ∧ (0 ≤ XD ∧ XD ≤ 9000000000) ∧ tb.size ≤ 1000000) := ⟨k1, htab, hBw, ⟨x3, x4⟩, hv, ⟨x5, x6⟩, htz⟩
  have cN := awnum_is B b out XU W1 h1 (Nat.le_trans hBw k1.size) ⟨x1, x2⟩ (by omega) (htab.wk k1)
  have HL : Hid (out.length + ((numB XU).length + ((rowB textB XF).length + ((numB XD).length + (textB tb.data.toList).length))) ≤ 100000000) := hlen
  clear h h1 hv b1 e1 hN htb htl htz hlen htab hL x1 x2 x3 x4 x5 x6 x7 hbw k1 hBw
  go_enter Tryz.func42, Tryz.ntmps42
  go_wp2_with fail
  refine cN.mono ?_
  rintro e w2 ⟨rfl, h2, k2⟩
  have K2 : Hid (Wk B b W1 w2) := k2
  obtain ⟨t0, t1, t2, t3⟩ := HRD.out w2 k2
  have cR := awtexts_is B b _ (.slice fa N fc) XF w2 h2 (Nat.le_trans HX.out.2.2.1 (HX.out.1.trans k2).size) HX.out.2.2.2.1.1 HX.out.2.2.2.1.2 (fun W hW => HX.out.2.2.2.2.1 W ((HX.out.1.trans k2).trans hW)) (by have := HL.out; rw [List.length_append]; omega) (HX.out.2.1.wk (HX.out.1.trans k2))
  clear cN h2 k2 s0 s1 s2 s3
  go_wp2_with fail
  refine cR.mono ?_
  rintro e w3 ⟨rfl, h3, k3⟩
  have K3 : Hid (Wk B b W1 w3) := K2.out.trans k3
  obtain ⟨u0, u1, u2, u3⟩ := HRD.out w3 K3.out
  have cD := awnum_is B b _ XD w3 h3 (Nat.le_trans HX.out.2.2.1 (HX.out.1.trans K3.out).size) HX.out.2.2.2.2.2.1 (by have := HL.out; simp only [List.length_append]; omega) (HX.out.2.1.wk (HX.out.1.trans K3.out))
  clear cR h3 k3 t0 t1 t2 t3
  go_wp2_with fail
  refine cD.mono ?_
  rintro e w4 ⟨rfl, h4, k4⟩
  have K4 : Hid (Wk B b W1 w4) := K3.out.trans k4
  obtain ⟨v0, v1, v2, v3⟩ := HRD.out w4 K4.out
  have cT := awtext_is B b _ tb w4 h4 (Nat.le_trans HX.out.2.2.1 (HX.out.1.trans K4.out).size) HX.out.2.2.2.2.2.2 (by have := HL.out; simp only [List.length_append]; omega) (HX.out.2.1.wk (HX.out.1.trans K4.out))
  clear cD h4 k4 u0 u1 u2 u3
  go_wp2_with fail
  refine cT.mono ?_
  rintro e w5 ⟨rfl, h5, k5⟩
  have HF : Hid (IsAw B b (out ++ (numB XU ++ (rowB textB XF ++ (numB XD ++ textB tb.data.toList)))) w5 ∧ Wk B b w w5) := ⟨by simpa only [List.append_assoc] using h5, (HX.out.1.trans K4.out).trans k5⟩
  clear cT h5 k5
  go_wp2_with fail
  go_end0
  exact ⟨rfl, HF.out.1, HF.out.2⟩
set_option maxHeartbeats 4000000 in
set_option maxRecDepth 100000 in
theorem awletters_is (B b : Nat) (out : Nm) (v : Value) (l : List Lt) (w : World) (h : IsAw B b out w) (hBw : B ≤ w.heap.size) (hl : l.length ≤ 1000) (hs : ∀ s ∈ l, LtS s) (hv : LtQ (Wk B b w) v l) (hlen : out.length + (rowB letterB l).length ≤ 100000000) (htab : TabW B w) :
    Calls Tryz.prog 41 #[.pointer (some ⟨b, 0, none⟩), v, .func (.func 42) #[.pointer (some ⟨b, 0, none⟩)] #[]] w fun e w' => e = .returned (.tuple #[]) ∧ IsAw B b (out ++ rowB letterB l) w' ∧ Wk B b w w' := by
  obtain ⟨a, c, rfl⟩ : ∃ a c, v = .slice a l.length c := by obtain ⟨a, c, e, _⟩ := hv; exact ⟨a, c, e⟩
  obtain ⟨M, hM⟩ : ∃ m, l.length = m := ⟨_, rfl⟩
  rw [hM] at hv
  have hnum : (rowB letterB l).length = (numB (M : Int)).length + (l.map letterB).flatten.length := by unfold rowB; rw [List.length_append, hM]
  have HV : Hid (l.length = M ∧ (∀ s ∈ l, LtS s) ∧ (LtQ (Wk B b w) (.slice a M c) l) ∧ TabW B w ∧ B ≤ w.heap.size ∧ out.length + ((numB (M : Int)).length + (l.map letterB).flatten.length) ≤ 100000000) := ⟨hM, hs, hv, htab, hBw, by rw [← hnum]; exact hlen⟩
  have cN := awnum_is B b out (M : Int) w h hBw (by omega) (by omega) htab
  have HG : Hid (out ++ rowB letterB l = out ++ numB (M : Int) ++ (l.map letterB).flatten) := by show _ = _; unfold rowB; rw [hM, List.append_assoc]
  obtain ⟨FIN, hFIN⟩ : ∃ t, out ++ rowB letterB l = t := ⟨_, rfl⟩
  rw [hFIN]
  rw [hFIN] at HG
  have hM1000 : M ≤ 1000 := by omega
  rw [hM]
  clear h hv hs htab hM hlen hnum hFIN hBw hl
  go_enter Tryz.func41, Tryz.ntmps41
  go_wp2_with fail
  refine cN.mono ?_
  rintro e w1 ⟨rfl, h1, hk1⟩
  have H1 : Hid (IsAw B b (out ++ numB (M : Int)) w1 ∧ Wk B b w w1) := ⟨h1, hk1⟩
  clear cN h1 hk1
  go_wp2_with fail
  go_loopw [14] (fun iv wr => ∃ k : Nat, iv = .int .i64 (k : Int) ∧ k ≤ M ∧ Hid (IsAw B b (out ++ numB (M : Int) ++ ((l.take k).map letterB).flatten) wr ∧ Wk B b w wr)) (fun iv _ => M - (intOf iv).toNat)
  case atStart => exact ⟨0, rfl, Nat.zero_le _, by simpa using H1.out.1, H1.out.2⟩
  case round =>
    obtain ⟨k, rfl, hk, HI⟩ := hrel
    by_cases hlt : k < M
    · have d1 : decide ((k : Int) < (M : Int)) = true := decide_eq_true (by omega)
      have i1 : (0 : Int) ≤ (k : Int) := by omega
      have i2 : (k : Int) < (M : Int) := by omega
      obtain ⟨x, hxk⟩ : ∃ x, l[k]? = some x := ⟨_, List.getElem?_eq_getElem (by have := HV.out.1; omega)⟩
      have hxm := List.mem_of_getElem? hxk
      have hn := flat_step letterB hxk
      have hp := flat_pre letterB l (k + 1)
      rw [hn, List.length_append] at hp
      have hle := HV.out.2.2.2.2.2
      obtain ⟨g, o, fv, hva, hat⟩ := ltq_at HV.out.2.2.1 hxk
      subst hva
      obtain ⟨y0, y1, y1s, y2, y3⟩ := hat wr HI.out.2
      obtain ⟨W2, hW2⟩ : ∃ W, wr.alloc (.cells #[.int .i64 x.uid, fv, .int .i64 x.day, .string ⟨x.text.toArray⟩] 71) = W := ⟨_, rfl⟩
      have b2 : Below wr.heap.size wr W2 := by rw [← hW2]; exact (Below.refl _ _).alloc (Nat.le_refl _) _
      have e2 : W2.heap[wr.heap.size]? = some (.cells #[.int .i64 x.uid, fv, .int .i64 x.day, .string ⟨x.text.toArray⟩] 71 (0, 0)) := by rw [← hW2]; exact heap_alloc_new _ _
      have k2 : Wk B b wr W2 := Wk.of b2 (Nat.le_trans HV.out.2.2.2.2.1 HI.out.2.size)
      have cT := awletter_is B b _ x fv W2 (aw_below HI.out.1 b2) (Nat.le_trans (Nat.le_trans HV.out.2.2.2.2.1 HI.out.2.size) b2.size) (HV.out.2.1 x hxm) (fun W hW => (hat W ((HI.out.2.trans k2).trans hW)).2.2.1) (by rw [List.length_append, List.length_append]; omega) (HV.out.2.2.2.1.wk (HI.out.2.trans k2))
      have HN : Hid (∀ w', IsAw B b (out ++ numB (M : Int) ++ ((l.take k).map letterB).flatten ++ letterB x) w' → Wk B b W2 w' → IsAw B b (out ++ numB (M : Int) ++ ((l.take (k + 1)).map letterB).flatten) w' ∧ Wk B b w w') := fun w' q1 q2 => by
        rw [hn, ← List.append_assoc]
        exact ⟨q1, (HI.out.2.trans k2).trans q2⟩
      obtain ⟨XU, XF, XD, XT⟩ := x
      simp only at y0 y1 y2 y3 cT hW2 e2
      obtain ⟨fa, fc, rfl, _⟩ := id y1s
      obtain ⟨FL, hFL⟩ : ∃ n, XF.length = n := ⟨_, rfl⟩
      obtain ⟨tx, htx⟩ : ∃ t : ByteArray, ⟨XT.toArray⟩ = t := ⟨_, rfl⟩
      simp only [hFL, htx] at y1 y3 cT hW2 e2
      obtain ⟨lb, hlb⟩ : ∃ n, wr.heap.size = n := ⟨_, rfl⟩
      rw [hlb] at e2
      have z0 : W2.cell? ⟨lb, 0, none⟩ = some (.int .i64 XU) := rd_cell e2 rfl
      have z1 : W2.cell? ⟨lb, 1, none⟩ = some (.slice fa FL fc) := rd_cell e2 rfl
      have z2 : W2.cell? ⟨lb, 2, none⟩ = some (.int .i64 XD) := rd_cell e2 rfl
      have z3 : W2.cell? ⟨lb, 3, none⟩ = some (.string tx) := rd_cell e2 rfl
      clear hxk hxm hn hp hle HI hat y1s hFL htx e2 b2 k2
      go_wp2_with fail
      refine cT.mono ?_
      rintro e w' ⟨rfl, q1, q2⟩
      have HF : Hid _ := HN.out w' q1 q2
      clear q1 q2 cT HN
      go_wp2_with fail
      go_roundw
      case rel => exact ⟨k + 1, by go_num, by omega, HF⟩
      case measure => simp [intOf]; omega
    · have d1 : decide ((k : Int) < (M : Int)) = false := decide_eq_false (by omega)
      obtain rfl : k = M := by omega
      have HF : Hid (IsAw B b FIN wr ∧ Wk B b w wr) := by
        rw [HG.out]
        have := HI.out.1
        rw [List.take_of_length_le (by have := HV.out.1; omega)] at this
        exact ⟨this, HI.out.2⟩
      clear HI
      go_wp2_with fail
      go_end0
      exact ⟨rfl, HF.out.1, HF.out.2⟩
end Go.Proofs.YtdmplfflmdanlaaGreatDoor
