/-
  Flags in a row of messages put anew; the document's view is told to know.
-/
import Derived.Test.YtgpcnacpefficaaGreatDoorMRbView
namespace Go.Proofs.YtgpcnacpefficaaGreatDoor
open Go.RowKit Go.Proofs.Aid Go.Proofs.Bx

theorem lown_set {w0 w : World} {base g cap k : Nat} {v : Value} {l : List Lt} {x : Lt} (h : LOwn w0 w base v l) (hv : v = .slice (some ⟨g, 0, none⟩) l.length cap) (hk : l[k]? = some x) {fv : Value} {F : List Fl.Tx} (hf : Sl w0 fv F) :
    LOwn w0 (w.setCell ⟨g, k * 4 + 1, none⟩ fv) base v (l.set k ⟨x.uid, F, x.day, x.text⟩) ∧ (∃ a n c, w.cell? ⟨g, k * 4 + 1, none⟩ = some (.slice a n c)) ∧ w.frozen? ⟨g, k * 4 + 1, none⟩ = false := by
  obtain ⟨rows, h1, h2, h3, h4⟩ := id h
  subst hv
  have hkl := (List.getElem?_eq_some_iff.1 hk).1
  rcases h1.2 with ⟨hz, _⟩ | ⟨g', cap', cur, hv, hb, hh, hnc, hcm, hcs, htk⟩
  · cases hz
  injection hv with hv _ hv2
  injection hv with hv
  injection hv with hv _ _
  subst hv
  subst hv2
  have e9 := rd_set (i := k * 4 + 1) fv hh
  have hrk : rows[k]? = some (rows[k]'(by omega)) := List.getElem?_eq_getElem (by omega)
  obtain ⟨fu, e1, hfu⟩ := h3 k x _ hk hrk
  obtain ⟨ua, uc, hfue, _⟩ := id hfu
  refine ⟨⟨rows.set k [.int .i64 x.uid, fv, .int .i64 x.day, .string ⟨x.text.toArray⟩], ⟨?_, Or.inr ⟨g, cap, _, by rw [List.length_set], hb, e9, by rw [List.length_set]; exact hnc, hcm, by rw [Array.size_setIfInBounds]; exact hcs, ?_⟩⟩, by simp [h2], fun j y ys hj hy => ?_, fun xs hx => ?_⟩, ⟨ua, x.flags.length, uc, ?_⟩, rd_free hh _⟩
  · rw [flat4_len (fun xs hx => by
      rcases List.mem_or_eq_of_mem_set hx with h | h
      · exact h4 xs h
      · rw [h]; rfl), List.length_set, List.length_set, h2]
  · rw [List.length_set, Array.toList_setIfInBounds, List.take_set, htk]
    apply List.ext_getElem?
    intro i
    rw [List.getElem?_set]
    by_cases hi : i < l.length * 4
    · have hd : i = i / 4 * 4 + i % 4 := by omega
      have hjr : rows[i / 4]? = some (rows[i / 4]'(by omega)) := List.getElem?_eq_getElem (by omega)
      have hfl := flat4_get (i := i % 4) h4 hjr (by omega)
      rw [← hd] at hfl
      have h4' : ∀ xs ∈ rows.set k [.int .i64 x.uid, fv, .int .i64 x.day, .string ⟨x.text.toArray⟩], xs.length = 4 := fun xs hx => by
        rcases List.mem_or_eq_of_mem_set hx with h | h
        · exact h4 xs h
        · rw [h]; rfl
      have hlt' : i / 4 < (rows.set k [.int .i64 x.uid, fv, .int .i64 x.day, .string ⟨x.text.toArray⟩]).length := by rw [List.length_set]; omega
      have hfl' := flat4_get (i := i % 4) h4' (List.getElem?_eq_getElem hlt') (by omega)
      rw [← hd] at hfl'
      rw [hfl']
      by_cases hik : k = i / 4
      · subst hik
        rw [List.getElem_set_self]
        by_cases h1i : i % 4 = 1
        · rw [if_pos (by omega), if_pos (by rw [flat4_len h4, h2]; omega), h1i]
          rfl
        · rw [if_neg (by omega), hfl, e1]
          have : i % 4 = 0 ∨ i % 4 = 2 ∨ i % 4 = 3 := by omega
          rcases this with h | h | h <;> rw [h] <;> rfl
      · rw [List.getElem_set_ne hik, if_neg (by omega), hfl]
    · have hl1 : rows.flatten.length = l.length * 4 := by rw [flat4_len h4, h2]
      have hl2 : (rows.set k [.int .i64 x.uid, fv, .int .i64 x.day, .string ⟨x.text.toArray⟩]).flatten.length = l.length * 4 := by
        rw [flat4_len (fun xs hx => by
          rcases List.mem_or_eq_of_mem_set hx with h | h
          · exact h4 xs h
          · rw [h]; rfl), List.length_set, h2]
      rw [if_neg (by omega), List.getElem?_eq_none (by omega), List.getElem?_eq_none (by omega)]
  · by_cases hjk : k = j
    · subst hjk
      rw [List.getElem?_set_self hkl] at hj
      rw [List.getElem?_set_self (by omega)] at hy
      obtain rfl := Option.some.inj hj
      obtain rfl := Option.some.inj hy
      exact ⟨fv, rfl, hf⟩
    · rw [List.getElem?_set_ne hjk] at hj hy
      exact h3 j y ys hj hy
  · rcases List.mem_or_eq_of_mem_set hx with h | h
    · exact h4 xs h
    · rw [h]; rfl
  · rw [h1.cellAt (k * 4 + 1) (by omega), flat4_get h4 hrk (by omega), e1, hfue]
    rfl
/-- A message of a row of the call's own can be read. -/
theorem lown_at {w0 w : World} {base : Nat} {v : Value} {l : List Lt} (h : LOwn w0 w base v l) {k : Nat} {x : Lt} (hk : l[k]? = some x) : ∃ g cap fv, v = .slice (some ⟨g, 0, none⟩) l.length cap ∧ base ≤ g ∧ g < w.heap.size ∧
    w.cell? ⟨g, k * 4, none⟩ = some (.int .i64 x.uid) ∧ w.cell? ⟨g, k * 4 + 1, none⟩ = some fv ∧ w.cell? ⟨g, k * 4 + 2, none⟩ = some (.int .i64 x.day) ∧ w.cell? ⟨g, k * 4 + 3, none⟩ = some (.string ⟨x.text.toArray⟩) ∧ Sl w0 fv x.flags := by
  obtain ⟨rows, h1, h2, h3, h4⟩ := h
  have hkl : k < l.length := (List.getElem?_eq_some_iff.1 hk).1
  rcases h1.2 with ⟨_, h0⟩ | ⟨g, cap, cur, rfl, hg, hh, _⟩
  · omega
  · have hjr : rows[k]? = some (rows[k]'(by omega)) := List.getElem?_eq_getElem (by omega)
    obtain ⟨fv, hx, hs⟩ := h3 k x _ hk hjr
    have hc : ∀ i u, i < 4 → (rows[k]'(by omega))[i]? = some u → w.cell? ⟨g, k * 4 + i, none⟩ = some u := fun i u hi hu => by
      rw [h1.cellAt (k * 4 + i) (by omega), flat4_get h4 hjr hi]
      exact hu
    refine ⟨g, cap, fv, rfl, hg, (Array.getElem?_eq_some_iff.1 hh).1, ?_, hc 1 fv (by omega) (by rw [hx]; rfl), hc 2 _ (by omega) (by rw [hx]; rfl), hc 3 _ (by omega) (by rw [hx]; rfl), hs⟩
    have := hc 0 (.int .i64 x.uid) (by omega) (by rw [hx]; rfl)
    rwa [Nat.add_zero] at this
/-- Nothing but a row's flags is changed: no text anywhere. -/
structure UKeep (uv : Value) (w w' : World) : Prop where
  os : w'.os = w.os
  tape : w'.tape = w.tape
  output : w'.output = w.output
  size : w'.heap.size = w.heap.size
  block : ∀ q, uv.ownBlock ≠ some q → w'.heap[q]? = w.heap[q]?
  strs : ∀ p s, w.cell? p = some (.string s) → w'.cell? p = some (.string s)
theorem UKeep.refl (uv : Value) (w : World) : UKeep uv w w := ⟨rfl, rfl, rfl, rfl, fun _ _ => rfl, fun _ _ h => h⟩
theorem UKeep.trans {uv : Value} {w w1 w2 : World} (h : UKeep uv w w1) (k : UKeep uv w1 w2) : UKeep uv w w2 := ⟨k.os.trans h.os, k.tape.trans h.tape, k.output.trans h.output, k.size.trans h.size, fun q hq => (k.block q hq).trans (h.block q hq), fun p s hs => k.strs p s (h.strs p s hs)⟩
theorem Sl.strs {w w' : World} {v : Value} {l : List Fl.Tx} (h : Sl w v l) (hs : ∀ p s, w.cell? p = some (.string s) → w'.cell? p = some (.string s)) : Sl w' v l := by
  obtain ⟨a, c, h1, h0, h2⟩ := h
  refine ⟨a, c, h1, h0, ?_⟩
  rcases h2 with h2 | ⟨b, o, h3, h4⟩
  · exact Or.inl h2
  · exact Or.inr ⟨b, o, h3, fun j z hj => hs _ _ (h4 j z hj)⟩
theorem set_strs {w : World} {g i : Nat} {v : Value} {a : Option Addr} {n c : Nat} (h : w.cell? ⟨g, i, none⟩ = some (.slice a n c)) : ∀ p s, w.cell? p = some (.string s) → (w.setCell ⟨g, i, none⟩ v).cell? p = some (.string s) := fun p s hp => by
  have hne : p ≠ ⟨g, i, none⟩ := fun e => by rw [e, h] at hp; cases hp
  rw [World.cell?_setCell_other (h := Ne.symm hne)]
  exact hp
/-- What is known of one, when it is told. -/
def know1 (u : Int) (F : List Fl.Tx) (s : Sg) : Sg := if s.uid = u then ⟨s.uid, F⟩ else s
def knowAt (u : Int) (F : List Fl.Tx) (S : List Sg) (k : Nat) : List Sg := (S.take k).map (know1 u F) ++ S.drop k
theorem knowAt_len (u : Int) (F : List Fl.Tx) (S : List Sg) (k : Nat) : (knowAt u F S k).length = S.length := by
  unfold knowAt
  rw [List.length_append, List.length_map, List.length_take, List.length_drop]; omega
theorem knowAt_at {u : Int} {F : List Fl.Tx} {S : List Sg} {k : Nat} {s : Sg} (h : S[k]? = some s) : (knowAt u F S k)[k]? = some s := by
  have hk := (List.getElem?_eq_some_iff.1 h).1
  unfold knowAt
  rw [List.getElem?_append_right (by rw [List.length_map, List.length_take]; omega), List.length_map, List.length_take, Nat.min_eq_left (by omega), Nat.sub_self, List.getElem?_drop, Nat.add_zero, h]
theorem knowAt_set {u : Int} {F : List Fl.Tx} {S : List Sg} {k : Nat} {s : Sg} (h : S[k]? = some s) : (knowAt u F S k).set k (know1 u F s) = knowAt u F S (k + 1) := by
  have hk := (List.getElem?_eq_some_iff.1 h).1
  unfold knowAt
  rw [List.take_add_one, h, Option.toList_some, List.map_append, List.append_assoc, List.set_append_right _ _ (by rw [List.length_map, List.length_take]; omega), List.length_map, List.length_take, Nat.min_eq_left (by omega), Nat.sub_self, List.drop_eq_getElem_cons hk, (List.getElem?_eq_some_iff.1 h).2]
  rfl
theorem knowAt_same {u : Int} {F : List Fl.Tx} {S : List Sg} {k : Nat} {s : Sg} (h : S[k]? = some s) (hu : s.uid ≠ u) : knowAt u F S (k + 1) = knowAt u F S k := by
  rw [← knowAt_set h]
  have : know1 u F s = s := if_neg hu
  rw [this]
  obtain ⟨hk, e⟩ := List.getElem?_eq_some_iff.1 (knowAt_at (u := u) (F := F) h)
  rw [← e]
  exact List.set_getElem_self hk
theorem map_set_sg {T : List Sg} {k : Nat} {s : Sg} (F : List Fl.Tx) : (T.map sgLt).set k ⟨s.uid, F, 0, []⟩ = (T.set k ⟨s.uid, F⟩).map sgLt := by
  rw [List.map_set]
  rfl
set_option maxHeartbeats 4000000 in
set_option maxRecDepth 100000 in
theorem rknow_is (ub : Nat) (uv : Value) (S : List Sg) (u : Int) (fv : Value) (F : List Fl.Tx) (w : World) (h : RView w ub uv S) (hS : S.length ≤ 900) (hf : Sl w fv F) :
    Calls Tryz.prog 35 #[.pointer (some ⟨ub, 0, none⟩), .int .i64 u, fv] w fun e w' => e = .returned (.tuple #[]) ∧ RView w' ub uv (S.map (know1 u F)) ∧ UKeep uv w w' := by
  obtain ⟨a, c, rfl⟩ := h.2.form
  rw [List.length_map] at h ⊢
  obtain ⟨fa, fc, hfv, hfr⟩ := id hf
  clear hfr
  obtain ⟨FL, hFL⟩ : ∃ z, F.length = z := ⟨_, rfl⟩
  rw [hFL] at hfv
  subst hfv
  have HSF : Hid (Sl w (.slice fa FL fc) F) := hf
  obtain ⟨m, hm⟩ : ∃ m, S.length = m := ⟨_, rfl⟩
  have HM : Hid (S.length = m) := hm
  rw [hm] at h hS ⊢
  have p0 : w.cell? ⟨ub, 0, none⟩ = some (.slice a m c) := rd_cell h.1 rfl
  have HV : Hid (RView w ub (.slice a m c) S) := h
  clear h hf hm hFL
  go_enter Tryz.func35, Tryz.ntmps35
  go_wp2_with fail
  go_loopw [12] (fun i wr => ∃ k : Nat, i = .int .i64 (k : Int) ∧ k ≤ m ∧ Hid (RView wr ub (.slice a m c) (knowAt u F S k) ∧ UKeep (.slice a m c) w wr)) (fun i _ => m - (intOf i).toNat)
  case atStart => exact ⟨0, rfl, Nat.zero_le _, HV.out, UKeep.refl _ _⟩
  case round =>
    obtain ⟨k, rfl, hk, HI⟩ := hrel
    have r0 : wr.cell? ⟨ub, 0, none⟩ = some (.slice a m c) := rd_cell HI.out.1.1 rfl
    by_cases hlt : k < m
    · have hkl : k < S.length := by rw [HM.out]; exact hlt
      obtain ⟨s, hs⟩ : ∃ s, S[k] = s := ⟨_, rfl⟩
      have hsk : S[k]? = some s := by rw [List.getElem?_eq_getElem hkl, hs]
      have hTk : ((knowAt u F S k).map sgLt)[k]? = some (sgLt s) := by rw [List.getElem?_map, knowAt_at hsk]; rfl
      obtain ⟨g, cap, gv, ev, hg00, hgl, q00, q1, q2, q3, hgv⟩ := lown_at HI.out.1.2 hTk
      rw [List.length_map, knowAt_len, HM.out] at ev
      injection ev with ev _ ec
      subst ev
      subst ec
      obtain ⟨XU, hXU⟩ : ∃ z, s.uid = z := ⟨_, rfl⟩
      have q0 : wr.cell? ⟨g, k * 4, none⟩ = some (.int .i64 XU) := by rw [q00, ← hXU]; rfl
      clear q00 hgv hg00
      have i1 : (0 : Int) ≤ (k : Int) := by omega
      have i2 : (k : Int) < (m : Int) := by omega
      by_cases he : XU = u
      · have hset := lown_set HI.out.1.2 (g := g) (cap := c) (by rw [List.length_map, knowAt_len, HM.out]) hTk (fv := .slice fa FL fc) (F := F) (HSF.out.strs HI.out.2.strs)
        obtain ⟨hO, ⟨oa, on, oc, hold⟩, hfz⟩ := hset
        have hstr := set_strs (v := .slice fa FL fc) hold
        have hot : ∀ q, q ≠ g → (wr.setCell ⟨g, k * 4 + 1, none⟩ (.slice fa FL fc)).heap[q]? = wr.heap[q]? := fun q hq => Below.heap_setCell _ _ _ _ hq
        have hug : ub ≠ g := fun e => by
          have h1 := HI.out.1.1
          rw [e] at h1
          obtain ⟨rows, r1, _⟩ := HI.out.1.2
          exact row_off r1 h1 (by decide) rfl
        have hs1 : know1 u F s = ⟨s.uid, F⟩ := if_pos (by rw [hXU]; exact he)
        have HD : Hid (RView (wr.setCell ⟨g, k * 4 + 1, none⟩ (.slice fa FL fc)) ub (.slice (some ⟨g, 0, none⟩) m c) (knowAt u F S (k + 1)) ∧ UKeep (.slice (some ⟨g, 0, none⟩) m c) w (wr.setCell ⟨g, k * 4 + 1, none⟩ (.slice fa FL fc))) := by
          refine ⟨⟨(hot ub hug).trans HI.out.1.1, ?_⟩, HI.out.2.trans ⟨rfl, rfl, rfl, by simp, fun q hq => hot q fun e => hq (by rw [e]; rfl), hstr⟩⟩
          rw [← knowAt_set hsk, hs1, ← map_set_sg]
          exact hO.now fun fv' F' h' => h'.strs hstr
        subst he
        clear hs hsk hTk hXU hO hstr hot hug hs1 HI hkl q1 q2 q3
        go_wp2_with fail
        go_roundw
        case rel => exact ⟨k + 1, by go_num, by omega, HD.out⟩
        case measure => simp [intOf]; omega
      · have hne : (XU == u) = false := by rw [beq_eq_false_iff_ne]; exact he
        have HD : Hid (RView wr ub (.slice (some ⟨g, 0, none⟩) m c) (knowAt u F S (k + 1)) ∧ UKeep (.slice (some ⟨g, 0, none⟩) m c) w wr) := by
          unfold Hid
          rw [knowAt_same hsk (by rw [hXU]; exact he)]
          exact HI.out
        clear hs hsk hTk hXU HI hkl q1 q2 q3
        go_wp2_with fail
        go_roundw
        case rel => exact ⟨k + 1, by go_num, by omega, HD.out⟩
        case measure => simp [intOf]; omega
    · have HF : Hid (RView wr ub (.slice a m c) (S.map (know1 u F)) ∧ UKeep (.slice a m c) w wr) := by
        have := HI.out
        unfold knowAt at this
        rw [List.take_of_length_le (by rw [HM.out]; omega), List.drop_of_length_le (by rw [HM.out]; omega), List.append_nil] at this
        exact this
      clear HI
      go_wp2_with fail
      go_end0
      exact ⟨rfl, HF.out⟩
end Go.Proofs.YtgpcnacpefficaaGreatDoor
