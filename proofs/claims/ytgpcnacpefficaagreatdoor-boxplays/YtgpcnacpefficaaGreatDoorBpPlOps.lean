/-
  Each deed, of the program and of the document, where both lie side by side.
  What letterboxlaw.fill does: texts of so many bytes.
-/
import Derived.Test.YtgpcnacpefficaaGreatDoorBpPlSt
import Derived.Test.YtgpcnacpefficaaGreatDoorMRbLook
import Derived.Test.YtgpcnacpefficaaGreatDoorMLwSame
import Derived.Test.YtgpcnacpefficaaGreatDoorBpBoxSpec
import Derived.Lib.ConvBytes
import Derived.WalkKit
import Derived.OwnWalk
import Derived.Laws.MakeOwn
namespace Go.Proofs.YtgpcnacpefficaaGreatDoor
open Go.RowKit Go.Proofs.Aid Go.Proofs.Bx

variable {w0 w w' : World} {bb wb vb ub : Nat} {K : List (Nat × Array Value)} {pt : TypeId} {vv n n2 : Int} {l l2 : List Lt} {S S2 : List Sg} {lv lw sv uv : Value}
/-- What Append leaves. -/
def apE (F : List Fl.Tx) (n : Int) (l : List Lt) (day : Int) (t : ByteArray) : Int := appE (Fl.setOf F).2 n l.length day t.size
def apV (F : List Fl.Tx) (n : Int) (l : List Lt) (day : Int) (t : ByteArray) : Int := if apE F n l day t = 0 then n else 0
def apN (F : List Fl.Tx) (n : Int) (l : List Lt) (day : Int) (t : ByteArray) : Int := if apE F n l day t = 0 then n + 1 else n
def apL (F : List Fl.Tx) (n : Int) (l : List Lt) (day : Int) (t : ByteArray) : List Lt := if apE F n l day t = 0 then l ++ [⟨n, (Fl.setOf F).1, day, t.data.toList⟩] else l
theorem rset_out (fv : Value) (F : List Fl.Tx) (w : World) (h : Sl w fv F) (hl : F.length ≤ 40) (hs : ∀ t ∈ F, t.length ≤ 100) : Calls Tryz.prog 17 #[fv] w fun e w' => RSetOut w (Fl.setOf F) e w' :=
  ref_set fv F w h (by omega) (fun t ht => by have := hs t ht; omega)
theorem pset_out (fv : Value) (F : List Fl.Tx) (w : World) (h : Sl w fv F) (hl : F.length ≤ 40) (hs : ∀ t ∈ F, t.length ≤ 100) (hg : SysAt w) : Calls Tryz.prog 40 #[fv] w fun e w' => SetOut w (Fl.setOf F) e w' :=
  set_any fv F w h (by omega) (fun t ht => by have := hs t ht; omega) hg
theorem app_prog (h : PS w0 w bb wb vb ub K pt vv n n2 l l2 S S2 lv lw sv uv) (hl : l.length ≤ 60) (hn : 1 ≤ n ∧ n ≤ 2147483647) (fv : Value) (F : List Fl.Tx) (day : Int) (t : ByteArray) (hf : Sl w0 fv F) (hF : F.length ≤ 40) (hFs : ∀ t ∈ F, t.length ≤ 100) (hg : SysAt w0) :
    Calls Tryz.prog 23 #[.pointer (some ⟨bb, 0, none⟩), fv, .int .i64 day, .string t] w fun e w' => ∃ ev lv', e = .returned (.tuple #[.int .i64 (apV F n l day t), ev]) ∧ ErrIs ev (apE F n l day t) ∧ PS w0 w' bb wb vb ub K pt vv (apN F n l day t) n2 (apL F n l day t) l2 S S2 lv' lw sv uv := by
  refine (box_append_new bb vv n day l fv (Fl.setOf F) t w h.boxAt (by omega) (by omega) (pset_out fv F w (hf.below h.base (Nat.le_refl _)) hF hFs (hg.below h.base hg.lt))).mono ?_
  rintro e w' (⟨hE, rfl, hb⟩ | ⟨hE, rfl, hN, hb⟩)
  · have h0 : apE F n l day t ≠ 0 := hE
    refine ⟨_, lv, by unfold apV; rw [if_neg h0]; rfl, Or.inr ⟨h0, rfl⟩, ?_⟩
    unfold apN apL
    rw [if_neg h0, if_neg h0]
    exact h.below hb
  · have h0 : apE F n l day t = 0 := hE
    obtain ⟨lv', hp⟩ := h.toBox hN hb
    refine ⟨_, lv', by unfold apV; rw [if_pos h0], Or.inl ⟨h0, rfl⟩, ?_⟩
    unfold apN apL
    rw [if_pos h0, if_pos h0]
    exact hp
theorem app_doc (h : PS w0 w bb wb vb ub K pt vv n n2 l l2 S S2 lv lw sv uv) (hl : l2.length ≤ 60) (hn : 1 ≤ n2 ∧ n2 ≤ 2147483647) (fv : Value) (F : List Fl.Tx) (day : Int) (t : ByteArray) (hf : Sl w0 fv F) (hF : F.length ≤ 40) (hFs : ∀ t ∈ F, t.length ≤ 100) :
    Calls Tryz.prog 22 #[.pointer (some ⟨wb, 0, none⟩), fv, .int .i64 day, .string t] w fun e w' => ∃ lw', e = .returned (.tuple #[.int .i64 (apV F n2 l2 day t), .int .i64 (apE F n2 l2 day t)]) ∧ PS w0 w' bb wb vb ub K pt vv n (apN F n2 l2 day t) l (apL F n2 l2 day t) S S2 lv lw' sv uv := by
  refine (rappend_is wb vv n2 day lw l2 fv (Fl.setOf F) t w h.rbox (by omega) (by omega) (rset_out fv F w (hf.below h.base (Nat.le_refl _)) hF hFs)).mono ?_
  rintro e w' (⟨hE, rfl, hb⟩ | ⟨hE, rfl, hN, hb⟩)
  · have h0 : apE F n2 l2 day t ≠ 0 := hE
    refine ⟨lw, by unfold apV; rw [if_neg h0]; rfl, ?_⟩
    unfold apN apL
    rw [if_neg h0, if_neg h0]
    exact h.below hb
  · have h0 : apE F n2 l2 day t = 0 := hE
    obtain ⟨lw', hp⟩ := h.toRBox hN hb
    refine ⟨lw', by unfold apV; rw [if_pos h0, h0], ?_⟩
    unfold apN apL
    rw [if_pos h0, if_pos h0]
    exact hp
/-- What Flag leaves. -/
def flE (l : List Lt) (u what : Int) (F : List Fl.Tx) : Int := if findB l u = true then (if (Fl.setOf F).2 ≠ 0 then (Fl.setOf F).2 else match l[findI l u]? with | some x => (chgF x.flags what (Fl.setOf F).1).2 | none => 0) else 7
def flL (l : List Lt) (u what : Int) (F : List Fl.Tx) : List Lt := if flE l u what F = 0 then (match l[findI l u]? with | some x => l.set (findI l u) (Lt.withF x (chgF x.flags what (Fl.setOf F).1).1) | none => l) else l
theorem flE_of {l : List Lt} {u what : Int} {F : List Fl.Tx} {E : Int} (hr : Rise l) (h1 : findB l u = false → E = 7) (h2 : findB l u = true → (Fl.setOf F).2 ≠ 0 → E = (Fl.setOf F).2) (h3 : ∀ x, findB l u = true → (Fl.setOf F).2 = 0 → l[findI l u]? = some x → E = (chgF x.flags what (Fl.setOf F).1).2) : flE l u what F = E := by
  unfold flE
  cases hB : findB l u with
  | false => rw [if_neg (by simp)]; exact (h1 hB).symm
  | true =>
    rw [if_pos rfl]
    by_cases h0 : (Fl.setOf F).2 ≠ 0
    · rw [if_pos h0]; exact (h2 hB h0).symm
    · rw [if_neg h0]
      obtain ⟨x, hx, _⟩ := find_true hr hB
      rw [hx]
      exact (h3 x hB (by simpa using h0) hx).symm
theorem flE_zero {l : List Lt} {u what : Int} {F : List Fl.Tx} {x : Lt} (hB : findB l u = true) (h0 : (Fl.setOf F).2 = 0) (hx : l[findI l u]? = some x) (hc : (chgF x.flags what (Fl.setOf F).1).2 = 0) : flE l u what F = 0 := by
  unfold flE
  rw [if_pos hB, if_neg (by simpa using h0), hx]
  exact hc
theorem flag_prog (h : PS w0 w bb wb vb ub K pt vv n n2 l l2 S S2 lv lw sv uv) (hI : PInv n l) (fv : Value) (F : List Fl.Tx) (u what : Int) (hf : Sl w0 fv F) (hF : F.length ≤ 40) (hFs : ∀ t ∈ F, t.length ≤ 100) (hg : SysAt w0) :
    Calls Tryz.prog 25 #[.pointer (some ⟨bb, 0, none⟩), .int .i64 u, .int .i64 what, fv] w fun e w' => ∃ ev lv', e = .returned ev ∧ ErrIs ev (flE l u what F) ∧ PS w0 w' bb wb vb ub K pt vv n n2 (flL l u what F) l2 S S2 lv' lw sv uv := by
  have hlen := hI.len
  refine (box_flag_new bb vv n u what l fv (Fl.setOf F) w h.boxAt hI.rise (by omega) (fun x hx => by have := (hI.ok x hx).2.2; omega) (by
    by_cases h0 : (Fl.setOf F).2 = 0
    · have := (setOf_ok h0).2.2; omega
    · rw [setOf_err h0]; simp) (hg.below h.base hg.lt) (fun W hW => pset_out fv F W ((hf.below h.base (Nat.le_refl _)).below hW (Nat.le_refl _)) hF hFs (hg.below (h.base.trans (hW.mono h.base.size)) hg.lt))).mono ?_
  rintro e w' (⟨E, hE, e1, e2, e3, rfl, hb⟩ | ⟨hB, h0, rfl, x, hx, hc, hN, hb⟩)
  · have hf0 := flE_of hI.rise e1 e2 e3
    refine ⟨_, lv, rfl, Or.inr ⟨by rw [hf0]; exact hE, by rw [hf0]⟩, ?_⟩
    unfold flL
    rw [if_neg (by rw [hf0]; exact hE)]
    exact h.below hb
  · have hf0 := flE_zero (what := what) hB h0 hx hc
    obtain ⟨lv', hp⟩ := h.toBox hN hb
    refine ⟨_, lv', rfl, Or.inl ⟨hf0, rfl⟩, ?_⟩
    unfold flL
    rw [if_pos hf0, hx]
    exact hp
theorem flag_doc (h : PS w0 w bb wb vb ub K pt vv n n2 l l2 S S2 lv lw sv uv) (hI : PInv n2 l2) (fv : Value) (F : List Fl.Tx) (u what : Int) (hf : Sl w0 fv F) (hF : F.length ≤ 40) (hFs : ∀ t ∈ F, t.length ≤ 100) :
    Calls Tryz.prog 26 #[.pointer (some ⟨wb, 0, none⟩), .int .i64 u, .int .i64 what, fv] w fun e w' => ∃ lw', e = .returned (.int .i64 (flE l2 u what F)) ∧ PS w0 w' bb wb vb ub K pt vv n n2 l (flL l2 u what F) S S2 lv lw' sv uv := by
  have hlen := hI.len
  refine (rflag_is wb vv n2 u what lw l2 fv (Fl.setOf F) w h.rbox hI.rise (by omega) hI.ok (fun h0 => setOf_ok h0) (fun W hW => rset_out fv F W ((hf.below h.base (Nat.le_refl _)).below hW (Nat.le_refl _)) hF hFs)).mono ?_
  rintro e w' (⟨E, hE, e1, e2, e3, rfl, hb⟩ | ⟨hB, h0, rfl, x, hx, hc, hN, hb⟩)
  · have hf0 := flE_of hI.rise e1 e2 e3
    refine ⟨lw, by rw [hf0], ?_⟩
    unfold flL
    rw [if_neg (by rw [hf0]; exact hE)]
    exact h.below hb
  · have hf0 := flE_zero (what := what) hB h0 hx hc
    obtain ⟨lw', hp⟩ := h.toRBox hN hb
    refine ⟨lw', by rw [hf0], ?_⟩
    unfold flL
    rw [if_pos hf0, hx]
    exact hp
theorem own_but {w w' : World} {base e size k : Nat} {v : Value} {xs : List Value} {kk : Nat} {arr : Array Value} {t : TypeId} (h : w.ownsRow base e size v k xs) (hb : But w.heap.size kk w w') (hk : w.heap[kk]? = some (.cells arr t (0, 0))) (hne : e ≠ t) : w'.ownsRow base e size v k xs :=
  own_same h fun q hq => hb.block q (h.lt q hq).2 fun e1 => row_off h hk hne (e1 ▸ hq)
theorem exp_prog (h : PS w0 w bb wb vb ub K pt vv n n2 l l2 S S2 lv lw sv uv) (hI : PInv n l) (f : FuncId) (caps : List Value) (p : Int → Bool) (hg : SysAt w0) (eg : ∀ args w, (callFunc f args).run Tryz.prog w = .ok (.enter f args) w)
    (cH : ∀ x ∈ l, ∀ W, Below w.heap.size w W → Calls Tryz.prog f (Value.int .i64 x.uid :: caps).toArray W fun e w' => e = .returned (.bool (p x.uid)) ∧ Below W.heap.size W w') :
    Calls Tryz.prog 29 #[.pointer (some ⟨bb, 0, none⟩), .func (.func f) #[] caps.toArray] w fun e w' => ∃ ov lv', e = .returned ov ∧ NOwn w' 0 ov (went p l) ∧ PS w0 w' bb wb vb ub K pt vv n n2 (stay p l) l2 S S2 lv' lw sv uv := by
  have hlen := hI.len
  refine (box_expunge_new bb vv n l f caps p w h.boxAt (by omega) (fun x hx => by have := (hI.ok x hx).2.2; omega) (hg.below h.base hg.lt) eg cH).mono ?_
  rintro e w' ⟨ov, rfl, hO, hN, hb⟩
  obtain ⟨lv', hp⟩ := h.toBox hN hb
  exact ⟨ov, lv', rfl, own_lower hO (Nat.zero_le _), hp⟩
theorem exp_doc (h : PS w0 w bb wb vb ub K pt vv n n2 l l2 S S2 lv lw sv uv) (hI : PInv n2 l2) (f : FuncId) (caps : List Value) (p : Int → Bool) (eg : ∀ args w, (callFunc f args).run Tryz.prog w = .ok (.enter f args) w)
    (cH : ∀ x ∈ l2, ∀ W, Below w.heap.size w W → Calls Tryz.prog f (Value.int .i64 x.uid :: caps).toArray W fun e w' => e = .returned (.bool (p x.uid)) ∧ Below W.heap.size W w') :
    Calls Tryz.prog 30 #[.pointer (some ⟨wb, 0, none⟩), .func (.func f) #[] caps.toArray] w fun e w' => ∃ ov lw', e = .returned ov ∧ NOwn w' 0 ov (went p l2) ∧ (∀ v ns, NOwn w 0 v ns → NOwn w' 0 v ns) ∧ PS w0 w' bb wb vb ub K pt vv n n2 l (stay p l2) S S2 lv lw' sv uv := by
  have hlen := hI.len
  refine (rexpunge_is wb vv n2 lw l2 f caps p w h.rbox (by omega) (fun x hx => by have := (hI.ok x hx).2.2; omega) eg cH).mono ?_
  rintro e w' ⟨ov, rfl, hO, hN, hb⟩
  obtain ⟨lw', hp⟩ := h.toRBox hN hb
  exact ⟨ov, lw', rfl, own_lower hO (Nat.zero_le _), fun v ns hv => own_but hv hb h.rbox.1 (by decide), hp⟩
/-- A row of news, of the program or of the document. -/
def NR (e : TypeId) (w : World) (v : Value) (N : List Nw) : Prop := ∃ rows : List (List Value), w.ownsRow 0 e 3 v N.length rows.flatten ∧ rows.length = N.length ∧ (∀ (j : Nat) x xs, N[j]? = some x → rows[j]? = some xs → ∃ fv, xs = [.int .i64 x.kind, .int .i64 x.n, fv] ∧ Sl w fv x.flags) ∧ ∀ xs ∈ rows, xs.length = 3
theorem NR.rd {e : TypeId} {w : World} {v : Value} {N : List Nw} (h : NR e w v N) : Rd3 w v N := by
  obtain ⟨rows, h1, h2, h3, h4⟩ := h
  exact own_rd3 h1 h2 h3 h4
theorem NR.fr {e : TypeId} {w w' : World} {v : Value} {N : List Nw} (h : NR e w v N) (hs : Strs w w') (hq : ∀ q, v.ownBlock = some q → w'.heap[q]? = w.heap[q]?) : NR e w' v N := by
  obtain ⟨rows, h1, h2, h3, h4⟩ := h
  exact ⟨rows, own_same h1 hq, h2, fun j x xs a b => by obtain ⟨fv, e1, e2⟩ := h3 j x xs a b; exact ⟨fv, e1, e2.strs hs⟩, h4⟩
theorem vkeep_strs {w w' : World} {vb : Nat} {sv : Value} {S : List Sg} (k : VKeep vb sv w w') (hv : ViewAt w vb sv S) : Strs w w' := fun p s hp => by
  obtain ⟨b, o, sp⟩ := p
  cases sp with
  | none => exact (World.cell?_of_block (a := ⟨b, o, none⟩) (k.texts hv (World.block_lt_of_cell? _ _ hp) fun hn => hn o s hp)).trans hp
  | some x =>
    unfold World.cell? at hp
    split at hp
    · simp at hp
    · cases hp
theorem look_prog (h : PS w0 w bb wb vb ub K pt vv n n2 l l2 S S2 lv lw sv uv) (hI : PInv n l) (hS : S.length ≤ 200) (hfs : ∀ s ∈ S, s.flags.length ≤ 1000) (gone : Bool) :
    Calls Tryz.prog 32 #[.pointer (some ⟨vb, 0, none⟩), .agg #[.int .i64 vv, .int .i64 n, lv], .bool gone] w fun e w' => ∃ ov sv', e = .returned ov ∧ NR 103 w' ov (lookN S l gone) ∧ (∀ v N, NR 104 w v N → NR 104 w' v N) ∧ PS w0 w' bb wb vb ub K pt vv n n2 l l2 (lookS S l gone) S2 lv lw sv' uv := by
  have hlen := hI.len
  refine (look_is vb sv S vv n lv l gone w h.view h.lts hI.rise (by omega) (fun x hx => by have := (hI.ok x hx).2.2; omega) hfs).mono ?_
  rintro e w' ⟨ov, rfl, hN, hV, _⟩
  obtain ⟨sv', hp⟩ := h.toView hV
  obtain ⟨_, _, k, _⟩ := hV
  refine ⟨ov, sv', rfl, ?_, fun v N hv => hv.fr (vkeep_strs k h.view) fun q hq => ?_, hp⟩
  · obtain ⟨rows, h1, h2, h3, h4, _⟩ := hN
    exact ⟨rows, h1, h2, fun j x xs a b => by obtain ⟨fv, e1, e2, _⟩ := h3 j x xs a b; exact ⟨fv, e1, e2⟩, h4⟩
  · obtain ⟨rows, r1, _⟩ := hv
    obtain ⟨rows', r2, _⟩ := h.view.2
    exact k.block q (r1.lt q hq).2 (fun e => row_off r1 h.view.1 (by decide) (e ▸ hq)) (own_apart r1 (own_lower r2 (Nat.zero_le _)) (by decide) hq)
theorem look_doc (h : PS w0 w bb wb vb ub K pt vv n n2 l l2 S S2 lv lw sv uv) (hI : PInv n2 l2) (hS : S2.length ≤ 200) (hfs : ∀ s ∈ S2, s.flags.length ≤ 1000) (gone : Bool) :
    Calls Tryz.prog 33 #[.pointer (some ⟨ub, 0, none⟩), .agg #[.int .i64 vv, .int .i64 n2, lw], .bool gone] w fun e w' => ∃ ov uv', e = .returned ov ∧ NR 104 w' ov (lookN S2 l2 gone) ∧ (∀ v N, NR 103 w v N → NR 103 w' v N) ∧ PS w0 w' bb wb vb ub K pt vv n n2 l l2 S (lookS S2 l2 gone) lv lw sv uv' := by
  have hlen := hI.len
  refine (rlook_is ub uv S2 vv n2 lw l2 gone w h.rview h.rbox.2 hI.rise (by omega) (fun x hx => by have := (hI.ok x hx).2.2; omega) hfs).mono ?_
  rintro e w' ⟨ov, uv', rfl, hN, hV, hf, hb⟩
  have hns : NoStr w ub := noStr_one h.rview.1 (by obtain ⟨a, c, e⟩ := h.rview.2.form; exact ⟨_, _, _, e⟩)
  have hst := but_strs hb (Nat.le_refl _) hns
  refine ⟨ov, uv', rfl, ?_, fun v N hv => hv.fr hst fun q hq => ?_, h.toRView hV hf hb⟩
  · obtain ⟨rows, h1, h2, h3, h4⟩ := hN
    exact ⟨rows, own_lower h1 (Nat.zero_le _), h2, fun j x xs a b => by obtain ⟨fv, e1, e2⟩ := h3 j x xs a b; exact ⟨fv, e1, e2.strs hst⟩, h4⟩
  · obtain ⟨rows, r1, _⟩ := hv
    exact hb.block q (r1.lt q hq).2 fun e => row_off r1 h.rview.1 (by decide) (e ▸ hq)
theorem know_prog (h : PS w0 w bb wb vb ub K pt vv n n2 l l2 S S2 lv lw sv uv) (hr : RiseS S) (hS : S.length ≤ 200) (u : Int) (fv : Value) (F : List Fl.Tx) (hf : Sl w0 fv F) (hF : F.length ≤ 40) :
    Calls Tryz.prog 34 #[.pointer (some ⟨vb, 0, none⟩), .int .i64 u, fv] w fun e w' => ∃ sv', e = .returned (.tuple #[]) ∧ PS w0 w' bb wb vb ub K pt vv n n2 l l2 (S.map (know1 u F)) S2 lv lw sv' uv := by
  refine (know_is vb sv S u fv F w h.view (by rw [rise_map, List.map_map]; exact riseS_map.1 hr) (by omega) (hf.below h.base (Nat.le_refl _)) (by omega)).mono ?_
  rintro e w' ⟨rfl, hV, k⟩
  obtain ⟨sv', hp⟩ := h.toView ⟨sv, hV, k, Near.refl _ _⟩
  exact ⟨sv', rfl, hp⟩
theorem know_doc (h : PS w0 w bb wb vb ub K pt vv n n2 l l2 S S2 lv lw sv uv) (hS : S2.length ≤ 200) (u : Int) (fv : Value) (F : List Fl.Tx) (hf : Sl w0 fv F) :
    Calls Tryz.prog 35 #[.pointer (some ⟨ub, 0, none⟩), .int .i64 u, fv] w fun e w' => e = .returned (.tuple #[]) ∧ PS w0 w' bb wb vb ub K pt vv n n2 l l2 S (S2.map (know1 u F)) lv lw sv uv := by
  refine (rknow_is ub uv S2 u fv F w h.rview (by omega) (hf.below h.base (Nat.le_refl _))).mono ?_
  rintro e w' ⟨rfl, hV, k⟩
  exact ⟨rfl, h.toKnow hV k⟩
end Go.Proofs.YtgpcnacpefficaaGreatDoor
namespace Go.Proofs
theorem Tryz.infoByteW : (Tryz.prog.info? 5).map (fun i => (i.zero, i.size, i.bytes)) = some (some (.int .u8 0), 1, 1) := by kernel_rfl
end Go.Proofs
namespace Go.Proofs.YtgpcnacpefficaaGreatDoor
open Go.RowKit Go.Proofs.Aid

set_option maxHeartbeats 1000000 in
set_option maxRecDepth 100000 in
theorem fill_is (N : Nat) (w : World) (hN : N ≤ 100000) :
    Calls Tryz.prog 21 #[.int .i64 (N : Int)] w fun e w' => (∃ t : ByteArray, e = .returned (.string t) ∧ t.size = N) ∧ Below w.heap.size w w' := by
  have hmk : (Instr.makeSlice 92 (.int .i64 (N : Int)) (.int .i64 (N : Int))).run Tryz.prog w = .ok (.slice (some ⟨w.heap.size, 0, none⟩) N N) (w.alloc (.cells (madeCells #[.int .u8 0] N) 5)) := by
    obtain ⟨i0, hi, hz⟩ := Option.map_eq_some_iff.1 Tryz.infoByteW
    simp only [Prod.mk.injEq] at hz
    obtain ⟨z0, z1, z2⟩ := hz
    have := run_make (P := Tryz.prog) w 92 5 i0 (.int .u8 0) Tryz.underlying92 hi z0 .i64 .i64 N N (by omega) (by omega) (by rw [z2]; omega) (by omega)
    rw [z1, Nat.mul_one, Int.toNat_natCast] at this
    exact this
  obtain ⟨B, hB⟩ : ∃ B, w.heap.size = B := ⟨_, rfl⟩
  have hBw : w.heap.size ≤ B := by omega
  have hb1 : Below w.heap.size w (w.alloc (.cells (madeCells #[.int .u8 0] N) 5)) := (Below.refl _ _).alloc (Nat.le_refl _) _
  have hall : ∀ j, j < N → (∃ u, (w.alloc (.cells (madeCells #[.int .u8 0] N) 5)).cell? ⟨B, j, none⟩ = some u) ∧ (w.alloc (.cells (madeCells #[.int .u8 0] N) 5)).frozen? ⟨B, j, none⟩ = false := fun j hj => by
    have hh := heap_alloc_new w (.cells (madeCells #[.int .u8 0] N) 5)
    rw [hB] at hh
    generalize w.alloc (.cells (madeCells #[.int .u8 0] N) 5) = W1 at hh
    have hsz := size_madeCells #[.int .u8 0] N
    generalize madeCells #[.int .u8 0] N = arr at hh hsz
    constructor
    · exact ⟨arr[j]'(by omega), by simp [World.cell?, hh, hsz, hj]⟩
    · simp [World.frozen?, hh]
  rw [hB] at hmk
  go_enter Tryz.func21, Tryz.ntmps21
  go_wp2_with fail
  go_loopw [4] (fun i wr => ∃ k : Nat, i = .int .i64 (k : Int) ∧ k ≤ N ∧ Hid (∀ j, j < N → (∃ u, wr.cell? ⟨B, j, none⟩ = some u) ∧ wr.frozen? ⟨B, j, none⟩ = false) ∧ Hid (∀ j, j < k → wr.cell? ⟨B, j, none⟩ = some (.int .u8 120)) ∧ Below w.heap.size w wr) (fun i _ => N - (intOf i).toNat)
  case atStart => exact ⟨0, rfl, by omega, hall, fun j hj => absurd hj (by omega), hb1⟩
  case round =>
    obtain ⟨k, rfl, hk, HC, HX, hbW⟩ := hrel
    by_cases hlt : k < N
    · obtain ⟨⟨u, c1⟩, f1⟩ := HC.out k hlt
      clear hall hmk
      go_wp2_with fail
      go_roundw
      case rel =>
        refine ⟨k + 1, by go_num, by omega, ?_, ?_, hbW.setCell hBw _⟩
        · intro j hj
          obtain ⟨⟨v, x1⟩, x2⟩ := HC.out j hj
          refine ⟨?_, by simpa using x2⟩
          by_cases hjk : j = k
          · subst hjk
            exact ⟨_, World.cell?_setCell_same _ _ _ c1⟩
          · exact ⟨v, by rw [World.cell?_setCell_other _ _ _ _ (fun e => hjk (by have := congrArg Addr.off e; simpa using this.symm)), x1]⟩
        · intro j hj
          by_cases hjk : j = k
          · subst hjk
            exact World.cell?_setCell_same _ _ _ c1
          · rw [World.cell?_setCell_other _ _ _ _ (fun e => hjk (by have := congrArg Addr.off e; simpa using this.symm))]
            exact HX.out j (by omega)
      case measure => simp [intOf]; omega
    · obtain rfl : k = N := by omega
      have hcv := run_convert_bytes_back wr 92 9 5 ⟨B, 0, none⟩ k (List.replicate k 120) Tryz.underlying92 Tryz.underlying5 Tryz.underlying9 (fun j hj => by
        rw [List.length_replicate] at hj
        rw [Addr.add_lit, Nat.zero_add, HX.out j hj, List.getElem_replicate]
        rfl)
      rw [List.length_replicate] at hcv
      obtain ⟨tt, htt⟩ : ∃ t : ByteArray, ⟨(List.replicate k (120 : UInt8)).toArray⟩ = t := ⟨_, rfl⟩
      have hsz : tt.size = k := by rw [← htt]; simp [ByteArray.size]
      rw [htt] at hcv
      clear hall hmk htt
      go_wp2_with fail
      go_ret
      exact ⟨⟨tt, rfl, hsz⟩, hbW⟩
end Go.Proofs.YtgpcnacpefficaaGreatDoor
