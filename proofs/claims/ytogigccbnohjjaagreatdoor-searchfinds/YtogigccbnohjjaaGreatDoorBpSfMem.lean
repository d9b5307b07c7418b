/-
  The document's reader of keys, in memory: it notes what was wrong firs, and more.
-/
import Derived.Test.YtogigccbnohjjaaGreatDoorBpRefParseSet
namespace Go.Proofs.YtogigccbnohjjaaGreatDoor
open Go.RowKit Go.Proofs.Aid Go.Proofs.Sq Go.Proofs.Hd
set_option maxHeartbeats 2000000
set_option maxRecDepth 100000
def KyS (w : World) (kb : Nat) (n E : Int) : Prop := w.heap[kb]? = some (.cells #[.int .i64 n, .int .i64 E] 56 (0, 0))
theorem KyS.kept {w w' : World} {kb : Nat} {n E : Int} (h : KyS w kb n E) (hb : w'.heap[kb]? = w.heap[kb]?) : KyS w' kb n E := hb.trans h
theorem KyS.lt {w : World} {kb : Nat} {n E : Int} (h : KyS w kb n E) : kb < w.heap.size := (Array.getElem?_eq_some_iff.1 h).1
def RelK {α : Type} (R : Sr.Rs α) (a : α) (l : List Sr.Ar) (n E : Int) : Prop := match R with
 | .bad x => E = x ∧ x ≠ 0
 | .ok a' l' c => E = 0 ∧ a = a' ∧ l = l' ∧ n = (c : Int)
def atK {α : Type} (g : List Sr.Ar → Nat → Sr.Rs α) (l : List Sr.Ar) (n E : Int) : Sr.Rs α := if E = 0 then g l n.toNat else .bad E
theorem atK_ok {α : Type} (g : List Sr.Ar → Nat → Sr.Rs α) (l : List Sr.Ar) (c : Nat) : atK g l (c : Int) 0 = g l c := by unfold atK; rw [if_pos rfl, Int.toNat_natCast]
theorem atK_bad {α : Type} (g : List Sr.Ar → Nat → Sr.Rs α) (l : List Sr.Ar) (n : Int) {E : Int} (h : E ≠ 0) : atK g l n E = .bad E := if_neg h
theorem RelK.then {α β : Type} {R : Sr.Rs α} {a : α} {l l' : List Sr.Ar} {n n' E E' : Int} {k : α → List Sr.Ar → Nat → Sr.Rs β} {b : β} (h : RelK R a l n E) (h' : RelK (atK (k a) l n E) b l' n' E') : RelK (R.then k) b l' n' E' := by
 cases R with
 | bad x =>
  obtain ⟨rfl, hx⟩ := h
  rw [atK_bad _ _ _ hx] at h'
  exact h'
 | ok a' l1 c =>
  obtain ⟨rfl, rfl, rfl, rfl⟩ := h
  rw [atK_ok] at h'
  exact h'
theorem RelK.map {α β : Type} {R : Sr.Rs α} {a : α} {l : List Sr.Ar} {n E : Int} (f : α → β) (h : RelK R a l n E) : RelK (R.map f) (f a) l n E := by
 cases R with
 | bad x => exact h
 | ok a' l1 c =>
  obtain ⟨rfl, rfl, rfl, rfl⟩ := h
  exact ⟨rfl, rfl, rfl, rfl⟩
theorem atK_map {α β : Type} (f : α → β) (g : List Sr.Ar → Nat → Sr.Rs α) (l : List Sr.Ar) (n E : Int) : atK (fun l c => (g l c).map f) l n E = (atK g l n E).map f := by
 unfold atK
 split <;> rfl
theorem RelK.pos {α : Type} {R : Sr.Rs α} {a : α} {l : List Sr.Ar} {n E : Int} (h : RelK R a l n E) : E = 0 → 0 ≤ n := by
 intro h0
 cases R with
 | bad x => exact absurd h0 (by rw [h.1]; exact h.2)
 | ok a' l1 c => rw [h.2.2.2]; omega
def Took (E x E' : Int) : Prop := (E = 0 ∧ E' = x) ∨ (E ≠ 0 ∧ E' = E)
theorem kfails (kb : Nat) (n E x : Int) (w : World) (hr : KyS w kb n E) :
  Calls Tryz.prog 58 #[.pointer (some ⟨kb, 0, none⟩), .int .i64 x] w fun e w' => ∃ E', e = .returned (.tuple #[]) ∧ KyS w' kb n E' ∧ But w.heap.size kb w w' ∧ Took E x E' := by
 have p1 : w.cell? ⟨kb, 1, none⟩ = some (.int .i64 E) := rd_cell hr rfl
 have f1 : w.frozen? ⟨kb, 1, none⟩ = false := rd_free hr 1
 by_cases hE : E = 0
 ·subst hE
  have HK : Hid (KyS (w.setCell ⟨kb, 1, none⟩ (.int .i64 x)) kb n x) := rd_set (i := 1) (.int .i64 x) hr
  clear hr
  go_enter Tryz.func58, Tryz.ntmps58
  go_wp2_with fail
  first
   | go_end0
   | refine bodyPost_ret (results_none rfl _ _ _) rfl ?_
  exact ⟨x, rfl, HK.out, (to_but (Below.refl _ w)).setB 1 _, Or.inl ⟨rfl, rfl⟩⟩
 ·have i1 : (E == 0) = false := by simpa using hE
  have HK : Hid (KyS w kb n E ∧ E ≠ 0) := ⟨hr, hE⟩
  clear hr hE
  go_enter Tryz.func58, Tryz.ntmps58
  go_wp2_with fail
  first
   | go_end0
   | refine bodyPost_ret (results_none rfl _ _ _) rfl ?_
  exact ⟨E, rfl, HK.out.1, to_but (Below.refl _ w), Or.inr ⟨HK.out.2, rfl⟩⟩
theorem ags_none (w : World) (Ok : Nat → Prop) (B : Nat) : Ags w Ok B [] (.slice none 0 0) := Ags.mk [] none 0 (fun _ => ⟨#[]⟩) (fun _ => .slice none 0 0) (by simp) (by omega) (fun j x hj => by simp at hj) (fun j x hj => by simp at hj) (Or.inl rfl)
def OutW (w : World) (kb B : Nat) (Ok : Nat → Prop) (l : List Sr.Ar) (n E : Int) (e : Ending) (w' : World) : Prop :=
 ∃ (tb : ByteArray) (v' : Value) (l' : List Sr.Ar) (E' : Int), e = .returned (.tuple #[.string tb, v']) ∧ tb.size ≤ B ∧ Ags w' Ok B l' v' ∧ KyS w' kb n E' ∧ But w.heap.size kb w w' ∧ RelK (atK Sr.wordF l n E) tb.data.toList l' n E'
theorem word_rel {l : List Sr.Ar} {n E E' : Int} {t : Sr.Tx} {l' : List Sr.Ar} (h : Sr.wordF l n.toNat = .bad 3) (ht : Took E 3 E') : RelK (atK Sr.wordF l n E) t l' n E' := by
 rcases ht with ⟨rfl, rfl⟩ | ⟨h1, rfl⟩
 ·unfold atK
  rw [if_pos rfl, h]
  exact ⟨rfl, by decide⟩
 ·rw [atK_bad _ _ _ h1]
  exact ⟨rfl, h1⟩
theorem kword_bad (kb B : Nat) (n E : Int) (l : List Sr.Ar) (v : Value) (Ok : Nat → Prop) (w : World) (hr : KyS w kb n E) (hl : Ags w Ok B l v) (h : Sr.wordF l n.toNat = .bad 3) :
  Calls Tryz.prog 59 #[.pointer (some ⟨kb, 0, none⟩), v] w fun e w' => OutW w kb B Ok l n E e w' := by
 have cF := kfails kb n E 3 w hr
 have HD : Hid (∀ w' E', KyS w' kb n E' → But w.heap.size kb w w' → Took E 3 E' → OutW w kb B Ok l n E (.returned (.tuple #[.string ⟨#[]⟩, .slice none 0 0])) w') := fun w' E' h1 h2 h3 =>
  ⟨⟨#[]⟩, .slice none 0 0, [], E', rfl, Nat.zero_le _, ags_none _ _ _, h1, h2, word_rel h h3⟩
 cases l with
 | nil =>
  obtain ⟨a, cc, rfl⟩ := hl.nil
  clear hl hr h
  go_enter Tryz.func59, Tryz.ntmps59
  go_wp2_with fail
  refine cF.mono ?_
  rintro e w1 ⟨E', rfl, h1, h2, h3⟩
  have HF := HD.out w1 E' h1 h2 h3
  clear h1 h2 h3 HD
  have HG : Hid (OutW w kb B Ok [] n E (.returned (.tuple #[.string ⟨#[]⟩, .slice none 0 0])) w1) := HF
  clear HF
  go_wp2_with fail
  go_ret2
  exact HG.out
 | cons x l =>
  have hk : x.kind = 3 := by
   rw [Sr.wordF] at h
   split at h
   ·assumption
   ·cases h
  obtain ⟨b, o, C, tb, lv, rfl, hC, hC2, _, _, _, _, c1, c2, c3, _⟩ := hl.head
  rw [hk] at c1
  obtain ⟨L, hL⟩ : ∃ L, l.length = L := ⟨_, rfl⟩
  rw [hL] at hC
  have i1 : (((L : Int) + 1) == 0) = false := by simp; omega
  rw [hL]
  clear hl h hk hL hr
  go_enter Tryz.func59, Tryz.ntmps59
  go_wp2_with fail
  refine cF.mono ?_
  rintro e w1 ⟨E', rfl, h1, h2, h3⟩
  have HF := HD.out w1 E' h1 h2 h3
  clear h1 h2 h3 HD
  have HG : Hid (OutW w kb B Ok (x :: l) n E (.returned (.tuple #[.string ⟨#[]⟩, .slice none 0 0])) w1) := HF
  clear HF
  go_wp2_with fail
  go_ret2
  exact HG.out
theorem kword_ok (kb B : Nat) (n E : Int) (x : Sr.Ar) (l : List Sr.Ar) (v : Value) (Ok : Nat → Prop) (w : World) (hr : KyS w kb n E) (hl : Ags w Ok B (x :: l) v) (hk : x.kind ≠ 3) (h0 : E = 0 → 0 ≤ n) :
  Calls Tryz.prog 59 #[.pointer (some ⟨kb, 0, none⟩), v] w fun e w' => OutW w kb B Ok (x :: l) n E e w' := by
 obtain ⟨b, o, C, tb, lv, rfl, hC, hC2, _, htb, hsz, _, c1, c2, c3, hrest⟩ := hl.head
 have hkb : (x.kind == 3) = false := by simpa using hk
 have HD : Hid (OutW w kb B Ok (x :: l) n E (.returned (.tuple #[.string tb, .slice (if C = 0 then some ⟨b, o, none⟩ else some ⟨b, o + 3, none⟩) l.length C])) w.drew) := by
  refine ⟨tb, _, l, E, rfl, hsz, hrest.kept fun k hk _ => ⟨hk, rfl⟩, hr, to_but (Below.refl _ _).drew, ?_⟩
  by_cases hE : E = 0
  ·subst hE
   unfold atK
   rw [if_pos rfl, Sr.wordF, if_neg hk]
   exact ⟨rfl, htb, rfl, (Int.toNat_of_nonneg (h0 rfl)).symm⟩
  ·rw [atK_bad _ _ _ hE]
   exact ⟨rfl, hE⟩
 obtain ⟨K, hK⟩ : ∃ K, x.kind = K := ⟨_, rfl⟩
 rw [hK] at c1 hkb
 obtain ⟨L, hL⟩ : ∃ L, l.length = L := ⟨_, rfl⟩
 rw [hL] at hC HD ⊢
 have i1 : (((L : Int) + 1) == 0) = false := by simp; omega
 have i2 : (1 : Int) ≤ (L : Int) + 1 := by omega
 have i3 : (L : Int) + 1 ≤ (C : Int) + 1 := by omega
 clear hl hrest hk hL hK hr htb hsz h0
 rcases Nat.eq_zero_or_pos C with hC0 | hC0
 ·subst hC0
  obtain rfl : L = 0 := by omega
  rw [if_pos rfl] at HD
  go_enter Tryz.func59, Tryz.ntmps59
  go_wp2_with fail
  refine wp_region_held_drew (S := fun W => W.cell? ⟨b, o + 1, none⟩ = some (.string tb)) (by kernel_rfl) ?_ (fun hHeld => ?_)
  ·exact c2
  refine wpAnyH_take (i := 0) (v := ?_) rfl (by kernel_rfl) (by kernel_rfl) (by kernel_rfl) (fun _ _ _ h => h) (Or.inl ⟨by rfl, ?_⟩) (by assumption) ?_
  rotate_left
  ·intro w hSw; go_simp; (try with_reducible rfl)
  change wpAnyH _ _ _ _ _ _ _ (Act.put _ (some 18) _) _; simp only [Act.put, List.setIfInBounds_toArray, List.set_cons_zero, List.set_cons_succ]
  refine wpAnyH_take (i := 1) (v := ?_) rfl (by kernel_rfl) (by kernel_rfl) (by kernel_rfl) (fun _ _ _ h => h) (Or.inl ⟨by rfl, ?_⟩) (by assumption) ?_
  rotate_left
  ·intro w hSw; go_simp; (try with_reducible rfl)
  change wpAnyH _ _ _ _ _ _ _ (Act.put _ (some 19) _) _; simp only [Act.put, List.setIfInBounds_toArray, List.set_cons_zero, List.set_cons_succ]
  refine wpAnyH_take (i := 2) (v := ?_) rfl (by kernel_rfl) (by kernel_rfl) (by kernel_rfl) (fun _ _ _ h => h) (Or.inl ⟨by rfl, ?_⟩) (by assumption) ?_
  rotate_left
  ·intro w hSw; go_simp; (try with_reducible rfl)
  change wpAnyH _ _ _ _ _ _ _ (Act.put _ (some 20) _) _; simp only [Act.put, List.setIfInBounds_toArray, List.set_cons_zero, List.set_cons_succ]
  refine wpAnyH_take (i := 3) (v := ?_) rfl (by kernel_rfl) (by kernel_rfl) (by kernel_rfl) (fun _ _ _ h => h) (Or.inl ⟨by rfl, ?_⟩) (by assumption) ?_
  rotate_left
  ·intro w hSw; go_simp; (try with_reducible rfl)
  change wpAnyH _ _ _ _ _ _ _ (Act.put _ (some 21) _) _; simp only [Act.put, List.setIfInBounds_toArray, List.set_cons_zero, List.set_cons_succ]
  refine wpAnyH_take (i := 4) (v := ?_) rfl (by kernel_rfl) (by kernel_rfl) (by kernel_rfl) (fun _ _ _ h => h) (Or.inl ⟨by rfl, ?_⟩) (by assumption) ?_
  rotate_left
  ·intro w hSw; go_simp; (try with_reducible rfl)
  change wpAnyH _ _ _ _ _ _ _ (Act.put _ (some 22) _) _; simp only [Act.put, List.setIfInBounds_toArray, List.set_cons_zero, List.set_cons_succ]
  refine wpAnyH_take (i := 5) (v := ?_) rfl (by kernel_rfl) (by kernel_rfl) (by kernel_rfl) (fun _ _ _ h => h) (Or.inl ⟨by rfl, ?_⟩) (by assumption) ?_
  rotate_left
  ·intro w hSw; go_simp; (try with_reducible rfl)
  change wpAnyH _ _ _ _ _ _ _ (Act.put _ (some 23) _) _; simp only [Act.put, List.setIfInBounds_toArray, List.set_cons_zero, List.set_cons_succ]
  refine wpAnyH_take (i := 6) (v := ?_) rfl (by kernel_rfl) (by kernel_rfl) (by kernel_rfl) (fun _ _ _ h => h) (Or.inl ⟨by rfl, ?_⟩) (by assumption) ?_
  rotate_left
  ·intro w hSw; go_simp; (try with_reducible rfl)
  change wpAnyH _ _ _ _ _ _ _ (Act.put _ (some 4) _) _; simp only [Act.put, List.setIfInBounds_toArray, List.set_cons_zero, List.set_cons_succ]
  refine wpAnyH_take (i := 7) (v := ?_) rfl (by kernel_rfl) (by kernel_rfl) (by kernel_rfl) (fun _ _ _ h => h) (Or.inl ⟨by rfl, ?_⟩) (by assumption) ?_
  rotate_left
  ·intro w hSw; go_simp; (try with_reducible rfl)
  change wpAnyH _ _ _ _ _ _ _ (Act.put _ (some 5) _) _; simp only [Act.put, List.setIfInBounds_toArray, List.set_cons_zero, List.set_cons_succ]
  refine wpAnyH_done (by kernel_rfl) ?_ _
  go_wp2_with fail
  go_ret2
  exact HD.out
 ·have hC1 : ¬ C = 0 := by omega
  rw [if_neg hC1] at HD
  go_enter Tryz.func59, Tryz.ntmps59
  go_wp2_with fail
  refine wp_region_held_drew (S := fun W => W.cell? ⟨b, o + 1, none⟩ = some (.string tb)) (by kernel_rfl) ?_ (fun hHeld => ?_)
  ·exact c2
  refine wpAnyH_take (i := 0) (v := ?_) rfl (by kernel_rfl) (by kernel_rfl) (by kernel_rfl) (fun _ _ _ h => h) (Or.inl ⟨by rfl, ?_⟩) (by assumption) ?_
  rotate_left
  ·intro w hSw; go_simp; (try with_reducible rfl)
  change wpAnyH _ _ _ _ _ _ _ (Act.put _ (some 18) _) _; simp only [Act.put, List.setIfInBounds_toArray, List.set_cons_zero, List.set_cons_succ]
  refine wpAnyH_take (i := 1) (v := ?_) rfl (by kernel_rfl) (by kernel_rfl) (by kernel_rfl) (fun _ _ _ h => h) (Or.inl ⟨by rfl, ?_⟩) (by assumption) ?_
  rotate_left
  ·intro w hSw; go_simp; (try with_reducible rfl)
  change wpAnyH _ _ _ _ _ _ _ (Act.put _ (some 19) _) _; simp only [Act.put, List.setIfInBounds_toArray, List.set_cons_zero, List.set_cons_succ]
  refine wpAnyH_take (i := 2) (v := ?_) rfl (by kernel_rfl) (by kernel_rfl) (by kernel_rfl) (fun _ _ _ h => h) (Or.inl ⟨by rfl, ?_⟩) (by assumption) ?_
  rotate_left
  ·intro w hSw; go_simp; (try with_reducible rfl)
  change wpAnyH _ _ _ _ _ _ _ (Act.put _ (some 20) _) _; simp only [Act.put, List.setIfInBounds_toArray, List.set_cons_zero, List.set_cons_succ]
  refine wpAnyH_take (i := 3) (v := ?_) rfl (by kernel_rfl) (by kernel_rfl) (by kernel_rfl) (fun _ _ _ h => h) (Or.inl ⟨by rfl, ?_⟩) (by assumption) ?_
  rotate_left
  ·intro w hSw; go_simp; (try with_reducible rfl)
  change wpAnyH _ _ _ _ _ _ _ (Act.put _ (some 21) _) _; simp only [Act.put, List.setIfInBounds_toArray, List.set_cons_zero, List.set_cons_succ]
  refine wpAnyH_take (i := 4) (v := ?_) rfl (by kernel_rfl) (by kernel_rfl) (by kernel_rfl) (fun _ _ _ h => h) (Or.inl ⟨by rfl, ?_⟩) (by assumption) ?_
  rotate_left
  ·intro w hSw; go_simp; (try with_reducible rfl)
  change wpAnyH _ _ _ _ _ _ _ (Act.put _ (some 22) _) _; simp only [Act.put, List.setIfInBounds_toArray, List.set_cons_zero, List.set_cons_succ]
  refine wpAnyH_take (i := 5) (v := ?_) rfl (by kernel_rfl) (by kernel_rfl) (by kernel_rfl) (fun _ _ _ h => h) (Or.inl ⟨by rfl, ?_⟩) (by assumption) ?_
  rotate_left
  ·intro w hSw; go_simp; (try with_reducible rfl)
  change wpAnyH _ _ _ _ _ _ _ (Act.put _ (some 23) _) _; simp only [Act.put, List.setIfInBounds_toArray, List.set_cons_zero, List.set_cons_succ]
  refine wpAnyH_take (i := 6) (v := ?_) rfl (by kernel_rfl) (by kernel_rfl) (by kernel_rfl) (fun _ _ _ h => h) (Or.inl ⟨by rfl, ?_⟩) (by assumption) ?_
  rotate_left
  ·intro w hSw; go_simp; (try with_reducible rfl)
  change wpAnyH _ _ _ _ _ _ _ (Act.put _ (some 4) _) _; simp only [Act.put, List.setIfInBounds_toArray, List.set_cons_zero, List.set_cons_succ]
  refine wpAnyH_take (i := 7) (v := ?_) rfl (by kernel_rfl) (by kernel_rfl) (by kernel_rfl) (fun _ _ _ h => h) (Or.inl ⟨by rfl, ?_⟩) (by assumption) ?_
  rotate_left
  ·intro w hSw; go_simp; (try with_reducible rfl)
  change wpAnyH _ _ _ _ _ _ _ (Act.put _ (some 5) _) _; simp only [Act.put, List.setIfInBounds_toArray, List.set_cons_zero, List.set_cons_succ]
  refine wpAnyH_done (by kernel_rfl) ?_ _
  go_wp2_with fail
  go_ret2
  exact HD.out
theorem kword (kb B : Nat) (n E : Int) (l : List Sr.Ar) (v : Value) (Ok : Nat → Prop) (w : World) (hr : KyS w kb n E) (hl : Ags w Ok B l v) (h0 : E = 0 → 0 ≤ n) :
  Calls Tryz.prog 59 #[.pointer (some ⟨kb, 0, none⟩), v] w fun e w' => OutW w kb B Ok l n E e w' := by
 cases l with
 | nil => exact kword_bad kb B n E [] v Ok w hr hl rfl
 | cons x l =>
  by_cases hk : x.kind = 3
  ·exact kword_bad kb B n E (x :: l) v Ok w hr hl (by rw [Sr.wordF, if_pos hk])
  ·exact kword_ok kb B n E x l v Ok w hr hl hk h0
end Go.Proofs.YtogigccbnohjjaaGreatDoor
namespace Go.Proofs.YtogigccbnohjjaaGreatDoor
open Go.RowKit Go.Proofs.Aid Go.Proofs.Sq Go.Proofs.Hd
set_option maxHeartbeats 2000000
set_option maxRecDepth 100000
def EnvK (w : World) (kb : Nat) : Prop := ∀ W, But w.heap.size kb w W → NumAt W ∧ ∃ m, W.cell? ⟨1, 0, none⟩ = some (.int .i64 m)
theorem EnvK.next {w W : World} {kb : Nat} (h : EnvK w kb) (hb : But w.heap.size kb w W) : EnvK W kb := fun W' h' => h W' (hb.trans (h'.less hb.size))
theorem rel_took {α : Type} {g : List Sr.Ar → Nat → Sr.Rs α} {l : List Sr.Ar} {n E E' x : Int} {a : α} (hx : x ≠ 0) (hg : ∀ l c, g l c = .bad x) (ht : Took E x E') : RelK (atK g l n E) a l n E' := by
 rcases ht with ⟨rfl, rfl⟩ | ⟨h1, rfl⟩
 ·unfold atK
  rw [if_pos rfl, hg]
  exact ⟨rfl, hx⟩
 ·rw [atK_bad _ _ _ h1]
  exact ⟨rfl, h1⟩
theorem rel_kept {α : Type} {g : List Sr.Ar → Nat → Sr.Rs α} {l : List Sr.Ar} {n E : Int} {a : α} (h0 : E = 0 → 0 ≤ n) (hg : ∀ l c, g l c = .ok a l c) : RelK (atK g l n E) a l n E := by
 by_cases hE : E = 0
 ·subst hE
  unfold atK
  rw [if_pos rfl, hg]
  exact ⟨rfl, rfl, rfl, (Int.toNat_of_nonneg (h0 rfl)).symm⟩
 ·rw [atK_bad _ _ _ hE]
  exact ⟨rfl, hE⟩
theorem kset (kb : Nat) (n E m : Int) (s : ByteArray) (w : World) (hr : KyS w kb n E) (h0 : E = 0 → 0 ≤ n) (hs : s.size ≤ 1000000) (hm : w.cell? ⟨1, 0, none⟩ = some (.int .i64 m)) (hg : NumAt w) :
  Calls Tryz.prog 62 #[.pointer (some ⟨kb, 0, none⟩), .string s] w fun e w' => ∃ (a : Option Addr) (k c : Nat) (r : List (Nat × Nat)) (E' : Int), e = .returned (.slice a k c) ∧ StS w' (fun q => w.heap.size ≤ q) (.slice a k c) r ∧ KyS w' kb n E' ∧ But w.heap.size kb w w' ∧ ∀ l, RelK (atK (Sr.setF s.data.toList) l n E) r l n E' := by
 have cP := ref_parse s m w hs hm hg
 have hlt := hr.lt
 have HR : Hid (∀ W, Below w.heap.size w W → KyS W kb n E) := fun W hb => hr.kept (hb.block kb hlt)
 clear hm hg hr
 go_enter Tryz.func62, Tryz.ntmps62
 go_wp2_with fail
 refine cP.mono ?_
 rintro e w1 ⟨hb, h⟩
 have hr1 := HR.out w1 hb
 clear cP HR
 have HB : Hid (Below w.heap.size w w1) := hb
 clear hb
 rcases h with ⟨h1, rfl⟩ | ⟨h1, rfl⟩ | ⟨l, v, h1, h2, rfl, h3⟩
 ·have cF := kfails kb n E 3 w1 hr1
  have H1 : Hid (∀ l c, Sr.setF s.data.toList l c = .bad 3) := fun l c => by rw [Sr.setF, h1]
  clear h1 hr1
  go_wp2_with fail
  refine cF.mono ?_
  rintro e w2 ⟨E', rfl, k1, k2, k3⟩
  have HF : Hid (KyS w2 kb n E' ∧ But w.heap.size kb w w2 ∧ ∀ l, RelK (atK (Sr.setF s.data.toList) l n E) [] l n E') := ⟨k1, (to_but HB.out).trans (k2.less HB.out.size), fun l => rel_took (by decide) H1.out k3⟩
  clear k1 k2 k3 cF
  go_wp2_with fail
  go_ret
  exact ⟨none, 0, 0, [], E', rfl, StS.nil _ _, HF.out⟩
 ·have cF := kfails kb n E 4 w1 hr1
  have H1 : Hid (∀ l c, Sr.setF s.data.toList l c = .bad 4) := fun l c => by rw [Sr.setF, h1]
  clear h1 hr1
  go_wp2_with fail
  refine cF.mono ?_
  rintro e w2 ⟨E', rfl, k1, k2, k3⟩
  have HF : Hid (KyS w2 kb n E' ∧ But w.heap.size kb w w2 ∧ ∀ l, RelK (atK (Sr.setF s.data.toList) l n E) [] l n E') := ⟨k1, (to_but HB.out).trans (k2.less HB.out.size), fun l => rel_took (by decide) H1.out k3⟩
  clear k1 k2 k3 cF
  go_wp2_with fail
  go_ret
  exact ⟨none, 0, 0, [], E', rfl, StS.nil _ _, HF.out⟩
 ·obtain ⟨a, c, rfl, h4⟩ := h3
  have HF : Hid (StS w1 (fun q => w.heap.size ≤ q) (.slice a l.length c) l ∧ KyS w1 kb n E ∧ But w.heap.size kb w w1 ∧ ∀ l', RelK (atK (Sr.setF s.data.toList) l' n E) l l' n E) := ⟨⟨a, c, rfl, h4⟩, hr1, to_but HB.out, fun l' => rel_kept h0 fun l c => by rw [Sr.setF, h1]⟩
  obtain ⟨L, hL⟩ : ∃ L, l.length = L := ⟨_, rfl⟩
  rw [hL] at HF ⊢
  clear h1 h2 h4 hr1 hL h0
  go_wp2_with fail
  go_ret
  exact ⟨a, L, c, l, E, rfl, HF.out⟩
theorem kflag (kb : Nat) (n E : Int) (s : ByteArray) (w : World) (hr : KyS w kb n E) (h0 : E = 0 → 0 ≤ n) (hs : s.size ≤ 1000000) :
  Calls Tryz.prog 60 #[.pointer (some ⟨kb, 0, none⟩), .string s] w fun e w' => ∃ (nb : ByteArray) (E' : Int), e = .returned (.agg #[.int .i64 2, .string nb, .string ⟨#[]⟩, .int .i64 0, .slice none 0 0, .slice none 0 0]) ∧ nb.data.toList = (Fl.fname s.data.toList).1 ∧ KyS w' kb n E' ∧ But w.heap.size kb w w' ∧ ∀ l, RelK (atK (Sr.flagF s.data.toList) l n E) (Sr.flagK (Fl.fname s.data.toList).1) l n E' := by
 have b1 : Below w.heap.size w (w.alloc (.cells #[.int .i64 0, .string ⟨#[]⟩, .string ⟨#[]⟩, .int .i64 0, .slice none 0 0, .slice none 0 0] 32)) := (Below.refl _ _).alloc (Nat.le_refl _) _
 have e1 := heap_alloc_new w (.cells #[.int .i64 0, .string ⟨#[]⟩, .string ⟨#[]⟩, .int .i64 0, .slice none 0 0, .slice none 0 0] 32)
 obtain ⟨W1, hW1⟩ : ∃ W, w.alloc (.cells #[.int .i64 0, .string ⟨#[]⟩, .string ⟨#[]⟩, .int .i64 0, .slice none 0 0, .slice none 0 0] 32) = W := ⟨_, rfl⟩
 have z1 : W1.heap.size = w.heap.size + 1 := by rw [← hW1]; simp
 rw [hW1] at b1 e1
 have hlt := hr.lt
 have cN := ref_name s W1 hs
 obtain ⟨F, hF⟩ : ∃ F, Fl.fname s.data.toList = F := ⟨_, rfl⟩
 have HFK : Hid (∀ l c, Sr.flagF s.data.toList l c = if F.2 = 0 then .ok (Sr.flagK F.1) l c else .bad F.2) := fun l c => by rw [Sr.flagF, hF]
 rw [hF] at cN ⊢
 have HX : Hid (∀ W, Below W1.heap.size W1 W → KyS W kb n E ∧ But w.heap.size kb w W ∧ W.heap[w.heap.size]? = some (.cells #[.int .i64 0, .string ⟨#[]⟩, .string ⟨#[]⟩, .int .i64 0, .slice none 0 0, .slice none 0 0] 32 (0, 0)) ∧ w.heap.size + 1 ≤ W.heap.size) := fun W hb =>
  ⟨hr.kept ((hb.block kb (by omega)).trans (b1.block kb hlt)), to_but (b1.trans (hb.mono (by omega))), (hb.block _ (by omega)).trans e1, by have := hb.size; omega⟩
 clear b1 e1 hF hr z1
 go_enter Tryz.func60, Tryz.ntmps60
 go_wp2_with fail
 refine cN.mono ?_
 rintro e w2 ⟨⟨nb, rfl, hnb⟩, hb⟩
 obtain ⟨hr2, hbt2, e2, hs2⟩ := HX.out w2 hb
 clear hb cN HX
 by_cases hE2 : F.2 = 0
 ·have H1 : Hid (nb.data.toList = F.1 ∧ ∀ l, RelK (atK (Sr.flagF s.data.toList) l n E) (Sr.flagK F.1) l n E) := ⟨hnb, fun l' => rel_kept h0 fun l c => by rw [HFK.out, if_pos hE2]⟩
  obtain ⟨⟨s0, s1, s2, s3, s4, s5⟩, ⟨sf0, sf1, sf2, sf3, sf4, sf5⟩, v0, v1, v2, v3, v4, v5⟩ := six_facts e2 (.int .i64 2) (.string nb) (.string ⟨#[]⟩) (.int .i64 0) (.slice none 0 0) (.slice none 0 0)
  have HD : Hid (KyS w2 kb n E ∧ But w.heap.size kb w w2) := ⟨hr2, hbt2⟩
  rw [hE2]
  clear hnb HFK hr2 hbt2 e2 hE2 h0
  go_wp2_with fail
  refine bodyPost_ret (v := .agg #[.int .i64 2, .string nb, .string ⟨#[]⟩, .int .i64 0, .slice none 0 0, .slice none 0 0]) (by simp [results, Tryz.results60, go_sem, v0, v1, v2, v3, v4, v5]) rfl ?_
  exact ⟨nb, E, rfl, H1.out.1, HD.out.1.kept (six_other _ (by omega) _ _ _ _ _ _), six_but HD.out.2 (Nat.le_refl _) _ _ _ _ _ _, H1.out.2⟩
 ·have cF := kfails kb n E F.2 w2 hr2
  have H1 : Hid (nb.data.toList = F.1 ∧ ∀ E', Took E F.2 E' → ∀ l, RelK (atK (Sr.flagF s.data.toList) l n E) (Sr.flagK F.1) l n E') := ⟨hnb, fun E' ht l' => rel_took hE2 (fun l c => by rw [HFK.out, if_neg hE2]) ht⟩
  have i1 : (F.2 == 0) = false := by simpa using hE2
  obtain ⟨F2, hF2⟩ : ∃ F2, F.2 = F2 := ⟨_, rfl⟩
  rw [hF2] at cF H1 i1 ⊢
  have HD : Hid (But w.heap.size kb w w2 ∧ w2.heap[w.heap.size]? = some (.cells #[.int .i64 0, .string ⟨#[]⟩, .string ⟨#[]⟩, .int .i64 0, .slice none 0 0, .slice none 0 0] 32 (0, 0))) := ⟨hbt2, e2⟩
  clear hnb HFK hr2 hbt2 e2 hE2 h0 hF2
  go_wp2_with fail
  refine cF.mono ?_
  rintro e w3 ⟨E', rfl, k1, k2, k3⟩
  have e3 := (k2.block w.heap.size (by omega) (by omega)).trans HD.out.2
  obtain ⟨⟨s0, s1, s2, s3, s4, s5⟩, ⟨sf0, sf1, sf2, sf3, sf4, sf5⟩, v0, v1, v2, v3, v4, v5⟩ := six_facts e3 (.int .i64 2) (.string nb) (.string ⟨#[]⟩) (.int .i64 0) (.slice none 0 0) (.slice none 0 0)
  have HG : Hid (KyS w3 kb n E' ∧ But w.heap.size kb w w3 ∧ ∀ l, RelK (atK (Sr.flagF s.data.toList) l n E) (Sr.flagK F.1) l n E') := ⟨k1, HD.out.1.trans (k2.less (by omega)), H1.out.2 E' k3⟩
  clear k1 k2 k3 cF e3 HD
  go_wp2_with fail
  refine bodyPost_ret (v := .agg #[.int .i64 2, .string nb, .string ⟨#[]⟩, .int .i64 0, .slice none 0 0, .slice none 0 0]) (by simp [results, Tryz.results60, go_sem, v0, v1, v2, v3, v4, v5]) rfl ?_
  exact ⟨nb, E', rfl, H1.out.1, HG.out.1.kept (six_other _ (by omega) _ _ _ _ _ _), six_but HG.out.2.1 (Nat.le_refl _) _ _ _ _ _ _, HG.out.2.2⟩
theorem knots (k : Sr.Ky) (xs : List Value) (Ok : Nat → Prop) (w : World) (h : Kx w Ok k xs) :
  Calls Tryz.prog 61 #[.agg xs.toArray] w fun e w' => ∃ ys, e = .returned (.agg ys.toArray) ∧ Kx w' (fun q => Ok q ∨ w.heap.size ≤ q) (Sr.notK k) ys ∧ Below w.heap.size w w' := by
 obtain ⟨x0, x3, x1, x2, xa, xk, xc, ya, yk, yc, rfl⟩ := kx_cells h
 have hta : ([.int .i64 x0, .string x1, .string x2, .int .i64 x3, .slice xa xk xc, .slice ya yk yc] : List Value).toArray = #[.int .i64 x0, .string x1, .string x2, .int .i64 x3, .slice xa xk xc, .slice ya yk yc] := rfl
 rw [hta]
 have b1 : Below w.heap.size w (w.alloc (.cells #[.int .i64 x0, .string x1, .string x2, .int .i64 x3, .slice xa xk xc, .slice ya yk yc] 32)) := (Below.refl _ _).alloc (Nat.le_refl _) _
 have e1 := heap_alloc_new w (.cells #[.int .i64 x0, .string x1, .string x2, .int .i64 x3, .slice xa xk xc, .slice ya yk yc] 32)
 have z1 : (w.alloc (.cells #[.int .i64 x0, .string x1, .string x2, .int .i64 x3, .slice xa xk xc, .slice ya yk yc] 32)).heap.size = w.heap.size + 1 := by simp
 obtain ⟨W1, hW1⟩ : ∃ W, w.alloc (.cells #[.int .i64 x0, .string x1, .string x2, .int .i64 x3, .slice xa xk xc, .slice ya yk yc] 32) = W := ⟨_, rfl⟩
 rw [hW1] at b1 e1 z1
 have b2 : Below W1.heap.size W1 (W1.alloc (.cells #[.int .i64 0, .string ⟨#[]⟩, .string ⟨#[]⟩, .int .i64 0, .slice none 0 0, .slice none 0 0] 32)) := (Below.refl _ _).alloc (Nat.le_refl _) _
 have e2 := heap_alloc_new W1 (.cells #[.int .i64 0, .string ⟨#[]⟩, .string ⟨#[]⟩, .int .i64 0, .slice none 0 0, .slice none 0 0] 32)
 have z2 : (W1.alloc (.cells #[.int .i64 0, .string ⟨#[]⟩, .string ⟨#[]⟩, .int .i64 0, .slice none 0 0, .slice none 0 0] 32)).heap.size = W1.heap.size + 1 := by simp
 obtain ⟨W2, hW2⟩ : ∃ W, W1.alloc (.cells #[.int .i64 0, .string ⟨#[]⟩, .string ⟨#[]⟩, .int .i64 0, .slice none 0 0, .slice none 0 0] 32) = W := ⟨_, rfl⟩
 rw [hW2] at b2 e2 z2
 have b02 := b1.trans (b2.mono (by omega))
 have eA := (b2.block w.heap.size (by omega)).trans e1
 rw [z1] at e2
 have t0 := rd_cell (j := 0) eA rfl
 have t1 := rd_cell (j := 1) eA rfl
 have t2 := rd_cell (j := 2) eA rfl
 have t3 := rd_cell (j := 3) eA rfl
 have t4 := rd_cell (j := 4) eA rfl
 have t5 := rd_cell (j := 5) eA rfl
 have b3 : Below W2.heap.size W2 (W2.alloc (.cells #[.int .i64 x0, .string x1, .string x2, .int .i64 x3, .slice xa xk xc, .slice ya yk yc] 32)) := (Below.refl _ _).alloc (Nat.le_refl _) _
 have e3 := heap_alloc_new W2 (.cells #[.int .i64 x0, .string x1, .string x2, .int .i64 x3, .slice xa xk xc, .slice ya yk yc] 32)
 obtain ⟨W3, hW3⟩ : ∃ W, W2.alloc (.cells #[.int .i64 x0, .string x1, .string x2, .int .i64 x3, .slice xa xk xc, .slice ya yk yc] 32) = W := ⟨_, rfl⟩
 rw [hW3] at b3 e3
 have z3 : W3.heap.size = W2.heap.size + 1 := by rw [← hW3]; simp
 have eR3 := (b3.block (w.heap.size + 1) (by omega)).trans e2
 have b03 := b02.trans (b3.mono (by omega))
 obtain ⟨⟨r0, r1, r2, r3, r4, r5⟩, ⟨rf0, rf1, rf2, rf3, rf4, rf5⟩, v0, v1, v2, v3, v4, v5⟩ := six_facts eR3 (.int .i64 13) (.string ⟨#[]⟩) (.string ⟨#[]⟩) (.int .i64 0) (.slice none 0 0) (.slice (some ⟨W2.heap.size, 0, none⟩) 1 1)
 have HK : Hid (Kx W3 (fun q => Ok q ∧ q < w.heap.size ∨ W2.heap.size ≤ q) (Sr.notK k) [.int .i64 13, .string ⟨#[]⟩, .string ⟨#[]⟩, .int .i64 0, .slice none 0 0, .slice (some ⟨W2.heap.size, 0, none⟩) 1 1]) := kx_not (h.kept fun q hq hlt => ⟨Or.inl ⟨hq, hlt⟩, b03.block q hlt⟩) (Or.inr (Nat.le_refl _)) (fun i x hx => rd_cell e3 (by simpa using hx))
 have hz2 : W2.heap.size = w.heap.size + 2 := by omega
 rw [hz2] at HK v5
 clear h hta e1 e2 e3 eA b1 b2 b3
 go_enter Tryz.func61, Tryz.ntmps61
 go_wp2_with fail
 refine bodyPost_ret (v := .agg #[.int .i64 13, .string ⟨#[]⟩, .string ⟨#[]⟩, .int .i64 0, .slice none 0 0, .slice (some ⟨w.heap.size + 2, 0, none⟩) 1 1]) (by simp [results, Tryz.results61, go_sem, v0, v1, v2, v3, v4, v5]) rfl ?_
 exact ⟨_, rfl, HK.out.kept fun q hq hlt => ⟨hq.elim (fun h => Or.inl h.1) (fun h => Or.inr (by omega)), six_other _ (hq.elim (fun h => by have := h.2; omega) (fun h => by omega)) _ _ _ _ _ _⟩, (six_but (rb := w.heap.size) (to_but b03) (by omega) _ _ _ _ _ _).below (Nat.le_refl _) (Nat.le_refl _)⟩
end Go.Proofs.YtogigccbnohjjaaGreatDoor
