/-
  What is read deep, and behind others, is read the same where less lies around it. Of no program.
  What is looked for is a logic. Plain mathematics.
  Every key that words tell fits: how deep it is, how many lie in it, how long its texts are.
-/
import Derived.Test.YtligkpcoajnjmaaGreatDoorRAl01
import Derived.Test.YtligkpcoajnjmaaGreatDoorRAl12
import Derived.Test.YtligkpcoajnjmaaGreatDoorRSearchIs3
namespace Go.Proofs.Sr
open Go.Proofs.Sq

/-- What g tells, g' tells too, where d fewer were counted. -/
def Mn {α : Type} (s : Nat) (g g' : List Ar → Nat → Rs α) : Prop := ∀ l c k r c', g l c = .ok k r c' → c + s ≤ c' ∧ (c ≤ 60 → c' ≤ 60) ∧ ∀ d, d ≤ c → g' l (c - d) = .ok k r (c' - d)
theorem Mn.map {α β : Type} {s : Nat} {g g' : List Ar → Nat → Rs α} (f : α → β) (h : Mn s g g') : Mn s (fun l c => (g l c).map f) (fun l c => (g' l c).map f) := by
  intro l c k r c' e
  simp only at e
  cases hg : g l c with
  | bad x => rw [hg] at e; cases e
  | ok a r1 c1 =>
    rw [hg] at e
    cases e
    obtain ⟨h1, h2, h3⟩ := h l c a r c' hg
    exact ⟨h1, h2, fun d hd => by show (g' l (c - d)).map f = _; rw [h3 d hd]; rfl⟩
theorem Mn.then {α β : Type} {s t : Nat} {g g' : List Ar → Nat → Rs α} {k k' : α → List Ar → Nat → Rs β} (h : Mn s g g') (hk : ∀ a, Mn t (k a) (k' a)) : Mn (s + t) (fun l c => (g l c).then k) (fun l c => (g' l c).then k') := by
  intro l c x r c' e
  simp only at e
  cases hg : g l c with
  | bad y => rw [hg] at e; cases e
  | ok a r1 c1 =>
    rw [hg] at e
    obtain ⟨h1, h2, h3⟩ := h l c a r1 c1 hg
    obtain ⟨k1, k2, k3⟩ := hk a r1 c1 x r c' e
    refine ⟨by omega, fun hc => k2 (h2 hc), fun d hd => ?_⟩
    show (g' l (c - d)).then k' = _
    rw [h3 d hd]
    exact k3 d (by omega)
theorem Mn.le {α : Type} {s t : Nat} {g g' : List Ar → Nat → Rs α} (h : Mn s g g') (ht : t ≤ s) : Mn t g g' := fun l c k r c' e => by
  obtain ⟨h1, h2, h3⟩ := h l c k r c' e
  exact ⟨by omega, h2, h3⟩
theorem Mn.ite {α : Type} {s : Nat} {p : Prop} [Decidable p] {a a' b b' : List Ar → Nat → Rs α} (ha : Mn s a a') (hb : Mn s b b') : Mn s (fun l c => if p then a l c else b l c) (fun l c => if p then a' l c else b' l c) := by
  by_cases h : p
  · simpa only [if_pos h] using ha
  · simpa only [if_neg h] using hb
theorem mn_word : Mn 0 wordF wordF := by
  intro l c k r c' e
  cases l with
  | nil => cases e
  | cons a l =>
    rw [wordF] at e
    split at e
    · cases e
    · next h =>
      cases e
      exact ⟨Nat.le_refl _, id, fun d _ => by rw [wordF, if_neg h]⟩
theorem mn_flag (s : Tx) : Mn 0 (flagF s) (flagF s) := by
  intro l c k r c' e
  rw [flagF] at e
  split at e
  · next h =>
    cases e
    exact ⟨Nat.le_refl _, id, fun d _ => by rw [flagF, if_pos h]⟩
  · cases e
theorem mn_num (s : Tx) : Mn 0 (numF s) (numF s) := by
  intro l c k r c' e
  rw [numF] at e
  split at e
  · cases e
  · next n h =>
    cases e
    exact ⟨Nat.le_refl _, id, fun d _ => by rw [numF, h]⟩
theorem mn_set (s : Tx) : Mn 0 (setF s) (setF s) := by
  intro l c k r c' e
  rw [setF] at e
  split at e
  · cases e
  · cases e
  · next n h =>
    cases e
    exact ⟨Nat.le_refl _, id, fun d _ => by rw [setF, h]⟩
theorem mn_done {α : Type} (a : α) : Mn 0 (fun l c => Rs.ok a l c) (fun l c => Rs.ok a l c) := by
  intro l c k r c' e
  cases e
  exact ⟨Nat.le_refl _, id, fun d _ => rfl⟩
theorem mn_wordK {g g' : List Ar → Nat → Rs Ky} (h : Mn 0 g g') (w : Tx) : Mn 0 (wordK g w) (wordK g' w) := by
  unfold wordK
  refine Mn.ite (mn_done _) ?_
  refine Mn.ite (mn_flag _) ?_
  refine Mn.ite ((mn_flag _).map _) ?_
  refine Mn.ite (mn_word.then (fun a => mn_flag a)) ?_
  refine Mn.ite ((mn_word.then (fun a => mn_flag a)).map _) ?_
  refine Mn.ite (mn_word.map _) ?_
  refine Mn.ite (mn_word.then (fun a => mn_word.map _)) ?_
  refine Mn.ite (mn_word.map _) ?_
  refine Mn.ite (mn_word.map _) ?_
  refine Mn.ite (mn_word.then (fun a => (mn_num a).map _)) ?_
  refine Mn.ite (mn_word.then (fun a => (mn_set a).map _)) ?_
  refine Mn.ite (h.map _) ?_
  refine Mn.ite (h.then (fun a => h.map _)) ?_
  exact (mn_set _).map _
theorem mn_more {g g' : List Ar → Nat → Rs Ky} (h : Mn 0 g g') : ∀ (n : Nat) (acc : List Ky), Mn 0 (moreF g n acc) (moreF g' n acc)
  | n, acc => by
    intro l c k r c' e
    cases l with
    | nil =>
      rw [moreF] at e
      cases e
      exact ⟨Nat.le_refl _, id, fun d _ => by rw [moreF]⟩
    | cons a l =>
      cases n with
      | zero => rw [moreF] at e; cases e
      | succ n =>
        rw [moreF] at e
        obtain ⟨h1, h2, h3⟩ := (h.then (fun k => mn_more h n (acc ++ [k]))) (a :: l) c k r c' e
        exact ⟨h1, h2, fun d hd => by rw [moreF]; exact h3 d hd⟩
theorem mn_keys {g g' : List Ar → Nat → Rs Ky} (h : Mn 0 g g') : Mn 0 (keysF g) (keysF g') := (h.then (fun k => mn_more h 61 [k])).map _
theorem mn_key : ∀ (f f' : Nat), f ≤ f' → Mn 1 (keyF f) (keyF f')
  | 0, _, _ => fun l c k r c' e => by cases e
  | f + 1, 0, h => by omega
  | f + 1, f' + 1, h => by
    have ih : Mn 0 (keyF f) (keyF f') := (mn_key f f' (by omega)).le (Nat.zero_le _)
    intro l c k r c' e
    by_cases hc : 60 < c + 1
    · cases l <;> (rw [keyF, if_pos hc] at e; cases e)
    · cases l with
      | nil => rw [keyF, if_neg hc] at e; cases e
      | cons a l =>
        rw [keyF, if_neg hc] at e
        split at e
        · next hk =>
          cases hg : keysF (keyF f) a.list (c + 1) with
          | bad x => rw [hg] at e; cases e
          | ok k1 r1 c1 =>
            rw [hg] at e
            cases e
            obtain ⟨h1, h2, h3⟩ := mn_keys ih _ _ _ _ _ hg
            refine ⟨by omega, fun hc' => h2 (by omega), fun d hd => ?_⟩
            rw [keyF, if_neg (by omega), if_pos hk, show c - d + 1 = c + 1 - d by omega, h3 d (by omega)]
            rfl
        · next hk =>
          obtain ⟨h1, h2, h3⟩ := mn_wordK ih _ _ _ _ _ _ e
          refine ⟨by omega, fun hc' => h2 (by omega), fun d hd => ?_⟩
          rw [keyF, if_neg (by omega), if_neg hk, show c - d + 1 = c + 1 - d by omega]
          exact h3 d (by omega)
/-- What is told of a list that lies in others is what is told of it alone. -/
theorem parse_in {f c : Nat} {l : List Ar} {k k0 : Ky} {r r0 : List Ar} {c' c0 : Nat} (hf : f ≤ 7) (h : keysF (keyF f) l c = .ok k r c') (h0 : parseK l = .ok k0 r0 c0) : k = k0 := by
  have h1 := (mn_keys ((mn_key f 7 hf).le (Nat.zero_le 1)) l c k r c' h).2.2 c (Nat.le_refl _)
  rw [Nat.sub_self] at h1
  rw [parseK, h1] at h0
  cases h0
  rfl
end Go.Proofs.Sr
namespace Go.Proofs.Sr
open Go.Proofs.Sq

/-- A list, and a word, as a part of a command. -/
def la (a : List Ar) : Ar := .mk 3 [] a
def wd (w : Tx) : Ar := .mk 1 w []
theorem wordK_not {g : List Ar → Nat → Rs Ky} {w : Tx} {l : List Ar} {c : Nat} (h : Hd.great w = wNot) : wordK g w l c = (g l c).map notK := by
  rw [wordK, h, if_neg (by decide), if_neg (by decide), if_neg (by decide), if_neg (by decide), if_neg (by decide), if_neg (by decide), if_neg (by decide), if_neg (by decide), if_neg (by decide), if_neg (by decide), if_neg (by decide), if_pos rfl]
theorem wordK_or {g : List Ar → Nat → Rs Ky} {w : Tx} {l : List Ar} {c : Nat} (h : Hd.great w = wOr) : wordK g w l c = (g l c).then fun a l c => (g l c).map fun b => .mk 14 [] [] 0 [] [a, b] := by
  rw [wordK, h, if_neg (by decide), if_neg (by decide), if_neg (by decide), if_neg (by decide), if_neg (by decide), if_neg (by decide), if_neg (by decide), if_neg (by decide), if_neg (by decide), if_neg (by decide), if_neg (by decide), if_neg (by decide), if_pos rfl]
theorem wordK_all {g : List Ar → Nat → Rs Ky} {w : Tx} {l : List Ar} {c : Nat} (h : Hd.great w = wAll) : wordK g w l c = .ok (.mk 1 [] [] 0 [] []) l c := by
  rw [wordK, if_pos h]
theorem list_key {f c c' : Nat} {a r l : List Ar} {k ka : Ky} {ra : List Ar} {ca : Nat} (hf : f ≤ 7) (h : keyF (f + 1) (la a :: r) c = .ok k l c') (ha : parseK a = .ok ka ra ca) : k = ka ∧ l = r := by
  by_cases hc : 60 < c + 1
  · rw [keyF_lim hc] at h; cases h
  · rw [keyF_list hc rfl] at h
    obtain ⟨k1, l1, c1, h1, h2⟩ := rs_then h
    cases h2
    exact ⟨parse_in (l := a) hf h1 ha, rfl⟩
theorem word_key {f c c' : Nat} {w : Tx} {r l : List Ar} {k : Ky} (h : keyF (f + 1) (wd w :: r) c = .ok k l c') : wordK (keyF f) w r (c + 1) = .ok k l c' := by
  by_cases hc : 60 < c + 1
  · rw [keyF_lim hc] at h; cases h
  · rw [keyF_word (a := wd w) hc (show ¬ (1 : Int) = 3 by decide)] at h
    exact h
theorem not_key {f c c' : Nat} {w : Tx} {a r l : List Ar} {k ka : Ky} {ra : List Ar} {ca : Nat} (hf : f ≤ 7) (hw : Hd.great w = wNot) (h : keyF (f + 2) (wd w :: la a :: r) c = .ok k l c') (ha : parseK a = .ok ka ra ca) : k = notK ka ∧ l = r := by
  have h := word_key h
  rw [wordK_not hw] at h
  obtain ⟨k1, h1, rfl⟩ := rs_map h
  obtain ⟨rfl, rfl⟩ := list_key hf h1 ha
  exact ⟨rfl, rfl⟩
theorem or_key {f c c' : Nat} {w : Tx} {a b r l : List Ar} {k ka kb : Ky} {ra rb : List Ar} {ca cb : Nat} (hf : f ≤ 7) (hw : Hd.great w = wOr) (h : keyF (f + 2) (wd w :: la a :: la b :: r) c = .ok k l c') (ha : parseK a = .ok ka ra ca) (hb : parseK b = .ok kb rb cb) :
    k = .mk 14 [] [] 0 [] [ka, kb] ∧ l = r := by
  have h := word_key h
  rw [wordK_or hw] at h
  obtain ⟨k1, l1, c1, h1, h2⟩ := rs_then h
  obtain ⟨rfl, rfl⟩ := list_key hf h1 ha
  obtain ⟨k2, h3, rfl⟩ := rs_map h2
  obtain ⟨rfl, rfl⟩ := list_key hf h3 hb
  exact ⟨rfl, rfl⟩
theorem keys_just {g : List Ar → Nat → Rs Ky} {l r : List Ar} {c c' : Nat} {k x : Ky} (h : keysF g l c = .ok k r c') (h1 : ∀ k1 l1 c1, g l c = .ok k1 l1 c1 → k1 = x ∧ l1 = []) : k = x := by
  obtain ⟨ks, h0, rfl⟩ := rs_map h
  obtain ⟨k1, l1, c1, h2, h3⟩ := rs_then h0
  obtain ⟨rfl, rfl⟩ := h1 _ _ _ h2
  rw [moreF] at h3
  cases h3
  rfl
theorem alg_not {w : Tx} {a l ra : List Ar} {k ka : Ky} {c ca : Nat} (hw : Hd.great w = wNot) (h : parseK [wd w, la a] = .ok k l c) (ha : parseK a = .ok ka ra ca) : k = notK ka :=
  keys_just h fun _ _ _ h1 => not_key (f := 5) (by omega) hw h1 ha
theorem alg_or {w : Tx} {a b l ra rb : List Ar} {k ka kb : Ky} {c ca cb : Nat} (hw : Hd.great w = wOr) (h : parseK [wd w, la a, la b] = .ok k l c) (ha : parseK a = .ok ka ra ca) (hb : parseK b = .ok kb rb cb) : k = .mk 14 [] [] 0 [] [ka, kb] :=
  keys_just h fun _ _ _ h1 => or_key (f := 5) (by omega) hw h1 ha hb
theorem alg_and {a b l ra rb : List Ar} {k ka kb : Ky} {c ca cb : Nat} (h : parseK [la a, la b] = .ok k l c) (ha : parseK a = .ok ka ra ca) (hb : parseK b = .ok kb rb cb) : k = joinK [ka, kb] := by
  obtain ⟨ks, h0, rfl⟩ := rs_map h
  obtain ⟨k1, l1, c1, h2, h3⟩ := rs_then h0
  obtain ⟨rfl, rfl⟩ := list_key (f := 6) (by omega) h2 ha
  rw [moreF] at h3
  obtain ⟨k2, l2, c2, h4, h5⟩ := rs_then h3
  obtain ⟨rfl, rfl⟩ := list_key (f := 6) (by omega) h4 hb
  rw [moreF] at h5
  cases h5
  rfl
theorem alg_none {w v : Tx} {a b l ra rb : List Ar} {k ka kb : Ky} {c ca cb : Nat} (hw : Hd.great w = wNot) (hv : Hd.great v = wOr) (h : parseK [wd w, la [wd v, la a, la b]] = .ok k l c) (ha : parseK a = .ok ka ra ca) (hb : parseK b = .ok kb rb cb) :
    k = notK (.mk 14 [] [] 0 [] [ka, kb]) := by
  refine keys_just h fun k1 l1 c1 h1 => ?_
  have h1 := word_key (f := 6) h1
  rw [wordK_not hw] at h1
  obtain ⟨k2, h2, rfl⟩ := rs_map h1
  rw [keyF_list (f := 5) (by omega) rfl] at h2
  obtain ⟨k3, l3, c3, h3, h4⟩ := rs_then h2
  have := keys_just (x := .mk 14 [] [] 0 [] [ka, kb]) h3 fun _ _ _ h5 => or_key (f := 3) (by omega) hv h5 ha hb
  subst this
  cases h4
  exact ⟨rfl, rfl⟩
theorem alg_all {w : Tx} (hw : Hd.great w = wAll) : parseK [wd w] = .ok (.mk 1 [] [] 0 [] []) [] 1 := by
  have h : keyF 7 [wd w] 0 = .ok (.mk 1 [] [] 0 [] []) [] 1 := by
    rw [show (7 : Nat) = 6 + 1 from rfl, keyF_word (c := 0) (a := wd w) (by omega) (show ¬ (1 : Int) = 3 by decide)]
    exact wordK_all hw
  rw [parseK, keysF, h]
  rfl
/-- Texts of parts, and of those that lie in them, are no longer than so much. -/
inductive Sz (B : Nat) : List Ar → Prop
  | mk (l : List Ar) (h : ∀ x ∈ l, x.text.length ≤ B) (hl : ∀ x ∈ l, Sz B x.list) : Sz B l
theorem Sz.tail {B : Nat} {x : Ar} {l : List Ar} (h : Sz B (x :: l)) : x.text.length ≤ B ∧ Sz B x.list ∧ Sz B l := by
  cases h with
  | mk _ h hl => exact ⟨h x List.mem_cons_self, hl x List.mem_cons_self, .mk l (fun y hy => h y (List.mem_cons_of_mem _ hy)) fun y hy => hl y (List.mem_cons_of_mem _ hy)⟩
theorem Sz.nil {B : Nat} : Sz B [] := .mk [] (by simp) (by simp)
theorem readFrom_len : ∀ (ps : List (List UInt8)) (acc : List (Nat × Nat)) (l : List (Nat × Nat)), acc.length ≤ 20 → readFrom acc ps = .ok l → l.length ≤ 20
  | [], acc, l, h, e => by cases e; exact h
  | p :: ps, acc, l, h, e => by
    rw [readFrom] at e
    split at e
    · cases e
    · split at e
      · cases e
      · exact readFrom_len ps _ l (by simp; omega) e
theorem set_len {s : Tx} {l l' : List Ar} {c c' : Nat} {r : List (Nat × Nat)} (h : setF s l c = .ok r l' c') : r.length ≤ 20 ∧ l' = l := by
  unfold setF at h
  split at h
  · cases h
  · cases h
  · next h1 =>
    cases h
    exact ⟨readFrom_len _ _ _ (by simp) h1, rfl⟩
theorem word_sz {B : Nat} {l l' : List Ar} {c c' : Nat} {t : Tx} (h : wordF l c = .ok t l' c') (hl : Sz B l) : t.length ≤ B ∧ Sz B l' := by
  cases l with
  | nil => cases h
  | cons a r =>
    rw [wordF] at h
    split at h
    · cases h
    · cases h; exact ⟨hl.tail.1, hl.tail.2.2⟩
theorem flag_rest {s : Tx} {l l' : List Ar} {c c' : Nat} {k : Ky} (h : flagF s l c = .ok k l' c') : (∃ n, k = flagK n) ∧ l' = l := by
  unfold flagF at h
  split at h
  · cases h; exact ⟨⟨_, rfl⟩, rfl⟩
  · cases h
theorem num_rest {s : Tx} {l l' : List Ar} {c c' : Nat} {k : Nat} (h : numF s l c = .ok k l' c') : l' = l := by
  unfold numF at h
  split at h
  · cases h
  · cases h; rfl
end Go.Proofs.Sr
namespace Go.Proofs.YtligkpcoajnjmaaGreatDoorR
open Go.RowKit Go.Proofs.Aid Go.Proofs.Sq Go.Proofs.Sr

theorem fit_leaf {f : Nat} {code n : Int} {name text : Sr.Tx} {set : List (Nat × Nat)} (h : AllL code name text) (hs : set.length ≤ 1000) : Fit AllL (f + 1) (.mk code name text n set []) := ⟨hs, by simp, Or.inl h⟩
theorem fit_flag {f : Nat} (n : Sr.Tx) : Fit AllL (f + 1) (flagK n) := fit_leaf (Or.inr (Or.inl rfl)) (by simp)
theorem fit_not {f : Nat} {k : Ky} (h : Fit AllL f k) : Fit AllL (f + 1) (notK k) := ⟨by simp, by simp, Or.inr ⟨Or.inl ⟨rfl, by simp⟩, fun q hq => by obtain rfl := List.mem_singleton.1 hq; exact h⟩⟩
theorem fit_or {f : Nat} {a b : Ky} (ha : Fit AllL f a) (hb : Fit AllL f b) : Fit AllL (f + 1) (.mk 14 [] [] 0 [] [a, b]) := ⟨by simp, by simp, Or.inr ⟨Or.inr (Or.inl rfl), fun q hq => by
  rcases List.mem_cons.1 hq with rfl | hq
  · exact ha
  · obtain rfl := List.mem_singleton.1 hq; exact hb⟩⟩
theorem fit_join {f : Nat} {ks : List Ky} (h : ∀ k ∈ ks, Fit AllL f k) (hl : ks.length ≤ 1000) (hn : ks ≠ []) : Fit AllL (f + 1) (joinK ks) := by
  unfold joinK
  split
  · exact (h _ (by simp)).step
  · exact ⟨by simp, hl, Or.inr ⟨Or.inr (Or.inr rfl), h⟩⟩
def FitG (B D : Nat) (g : List Ar → Nat → Rs Ky) : Prop := ∀ l c k l' c', g l c = .ok k l' c' → Sz B l → Fit AllL D k ∧ Sz B l'
theorem more_fit {B D : Nat} {g : List Ar → Nat → Rs Ky} (hG : FitG B D g) : ∀ (n : Nat) (acc : List Ky) (l : List Ar) (c : Nat) (ks : List Ky) (l' : List Ar) (c' : Nat), (∀ k ∈ acc, Fit AllL D k) → acc ≠ [] → Sz B l → moreF g n acc l c = .ok ks l' c' → (∀ k ∈ ks, Fit AllL D k) ∧ ks ≠ [] ∧ ks.length ≤ acc.length + n ∧ Sz B l'
  | n, acc, [], c, ks, l', c', ha, hn, hl, h => by
    have h : Rs.ok acc [] c = .ok ks l' c' := by cases n <;> exact h
    cases h
    exact ⟨ha, hn, by omega, hl⟩
  | 0, acc, a :: r, c, ks, l', c', ha, hn, hl, h => by cases h
  | n + 1, acc, a :: r, c, ks, l', c', ha, hn, hl, h => by
    rw [moreF] at h
    obtain ⟨k, l1, c1, h1, h2⟩ := rs_then h
    obtain ⟨i1, i2⟩ := hG _ _ _ _ _ h1 hl
    obtain ⟨j1, j2, j3, j4⟩ := more_fit hG n _ _ _ _ _ _ (fun q hq => by
      rcases List.mem_append.1 hq with hq | hq
      · exact ha q hq
      · obtain rfl := List.mem_singleton.1 hq; exact i1) (by simp) i2 h2
    exact ⟨j1, j2, by simp at j3; omega, j4⟩
theorem keys_fit {B D : Nat} {g : List Ar → Nat → Rs Ky} (hG : FitG B D g) : FitG B (D + 1) (keysF g) := fun l c k l' c' h hl => by
  unfold keysF at h
  obtain ⟨ks, h0, rfl⟩ := rs_map h
  obtain ⟨k1, l1, c1, h1, h2⟩ := rs_then h0
  obtain ⟨i1, i2⟩ := hG _ _ _ _ _ h1 hl
  obtain ⟨j1, j2, j3, j4⟩ := more_fit hG _ _ _ _ _ _ _ (fun q hq => by obtain rfl := List.mem_singleton.1 hq; exact i1) (by simp) i2 h2
  exact ⟨fit_join j1 (by simp at j3; omega) j2, j4⟩
theorem wordK_fit {B D : Nat} (hB : B ≤ 2000000) {g : List Ar → Nat → Rs Ky} (hG : FitG B D g) {w : Sr.Tx} {l l' : List Ar} {c c' : Nat} {k : Ky} (hw : w.length ≤ B) (hl : Sz B l) (h : wordK g w l c = .ok k l' c') : Fit AllL (D + 2) k ∧ Sz B l' := by
  rw [wordK] at h
  by_cases p0 : Hd.great w = wAll
  · rw [if_pos p0] at h; cases h; exact ⟨fit_leaf (Or.inr (Or.inr (Or.inl rfl))) (by simp), hl⟩
  rw [if_neg p0] at h
  by_cases p1 : wSys.contains (Hd.great w) = true
  · rw [if_pos p1] at h; obtain ⟨⟨n, rfl⟩, rfl⟩ := flag_rest h; exact ⟨fit_flag n, hl⟩
  rw [if_neg p1] at h
  by_cases p2 : wUn.contains (Hd.great w) = true
  · rw [if_pos p2] at h; obtain ⟨_, h0, rfl⟩ := rs_map h; obtain ⟨⟨n, rfl⟩, rfl⟩ := flag_rest h0; exact ⟨fit_not (fit_flag n), hl⟩
  rw [if_neg p2] at h
  by_cases p3 : Hd.great w = wKeyword
  · rw [if_pos p3] at h; obtain ⟨_, _, _, h1, h2⟩ := rs_then h; obtain ⟨⟨n, rfl⟩, rfl⟩ := flag_rest h2; exact ⟨fit_flag n, (word_sz h1 hl).2⟩
  rw [if_neg p3] at h
  by_cases p4 : Hd.great w = 85 :: 78 :: wKeyword
  · rw [if_pos p4] at h; obtain ⟨_, h0, rfl⟩ := rs_map h; obtain ⟨_, _, _, h1, h2⟩ := rs_then h0; obtain ⟨⟨n, rfl⟩, rfl⟩ := flag_rest h2; exact ⟨fit_not (fit_flag n), (word_sz h1 hl).2⟩
  rw [if_neg p4] at h
  by_cases p5 : wFields.contains (Hd.great w) = true
  · rw [if_pos p5] at h; obtain ⟨t, h0, rfl⟩ := rs_map h
    have := word_sz h0 hl
    exact ⟨fit_leaf (Or.inl ⟨Or.inl rfl, by rw [Hd.small_length]; omega, by omega⟩) (by simp), this.2⟩
  rw [if_neg p5] at h
  by_cases p6 : Hd.great w = wHeader
  · rw [if_pos p6] at h; obtain ⟨_, _, _, h1, h2⟩ := rs_then h; obtain ⟨_, h3, rfl⟩ := rs_map h2
    have i := word_sz h1 hl
    have j := word_sz h3 i.2
    exact ⟨fit_leaf (Or.inl ⟨Or.inl rfl, by rw [Hd.small_length]; omega, by omega⟩) (by simp), j.2⟩
  rw [if_neg p6] at h
  by_cases p7 : Hd.great w = wBody
  · rw [if_pos p7] at h; obtain ⟨_, h0, rfl⟩ := rs_map h
    have := word_sz h0 hl
    exact ⟨fit_leaf (Or.inl ⟨Or.inr (Or.inl rfl), by simp, by omega⟩) (by simp), this.2⟩
  rw [if_neg p7] at h
  by_cases p8 : Hd.great w = wText
  · rw [if_pos p8] at h; obtain ⟨_, h0, rfl⟩ := rs_map h
    have := word_sz h0 hl
    exact ⟨fit_leaf (Or.inl ⟨Or.inr (Or.inr rfl), by simp, by omega⟩) (by simp), this.2⟩
  rw [if_neg p8] at h
  by_cases p9 : wMeas.contains (Hd.great w) = true
  · rw [if_pos p9] at h; obtain ⟨_, _, _, h1, h2⟩ := rs_then h; obtain ⟨_, h3, rfl⟩ := rs_map h2
    obtain rfl := num_rest h3
    have hi : wMeas.idxOf (Hd.great w) < 5 := List.idxOf_lt_length_of_mem (List.contains_iff_mem.1 p9)
    exact ⟨fit_leaf (Or.inr (Or.inr (by unfold NumL; omega))) (by simp), (word_sz h1 hl).2⟩
  rw [if_neg p9] at h
  by_cases p10 : Hd.great w = wUid
  · rw [if_pos p10] at h; obtain ⟨_, _, _, h1, h2⟩ := rs_then h; obtain ⟨_, h3, rfl⟩ := rs_map h2
    obtain ⟨i, rfl⟩ := set_len h3
    exact ⟨fit_leaf (Or.inr (Or.inr (by unfold NumL; omega))) (by omega), (word_sz h1 hl).2⟩
  rw [if_neg p10] at h
  by_cases p11 : Hd.great w = wNot
  · rw [if_pos p11] at h; obtain ⟨_, h0, rfl⟩ := rs_map h
    obtain ⟨i1, i2⟩ := hG _ _ _ _ _ h0 hl
    exact ⟨(fit_not i1).step, i2⟩
  rw [if_neg p11] at h
  by_cases p12 : Hd.great w = wOr
  · rw [if_pos p12] at h; obtain ⟨_, _, _, h1, h2⟩ := rs_then h; obtain ⟨_, h3, rfl⟩ := rs_map h2
    obtain ⟨i1, i2⟩ := hG _ _ _ _ _ h1 hl
    obtain ⟨j1, j2⟩ := hG _ _ _ _ _ h3 i2
    exact ⟨(fit_or i1 j1).step, j2⟩
  rw [if_neg p12] at h
  obtain ⟨_, h0, rfl⟩ := rs_map h
  obtain ⟨i, rfl⟩ := set_len h0
  exact ⟨fit_leaf (Or.inr (Or.inr (by unfold NumL; omega))) (by omega), hl⟩
theorem key_fit {B : Nat} (hB : B ≤ 2000000) : ∀ (f : Nat), FitG B (2 * f) (keyF f)
  | 0, l, c, k, l', c', h, _ => by cases h
  | f + 1, l, c, k, l', c', h, hl => by
    by_cases hc : 60 < c + 1
    · rw [keyF_lim hc] at h; cases h
    · cases l with
      | nil => rw [keyF_nil hc] at h; cases h
      | cons a r =>
        obtain ⟨t1, t2, t3⟩ := hl.tail
        by_cases h3 : a.kind = 3
        · rw [keyF_list hc h3] at h
          obtain ⟨k1, l1, c1, h1, h2⟩ := rs_then h
          cases h2
          exact ⟨(keys_fit (key_fit hB f) _ _ _ _ _ h1 t2).1.le (by omega), t3⟩
        · rw [keyF_word hc h3] at h
          have := wordK_fit hB (key_fit hB f) t1 t3 h
          exact ⟨this.1.le (by omega), this.2⟩
theorem parse_fit {B : Nat} (hB : B ≤ 2000000) {l l' : List Ar} {c : Nat} {k : Ky} (hl : Sz B l) (h : parseK l = .ok k l' c) : Fit AllL 900 k := ((keys_fit (key_fit hB 7)) _ _ _ _ _ h hl).1.le (by omega)
theorem ags_sz {w : World} {Ok : Nat → Prop} {B : Nat} {l : List Ar} {v : Value} (h : Ags w Ok B l v) : Sz B l := by
  induction h with
  | mk l a c txt vs hc hc2 htx hk ha ih =>
    refine Sz.mk l (fun x hx => ?_) fun x hx => ?_
    · obtain ⟨j, hj, rfl⟩ := List.getElem_of_mem hx
      have := htx j _ (List.getElem?_eq_getElem hj)
      rw [← this.1, list_size]
      exact this.2
    · obtain ⟨j, hj, rfl⟩ := List.getElem_of_mem hx
      exact ih j _ (List.getElem?_eq_getElem hj)
end Go.Proofs.YtligkpcoajnjmaaGreatDoorR
