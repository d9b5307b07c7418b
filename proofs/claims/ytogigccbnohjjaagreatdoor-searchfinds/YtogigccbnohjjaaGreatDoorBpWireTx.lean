/-
  How long the texts of a command are, and more.
-/
import Derived.Test.YtogigccbnohjjaaGreatDoorBpRwList
namespace Go.Proofs.YtogigccbnohjjaaGreatDoor
open Go.Proofs.Hd
open Go.Proofs.Sr (Ar)
mutual
def txA : Ar → Nat
 | .mk _ t l => t.length + txL l
def txL : List Ar → Nat
 | [] => 0
 | a :: r => txA a + txL r
end
theorem txL_app : ∀ (l r : List Ar), txL (l ++ r) = txL l + txL r
 | [], r => by rw [List.nil_append, txL]; omega
 | a :: l, r => by rw [List.cons_append, txL, txL, txL_app l r]; omega
theorem txL_one (a : Ar) : txL [a] = txA a := by rw [txL, txL]; omega
theorem txA_leaf (k : Int) (t : Tx) : txA (.mk k t []) = t.length := by rw [txA, txL]; omega
theorem quoted_tx {s : Tx} {c : Nat} : ∀ (f p : Nat) (acc t : Tx) (p' c' : Nat), quotedW s p c acc f = .ok t p' c' → t.length + p ≤ acc.length + p'
 | 0, p, acc, t, p', c', h => by rw [quotedW] at h; cases h
 | f + 1, p, acc, t, p', c', h => by
  rw [quotedW] at h
  split at h
  ·cases h; omega
  ·split at h
   ·split at h
    ·cases h
    ·have := quoted_tx f _ _ t p' c' h
     simp at this
     omega
   ·split at h
    ·cases h
    ·have := quoted_tx f _ _ t p' c' h
     simp at this
     omega
theorem word_tx {s : Tx} {p c p' c' : Nat} {t : Tx} (h : wordW s p c = .ok t p' c') : p' = p + t.length := by
 rw [wordW] at h
 split at h
 ·cases h
 ·cases h; rfl
theorem counted_tx {s : Tx} {p c p' c' : Nat} {t : Tx} (hp : p ≤ s.length) (h : countedW s p c = .ok t p' c') : p + t.length ≤ p' := by
 rw [countedW] at h
 split at h
 ·cases h
 ·split at h
  ·cases h
  ·split at h
   ·cases h
   ·cases h
    have h1 : (Lib.cut ((s.drop p).drop 1) [125, 13, 10]).2.1.length ≤ s.length - p := by
     unfold Lib.cut
     split
     ·simp only [List.length_drop]; omega
     ·simp
    rw [List.length_take]
    omega
theorem more_tx {s : Tx} {g : Nat → Nat → Wd Ar} (hE : Ends s) (hG : ∀ p c a p' c', p + 2 ≤ s.length → g p c = .ok a p' c' → p + txA a ≤ p' ∧ p' ≤ s.length) : ∀ (n : Nat) (acc : List Ar) (p c : Nat) (l : List Ar) (p' c' : Nat), moreW g s n acc p c = .ok l p' c' → p + txL l ≤ p' + txL acc
 | 0, acc, p, c, l, p', c', h => by rw [moreW] at h; cases h
 | n + 1, acc, p, c, l, p', c', h => by
  rw [moreW] at h
  split at h
  ·cases h; omega
  ·obtain ⟨u, p1, c1, h1, h2⟩ := then_ok h
   obtain ⟨a, p2, c2, h3, h4⟩ := then_ok h2
   have e1 := blank_wok hE h1
   have i1 := hG _ _ _ _ _ (by omega) h3
   have j := more_tx hE hG n _ _ _ _ _ _ h4
   rw [txL_app, txL_one] at j
   omega
theorem arg_tx {s : Tx} (hE : Ends s) : ∀ (f p c : Nat) (a : Ar) (p' c' : Nat), p + 2 ≤ s.length → argW s f p c = .ok a p' c' → p + txA a ≤ p' ∧ p' ≤ s.length
 | 0, p, c, a, p', c', _, h => by rw [argW] at h; cases h
 | f + 1, p, c, a, p', c', hp, h0 => by
  have hle := (arg_ok hE (f + 1) p c a p' c' hp h0).1
  refine ⟨?_, hle⟩
  have h := h0
  rw [argW] at h
  split at h
  ·cases h
  ·split at h
   ·obtain ⟨t, h1, rfl⟩ := map_ok h
    rw [txA_leaf]
    exact counted_tx (by omega) h1
   ·split at h
    ·obtain ⟨t, h1, rfl⟩ := map_ok h
     rw [txA_leaf]
     have := quoted_tx _ _ _ _ _ _ h1
     simp at this
     omega
    ·split at h
     ·next h40 =>
      obtain ⟨l, h1, rfl⟩ := map_ok h
      rw [txA]
      have h2 := h1
      rw [listW] at h2
      split at h2
      ·cases h2; rw [txL]; simp; omega
      ·obtain ⟨b, p1, c1, h3, h4⟩ := then_ok h2
       have hp3 : p + 1 + 2 ≤ s.length := hE.took h40 (by decide) (by decide)
       have i1 := arg_tx hE f _ _ _ _ _ hp3 h3
       have j := more_tx hE (arg_tx hE f) _ _ _ _ _ _ _ h4
       rw [txL_one] at j
       simp
       omega
     ·obtain ⟨t, h1, rfl⟩ := map_ok h
      rw [txA_leaf]
      have := word_tx h1
      omega
theorem args_tx {s : Tx} (hE : Ends s) : ∀ (n : Nat) (acc : List Ar) (p c : Nat) (l : List Ar) (p' c' : Nat), p ≤ s.length → argsW s n acc p c = .ok l p' c' → p + txL l ≤ s.length + txL acc
 | 0, acc, p, c, l, p', c', _, h => by rw [argsW] at h; cases h
 | n + 1, acc, p, c, l, p', c', hp, h => by
  rw [argsW] at h
  split at h
  ·cases h; omega
  ·obtain ⟨u, p1, c1, h1, h2⟩ := then_ok h
   obtain ⟨a, p2, c2, h3, h4⟩ := then_ok h2
   have e1 := blank_wok hE h1
   have i1 := arg_tx hE 7 _ _ _ _ _ (by omega) h3
   have j := args_tx hE n _ _ _ _ _ _ i1.2 h4
   rw [txL_app, txL_one] at j
   omega
end Go.Proofs.YtogigccbnohjjaaGreatDoor
namespace Go.Proofs.Sr
open Go.Proofs.Sq
theorem rs_then {α β : Type} {R : Rs α} {k : α → List Ar → Nat → Rs β} {b : β} {l : List Ar} {c : Nat} (h : R.then k = .ok b l c) : ∃ a l1 c1, R = .ok a l1 c1 ∧ k a l1 c1 = .ok b l c := by
 cases R with
 | bad e => cases h
 | ok a l1 c1 => exact ⟨a, l1, c1, rfl, h⟩
theorem rs_map {α β : Type} {R : Rs α} {f : α → β} {b : β} {l : List Ar} {c : Nat} (h : R.map f = .ok b l c) : ∃ a, R = .ok a l c ∧ f a = b := by
 cases R with
 | bad e => cases h
 | ok a l1 c1 =>
  injection h with h1 h2 h3
  subst h2; subst h3
  exact ⟨a, rfl, h1⟩
theorem word_c {l l' : List Ar} {c c' : Nat} {t : Tx} (h : wordF l c = .ok t l' c') : c' = c := by
 cases l with
 | nil => cases h
 | cons a r =>
  rw [wordF] at h
  split at h
  ·cases h
  ·cases h; rfl
theorem flag_c {s : Tx} {l l' : List Ar} {c c' : Nat} {k : Ky} (h : flagF s l c = .ok k l' c') : c' = c := by
 unfold flagF at h
 split at h
 ·cases h; rfl
 ·cases h
theorem num_c {s : Tx} {l l' : List Ar} {c c' : Nat} {k : Nat} (h : numF s l c = .ok k l' c') : c' = c := by
 unfold numF at h
 split at h
 ·cases h
 ·cases h; rfl
theorem set_c {s : Tx} {l l' : List Ar} {c c' : Nat} {k : List (Nat × Nat)} (h : setF s l c = .ok k l' c') : c' = c := by
 unfold setF at h
 split at h
 ·cases h
 ·cases h
 ·cases h; rfl
def Cnt (g : List Ar → Nat → Rs Ky) : Prop := ∀ l c k l' c', g l c = .ok k l' c' → c < c' ∧ c' ≤ 60
theorem more_c {g : List Ar → Nat → Rs Ky} (hG : Cnt g) : ∀ (n : Nat) (acc : List Ky) (l : List Ar) (c : Nat) (ks : List Ky) (l' : List Ar) (c' : Nat), c ≤ 60 → moreF g n acc l c = .ok ks l' c' → c ≤ c' ∧ c' ≤ 60
 | n, acc, [], c, ks, l', c', hc, h => by
  have h : Rs.ok acc [] c = .ok ks l' c' := by cases n <;> exact h
  cases h
  exact ⟨Nat.le_refl _, hc⟩
 | 0, acc, a :: r, c, ks, l', c', hc, h => by cases h
 | n + 1, acc, a :: r, c, ks, l', c', hc, h => by
  rw [moreF] at h
  obtain ⟨k, l1, c1, h1, h2⟩ := rs_then h
  obtain ⟨i1, i2⟩ := hG _ _ _ _ _ h1
  obtain ⟨j1, j2⟩ := more_c hG n _ _ _ _ _ _ i2 h2
  exact ⟨by omega, j2⟩
theorem keys_c {g : List Ar → Nat → Rs Ky} (hG : Cnt g) {l l' : List Ar} {c c' : Nat} {k : Ky} (h : keysF g l c = .ok k l' c') : c < c' ∧ c' ≤ 60 := by
 unfold keysF at h
 obtain ⟨ks, h, _⟩ := rs_map h
 obtain ⟨k1, l1, c1, h1, h2⟩ := rs_then h
 obtain ⟨i1, i2⟩ := hG _ _ _ _ _ h1
 obtain ⟨j1, j2⟩ := more_c hG _ _ _ _ _ _ _ i2 h2
 exact ⟨by omega, j2⟩
theorem wordK_c {g : List Ar → Nat → Rs Ky} (hG : Cnt g) {w : Tx} {l l' : List Ar} {c c' : Nat} {k : Ky} (hc : c ≤ 60) (h : wordK g w l c = .ok k l' c') : c ≤ c' ∧ c' ≤ 60 := by
 have fin : c' = c → c ≤ c' ∧ c' ≤ 60 := fun e => by omega
 rw [wordK] at h
 by_cases p0 : Hd.great w = wAll
 ·rw [if_pos p0] at h; cases h; exact fin rfl
 rw [if_neg p0] at h
 by_cases p1 : wSys.contains (Hd.great w) = true
 ·rw [if_pos p1] at h; exact fin (flag_c h)
 rw [if_neg p1] at h
 by_cases p2 : wUn.contains (Hd.great w) = true
 ·rw [if_pos p2] at h; obtain ⟨_, h, _⟩ := rs_map h; exact fin (flag_c h)
 rw [if_neg p2] at h
 by_cases p3 : Hd.great w = wKeyword
 ·rw [if_pos p3] at h; obtain ⟨_, _, _, h1, h2⟩ := rs_then h; have := word_c h1; have := flag_c h2; exact fin (by omega)
 rw [if_neg p3] at h
 by_cases p4 : Hd.great w = 85 :: 78 :: wKeyword
 ·rw [if_pos p4] at h; obtain ⟨_, h, _⟩ := rs_map h; obtain ⟨_, _, _, h1, h2⟩ := rs_then h; have := word_c h1; have := flag_c h2; exact fin (by omega)
 rw [if_neg p4] at h
 by_cases p5 : wFields.contains (Hd.great w) = true
 ·rw [if_pos p5] at h; obtain ⟨_, h, _⟩ := rs_map h; exact fin (word_c h)
 rw [if_neg p5] at h
 by_cases p6 : Hd.great w = wHeader
 ·rw [if_pos p6] at h; obtain ⟨_, _, _, h1, h2⟩ := rs_then h; obtain ⟨_, h2, _⟩ := rs_map h2; have := word_c h1; have := word_c h2; exact fin (by omega)
 rw [if_neg p6] at h
 by_cases p7 : Hd.great w = wBody
 ·rw [if_pos p7] at h; obtain ⟨_, h, _⟩ := rs_map h; exact fin (word_c h)
 rw [if_neg p7] at h
 by_cases p8 : Hd.great w = wText
 ·rw [if_pos p8] at h; obtain ⟨_, h, _⟩ := rs_map h; exact fin (word_c h)
 rw [if_neg p8] at h
 by_cases p9 : wMeas.contains (Hd.great w) = true
 ·rw [if_pos p9] at h; obtain ⟨_, _, _, h1, h2⟩ := rs_then h; obtain ⟨_, h2, _⟩ := rs_map h2; have := word_c h1; have := num_c h2; exact fin (by omega)
 rw [if_neg p9] at h
 by_cases p10 : Hd.great w = wUid
 ·rw [if_pos p10] at h; obtain ⟨_, _, _, h1, h2⟩ := rs_then h; obtain ⟨_, h2, _⟩ := rs_map h2; have := word_c h1; have := set_c h2; exact fin (by omega)
 rw [if_neg p10] at h
 by_cases p11 : Hd.great w = wNot
 ·rw [if_pos p11] at h; obtain ⟨_, h, _⟩ := rs_map h; have := hG _ _ _ _ _ h; omega
 rw [if_neg p11] at h
 by_cases p12 : Hd.great w = wOr
 ·rw [if_pos p12] at h; obtain ⟨_, _, _, h1, h2⟩ := rs_then h; obtain ⟨_, h2, _⟩ := rs_map h2; have := hG _ _ _ _ _ h1; have := hG _ _ _ _ _ h2; omega
 rw [if_neg p12] at h
 obtain ⟨_, h, _⟩ := rs_map h
 exact fin (set_c h)
theorem keyF_c : ∀ (f : Nat), Cnt (keyF f)
 | 0, l, c, k, l', c', h => by cases h
 | f + 1, l, c, k, l', c', h => by
  have h : (if 60 < c + 1 then Rs.bad 4 else match l with | [] => Rs.bad 3 | a :: r => if a.kind = 3 then (keysF (keyF f) a.list (c + 1)).then fun k _ c => .ok k r c else wordK (keyF f) a.text r (c + 1)) = .ok k l' c' := h
  split at h
  ·cases h
  ·next h60 =>
   cases l with
   | nil => cases h
   | cons a r =>
    simp only at h
    split at h
    ·obtain ⟨k1, l1, c1, h1, h2⟩ := rs_then h
     obtain ⟨i1, i2⟩ := keys_c (keyF_c f) h1
     cases h2
     exact ⟨by omega, i2⟩
    ·obtain ⟨i1, i2⟩ := wordK_c (keyF_c f) (by omega) h
     exact ⟨by omega, i2⟩
theorem keyF_def (f : Nat) (l : List Ar) (c : Nat) : keyF (f + 1) l c = if 60 < c + 1 then Rs.bad 4 else match l with | [] => Rs.bad 3 | a :: r => if a.kind = 3 then (keysF (keyF f) a.list (c + 1)).then fun k _ c => .ok k r c else wordK (keyF f) a.text r (c + 1) := rfl
theorem keyF_lim {f : Nat} {l : List Ar} {c : Nat} (h : 60 < c + 1) : keyF (f + 1) l c = .bad 4 := by rw [keyF_def, if_pos h]
theorem keyF_nil {f c : Nat} (h : ¬ 60 < c + 1) : keyF (f + 1) [] c = .bad 3 := by rw [keyF_def, if_neg h]
theorem keyF_list {f c : Nat} {a : Ar} {r : List Ar} (h : ¬ 60 < c + 1) (h3 : a.kind = 3) : keyF (f + 1) (a :: r) c = (keysF (keyF f) a.list (c + 1)).then fun k _ c => .ok k r c := by rw [keyF_def, if_neg h]; exact if_pos h3
theorem keyF_word {f c : Nat} {a : Ar} {r : List Ar} (h : ¬ 60 < c + 1) (h3 : ¬ a.kind = 3) : keyF (f + 1) (a :: r) c = wordK (keyF f) a.text r (c + 1) := by rw [keyF_def, if_neg h]; exact if_neg h3
end Go.Proofs.Sr
namespace Go.Proofs.Sr
open Go.Proofs.Sq
inductive Sz (B : Nat) : List Ar → Prop
 | mk (l : List Ar) (h : ∀ x ∈ l, x.text.length ≤ B) (hl : ∀ x ∈ l, Sz B x.list) : Sz B l
theorem Sz.tail {B : Nat} {x : Ar} {l : List Ar} (h : Sz B (x :: l)) : x.text.length ≤ B ∧ Sz B x.list ∧ Sz B l := by
 cases h with
 | mk _ h hl => exact ⟨h x List.mem_cons_self, hl x List.mem_cons_self, .mk l (fun y hy => h y (List.mem_cons_of_mem _ hy)) fun y hy => hl y (List.mem_cons_of_mem _ hy)⟩
theorem readFrom_len : ∀ (ps : List (List UInt8)) (acc : List (Nat × Nat)) (l : List (Nat × Nat)), acc.length ≤ 20 → readFrom acc ps = .ok l → l.length ≤ 20
 | [], acc, l, h, e => by cases e; exact h
 | p :: ps, acc, l, h, e => by
  rw [readFrom] at e
  split at e
  ·cases e
  ·split at e
   ·cases e
   ·exact readFrom_len ps _ l (by simp; omega) e
theorem set_len {s : Tx} {l l' : List Ar} {c c' : Nat} {r : List (Nat × Nat)} (h : setF s l c = .ok r l' c') : r.length ≤ 20 ∧ l' = l := by
 unfold setF at h
 split at h
 ·cases h
 ·cases h
 ·next h1 =>
  cases h
  exact ⟨readFrom_len _ _ _ (by simp) h1, rfl⟩
theorem word_sz {B : Nat} {l l' : List Ar} {c c' : Nat} {t : Tx} (h : wordF l c = .ok t l' c') (hl : Sz B l) : t.length ≤ B ∧ Sz B l' := by
 cases l with
 | nil => cases h
 | cons a r =>
  rw [wordF] at h
  split at h
  ·cases h
  ·cases h; exact ⟨hl.tail.1, hl.tail.2.2⟩
theorem flag_rest {s : Tx} {l l' : List Ar} {c c' : Nat} {k : Ky} (h : flagF s l c = .ok k l' c') : (∃ n, k = flagK n) ∧ l' = l := by
 unfold flagF at h
 split at h
 ·cases h; exact ⟨⟨_, rfl⟩, rfl⟩
 ·cases h
theorem num_rest {s : Tx} {l l' : List Ar} {c c' : Nat} {k : Nat} (h : numF s l c = .ok k l' c') : l' = l := by
 unfold numF at h
 split at h
 ·cases h
 ·cases h; rfl
end Go.Proofs.Sr
namespace Go.Proofs.YtogigccbnohjjaaGreatDoor
open Go.RowKit Go.Proofs.Aid
inductive Ags (w : World) (Ok : Nat → Prop) (B : Nat) : List Sr.Ar → Value → Prop
 | mk (l : List Sr.Ar) (a : Option Addr) (c : Nat) (txt : Nat → ByteArray) (vs : Nat → Value) (hc : l.length ≤ c) (hc2 : c ≤ 9223372036854775807)
  (htx : ∀ (j : Nat) x, l[j]? = some x → (txt j).data.toList = x.text ∧ (txt j).size ≤ B)
  (hk : ∀ (j : Nat) x, l[j]? = some x → Ags w Ok B x.list (vs j))
  (ha : l = [] ∨ ∃ b o, a = some ⟨b, o, none⟩ ∧ Ok b ∧ ∀ (j : Nat) x, l[j]? = some x → w.cell? ⟨b, o + j * 3, none⟩ = some (.int .i64 x.kind) ∧ w.cell? ⟨b, o + j * 3 + 1, none⟩ = some (.string (txt j)) ∧ w.cell? ⟨b, o + j * 3 + 2, none⟩ = some (vs j)) :
  Ags w Ok B l (.slice a l.length c)
theorem Ags.kept {w w' : World} {Ok Ok' : Nat → Prop} {B : Nat} {l : List Sr.Ar} {v : Value} (h : Ags w Ok B l v) (hO : ∀ k, Ok k → k < w.heap.size → Ok' k ∧ w'.heap[k]? = w.heap[k]?) : Ags w' Ok' B l v := by
 induction h with
 | mk l a c txt vs hc hc2 htx hk ha ih =>
  refine Ags.mk l a c txt vs hc hc2 htx ih ?_
  rcases ha with ha | ⟨b, o, h1, h2, h3⟩
  ·exact Or.inl ha
  ·cases l with
   | nil => exact Or.inl rfl
   | cons x l =>
    have hb : b < w.heap.size := World.block_lt_of_cell? _ _ (h3 0 x rfl).1
    have h9 := hO b h2 hb
    refine Or.inr ⟨b, o, h1, h9.1, fun j q hj => ?_⟩
    obtain ⟨c1, c2, c3⟩ := h3 j q hj
    exact ⟨(World.cell?_of_block h9.2).trans c1, (World.cell?_of_block h9.2).trans c2, (World.cell?_of_block h9.2).trans c3⟩
theorem Ags.head {w : World} {Ok : Nat → Prop} {B : Nat} {x : Sr.Ar} {l : List Sr.Ar} {v : Value} (h : Ags w Ok B (x :: l) v) :
  ∃ (b o C : Nat) (tb : ByteArray) (lv : Value), v = .slice (some ⟨b, o, none⟩) (l.length + 1) (C + 1) ∧ l.length ≤ C ∧ C ≤ 9223372036854775807 ∧ Ok b ∧ tb.data.toList = x.text ∧ tb.size ≤ B ∧ Ags w Ok B x.list lv ∧
   w.cell? ⟨b, o, none⟩ = some (.int .i64 x.kind) ∧ w.cell? ⟨b, o + 1, none⟩ = some (.string tb) ∧ w.cell? ⟨b, o + 2, none⟩ = some lv ∧
   Ags w Ok B l (.slice (if C = 0 then some ⟨b, o, none⟩ else some ⟨b, o + 3, none⟩) l.length C) := by
 cases h with
 | mk _ a c txt vs hc hc2 htx hk ha =>
  rcases ha with ha | ⟨b, o, h1, h2, h3⟩
  ·cases ha
  ·rw [List.length_cons] at hc
   obtain ⟨C, rfl⟩ : ∃ C, c = C + 1 := ⟨c - 1, by omega⟩
   subst h1
   obtain ⟨c1, c2, c3⟩ := h3 0 x rfl
   rw [Nat.zero_mul, Nat.add_zero] at c1 c2 c3
   refine ⟨b, o, C, txt 0, vs 0, by rw [List.length_cons], by omega, by omega, h2, (htx 0 x rfl).1, (htx 0 x rfl).2, hk 0 x rfl, c1, c2, c3, ?_⟩
   refine Ags.mk l _ C (fun j => txt (j + 1)) (fun j => vs (j + 1)) (by omega) (by omega) (fun j y hj => htx (j + 1) y (by simpa using hj)) (fun j y hj => hk (j + 1) y (by simpa using hj)) ?_
   by_cases hC : C = 0
   ·exact Or.inl (List.eq_nil_of_length_eq_zero (by omega))
   ·refine Or.inr ⟨b, o + 3, if_neg hC, h2, fun j y hj => ?_⟩
    obtain ⟨d1, d2, d3⟩ := h3 (j + 1) y (by simpa using hj)
    rw [show o + 3 + j * 3 = o + (j + 1) * 3 by omega]
    exact ⟨d1, d2, d3⟩
theorem Ags.nil {w : World} {Ok : Nat → Prop} {B : Nat} {v : Value} (h : Ags w Ok B [] v) : ∃ a c, v = .slice a 0 c := by
 cases h with
 | mk _ a c _ _ _ _ _ _ _ => exact ⟨a, c, rfl⟩
theorem Ags.form {w : World} {Ok : Nat → Prop} {B : Nat} {l : List Sr.Ar} {v : Value} (h : Ags w Ok B l v) : ∃ a c, v = .slice a l.length c := by
 cases h with
 | mk _ a c _ _ _ _ _ _ _ => exact ⟨a, c, rfl⟩
end Go.Proofs.YtogigccbnohjjaaGreatDoor
