/-
  What is saved of a house of deeds may be written and read again, and more.
-/
import Derived.Test.YtdmplfflmdanlaaGreatDoorMAwDiff
namespace Go.Proofs.YtdmplfflmdanlaaGreatDoor
open Go.RowKit Go.Proofs.Aid Go.Proofs.Bx

theorem HI.niceS {H K : Nat} {l : Bxs} {nx : Int} {W : List Nm} {C : Nat → Bxd} (h : HI H K l nx W C) (hK : K ≤ 1000) : NiceS (svOf l W nx C) := by
  have hz : (namesB l).length = l.length := by simp [namesB]
  have hl := h.len
  have hw := h.wlen
  refine ⟨nice_int (by have := h.nxt.1; show (0 : Int) ≤ nx; omega) (by have := h.nxt.2; show nx ≤ _; omega), hw, nice_of (n := W.length) (by omega), fun t ht => nice_of (n := t.length) (by have := nameB_len60 (h.wnm t ht); omega), by show (namesB l).length ≤ 30; omega, nice_of (n := (namesB l).length) (by omega), fun t ht => ?_, by simp [svOf, namesB], fun x hx => ?_⟩
  · obtain ⟨p, hp, rfl⟩ := List.mem_map.1 ht
    exact nice_of (n := p.1.length) (by have := h.short p hp; omega)
  · obtain ⟨p, hp, rfl⟩ := List.mem_map.1 hx
    have g := h.bx p hp
    have g1 := g.num
    have g2 := g.next
    have g3 := g.most
    have g4 := h.nxt.2
    have g5 := g.inv.next
    refine ⟨nice_int (by omega) (by omega), nice_int (by omega) (by omega), g3, nice_of (n := (C p.2).ls.length) (by omega), fun y hy => ?_⟩
    obtain ⟨p1, p2, p3⟩ := g.plain y hy
    obtain ⟨u1, u2⟩ := g.inv.uid y hy
    refine ⟨nice_int (by omega) (by omega), by rw [p1]; simp, by rw [p1]; exact nice_of (n := 0) (by omega), fun f hf => by rw [p1] at hf; exact absurd hf List.not_mem_nil, by rw [p2]; exact nice_of (n := 1) (by omega), nice_of (n := y.text.length) (by omega)⟩
end Go.Proofs.YtdmplfflmdanlaaGreatDoor
namespace Go.Proofs.YtdmplfflmdanlaaGreatDoor
open Go.RowKit Go.Proofs.Aid Go.Proofs.Bx

theorem dec_len : ∀ (k n : Nat), n < 10 ^ (k + 1) → (Lib.decDigits n).length ≤ k + 1
  | 0, n, h => by
    rw [Lib.decDigits, dif_pos (by omega)]
    simp
  | k + 1, n, h => by
    rw [Lib.decDigits]
    by_cases h1 : n < 10
    · rw [dif_pos h1]; simp
    · rw [dif_neg h1, List.length_append]
      have := dec_len k (n / 10) (by
        rw [Nat.pow_succ] at h
        omega)
      simp
      omega
theorem num_len {n : Int} (k : Nat) (h0 : 0 ≤ n) (h : n.toNat < 10 ^ (k + 1)) : (numB n).length ≤ k + 2 := by
  unfold numB
  rw [List.length_append, Lib.itoa, if_neg (by omega)]
  have := dec_len k n.toNat h
  simp
  omega
theorem text_len {t : Nm} (k : Nat) (h : t.length < 10 ^ (k + 1)) : (textB t).length ≤ k + 2 + t.length := by
  unfold textB
  rw [List.length_append, Lib.itoa, if_neg (by omega)]
  have := dec_len k t.length h
  simp
  omega
theorem flat_len {α : Type} {f : α → Nm} {g : α → Nat} : ∀ (l : List α), (∀ x ∈ l, (f x).length ≤ g x) → (l.map f).flatten.length ≤ (l.map g).sum
  | [], _ => by simp
  | x :: l, h => by
    have h1 := h x List.mem_cons_self
    have h2 := flat_len l fun y hy => h y (List.mem_cons_of_mem _ hy)
    simp only [List.map_cons, List.flatten_cons, List.length_append, List.sum_cons]
    omega
theorem sum_le {α : Type} {g : α → Nat} {m : Nat} : ∀ (l : List α), (∀ x ∈ l, g x ≤ m) → (l.map g).sum ≤ l.length * m
  | [], _ => by simp
  | x :: l, h => by
    have h1 := h x List.mem_cons_self
    have h2 := sum_le l fun y hy => h y (List.mem_cons_of_mem _ hy)
    simp only [List.map_cons, List.sum_cons, List.length_cons, Nat.add_mul, Nat.one_mul]
    omega
theorem row_len {α : Type} {f : α → Nm} {m : Nat} (l : List α) (hl : l.length < 1000) (h : ∀ x ∈ l, (f x).length ≤ m) : (rowB f l).length ≤ 4 + l.length * m := by
  unfold rowB
  rw [List.length_append]
  have h1 := flat_len (g := fun _ => m) l h
  have h2 := sum_le (g := fun _ => m) l (fun _ _ => Nat.le_refl _)
  have h3 := num_len (n := (l.length : Int)) 2 (by omega) (by simpa using hl)
  omega
theorem letter_len {y : Lt} (h : PlainL y) (hu : 0 ≤ y.uid ∧ y.uid ≤ 100000) : (letterB y).length ≤ 200 := by
  obtain ⟨h1, h2, h3⟩ := h
  unfold letterB
  simp only [List.length_append]
  have e1 := num_len (n := y.uid) 5 hu.1 (by omega)
  have e2 := num_len (n := y.day) 0 (by omega) (by rw [h2]; decide)
  have e3 := text_len (t := y.text) 2 (by omega)
  have e4 := row_len (f := textB) (m := 0) y.flags (by rw [h1]; decide) (by rw [h1]; simp)
  rw [h1] at e4 ⊢
  simp at e4
  omega
theorem HI.uid {H K : Nat} {l : Bxs} {nx : Int} {W : List Nm} {C : Nat → Bxd} (h : HI H K l nx W C) {p : Nm × Nat} (hp : p ∈ l) {y : Lt} (hy : y ∈ (C p.2).ls) : 0 ≤ y.uid ∧ y.uid ≤ (K : Int) := by
  have := (h.bx p hp).inv.uid y hy
  have := (h.bx p hp).next
  omega
/-- What is written of the letters of a box. -/
theorem HI.letters_len {H K : Nat} {l : Bxs} {nx : Int} {W : List Nm} {C : Nat → Bxd} (h : HI H K l nx W C) (hK : K ≤ 400) {p : Nm × Nat} (hp : p ∈ l) {ys : List Lt} (hs : ∀ y ∈ ys, y ∈ (C p.2).ls) (hl : ys.length ≤ 60) : (rowB letterB ys).length ≤ 12004 := by
  have := row_len (f := letterB) (m := 200) ys (by omega) fun y hy => letter_len ((h.bx p hp).plain y (hs y hy)) (by have := h.uid hp (hs y hy); omega)
  omega
theorem HI.nums_len {H K : Nat} {l : Bxs} {nx : Int} {W : List Nm} {C : Nat → Bxd} (h : HI H K l nx W C) (hK : K ≤ 400) {p : Nm × Nat} (hp : p ∈ l) : (numB (C p.2).v).length ≤ 7 ∧ (numB (C p.2).n).length ≤ 7 := by
  have g := h.bx p hp
  have g1 := g.num
  have g2 := g.next
  have g3 := h.nxt.2
  have g4 := g.inv.next
  exact ⟨num_len 5 (by omega) (by omega), num_len 5 (by omega) (by omega)⟩
theorem HI.body_len {H K : Nat} {l : Bxs} {nx : Int} {W : List Nm} {C : Nat → Bxd} (h : HI H K l nx W C) (hK : K ≤ 400) (g : Bxd → Nm) (hg : ∀ p ∈ l, (g (C p.2)).length ≤ 30000) : (bodyB g (svOf l W nx C)).length ≤ 40000000 := by
  unfold bodyB svOf namesB
  simp only [List.length_append]
  have hl := h.len
  have hw := h.wlen
  have e1 := num_len (n := nx) 5 (by have := h.nxt.1; omega) (by have := h.nxt.2; omega)
  have e2 := row_len (f := textB) (m := 70) W (by omega) fun t ht => by have := nameB_len60 (h.wnm t ht); have := text_len (t := t) 2 (by omega); omega
  have e3 := row_len (f := textB) (m := 70) (l.map Prod.fst) (by rw [List.length_map]; omega) fun t ht => by
    obtain ⟨p, hp, rfl⟩ := List.mem_map.1 ht
    have := h.short p hp
    have := text_len (t := p.1) 2 (by omega)
    omega
  rw [List.length_map] at e3
  have e4 := flat_len (f := pieceB g) (g := fun _ => 40000) (l.map fun p => C p.2) fun x hx => by
    obtain ⟨p, hp, rfl⟩ := List.mem_map.1 hx
    have := hg p hp
    have := h.nums_len hK hp
    unfold pieceB
    simp only [List.length_append]
    omega
  have e5 := sum_le (g := fun _ : Bxd => 40000) (m := 40000) (l.map fun p => C p.2) (fun _ _ => Nat.le_refl _)
  rw [List.length_map] at e5
  omega
theorem HI.full_len {H K : Nat} {l : Bxs} {nx : Int} {W : List Nm} {C : Nat → Bxd} (h : HI H K l nx W C) (hK : K ≤ 400) : (houseB (svOf l W nx C)).length ≤ 40000000 := by
  rw [houseB_body]
  exact h.body_len hK _ fun p hp => by have := h.letters_len hK hp (ys := (C p.2).ls) (fun y hy => hy) (h.bx p hp).most; omega
theorem HI.change_len {H K : Nat} {l : Bxs} {nx : Int} {W : List Nm} {C : Nat → Bxd} (h : HI H K l nx W C) (hK : K ≤ 400) (A : List Bxd) : (changeB (lettersB A) (svOf l W nx C)).length ≤ 40000000 := by
  rw [changeB_body]
  refine h.body_len hK _ fun p hp => ?_
  have hm := (h.bx p hp).most
  have e1 := h.letters_len hK hp (ys := othersL (C p.2).ls (lettersB A (C p.2).v)) (fun y hy => (List.mem_filter.1 hy).1) (by have := othersL_le (now := (C p.2).ls) (before := lettersB A (C p.2).v); omega)
  have e2 := row_len (f := numB) (m := 7) (keptU (C p.2).ls (lettersB A (C p.2).v)) (by have := keptU_le (now := (C p.2).ls) (before := lettersB A (C p.2).v); omega) fun u hu => by
    unfold keptU at hu
    obtain ⟨y, hy, rfl⟩ := List.mem_map.1 hu
    have := h.uid hp (List.mem_filter.1 hy).1
    exact num_len 5 (by omega) (by omega)
  have e3 := keptU_le (now := (C p.2).ls) (before := lettersB A (C p.2).v)
  unfold changedB
  rw [List.length_append]
  omega
/-- What a house of deeds has may be written. -/
theorem HI.arOk {H K : Nat} {l : Bxs} {nx : Int} {W : List Nm} {C : Nat → Bxd} (h : HI H K l nx W C) (hK : K ≤ 400) : ArOk (svOf l W nx C) := by
  have hl := h.len
  have hw := h.wlen
  refine ⟨h.svOk hK, ⟨⟨by have := h.nxt.1; show 0 ≤ nx; omega, by have := h.nxt.2; show nx ≤ _; omega⟩, by show (namesB l).length ≤ 1000; simp [namesB]; omega, by show W.length ≤ 1000; omega, by show (l.map _).length ≤ 1000; simp; omega, fun s hs => ?_, fun s hs => by have := nameB_len60 (h.wnm s hs); omega, fun x hx => ?_⟩⟩
  · obtain ⟨p, hp, rfl⟩ := List.mem_map.1 hs
    have := h.short p hp
    omega
  · obtain ⟨p, hp, rfl⟩ := List.mem_map.1 hx
    have g := h.bx p hp
    have g1 := g.num
    have g2 := g.next
    have g3 := g.most
    have g4 := h.nxt.2
    have g5 := g.inv.next
    refine ⟨⟨by omega, by omega⟩, ⟨by omega, by omega⟩, by omega, fun y hy => ?_⟩
    obtain ⟨p1, p2, p3⟩ := g.plain y hy
    have := h.uid hp hy
    exact ⟨⟨by omega, by omega⟩, by rw [p1]; simp, ⟨by omega, by omega⟩, by omega⟩
theorem kept_all (l : List Lt) : keptU l l = l.map Lt.uid ∧ othersL l l = [] := by
  constructor
  · unfold keptU
    rw [List.filter_eq_self.2 fun y hy => by simpa using hy]
  · unfold othersL
    rw [List.filter_eq_nil_iff.2 fun y hy => by simpa using hy]
theorem HI.lettersB {H K : Nat} {l : Bxs} {nx : Int} {W : List Nm} {C : Nat → Bxd} (h : HI H K l nx W C) {p : Nm × Nat} (hp : p ∈ l) : lettersB (svOf l W nx C).boxes (C p.2).v = (C p.2).ls := by
  obtain ⟨k, hk⟩ := List.getElem?_of_mem hp
  refine lettersB_hit (k := k) (fun j y hj hlt e => ?_) (by show (l.map _)[k]? = _; rw [List.getElem?_map, hk]; rfl) rfl
  rw [show (svOf l W nx C).boxes = l.map fun p => C p.2 from rfl, List.getElem?_map] at hj
  cases hq : l[j]? with
  | none => rw [hq] at hj; cases hj
  | some q =>
    rw [hq] at hj
    obtain rfl : C q.2 = y := Option.some.inj hj
    have e1 := h.num q (List.mem_of_getElem? hq) p hp e
    subst e1
    have hnd : l.Nodup := h.sorted.imp fun h e => by rw [e] at h; exact absurd h (List.lt_irrefl _)
    exact absurd ((List.getElem?_inj (List.getElem?_eq_some_iff.1 hq).1 hnd).1 (hq.trans hk.symm)) (by omega)
/-- How long it may be where nothing changed. -/
def mostB (l : Bxs) (W : List Nm) (C : Nat → Bxd) : Nat := 60 + (W.map fun t => 4 + t.length).sum + (l.map fun p => 50 + p.1.length + 11 * (C p.2).ls.length).sum
theorem sum_add {α : Type} (f g : α → Nat) : ∀ l : List α, (l.map f).sum + (l.map g).sum = (l.map fun x => f x + g x).sum
  | [] => rfl
  | x :: l => by
    have := sum_add f g l
    simp only [List.map_cons, List.sum_cons]
    omega
theorem sum_mono {α : Type} {f g : α → Nat} : ∀ l : List α, (∀ x ∈ l, f x ≤ g x) → (l.map f).sum ≤ (l.map g).sum
  | [], _ => by simp
  | x :: l, h => by
    have h1 := h x List.mem_cons_self
    have h2 := sum_mono l fun y hy => h y (List.mem_cons_of_mem _ hy)
    simp only [List.map_cons, List.sum_cons]
    omega
theorem HI.same_len {H K : Nat} {l : Bxs} {nx : Int} {W : List Nm} {C : Nat → Bxd} (h : HI H K l nx W C) (hK : K ≤ 400) : (68 :: changeB (Go.Proofs.YtdmplfflmdanlaaGreatDoor.lettersB (svOf l W nx C).boxes) (svOf l W nx C)).length ≤ mostB l W C := by
  rw [changeB_body]
  unfold bodyB mostB
  have hl := h.len
  have hw := h.wlen
  have e1 := num_len (n := nx) 5 (by have := h.nxt.1; omega) (by have := h.nxt.2; omega)
  have e2 := num_len (n := (W.length : Int)) 1 (by omega) (by omega)
  have e3 := num_len (n := ((l.map Prod.fst).length : Int)) 1 (by omega) (by rw [List.length_map]; omega)
  have f2 := flat_len (f := textB) (g := fun t => 4 + t.length) W fun t ht => by have := nameB_len60 (h.wnm t ht); have := text_len (t := t) 1 (by omega); omega
  have f3 := flat_len (f := textB) (g := fun t => 4 + t.length) (l.map Prod.fst) fun t ht => by
    obtain ⟨p, hp, rfl⟩ := List.mem_map.1 ht
    have := h.short p hp
    have := text_len (t := p.1) 1 (by omega)
    omega
  have f4 : ((l.map fun p => C p.2).map (pieceB (changedB (svOf l W nx C).boxes))).flatten.length ≤ (l.map fun p => 22 + 11 * (C p.2).ls.length).sum := by
    rw [List.map_map]
    refine flat_len l fun p hp => ?_
    have n1 := h.nums_len hK hp
    have hm := (h.bx p hp).most
    show (pieceB (changedB (svOf l W nx C).boxes) (C p.2)).length ≤ _
    unfold pieceB changedB
    rw [h.lettersB hp, (kept_all _).1, (kept_all _).2]
    unfold rowB
    simp only [List.length_append, List.map_nil, List.flatten_nil, List.length_nil]
    have k1 := num_len (n := (((C p.2).ls.map Lt.uid).length : Int)) 1 (by omega) (by rw [List.length_map]; omega)
    have k2 := num_len (n := ((0 : Nat) : Int)) 0 (by omega) (by decide)
    have k3 := flat_len (f := numB) (g := fun _ => 7) ((C p.2).ls.map Lt.uid) fun u hu => by
      obtain ⟨y, hy, rfl⟩ := List.mem_map.1 hu
      have := h.uid hp hy
      exact num_len 5 (by omega) (by omega)
    have k4 := sum_le (g := fun _ : Int => 7) (m := 7) ((C p.2).ls.map Lt.uid) (fun _ _ => Nat.le_refl _)
    rw [List.length_map] at k4
    omega
  rw [List.map_map] at f3
  have f5 := sum_add (fun p : Nm × Nat => 4 + p.1.length) (fun p => 22 + 11 * (C p.2).ls.length) l
  have f6 := sum_mono (f := fun p : Nm × Nat => 4 + p.1.length + (22 + 11 * (C p.2).ls.length)) (g := fun p => 50 + p.1.length + 11 * (C p.2).ls.length) l fun p _ => by omega
  have f3 : (l.map Prod.fst |>.map textB).flatten.length ≤ (l.map fun p => 4 + p.1.length).sum := by rw [List.map_map] at *; exact f3
  unfold rowB
  simp only [List.length_cons, List.length_append]
  show (numB nx).length + ((numB (W.length : Int)).length + (W.map textB).flatten.length + ((numB ((l.map Prod.fst).length : Int)).length + ((l.map Prod.fst).map textB).flatten.length + ((l.map fun p => C p.2).map (pieceB (changedB (svOf l W nx C).boxes))).flatten.length)) + 1 ≤ _
  omega
end Go.Proofs.YtdmplfflmdanlaaGreatDoor
namespace Go.Proofs.YtdmplfflmdanlaaGreatDoor
open Go.RowKit Go.Proofs.Aid

/-- A deed. -/
structure Dd where
  what : Int
  s : ByteArray
  t : ByteArray
  yes : Bool
def DdAt (w : World) (b o : Nat) (x : Dd) : Prop :=
  w.cell? ⟨b, o, none⟩ = some (.int .i64 x.what) ∧ w.cell? ⟨b, o + 1, none⟩ = some (.string x.s) ∧ w.cell? ⟨b, o + 2, none⟩ = some (.string x.t) ∧ w.cell? ⟨b, o + 3, none⟩ = some (.bool x.yes)
def Dds (w : World) (v : Value) (L : List Dd) : Prop := ∃ a c, v = .slice a L.length c ∧ (L = [] ∨ ∃ b o, a = some ⟨b, o, none⟩ ∧ ∀ (j : Nat) x, L[j]? = some x → DdAt w b (o + j * 4) x)
theorem DdAt.below {w w' : World} {b o B : Nat} {x : Dd} (h : DdAt w b o x) (hb : Below B w w') (hB : w.heap.size ≤ B) : DdAt w' b o x := by
  obtain ⟨h1, h2, h3, h4⟩ := h
  have hlt : b < B := Nat.lt_of_lt_of_le (World.block_lt_of_cell? _ _ h1) hB
  have ec : ∀ i, w'.cell? ⟨b, i, none⟩ = w.cell? ⟨b, i, none⟩ := fun i => hb.cell (p := ⟨b, i, none⟩) hlt
  exact ⟨(ec _).trans h1, (ec _).trans h2, (ec _).trans h3, (ec _).trans h4⟩
theorem Dds.below {w w' : World} {v : Value} {B : Nat} {L : List Dd} (h : Dds w v L) (hb : Below B w w') (hB : w.heap.size ≤ B) : Dds w' v L := by
  obtain ⟨a, c, h1, h2⟩ := h
  refine ⟨a, c, h1, ?_⟩
  rcases h2 with h2 | ⟨b, o, h3, h4⟩
  · exact Or.inl h2
  · exact Or.inr ⟨b, o, h3, fun j x hj => (h4 j x hj).below hb hB⟩
theorem dds_at {w : World} {a : Option Addr} {n c : Nat} {L : List Dd} (h : Dds w (.slice a n c) L) {k : Nat} {x : Dd} (hk : L[k]? = some x) : ∃ b o, a = some ⟨b, o, none⟩ ∧ DdAt w b (o + k * 4) x := by
  obtain ⟨a', c', h1, h2⟩ := h
  injection h1 with h1 _ _
  subst h1
  rcases h2 with h2 | ⟨b, o, h3, h4⟩
  · rw [h2] at hk
    simp at hk
  · exact ⟨b, o, h3, h4 k x hk⟩
def smallD (x : Dd) : Bool := decide (x.s.size ≤ 100) && decide (x.t.size ≤ 100)
def smallB (L : List Dd) : Bool := decide (L.length ≤ 40) && L.all smallD
set_option maxHeartbeats 2000000 in
set_option maxRecDepth 100000 in
theorem small_is (v : Value) (L : List Dd) (w : World) (h : Dds w v L) : Calls Tryz.prog 21 #[v] w fun e w' => e = .returned (.bool (smallB L)) ∧ w' = w := by
  obtain ⟨a, c, rfl, ha⟩ := id h
  obtain ⟨R, hR⟩ : ∃ R, smallB L = R := ⟨_, rfl⟩
  rw [hR]
  unfold smallB at hR
  by_cases hl : L.length ≤ 40
  · rw [decide_eq_true hl, Bool.true_and] at hR
    have HR : Hid (L.all smallD = R) := hR
    obtain ⟨len, hn⟩ : ∃ n, L.length = n := ⟨_, rfl⟩
    rw [hn] at hl
    have HA : Hid (Dds w (.slice a len c) L) := by rw [← hn]; exact h
    rw [hn]
    have hl' : decide ((40 : Int) < (len : Int)) = false := decide_eq_false (by omega)
    have HN : Hid (L.length = len) := hn
    clear hR hn ha h
    go_enter Tryz.func21, Tryz.ntmps21
    go_wp2_with fail
    go_loopw [3] (fun i wr => ∃ k : Nat, i = .int .i64 (k : Int) ∧ k ≤ len ∧ Hid (∀ t ∈ L.take k, smallD t = true) ∧ wr = w) (fun i _ => len - (intOf i).toNat)
    case atStart => exact ⟨0, rfl, Nat.zero_le _, fun t ht => by simp at ht, rfl⟩
    case round =>
      obtain ⟨k, rfl, hk, HK, hwr⟩ := hrel
      obtain rfl : w = wr := hwr.symm
      by_cases hlt : k < len
      · have d1 : decide ((k : Int) < (len : Int)) = true := decide_eq_true (by omega)
        have i1 : (0 : Int) ≤ (k : Int) := by omega
        have i2 : (k : Int) < (len : Int) := by omega
        obtain ⟨x, hxk⟩ : ∃ x, L[k]? = some x := ⟨_, List.getElem?_eq_getElem (by have := HN.out; omega)⟩
        obtain ⟨b, o, rfl, _, q1, q2, _⟩ := dds_at HA.out hxk
        obtain ⟨S, hS⟩ : ∃ s, x.s = s := ⟨_, rfl⟩
        obtain ⟨T, hT⟩ : ∃ s, x.t = s := ⟨_, rfl⟩
        rw [hS] at q1
        rw [hT] at q2
        have HX : Hid (L[k]? = some x ∧ x.s = S ∧ x.t = T) := ⟨hxk, hS, hT⟩
        have HNO : Hid (smallD x = false → R = false) := fun h => by
          show R = false
          rw [← HR.out, List.all_eq_false]
          exact ⟨x, List.mem_of_getElem? hxk, by simpa using h⟩
        clear hxk hS hT
        by_cases hs : S.size ≤ 100
        · have e1 : decide ((100 : Int) < (S.size : Int)) = false := decide_eq_false (by omega)
          by_cases ht : T.size ≤ 100
          · have e2 : decide ((100 : Int) < (T.size : Int)) = false := decide_eq_false (by omega)
            have HNX : Hid (∀ t ∈ L.take (k + 1), smallD t = true) := fun t hm => by
              rw [List.take_add_one, HX.out.1] at hm
              rcases List.mem_append.1 hm with hm | hm
              · exact HK.out t hm
              · obtain rfl : t = x := by simpa using hm
                unfold smallD
                rw [HX.out.2.1, HX.out.2.2, decide_eq_true hs, decide_eq_true ht]
                rfl
            clear HK
            go_wp2_with fail
            go_roundw
            case rel => exact ⟨k + 1, by go_num, by omega, HNX, by first | rfl | trivial⟩
            case measure => simp [intOf]; omega
          · have e2 : decide ((100 : Int) < (T.size : Int)) = true := decide_eq_true (by omega)
            have hRF : R = false := HNO.out (by unfold smallD; rw [HX.out.2.1, HX.out.2.2, decide_eq_false ht, Bool.and_false])
            subst hRF
            clear HK
            go_wp2_with fail
            go_ret
            exact ⟨rfl, rfl⟩
        · have e1 : decide ((100 : Int) < (S.size : Int)) = true := decide_eq_true (by omega)
          have hRF : R = false := HNO.out (by unfold smallD; rw [HX.out.2.1, decide_eq_false hs, Bool.false_and])
          subst hRF
          clear HK
          go_wp2_with fail
          go_ret
          exact ⟨rfl, rfl⟩
      · have d1 : decide ((k : Int) < (len : Int)) = false := decide_eq_false (by omega)
        obtain rfl : k = len := by omega
        have hRT : R = true := by
          rw [← HR.out, List.all_eq_true]
          have := HK.out
          rwa [List.take_of_length_le (by rw [HN.out]; exact Nat.le_refl _)] at this
        subst hRT
        clear HK
        go_wp2_with fail
        go_ret
        exact ⟨rfl, rfl⟩
  · rw [decide_eq_false hl, Bool.false_and] at hR
    subst hR
    have hl' : decide ((40 : Int) < (L.length : Int)) = true := decide_eq_true (by omega)
    clear ha h
    go_enter Tryz.func21, Tryz.ntmps21
    go_wp2_with fail
    go_ret
    exact ⟨rfl, rfl⟩
end Go.Proofs.YtdmplfflmdanlaaGreatDoor
