/-
  Parts of a command in memory, in a row that grows.
-/
import Derived.Test.YtmcpohnilgbicaaGreatDoorSearchSpec
import Derived.Test.YtmcpohnilgbicaaGreatDoorButAid
import Derived.Deep.DeepCutAuto
namespace Go.Proofs.YtmcpohnilgbicaaGreatDoor
open Go.RowKit Go.Proofs.Aid

/-- A slice is a list of parts of a command; what lies in it is read in blocks of Ok alone. -/
inductive Agw (w : World) (Ok : Nat → Prop) : List Sr.Ar → Value → Prop
  | mk (l : List Sr.Ar) (a : Option Addr) (c : Nat) (txt : Nat → ByteArray) (vs : Nat → Value)
    (htx : ∀ (j : Nat) x, l[j]? = some x → (txt j).data.toList = x.text)
    (hk : ∀ (j : Nat) x, l[j]? = some x → Agw w Ok x.list (vs j))
    (ha : l = [] ∨ ∃ b o, a = some ⟨b, o, none⟩ ∧ Ok b ∧ ∀ (j : Nat) x, l[j]? = some x → w.cell? ⟨b, o + j * 3, none⟩ = some (.int .i64 x.kind) ∧ w.cell? ⟨b, o + j * 3 + 1, none⟩ = some (.string (txt j)) ∧ w.cell? ⟨b, o + j * 3 + 2, none⟩ = some (vs j)) :
    Agw w Ok l (.slice a l.length c)
theorem Agw.nil (w : World) (Ok : Nat → Prop) : Agw w Ok [] (.slice none 0 0) := Agw.mk [] none 0 (fun _ => ⟨#[]⟩) (fun _ => .slice none 0 0) (fun j x h => by simp at h) (fun j x h => by simp at h) (Or.inl rfl)
theorem Agw.form {w : World} {Ok : Nat → Prop} {l : List Sr.Ar} {v : Value} (h : Agw w Ok l v) : ∃ a c, v = .slice a l.length c := by
  cases h with
  | mk _ a c _ _ _ _ _ => exact ⟨a, c, rfl⟩
theorem Agw.kept {w w' : World} {Ok Ok' : Nat → Prop} {l : List Sr.Ar} {v : Value} (h : Agw w Ok l v) (hO : ∀ k, Ok k → k < w.heap.size → Ok' k ∧ w'.heap[k]? = w.heap[k]?) : Agw w' Ok' l v := by
  induction h with
  | mk l a c txt vs htx hk ha ih =>
    refine Agw.mk l a c txt vs htx ih ?_
    rcases ha with ha | ⟨b, o, h1, h2, h3⟩
    · exact Or.inl ha
    · cases l with
      | nil => exact Or.inl rfl
      | cons x l =>
        have hb : b < w.heap.size := World.block_lt_of_cell? _ _ (h3 0 x rfl).1
        have h9 := hO b h2 hb
        refine Or.inr ⟨b, o, h1, h9.1, fun j q hj => ?_⟩
        obtain ⟨c1, c2, c3⟩ := h3 j q hj
        exact ⟨(World.cell?_of_block h9.2).trans c1, (World.cell?_of_block h9.2).trans c2, (World.cell?_of_block h9.2).trans c3⟩
/-- Three values are a part. -/
def Ax (w : World) (Ok : Nat → Prop) (x : Sr.Ar) (xs : List Value) : Prop :=
  ∃ (tb : ByteArray) (lv : Value), xs = [.int .i64 x.kind, .string tb, lv] ∧ tb.data.toList = x.text ∧ Agw w Ok x.list lv
theorem Ax.length {w : World} {Ok : Nat → Prop} {x : Sr.Ar} {xs : List Value} (h : Ax w Ok x xs) : xs.length = 3 := by obtain ⟨_, _, rfl, _⟩ := h; rfl
theorem Ax.kept {w w' : World} {Ok Ok' : Nat → Prop} {x : Sr.Ar} {xs : List Value} (h : Ax w Ok x xs) (hO : ∀ k, Ok k → k < w.heap.size → Ok' k ∧ w'.heap[k]? = w.heap[k]?) : Ax w' Ok' x xs := by
  obtain ⟨tb, lv, h1, h2, h3⟩ := h
  exact ⟨tb, lv, h1, h2, h3.kept hO⟩
theorem ax_cells {w : World} {Ok : Nat → Prop} {x : Sr.Ar} {xs : List Value} (h : Ax w Ok x xs) : ∃ (tb : ByteArray) (a : Option Addr) (k c : Nat), xs = [.int .i64 x.kind, .string tb, .slice a k c] := by
  obtain ⟨tb, lv, rfl, _, h3⟩ := h
  obtain ⟨a, c, rfl⟩ := h3.form
  exact ⟨tb, a, _, c, rfl⟩
theorem flat3_get : ∀ {rows : List (List Value)} {j i : Nat} {xs : List Value}, (∀ ys ∈ rows, ys.length = 3) → rows[j]? = some xs → i < 3 → rows.flatten[j * 3 + i]? = xs[i]?
  | [], j, i, xs, _, h, _ => by simp at h
  | r :: rs, 0, i, xs, h6, h, hi => by
    obtain rfl : r = xs := by simpa using h
    have := h6 r List.mem_cons_self
    rw [List.flatten_cons, Nat.zero_mul, Nat.zero_add, List.getElem?_append_left (by omega)]
  | r :: rs, j + 1, i, xs, h6, h, hi => by
    have h1 := h6 r List.mem_cons_self
    rw [List.flatten_cons, List.getElem?_append_right (by omega), h1, show (j + 1) * 3 + i - 3 = j * 3 + i by omega]
    exact flat3_get (fun ys hy => h6 ys (List.mem_cons_of_mem _ hy)) (by simpa using h) hi
/-- A row of parts, owned. -/
def ARow (base : Nat) (ks : List Sr.Ar) (v : Value) (w : World) : Prop :=
  ∃ rows : List (List Value), rows.length = ks.length ∧ w.ownsRow base 59 3 v ks.length rows.flatten ∧
    (∀ (j : Nat) k xs, ks[j]? = some k → rows[j]? = some xs → Ax w (fun q => base ≤ q ∧ v.ownBlock ≠ some q) k xs) ∧ (∀ xs ∈ rows, xs.length = 3)
theorem ARow.kept {base : Nat} {ks : List Sr.Ar} {v : Value} {w w' : World} (h : ARow base ks v w) (hk : ∀ q, base ≤ q → q < w.heap.size → w'.heap[q]? = w.heap[q]?) : ARow base ks v w' := by
  obtain ⟨rows, h2, h3, h4, h5⟩ := h
  exact ⟨rows, h2, own_same h3 fun g hg => hk g (h3.lt g hg).1 (h3.lt g hg).2, fun j p xs hj hx => (h4 j p xs hj hx).kept fun q hq hlt => ⟨hq, hk q hq.1 hlt⟩, h5⟩
/-- A row of one part, just laid. -/
theorem ARow.lit {base : Nat} {k : Sr.Ar} {xs : List Value} {w : World} (h : Ax w (fun q => base ≤ q) k xs) (hb : base ≤ w.heap.size) : ARow base [k] (.slice (some ⟨w.heap.size, 0, none⟩) 1 1) (w.alloc (.cells xs.toArray 59)) := by
  refine ⟨[xs], rfl, ?_, fun j q ys hj hy => ?_, fun ys hy => ?_⟩
  · have := World.ownsRow_lit (base := base) (e := 59) (size := 3) w xs.toArray 1 hb (by decide) (by simpa using h.length)
    simpa using this
  · have hj0 : j = 0 := by
      have := (List.getElem?_eq_some_iff.1 hj).1
      simp at this
      exact this
    subst hj0
    obtain rfl : k = q := by simpa using hj
    obtain rfl : xs = ys := by simpa using hy
    have hbl : Below w.heap.size w (w.alloc (.cells xs.toArray 59)) := (Below.refl _ _).alloc (Nat.le_refl _) _
    refine h.kept fun q hq hlt => ⟨⟨hq, fun e => ?_⟩, hbl.block q hlt⟩
    injection e with e
    have e' : w.heap.size = q := e
    omega
  · rw [List.mem_singleton.1 hy]; exact h.length
/-- All of the row's parts, as the parts of a part. -/
theorem ARow.cells {base : Nat} {ks : List Sr.Ar} {va : Option Addr} {vc : Nat} {w : World} (h : ARow base ks (.slice va ks.length vc) w) :
    ∃ rows : Nat → List Value, (∀ (j : Nat) k, ks[j]? = some k → Ax w (fun q => base ≤ q) k (rows j)) ∧ (ks = [] ∨ ∃ b o, va = some ⟨b, o, none⟩ ∧ base ≤ b ∧ ∀ (j : Nat) k, ks[j]? = some k → ∀ i x, (rows j)[i]? = some x → w.cell? ⟨b, o + j * 3 + i, none⟩ = some x) := by
  obtain ⟨rows, hl, hrow, hsx, h6⟩ := h
  have hjr : ∀ j : Nat, j < ks.length → rows[j]? = some (rows.getD j []) := fun j hj => by
    rw [List.getD_eq_getElem?_getD, List.getElem?_eq_getElem (by rw [hl]; exact hj)]; rfl
  refine ⟨fun j => rows.getD j [], fun j k hjk => (hsx j k _ hjk (hjr j (List.getElem?_eq_some_iff.1 hjk).1)).kept fun q hq _ => ⟨hq.1, rfl⟩, ?_⟩
  by_cases hps : ks = []
  · exact Or.inl hps
  · right
    have hk0 : ks.length ≠ 0 := fun e => hps (List.eq_nil_of_length_eq_zero e)
    obtain ⟨g2, cap2, hv2⟩ := row_some hrow hk0
    injection hv2 with hva _ _
    subst hva
    refine ⟨g2, 0, rfl, (hrow.lt g2 rfl).1, fun j p hjp i x hx => ?_⟩
    change (rows.getD j [])[i]? = some x at hx
    have hjk := (List.getElem?_eq_some_iff.1 hjp).1
    have hx3 : i < 3 := by
      have h7 := h6 _ (List.mem_of_getElem? (hjr j hjk))
      have := (List.getElem?_eq_some_iff.1 hx).1
      omega
    rw [Nat.zero_add, hrow.cellAt (j * 3 + i) (by omega), flat3_get h6 (hjr j hjk) hx3]
    exact hx
/-- One part more, behind an append. -/
theorem ARow.push {base z : Nat} {ks : List Sr.Ar} {va : Option Addr} {vc : Nat} {w W w' : World} {g cap : Nat} {k : Sr.Ar} {xs : List Value} {rows : List (List Value)}
    (hl : rows.length = ks.length)
    (hsx : ∀ (j : Nat) k xs, ks[j]? = some k → rows[j]? = some xs → Ax w (fun q => base ≤ q ∧ (Value.slice va ks.length vc).ownBlock ≠ some q) k xs) (h6 : ∀ xs ∈ rows, xs.length = 3)
    (hz : base ≤ z) (hoz : ∀ q, (Value.slice va ks.length vc).ownBlock = some q → q < z) (hk : Ax w (fun q => z ≤ q) k xs) (hW : Below w.heap.size w W)
    (hown : w'.ownsRow base 59 3 (.slice (some ⟨g, 0, none⟩) (ks.length + 1) cap) (ks.length + 1) (rows.flatten ++ xs)) (hg : W.grownBy w' (Value.slice va ks.length vc).ownBlock) (hor : (Value.slice va ks.length vc).ownBlock = some g ∨ g = W.heap.size) :
    ARow base (ks ++ [k]) (.slice (some ⟨g, 0, none⟩) (ks.length + 1) cap) w' ∧ ∀ q, q < w.heap.size → some q ≠ (Value.slice va ks.length vc).ownBlock → w'.heap[q]? = w.heap[q]? := by
  have far : ∀ q, q < w.heap.size → some q ≠ (Value.slice va ks.length vc).ownBlock → w'.heap[q]? = w.heap[q]? := fun q hq h1 =>
    (hg.block q (Nat.lt_of_lt_of_le hq hW.size) h1).trans (hW.block q hq)
  have hog : ∀ q, q < w.heap.size → some q ≠ (Value.slice va ks.length vc).ownBlock → q ≠ g := fun q hq h1 e => by
    subst e
    rcases hor with h | h
    · exact h1 h.symm
    · have := hW.size; omega
  have hlen : (ks ++ [k]).length = ks.length + 1 := by simp
  refine ⟨⟨rows ++ [xs], by simp [hl], ?_, ?_, ?_⟩, far⟩
  · rw [hlen, List.flatten_append, List.flatten_cons, List.flatten_nil, List.append_nil]
    exact hown
  · intro j p' xs' hjp hjx
    by_cases hjk : j < ks.length
    · rw [List.getElem?_append_left hjk] at hjp
      rw [List.getElem?_append_left (by rw [hl]; exact hjk)] at hjx
      refine (hsx j p' xs' hjp hjx).kept fun q hq hlt => ⟨⟨hq.1, fun e => ?_⟩, far q hlt (Ne.symm hq.2)⟩
      injection e with e
      exact hog q hlt (Ne.symm hq.2) e.symm
    · have hjl : j < (ks ++ [k]).length := (List.getElem?_eq_some_iff.1 hjp).1
      obtain rfl : j = ks.length := by rw [hlen] at hjl; omega
      rw [List.getElem?_append_right (Nat.le_refl _), Nat.sub_self] at hjp
      rw [List.getElem?_append_right (by rw [hl]; exact Nat.le_refl _), hl, Nat.sub_self] at hjx
      obtain rfl : k = p' := by simpa using hjp
      obtain rfl := Option.some.inj hjx
      have hown9 : ∀ q, z ≤ q → some q ≠ (Value.slice va ks.length vc).ownBlock := fun q hq e => by have := hoz q e.symm; omega
      refine hk.kept fun q hq hlt => ⟨⟨by omega, fun e => ?_⟩, far q hlt (hown9 q hq)⟩
      injection e with e
      exact hog q hlt (hown9 q hq) e.symm
  · intro xs' hxs
    rcases List.mem_append.1 hxs with h | h
    · exact h6 xs' h
    · rw [List.mem_singleton.1 h]; exact hk.length
/-- A row of parts is a list of them. -/
theorem ARow.ags {base : Nat} {ks : List Sr.Ar} {va : Option Addr} {vc : Nat} {w : World} (h : ARow base ks (.slice va ks.length vc) w) : Agw w (fun q => base ≤ q) ks (.slice va ks.length vc) := by
  obtain ⟨rows, h1, h2⟩ := h.cells
  have pick : ∀ (j : Nat), ∃ (p : ByteArray × Value), ∀ k, ks[j]? = some k → rows j = [.int .i64 k.kind, .string p.1, p.2] ∧ p.1.data.toList = k.text ∧ Agw w (fun q => base ≤ q) k.list p.2 := fun j => by
    cases hj : ks[j]? with
    | none => exact ⟨(⟨#[]⟩, .slice none 0 0), fun k hk => by cases hk⟩
    | some k =>
      obtain ⟨tb, lv, e1, e2, e3⟩ := h1 j k hj
      exact ⟨(tb, lv), fun k' hk' => by cases hk'; exact ⟨e1, e2, e3⟩⟩
  obtain ⟨f, hf⟩ : ∃ f : Nat → ByteArray × Value, ∀ j k, ks[j]? = some k → rows j = [.int .i64 k.kind, .string (f j).1, (f j).2] ∧ (f j).1.data.toList = k.text ∧ Agw w (fun q => base ≤ q) k.list (f j).2 := ⟨fun j => Classical.choose (pick j), fun j => Classical.choose_spec (pick j)⟩
  refine Agw.mk ks va vc (fun j => (f j).1) (fun j => (f j).2) (fun j x hx => (hf j x hx).2.1) (fun j x hx => (hf j x hx).2.2) ?_
  rcases h2 with h2 | ⟨b, o, e1, e2, e3⟩
  · exact Or.inl h2
  · refine Or.inr ⟨b, o, e1, e2, fun j x hx => ?_⟩
    have hr := (hf j x hx).1
    refine ⟨?_, ?_, ?_⟩
    · have := e3 j x hx 0 (.int .i64 x.kind) (by rw [hr]; rfl)
      rw [Nat.add_zero] at this
      exact this
    · exact e3 j x hx 1 _ (by rw [hr]; rfl)
    · exact e3 j x hx 2 _ (by rw [hr]; rfl)
end Go.Proofs.YtmcpohnilgbicaaGreatDoor
