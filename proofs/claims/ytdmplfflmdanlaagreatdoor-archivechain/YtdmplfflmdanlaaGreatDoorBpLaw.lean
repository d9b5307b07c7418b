/-
  What every statement's row wants: arguments read as they did where not, and more.
-/
import Derived.Test.YtdmplfflmdanlaaGreatDoorBpAcMath
import Derived.Carry
import Derived.OpenShut
import Derived.ChangeSlices
import Derived.SliceStrings
import Derived.Deep.SlicePairs
import Derived.WideShapes
import Derived.Lib.LaidU8
namespace Go.Proofs.Law
open Go.RowKit Go.ChangeShapes Go.WideShapes Go.Deep

variable {H : Type} {enc : TypeId × Value → H} {P : Program}

theorem trodAll_carry (hl : laidOutB P = true) {W W' : World} (hb : Below W.heap.size W W') :
    ∀ (ts : List TypeId) (vs : List Value) (ds : List (DataW H)) (ps : List MemPlace), (∀ t ∈ ts, P.readableRec t = true ∧ t < P.types.size) → DataW.TrodAll enc P W 0 (fun _ => true) true ts vs ds ps → (∀ x ∈ ps, x.block < W.heap.size) →
      DataW.TrodAll enc P W' 0 (fun b => decide (b < W.heap.size)) true ts vs ds ps
  | [], [], [], _, _, h, _ => h
  | t :: ts, v :: vs, d :: ds, ps, hr, h, hlt => by
    obtain ⟨p, q, h1, h2, rfl⟩ := h
    exact ⟨p, q, Below.trod hl (hr t (by simp)).1 (hr t (by simp)).2 h1 hb (fun x hx => hlt x (by simp [hx])), trodAll_carry hl hb ts vs ds q (fun u hu => hr u (by simp [hu])) h2 (fun x hx => hlt x (by simp [hx])), rfl⟩
  | [], _ :: _, _, _, _, h, _ => h.elim
  | [], [], _ :: _, _, _, h, _ => h.elim
  | _ :: _, [], _, _, _, h, _ => h.elim
  | _ :: _, _ :: _, [], _, _, h, _ => h.elim

theorem tabIs_of_reads {W : World} {name : String} {k : IntKind} {zs : List Int} {g : Nat} {t e : TypeId} {n : Nat}
    (hg : P.globalNamed name = some g) (hty : (P.globals[g]?).map (·.type) = some t) (ht : P.underlying t = some (.array n e)) (he : P.underlying e = some (.int k)) (hce : P.cellsOf e = 1) (hct : P.cellsOf t = n)
    (h : Lib.VarReads P W name (Lib.tabData k zs)) : Lib.TabIs P W name k zs := by
  obtain ⟨g', t', cs, fuel, p, hg', ht', hvar, hd⟩ := h
  obtain rfl := Option.some.inj (hg.symm.trans hg')
  obtain rfl := Option.some.inj (hty.symm.trans ht')
  unfold Lib.TabIs
  rw [hvar, ← Lib.cells_of_tab ht he hce hct hd]

/-- An array of texts that reads as a table holds the table's texts, cell by cell. -/
theorem texts_of_reads {W : World} {name : String} {ls : List (List UInt8)} {g : Nat} {t e : TypeId} {n : Nat}
    (hg : P.globalNamed name = some g) (hty : (P.globals[g]?).map (·.type) = some t) (ht : P.underlying t = some (.array n e)) (he : P.underlying e = some .string) (hce : P.cellsOf e = 1) (hct : P.cellsOf t = n)
    (h : Lib.VarReads P W name (.agg (ls.map fun s => .lit (.string s)))) : ∀ (i : Nat) s, ls[i]? = some s → W.cell? ⟨g, i, none⟩ = some (.string ⟨s.toArray⟩) := by
  obtain ⟨g', t', cs, fuel, p, hg', ht', hvar, hd⟩ := h
  obtain rfl := Option.some.inj (hg.symm.trans hg')
  obtain rfl := Option.some.inj (hty.symm.trans ht')
  intro i s hi
  have hcell := World.var?_cell hg hvar i
  rw [hcell]
  cases fuel with
  | zero => simp [DataW.trod] at hd
  | succ fuel =>
    simp only [DataW.trod, ht, hce, hct, Nat.mul_one] at hd
    split at hd
    · rename_i hl
      obtain ⟨xs, hm, hx⟩ := Option.map_eq_some_iff.1 hd
      have hxs : xs.map (·.1) = ls.map fun z => (DataW.lit (.string z) : DataW Unit) := by
        have := congrArg Prod.fst hx
        simpa using this
      have hxl : xs.length = n := by simpa using Lib.mapM_length hm
      have hzl : ls.length = n := by
        have := congrArg List.length hxs
        simp at this
        omega
      have hin : i < n := by rw [← hzl]; exact (List.getElem?_eq_some_iff.1 hi).1
      obtain ⟨b, hb, hf⟩ := Lib.mapM_at hm i i (by simp [hin])
      obtain ⟨z, hc, rfl, _⟩ := DataW.trod_string he hf
      have h1 : cs.toList[i]? = some (.string z) := by
        have := congrArg (·[0]?) hc
        simpa [List.getElem?_take, List.getElem?_drop] using this
      have h2 : (xs.map (·.1))[i]? = some (DataW.lit (.string z.data.toList) : DataW Unit) := by simp [hb]
      rw [hxs] at h2
      simp only [List.getElem?_map, Option.map_eq_some_iff, DataW.lit.injEq, Lit.string.injEq] at h2
      obtain ⟨z', hz', e2⟩ := h2
      rw [hi] at hz'
      cases hz'
      have h3 : cs[i]? = some (.string z) := by simpa using h1
      rw [h3, e2]
    · cases hd

/-- A table's cells. -/
def cellOf : DataW Unit → Value
  | .lit (.int k z) => .int k z
  | .lit (.string s) => .string ⟨s.toArray⟩
  | _ => .int .i64 0
def cellsOf : DataW Unit → Array Value
  | .agg l => (l.map cellOf).toArray
  | d => #[cellOf d]
/-- The world in which a variable holds a table. -/
def lay (w : World) (g : Nat) (d : DataW Unit) : World := { w with heap := w.heap.modify g fun | .cells _ t frozen => .cells (cellsOf d) t frozen | o => o }
end Go.Proofs.Law
namespace Go.Proofs.YtdmplfflmdanlaaGreatDoor
open Go.RowKit Go.ChangeShapes Go.WideShapes Go.Deep Go.Proofs.Law

variable {H : Type} {enc : TypeId × Value → H} {P : Program}
theorem open_deeds {t e : TypeId} {f0 f1 f2 f3 : Field} {W : World} (ht : P.underlying t = some (.slice e)) (he : P.underlying e = some (.struct #[f0, f1, f2, f3])) (ce : P.cellsOf e = 4) (o0 : f0.offset = 0) (o1 : f1.offset = 1) (o2 : f2.offset = 2) (o3 : f3.offset = 3)
    (c0 : P.cellsOf f0.type = 1) (c1 : P.cellsOf f1.type = 1) (c2 : P.cellsOf f2.type = 1) (c3 : P.cellsOf f3.type = 1) (u0 : P.underlying f0.type = some (.int .i64)) (u1 : P.underlying f1.type = some .string) (u2 : P.underlying f2.type = some .string) (u3 : P.underlying f3.type = some .bool)
    (v : Value) (x : DataW H × List MemPlace) (fuel : Nat) (h : DataW.trod enc P W 0 (fun _ => true) true fuel t [v] = some x) : ∃ L, Dds W v L := by
  rcases open_slice ht h with ⟨hcs, rfl⟩ | ⟨a, len, cap, m, n, D, Pl, hcs, hb, hl, hm, hmm, rfl, hx⟩
  · simp only [List.cons.injEq, and_true] at hcs
    subst hcs
    exact ⟨[], none, 0, rfl, Or.inl rfl⟩
  · simp only [List.cons.injEq, and_true] at hcs
    subst hcs
    simp only [if_true] at hmm
    subst hmm
    have each : ∀ i, ∃ q : Dd, i < len → W.cell? (a.add (i * 4)) = some (.int .i64 q.what) ∧ W.cell? (a.add (i * 4 + 1)) = some (.string q.s) ∧ W.cell? (a.add (i * 4 + 2)) = some (.string q.t) ∧ W.cell? (a.add (i * 4 + 3)) = some (.bool q.yes) := by
      intro i
      by_cases hi : i < len
      · obtain ⟨cs', h1, h2⟩ := hx i (by omega)
        rw [ce] at h1
        obtain ⟨_, hlen, hcell⟩ := World.cells?_some h1
        obtain ⟨xs, k, hk, hxy, _, hxl, hf⟩ := DataW.trod_struct he h2
        match xs, hxl, cs', hlen with
        | [y0, y1, y2, y3], _, [v0, v1, v2, v3], _ =>
          have g0 := hf 0 f0 rfl
          have g1 := hf 1 f1 rfl
          have g2 := hf 2 f2 rfl
          have g3 := hf 3 f3 rfl
          simp [o0, o1, o2, o3, c0, c1, c2, c3] at g0 g1 g2 g3
          have e0 := hcell 0 (by omega)
          have e1 := hcell 1 (by omega)
          have e2 := hcell 2 (by omega)
          have e3 := hcell 3 (by omega)
          rw [add_add] at e0 e1 e2 e3
          obtain ⟨z0, hz0, _, _⟩ := DataW.trod_int u0 g0
          obtain ⟨s, hs, _, _⟩ := DataW.trod_string u1 g1
          obtain ⟨s2, hs2, _, _⟩ := DataW.trod_string u2 g2
          obtain ⟨bl, hbl, _, _⟩ := DataW.trod_bool u3 g3
          simp only [List.cons.injEq, and_true] at hz0 hs hs2 hbl
          subst hz0 hs hs2 hbl
          exact ⟨⟨z0, s, s2, bl⟩, fun _ => ⟨by simpa using e0, by simpa using e1, by simpa using e2, by simpa using e3⟩⟩
      · exact ⟨⟨0, ⟨#[]⟩, ⟨#[]⟩, false⟩, fun h => absurd h hi⟩
    let q : Nat → Dd := fun i => (each i).choose
    have hq : ∀ i, i < len → W.cell? (a.add (i * 4)) = some (.int .i64 (q i).what) ∧ W.cell? (a.add (i * 4 + 1)) = some (.string (q i).s) ∧ W.cell? (a.add (i * 4 + 2)) = some (.string (q i).t) ∧ W.cell? (a.add (i * 4 + 3)) = some (.bool (q i).yes) := fun i => (each i).choose_spec
    refine ⟨(List.range len).map q, some a, m, by simp, ?_⟩
    by_cases h0 : len = 0
    · left; rw [h0]; rfl
    · right
      obtain ⟨b, o, spot⟩ := a
      have hspot : spot = none := by
        obtain ⟨h1, _⟩ := hq 0 (by omega)
        simpa [Addr.add] using World.cell?_spot h1
      subst hspot
      refine ⟨b, o, rfl, fun j y hj => ?_⟩
      rw [List.getElem?_map, Option.map_eq_some_iff] at hj
      obtain ⟨i, hi, rfl⟩ := hj
      obtain ⟨hlt, he2⟩ := List.getElem?_eq_some_iff.1 hi
      simp at he2 hlt
      subst he2
      obtain ⟨k0, k1, k2, k3⟩ := hq j (by omega)
      rw [Addr.add_lit] at k0 k1 k2 k3
      exact ⟨k0, k1, k2, k3⟩
end Go.Proofs.YtdmplfflmdanlaaGreatDoor
namespace Go.Proofs.YtdmplfflmdanlaaGreatDoor
open Go.RowKit Go.ChangeShapes Go.WideShapes Go.Deep Go.Proofs.Law

variable {H : Type} {enc : TypeId × Value → H} {P : Program}
theorem open_days {t e : TypeId} {W : World} (ht : P.underlying t = some (.slice e)) (hc : P.cellsOf e = 1) (each : ∀ (v : Value) (x : DataW H × List MemPlace) (fuel : Nat), DataW.trod enc P W 0 (fun _ => true) true fuel e [v] = some x → ∃ L, Dds W v L)
    (v : Value) (x : DataW H × List MemPlace) (fuel : Nat) (h : DataW.trod enc P W 0 (fun _ => true) true fuel t [v] = some x) :
    ∃ LL : List (List Dd), DDs W v LL := by
  rcases open_slice1 ht hc h with ⟨hcs, rfl⟩ | ⟨a, len, cap, m, n, V, D, Pl, hcs, hb, hl, hm, hmm, rfl, hx⟩
  · simp only [List.cons.injEq, and_true] at hcs
    subst hcs
    exact ⟨[], none, 0, rfl, Or.inl rfl⟩
  · simp only [List.cons.injEq, and_true] at hcs
    subst hcs
    simp only [if_true] at hmm
    subst hmm
    have hq : ∀ i, ∃ L : List Dd, i < len → W.cell? (a.add i) = some (V i) ∧ Dds W (V i) L := by
      intro i
      by_cases hi : i < len
      · obtain ⟨h1, h2⟩ := hx i (by omega)
        obtain ⟨L, hL⟩ := each _ _ _ h2
        exact ⟨L, fun _ => ⟨h1, hL⟩⟩
      · exact ⟨[], fun h => absurd h hi⟩
    let q : Nat → List Dd := fun i => (hq i).choose
    have hq2 : ∀ i, i < len → W.cell? (a.add i) = some (V i) ∧ Dds W (V i) (q i) := fun i => (hq i).choose_spec
    refine ⟨(List.range len).map q, some a, m, by simp, ?_⟩
    by_cases h0 : len = 0
    · left; rw [h0]; rfl
    · right
      obtain ⟨b, o, spot⟩ := a
      have hspot : spot = none := by simpa [Addr.add] using World.cell?_spot (hq2 0 (by omega)).1
      subst hspot
      refine ⟨b, o, rfl, fun j y hj => ?_⟩
      rw [List.getElem?_map, Option.map_eq_some_iff] at hj
      obtain ⟨i, hi, rfl⟩ := hj
      obtain ⟨hlt, he2⟩ := List.getElem?_eq_some_iff.1 hi
      simp at he2 hlt
      subst he2
      obtain ⟨k0, k1⟩ := hq2 j (by omega)
      rw [Addr.add_lit] at k0
      exact ⟨_, k0, k1⟩
end Go.Proofs.YtdmplfflmdanlaaGreatDoor
