/-
  What head.Fields, Get and Param answer, in one form each.
-/
import Derived.Test.YtgbbkdflnlagaaaGreatDoorHeadRead
import Derived.Test.YtgbbkdflnlagaaaGreatDoorHeadGet
import Derived.Test.YtgbbkdflnlagaaaGreatDoorHeadBounds
import Derived.Test.YtgbbkdflnlagaaaGreatDoorHeadParam
namespace Go.Proofs.YtgbbkdflnlagaaaGreatDoor
open Go.RowKit Go.Proofs.Aid Go.Proofs.Hd Go.Proofs.Sq

theorem fg_nil (w : World) : Fg w (.slice none 0 0) [] := ⟨none, 0, rfl, Or.inl rfl⟩
theorem fieldsFrom_err : ∀ (ps : List Tx) (i : Nat) (l : List Hd.Fd), (fieldsFrom i l ps).1.1 ≠ 0 → (fieldsFrom i l ps).2 = []
  | [], _, _, h => absurd rfl h
  | p :: ps, i, l, h => by
    rw [fieldsFrom_cons] at h ⊢
    split at h
    · next h0 => rw [if_pos h0]; exact fieldsFrom_err ps _ _ h
    · next h0 => rw [if_neg h0]
theorem reads_short {L : List Fb} {V : Nat} (hV : V ≤ 1000000) (h : ∀ f ∈ L.map tx, Hd.Good f ∧ f.2.length ≤ V) : Short L := fun f hf => by
  have h1 := h (tx f) (List.mem_map_of_mem hf)
  have h2 := (name_ne h1.1.name).2
  have h3 := h1.2
  unfold tx at h2 h3
  simp only [list_size] at h2 h3
  exact ⟨by omega, by omega⟩
/-- The error that was told, in memory. -/
def AtErr (w : World) (u : Value) (F : (Int × Nat) × List Hd.Fd) : Prop :=
  (F.1.1 = 0 ∧ u = .nilIface) ∨ (F.1.1 ≠ 0 ∧ ∃ p, u = .iface 170 (.pointer (some ⟨p, 0, none⟩)) ∧ w.cell? ⟨p, 0, none⟩ = some (.int .i64 F.1.1) ∧ w.cell? ⟨p, 1, none⟩ = some (.int .i64 (F.1.2 : Int)))
theorem pfields_is (s : ByteArray) (m : Int) (w : World) (hs : s.size ≤ 90000) (hm : w.cell? ⟨1, 0, none⟩ = some (.int .i64 m)) :
    Calls Tryz.prog 97 #[.string s] w fun e w' => (∃ v u L, e = .returned (.tuple #[v, u]) ∧ Fg w' v L ∧ L.map tx = (fieldsOf s.data.toList).2 ∧ AtErr w' u (fieldsOf s.data.toList)) ∧ Below w.heap.size w w' := by
  refine (fields_is s m w hs hm).mono ?_
  rintro e w' ⟨hb, ⟨h0, v, L, rfl, hf, hL⟩ | ⟨h0, p, rfl, h1, h2⟩⟩
  · exact ⟨⟨v, _, L, rfl, hf, hL, Or.inl ⟨h0, rfl⟩⟩, hb⟩
  · exact ⟨⟨_, _, [], rfl, fg_nil _, (fieldsFrom_err _ _ _ h0).symm, Or.inr ⟨h0, p, rfl, h1, h2⟩⟩, hb⟩
def RGot (G : Option Tx) (x : ByteArray) (ok : Bool) : Prop := (ok = true ∧ G = some x.data.toList) ∨ (ok = false ∧ G = none ∧ x = ⟨#[]⟩)
theorem rgot_one {G : Option Tx} {x y : ByteArray} {a b : Bool} (h : RGot G x a) (k : RGot G y b) : x = y ∧ a = b := by
  rcases h with ⟨rfl, h⟩ | ⟨rfl, h, rfl⟩ <;> rcases k with ⟨rfl, k⟩ | ⟨rfl, k, rfl⟩
  · rw [h] at k; exact ⟨text_ext (Option.some.inj k), rfl⟩
  · rw [h] at k; cases k
  · rw [h] at k; cases k
  · exact ⟨rfl, rfl⟩
theorem pget_is (v : Value) (L : List Fb) (n : ByteArray) (w : World) (h : Fg w v L) (hL : L.length ≤ 100) (hsh : Short L) (hn : n.size ≤ 1000000) :
    Calls Tryz.prog 98 #[v, .string n] w fun e w' => ∃ x ok, RGot (getF (L.map tx) n.data.toList) x ok ∧ e = .returned (.tuple #[.string x, .bool ok]) ∧ Below w.heap.size w w' := by
  refine (get_is v L n w h hL hsh hn).mono ?_
  rintro e w' ⟨hb, ⟨x, h1, rfl⟩ | ⟨h1, rfl⟩⟩
  · exact ⟨x, true, .inl ⟨rfl, h1⟩, rfl, hb⟩
  · exact ⟨⟨#[]⟩, false, .inr ⟨rfl, h1, rfl⟩, rfl, hb⟩
theorem pparam_is (s nm : ByteArray) (m : Int) (w : World) (hs : s.size ≤ 1000000) (hnm : nm.size ≤ 1000000) (hm : w.cell? ⟨1, 0, none⟩ = some (.int .i64 m)) :
    Calls Tryz.prog 103 #[.string s, .string nm] w fun e w' => ∃ x ok, RGot (paramOf s.data.toList nm.data.toList) x ok ∧ e = .returned (.tuple #[.string x, .bool ok]) ∧ Below w.heap.size w w' := by
  refine (param_is s nm m w hs hnm hm).mono ?_
  rintro e w' ⟨hb, ⟨h1, rfl⟩ | ⟨x, h1, rfl⟩⟩
  · exact ⟨⟨#[]⟩, false, .inr ⟨rfl, h1, rfl⟩, rfl, hb⟩
  · exact ⟨x, true, .inl ⟨rfl, h1⟩, rfl, hb⟩
theorem cell_two (w : World) (vs : Array Value) (t : Nat) (j : Nat) (v : Value) (h : vs[j]? = some v) : (w.alloc (.cells vs t)).cell? ⟨w.heap.size, j, none⟩ = some v := by
  unfold World.cell?
  simp only [World.alloc_heap_new]
  exact h
end Go.Proofs.YtgbbkdflnlagaaaGreatDoor
