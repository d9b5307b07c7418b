/-
  The walk of MimeNests.
-/
import Derived.Test.YtgbbkdflnlagaaaDoorMimePartedWalk
import Derived.Test.YtgbbkdflnlagaaaDoorMimeNestsSpec
import Derived.Test.YtgbbkdflnlagaaaDoorMimeCount
import Derived.Test.YtgbbkdflnlagaaaDoorMimeFind
import Derived.Test.YtgbbkdflnlagaaaDoorHeadAny2
import Derived.Deep.QuietTactic
import Derived.BigQuiet
namespace Go.Proofs.YtgbbkdflnlagaaaDoor
open Go.RowKit Go.Proofs.Aid Go.Proofs.Sq Go.Proofs.Hd Go.Proofs.Mm

/-- A slice of texts. -/
def Tn (w : World) (v : Value) (l : List ByteArray) : Prop :=
  ∃ a c, v = .slice a l.length c ∧ (l = [] ∨ ∃ b o, a = some ⟨b, o, none⟩ ∧ ∀ (j : Nat) s, l[j]? = some s → w.cell? ⟨b, o + j, none⟩ = some (.string s))
theorem Tn.below {w w' : World} {v : Value} {B : Nat} {l : List ByteArray} (h : Tn w v l) (hb : Below B w w') (hB : w.heap.size ≤ B) : Tn w' v l := by
  obtain ⟨a, c, h1, h2⟩ := h
  refine ⟨a, c, h1, ?_⟩
  rcases h2 with h2 | ⟨b, o, h2, h3⟩
  · exact Or.inl h2
  · exact Or.inr ⟨b, o, h2, fun j s hj => (hb.cell (p := ⟨b, o + j, none⟩) (Nat.lt_of_lt_of_le (World.block_lt_of_cell? _ _ (h3 j s hj)) hB)).trans (h3 j s hj)⟩
def txs (l : List ByteArray) : List Tx := l.map (·.data.toList)
theorem low_bd : Low ⟨#[32, 9, 13, 10, 0, 59, 61, 34]⟩ := ascii_of_all (by decide)
theorem bd_of {bd : Tx} (hne : bd ≠ []) (h : (bd.any fun c => ([32, 9, 13, 10, 0, 59, 61, 34] : Tx).contains c) = false) : Bd bd := by
  refine ⟨hne, fun c hc => ?_⟩
  rw [List.any_eq_false] at h
  have := h c hc
  simp at this
  simp [this]
theorem ng_one (w : World) (n : Int) : Ng (w.alloc (.cells #[.int .i64 n] 3)) (.slice (some ⟨w.heap.size, 0, none⟩) 1 1) [n] := by
  refine ⟨_, 1, rfl, .inr ⟨w.heap.size, 0, rfl, fun j z hj => ?_⟩⟩
  cases j with
  | zero => simp at hj; subst hj; exact rd_cell (heap_alloc_new w _) rfl
  | succ j => simp at hj
/-- What the second half asks of the texts. -/
structure Fine (l : List ByteArray) : Prop where
  few : l.length ≤ 10
  dash : ∀ x ∈ txs l, NoDash x
  short : ∀ x ∈ l, x.size ≤ 100
theorem extract_is {M x : ByteArray} {lo hi : Nat} (h : textOf M.data.toList lo hi = x.data.toList) : M.extract lo hi = x := text_ext ((extract_text M lo hi).trans h)
end Go.Proofs.YtgbbkdflnlagaaaDoor
