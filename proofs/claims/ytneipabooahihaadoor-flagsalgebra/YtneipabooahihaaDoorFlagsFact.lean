/-
  The fact on flags that the statement asks first.
-/
import Derived.Test.YtneipabooahihaaDoorFlagsPrint
namespace Go.Proofs.YtneipabooahihaaDoor
open Go.RowKit Go.Proofs.Aid Go.Proofs.Fl Go.Sort Go.Lib

def said : List Tx := [[98], [92, 115, 101, 101, 110], [97], [98]]
def told : List Tx := [[92, 83, 101, 101, 110], [97], [98]]
theorem said_names : namesOf said = ([[98], [92, 83, 101, 101, 110], [97], [98]], 0) := by decide
theorem said_order : order [[98], [92, 83, 101, 101, 110], [97], [98]] = told := by
  refine ord_eq (order_ord _) (by unfold Fl.Ord told; decide) fun x => ?_
  rw [order_mem]
  simp only [told, List.mem_cons, List.not_mem_nil, or_false]
  constructor
  · rintro (h | h | h | h)
    · exact Or.inr (Or.inr h)
    · exact Or.inl h
    · exact Or.inr (Or.inl h)
    · exact Or.inr (Or.inr h)
  · rintro (h | h | h)
    · exact Or.inr (Or.inl h)
    · exact Or.inr (Or.inr (Or.inl h))
    · exact Or.inl h
theorem said_set : setOf said = (told, 0) := by
  unfold setOf
  rw [said_names, said_order]
  decide
theorem told_printed : printed told = [40, 92, 83, 101, 101, 110, 32, 97, 32, 98, 41] := by decide
theorem told_has : hasF told [92, 83, 69, 69, 78] = true := by decide
set_option maxHeartbeats 1000000 in
theorem flagged_any (w : World) (hg : SysAt w) : Calls Tryd.prog 27 #[] w fun e w' => e = .returned (.bool true) ∧ Below w.heap.size w w' := by
  have hgl := hg.lt
  have hbA : Below w.heap.size w (w.alloc (.cells #[.string ⟨#[98]⟩, .string ⟨#[92, 115, 101, 101, 110]⟩, .string ⟨#[97]⟩, .string ⟨#[98]⟩] 9)) := (Below.refl _ _).alloc (Nat.le_refl _) _
  have hsl : Sl (w.alloc (.cells #[.string ⟨#[98]⟩, .string ⟨#[92, 115, 101, 101, 110]⟩, .string ⟨#[97]⟩, .string ⟨#[98]⟩] 9)) (.slice (some ⟨w.heap.size, 0, none⟩) 4 4) said := by
    refine ⟨some ⟨w.heap.size, 0, none⟩, 4, rfl, ⟨fun e => (by cases e), by decide⟩, Or.inr ⟨w.heap.size, 0, rfl, fun j t hj => ?_⟩⟩
    match j, hj with
    | 0, hj => cases hj; simp
    | 1, hj => cases hj; simp
    | 2, hj => cases hj; simp
    | 3, hj => cases hj; simp
    | j + 4, hj => simp [said] at hj
  have cS := set_any _ said _ hsl (by decide) (by decide) (hg.below hbA hgl)
  rw [said_set] at cS
  clear hsl
  go_enter Tryd.func27, Tryd.ntmps27
  go_wp2_with fail
  refine cS.mono ?_
  rintro e w1 ⟨⟨_, v1, rfl, h1⟩ | ⟨h0, _⟩, hb1⟩
  · have hb01 : Below w.heap.size w w1 := hbA.trans (hb1.mono hbA.size)
    have h1' : Sl w1 v1 told := h1
    have cP := print_txs v1 told w1 h1' (by decide) (by decide)
    rw [told_printed] at cP
    have hk : ∀ W, Below w1.heap.size w1 W → Sl W v1 told := fun W hb => h1'.below hb (Nat.le_refl _)
    obtain ⟨a, c, rfl, _, _⟩ := h1'
    clear cS h1
    go_wp2_with fail
    refine cP.mono ?_
    rintro e w2 ⟨⟨s, rfl, hs⟩, hb2⟩
    have hse : (s.toList == [40, 92, 83, 101, 101, 110, 32, 97, 32, 98, 41]) = true := by rw [Lib.toList_data, hs]; rfl
    have hb02 : Below w.heap.size w w2 := hb01.trans (hb2.mono hb01.size)
    have cH := has_txs _ told ⟨#[92, 83, 69, 69, 78]⟩ w2 (hk _ hb2) (by decide) (by decide) (hg.below hb02 hgl)
    have e2 : (⟨#[92, 83, 69, 69, 78]⟩ : ByteArray).data.toList = [92, 83, 69, 69, 78] := rfl
    rw [e2, told_has] at cH
    clear cP hs hk e2
    go_wp2_with fail
    refine cH.mono ?_
    rintro e w3 ⟨rfl, hb3⟩
    go_wp2_with fail
    go_ret
    exact ⟨rfl, hb02.trans (hb3.mono hb02.size)⟩
  · exact absurd rfl h0
end Go.Proofs.YtneipabooahihaaDoor
