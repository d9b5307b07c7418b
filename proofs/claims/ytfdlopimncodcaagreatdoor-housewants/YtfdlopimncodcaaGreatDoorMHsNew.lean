/-
  A new house.
-/
import Derived.Test.YtfdlopimncodcaaGreatDoorMHsMem
namespace Go.Proofs.YtfdlopimncodcaaGreatDoor
open Go.RowKit Go.Proofs.Aid

def inboxN : Nm := [73, 78, 66, 79, 88]
set_option maxHeartbeats 2000000 in
set_option maxRecDepth 100000 in
theorem new_is (w : World) : Calls Tryz.prog 8 #[] w fun e w' => e = .returned (.pointer (some ⟨w.heap.size + 1, 0, none⟩)) ∧ HsAt w' (w.heap.size + 1) w.heap.size [(inboxN, w.heap.size + 2)] 2 (.slice none 0 0) ∧ NewBox w' (w.heap.size + 2) 1 ∧ Below w.heap.size w w' := by
  obtain ⟨W1, hW1⟩ : ∃ W, w.alloc (.map #[] 0) = W := ⟨_, rfl⟩
  have hmk := mp_make w
  have m1 := mp_new w
  have b1 : Below w.heap.size w (w.alloc (.map #[] 0)) := (Below.refl _ _).alloc (Nat.le_refl _) _
  have z1 : (w.alloc (.map #[] 0)).heap.size = w.heap.size + 1 := World.size_alloc _ _
  rw [hW1] at hmk m1 b1 z1
  have e2 := heap_alloc_new W1 (.cells #[.map (some w.heap.size), .slice none 0 0, .int .i64 1] 80)
  have b2 : Below W1.heap.size W1 (W1.alloc (.cells #[.map (some w.heap.size), .slice none 0 0, .int .i64 1] 80)) := (Below.refl _ _).alloc (Nat.le_refl _) _
  have z2 : (W1.alloc (.cells #[.map (some w.heap.size), .slice none 0 0, .int .i64 1] 80)).heap.size = W1.heap.size + 1 := World.size_alloc _ _
  obtain ⟨W2, hW2⟩ : ∃ W, W1.alloc (.cells #[.map (some w.heap.size), .slice none 0 0, .int .i64 1] 80) = W := ⟨_, rfl⟩
  rw [hW2] at e2 b2 z2
  rw [z1] at e2
  have h2 : HsAt W2 (w.heap.size + 1) w.heap.size [] 1 (.slice none 0 0) := ⟨e2, m1.same (b2.block _ (by omega))⟩
  have cA := add_is (w.heap.size + 1) w.heap.size [] 1 (.slice none 0 0) ⟨#[73, 78, 66, 79, 88]⟩ W2 h2 (by decide) (by decide) (by decide)
  have hz2 : W2.heap.size = w.heap.size + 2 := by omega
  rw [hz2] at cA
  have HB : Hid (Below w.heap.size w W2 ∧ W2.heap.size = w.heap.size + 2) := ⟨b1.trans (b2.mono (by omega)), hz2⟩
  clear h2 e2 b2 z2 b1 m1 hz2
  go_enter Tryz.func8, Tryz.ntmps8
  go_wp2_with fail
  refine cA.mono ?_
  rintro e w' ⟨rfl, h3, h4, hk⟩
  have HF : Hid (HsAt w' (w.heap.size + 1) w.heap.size [(inboxN, w.heap.size + 2)] 2 (.slice none 0 0) ∧ NewBox w' (w.heap.size + 2) 1 ∧ Below w.heap.size w w') := ⟨h3, h4, HB.out.1.trans (hk.below (by have := HB.out.2; omega) (by omega) (by omega))⟩
  clear h3 h4 hk cA
  go_wp2_with fail
  go_ret
  exact ⟨rfl, HF.out⟩
end Go.Proofs.YtfdlopimncodcaaGreatDoor
