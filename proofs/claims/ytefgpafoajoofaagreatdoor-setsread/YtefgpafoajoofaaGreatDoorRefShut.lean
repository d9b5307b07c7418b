/-
  The document's number between < and >, with the star for 0: what its ReplaceAll gives.
-/
import Derived.Test.YtefgpafoajoofaaGreatDoorShutTie
import Derived.Test.YtefgpafoajoofaaGreatDoorReplShelf
import Derived.Test.YtefgpafoajoofaaGreatDoorRefNum
namespace Go.Proofs.YtefgpafoajoofaaGreatDoor
open Go.RowKit Go.Proofs.Aid Go.Proofs.Sq Go.Sort

theorem shut_call (n m : Int) (s : ByteArray) (w : World) (h0 : 0 ≤ n) (hs : s.data.toList = 60 :: (Lib.itoa n ++ [62])) (hsz : s.size ≤ 1000) (hm : w.cell? ⟨2, 0, none⟩ = some (.int .i64 m)) :
    Calls Tryz.prog 56 #[.string s, .string ⟨#[60, 48, 62]⟩, .string ⟨#[60, 42, 62]⟩] w fun e w' => e = .returned (.string ⟨(shutN n).toArray⟩) ∧ Below w.heap.size w w' := by
  have hle := Lib.countB_le ⟨#[60, 48, 62]⟩ (by decide) _ s (Nat.le_refl _)
  have h3 : (⟨#[60, 42, 62]⟩ : ByteArray).size = 3 := rfl
  have := Tryz.strings_ReplaceAll s ⟨#[60, 48, 62]⟩ ⟨#[60, 42, 62]⟩ m w (by omega) hm (by decide) (by rw [h3]; omega)
  rw [hs, show (⟨#[60, 48, 62]⟩ : ByteArray).data.toList = [60, 48, 62] from rfl, show (⟨#[60, 42, 62]⟩ : ByteArray).data.toList = [60, 42, 62] from rfl, star_shut h0] at this
  exact this
end Go.Proofs.YtefgpafoajoofaaGreatDoor
