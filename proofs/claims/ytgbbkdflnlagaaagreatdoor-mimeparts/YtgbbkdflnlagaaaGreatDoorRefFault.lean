/-
  What the document's Fields tells: the words.
-/
import Derived.Test.YtgbbkdflnlagaaaGreatDoorHeadTake2
import Derived.Test.YtgbbkdflnlagaaaGreatDoorHeadRead
import Derived.Test.YtgbbkdflnlagaaaGreatDoorHeadAns
namespace Go.Proofs.YtgbbkdflnlagaaaGreatDoor
open Go.RowKit Go.Proofs.Aid Go.Proofs.Hd Go.Proofs.Sq

/-- Where the document's answer says that it is wrong. -/
def faultAt (F : (Int × Nat) × List Hd.Fd) : Int := if F.1.1 = 0 then -1 else (F.1.2 : Int)
def Told (w : World) (F : (Int × Nat) × List Hd.Fd) (e : Ending) (w' : World) : Prop :=
  Below w.heap.size w w' ∧ ∃ v L, e = .returned (.tuple #[v, .agg #[.int .i64 F.1.1, .int .i64 (faultAt F)]]) ∧ Fg w' v L ∧ L.map tx = F.2
end Go.Proofs.YtgbbkdflnlagaaaGreatDoor
