/-
  A function that is stored. Of no program.
-/
import Derived.Test.YtfdlopimncodcaaGreatDoorSeqBase
namespace Go.Proofs.YtfdlopimncodcaaGreatDoor
open Go.RowKit Go.Proofs.Aid

theorem run_store_func (P : Program) (w : World) (a : Addr) (f : Nat) (bs : Array Value) (old : Value) (h : w.cell? a = some old) (hf : w.frozen? a = false) : (store a (.func (.func f) #[] bs)).run P w = .ok () (w.setCell a (.func (.func f) #[] bs)) := by
  rw [run_store P w a _ _ rfl, h, hf]
  rfl
end Go.Proofs.YtfdlopimncodcaaGreatDoor
