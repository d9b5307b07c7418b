/-
  What saysYes says, of what does not panic.
-/
import Derived.Test.YtkneeoaeoiaefaaDoorBoxFlag
namespace Go.Proofs.YtkneeoaeoiaefaaDoor
open Go.RowKit Go.Proofs.Aid Go.Proofs.Bx

theorem says_caught (w : World) :
    CallsD Tryd.prog 46 #[] .returning w fun e u' w' => e = .returned (.tuple #[]) ∧ u' = .returning ∧ w' = w := by
  refine callsD_of_wpS Tryd.func46 rfl fun c₀ cs hu => ?_
  apply wpS_region
  simp [wpOpsS, go_sem, recoverD, hu, Tryd.ntmps46]
  cases c₀
  simp_all [bodyPostS, results, Tryd.results46]
set_option maxHeartbeats 2000000 in
set_option maxRecDepth 100000 in
theorem says_is (f : FuncId) (caps : List Value) (u : Int) (ans : Bool) (w : World) (eg : ∀ args w, (callFunc f args).run Tryd.prog w = .ok (.enter f args) w)
    (cH : Calls Tryd.prog f (Value.int .i64 u :: caps).toArray w fun e w' => e = .returned (.bool ans) ∧ Below w.heap.size w w') :
    Calls Tryd.prog 35 #[.func (.func f) #[] caps.toArray, .int .i64 u] w fun e w' => e = .returned (.bool ans) ∧ Below w.heap.size w w' := by
  go_enter_defers Tryd.func35, Tryd.ntmps35
  go_wp2_with fail
  refine cH.mono ?_
  rintro e w1 ⟨rfl, hb⟩
  have HF : Hid (∀ tmps : Array Value, tmps[4]? = some (.bool ans) →
      Leaves Tryd.prog Tryd.f35 tmps (fun e w' => e = .returned (.bool ans) ∧ Below w.heap.size w w') [{ target := .fn (.func 46) #[], args := #[] }] .returning w1) := by
    intro tmps ht
    refine leaves_cons (f := 46) (args := #[]) (by simp) (by simp [go_sem]) ?_
    refine (says_caught _).mono ?_
    rintro e u' w8 ⟨rfl, rfl, rfl⟩
    exact ⟨.bool ans, by simp [results, Tryd.results35, go_sem, ht], rfl, hb⟩
  clear cH hb
  go_wp2_with fail
  exact HF.out _ rfl
/-- Where the numbers of messages go. -/
theorem Tryd.infoInt : (Tryd.prog.info? 3).map (fun i => (i.zero, i.size, i.bytes)) = some (some (.int .i64 0), 1, 8) := by kernel_rfl
/-- Those that stay, and the numbers of those that go. -/
def stay (p : Int → Bool) (l : List Lt) : List Lt := l.filter fun x => !(Fl.hasF x.flags [92, 68, 101, 108, 101, 116, 101, 100] && p x.uid)
def went (p : Int → Bool) (l : List Lt) : List Int := (l.filter fun x => Fl.hasF x.flags [92, 68, 101, 108, 101, 116, 101, 100] && p x.uid).map (·.uid)
end Go.Proofs.YtkneeoaeoiaefaaDoor
