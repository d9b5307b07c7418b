/-
  Ranges written with < and > around their numbers; without these bytes it is what is written. Of no program.
-/
import Derived.Test.YtefgpafoajoofaaGreatDoorStarTie
namespace Go.Proofs.Sq

def shutN (n : Int) : List UInt8 := 60 :: (star n ++ [62])
def shutR (r : Int × Int) : List UInt8 := shutN r.1 ++ (if r.2 = r.1 then [] else 58 :: shutN r.2)
def shutFrom (out : List UInt8) : List (Int × Int) → List UInt8
  | [] => out
  | r :: rs => shutFrom (out ++ 44 :: shutR r) rs
def shut : List (Int × Int) → List UInt8
  | [] => []
  | r :: rs => shutFrom (shutR r) rs
/-- A text without its bytes < and >. -/
def strip (l : List UInt8) : List UInt8 := l.filter fun c => decide (c ≠ 60 ∧ c ≠ 62)
theorem strip_append (a b : List UInt8) : strip (a ++ b) = strip a ++ strip b := List.filter_append ..
theorem strip_star {n : Int} (h0 : 0 ≤ n) : strip (star n) = star n := by
  refine List.filter_eq_self.2 fun c hc => ?_
  rw [decide_eq_true_eq]
  unfold star at hc
  split at hc
  · obtain rfl := List.mem_singleton.1 hc; decide
  · rw [Lib.itoa, if_neg (by omega)] at hc
    have := decDigits_mem _ c hc
    constructor
    · rintro rfl; have e : (60 : UInt8).toNat = 60 := rfl; omega
    · rintro rfl; have e : (62 : UInt8).toNat = 62 := rfl; omega
theorem strip_shutN {n : Int} (h0 : 0 ≤ n) : strip (shutN n) = star n := by
  show strip ([60] ++ (star n ++ [62])) = _
  rw [strip_append, strip_append, strip_star h0, show strip [60] = [] by decide, show strip [62] = [] by decide, List.nil_append, List.append_nil]
theorem strip_shutR {r : Int × Int} (h0 : 0 ≤ r.1) (h1 : 0 ≤ r.2) : strip (shutR r) = wroteR r := by
  unfold shutR wroteR
  rw [strip_append, strip_shutN h0]
  split
  · rfl
  · show _ ++ strip ([58] ++ shutN r.2) = _
    rw [strip_append, strip_shutN h1, show strip [58] = [58] by decide]
    rfl
theorem strip_shutFrom : ∀ (l : List (Int × Int)) (out : List UInt8), (∀ r ∈ l, 0 ≤ r.1 ∧ 0 ≤ r.2) → strip (shutFrom out l) = wroteFrom (strip out) l
  | [], out, _ => rfl
  | r :: rs, out, h => by
    rw [shutFrom, wroteFrom, strip_shutFrom rs _ (fun x hx => h x (List.mem_cons_of_mem _ hx))]
    have hr := h r List.mem_cons_self
    show wroteFrom (strip (out ++ ([44] ++ shutR r))) rs = _
    rw [strip_append, strip_append, strip_shutR hr.1 hr.2, show strip [44] = [44] by decide]
    rfl
theorem strip_shut : ∀ (l : List (Int × Int)), (∀ r ∈ l, 0 ≤ r.1 ∧ 0 ≤ r.2) → strip (shut l) = wrote l
  | [], _ => rfl
  | r :: rs, h => by
    have hr := h r List.mem_cons_self
    rw [shut, wrote, strip_shutFrom rs _ (fun x hx => h x (List.mem_cons_of_mem _ hx)), strip_shutR hr.1 hr.2]
end Go.Proofs.Sq
