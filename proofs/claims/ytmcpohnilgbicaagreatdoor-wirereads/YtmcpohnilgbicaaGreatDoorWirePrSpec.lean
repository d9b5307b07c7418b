/-
  How a command is written. Plain mathematics.
-/
import Derived.Test.YtmcpohnilgbicaaGreatDoorWireQSpec
namespace Go.Proofs.YtmcpohnilgbicaaGreatDoor
open Go.Proofs.Hd
open Go.Proofs.Sr (Ar)

def strW (s : Tx) : Tx := if bareW s = true then 34 :: (esc s ++ [34]) else quoteW s
mutual
def prA : Ar → Tx
  | .mk kind text list => if kind = 1 then text else if kind = 2 then strW text else if kind = 3 then 40 :: (prL true list ++ [41]) else []
def prL : Bool → List Ar → Tx
  | _, [] => []
  | first, a :: r => (if first = true then [] else [32]) ++ prA a ++ prL false r
end
theorem prL_snoc : ∀ (l : List Ar) (first : Bool) (a : Ar), prL first (l ++ [a]) = prL first l ++ ((if (first && l.isEmpty) = true then [] else [32]) ++ prA a)
  | [], first, a => by rw [List.nil_append, prL, prL, prL]; simp
  | x :: l, first, a => by
    rw [List.cons_append, prL, prL, prL_snoc l false a]
    simp
theorem prA_1 {x : Ar} (h : x.kind = 1) : prA x = x.text := by
  cases x with
  | mk k t l =>
    have h : k = 1 := h
    subst h
    rw [prA]; simp [Ar.text]
theorem prA_2 {x : Ar} (h : x.kind = 2) : prA x = strW x.text := by
  cases x with
  | mk k t l =>
    have h : k = 2 := h
    subst h
    rw [prA]; simp [Ar.text]
theorem prA_3 {x : Ar} (h : x.kind = 3) : prA x = 40 :: (prL true x.list ++ [41]) := by
  cases x with
  | mk k t l =>
    have h : k = 3 := h
    subst h
    rw [prA]; simp [Ar.list]
end Go.Proofs.YtmcpohnilgbicaaGreatDoor
