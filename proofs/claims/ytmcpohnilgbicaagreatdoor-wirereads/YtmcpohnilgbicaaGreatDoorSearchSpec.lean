/-
  What words look for, and whether a letter is that. Of no program.
-/
import Derived.Test.YtmcpohnilgbicaaGreatDoorHeadFields
import Derived.Test.YtmcpohnilgbicaaGreatDoorFlagsSpec
namespace Go.Proofs.Sr
open Go.Proofs.Sq

abbrev Tx := List UInt8
/-- A part of a command. -/
inductive Ar where
  | mk (kind : Int) (text : Tx) (list : List Ar) : Ar
def Ar.kind : Ar → Int | .mk k _ _ => k
def Ar.text : Ar → Tx | .mk _ t _ => t
def Ar.list : Ar → List Ar | .mk _ _ l => l
/-- What is looked for. -/
inductive Ky where
  | mk (code : Int) (name text : Tx) (n : Int) (set : List (Nat × Nat)) (keys : List Ky) : Ky
def flagK (n : Tx) : Ky := .mk 2 n [] 0 [] []
def notK (k : Ky) : Ky := .mk 13 [] [] 0 [] [k]
def joinK : List Ky → Ky
  | [k] => k
  | ks => .mk 15 [] [] 0 [] ks
/-- What a reader tells: an error; or a value, what is left, and how many were counted. -/
inductive Rs (α : Type) where
  | bad (e : Int) : Rs α
  | ok (a : α) (rest : List Ar) (c : Nat) : Rs α
def Rs.map {α β : Type} (f : α → β) : Rs α → Rs β
  | .bad e => .bad e
  | .ok a r c => .ok (f a) r c
def Rs.then {α β : Type} : Rs α → (α → List Ar → Nat → Rs β) → Rs β
  | .bad e, _ => .bad e
  | .ok a r c, k => k a r c
/-- A word. -/
def wordF (l : List Ar) (c : Nat) : Rs Tx := match l with
  | [] => .bad 3
  | a :: r => if a.kind = 3 then .bad 3 else .ok a.text r c
def numN (s : Tx) : Option Nat := if s = [48] then some 0 else if s = [] ∨ s.head? = some 48 then none else digitsFrom 0 s
def flagF (s : Tx) (l : List Ar) (c : Nat) : Rs Ky := if (Fl.fname s).2 = 0 then .ok (flagK (Fl.fname s).1) l c else .bad (Fl.fname s).2
def numF (s : Tx) (l : List Ar) (c : Nat) : Rs Nat := match numN s with
  | none => .bad 3
  | some n => .ok n l c
def setF (s : Tx) (l : List Ar) (c : Nat) : Rs (List (Nat × Nat)) := match readSet s with
  | .form => .bad 3
  | .limit => .bad 4
  | .ok r => .ok r l c
def wAll : Tx := [65, 76, 76]
def wSys : List Tx := [[83, 69, 69, 78], [65, 78, 83, 87, 69, 82, 69, 68], [70, 76, 65, 71, 71, 69, 68], [68, 69, 76, 69, 84, 69, 68], [68, 82, 65, 70, 84]]
def wUn : List Tx := wSys.map fun s => 85 :: 78 :: s
def wKeyword : Tx := [75, 69, 89, 87, 79, 82, 68]
def wFields : List Tx := [[70, 82, 79, 77], [84, 79], [83, 85, 66, 74, 69, 67, 84], [67, 67]]
def wHeader : Tx := [72, 69, 65, 68, 69, 82]
def wBody : Tx := [66, 79, 68, 89]
def wText : Tx := [84, 69, 88, 84]
def wMeas : List Tx := [[76, 65, 82, 71, 69, 82], [83, 77, 65, 76, 76, 69, 82], [66, 69, 70, 79, 82, 69], [79, 78], [83, 73, 78, 67, 69]]
def wUid : Tx := [85, 73, 68]
def wNot : Tx := [78, 79, 84]
def wOr : Tx := [79, 82]
/-- What a word begins; g reads a KEY that lies one deeper. -/
def wordK (g : List Ar → Nat → Rs Ky) (w : Tx) (l : List Ar) (c : Nat) : Rs Ky :=
  if Hd.great w = wAll then .ok (.mk 1 [] [] 0 [] []) l c
  else if wSys.contains (Hd.great w) then flagF (92 :: Hd.great w) l c
  else if wUn.contains (Hd.great w) then (flagF (92 :: (Hd.great w).drop 2) l c).map notK
  else if Hd.great w = wKeyword then (wordF l c).then fun s l c => flagF s l c
  else if Hd.great w = 85 :: 78 :: wKeyword then ((wordF l c).then fun s l c => flagF s l c).map notK
  else if wFields.contains (Hd.great w) then (wordF l c).map fun s => .mk 3 (Hd.small w) s 0 [] []
  else if Hd.great w = wHeader then (wordF l c).then fun n l c => (wordF l c).map fun s => .mk 3 (Hd.small n) s 0 [] []
  else if Hd.great w = wBody then (wordF l c).map fun s => .mk 4 [] s 0 [] []
  else if Hd.great w = wText then (wordF l c).map fun s => .mk 5 [] s 0 [] []
  else if wMeas.contains (Hd.great w) then (wordF l c).then fun s l c => (numF s l c).map fun (n : Nat) => .mk (6 + (wMeas.idxOf (Hd.great w) : Int)) [] [] (n : Int) [] []
  else if Hd.great w = wUid then (wordF l c).then fun s l c => (setF s l c).map fun r => .mk 11 [] [] 0 r []
  else if Hd.great w = wNot then (g l c).map notK
  else if Hd.great w = wOr then (g l c).then fun a l c => (g l c).map fun b => .mk 14 [] [] 0 [] [a, b]
  else (setF w l c).map fun r => .mk 12 [] [] 0 r []
/-- All KEYS that are left, behind those that are there. -/
def moreF (g : List Ar → Nat → Rs Ky) : Nat → List Ky → List Ar → Nat → Rs (List Ky)
  | _, acc, [], c => .ok acc [] c
  | 0, _, _ :: _, _ => .bad 4
  | n + 1, acc, a :: r, c => (g (a :: r) c).then fun k l c => moreF g n (acc ++ [k]) l c
/-- KEYS, to the end. -/
def keysF (g : List Ar → Nat → Rs Ky) (l : List Ar) (c : Nat) : Rs Ky := ((g l c).then fun k l c => moreF g 61 [k] l c).map joinK
/-- A KEY; so many may lie in one another yet. -/
def keyF : Nat → List Ar → Nat → Rs Ky
  | 0, _, _ => .bad 4
  | f + 1, l, c => if 60 < c + 1 then .bad 4 else match l with
    | [] => .bad 3
    | a :: r => if a.kind = 3 then (keysF (keyF f) a.list (c + 1)).then fun k _ c => .ok k r c else wordK (keyF f) a.text r (c + 1)
def parseK (l : List Ar) : Rs Ky := keysF (keyF 7) l 0

/-- A letter, and where it stands. -/
structure Lt where
  uid : Int
  flags : List Tx
  day : Int
  text : Tx
  which : Int
  many : Int
  greatest : Int
def hasT (text part : Tx) : Bool := Lib.contains (Hd.small text) (Hd.small part)
def fieldT (text name said : Tx) : Bool := decide ((Hd.fieldsOf text).1.1 = 0) && (Hd.onlyF (Hd.fieldsOf text).2 [name]).any fun f => hasT f.2 said
def setI (r : List (Nat × Nat)) : List (Int × Int) := r.map fun x => ((x.1 : Int), (x.2 : Int))
mutual
def holdsK (m : Lt) : Ky → Bool
  | .mk code name text n set keys =>
    if code = 1 then true
    else if code = 2 then m.flags.contains name
    else if code = 3 then fieldT m.text name text
    else if code = 4 then hasT (Hd.bodyOf m.text) text
    else if code = 5 then hasT m.text text
    else if code = 6 then decide (n < (m.text.length : Int))
    else if code = 7 then decide ((m.text.length : Int) < n)
    else if code = 8 then decide (m.day < n)
    else if code = 9 then decide (m.day = n)
    else if code = 10 then decide (n ≤ m.day)
    else if code = 11 then hasSet m.uid m.greatest (setI set)
    else if code = 12 then hasSet m.which m.many (setI set)
    else if code = 13 then notFirst m keys
    else if code = 14 then anyK m keys
    else if code = 15 then allK m keys
    else false
def notFirst (m : Lt) : List Ky → Bool
  | [] => false
  | k :: _ => !holdsK m k
def anyK (m : Lt) : List Ky → Bool
  | [] => false
  | k :: ks => holdsK m k || anyK m ks
def allK (m : Lt) : List Ky → Bool
  | [] => true
  | k :: ks => holdsK m k && allK m ks
end
theorem holds_not (m : Lt) (k : Ky) : holdsK m (notK k) = !holdsK m k := by rw [notK, holdsK]; simp [notFirst]
theorem holds_or (m : Lt) (a b : Ky) : holdsK m (.mk 14 [] [] 0 [] [a, b]) = (holdsK m a || holdsK m b) := by rw [holdsK]; simp [anyK]
theorem holds_and (m : Lt) (a b : Ky) : holdsK m (joinK [a, b]) = (holdsK m a && holdsK m b) := by
  show holdsK m (.mk 15 [] [] 0 [] [a, b]) = _
  rw [holdsK]; simp [allK]
end Go.Proofs.Sr
