/-
  Commands as bytes, plain mathematics: what a line tells to come, where, and more.
-/
import Derived.Test.YtogigccbnohjjaaGreatDoorBpNumPlain
import Derived.Lib.LastIndexByte
import Derived.Lib.ParseIntB
import Derived.Lib.SlTrimSet
import Derived.Sort.Walk0
import Derived.Sort.Statements
import Derived.Lib.SlicesCompact
import Derived.Lib.RowBridge
import Derived.Deep.Cut
import Derived.Deep.CutRange
import Derived.Deep.DeepCutAuto
import Derived.Deep.CutBlock
namespace Go.Proofs.YtogigccbnohjjaaGreatDoor
open Go.RowKit Go.Proofs.Aid Go.Proofs.Hd
theorem wsize (s : ByteArray) : s.data.toList.length = s.size := by show s.data.toList.length = s.data.size; simp
def numW (l : Tx) : Option Nat := if (numB l 4611686018427387904).2 = true then some (numB l 4611686018427387904).1.toNat else none
theorem numW_ok {l : Tx} {n : Int} (h : Lib.atoiAll l = .ok n) : numW l = if 0 ≤ n ∧ n ≤ 4611686018427387904 ∧ Lib.itoa n = l then some n.toNat else none := by
 unfold numW numB
 rw [h]
 simp only
 by_cases h1 : 0 ≤ n ∧ n ≤ 4611686018427387904
 ·by_cases h2 : Lib.itoa n = l
  ·rw [if_pos (by simp [h1, h2]), if_pos ⟨h1.1, h1.2, h2⟩]
  ·rw [if_neg (by simp [h2]), if_neg (fun q => h2 q.2.2)]
 ·rw [if_neg (by simp [h1]), if_neg (fun q => h1 ⟨q.1, q.2.1⟩)]
theorem numW_syntax {l : Tx} (h : Lib.atoiAll l = .syntax) : numW l = none := by
 unfold numW numB
 rw [h]
 simp
theorem numW_range {l : Tx} (h : Lib.atoiAll l = .range) : numW l = none := by
 unfold numW numB
 rw [h]
 simp
theorem numW_le {l : Tx} {n : Nat} (h : numW l = some n) : n ≤ 4611686018427387904 := by
 cases ha : Lib.atoiAll l with
 | ok z =>
  rw [numW_ok ha] at h
  split at h
  ·cases h; omega
  ·cases h
 | «syntax» => rw [numW_syntax ha] at h; cases h
 | range => rw [numW_range ha] at h; cases h
end Go.Proofs.YtogigccbnohjjaaGreatDoor
namespace Go.Proofs.Hd
open Go.Proofs.Sq
def blk (c : UInt8) : Bool := ([32, 9] : Tx).contains c
def bare (s : Tx) : Tx := Lib.trimS s [32, 9]
def Trim (s : Tx) : Prop := (∀ c, s.head? = some c → blk c = false) ∧ ∀ c, s.getLast? = some c → blk c = false
theorem dropWhile_of_head {s : Tx} (h : ∀ c, s.head? = some c → blk c = false) : s.dropWhile (([32, 9] : Tx).contains ·) = s := by
 cases s with
 | nil => rfl
 | cons c r => rw [List.dropWhile_cons_of_neg]; have := h c rfl; unfold blk at this; rw [this]; simp
theorem bare_of_trim {s : Tx} (h : Trim s) : bare s = s := by
 have h1 : Lib.trimRightS s [32, 9] = s := by
  rw [Lib.trimRightS, dropWhile_of_head (by simpa using h.2), List.reverse_reverse]
 rw [bare, Lib.trimS, h1, Lib.trimLeftS, dropWhile_of_head h.1]
theorem dropWhile_head (s : Tx) : ∀ c, (s.dropWhile (([32, 9] : Tx).contains ·)).head? = some c → blk c = false := by
 induction s with
 | nil => simp
 | cons b r ih =>
  intro c h
  rw [List.dropWhile_cons] at h
  split at h
  ·exact ih c h
  ·next hb => simp at h; subst h; unfold blk; simpa using hb
theorem dropWhile_last {s : Tx} (h : ∀ c, s.getLast? = some c → blk c = false) : ∀ c, (s.dropWhile (([32, 9] : Tx).contains ·)).getLast? = some c → blk c = false := by
 induction s with
 | nil => simp
 | cons b r ih =>
  intro c hc
  rw [List.dropWhile_cons] at hc
  split at hc
  ·cases r with
   | nil => simp at hc
   | cons d q => exact ih (fun x hx => h x (by rw [List.getLast?_cons_cons]; exact hx)) c hc
  ·exact h c hc
theorem bare_trim (s : Tx) : Trim (bare s) := by
 constructor
 ·exact dropWhile_head _
 ·refine dropWhile_last ?_
  rw [Lib.trimRightS]
  intro c hc
  rw [List.getLast?_reverse] at hc
  exact dropWhile_head _ c hc
theorem bare_mem {s : Tx} {c : UInt8} (h : c ∈ bare s) : c ∈ s := by
 have h1 : c ∈ Lib.trimRightS s [32, 9] := (List.dropWhile_sublist _).subset h
 rw [Lib.trimRightS, List.mem_reverse] at h1
 exact List.mem_reverse.1 ((List.dropWhile_sublist _).subset h1)
theorem bare_length (s : Tx) : (bare s).length ≤ s.length := by
 have h1 : (Lib.trimRightS s [32, 9]).length ≤ s.length := by
  rw [Lib.trimRightS, List.length_reverse]
  exact Nat.le_trans (List.dropWhile_sublist _).length_le (by simp)
 exact Nat.le_trans (List.dropWhile_sublist _).length_le h1
def joinV (v b : Tx) : Tx := if b = [] then v else if v = [] then b else v ++ 32 :: b
theorem joinV_trim {v b : Tx} (hv : Trim v) (hb : Trim b) : Trim (joinV v b) := by
 unfold joinV
 split
 ·exact hv
 ·split
  ·exact hb
  ·next h1 h2 =>
   constructor
   ·intro c hc
    refine hv.1 c ?_
    cases v with
    | nil => exact absurd rfl h2
    | cons d q => simpa using hc
   ·intro c hc
    refine hb.2 c ?_
    rw [List.getLast?_append, List.getLast?_cons] at hc
    cases hx : b.getLast? with
    | none => exact absurd (List.getLast?_eq_none_iff.1 hx) h1
    | some d => rw [hx] at hc; simpa using hc
theorem joinV_mem {v b : Tx} {c : UInt8} (h : c ∈ joinV v b) : c ∈ v ∨ c = 32 ∨ c ∈ b := by
 unfold joinV at h
 split at h
 ·exact Or.inl h
 ·split at h
  ·exact Or.inr (Or.inr h)
  ·rcases List.mem_append.1 h with h | h
   ·exact Or.inl h
   ·rcases List.mem_cons.1 h with h | h
    ·exact Or.inr (Or.inl h)
    ·exact Or.inr (Or.inr h)
abbrev Fd := Tx × Tx
def isBad (c : UInt8) : Bool := ([13, 10, 0] : Tx).contains c
def nameOk (n : Tx) : Bool := decide (n ≠ []) && decide (n.length ≤ 60) && n.all fun c => decide (33 ≤ c.toNat ∧ c.toNat ≤ 126)
def onto : List Fd → Tx → List Fd
 | [], _ => []
 | [f], b => [(f.1, joinV f.2 b)]
 | f :: g :: r, b => f :: onto (g :: r) b
def step (l : List Fd) (p : Tx) : Int × List Fd :=
 if p = [] then (0, l)
 else if p.any isBad then (3, [])
 else if blk (p.headD 0) then (if l = [] then (3, []) else (0, onto l (bare p)))
 else if (cutAt 58 p).2.2 = false ∨ nameOk (cutAt 58 p).1 = false then (3, [])
 else if l.length = 40 then (4, [])
 else (0, l ++ [((cutAt 58 p).1, bare (cutAt 58 p).2.1)])
def fieldsFrom (i : Nat) (l : List Fd) : List Tx → (Int × Nat) × List Fd
 | [] => ((0, 0), l)
 | p :: ps => if (step l p).1 = 0 then fieldsFrom (i + 1) (step l p).2 ps else (((step l p).1, i), [])
def headOf (s : Tx) : Tx := s.take (headLen true s)
def bodyOf (s : Tx) : Tx := s.drop (headLen true s)
def fieldsOf (s : Tx) : (Int × Nat) × List Fd := fieldsFrom 0 [] (pieces (headOf s))
structure Good (f : Fd) : Prop where
 name : nameOk f.1 = true
 colon : 58 ∉ f.1
 clean : ∀ c ∈ f.2, isBad c = false
 trim : Trim f.2
theorem onto_good : ∀ {l : List Fd} {b : Tx}, (∀ f ∈ l, Good f) → (∀ c ∈ b, isBad c = false) → Trim b → ∀ f ∈ onto l b, Good f
 | [], _, _, _, _, f, hf => by simp [onto] at hf
 | [g], b, h, hb, ht, f, hf => by
  have hg := h g List.mem_cons_self
  rw [onto, List.mem_singleton] at hf
  subst hf
  refine ⟨hg.name, hg.colon, fun c hc => ?_, joinV_trim hg.trim ht⟩
  rcases joinV_mem hc with h1 | h1 | h1
  ·exact hg.clean c h1
  ·subst h1; decide
  ·exact hb c h1
 | g :: k :: r, b, h, hb, ht, f, hf => by
  rw [onto] at hf
  rcases List.mem_cons.1 hf with rfl | hf
  ·exact h _ List.mem_cons_self
  ·exact onto_good (fun x hx => h x (List.mem_cons_of_mem _ hx)) hb ht f hf
theorem onto_length : ∀ (l : List Fd) (b : Tx), (onto l b).length = l.length
 | [], _ => rfl
 | [_], _ => rfl
 | _ :: k :: r, b => by rw [onto, List.length_cons, onto_length (k :: r) b]; rfl
theorem cutAt_parts (c : UInt8) : ∀ (s : Tx), (cutAt c s).2.2 = true → s = (cutAt c s).1 ++ c :: (cutAt c s).2.1 ∧ c ∉ (cutAt c s).1
 | [], h => by simp [cutAt] at h
 | b :: r, h => by
  rw [cutAt] at h ⊢
  split at h
  ·next hb => rw [if_pos hb]; subst hb; simp
  ·next hb =>
   rw [if_neg hb]
   obtain ⟨h1, h2⟩ := cutAt_parts c r h
   refine ⟨by rw [List.cons_append, ← h1], ?_⟩
   simp only [List.mem_cons, not_or]
   exact ⟨fun e => hb e.symm, h2⟩
theorem step_good {l : List Fd} {p : Tx} (hl : ∀ f ∈ l, Good f) (hn : l.length ≤ 40) (h0 : (step l p).1 = 0) : (∀ f ∈ (step l p).2, Good f) ∧ (step l p).2.length ≤ 40 := by
 unfold step at h0 ⊢
 split at h0
 ·next h1 => rw [if_pos h1]; exact ⟨hl, hn⟩
 ·next h1 =>
  rw [if_neg h1]
  split at h0
  ·simp at h0
  ·next h2 =>
   rw [if_neg h2]
   have hcl : ∀ c ∈ p, isBad c = false := by
    intro c hc
    cases hb : isBad c with
    | false => rfl
    | true => exact absurd (List.any_eq_true.2 ⟨c, hc, hb⟩) h2
   split at h0
   ·next h3 =>
    rw [if_pos h3]
    split at h0
    ·simp at h0
    ·next h4 =>
     rw [if_neg h4]
     exact ⟨onto_good hl (fun c hc => hcl c (bare_mem hc)) (bare_trim p), by rw [onto_length]; exact hn⟩
   ·next h3 =>
    rw [if_neg h3]
    split at h0
    ·simp at h0
    ·next h4 =>
     rw [if_neg h4]
     split at h0
     ·simp at h0
     ·next h5 =>
      rw [if_neg h5]
      rw [_root_.not_or] at h4
      have hc : (cutAt 58 p).2.2 = true := by simpa using h4.1
      obtain ⟨e1, e2⟩ := cutAt_parts 58 p hc
      refine ⟨fun f hf => ?_, by simp; omega⟩
      rcases List.mem_append.1 hf with hf | hf
      ·exact hl f hf
      ·obtain rfl := List.mem_singleton.1 hf
       refine ⟨by simpa using h4.2, e2, fun c hc => hcl c ?_, bare_trim _⟩
       rw [e1]
       exact List.mem_append_right _ (List.mem_cons_of_mem _ (bare_mem hc))
theorem fieldsFrom_good : ∀ (ps : List Tx) (i : Nat) (l : List Fd), (∀ f ∈ l, Good f) → l.length ≤ 40 → (∀ f ∈ (fieldsFrom i l ps).2, Good f) ∧ (fieldsFrom i l ps).2.length ≤ 40
 | [], _, _, hl, hn => ⟨hl, hn⟩
 | p :: ps, i, l, hl, hn => by
  rw [fieldsFrom]
  split
  ·next h0 => exact fieldsFrom_good ps _ _ (step_good hl hn h0).1 (step_good hl hn h0).2
  ·exact ⟨by simp, by simp⟩
theorem fieldsOf_good (s : Tx) : (∀ f ∈ (fieldsOf s).2, Good f) ∧ (fieldsOf s).2.length ≤ 40 := fieldsFrom_good _ _ _ (by simp) (by simp)
theorem name_byte {n : Tx} (h : nameOk n = true) : ∀ c ∈ n, 33 ≤ c.toNat ∧ c.toNat ≤ 126 := by
 unfold nameOk at h
 rw [Bool.and_eq_true, List.all_eq_true] at h
 intro c hc
 simpa using h.2 c hc
theorem name_ne {n : Tx} (h : nameOk n = true) : n ≠ [] ∧ n.length ≤ 60 := by
 unfold nameOk at h
 simp only [Bool.and_eq_true, decide_eq_true_eq] at h
 exact h.1
def onlyF (l : List Fd) (names : List Tx) : List Fd := l.filter fun f => (names.map small).contains (small f.1)
end Go.Proofs.Hd
namespace Go.Proofs.Fl
open Go.Sort
abbrev Tx := List UInt8
def sm (c : UInt8) : UInt8 := if 65 ≤ c.toNat ∧ c.toNat ≤ 90 then c + 32 else c
def five : List Tx := [[92, 83, 101, 101, 110], [92, 65, 110, 115, 119, 101, 114, 101, 100], [92, 70, 108, 97, 103, 103, 101, 100], [92, 68, 101, 108, 101, 116, 101, 100], [92, 68, 114, 97, 102, 116]]
def sameL (a b : Tx) : Bool := decide (a.map sm = b.map sm)
def kw (c : UInt8) : Bool := decide (97 ≤ (sm c).toNat ∧ (sm c).toNat ≤ 122) || decide (48 ≤ c.toNat ∧ c.toNat ≤ 57) || c == 95 || c == 36
def fname (s : Tx) : Tx × Int :=
 if s.head? = some 92 then
  match five.find? (sameL s) with
  | some n => (n, 0)
  | none => ([], 3)
 else if s = [] ∨ s.all kw = false then ([], 3)
 else if 20 < s.length then ([], 4)
 else (s, 0)
end Go.Proofs.Fl
namespace Go.Proofs.Sr
open Go.Proofs.Sq
abbrev Tx := List UInt8
inductive Ar where
 | mk (kind : Int) (text : Tx) (list : List Ar) : Ar
def Ar.kind : Ar → Int | .mk k _ _ => k
def Ar.text : Ar → Tx | .mk _ t _ => t
def Ar.list : Ar → List Ar | .mk _ _ l => l
inductive Ky where
 | mk (code : Int) (name text : Tx) (n : Int) (set : List (Nat × Nat)) (keys : List Ky) : Ky
def flagK (n : Tx) : Ky := .mk 2 n [] 0 [] []
def notK (k : Ky) : Ky := .mk 13 [] [] 0 [] [k]
def joinK : List Ky → Ky
 | [k] => k
 | ks => .mk 15 [] [] 0 [] ks
inductive Rs (α : Type) where
 | bad (e : Int) : Rs α
 | ok (a : α) (rest : List Ar) (c : Nat) : Rs α
def Rs.map {α β : Type} (f : α → β) : Rs α → Rs β
 | .bad e => .bad e
 | .ok a r c => .ok (f a) r c
def Rs.then {α β : Type} : Rs α → (α → List Ar → Nat → Rs β) → Rs β
 | .bad e, _ => .bad e
 | .ok a r c, k => k a r c
def wordF (l : List Ar) (c : Nat) : Rs Tx := match l with
 | [] => .bad 3
 | a :: r => if a.kind = 3 then .bad 3 else .ok a.text r c
def numN (s : Tx) : Option Nat := if s = [48] then some 0 else if s = [] ∨ s.head? = some 48 then none else digitsFrom 0 s
def flagF (s : Tx) (l : List Ar) (c : Nat) : Rs Ky := if (Fl.fname s).2 = 0 then .ok (flagK (Fl.fname s).1) l c else .bad (Fl.fname s).2
def numF (s : Tx) (l : List Ar) (c : Nat) : Rs Nat := match numN s with
 | none => .bad 3
 | some n => .ok n l c
def setF (s : Tx) (l : List Ar) (c : Nat) : Rs (List (Nat × Nat)) := match readSet s with
 | .form => .bad 3
 | .limit => .bad 4
 | .ok r => .ok r l c
def wAll : Tx := [65, 76, 76]
def wSys : List Tx := [[83, 69, 69, 78], [65, 78, 83, 87, 69, 82, 69, 68], [70, 76, 65, 71, 71, 69, 68], [68, 69, 76, 69, 84, 69, 68], [68, 82, 65, 70, 84]]
def wUn : List Tx := wSys.map fun s => 85 :: 78 :: s
def wKeyword : Tx := [75, 69, 89, 87, 79, 82, 68]
def wFields : List Tx := [[70, 82, 79, 77], [84, 79], [83, 85, 66, 74, 69, 67, 84], [67, 67]]
def wHeader : Tx := [72, 69, 65, 68, 69, 82]
def wBody : Tx := [66, 79, 68, 89]
def wText : Tx := [84, 69, 88, 84]
def wMeas : List Tx := [[76, 65, 82, 71, 69, 82], [83, 77, 65, 76, 76, 69, 82], [66, 69, 70, 79, 82, 69], [79, 78], [83, 73, 78, 67, 69]]
def wUid : Tx := [85, 73, 68]
def wNot : Tx := [78, 79, 84]
def wOr : Tx := [79, 82]
def wordK (g : List Ar → Nat → Rs Ky) (w : Tx) (l : List Ar) (c : Nat) : Rs Ky :=
 if Hd.great w = wAll then .ok (.mk 1 [] [] 0 [] []) l c
 else if wSys.contains (Hd.great w) then flagF (92 :: Hd.great w) l c
 else if wUn.contains (Hd.great w) then (flagF (92 :: (Hd.great w).drop 2) l c).map notK
 else if Hd.great w = wKeyword then (wordF l c).then fun s l c => flagF s l c
 else if Hd.great w = 85 :: 78 :: wKeyword then ((wordF l c).then fun s l c => flagF s l c).map notK
 else if wFields.contains (Hd.great w) then (wordF l c).map fun s => .mk 3 (Hd.small w) s 0 [] []
 else if Hd.great w = wHeader then (wordF l c).then fun n l c => (wordF l c).map fun s => .mk 3 (Hd.small n) s 0 [] []
 else if Hd.great w = wBody then (wordF l c).map fun s => .mk 4 [] s 0 [] []
 else if Hd.great w = wText then (wordF l c).map fun s => .mk 5 [] s 0 [] []
 else if wMeas.contains (Hd.great w) then (wordF l c).then fun s l c => (numF s l c).map fun (n : Nat) => .mk (6 + (wMeas.idxOf (Hd.great w) : Int)) [] [] (n : Int) [] []
 else if Hd.great w = wUid then (wordF l c).then fun s l c => (setF s l c).map fun r => .mk 11 [] [] 0 r []
 else if Hd.great w = wNot then (g l c).map notK
 else if Hd.great w = wOr then (g l c).then fun a l c => (g l c).map fun b => .mk 14 [] [] 0 [] [a, b]
 else (setF w l c).map fun r => .mk 12 [] [] 0 r []
def moreF (g : List Ar → Nat → Rs Ky) : Nat → List Ky → List Ar → Nat → Rs (List Ky)
 | _, acc, [], c => .ok acc [] c
 | 0, _, _ :: _, _ => .bad 4
 | n + 1, acc, a :: r, c => (g (a :: r) c).then fun k l c => moreF g n (acc ++ [k]) l c
def keysF (g : List Ar → Nat → Rs Ky) (l : List Ar) (c : Nat) : Rs Ky := ((g l c).then fun k l c => moreF g 61 [k] l c).map joinK
def keyF : Nat → List Ar → Nat → Rs Ky
 | 0, _, _ => .bad 4
 | f + 1, l, c => if 60 < c + 1 then .bad 4 else match l with
  | [] => .bad 3
  | a :: r => if a.kind = 3 then (keysF (keyF f) a.list (c + 1)).then fun k _ c => .ok k r c else wordK (keyF f) a.text r (c + 1)
def parseK (l : List Ar) : Rs Ky := keysF (keyF 7) l 0
structure Lt where
 uid : Int
 flags : List Tx
 day : Int
 text : Tx
 which : Int
 many : Int
 greatest : Int
def hasT (text part : Tx) : Bool := Lib.contains (Hd.small text) (Hd.small part)
def fieldT (text name said : Tx) : Bool := decide ((Hd.fieldsOf text).1.1 = 0) && (Hd.onlyF (Hd.fieldsOf text).2 [name]).any fun f => hasT f.2 said
def setI (r : List (Nat × Nat)) : List (Int × Int) := r.map fun x => ((x.1 : Int), (x.2 : Int))
mutual
def holdsK (m : Lt) : Ky → Bool
 | .mk code name text n set keys =>
  if code = 1 then true
  else if code = 2 then m.flags.contains name
  else if code = 3 then fieldT m.text name text
  else if code = 4 then hasT (Hd.bodyOf m.text) text
  else if code = 5 then hasT m.text text
  else if code = 6 then decide (n < (m.text.length : Int))
  else if code = 7 then decide ((m.text.length : Int) < n)
  else if code = 8 then decide (m.day < n)
  else if code = 9 then decide (m.day = n)
  else if code = 10 then decide (n ≤ m.day)
  else if code = 11 then hasSet m.uid m.greatest (setI set)
  else if code = 12 then hasSet m.which m.many (setI set)
  else if code = 13 then notFirst m keys
  else if code = 14 then anyK m keys
  else if code = 15 then allK m keys
  else false
def notFirst (m : Lt) : List Ky → Bool
 | [] => false
 | k :: _ => !holdsK m k
def anyK (m : Lt) : List Ky → Bool
 | [] => false
 | k :: ks => holdsK m k || anyK m ks
def allK (m : Lt) : List Ky → Bool
 | [] => true
 | k :: ks => holdsK m k && allK m ks
end
end Go.Proofs.Sr
namespace Go.Proofs.YtogigccbnohjjaaGreatDoor
open Go.Proofs.Hd
open Go.Proofs.Sr (Ar)
inductive Wd (α : Type) where
 | bad (e : Int) (p : Nat) : Wd α
 | ok (a : α) (p : Nat) (c : Nat) : Wd α
def Wd.then {α β : Type} : Wd α → (α → Nat → Nat → Wd β) → Wd β
 | .bad e p, _ => .bad e p
 | .ok a p c, k => k a p c
def Wd.map {α β : Type} (f : α → β) : Wd α → Wd β
 | .bad e p => .bad e p
 | .ok a p c => .ok (f a) p c
def wordy (b : UInt8) : Bool := decide (33 ≤ b.toNat) && decide (b.toNat ≤ 126) && !(b == 40) && !(b == 41) && !(b == 123) && !(b == 34)
def wordT (l : Tx) : Tx := l.takeWhile wordy
def wordW (s : Tx) (p c : Nat) : Wd Tx := if wordT (s.drop p) = [] then .bad 3 p else .ok (wordT (s.drop p)) (p + (wordT (s.drop p)).length) c
def tookW (sign s : Tx) (p : Nat) : Bool := sign.isPrefixOf (s.drop p)
def blankW (s : Tx) (p c : Nat) : Wd Unit := if tookW [32] s p = true then .ok () (p + 1) c else .bad 3 p
def countedW (s : Tx) (p c : Nat) : Wd Tx :=
 if (Lib.cut ((s.drop p).drop 1) [125, 13, 10]).2.2 = false then .bad 3 p
 else match numW (Lib.cut ((s.drop p).drop 1) [125, 13, 10]).1 with
  | none => .bad 3 p
  | some n => if (Lib.cut ((s.drop p).drop 1) [125, 13, 10]).2.1.length < n then .bad 3 p
   else .ok ((Lib.cut ((s.drop p).drop 1) [125, 13, 10]).2.1.take n) (s.length - (Lib.cut ((s.drop p).drop 1) [125, 13, 10]).2.1.length + n) c
def offQ (b : Bool) (x : UInt8) : Bool := (b && !(x == 34) && !(x == 92)) || x == 13 || x == 10 || x == 0
def quotedW (s : Tx) (p c : Nat) (acc : Tx) : Nat → Wd Tx
 | 0 => .bad 3 p
 | f + 1 =>
  if tookW [34] s p = true then .ok acc (p + 1) c
  else if tookW [92] s p = true then
   (if offQ true (s.getD (p + 1) 0) = true then .bad 3 (p + 1) else quotedW s (p + 2) c (acc ++ [s.getD (p + 1) 0]) f)
  else if offQ false (s.getD p 0) = true then .bad 3 p else quotedW s (p + 1) c (acc ++ [s.getD p 0]) f
def moreW (g : Nat → Nat → Wd Ar) (s : Tx) : Nat → List Ar → Nat → Nat → Wd (List Ar)
 | 0, _, p, _ => .bad 4 p
 | n + 1, acc, p, c => if tookW [41] s p = true then .ok acc (p + 1) c
  else (blankW s p c).then fun _ p c => (g p c).then fun a p c => moreW g s n (acc ++ [a]) p c
def listW (g : Nat → Nat → Wd Ar) (s : Tx) (p c : Nat) : Wd (List Ar) :=
 if tookW [41] s p = true then .ok [] (p + 1) c else (g p c).then fun a p c => moreW g s 62 [a] p c
def argW (s : Tx) : Nat → Nat → Nat → Wd Ar
 | 0, p, _ => .bad 4 p
 | f + 1, p, c => if 60 < c + 1 then .bad 4 p
  else if tookW [123] s p = true then (countedW s p (c + 1)).map fun t => .mk 2 t []
  else if tookW [34] s p = true then (quotedW s (p + 1) (c + 1) [] s.length).map fun t => .mk 2 t []
  else if tookW [40] s p = true then (listW (argW s f) s (p + 1) (c + 1)).map fun l => .mk 3 [] l
  else (wordW s p (c + 1)).map fun t => .mk 1 t []
def argsW (s : Tx) : Nat → List Ar → Nat → Nat → Wd (List Ar)
 | 0, _, p, _ => .bad 4 p
 | n + 1, acc, p, c => if s.drop p = [13, 10] then .ok acc p c
  else (blankW s p c).then fun _ p c => (argW s 7 p c).then fun a p c => argsW s n (acc ++ [a]) p c
structure Cmd where
 tag : Tx
 name : Tx
 args : List Ar
def commandW (s : Tx) : Wd Cmd :=
 (wordW s 0 0).then fun t p c => (blankW s p c).then fun _ p c => (wordW s p c).then fun n p c => (argsW s 62 [] p c).map fun l => ⟨t, great n, l⟩
def parseW (s : Tx) : Wd Cmd := if Lib.hasSuffix s [13, 10] = true then commandW s else .bad 3 0
def Ends (s : Tx) : Prop := ∃ t, s = t ++ [13, 10]
theorem Ends.len {s : Tx} (h : Ends s) : 2 ≤ s.length := by obtain ⟨t, rfl⟩ := h; simp
theorem Ends.cr {s : Tx} (h : Ends s) : s[s.length - 2]? = some 13 := by
 obtain ⟨t, rfl⟩ := h
 rw [List.length_append, List.getElem?_append_right (by simp)]
 simp
theorem Ends.lf {s : Tx} (h : Ends s) : s[s.length - 1]? = some 10 := by
 obtain ⟨t, rfl⟩ := h
 rw [List.length_append, List.getElem?_append_right (by simp)]
 simp
theorem took_one {s : Tx} {p : Nat} {x : UInt8} : tookW [x] s p = true ↔ s[p]? = some x := by
 unfold tookW
 rw [List.isPrefixOf_iff_prefix]
 constructor
 ·rintro ⟨t, ht⟩
  have : (s.drop p)[0]? = some x := by rw [← ht]; rfl
  rwa [List.getElem?_drop, Nat.add_zero] at this
 ·intro h
  obtain ⟨hp, hx⟩ := List.getElem?_eq_some_iff.1 h
  exact ⟨s.drop (p + 1), by rw [List.drop_eq_getElem_cons hp, hx]; rfl⟩
theorem Ends.ahead {s : Tx} (h : Ends s) {p : Nat} {x : UInt8} (hx : s[p]? = some x) (h1 : x ≠ 13) (h2 : x ≠ 10) : p + 2 < s.length := by
 have hp := (List.getElem?_eq_some_iff.1 hx).1
 have hl := h.len
 have hc := h.cr
 have hf := h.lf
 rcases Nat.lt_or_ge (p + 2) s.length with h3 | h3
 ·exact h3
 ·exfalso
  rcases (show p = s.length - 2 ∨ p = s.length - 1 by omega) with rfl | rfl
  ·rw [hc] at hx; exact h1 (Option.some.inj hx).symm
  ·rw [hf] at hx; exact h2 (Option.some.inj hx).symm
theorem Ends.took {s : Tx} (h : Ends s) {p : Nat} {x : UInt8} (hx : tookW [x] s p = true) (h1 : x ≠ 13) (h2 : x ≠ 10) : p + 1 + 2 ≤ s.length := by
 have := h.ahead (took_one.1 hx) h1 h2
 omega
theorem wordT_le (l : Tx) : (wordT l).length ≤ l.length := by
 unfold wordT
 exact (List.takeWhile_prefix wordy).length_le
theorem wordT_take (l : Tx) : wordT l = l.take (wordT l).length := by
 unfold wordT
 exact (List.prefix_iff_eq_take.1 (List.takeWhile_prefix wordy))
end Go.Proofs.YtogigccbnohjjaaGreatDoor
namespace Go.Proofs.YtogigccbnohjjaaGreatDoor
open Go.RowKit Go.Proofs.Aid
theorem kept_row {e e' : TypeId} {B base size : Nat} {w w' : World} (h : Kept e B w w') (hne : e' ≠ e) {v : Value} {n : Nat} {xs : List Value} (hown : w.ownsRow base e' size v n xs) : w'.ownsRow base e' size v n xs := by
 refine ⟨hown.1, ?_⟩
 rcases hown.2 with h2 | ⟨g, cap, cur, hv, hg, hh, r⟩
 ·exact Or.inl h2
 ·exact Or.inr ⟨g, cap, cur, hv, hg, h.others g _ hh (by simp) (fun c fz he => hne (by cases he; rfl)), r⟩
theorem row_off {e t : TypeId} {base size n b : Nat} {w : World} {v : Value} {xs : List Value} {arr : Array Value} {fz : Nat × Nat} (h : w.ownsRow base e size v n xs) (hh : w.heap[b]? = some (.cells arr t fz)) (hne : e ≠ t) : v.ownBlock ≠ some b := fun e1 => by
 rcases h.2 with ⟨rfl, _⟩ | ⟨g, cap, cur, rfl, _, hg, _⟩
 ·simp [Value.ownBlock] at e1
 ·simp [Value.ownBlock] at e1
  subst e1
  rw [hg] at hh
  injection hh with hh
  injection hh with _ e2 _
  exact hne e2
structure But (base b : Nat) (w w' : World) : Prop where
 os : w'.os = w.os
 tape : w'.tape = w.tape
 output : w'.output = w.output
 size : w.heap.size ≤ w'.heap.size
 block : ∀ k, k < base → k ≠ b → w'.heap[k]? = w.heap[k]?
theorem to_but {base b : Nat} {w w' : World} (h : Below base w w') : But base b w w' := ⟨h.os, h.tape, h.output, h.size, fun k hk _ => h.block k hk⟩
theorem But.trans {base b : Nat} {w w' w'' : World} (h : But base b w w') (k : But base b w' w'') : But base b w w'' :=
 ⟨k.os.trans h.os, k.tape.trans h.tape, k.output.trans h.output, Nat.le_trans h.size k.size, fun j hj hb => (k.block j hj hb).trans (h.block j hj hb)⟩
theorem But.setB {base b : Nat} {w w' : World} (h : But base b w w') (i : Nat) (x : Value) : But base b w (w'.setCell ⟨b, i, none⟩ x) :=
 ⟨h.os, h.tape, h.output, by simpa using h.size, fun k hk hb => (Below.heap_setCell _ _ _ _ hb).trans (h.block k hk hb)⟩
theorem But.cell {base b : Nat} {w w' : World} (h : But base b w w') {p : Addr} (hp : p.block < base) (hb : p.block ≠ b) : w'.cell? p = w.cell? p := World.cell?_of_block (w := w) (h.block p.block hp hb)
theorem But.below {base b B : Nat} {w w' : World} (h : But base b w w') (h1 : B ≤ base) (h2 : B ≤ b) : Below B w w' := ⟨h.os, h.tape, h.output, h.size, fun k hk => h.block k (Nat.lt_of_lt_of_le hk h1) (by omega)⟩
theorem rd_cell {W : World} {b j : Nat} {arr : Array Value} {t : TypeId} {v : Value} (hh : W.heap[b]? = some (.cells arr t (0, 0))) (hv : arr[j]? = some v) : W.cell? ⟨b, j, none⟩ = some v := by simp [World.cell?, hh, hv]
theorem rd_free {W : World} {b : Nat} {arr : Array Value} {t : TypeId} (hh : W.heap[b]? = some (.cells arr t (0, 0))) (j : Nat) : W.frozen? ⟨b, j, none⟩ = false := by simp [World.frozen?, hh]
theorem rd_set {W : World} {b i : Nat} {arr : Array Value} {t : TypeId} (x : Value) (hh : W.heap[b]? = some (.cells arr t (0, 0))) : (W.setCell ⟨b, i, none⟩ x).heap[b]? = some (.cells (arr.setIfInBounds i x) t (0, 0)) := by
 rw [setCell_eq_setRow W b i arr t (0, 0) x hh]
 exact setRow_heap _ _ _ _ _ _ hh
theorem But.less {base base' b : Nat} {w w' : World} (h : But base b w w') (hb : base' ≤ base) : But base' b w w' := ⟨h.os, h.tape, h.output, h.size, fun k hk hn => h.block k (Nat.lt_of_lt_of_le hk hb) hn⟩
theorem row_some {w : World} {base e size n : Nat} {v : Value} {xs : List Value} (h : w.ownsRow base e size v n xs) (hn : n ≠ 0) : ∃ g cap, v = .slice (some ⟨g, 0, none⟩) n cap := by
 rcases h.2 with ⟨_, h2⟩ | ⟨g, cap, cur, hv, _⟩
 ·exact absurd h2 hn
 ·exact ⟨g, cap, hv⟩
theorem own_same {e : TypeId} {base size n : Nat} {w w' : World} {v : Value} {xs : List Value} (h : w.ownsRow base e size v n xs) (hk : ∀ g, v.ownBlock = some g → w'.heap[g]? = w.heap[g]?) : w'.ownsRow base e size v n xs := by
 refine ⟨h.1, ?_⟩
 rcases h.2 with h2 | ⟨g, cap, cur, rfl, h4, hh, r⟩
 ·exact Or.inl h2
 ·exact Or.inr ⟨g, cap, cur, rfl, h4, (hk g rfl).trans hh, r⟩
end Go.Proofs.YtogigccbnohjjaaGreatDoor
