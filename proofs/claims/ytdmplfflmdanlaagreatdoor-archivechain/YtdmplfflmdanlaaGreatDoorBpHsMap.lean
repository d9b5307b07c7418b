/-
  A map from texts to pointers, as a house keeps its boxes: boxes by the, and more.
-/
import Derived.Test.YtdmplfflmdanlaaGreatDoorBpAid
import Derived.Maps.OwnSet
import Derived.Sort.KeysCollected
import Derived.Deep.RegionHeld3
namespace Go.Proofs.YtdmplfflmdanlaaGreatDoor
open Go.RowKit Go.Proofs.Aid
open Go.Maps (Keyed string_keyed IsMap isMap_empty atKey_put_same atKey_put_other atKey_del_same atKey_del_other has_put_same has_put_other has_del_same has_del_other has_true_of_atKey)

abbrev Nm := List UInt8
abbrev Bxs := List (Nm × Nat)
/-- How an element reads that is a pointer: as its block's number. -/
def ptrElem : Value → Option (DataW Unit × List MemPlace)
  | .pointer none => some (.lit (.int .i64 (-1)), [])
  | .pointer (some ⟨b, 0, none⟩) => some (.lit (.int .i64 (b : Int)), [])
  | _ => none
theorem ptrElem_inv {v : Value} {b : Nat} {ps : List MemPlace} (h : ptrElem v = some (.lit (.int .i64 (b : Int)), ps)) : v = .pointer (some ⟨b, 0, none⟩) := by
  unfold ptrElem at h
  split at h
  · simp only [Option.some.injEq, Prod.mk.injEq, DataW.lit.injEq, Lit.int.injEq] at h
    omega
  · simp only [Option.some.injEq, Prod.mk.injEq, DataW.lit.injEq, Lit.int.injEq] at h
    rename_i c
    obtain rfl : c = b := by omega
    rfl
  · cases h
/-- Names in order, none twice. -/
def SortedB (l : Bxs) : Prop := l.Pairwise fun a b => a.1 < b.1
def hasB (l : Bxs) (n : Nm) : Bool := l.any fun p => p.1 == n
def putB (n : Nm) (b : Nat) : Bxs → Bxs
  | [] => [(n, b)]
  | p :: l => if n < p.1 then (n, b) :: p :: l else if n = p.1 then (n, b) :: l else p :: putB n b l
def delB (l : Bxs) (n : Nm) : Bxs := l.filter fun p => decide (p.1 ≠ n)
theorem nm_lt_of {a b : Nm} (h1 : ¬ a < b) (h2 : ¬ a = b) : b < a := by
  by_cases h : b < a
  · exact h
  · exact absurd (List.le_antisymm (List.not_lt.1 h) (List.not_lt.1 h1)) h2
theorem nm_ne {a b : Nm} (h : a < b) : a ≠ b := fun e => List.lt_irrefl b (e ▸ h)
theorem hasB_true {l : Bxs} {n : Nm} : hasB l n = true ↔ ∃ b, (n, b) ∈ l := by
  unfold hasB
  rw [List.any_eq_true]
  constructor
  · rintro ⟨⟨m, b⟩, h1, h2⟩
    obtain rfl : m = n := by simpa using h2
    exact ⟨b, h1⟩
  · rintro ⟨b, h⟩
    exact ⟨_, h, by simp⟩
theorem hasB_false {l : Bxs} {n : Nm} : hasB l n = false ↔ ∀ b, (n, b) ∉ l := by
  rw [← Bool.not_eq_true, hasB_true]
  simp
theorem mem_putB {n : Nm} {b : Nat} : ∀ {l : Bxs}, SortedB l → ∀ {m : Nm} {c : Nat}, (m, c) ∈ putB n b l ↔ (m = n ∧ c = b) ∨ (m ≠ n ∧ (m, c) ∈ l)
  | [], _, m, c => by simp [putB]
  | p :: l, h, m, c => by
    obtain ⟨h1, h2⟩ := List.pairwise_cons.1 h
    unfold putB
    split
    · rename_i hlt
      constructor
      · intro hm
        rcases List.mem_cons.1 hm with hm | hm2
        · exact Or.inl (by simpa using hm)
        · refine Or.inr ⟨fun e => ?_, hm2⟩
          rcases List.mem_cons.1 hm2 with hm3 | hm3
          · rw [← hm3] at hlt
            exact List.lt_irrefl n (by rw [e] at hlt; exact hlt)
          · have h4 : n < m := List.lt_trans hlt (h1 _ hm3)
            rw [e] at h4
            exact List.lt_irrefl n h4
      · rintro (⟨rfl, rfl⟩ | ⟨_, hm⟩)
        · exact List.mem_cons_self
        · exact List.mem_cons_of_mem _ hm
    · split
      · rename_i hlt he
        constructor
        · intro hm
          rcases List.mem_cons.1 hm with hm | hm2
          · exact Or.inl (by simpa using hm)
          · refine Or.inr ⟨fun e => ?_, List.mem_cons_of_mem _ hm2⟩
            have h4 : p.1 < m := h1 _ hm2
            rw [← he, e] at h4
            exact List.lt_irrefl n h4
        · rintro (⟨rfl, rfl⟩ | ⟨hne, hm⟩)
          · exact List.mem_cons_self
          · rcases List.mem_cons.1 hm with hm | hm
            · exact absurd (by rw [he, ← hm]) hne
            · exact List.mem_cons_of_mem _ hm
      · rename_i hlt hne
        rw [List.mem_cons, mem_putB h2, List.mem_cons]
        constructor
        · rintro (hm | hm | ⟨hm1, hm2⟩)
          · exact Or.inr ⟨fun e => hne (by rw [← hm]; exact e.symm), Or.inl hm⟩
          · exact Or.inl hm
          · exact Or.inr ⟨hm1, Or.inr hm2⟩
        · rintro (hm | ⟨hm1, hm | hm2⟩)
          · exact Or.inr (Or.inl hm)
          · exact Or.inl hm
          · exact Or.inr (Or.inr ⟨hm1, hm2⟩)
theorem sorted_putB {n : Nm} {b : Nat} : ∀ {l : Bxs}, SortedB l → SortedB (putB n b l)
  | [], _ => by simp [putB, SortedB]
  | p :: l, h => by
    obtain ⟨h1, h2⟩ := List.pairwise_cons.1 h
    unfold putB
    split
    · rename_i hlt
      refine List.pairwise_cons.2 ⟨fun q hq => ?_, h⟩
      rcases List.mem_cons.1 hq with rfl | hq
      · exact hlt
      · exact List.lt_trans hlt (h1 _ hq)
    · split
      · rename_i hlt he
        refine List.pairwise_cons.2 ⟨fun q hq => ?_, h2⟩
        show n < q.1
        rw [he]
        exact h1 _ hq
      · rename_i hlt hne
        refine List.pairwise_cons.2 ⟨fun q hq => ?_, sorted_putB h2⟩
        obtain ⟨m, c⟩ := q
        rcases (mem_putB h2).1 hq with ⟨rfl, _⟩ | ⟨_, hq⟩
        · exact nm_lt_of hlt hne
        · exact h1 _ hq
theorem sorted_delB {l : Bxs} (h : SortedB l) (n : Nm) : SortedB (delB l n) := List.Pairwise.filter _ h
theorem mem_delB {l : Bxs} {n m : Nm} {c : Nat} : (m, c) ∈ delB l n ↔ m ≠ n ∧ (m, c) ∈ l := by
  unfold delB
  rw [List.mem_filter]
  simp [and_comm]
theorem sorted_one : ∀ {l : Bxs}, SortedB l → ∀ {n : Nm} {a b : Nat}, (n, a) ∈ l → (n, b) ∈ l → a = b
  | [], _, _, _, _, ha, _ => absurd ha List.not_mem_nil
  | p :: l, h, n, a, b, ha, hb => by
    obtain ⟨h1, h2⟩ := List.pairwise_cons.1 h
    rcases List.mem_cons.1 ha with ha | ha
    · rcases List.mem_cons.1 hb with hb | hb
      · rw [← ha] at hb
        simpa using hb.symm
      · have h4 : p.1 < n := h1 _ hb
        rw [← ha] at h4
        exact absurd h4 (List.lt_irrefl n)
    · rcases List.mem_cons.1 hb with hb | hb
      · have h4 : p.1 < n := h1 _ ha
        rw [← hb] at h4
        exact absurd h4 (List.lt_irrefl n)
      · exact sorted_one h2 ha hb

theorem lawN : Keyed Tryz.prog 9 := string_keyed Tryz.underlying9
/-- A map tells boxes of names. -/
def MpD (l : Bxs) (D : DataW Unit) : Prop := ∀ t : Nm, (∀ b : Nat, (t, b) ∈ l → ∀ z, D.atKey (.string t) z = .lit (.int .i64 (b : Int))) ∧ (hasB l t = false → Maps.has D (.string t) = false)
def Mp (w : World) (mb : Nat) (l : Bxs) : Prop := SortedB l ∧ ∃ D : DataW Unit, w.ownsMap Tryz.prog 9 ptrElem mb l.length D ∧ MpD l D
theorem MpD.has {l : Bxs} {D : DataW Unit} (h : MpD l D) (t : Nm) : Maps.has D (.string t) = hasB l t := by
  cases hb : hasB l t with
  | false => exact (h t).2 hb
  | true =>
    obtain ⟨b, hm⟩ := hasB_true.1 hb
    exact has_true_of_atKey ((h t).1 b hm)
theorem keys_nodup {l : Bxs} (h : SortedB l) : (l.map Prod.fst).Nodup := List.pairwise_map.2 (h.imp fun {_ _} hp => nm_ne hp)
theorem mp_keys {w : World} {mb n : Nat} {l : Bxs} {D : DataW Unit} (hs : SortedB l) (h : w.ownsMap Tryz.prog 9 ptrElem mb n D) (hD : MpD l D) : (l.map Prod.fst).Perm (strKeys D) := by
  obtain ⟨es, e1, hk⟩ := h.keysOf
  obtain ⟨es', e2, hp, _⟩ := h.entries lawN
  subst e1
  cases e2
  refine perm_strKeys hp (fun p hp' => ?_) (keys_nodup hs) fun x => ?_
  · obtain ⟨v, hv⟩ := hk p hp'
    obtain ⟨x, _, hx, _⟩ := Maps.keyOf_str Tryz.underlying9 hv
    exact ⟨x, hx⟩
  · rw [hD.has x, hasB_true, List.mem_map]
    constructor
    · rintro ⟨⟨m, b⟩, hm, rfl⟩
      exact ⟨b, hm⟩
    · rintro ⟨b, hm⟩
      exact ⟨_, hm, rfl⟩
theorem mp_size {w : World} {mb n : Nat} {l : Bxs} {D : DataW Unit} (hs : SortedB l) (h : w.ownsMap Tryz.prog 9 ptrElem mb n D) (hD : MpD l D) : Maps.size D = l.length := by
  have hp := (mp_keys hs h hD).length_eq
  obtain ⟨es, rfl⟩ := h.isMap
  rw [List.length_map] at hp
  rw [hp]
  show es.length = (es.map fun p => strOf p.1).length
  rw [List.length_map]
theorem mp_mk {w : World} {mb n : Nat} {l : Bxs} {D : DataW Unit} (hs : SortedB l) (h : w.ownsMap Tryz.prog 9 ptrElem mb n D) (hD : MpD l D) : Mp w mb l := by
  have hz := mp_size hs h hD
  refine ⟨hs, D, ?_, hD⟩
  obtain ⟨es, clock, hb, F, hsz, rfl⟩ := h
  refine ⟨es, clock, hb, F, ?_, rfl⟩
  have : Maps.size (DataW.map ((es.toList.map (WideElems.rg Tryz.prog 9 ptrElem)).foldr DataW.insert [])) = es.size := by simp [Maps.size, length_sorted]
  omega
theorem mp_new (w : World) : Mp (w.alloc (.map #[] 0)) w.heap.size [] := ⟨List.Pairwise.nil, .map [], World.ownsMap_made _ _ _ _, fun _ => ⟨fun _ h => absurd h List.not_mem_nil, fun _ => rfl⟩⟩
theorem mp_make (w : World) : (Instr.makeMap 128 none).run Tryz.prog w = .ok (.map (some w.heap.size)) (w.alloc (.map #[] 0)) := by kernel_rfl
theorem Mp.lt {w : World} {mb : Nat} {l : Bxs} (h : Mp w mb l) : mb < w.heap.size := by
  obtain ⟨_, D, h1, _⟩ := h
  exact h1.lt
theorem Mp.sorted {w : World} {mb : Nat} {l : Bxs} (h : Mp w mb l) : SortedB l := h.1
theorem Mp.same {w w' : World} {mb : Nat} {l : Bxs} (h : Mp w mb l) (hb : w'.heap[mb]? = w.heap[mb]?) : Mp w' mb l := by
  obtain ⟨hs, D, ⟨es, clock, h1, r⟩, hD⟩ := h
  exact ⟨hs, D, ⟨es, clock, hb.trans h1, r⟩, hD⟩
theorem keyN {s : ByteArray} (h : s.size ≤ 1000000) : keyOf Tryz.prog 9 (.string s) = some (.string s.data.toList) := Go.WideMaps.keyOf_string_mk Tryz.underlying9 (by unfold maxLen; omega)
theorem zero_ptr (w : World) : (zeroValue 134).run Tryz.prog w = .ok (.pointer none) w := by kernel_rfl
/-- What a map tells of a name: whether it has it. -/
theorem mp_ok {w : World} {mb : Nat} {l : Bxs} (h : Mp w mb l) (s : ByteArray) (hs : s.size ≤ 1000000) :
    ∃ v, (Instr.lookup 128 (.map (some mb)) (.string s) true).run Tryz.prog w = .ok (.tuple #[v, .bool (hasB l s.data.toList)]) w := by
  obtain ⟨_, D, h1, hD⟩ := h
  obtain ⟨v, ps, hr, _⟩ := h1.look_ok lawN Tryz.underlying128 (zero_ptr w) (zd := .lit (.int .i64 (-1))) (zp := []) rfl (keyN hs)
  rw [hD.has] at hr
  exact ⟨v, hr⟩
theorem mp_look {w : World} {mb : Nat} {l : Bxs} (h : Mp w mb l) (s : ByteArray) (hs : s.size ≤ 1000000) {b : Nat} (hb : (s.data.toList, b) ∈ l) :
    (Instr.lookup 128 (.map (some mb)) (.string s) false).run Tryz.prog w = .ok (.pointer (some ⟨b, 0, none⟩)) w := by
  obtain ⟨_, D, h1, hD⟩ := h
  obtain ⟨v, ps, hr, hv⟩ := h1.lookup lawN Tryz.underlying128 (zero_ptr w) (zd := .lit (.int .i64 (-1))) (zp := []) rfl (keyN hs)
  rw [(hD _).1 b hb] at hv
  rw [ptrElem_inv hv] at hr
  exact hr
theorem turned_but {w w' : World} {mb : Nat} (h : w.mapTurned w' mb) : But w.heap.size mb w w' := by
  have h5 := h.grown
  exact ⟨h5.os, h5.tape, h5.output, h5.size, fun q hq hne => h5.block q hq (fun e => hne (Option.some.inj e))⟩
theorem keyLit (t : Nm) : WideAt.IsKeyLit (.string t) := by first | trivial | simp [WideAt.IsKeyLit] | decide
theorem str_ne' {a b : Nm} (h : a ≠ b) : (Lit.string a) ≠ .string b := fun e => h (by cases e; rfl)
theorem mp_put {w : World} {mb : Nat} {l : Bxs} (h : Mp w mb l) (s : ByteArray) (hs : s.size ≤ 1000000) (hl : l.length ≤ 1000000) (b : Nat) :
    ∃ w', (Instr.mapUpdate 128 (.map (some mb)) (.string s) (.pointer (some ⟨b, 0, none⟩))).run Tryz.prog w = .ok () w' ∧ Mp w' mb (putB s.data.toList b l) ∧ w.mapTurned w' mb := by
  obtain ⟨hso, D, h1, hD⟩ := h
  obtain ⟨w', hr, h2, h3⟩ := h1.store lawN Tryz.underlying128 (by unfold maxLen; omega) (keyN hs) (val := .pointer (some ⟨b, 0, none⟩)) (d := .lit (.int .i64 (b : Int))) (ps := []) rfl
  refine ⟨w', hr, mp_mk (sorted_putB hso) h2 (fun t => ⟨fun c hc z => ?_, fun hn => ?_⟩), h3⟩
  · rcases (mem_putB hso).1 hc with ⟨rfl, rfl⟩ | ⟨hne, hm⟩
    · exact atKey_put_same h1.isMap (keyLit _) _ _
    · rw [atKey_put_other (str_ne' hne)]
      exact (hD t).1 c hm z
  · have hne : t ≠ s.data.toList := fun e => (hasB_false.1 hn) b ((mem_putB hso).2 (Or.inl ⟨e, rfl⟩))
    rw [has_put_other (str_ne' hne), hD.has]
    exact hasB_false.2 fun c hc => (hasB_false.1 hn) c ((mem_putB hso).2 (Or.inr ⟨hne, hc⟩))
theorem mp_del {w : World} {mb : Nat} {l : Bxs} (h : Mp w mb l) (s : ByteArray) (hs : s.size ≤ 1000000) (ty : TypeId) :
    ∃ w', (Builtin.delete_ #[128, 9] ty #[.map (some mb), .string s]).run Tryz.prog w = .ok (.tuple #[]) w' ∧ Mp w' mb (delB l s.data.toList) ∧ w.mapTurned w' mb := by
  obtain ⟨hso, D, h1, hD⟩ := h
  obtain ⟨w', hr, h2, h3⟩ := h1.drop lawN Tryz.underlying128 (keyN hs) ty
  refine ⟨w', hr, mp_mk (sorted_delB hso _) h2 (fun t => ⟨fun c hc z => ?_, fun hn => ?_⟩), h3⟩
  · obtain ⟨hne, hm⟩ := mem_delB.1 hc
    rw [atKey_del_other (str_ne' hne)]
    exact (hD t).1 c hm z
  · by_cases hne : t = s.data.toList
    · rw [hne]
      exact has_del_same
    · rw [has_del_other (str_ne' hne), hD.has]
      exact hasB_false.2 fun c hc => (hasB_false.1 hn) c (mem_delB.2 ⟨hne, hc⟩)
theorem mp_len {w : World} {mb : Nat} {l : Bxs} (h : Mp w mb l) (ty : TypeId) : (Builtin.len_ #[128] ty #[.map (some mb)]).run Tryz.prog w = .ok (.int .i64 (l.length : Int)) w := by
  obtain ⟨hso, D, h1, hD⟩ := h
  have := h1.len Tryz.underlying128 ty
  rw [mp_size hso h1 hD] at this
  exact this
end Go.Proofs.YtdmplfflmdanlaaGreatDoor
namespace Go.Proofs.YtdmplfflmdanlaaGreatDoor
open Go.RowKit Go.Proofs.Aid

/-- A house lies there: boxes by their names, names that are wanted, the next box's number. -/
def HsAt (w : World) (hb mb : Nat) (l : Bxs) (nx : Int) (wv : Value) : Prop := w.heap[hb]? = some (.cells #[.map (some mb), wv, .int .i64 nx] 130 (0, 0)) ∧ Mp w mb l
/-- Nothing but a house's own blocks is changed. -/
structure HK (hb mb : Nat) (w w' : World) : Prop where
  os : w'.os = w.os
  tape : w'.tape = w.tape
  output : w'.output = w.output
  size : w.heap.size ≤ w'.heap.size
  block : ∀ k, k < w.heap.size → k ≠ hb → k ≠ mb → w'.heap[k]? = w.heap[k]?
theorem HK.refl (hb mb : Nat) (w : World) : HK hb mb w w := ⟨rfl, rfl, rfl, Nat.le_refl _, fun _ _ _ _ => rfl⟩
theorem HK.trans {hb mb : Nat} {a b c : World} (h : HK hb mb a b) (k : HK hb mb b c) : HK hb mb a c :=
  ⟨k.os.trans h.os, k.tape.trans h.tape, k.output.trans h.output, Nat.le_trans h.size k.size, fun j hj h1 h2 => (k.block j (Nat.lt_of_lt_of_le hj h.size) h1 h2).trans (h.block j hj h1 h2)⟩
theorem HK.of {hb mb : Nat} {a b : World} (h : Below a.heap.size a b) : HK hb mb a b := ⟨h.os, h.tape, h.output, h.size, fun k hk _ _ => h.block k hk⟩
theorem HK.turned {hb mb : Nat} {a b : World} (h : a.mapTurned b mb) : HK hb mb a b := have k := turned_but h; ⟨k.os, k.tape, k.output, k.size, fun j hj _ h2 => k.block j hj h2⟩
theorem HK.below {hb mb B : Nat} {a b : World} (h : HK hb mb a b) (h0 : B ≤ a.heap.size) (h1 : B ≤ hb) (h2 : B ≤ mb) : Below B a b := ⟨h.os, h.tape, h.output, h.size, fun k hk => h.block k (by omega) (by omega) (by omega)⟩
theorem HsAt.lt {w : World} {hb mb : Nat} {l : Bxs} {nx : Int} {wv : Value} (h : HsAt w hb mb l nx wv) : hb < w.heap.size := (Array.getElem?_eq_some_iff.1 h.1).1
theorem HsAt.ne {w : World} {hb mb : Nat} {l : Bxs} {nx : Int} {wv : Value} (h : HsAt w hb mb l nx wv) : hb ≠ mb := fun e => by
  obtain ⟨h1, _, D, ⟨es, clock, h2, _⟩, _⟩ := h
  rw [e, h2] at h1
  cases h1
theorem HsAt.below {w w' : World} {hb mb B : Nat} {l : Bxs} {nx : Int} {wv : Value} (h : HsAt w hb mb l nx wv) (hb' : Below B w w') (hB : w.heap.size ≤ B) : HsAt w' hb mb l nx wv :=
  ⟨(hb'.block hb (Nat.lt_of_lt_of_le h.lt hB)).trans h.1, h.2.same (hb'.block mb (Nat.lt_of_lt_of_le h.2.lt hB))⟩
theorem HsAt.cell {w : World} {hb mb : Nat} {l : Bxs} {nx : Int} {wv : Value} (h : HsAt w hb mb l nx wv) : w.cell? ⟨hb, 0, none⟩ = some (.map (some mb)) ∧ w.cell? ⟨hb, 1, none⟩ = some wv ∧ w.cell? ⟨hb, 2, none⟩ = some (.int .i64 nx) := ⟨rd_cell h.1 rfl, rd_cell h.1 rfl, rd_cell h.1 rfl⟩
set_option maxHeartbeats 1000000 in
theorem has_is (hb mb : Nat) (l : Bxs) (nx : Int) (wv : Value) (s : ByteArray) (w : World) (h : HsAt w hb mb l nx wv) (hs : s.size ≤ 1000000) :
    Calls Tryz.prog 179 #[.pointer (some ⟨hb, 0, none⟩), .string s] w fun e w' => e = .returned (.bool (hasB l s.data.toList)) ∧ w' = w := by
  obtain ⟨v, hok⟩ := mp_ok h.2 s hs
  have c0 := h.cell.1
  clear h
  obtain ⟨A, hA⟩ : ∃ A, hasB l s.data.toList = A := ⟨_, rfl⟩
  rw [hA] at hok ⊢
  clear hA
  go_enter Tryz.func179, Tryz.ntmps179
  go_wp2_with fail
  go_ret
  exact ⟨rfl, rfl⟩
/-- A new box: its number, nothing in it. -/
def NewBox (w : World) (b : Nat) (v : Int) : Prop := w.heap[b]? = some (.cells #[.int .i64 v, .int .i64 1, .slice none 0 0] 66 (0, 0))
set_option maxHeartbeats 4000000 in
set_option maxRecDepth 100000 in
theorem add_is (hb mb : Nat) (l : Bxs) (nx : Int) (wv : Value) (s : ByteArray) (w : World) (h : HsAt w hb mb l nx wv) (hs : s.size ≤ 1000000) (hl : l.length ≤ 1000) (hn : 0 ≤ nx ∧ nx ≤ 1000000) :
    Calls Tryz.prog 69 #[.pointer (some ⟨hb, 0, none⟩), .string s] w fun e w' => e = .returned (.tuple #[]) ∧ HsAt w' hb mb (putB s.data.toList w.heap.size l) (nx + 1) wv ∧ NewBox w' w.heap.size nx ∧ HK hb mb w w' := by
  obtain ⟨WD, hWD⟩ : ∃ W, w.drew = W := ⟨_, rfl⟩
  have hD : HsAt WD hb mb l nx wv := by rw [← hWD]; exact h
  have bD : Below w.heap.size w WD := by rw [← hWD]; exact (Below.refl _ _).drew
  have hB : WD.heap.size = w.heap.size := by rw [← hWD]; rfl
  obtain ⟨W8, hW8⟩ : ∃ W, WD.alloc (.cells #[.int .i64 nx, .int .i64 1, .slice none 0 0] 66) = W := ⟨_, rfl⟩
  have b8 : Below w.heap.size WD W8 := by rw [← hW8, ← hB]; exact (Below.refl _ _).alloc (Nat.le_refl _) _
  have e8 : NewBox W8 w.heap.size nx := by rw [← hW8, ← hB]; exact heap_alloc_new _ _
  have h8 := hD.below b8 (by omega)
  obtain ⟨W9, hp, hm9, ht⟩ := mp_put h8.2 s hs (by omega) w.heap.size
  have hbl := h.lt
  have hml := h.2.lt
  have hne := h.ne
  have z8 := b8.size
  have hh9 := ((turned_but ht).block hb (by omega) hne).trans h8.1
  have e9 : NewBox W9 w.heap.size nx := ((turned_but ht).block w.heap.size (Array.getElem?_eq_some_iff.1 e8).1 (by omega)).trans e8
  obtain ⟨c0, _, c2⟩ := h.cell
  obtain ⟨d0, _, d2⟩ := h8.cell
  have f0 : W9.cell? ⟨hb, 0, none⟩ = some (.map (some mb)) := rd_cell hh9 rfl
  have f2 : W9.cell? ⟨hb, 2, none⟩ = some (.int .i64 nx) := rd_cell hh9 rfl
  have ff := rd_free hh9 2
  have hsum : wrap64 (nx + 1) = nx + 1 := by unfold wrap64; omega
  have hh10 := rd_set (i := 2) (.int .i64 (nx + 1)) hh9
  have HOUT : Hid (HsAt (W9.setCell ⟨hb, 2, none⟩ (.int .i64 (nx + 1))) hb mb (putB s.data.toList w.heap.size l) (nx + 1) wv ∧ NewBox (W9.setCell ⟨hb, 2, none⟩ (.int .i64 (nx + 1))) w.heap.size nx ∧ HK hb mb w (W9.setCell ⟨hb, 2, none⟩ (.int .i64 (nx + 1)))) := by
    have hk : HK hb mb w W9 := (HK.of (bD.trans b8)).trans (HK.turned ht)
    refine ⟨⟨hh10, hm9.same (Below.heap_setCell _ _ _ _ (fun e => hne e.symm))⟩, (Below.heap_setCell _ _ _ _ (by show w.heap.size ≠ hb; omega)).trans e9, ⟨hk.os, hk.tape, hk.output, by simpa using hk.size, fun k h1 h2 h3 => (Below.heap_setCell _ _ _ _ h2).trans (hk.block k h1 h2 h3)⟩⟩
  clear h hD bD b8 e8 h8 hm9 ht hh9 e9 hh10 z8
  go_enter Tryz.func69, Tryz.ntmps69
  go_wp2_with fail
  refine wp_region_held_drew (S := fun W => W.cell? ⟨hb, 0, none⟩ = some (.map (some mb)) ∧ W.cell? ⟨hb, 2, none⟩ = some (.int .i64 nx)) (by kernel_rfl) ?_ (fun hHeld => ?_)
  · exact ⟨by simpa using c0, by simpa using c2⟩
  rw [hWD] at hHeld ⊢
  refine wpAnyH_take (i := 0) (v := ?_) rfl (by kernel_rfl) (by kernel_rfl) (by kernel_rfl) (fun _ _ _ h => h) (Or.inl ⟨by rfl, ?_⟩) (by first | assumption | trivial) ?_
  rotate_left
  · intro w hSw; go_simp; (try with_reducible rfl)
  change wpAnyH _ _ _ _ _ _ _ (Act.put _ (some 4) _) _; simp only [Act.put, List.setIfInBounds_toArray, List.set_cons_zero, List.set_cons_succ]
  refine wpAnyH_take (i := 1) (v := ?_) rfl (by kernel_rfl) (by kernel_rfl) (by kernel_rfl) (fun _ _ _ h => h) (Or.inl ⟨by rfl, ?_⟩) (by first | assumption | trivial) ?_
  rotate_left
  · intro w hSw; go_simp; (try with_reducible rfl)
  change wpAnyH _ _ _ _ _ _ _ (Act.put _ (some 5) _) _; simp only [Act.put, List.setIfInBounds_toArray, List.set_cons_zero, List.set_cons_succ]
  refine wpAnyH_take (i := 2) (v := ?_) rfl (by kernel_rfl) (by kernel_rfl) (by kernel_rfl) (fun _ _ _ h => h) (Or.inl ⟨by rfl, ?_⟩) (by first | assumption | trivial) ?_
  rotate_left
  · intro w hSw; go_simp; (try with_reducible rfl)
  change wpAnyH _ _ _ _ _ _ _ (Act.put _ (some 6) _) _; simp only [Act.put, List.setIfInBounds_toArray, List.set_cons_zero, List.set_cons_succ]
  refine wpAnyH_take (i := 3) (v := ?_) rfl (by kernel_rfl) (by kernel_rfl) (by kernel_rfl) (fun _ _ _ h => h) (Or.inl ⟨by rfl, ?_⟩) (by first | assumption | trivial) ?_
  rotate_left
  · intro w hSw; go_simp; (try with_reducible rfl)
  change wpAnyH _ _ _ _ _ _ _ (Act.put _ (some 7) _) _; simp only [Act.put, List.setIfInBounds_toArray, List.set_cons_zero, List.set_cons_succ]
  refine wpAnyH_take (i := 4) (v := ?_) rfl (by kernel_rfl) (by kernel_rfl) (by kernel_rfl) (fun _ _ _ h => h) (Or.inl ⟨by rfl, ?_⟩) (by first | assumption | trivial) ?_
  rotate_left
  · intro w hSw; go_simp; (try with_reducible rfl)
  change wpAnyH _ _ _ _ _ _ _ (Act.put _ (some 8) _) _; simp only [Act.put, List.setIfInBounds_toArray, List.set_cons_zero, List.set_cons_succ]
  refine wpAnyH_take (i := 5) (v := ?_) rfl (by kernel_rfl) (by kernel_rfl) (by kernel_rfl) (fun _ _ _ h => h) (Or.inl ⟨by rfl, ?_⟩) (by first | assumption | trivial) ?_
  rotate_left
  · intro w hSw; go_simp; (try with_reducible rfl)
  change wpAnyH _ _ _ _ _ _ _ (Act.put _ (some 9) _) _; simp only [Act.put, List.setIfInBounds_toArray, List.set_cons_zero, List.set_cons_succ]
  refine wpAnyH_take (i := 6) (v := ?_) rfl (by kernel_rfl) (by kernel_rfl) (by kernel_rfl) (fun _ _ _ h => h) (Or.inl ⟨by rfl, ?_⟩) (by first | assumption | trivial) ?_
  rotate_left
  · intro w hSw; go_simp; (try with_reducible rfl)
  change wpAnyH _ _ _ _ _ _ _ (Act.put _ (some 10) _) _; simp only [Act.put, List.setIfInBounds_toArray, List.set_cons_zero, List.set_cons_succ]
  refine wpAnyH_take (i := 7) (v := ?_) rfl (by kernel_rfl) (by kernel_rfl) (by kernel_rfl) (fun _ _ _ h => h) (Or.inl ⟨by rfl, ?_⟩) (by first | assumption | trivial) ?_
  rotate_left
  · intro w hSw; go_simp; (try with_reducible rfl)
  change wpAnyH _ _ _ _ _ _ _ (Act.put _ (some 11) _) _; simp only [Act.put, List.setIfInBounds_toArray, List.set_cons_zero, List.set_cons_succ]
  refine wpAnyH_take (i := 8) (v := ?_) rfl (by kernel_rfl) (by kernel_rfl) (by kernel_rfl) (fun _ _ _ h => h) (Or.inl ⟨by rfl, ?_⟩) (by first | assumption | trivial) ?_
  rotate_left
  · intro w hSw; go_simp; (try with_reducible rfl)
  change wpAnyH _ _ _ _ _ _ _ (Act.put _ (some 12) _) _; simp only [Act.put, List.setIfInBounds_toArray, List.set_cons_zero, List.set_cons_succ]
  refine wpAnyH_take (i := 9) (v := ?_) rfl (by kernel_rfl) (by kernel_rfl) (by kernel_rfl) (fun _ _ _ h => h) (Or.inl ⟨by rfl, ?_⟩) (by first | assumption | trivial) ?_
  rotate_left
  · intro w hSw; go_simp; (try with_reducible rfl)
  change wpAnyH _ _ _ _ _ _ _ (Act.put _ (some 13) _) _; simp only [Act.put, List.setIfInBounds_toArray, List.set_cons_zero, List.set_cons_succ]
  refine wpAnyH_ready (rs := [10]) (by kernel_rfl) (by simp) ?_
  refine AllReadyH.cons rfl (fun K hK => ?_) AllReadyH.nil
  go_simp
  refine hK.out _ _ ?_ (fun hHeld => ?_)
  · exact ⟨d0, d2⟩
  clear hK K
  refine wpAnyH_ready (rs := [11]) (by kernel_rfl) (by simp) ?_
  refine AllReadyH.cons rfl (fun K hK => ?_) AllReadyH.nil
  go_simp
  refine hK.out _ _ ?_ (fun hHeld => ?_)
  · exact ⟨f0, f2⟩
  clear hK K
  refine wpAnyH_done (by kernel_rfl) ?_ _
  clear hHeld d0 d2
  go_wp2_with fail
  go_end0
  exact ⟨rfl, HOUT.out⟩
end Go.Proofs.YtdmplfflmdanlaaGreatDoor
