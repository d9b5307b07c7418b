/-
  The document's answer on a set of flags.
  What errors.As answers at an error number and a target for one: closed facts on the model's entries for internal/reflectlite, and the walk.
-/
import Derived.Test.YtgpcnacpefficaaGreatDoorMRefOrdered
import Derived.Test.YtgpcnacpefficaaGreatDoorMFlagsSet
import Derived.Test.YtgpcnacpefficaaGreatDoorProg
import Derived.WalkKit
import Derived.LaidEql
import Derived.Stop.Asserts
import Derived.RowKitTokens
namespace Go.Proofs.YtgpcnacpefficaaGreatDoor
open Go.RowKit Go.Proofs.Aid Go.Proofs.Fl Go.Sort Go.Lib

theorem fname_len (s : Tx) : (fname s).1.length ≤ s.length + 10 := by
  unfold fname
  split
  · split
    · next n h =>
      have hm := List.mem_of_find?_eq_some h
      have : ∀ u ∈ five, u.length ≤ 10 := by decide
      have := this n hm
      show n.length ≤ _
      omega
    · simp
  · split
    · simp
    · split <;> simp
set_option maxHeartbeats 2000000 in
set_option maxRecDepth 100000 in
theorem ref_set (v : Value) (l : List Tx) (w : World) (h : Sl w v l) (hl : l.length ≤ 400) (hs : ∀ t ∈ l, t.length ≤ 900000) :
    Calls Tryz.prog 17 #[v] w fun e w' => (∃ v', e = .returned (.tuple #[v', .int .i64 (setOf l).2]) ∧ Sl w' v' (setOf l).1) ∧ Below w.heap.size w w' := by
  have hk : ∀ W, Below w.heap.size w W → Sl W v l := fun W hb => h.below hb (Nat.le_refl _)
  obtain ⟨a, c, rfl, _, _⟩ := h
  obtain ⟨len, hn⟩ : ∃ n, l.length = n := ⟨_, rfl⟩
  rw [hn] at hl hk ⊢
  have HS : Hid (∀ t ∈ l, t.length ≤ 900000) := hs
  clear hs
  go_enter Tryz.func17, Tryz.ntmps17
  go_wp2
  go_loopw [4, 12] (fun rv i wr => ∃ (k : Nat) (ns : List Tx), i = .int .i64 (k : Int) ∧ k ≤ len ∧ ns.length = k ∧ wr.ownsRow w.heap.size 9 1 rv ns.length (ns.map encStr) ∧ Hid (namesOf (l.take k) = (ns, 0) ∧ ∀ t ∈ ns, t.length ≤ 1000000) ∧ Below w.heap.size w wr) (fun _ i _ => len - (intOf i).toNat)
  case atStart => exact ⟨0, [], rfl, by omega, rfl, World.ownsRow_nil _ _ _ _, ⟨rfl, by simp⟩, Below.refl _ _⟩
  case round =>
    obtain ⟨k, ns, rfl, hkl, hnl, hrow, HN, hbW⟩ := hrel
    subst hnl
    by_cases hlt : ns.length < len
    · obtain ⟨a', c', hv, _, hd⟩ := hk _ hbW
      cases hv
      rcases hd with h0 | ⟨b, o, rfl, hat⟩
      · rw [h0] at hlt; exact absurd hlt (by simp)
      have hkk : ns.length < l.length := by omega
      have c1 := hat ns.length _ (List.getElem?_eq_getElem hkk)
      have hts : l[ns.length].length ≤ 900000 := HS.out _ (List.getElem_mem _)
      obtain ⟨t, ht⟩ : ∃ t, l[ns.length] = t := ⟨_, rfl⟩
      have HT : Hid (l[ns.length] = t) := ht
      rw [ht] at c1 hts
      have HTL : Hid (t.length ≤ 900000) := hts
      obtain ⟨s, hse⟩ : ∃ s : ByteArray, ⟨t.toArray⟩ = s := ⟨_, rfl⟩
      have hst : s.data.toList = t := by rw [← hse]
      have hsz : s.size ≤ 1000000 := by rw [← hse]; have : t.toArray.size ≤ 900000 := by simpa using hts
                                        simp only [ByteArray.size]; omega
      have c2 : wr.cell? ⟨b, o + ns.length, none⟩ = some (.string s) := by rw [← hse]; exact c1
      have cN := ref_name s wr hsz
      rw [hst] at cN
      obtain ⟨ec, hec⟩ : ∃ ec, (fname t).2 = ec := ⟨_, rfl⟩
      rw [hec] at cN
      have HEC : Hid ((fname t).2 = ec) := hec
      have hbs := hbW.size
      clear hat ht hse hst c1 hts hk hec
      go_wp2_with fail
      refine cN.mono ?_
      rintro e w1 ⟨⟨n, rfl, hnn⟩, hb1⟩
      have hrow1 := row_below hb1 (Nat.le_refl _) hrow
      have hb01 := hbW.trans (hb1.mono hbs)
      have hbs1 := hb01.size
      have HNN : Hid (n.data.toList = (fname t).1) := hnn
      clear hnn cN hrow
      by_cases h0 : ec = 0
      · have HE : Hid (namesOf (l.take (ns.length + 1)) = (ns ++ [(fname t).1], 0)) := by
          have := names_step hkk HN.out.1 (by rw [HT.out, HEC.out]; exact h0)
          rw [HT.out] at this; exact this
        subst h0
        go_wp2_with (at_builtin; go_must (refine wpList_push rfl (.tmp 24) (.tmp 26) 35 rfl _ w.heap.size 9 (.string ⟨#[]⟩) 16 Tryz.underlying35 Tryz.infoStr rfl _ _ _ (by rfl) hrow1 [.string n] _ (by rfl) (by simp) (by simp [Value.oneCell']) (by simp) (by rfl) (by decide) (by simp; omega) hbs1 ?_); intro g1 cap1 w9 hown1 hg1 hlt1)
        have hb9 : Below w.heap.size w w9 := hb01.grown hg1 hbs1 (fun j e => (hrow1.lt j e).1)
        go_roundw
        case rel => exact ⟨ns.length + 1, ns ++ [(fname t).1], by go_num, by omega, by simp, by rw [← HNN.out]; simpa [encStr] using hown1, ⟨HE.out, fun u hu => by
          rcases List.mem_append.1 hu with h | h
          · exact HN.out.2 u h
          · rw [List.mem_singleton.1 h]; have := fname_len t; have := HTL.out; omega⟩, hb9⟩
        case measure => simp [intOf]; omega
      · have HE : Hid (setOf l = ([], ec)) := by
          have := names_stop hkk HN.out.1 (by rw [HT.out, HEC.out]; exact h0)
          rw [HT.out, HEC.out] at this; exact this
        clear hrow1
        go_wp2_with fail
        go_ret2
        rw [HE.out]
        exact ⟨⟨_, rfl, ⟨none, 0, rfl, ⟨fun _ => rfl, Nat.le_refl _⟩, Or.inl rfl⟩⟩, hb01⟩
    · have hke : ns.length = len := by omega
      have HA : Hid (namesOf l = (ns, 0)) := by
        have := HN.out.1
        rw [List.take_of_length_le (by omega)] at this
        exact this
      have cO := ref_ordered _ ns _ (Sl.of_row hrow) (by omega) HN.out.2
      clear hrow hk
      go_wp2_with fail
      refine cO.mono ?_
      rintro e w2 ⟨⟨v2, rfl, hs2⟩, hb2⟩
      have hset : setOf l = if 12 < (order ns).length then ([], 4) else (order ns, 0) := by
        unfold setOf
        rw [HA.out]
        simp
      have hs3 := hs2
      obtain ⟨oa, oc, rfl, _, _⟩ := hs3
      have hb02 := hbW.trans (hb2.mono hbW.size)
      obtain ⟨m, hm⟩ : ∃ m, (order ns).length = m := ⟨_, rfl⟩
      rw [hm] at hset hs2 ⊢
      have HSET : Hid (setOf l = if 12 < m then ([], 4) else (order ns, 0)) := hset
      clear hset cO hm
      by_cases h12 : 12 < m
      · have h12' : (12 : Int) < (m : Int) := by omega
        go_wp2_with fail
        go_ret2
        rw [HSET.out, if_pos h12]
        exact ⟨⟨_, rfl, ⟨none, 0, rfl, ⟨fun _ => rfl, Nat.le_refl _⟩, Or.inl rfl⟩⟩, hb02⟩
      · have h12' : ¬ (12 : Int) < (m : Int) := by omega
        go_wp2_with fail
        go_ret2
        rw [HSET.out, if_neg h12]
        exact ⟨⟨_, rfl, hs2⟩, hb02⟩
end Go.Proofs.YtgpcnacpefficaaGreatDoor
namespace Go.Proofs.YtgpcnacpefficaaGreatDoor
open Go.RowKit Go.Extern.Stop Go.Stop Go.Extern

theorem as_nil (t : Value) (w : World) :
    Calls Tryz.prog 96 #[.nilIface, t] w fun e w' => e = .returned (.bool false) ∧ w' = w := by
  go_enter Tryz.func96, Tryz.ntmps96
  go_wp2
  go_ret
  exact ⟨rfl, rfl⟩

theorem Tryz.valueOf70 (t : Addr) (w : World) : (ReflectliteValue.unpack (.iface 144 (.pointer (some t)))).run Tryz.prog w
    = .ok (.agg #[.pointer (some ⟨2, 144, none⟩), .pointer (some ⟨w.heap.size, 0, none⟩), .int .u64 150]) (w.alloc (.cells #[.pointer (some t)] 144)) := by kernel_rfl
theorem Tryz.type70 (a : Addr) (w : World) : (ReflectliteValue.methodAny (ReflectliteValue.valueError "reflectlite.Value.Type" 0) (fun t _ _ _ => ReflectliteType.toType t) #[.agg #[.pointer (some ⟨2, 144, none⟩), .pointer (some a), .int .u64 150]]).run Tryz.prog w
    = .ok (.iface 185 (.agg #[.pointer (some ⟨2, 144, none⟩)])) w := by kernel_rfl
theorem Tryz.methodKind (h : Value) (w : World) : (Go.method 329 185 (.agg #[h]) "Kind").run Tryz.prog w = .ok (150, h) w := by kernel_rfl
theorem Tryz.kind70 (w : World) : ((ReflectliteType.abiMethod fun t => (fun a : Nat => Value.int IntKind.u8 (a : Int)) <$> Rtype.kind t) #[.pointer (some ⟨2, 144, none⟩)]).run Tryz.prog w = .ok (.int .u8 22) w := by kernel_rfl
theorem Tryz.kind22 (w : World) : ((ReflectliteType.abiMethod fun t => (fun a : Nat => Value.int IntKind.u8 (a : Int)) <$> Rtype.kind t) #[.pointer (some ⟨2, 55, none⟩)]).run Tryz.prog w = .ok (.int .u8 2) w := by kernel_rfl
theorem Tryz.parts70 (a : Addr) (w : World) : (ReflectliteValue.parts (.agg #[.pointer (some ⟨2, 144, none⟩), .pointer (some a), .int .u64 150])).run Tryz.prog w = .ok (some (144, a, 150)) w := by kernel_rfl
theorem Tryz.isNil70 (a p : Addr) (W : World) (ha : W.cell? a = some (.pointer (some p))) :
    (ReflectliteValue.method (ReflectliteValue.valueError "reflectlite.Value.IsNil" 0) ReflectliteValue.isNil #[.agg #[.pointer (some ⟨2, 144, none⟩), .pointer (some a), .int .u64 150]]).run Tryz.prog W = .ok (.bool false) W := by
  show (Bind.bind (ReflectliteValue.parts (.agg #[.pointer (some ⟨2, 144, none⟩), .pointer (some a), .int .u64 150])) _).run Tryz.prog W = _
  simp only [Sem.run_bind, Tryz.parts70, Result.andThen]
  simp [ReflectliteValue.isNil, loadVar, isAgg, underlying, Tryz.underlying144, ha, Result.andThen]
theorem Tryz.methodElem (h : Value) (w : World) : (Go.method 329 185 (.agg #[h]) "Elem").run Tryz.prog w = .ok (162, .agg #[h]) w := by kernel_rfl
theorem Tryz.methodAssignableTo (h : Value) (w : World) : (Go.method 329 185 (.agg #[h]) "AssignableTo").run Tryz.prog w = .ok (160, .agg #[h]) w := by kernel_rfl
theorem Tryz.elem70 (w : World) : (ReflectliteType.method ReflectliteType.elem #[.agg #[.pointer (some ⟨2, 144, none⟩)]]).run Tryz.prog w = .ok (.iface 185 (.agg #[.pointer (some ⟨2, 55, none⟩)])) w := by kernel_rfl
theorem Tryz.methodImplements (h : Value) (w : World) : (Go.method 329 185 (.agg #[h]) "Implements").run Tryz.prog w = .ok (163, .agg #[h]) w := by kernel_rfl
theorem Tryz.implements22 (w : World) : (ReflectliteType.relation "Implements" ReflectliteType.implements_ #[.agg #[.pointer (some ⟨2, 55, none⟩)], .iface 185 (.agg #[.pointer (some ⟨2, 68, none⟩)])]).run Tryz.prog w = .ok (.bool true) w := by kernel_rfl
theorem Tryz.typeOf22 (v : Value) (w : World) : (ReflectliteType.typeOf #[.iface 55 v]).run Tryz.prog w = .ok (.iface 185 (.agg #[.pointer (some ⟨2, 55, none⟩)])) w := by kernel_rfl
theorem Tryz.assignable22 (w : World) : (ReflectliteType.relation "AssignableTo" ReflectliteType.assignableTo #[.agg #[.pointer (some ⟨2, 55, none⟩)], .iface 185 (.agg #[.pointer (some ⟨2, 55, none⟩)])]).run Tryz.prog w = .ok (.bool true) w := by kernel_rfl
theorem Tryz.valueOf22 (n : Int) (w : World) : (ReflectliteValue.unpack (.iface 55 (.int .i64 n))).run Tryz.prog w
    = .ok (.agg #[.pointer (some ⟨2, 55, none⟩), .pointer (some ⟨w.heap.size, 0, none⟩), .int .u64 130]) (w.alloc (.cells #[.int .i64 n] 55)) := by kernel_rfl
theorem Tryz.elemOf70 (w : World) : (Rtype.elem? 144).run Tryz.prog w = .ok (some 55) w := by kernel_rfl
theorem Tryz.mk22 (p : Addr) (w : World) : (ReflectliteValue.mk 55 p ReflectliteValue.flagAddr).run Tryz.prog w = .ok (.agg #[.pointer (some ⟨2, 55, none⟩), .pointer (some p), .int .u64 386]) w := by kernel_rfl
theorem Tryz.elemV70 (a p : Addr) (W : World) (ha : W.cell? a = some (.pointer (some p))) :
    (ReflectliteValue.method (ReflectliteValue.valueError "reflectlite.Value.Elem" 0) ReflectliteValue.elem #[.agg #[.pointer (some ⟨2, 144, none⟩), .pointer (some a), .int .u64 150]]).run Tryz.prog W
      = .ok (.agg #[.pointer (some ⟨2, 55, none⟩), .pointer (some p), .int .u64 386]) W := by
  show (Bind.bind (ReflectliteValue.parts (.agg #[.pointer (some ⟨2, 144, none⟩), .pointer (some a), .int .u64 150])) _).run Tryz.prog W = _
  simp only [Sem.run_bind, Tryz.parts70, Result.andThen]
  simp [ReflectliteValue.elem, loadVar, isAgg, underlying, Tryz.underlying144, ha, Result.andThen, Tryz.elemOf70, Tryz.mk22]
theorem Tryz.parts22a (a : Addr) (w : World) : (ReflectliteValue.parts (.agg #[.pointer (some ⟨2, 55, none⟩), .pointer (some a), .int .u64 386])).run Tryz.prog w = .ok (some (55, a, 386)) w := by kernel_rfl
theorem Tryz.parts22 (a : Addr) (w : World) : (ReflectliteValue.parts (.agg #[.pointer (some ⟨2, 55, none⟩), .pointer (some a), .int .u64 130])).run Tryz.prog w = .ok (some (55, a, 130)) w := by kernel_rfl
theorem Tryz.direct22 (w : World) : (Rtype.directlyAssignable 55 55).run Tryz.prog w = .ok true w := by kernel_rfl
end Go.Proofs.YtgpcnacpefficaaGreatDoor
