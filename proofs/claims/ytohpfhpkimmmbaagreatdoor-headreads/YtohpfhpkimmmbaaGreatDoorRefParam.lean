/-
  What letterboxref.Param does: the same as head.Param.
-/
import Derived.Test.YtohpfhpkimmmbaaGreatDoorHeadUnq
import Derived.Test.YtohpfhpkimmmbaaGreatDoorRefBare
import Derived.Test.YtohpfhpkimmmbaaGreatDoorRefSplit
import Derived.Test.YtohpfhpkimmmbaaGreatDoorSplitTie
namespace Go.Proofs.YtohpfhpkimmmbaaGreatDoor
open Go.RowKit Go.Proofs.Aid Go.Proofs.Hd Go.Proofs.Sq

theorem between_short (c : UInt8) : ∀ (l p : Tx), p ∈ between c l → p.length ≤ l.length
  | [], p, h => by simp [between] at h; simp [h]
  | b :: r, p, h => by
    rw [between] at h
    split at h
    · rcases List.mem_cons.1 h with rfl | h
      · simp
      · have := between_short c r p h
        simp; omega
    · rcases List.mem_cons.1 h with rfl | h
      · cases hb : between c r with
        | nil => simp
        | cons x xs =>
          have := between_short c r x (by rw [hb]; simp)
          simp; omega
      · have := between_short c r p (List.mem_of_mem_tail h)
        simp; omega
theorem cut_index (c : UInt8) (l : Tx) : cutAt c l = if 0 ≤ Lib.indexByte l c then (l.take (Lib.indexByte l c).toNat, l.drop ((Lib.indexByte l c).toNat + 1), true) else (l, [], false) := by
  rw [← cut_eq, Lib.cut, Lib.index_one]
  rfl
set_option maxHeartbeats 2000000 in
set_option maxRecDepth 100000 in
theorem rparam_is (s nm : ByteArray) (m : Int) (w : World) (hs : s.size ≤ 1000000) (hnm : nm.size ≤ 1000000) (hm : w.cell? ⟨2, 0, none⟩ = some (.int .i64 m)) :
    Calls Tryz.prog 45 #[.string s, .string nm] w fun e w' => Below w.heap.size w w' ∧
      ((paramOf s.data.toList nm.data.toList = none ∧ e = .returned (.tuple #[.string ⟨#[]⟩, .bool false])) ∨
       ∃ r : ByteArray, paramOf s.data.toList nm.data.toList = some r.data.toList ∧ e = .returned (.tuple #[.string r, .bool true])) := by
  have hsp := split_between 59 s
  have cP := Tryz.strings_Split s ⟨#[59]⟩ m w (by omega) hm (by decide)
  have hpl := Lib.splitB_all ⟨#[59]⟩ (by decide) 0 _ s rfl
  have hcl := Lib.countB_le ⟨#[59]⟩ (by decide) _ s (Nat.le_refl _)
  obtain ⟨P, hP⟩ : ∃ P, Lib.splitB ⟨#[59]⟩ 0 (Lib.countB s ⟨#[59]⟩) s = P := ⟨_, rfl⟩
  obtain ⟨N, hN⟩ : ∃ N, Lib.countB s ⟨#[59]⟩ + 1 = N := ⟨_, rfl⟩
  rw [hP] at hsp hpl cP
  rw [hN] at hpl cP
  have hNs : N ≤ 1000001 := by omega
  obtain ⟨G, hG⟩ : ∃ G, paramOf s.data.toList nm.data.toList = G := ⟨_, rfl⟩
  have HG : Hid ((((P.map (·.data.toList)).drop 1).find? (isParam nm.data.toList)).map (fun p => unq (Hd.bare (cutAt 61 p).2.1)) = G) := by
    show _ = _
    rw [hsp, ← hG, List.drop_one]
    rfl
  rw [hG]
  have HP : Hid (P.length = N ∧ ∀ x ∈ P, x.size ≤ 1000000) := ⟨hpl, fun x hx => by
    have h1 : x.data.toList ∈ between 59 s.data.toList := by rw [← hsp]; exact List.mem_map_of_mem hx
    have := between_short _ _ _ h1
    rw [list_size, list_size] at this
    omega⟩
  have HC : Hid (∀ W, Below (w.heap.size + 1) (w.alloc (.cells (P.map Value.string).toArray 9)) W → ∀ (j : Nat) x, P[j]? = some x → W.cell? ⟨w.heap.size, j, none⟩ = some (.string x)) := fun W hW j x hj => by
    rw [hW.cell (p := ⟨w.heap.size, j, none⟩) (Nat.lt_succ_self _)]
    unfold World.cell?
    simp only [heap_alloc_new]
    simp [hj]
  have hb0 : Below w.heap.size w (w.alloc (.cells (P.map Value.string).toArray 9)) := (Below.refl _ w).alloc (Nat.le_refl _) _
  obtain ⟨sn, hsn⟩ : ∃ t : ByteArray, ⟨(small nm.data.toList).toArray⟩ = t := ⟨_, rfl⟩
  have HSN : Hid (sn.data.toList = small nm.data.toList) := by show _ = _; rw [← hsn]
  have cN := fun W => rsmall_is nm W hnm
  rw [hsn] at cN
  clear hsp hpl hcl hP hN hG hm hsn
  go_enter Tryz.func45, Tryz.ntmps45
  go_wp2_with fail
  refine cP.mono ?_
  clear cP
  rintro e w1 ⟨rfl, rfl⟩
  obtain ⟨W1, hW1⟩ : ∃ W1, w.alloc (.cells (P.map Value.string).toArray 9) = W1 := ⟨_, rfl⟩
  have hz1 : W1.heap.size = w.heap.size + 1 := by rw [← hW1]; simp
  rw [hW1] at HC hb0 ⊢
  clear hW1
  go_wp2_with fail
  go_loopw [13] (fun i wr => ∃ k : Nat, i = .int .i64 (k : Int) ∧ k ≤ N ∧ Hid ((((P.map (·.data.toList)).drop (max k 1)).find? (isParam nm.data.toList)).map (fun p => unq (Hd.bare (cutAt 61 p).2.1)) = G) ∧ Below (w.heap.size + 1) W1 wr) (fun i _ => N - (intOf i).toNat)
  case atStart => exact ⟨0, rfl, by omega, HG.out, Below.refl _ _⟩
  case round =>
    obtain ⟨k, rfl, hk, HR, hbW⟩ := hrel
    have hbw : Below w.heap.size w wr := hb0.trans (hbW.mono (Nat.le_succ _))
    by_cases hlt : k < N
    · have hkP : k < P.length := by rw [HP.out.1]; exact hlt
      obtain ⟨p, hp⟩ : ∃ p, P[k] = p := ⟨_, rfl⟩
      have hpk : P[k]? = some p := by rw [List.getElem?_eq_getElem hkP, hp]
      have c1 := HC.out wr hbW k p hpk
      have hpz : p.size ≤ 1000000 := HP.out.2 p (List.mem_of_getElem? hpk)
      have hci := cut_index 61 p.data.toList
      have cI := Tryz.strings_IndexByte p 61 wr
      rw [show ((61 : Int).toNat.toUInt8) = 61 from rfl] at cI
      obtain ⟨z, hz⟩ : ∃ z, Lib.indexByte p.data.toList 61 = z := ⟨_, rfl⟩
      rw [hz] at hci cI
      have HCI : Hid (cutAt 61 p.data.toList = if 0 ≤ z then (p.data.toList.take z.toNat, p.data.toList.drop (z.toNat + 1), true) else (p.data.toList, [], false)) := hci
      have hzl : 0 ≤ z → z + 1 ≤ p.size := fun h0 => by
        have := Lib.index_room p.data.toList [61]
        rw [Lib.index_one, hz, list_size, show ([61] : Tx).length = 1 from rfl] at this
        exact this h0
      have HRR : Hid (1 ≤ k → ((p.data.toList :: (P.map (·.data.toList)).drop (k + 1)).find? (isParam nm.data.toList)).map (fun p => unq (Hd.bare (cutAt 61 p).2.1)) = G) := by
        intro h1
        have := HR.out
        rw [Nat.max_eq_left h1, List.drop_eq_getElem_cons (by rw [List.length_map]; exact hkP), List.getElem_map, hp] at this
        exact this
      clear hci hz hp hpk
      go_wp2_with fail
      refine cI.mono ?_
      clear cI
      rintro e w2 ⟨rfl, hw⟩
      obtain rfl : wr = w2 := hw.symm
      by_cases hk0 : k = 0
      · subst hk0
        go_wp2_with fail
        go_roundw
        case rel => exact ⟨1, by go_num, by omega, HR.out, hbW⟩
        case measure => simp [intOf]; omega
      · have hkq : ((k : Int) == 0) = false := by rw [beq_eq_false_iff_ne]; omega
        by_cases hz0 : z < 0
        · have HE : Hid ((((P.map (·.data.toList)).drop (max (k + 1) 1)).find? (isParam nm.data.toList)).map (fun p => unq (Hd.bare (cutAt 61 p).2.1)) = G) := by
            show _ = _
            rw [Nat.max_eq_left (by omega), ← HRR.out (by omega), List.find?_cons_of_neg]
            unfold isParam
            rw [HCI.out, if_neg (by omega)]
            simp
          go_wp2_with fail
          go_roundw
          case rel => exact ⟨k + 1, by go_num, by omega, HE.out, hbW⟩
          case measure => simp [intOf]; omega
        · obtain ⟨q, rfl⟩ : ∃ q : Nat, z = q := ⟨z.toNat, by omega⟩
          have hq := hzl (by omega)
          have hx : (p.extract 0 q).size ≤ 1000000 := by rw [Lib.size_eq, Lib.extract_from_zero, List.length_take]; rw [list_size]; omega
          have hy : (p.extract (q + 1) p.size).size ≤ 1000000 := by rw [Lib.size_eq, Lib.extract_to_end, List.length_drop, list_size]; omega
          have HCU : Hid (cutAt 61 p.data.toList = ((p.extract 0 q).data.toList, (p.extract (q + 1) p.size).data.toList, true)) := by
            show _ = _
            rw [HCI.out, if_pos (by omega), Int.toNat_natCast, Lib.extract_from_zero, Lib.extract_to_end]
          have cB := rbare_is (p.extract 0 q) wr hx
          have cB2 := fun W => rbare_is (p.extract (q + 1) p.size) W hy
          obtain ⟨ba, hba⟩ : ∃ t : ByteArray, ⟨(Hd.bare (p.extract 0 q).data.toList).toArray⟩ = t := ⟨_, rfl⟩
          obtain ⟨V, hV⟩ : ∃ t : ByteArray, ⟨(Hd.bare (p.extract (q + 1) p.size).data.toList).toArray⟩ = t := ⟨_, rfl⟩
          have hbl : ba.data.toList = Hd.bare (p.extract 0 q).data.toList := by rw [← hba]
          have hVl : V.data.toList = Hd.bare (p.extract (q + 1) p.size).data.toList := by rw [← hV]
          have hbz : ba.size ≤ 1000000 := by have := bare_length (p.extract 0 q).data.toList; rw [← list_size, hbl]; rw [list_size] at this; omega
          have hVz : V.size ≤ 1000000 := by have := bare_length (p.extract (q + 1) p.size).data.toList; rw [← list_size, hVl]; rw [list_size] at this; omega
          have HI : Hid (isParam nm.data.toList p.data.toList = decide (small ba.data.toList = small nm.data.toList)) := by
            show _ = _
            unfold isParam
            rw [HCU.out, hbl]
            rfl
          have HV : Hid (unq (Hd.bare (cutAt 61 p.data.toList).2.1) = unq V.data.toList) := by show _ = _; rw [HCU.out, hVl]
          rw [hba] at cB
          rw [hV] at cB2
          have cS := fun W => rsmall_is ba W hbz
          obtain ⟨sb, hsb⟩ : ∃ t : ByteArray, ⟨(small ba.data.toList).toArray⟩ = t := ⟨_, rfl⟩
          have HSB : Hid (sb.data.toList = small ba.data.toList) := by show _ = _; rw [← hsb]
          rw [hsb] at cS
          clear hba hV hbl hVl hsb HCI HCU
          go_wp2_with fail
          refine cB.mono ?_
          clear cB
          rintro e w2 ⟨rfl, hw2⟩
          obtain rfl : wr = w2 := hw2.symm
          go_wp2_with fail
          refine (cS wr).mono ?_
          clear cS
          rintro e w3 ⟨rfl, hb3⟩
          go_wp2_with fail
          refine (cN w3).mono ?_
          rintro e w4 ⟨rfl, hb4⟩
          have hb34 := hb3.trans (hb4.mono hb3.size)
          have hb9 := hbw.trans (hb34.mono hbw.size)
          have hzr : w.heap.size + 1 ≤ wr.heap.size := by have := hbW.size; omega
          have hbW4 := hbW.trans (hb34.mono hzr)
          by_cases heq : small ba.data.toList = small nm.data.toList
          · have HA : Hid (G = some (unq V.data.toList)) := by
              show _ = _
              rw [← HRR.out (by omega), List.find?_cons_of_pos (by rw [HI.out]; simpa using heq), ← HV.out]
              rfl
            obtain rfl : sb = sn := text_ext (by rw [HSB.out, HSN.out]; exact heq)
            clear heq HI HRR HV
            go_wp2_with fail
            refine (cB2 w4).mono ?_
            clear cB2
            rintro e w5 ⟨rfl, hw5⟩
            obtain rfl : w4 = w5 := hw5.symm
            have hl := list_size V
            by_cases h2 : V.size < 2
            · have hu : unq V.data.toList = V.data.toList := by unfold unq; rw [if_neg (by rw [hl]; omega)]
              rw [hu] at HA
              have i1 : ¬ (1 : Int) < (V.size : Int) := by omega
              have i2 : decide ((1 : Int) < (V.size : Int)) = false := decide_eq_false i1
              clear hu
              go_wp2_with fail
              go_ret2
              exact ⟨hb9, Or.inr ⟨_, HA.out, rfl⟩⟩
            · have i1 : (1 : Int) < (V.size : Int) := by omega
              have i2 : decide ((1 : Int) < (V.size : Int)) = true := decide_eq_true i1
              have h0 : 0 < V.size := by omega
              have h1 : V.size - 1 < V.size := by omega
              have HC0 : Hid (V.data.toList.head? = some (V[0]'h0)) := by
                show _ = _
                rw [List.head?_eq_getElem?, List.getElem?_eq_getElem (by omega)]; rfl
              have HC1 : Hid (V.data.toList.getLast? = some (V[V.size - 1]'h1)) := by
                show _ = _
                rw [List.getLast?_eq_getElem?, hl, List.getElem?_eq_getElem (by omega)]; rfl
              generalize hc0 : V[0] = c0 at HC0
              generalize hc1 : V[V.size - 1] = c1' at HC1
              by_cases e0 : c0 = 34
              · have q0 : ((c0.toNat : Int) == 34) = true := by rw [e0]; rfl
                by_cases e1 : c1' = 34
                · have q1 : ((c1'.toNat : Int) == 34) = true := by rw [e1]; rfl
                  rw [unq_yes (by omega) (e0 ▸ HC0.out) (e1 ▸ HC1.out), ← cut_ends V] at HA
                  go_wp2_with fail
                  go_ret2
                  exact ⟨hb9, Or.inr ⟨_, HA.out, rfl⟩⟩
                · have q1 : ((c1'.toNat : Int) == 34) = false := by rw [beq_eq_false_iff_ne]; intro h; exact e1 (UInt8.toNat_inj.1 (by show c1'.toNat = 34; omega))
                  rw [unq_no2 HC1.out e1] at HA
                  go_wp2_with fail
                  go_ret2
                  exact ⟨hb9, Or.inr ⟨_, HA.out, rfl⟩⟩
              · have q0 : ((c0.toNat : Int) == 34) = false := by rw [beq_eq_false_iff_ne]; intro h; exact e0 (UInt8.toNat_inj.1 (by show c0.toNat = 34; omega))
                rw [unq_no HC0.out e0] at HA
                go_wp2_with fail
                go_ret2
                exact ⟨hb9, Or.inr ⟨_, HA.out, rfl⟩⟩
          · have HE : Hid ((((P.map (·.data.toList)).drop (max (k + 1) 1)).find? (isParam nm.data.toList)).map (fun p => unq (Hd.bare (cutAt 61 p).2.1)) = G) := by
              show _ = _
              rw [Nat.max_eq_left (by omega), ← HRR.out (by omega), List.find?_cons_of_neg (by rw [HI.out]; simpa using heq)]
            have hqq : (sb.toList == sn.toList) = false := by
              rw [Lib.toList_data, Lib.toList_data, HSB.out, HSN.out, beq_eq_false_iff_ne]
              exact heq
            clear heq HI HRR HV
            go_wp2_with fail
            go_roundw
            case rel => exact ⟨k + 1, by go_num, by omega, HE.out, hbW4⟩
            case measure => simp [intOf]; omega
    · have HE : Hid (G = none) := by
        have := HR.out
        rw [List.drop_eq_nil_of_le (by rw [List.length_map, HP.out.1]; omega)] at this
        exact this.symm
      go_wp2_with fail
      go_ret2
      exact ⟨hbw, Or.inl ⟨HE.out, rfl⟩⟩
end Go.Proofs.YtohpfhpkimmmbaaGreatDoor
