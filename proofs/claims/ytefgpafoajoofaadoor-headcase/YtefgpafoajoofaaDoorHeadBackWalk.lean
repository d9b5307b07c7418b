/-
  The walk of HeadBack.
-/
import Derived.Test.YtefgpafoajoofaaDoorHeadEqual
import Derived.Test.YtefgpafoajoofaaDoorHeadPrint
import Derived.Test.YtefgpafoajoofaaDoorHeadBounds
namespace Go.Proofs.YtefgpafoajoofaaDoor
open Go.RowKit Go.Proofs.Aid Go.Proofs.Hd Go.Proofs.Sq

theorem upper_small (n : Tx) : small (Lib.toUpperA n) = small n := by
  have h : ∀ k : Fin 256, sm (Lib.upperB (UInt8.ofNat k.val)) = sm (UInt8.ofNat k.val) := by decide +kernel
  unfold small Lib.toUpperA
  rw [List.map_map]
  refine List.map_congr_left fun c _ => ?_
  have := h ⟨c.toNat, c.toNat_lt⟩
  simpa using this
theorem short_of {L : List Fb} {V : Nat} (hV : V ≤ 1000000) (h : ∀ f ∈ L.map tx, Hd.Good f ∧ f.2.length ≤ V) : Short L := fun f hf => by
  have h1 := h (tx f) (List.mem_map_of_mem hf)
  have h2 := (name_ne h1.1.name).2
  have h3 := h1.2
  simp only [tx] at h2 h3
  rw [list_size] at h2 h3
  omega
set_option maxHeartbeats 4000000 in
set_option maxRecDepth 100000 in
theorem back_small (s body : ByteArray) (m : Int) (w : World) (hs : s.size ≤ 1000) (hbd : body.size ≤ 500) (hm : w.cell? ⟨4, 0, none⟩ = some (.int .i64 m)) :
    Calls Tryd.prog 7 #[.string s, .string body] w fun e w' => e = .returned (.bool true) ∧ Below w.heap.size w w' := by
  have K0 : Hid (∀ W, Below w.heap.size w W → W.cell? ⟨4, 0, none⟩ = some (.int .i64 m)) := fun W h => (h.cell (World.block_lt_of_cell? _ _ hm)).trans hm
  have cH := headed_is m w hm
  have i1 : ¬ (1000 : Int) < (s.size : Int) := by omega
  have i2 : ¬ (500 : Int) < (body.size : Int) := by omega
  obtain ⟨h, hh⟩ : ∃ t : ByteArray, ⟨(headOf s.data.toList).toArray⟩ = t := ⟨_, rfl⟩
  obtain ⟨bo, hbo⟩ : ∃ t : ByteArray, ⟨(bodyOf s.data.toList).toArray⟩ = t := ⟨_, rfl⟩
  have heq : h ++ bo = s := text_ext (by rw [cat_list, ← hh, ← hbo]; exact head_body _)
  have HHB : Hid ((⟨(headOf s.data.toList).toArray⟩ : ByteArray) = h ∧ (⟨(bodyOf s.data.toList).toArray⟩ : ByteArray) = bo) := ⟨hh, hbo⟩
  have hsz : h.size + bo.size ≤ 1000001 := by rw [← cat_size, heq]; omega
  clear hm hh hbo
  go_enter Tryd.func7, Tryd.ntmps7
  go_wp2_with fail
  refine cH.mono ?_
  clear cH
  rintro e w1 ⟨rfl, hb1⟩
  have cS := split_is s m w1 (by omega) (K0.out w1 hb1)
  rw [HHB.out.1, HHB.out.2] at cS
  go_wp2_with fail
  refine cS.mono ?_
  clear cS
  rintro e w2 ⟨rfl, hb2⟩
  have hb02 := hb1.trans (hb2.mono hb1.size)
  have cF := fields_is s m w2 (by omega) (K0.out w2 hb02)
  have hgood := fieldsOf_good s.data.toList
  have hval := values_short s.data.toList
  obtain ⟨F, hF⟩ : ∃ F, fieldsOf s.data.toList = F := ⟨_, rfl⟩
  rw [hF] at cF hgood hval
  rw [list_size] at hval
  clear hb1 hb2 hF
  go_wp2_with fail
  refine cF.mono ?_
  clear cF
  rintro e w3 ⟨hb3, ⟨_, v, L, rfl, hfg, hL⟩ | ⟨_, p, rfl, _, _⟩⟩
  · have hb03 := hb02.trans (hb3.mono hb02.size)
    obtain ⟨⟨fe, fp⟩, l⟩ := F
    simp only at hL hgood hval
    have hgv : ∀ f ∈ L.map tx, Hd.Good f ∧ f.2.length ≤ 1001 := fun f hf => by
      rw [hL] at hf
      exact ⟨hgood.1 f hf, by have := hval f hf; omega⟩
    have hLl : L.length ≤ 40 := by have := hgood.2; rw [← hL, List.length_map] at this; exact this
    have hshort := short_of (by decide) hgv
    have hpl := printed_len hgv
    rw [List.length_map] at hpl
    have hpl2 : (printed (L.map tx)).length ≤ 42602 := Nat.le_trans hpl (by have : L.length * (64 + 1001) ≤ 40 * (64 + 1001) := Nat.mul_le_mul_right _ hLl; omega)
    have hgl : ∀ f ∈ L.map tx, Hd.Good f := fun f hf => (hgv f hf).1
    have hfp := fields_printed (l := L.map tx) body.data.toList hgl (by rw [List.length_map]; exact hLl)
    have hhp := head_printed (l := L.map tx) body.data.toList hgl
    obtain ⟨t, ht⟩ : ∃ t : ByteArray, ⟨(printed (L.map tx)).toArray⟩ = t := ⟨_, rfl⟩
    have htl : t.data.toList = printed (L.map tx) := by rw [← ht]
    have hts : t.size ≤ 42602 := by rw [← list_size, htl]; exact hpl2
    have hcat : (t ++ body).data.toList = printed (L.map tx) ++ body.data.toList := by rw [cat_list, htl]
    have HF2 : Hid (fieldsOf (t ++ body).data.toList = ((0, 0), L.map tx)) := by show _ = _; rw [hcat]; exact hfp
    have HH2 : Hid ((⟨(headOf (t ++ body).data.toList).toArray⟩ : ByteArray) = t ∧ (⟨(bodyOf (t ++ body).data.toList).toArray⟩ : ByteArray) = body) := by
      refine ⟨text_ext ?_, text_ext ?_⟩
      · rw [htl, hcat]; exact hhp.1
      · rw [hcat]; exact hhp.2
    have hsz2 : t.size + body.size ≤ 1000001 := by omega
    have hts2 : (t ++ body).size ≤ 90000 := by rw [cat_size]; omega
    have cP := print_is v L w3 hfg (by omega) hshort
    rw [ht] at cP
    have HFG : Hid (∀ W, Below w3.heap.size w3 W → Fg W v L) := fun W hW => hfg.below hW (Nat.le_refl _)
    have HSH : Hid (Short L) := hshort
    have HNM : Hid (∀ f ∈ L, ∀ c ∈ f.1.data.toList, 33 ≤ c.toNat ∧ c.toNat ≤ 126) := fun f hf => name_byte (hgl (tx f) (List.mem_map_of_mem hf)).name
    obtain ⟨va, vc, rfl, _⟩ := hfg
    obtain ⟨N, hN⟩ : ∃ N, L.length = N := ⟨_, rfl⟩
    have HN : Hid (L.length = N) := hN
    rw [hN] at HFG cP hLl ⊢
    clear hgood hval hgv hshort hpl hpl2 hgl hfp hhp ht htl hcat hL hN
    go_wp2_with fail
    refine cP.mono ?_
    clear cP
    rintro e w4 ⟨rfl, hb4⟩
    have hb04 := hb03.trans (hb4.mono hb03.size)
    have cF := fields_is (t ++ body) m w4 hts2 (K0.out w4 hb04)
    rw [HF2.out] at cF
    go_wp2_with fail
    refine cF.mono ?_
    clear cF
    rintro e w5 ⟨hb5, ⟨_, v2, L2, rfl, hfg2, hL2⟩ | ⟨hne, _⟩⟩
    · obtain rfl : L2 = L := txs_inj hL2
      have hb05 := hb04.trans (hb5.mono hb04.size)
      have hb35 := hb4.trans (hb5.mono hb4.size)
      have cE := equal_fields v2 _ L2 w5 hfg2 (HFG.out w5 hb35) (by have := HN.out; omega)
      clear hfg2 hL2 hb4 hb5 hb04
      go_wp2_with fail
      refine cE.mono ?_
      clear cE
      rintro e w6 ⟨rfl, hb6⟩
      have hb06 := hb05.trans (hb6.mono hb05.size)
      have hb36 := hb35.trans (hb6.mono hb35.size)
      have cS := split_is (t ++ body) m w6 (by omega) (K0.out w6 hb06)
      rw [HH2.out.1, HH2.out.2] at cS
      clear hb05 hb35 hb6
      go_wp2_with fail
      refine cS.mono ?_
      clear cS
      rintro e w7 ⟨rfl, hb7⟩
      have hb07 := hb06.trans (hb7.mono hb06.size)
      have hb37 := hb36.trans (hb7.mono hb36.size)
      clear hb06 hb36 hb7 HH2 HF2 hsz2 hts2
      go_wp2_with fail
      go_loopw [11] (fun i wr => ∃ k : Nat, i = .int .i64 (k : Int) ∧ k ≤ N ∧ Below w.heap.size w wr ∧ Below w3.heap.size w3 wr) (fun i _ => N - (intOf i).toNat)
      case atStart => exact ⟨0, rfl, by omega, hb07, hb37⟩
      case round =>
        obtain ⟨k, rfl, hk, hbW, hb3W⟩ := hrel
        by_cases hlt : k < N
        · have hkL : k < L2.length := by rw [HN.out]; exact hlt
          obtain ⟨a', c', hv, hd⟩ := HFG.out wr hb3W
          injection hv with hv1 hv2 hv3
          subst hv1
          rcases hd with h0 | ⟨b, o, rfl, hat⟩
          · rw [h0] at hkL; simp at hkL
          have c1 := (hat k _ (List.getElem?_eq_getElem hkL)).1
          have hsx := HSH.out _ (List.getElem_mem hkL)
          have hnx := HNM.out _ (List.getElem_mem hkL)
          obtain ⟨⟨x, y⟩, hxy⟩ : ∃ q, L2[k] = q := ⟨_, rfl⟩
          have hmem : (x, y) ∈ L2 := by rw [← hxy]; exact List.getElem_mem hkL
          rw [hxy] at c1 hsx hnx
          simp only at c1 hsx hnx
          have cU := Tryd.strings_ToUpper_ascii x wr (by omega) (fun j c hj => by have := hnx c (List.mem_of_getElem? hj); omega)
          obtain ⟨up, hup⟩ : ∃ t : ByteArray, ⟨(Lib.toUpperA x.data.toList).toArray⟩ = t := ⟨_, rfl⟩
          have hupl : up.data.toList = Lib.toUpperA x.data.toList := by rw [← hup]
          have hups : up.size ≤ 1000000 := by rw [← list_size, hupl, Lib.toUpperA, List.length_map, list_size]; exact hsx.1
          have HUP : Hid (small up.data.toList = small (tx (x, y)).1) := by show _ = _; rw [hupl]; exact upper_small _
          rw [hup] at cU
          have hgs := getF_of_mem (l := L2.map tx) (f := tx (x, y)) (n := up.data.toList) (List.mem_map_of_mem hmem) HUP.out
          have HGS : Hid ((getF (L2.map tx) up.data.toList).isSome = true) := hgs
          have HXY : Hid (L2[k]? = some (x, y)) := by show _ = _; rw [List.getElem?_eq_getElem hkL, hxy]
          have HAT : Hid (∀ W, Below w3.heap.size w3 W → ∀ (j : Nat) f, L2[j]? = some f → W.cell? ⟨b, o + j * 2, none⟩ = some (.string f.1) ∧ W.cell? ⟨b, o + j * 2 + 1, none⟩ = some (.string f.2)) := fun W hW j f hj => by
            obtain ⟨a2, c2, hv', hd'⟩ := HFG.out W hW
            injection hv' with hv1' _ _
            rcases hd' with h0 | ⟨b2, o2, hb2, hat2⟩
            · rw [h0] at hj; simp at hj
            · rw [hb2] at hv1'
              injection hv1' with hv1'
              injection hv1' with e1 e2 _
              subst e1 e2
              exact hat2 j f hj
          clear hat hv2 hv3 hxy hup hupl hnx hgs hmem
          go_wp2_with fail
          refine cU.mono ?_
          clear cU
          rintro e w8 ⟨rfl, hb8⟩
          have hb08 := hbW.trans (hb8.mono hbW.size)
          have hb38 := hb3W.trans (hb8.mono hb3W.size)
          have cG := get_is _ L2 up w8 (HFG.out w8 hb38) (by have := HN.out; omega) HSH.out hups
          clear hb8 hbW hb3W
          go_wp2_with fail
          refine cG.mono ?_
          clear cG
          rintro e w9 ⟨hb9, ⟨z, hz, rfl⟩ | ⟨hz, _⟩⟩
          · have hb09 := hb08.trans (hb9.mono hb08.size)
            have hb39 := hb38.trans (hb9.mono hb38.size)
            by_cases hk0 : k = 0
            · subst hk0
              have d0 := (HAT.out w9 hb39 0 _ HXY.out).2
              rw [show o + 0 * 2 + 1 = o + 1 by omega] at d0
              obtain rfl : z = y := by
                cases hL : L2 with
                | nil => have := HXY.out; rw [hL] at this; simp at this
                | cons f r =>
                  have hf : f = (x, y) := by have := HXY.out; rw [hL] at this; simpa using this
                  rw [hL, List.map_cons, hf, getF_first HUP.out] at hz
                  exact (text_ext (Option.some.inj hz)).symm
              clear hz
              go_wp2_with fail
              go_roundw
              case rel => exact ⟨1, by go_num, by omega, hb09, hb39⟩
              case measure => simp [intOf]; omega
            · have hkq : ((k : Int) == 0) = false := by rw [beq_eq_false_iff_ne]; omega
              clear hz
              go_wp2_with fail
              go_roundw
              case rel => exact ⟨k + 1, by go_num, by omega, hb09, hb39⟩
              case measure => simp [intOf]; omega
          · have := HGS.out
            rw [hz] at this
            cases this
        · go_wp2_with fail
          go_ret
          exact ⟨rfl, hbW⟩
    · exact absurd rfl hne
  · have hb03 := hb02.trans (hb3.mono hb02.size)
    go_wp2_with fail
    go_ret
    exact ⟨rfl, hb03⟩
theorem back_big (s body : ByteArray) (w : World) (h : 1000 < s.size ∨ 500 < body.size) :
    Calls Tryd.prog 7 #[.string s, .string body] w fun e w' => e = .returned (.bool true) ∧ Below w.heap.size w w' := by
  by_cases h1 : 1000 < s.size
  · have i1 : (1000 : Int) < (s.size : Int) := by omega
    go_enter Tryd.func7, Tryd.ntmps7
    go_wp2_with fail
    go_ret
    exact ⟨rfl, Below.refl _ _⟩
  · have i1 : ¬ (1000 : Int) < (s.size : Int) := by omega
    have i2 : (500 : Int) < (body.size : Int) := by omega
    go_enter Tryd.func7, Tryd.ntmps7
    go_wp2_with fail
    go_ret
    exact ⟨rfl, Below.refl _ _⟩
end Go.Proofs.YtefgpafoajoofaaDoor
