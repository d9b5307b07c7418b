/-
  The walk of HeadCase.
-/
import Derived.Test.YtefgpafoajoofaaDoorHeadEqual
import Derived.Test.YtefgpafoajoofaaDoorHeadBounds
import Derived.Test.YtefgpafoajoofaaDoorHeadOnly
import Derived.Test.YtefgpafoajoofaaDoorHeadParam
import Derived.Test.YtefgpafoajoofaaDoorHeadBackWalk
namespace Go.Proofs.YtefgpafoajoofaaDoor
open Go.RowKit Go.Proofs.Aid Go.Proofs.Hd Go.Proofs.Sq

def GetOk (G : Option Tx) (x : ByteArray) (ok : Bool) : Prop := (ok = true ∧ G = some x.data.toList) ∨ (ok = false ∧ G = none ∧ x = ⟨#[]⟩)
theorem getOk_one {G : Option Tx} {x y : ByteArray} {a b : Bool} (h : GetOk G x a) (k : GetOk G y b) : x = y ∧ a = b := by
  rcases h with ⟨rfl, h⟩ | ⟨rfl, h, rfl⟩ <;> rcases k with ⟨rfl, k⟩ | ⟨rfl, k, rfl⟩
  · rw [h] at k; exact ⟨text_ext (Option.some.inj k), rfl⟩
  · rw [h] at k; cases k
  · rw [h] at k; cases k
  · exact ⟨rfl, rfl⟩
theorem got_is (v : Value) (L : List Fb) (n : ByteArray) (w : World) (h : Fg w v L) (hL : L.length ≤ 100) (hsh : Short L) (hn : n.size ≤ 1000000) :
    Calls Tryd.prog 41 #[v, .string n] w fun e w' => ∃ x ok, GetOk (getF (L.map tx) n.data.toList) x ok ∧ e = .returned (.tuple #[.string x, .bool ok]) ∧ Below w.heap.size w w' := by
  refine (get_is v L n w h hL hsh hn).mono ?_
  rintro e w' ⟨hb, ⟨x, h1, rfl⟩ | ⟨h1, rfl⟩⟩
  · exact ⟨x, true, .inl ⟨rfl, h1⟩, rfl, hb⟩
  · exact ⟨⟨#[]⟩, false, .inr ⟨rfl, h1, rfl⟩, rfl, hb⟩
theorem cell_new (w : World) (vs : Array Value) (t : Nat) (j : Nat) (v : Value) (h : vs[j]? = some v) : (w.alloc (.cells vs t)).cell? ⟨w.heap.size, j, none⟩ = some v := by
  unfold World.cell?
  simp only [World.alloc_heap_new]
  exact h
theorem low_par : Low ⟨#[59, 34, 61, 32, 9]⟩ := ascii_of_all (by decide)
theorem tg_one (w : World) (n : ByteArray) : Tg (w.alloc (.cells #[.string n] 9)) (.slice (some ⟨w.heap.size, 0, none⟩) 1 1) [n] := by
  refine ⟨_, 1, rfl, .inr ⟨w.heap.size, 0, rfl, fun j s hj => ?_⟩⟩
  cases j with
  | zero => simp at hj; subst hj; exact cell_new w _ _ 0 _ rfl
  | succ j => simp at hj
set_option maxHeartbeats 4000000 in
set_option maxRecDepth 100000 in
theorem case_small (s nm val : ByteArray) (m : Int) (w : World) (hs : s.size ≤ 800) (hnm : nm.size ≤ 60) (hvl : val.size ≤ 60) (hm : w.cell? ⟨4, 0, none⟩ = some (.int .i64 m)) :
    Calls Tryd.prog 8 #[.string s, .string nm, .string val] w fun e w' => e = .returned (.bool true) ∧ Below w.heap.size w w' := by
  have K0 : Hid (∀ W, Below w.heap.size w W → W.cell? ⟨4, 0, none⟩ = some (.int .i64 m)) := fun W h => (h.cell (World.block_lt_of_cell? _ _ hm)).trans hm
  have cH := headed_is m w hm
  have i1 : ¬ (800 : Int) < (s.size : Int) := by omega
  have i2 : ¬ (60 : Int) < (nm.size : Int) := by omega
  have i3 : ¬ (60 : Int) < (val.size : Int) := by omega
  clear hm
  go_enter Tryd.func8, Tryd.ntmps8
  go_wp2_with fail
  refine cH.mono ?_
  clear cH
  rintro e w1 ⟨rfl, hb1⟩
  have cF := fields_is s m w1 (by omega) (K0.out w1 hb1)
  have hgood := fieldsOf_good s.data.toList
  have hval := values_short s.data.toList
  obtain ⟨F, hF⟩ : ∃ F, fieldsOf s.data.toList = F := ⟨_, rfl⟩
  rw [hF] at cF hgood hval
  rw [list_size] at hval
  clear hF
  go_wp2_with fail
  refine cF.mono ?_
  clear cF
  rintro e w3 ⟨hb3, ⟨_, v, L, rfl, hfg, hL⟩ | ⟨_, p, rfl, _, _⟩⟩
  · have hb03 := hb1.trans (hb3.mono hb1.size)
    obtain ⟨⟨fe, fp⟩, l⟩ := F
    simp only at hL hgood hval
    have hgv : ∀ f ∈ L.map tx, Hd.Good f ∧ f.2.length ≤ 801 := fun f hf => by
      rw [hL] at hf
      exact ⟨hgood.1 f hf, by have := hval f hf; omega⟩
    have hLl : L.length ≤ 40 := by have := hgood.2; rw [← hL, List.length_map] at this; exact this
    have HSH : Hid (Short L) := short_of (by decide) hgv
    have cG := got_is v L nm w3 hfg (by omega) HSH.out (by omega)
    have HFG : Hid (∀ W, Below w3.heap.size w3 W → Fg W v L) := fun W hW => hfg.below hW (Nat.le_refl _)
    obtain ⟨va, vc, rfl, _⟩ := hfg
    obtain ⟨N, hN⟩ : ∃ N, L.length = N := ⟨_, rfl⟩
    have HN : Hid (L.length = N) := hN
    rw [hN] at HFG cG hLl ⊢
    clear hgood hval hgv hL hN hb1 hb3
    go_wp2_with fail
    refine cG.mono ?_
    clear cG
    rintro e w4 ⟨x, ok, HG', rfl, hb4⟩
    have HG : Hid (GetOk (getF (L.map tx) nm.data.toList) x ok) := HG'
    clear HG'
    go_wp2_with fail
    refine (small_is nm w4 (by omega)).mono ?_
    rintro e w5 ⟨rfl, hb5⟩
    obtain ⟨sm, hsm⟩ : ∃ t : ByteArray, ⟨(small nm.data.toList).toArray⟩ = t := ⟨_, rfl⟩
    rw [hsm]
    have HSM : Hid (sm.data.toList = small nm.data.toList) := by show _ = _; rw [← hsm]
    clear hsm
    go_wp2_with fail
    refine (great_is nm w5 (by omega)).mono ?_
    rintro e w6 ⟨rfl, hb6⟩
    obtain ⟨gr, hgr⟩ : ∃ t : ByteArray, ⟨(great nm.data.toList).toArray⟩ = t := ⟨_, rfl⟩
    rw [hgr]
    have HGR : Hid (gr.data.toList = great nm.data.toList) := by show _ = _; rw [← hgr]
    clear hgr
    have hb36 := (hb4.trans (hb5.mono hb4.size)).trans (hb6.mono (Nat.le_trans hb4.size hb5.size))
    clear hb4 hb5 hb6
    go_wp2_with fail
    have hb06 := hb03.trans (hb36.mono hb03.size)
    obtain ⟨W6, hW6⟩ : ∃ W, w6.alloc (.cells #[.string sm, .string gr] 9) = W := ⟨_, rfl⟩
    have hb6W : Below w6.heap.size w6 W6 := by rw [← hW6]; exact (Below.refl _ w6).alloc (Nat.le_refl _) _
    have hb3W := hb36.trans (hb6W.mono hb36.size)
    have hb0W := hb06.trans (hb6W.mono hb06.size)
    have hz6 : w6.heap.size < W6.heap.size := by rw [← hW6]; simp
    have HC6 : Hid (∀ wr, Below W6.heap.size W6 wr → wr.cell? ⟨w6.heap.size, 0, none⟩ = some (.string sm) ∧ wr.cell? ⟨w6.heap.size, 1, none⟩ = some (.string gr)) := by
      intro wr hwr
      rw [hwr.cell (p := ⟨w6.heap.size, 0, none⟩) hz6, hwr.cell (p := ⟨w6.heap.size, 1, none⟩) hz6, ← hW6]
      exact ⟨cell_new w6 _ _ 0 _ rfl, cell_new w6 _ _ 1 _ rfl⟩
    rw [hW6]
    clear hW6 hb36 hb06 hb6W
    go_loopw [56] (fun i wr => ∃ k : Nat, i = .int .i64 (k : Int) ∧ k ≤ 2 ∧ Below W6.heap.size W6 wr) (fun i _ => 2 - (intOf i).toNat)
    case atStart => exact ⟨0, rfl, by omega, Below.refl _ _⟩
    case round =>
      obtain ⟨k, rfl, hk, hbr⟩ := hrel
      have hb3r := hb3W.trans (hbr.mono hb3W.size)
      have hb0r := hb0W.trans (hbr.mono hb0W.size)
      by_cases hlt : k < 2
      · obtain ⟨n, hcell, hns, HGN, HON⟩ : ∃ n : ByteArray, wr.cell? ⟨w6.heap.size, k, none⟩ = some (.string n) ∧ n.size ≤ 1000000 ∧ Hid (getF (L.map tx) n.data.toList = getF (L.map tx) nm.data.toList) ∧ Hid (onlyF (L.map tx) [n.data.toList] = onlyF (L.map tx) [nm.data.toList]) := by
          have h6 := HC6.out wr hbr
          obtain rfl | rfl : k = 0 ∨ k = 1 := by omega
          · exact ⟨sm, h6.1, by rw [← list_size, HSM.out, small, List.length_map, list_size]; omega, by show _ = _; rw [HSM.out, getF_small], by show _ = _; rw [HSM.out, onlyF_small]⟩
          · exact ⟨gr, h6.2, by rw [← list_size, HGR.out, great, List.length_map, list_size]; omega, by show _ = _; rw [HGR.out, getF_great], by show _ = _; rw [HGR.out, onlyF_great]⟩
        have cG := got_is (.slice va N vc) L n wr (HFG.out wr hb3r) (by have := HN.out; omega) HSH.out hns
        go_wp2_with fail
        refine cG.mono ?_
        clear cG
        rintro e w7 ⟨x', ok', hg', rfl, hb7⟩
        rw [HGN.out] at hg'
        obtain ⟨rfl, rfl⟩ := getOk_one hg' HG.out
        clear hg'
        have hbr7 := hbr.trans (hb7.mono hbr.size)
        have hb37 := hb3W.trans (hbr7.mono hb3W.size)
        have hba : Below w7.heap.size w7 (w7.alloc (.cells #[.string n] 9)) := (Below.refl _ w7).alloc (Nat.le_refl _) _
        have hb3a := hb37.trans (hba.mono hb37.size)
        have cO := only_is (.slice va N vc) (.slice (some ⟨w7.heap.size, 0, none⟩) 1 1) L [n] _ (HFG.out _ hb3a) (tg_one w7 n) (by have := HN.out; omega) HSH.out (by simp) (by simpa using hns)
        go_wp2_with fail
        refine cO.mono ?_
        clear cO
        rintro e w8 ⟨⟨u, O, rfl, hfO, hO1⟩, hb8⟩
        obtain ⟨ua, uc, rfl, _⟩ := hfO
        have hb38 := hb3a.trans (hb8.mono hb3a.size)
        have hbr8 := (hbr7.trans (hba.mono hbr7.size)).trans (hb8.mono (hbr7.trans (hba.mono hbr7.size)).size)
        have hba8 : Below w8.heap.size w8 (w8.alloc (.cells #[.string nm] 9)) := (Below.refl _ w8).alloc (Nat.le_refl _) _
        have hb3b := hb38.trans (hba8.mono hb38.size)
        have cO := only_is (.slice va N vc) (.slice (some ⟨w8.heap.size, 0, none⟩) 1 1) L [nm] _ (HFG.out _ hb3b) (tg_one w8 nm) (by have := HN.out; omega) HSH.out (by simp) (by simp; omega)
        obtain ⟨q, hq⟩ : ∃ q, O.length = q := ⟨_, rfl⟩
        have HQ : Hid (∀ O' : List Fb, O'.map tx = onlyF (L.map tx) [nm.data.toList] → O'.length = q) := by
          intro O' h
          have h1 := congrArg List.length h
          have h2 := congrArg List.length hO1
          rw [List.length_map] at h1 h2
          rw [h1, ← hq, h2, ← HON.out]
          rfl
        rw [hq]
        clear hO1 hq hb7 hb8
        go_wp2_with fail
        refine cO.mono ?_
        clear cO
        rintro e w9 ⟨⟨u, O', rfl, hfO', hO2⟩, hb9⟩
        obtain ⟨ub, ud, rfl, _⟩ := hfO'
        have hq' := HQ.out O' hO2
        rw [hq']
        have hbr9 := (hbr8.trans (hba8.mono hbr8.size)).trans (hb9.mono (hbr8.trans (hba8.mono hbr8.size)).size)
        clear hO2 hq' hb9
        go_wp2_with fail
        go_roundw
        case rel => exact ⟨k + 1, by go_num, by omega, hbr9⟩
        case measure => simp [intOf]; omega
      · obtain rfl : k = 2 := by omega
        have hba : Below wr.heap.size wr (wr.alloc (.cells #[.string nm] 9)) := (Below.refl _ wr).alloc (Nat.le_refl _) _
        have hb3a := hb3r.trans (hba.mono hb3r.size)
        have hb0a := hb0r.trans (hba.mono hb0r.size)
        have cO := only_is (.slice va N vc) (.slice (some ⟨wr.heap.size, 0, none⟩) 1 1) L [nm] _ (HFG.out _ hb3a) (tg_one wr nm) (by have := HN.out; omega) HSH.out (by simp) (by simp; omega)
        go_wp2_with fail
        refine cO.mono ?_
        clear cO
        rintro e w7 ⟨⟨u, O, rfl, hfO, hO1⟩, hb7⟩
        have hb07 := hb0a.trans (hb7.mono hb0a.size)
        have hgo : getF (L.map tx) nm.data.toList = (O.map tx).head?.map (·.2) := by rw [hO1]; exact getF_only _ _
        rcases HG.out with ⟨rfl, hg⟩ | ⟨rfl, hg, rfl⟩
        · rw [hg] at hgo
          cases O with
          | nil => simp at hgo
          | cons f r =>
          obtain rfl : f.2 = x := text_ext (by simpa [tx] using hgo.symm)
          obtain ⟨ua, uc, rfl, hd⟩ := hfO
          rcases hd with h0 | ⟨b, o, rfl, hat⟩
          · cases h0
          have c1 := (hat 0 f rfl).2
          rw [show o + 0 * 2 + 1 = o + 1 by omega] at c1
          rw [List.length_cons]
          obtain ⟨q, hq⟩ : ∃ q, r.length = q := ⟨_, rfl⟩
          rw [hq]
          clear hg hgo hat hO1 hq hb7 HFG
          go_wp2_with fail
          have eG : (⟨(great nm.data.toList).toArray⟩ : ByteArray) = gr := text_ext HGR.out.symm
          have eS : (⟨(small nm.data.toList).toArray⟩ : ByteArray) = sm := text_ext HSM.out.symm
          have eSG : (⟨(small gr.data.toList).toArray⟩ : ByteArray) = sm := text_ext (by show small gr.data.toList = _; rw [HGR.out, small_great, HSM.out])
          have eGS : (⟨(great sm.data.toList).toArray⟩ : ByteArray) = gr := text_ext (by show great sm.data.toList = _; rw [HSM.out, great_small, HGR.out])
          have hgz : gr.size ≤ 1000000 := by rw [← list_size, HGR.out, great, List.length_map, list_size]; omega
          have hsz : sm.size ≤ 1000000 := by rw [← list_size, HSM.out, small, List.length_map, list_size]; omega
          have hnz : nm.size ≤ 1000000 := by omega
          have c := great_is nm w7 hnz
          rw [eG] at c
          refine c.mono ?_
          rintro e w8 ⟨rfl, hb8⟩
          replace hb8 := hb07.trans (hb8.mono hb07.size)
          clear hb07 c
          have c := small_is gr w8 hgz
          rw [eSG] at c
          go_wp2_with fail
          refine c.mono ?_
          rintro e w9 ⟨rfl, hb9⟩
          replace hb9 := hb8.trans (hb9.mono hb8.size)
          clear hb8 c
          have c := small_is nm w9 hnz
          rw [eS] at c
          go_wp2_with fail
          refine c.mono ?_
          rintro e w10 ⟨rfl, hb10⟩
          replace hb10 := hb9.trans (hb10.mono hb9.size)
          clear hb9 c
          have c := small_is nm w10 hnz
          rw [eS] at c
          go_wp2_with fail
          refine c.mono ?_
          rintro e w11 ⟨rfl, hb11⟩
          replace hb11 := hb10.trans (hb11.mono hb10.size)
          clear hb10 c
          have c := great_is sm w11 hsz
          rw [eGS] at c
          go_wp2_with fail
          refine c.mono ?_
          rintro e w12 ⟨rfl, hb12⟩
          replace hb12 := hb11.trans (hb12.mono hb11.size)
          clear hb11 c
          have c := great_is nm w12 hnz
          rw [eG] at c
          go_wp2_with fail
          refine c.mono ?_
          rintro e w13 ⟨rfl, hb13⟩
          replace hb13 := hb12.trans (hb13.mono hb12.size)
          clear hb12 c
          have c := any_is val ⟨#[59, 34, 61, 32, 9]⟩ w13 (by decide) low_par (by decide) (by omega)
          rw [show (⟨#[59, 34, 61, 32, 9]⟩ : ByteArray).data.toList = [59, 34, 61, 32, 9] from rfl] at c
          obtain ⟨B, hB⟩ : ∃ B, (val.data.toList.any fun c => ([59, 34, 61, 32, 9] : Tx).contains c) = B := ⟨_, rfl⟩
          rw [hB] at c
          have HB : Hid ((val.data.toList.any fun c => ([59, 34, 61, 32, 9] : Tx).contains c) = B) := hB
          clear hB
          go_wp2_with fail
          refine c.mono ?_
          rintro e w14 ⟨rfl, hb14⟩
          replace hb14 := hb13.trans (hb14.mono hb13.size)
          clear hb13 c
          cases B
          · by_cases hv0 : val.data.toList = []
            · obtain rfl : val = ⟨#[]⟩ := text_ext hv0
              go_wp2_with fail
              go_ret
              exact ⟨rfl, hb14⟩
            · have hv1 : ¬ val.toList = [] := by rw [Lib.toList_data]; exact hv0
              have hv2 : val.toList.isEmpty = false := by rw [Lib.toList_data]; cases h : val.data.toList with
                | nil => exact absurd h hv0
                | cons c r => rfl
              have HV : Hid (∀ c ∈ val.data.toList, ([59, 34, 61, 32, 9] : Tx).contains c = false) := by
                intro c hc
                have := HB.out
                rw [List.any_eq_false] at this
                simpa using this c hc
              clear hv0
              obtain ⟨T1, hT1⟩ : ∃ T : ByteArray, (⟨#[120, 59, 32, 121, 61, 122, 59, 32, 80, 32, 61, 32]⟩ : ByteArray) ++ val ++ (⟨#[32, 59, 113]⟩ : ByteArray) = T := ⟨_, rfl⟩
              obtain ⟨T2, hT2⟩ : ∃ T : ByteArray, (⟨#[120, 59, 32, 112, 61, 34]⟩ : ByteArray) ++ val ++ (⟨#[34]⟩ : ByteArray) = T := ⟨_, rfl⟩
              obtain ⟨T3, hT3⟩ : ∃ T : ByteArray, (⟨#[112, 61]⟩ : ByteArray) ++ val = T := ⟨_, rfl⟩
              have l1 : T1.data.toList = [120, 59, 32, 121, 61, 122, 59, 32, 80, 32, 61, 32] ++ val.data.toList ++ [32, 59, 113] := by rw [← hT1, cat_list, cat_list]
              have l2 : T2.data.toList = [120, 59, 32, 112, 61, 34] ++ val.data.toList ++ [34] := by rw [← hT2, cat_list, cat_list]
              have l3 : T3.data.toList = [112, 61] ++ val.data.toList := by rw [← hT3, cat_list]
              have z1 : T1.size ≤ 1000000 := by rw [← list_size, l1]; simp; omega
              have z2 : T2.size ≤ 1000000 := by rw [← list_size, l2]; simp; omega
              have z3 : T3.size ≤ 1000000 := by rw [← list_size, l3]; simp; omega
              have P1 : Hid (paramOf T1.data.toList (⟨#[112]⟩ : ByteArray).data.toList = some val.data.toList) := by show _ = _; rw [l1]; exact param_among HV.out
              have P2 : Hid (paramOf T2.data.toList (⟨#[80]⟩ : ByteArray).data.toList = some val.data.toList) := by show _ = _; rw [l2]; exact param_quoted HV.out
              have P3 : Hid (paramOf T3.data.toList (⟨#[112]⟩ : ByteArray).data.toList = none) := by show _ = _; rw [l3]; exact param_first HV.out
              clear l1 l2 l3
              have c := param_is T1 ⟨#[112]⟩ m w14 z1 (by decide) (K0.out w14 hb14)
              rw [P1.out] at c
              go_wp2_with fail
              refine c.mono ?_
              rintro e w15 ⟨hb15, ⟨h, _⟩ | ⟨r, hr, rfl⟩⟩
              · cases h
              obtain rfl : r = val := (text_ext (Option.some.inj hr)).symm
              replace hb15 := hb14.trans (hb15.mono hb14.size)
              clear hb14 c hr
              have c := param_is T2 ⟨#[80]⟩ m w15 z2 (by decide) (K0.out w15 hb15)
              rw [P2.out] at c
              go_wp2_with fail
              refine c.mono ?_
              rintro e w16 ⟨hb16, ⟨h, _⟩ | ⟨r2, hr, rfl⟩⟩
              · cases h
              obtain rfl : r2 = r := (text_ext (Option.some.inj hr)).symm
              replace hb16 := hb15.trans (hb16.mono hb15.size)
              clear hb15 c hr
              have c := param_is T3 ⟨#[112]⟩ m w16 z3 (by decide) (K0.out w16 hb16)
              rw [P3.out] at c
              go_wp2_with fail
              refine c.mono ?_
              rintro e w17 ⟨hb17, ⟨_, rfl⟩ | ⟨r3, hr, _⟩⟩
              · replace hb17 := hb16.trans (hb17.mono hb16.size)
                clear hb16 c
                go_wp2_with fail
                go_ret
                exact ⟨rfl, hb17⟩
              · cases hr
          · go_wp2_with fail
            go_ret
            exact ⟨rfl, hb14⟩
        · rw [hg] at hgo
          cases O with
          | cons f r => simp at hgo
          | nil =>
          obtain ⟨ua, uc, rfl, hd⟩ := hfO
          rw [List.length_nil]
          clear hg hgo hd hO1 hb7 HFG
          go_wp2_with fail
          have eG : (⟨(great nm.data.toList).toArray⟩ : ByteArray) = gr := text_ext HGR.out.symm
          have eS : (⟨(small nm.data.toList).toArray⟩ : ByteArray) = sm := text_ext HSM.out.symm
          have eSG : (⟨(small gr.data.toList).toArray⟩ : ByteArray) = sm := text_ext (by show small gr.data.toList = _; rw [HGR.out, small_great, HSM.out])
          have eGS : (⟨(great sm.data.toList).toArray⟩ : ByteArray) = gr := text_ext (by show great sm.data.toList = _; rw [HSM.out, great_small, HGR.out])
          have hgz : gr.size ≤ 1000000 := by rw [← list_size, HGR.out, great, List.length_map, list_size]; omega
          have hsz : sm.size ≤ 1000000 := by rw [← list_size, HSM.out, small, List.length_map, list_size]; omega
          have hnz : nm.size ≤ 1000000 := by omega
          have c := great_is nm w7 hnz
          rw [eG] at c
          refine c.mono ?_
          rintro e w8 ⟨rfl, hb8⟩
          replace hb8 := hb07.trans (hb8.mono hb07.size)
          clear hb07 c
          have c := small_is gr w8 hgz
          rw [eSG] at c
          go_wp2_with fail
          refine c.mono ?_
          rintro e w9 ⟨rfl, hb9⟩
          replace hb9 := hb8.trans (hb9.mono hb8.size)
          clear hb8 c
          have c := small_is nm w9 hnz
          rw [eS] at c
          go_wp2_with fail
          refine c.mono ?_
          rintro e w10 ⟨rfl, hb10⟩
          replace hb10 := hb9.trans (hb10.mono hb9.size)
          clear hb9 c
          have c := small_is nm w10 hnz
          rw [eS] at c
          go_wp2_with fail
          refine c.mono ?_
          rintro e w11 ⟨rfl, hb11⟩
          replace hb11 := hb10.trans (hb11.mono hb10.size)
          clear hb10 c
          have c := great_is sm w11 hsz
          rw [eGS] at c
          go_wp2_with fail
          refine c.mono ?_
          rintro e w12 ⟨rfl, hb12⟩
          replace hb12 := hb11.trans (hb12.mono hb11.size)
          clear hb11 c
          have c := great_is nm w12 hnz
          rw [eG] at c
          go_wp2_with fail
          refine c.mono ?_
          rintro e w13 ⟨rfl, hb13⟩
          replace hb13 := hb12.trans (hb13.mono hb12.size)
          clear hb12 c
          have c := any_is val ⟨#[59, 34, 61, 32, 9]⟩ w13 (by decide) low_par (by decide) (by omega)
          rw [show (⟨#[59, 34, 61, 32, 9]⟩ : ByteArray).data.toList = [59, 34, 61, 32, 9] from rfl] at c
          obtain ⟨B, hB⟩ : ∃ B, (val.data.toList.any fun c => ([59, 34, 61, 32, 9] : Tx).contains c) = B := ⟨_, rfl⟩
          rw [hB] at c
          have HB : Hid ((val.data.toList.any fun c => ([59, 34, 61, 32, 9] : Tx).contains c) = B) := hB
          clear hB
          go_wp2_with fail
          refine c.mono ?_
          rintro e w14 ⟨rfl, hb14⟩
          replace hb14 := hb13.trans (hb14.mono hb13.size)
          clear hb13 c
          cases B
          · by_cases hv0 : val.data.toList = []
            · obtain rfl : val = ⟨#[]⟩ := text_ext hv0
              go_wp2_with fail
              go_ret
              exact ⟨rfl, hb14⟩
            · have hv1 : ¬ val.toList = [] := by rw [Lib.toList_data]; exact hv0
              have hv2 : val.toList.isEmpty = false := by rw [Lib.toList_data]; cases h : val.data.toList with
                | nil => exact absurd h hv0
                | cons c r => rfl
              have HV : Hid (∀ c ∈ val.data.toList, ([59, 34, 61, 32, 9] : Tx).contains c = false) := by
                intro c hc
                have := HB.out
                rw [List.any_eq_false] at this
                simpa using this c hc
              clear hv0
              obtain ⟨T1, hT1⟩ : ∃ T : ByteArray, (⟨#[120, 59, 32, 121, 61, 122, 59, 32, 80, 32, 61, 32]⟩ : ByteArray) ++ val ++ (⟨#[32, 59, 113]⟩ : ByteArray) = T := ⟨_, rfl⟩
              obtain ⟨T2, hT2⟩ : ∃ T : ByteArray, (⟨#[120, 59, 32, 112, 61, 34]⟩ : ByteArray) ++ val ++ (⟨#[34]⟩ : ByteArray) = T := ⟨_, rfl⟩
              obtain ⟨T3, hT3⟩ : ∃ T : ByteArray, (⟨#[112, 61]⟩ : ByteArray) ++ val = T := ⟨_, rfl⟩
              have l1 : T1.data.toList = [120, 59, 32, 121, 61, 122, 59, 32, 80, 32, 61, 32] ++ val.data.toList ++ [32, 59, 113] := by rw [← hT1, cat_list, cat_list]
              have l2 : T2.data.toList = [120, 59, 32, 112, 61, 34] ++ val.data.toList ++ [34] := by rw [← hT2, cat_list, cat_list]
              have l3 : T3.data.toList = [112, 61] ++ val.data.toList := by rw [← hT3, cat_list]
              have z1 : T1.size ≤ 1000000 := by rw [← list_size, l1]; simp; omega
              have z2 : T2.size ≤ 1000000 := by rw [← list_size, l2]; simp; omega
              have z3 : T3.size ≤ 1000000 := by rw [← list_size, l3]; simp; omega
              have P1 : Hid (paramOf T1.data.toList (⟨#[112]⟩ : ByteArray).data.toList = some val.data.toList) := by show _ = _; rw [l1]; exact param_among HV.out
              have P2 : Hid (paramOf T2.data.toList (⟨#[80]⟩ : ByteArray).data.toList = some val.data.toList) := by show _ = _; rw [l2]; exact param_quoted HV.out
              have P3 : Hid (paramOf T3.data.toList (⟨#[112]⟩ : ByteArray).data.toList = none) := by show _ = _; rw [l3]; exact param_first HV.out
              clear l1 l2 l3
              have c := param_is T1 ⟨#[112]⟩ m w14 z1 (by decide) (K0.out w14 hb14)
              rw [P1.out] at c
              go_wp2_with fail
              refine c.mono ?_
              rintro e w15 ⟨hb15, ⟨h, _⟩ | ⟨r, hr, rfl⟩⟩
              · cases h
              obtain rfl : r = val := (text_ext (Option.some.inj hr)).symm
              replace hb15 := hb14.trans (hb15.mono hb14.size)
              clear hb14 c hr
              have c := param_is T2 ⟨#[80]⟩ m w15 z2 (by decide) (K0.out w15 hb15)
              rw [P2.out] at c
              go_wp2_with fail
              refine c.mono ?_
              rintro e w16 ⟨hb16, ⟨h, _⟩ | ⟨r2, hr, rfl⟩⟩
              · cases h
              obtain rfl : r2 = r := (text_ext (Option.some.inj hr)).symm
              replace hb16 := hb15.trans (hb16.mono hb15.size)
              clear hb15 c hr
              have c := param_is T3 ⟨#[112]⟩ m w16 z3 (by decide) (K0.out w16 hb16)
              rw [P3.out] at c
              go_wp2_with fail
              refine c.mono ?_
              rintro e w17 ⟨hb17, ⟨_, rfl⟩ | ⟨r3, hr, _⟩⟩
              · replace hb17 := hb16.trans (hb17.mono hb16.size)
                clear hb16 c
                go_wp2_with fail
                go_ret
                exact ⟨rfl, hb17⟩
              · cases hr
          · go_wp2_with fail
            go_ret
            exact ⟨rfl, hb14⟩
  · have hb03 := hb1.trans (hb3.mono hb1.size)
    go_wp2_with fail
    go_ret
    exact ⟨rfl, hb03⟩
set_option maxHeartbeats 2000000 in
set_option maxRecDepth 100000 in
theorem case_big (s nm val : ByteArray) (w : World) (h : 800 < s.size ∨ 60 < nm.size ∨ 60 < val.size) :
    Calls Tryd.prog 8 #[.string s, .string nm, .string val] w fun e w' => e = .returned (.bool true) ∧ Below w.heap.size w w' := by
  by_cases h1 : 800 < s.size
  · have i1 : (800 : Int) < (s.size : Int) := by omega
    go_enter Tryd.func8, Tryd.ntmps8
    go_wp2_with fail
    go_ret
    exact ⟨rfl, Below.refl _ _⟩
  · have i1 : ¬ (800 : Int) < (s.size : Int) := by omega
    by_cases h2 : 60 < nm.size
    · have i2 : (60 : Int) < (nm.size : Int) := by omega
      go_enter Tryd.func8, Tryd.ntmps8
      go_wp2_with fail
      go_ret
      exact ⟨rfl, Below.refl _ _⟩
    · have i2 : ¬ (60 : Int) < (nm.size : Int) := by omega
      have i3 : (60 : Int) < (val.size : Int) := by omega
      go_enter Tryd.func8, Tryd.ntmps8
      go_wp2_with fail
      go_ret
      exact ⟨rfl, Below.refl _ _⟩
end Go.Proofs.YtefgpafoajoofaaDoor
