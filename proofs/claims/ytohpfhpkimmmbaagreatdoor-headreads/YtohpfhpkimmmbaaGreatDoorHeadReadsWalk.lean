/-
  The walk of HeadReads.
-/
import Derived.Test.YtohpfhpkimmmbaaGreatDoorHeadAns
import Derived.Test.YtohpfhpkimmmbaaGreatDoorHeadGet
import Derived.Test.YtohpfhpkimmmbaaGreatDoorHeadPrint
import Derived.Test.YtohpfhpkimmmbaaGreatDoorHeadBounds
import Derived.Test.YtohpfhpkimmmbaaGreatDoorHeadOnly
import Derived.Test.YtohpfhpkimmmbaaGreatDoorHeadParam
import Derived.Test.YtohpfhpkimmmbaaGreatDoorRefGet
import Derived.Test.YtohpfhpkimmmbaaGreatDoorRefHead
import Derived.Test.YtohpfhpkimmmbaaGreatDoorRefOnly
import Derived.Test.YtohpfhpkimmmbaaGreatDoorRefParam
import Derived.Test.YtohpfhpkimmmbaaGreatDoorRefSplit
import Derived.Test.YtohpfhpkimmmbaaGreatDoorSameFields
import Derived.Test.YtohpfhpkimmmbaaGreatDoorAsAt
import Derived.Test.YtohpfhpkimmmbaaGreatDoorRefFields
namespace Go.Proofs.YtohpfhpkimmmbaaGreatDoor
open Go.RowKit Go.Proofs.Aid Go.Proofs.Hd Go.Proofs.Sq

theorem is_ok (u : Value) (F : (Int × Nat) × List Hd.Fd) (w : World) (h : AtErr w u F) (hg : ErrType w) : Calls Tryz.prog 37 #[u, .agg #[.int .i64 F.1.1, .int .i64 (faultAt F)]] w fun ev w' => ev = .returned (.bool true) ∧ Below w.heap.size w w' := by
  rcases h with ⟨h0, rfl⟩ | ⟨h0, p, rfl, h1, h2⟩
  · have := is_nil F.1.1 (faultAt F) w
    unfold faultAt at this ⊢
    rw [if_pos h0, h0] at this
    rw [if_pos h0, h0]
    exact this
  · have := is_at p F.1.1 (F.1.2 : Int) F.1.1 (faultAt F) w h1 h2 hg
    unfold faultAt at this ⊢
    rw [if_neg h0] at this ⊢
    simpa using this
theorem dget_is (v : Value) (L : List Fb) (n : ByteArray) (w : World) (h : Fg w v L) (hL : L.length ≤ 100) (hsh : Short L) (hn : n.size ≤ 1000000) :
    Calls Tryz.prog 39 #[v, .string n] w fun e w' => ∃ x ok, RGot (getF (L.map tx) n.data.toList) x ok ∧ e = .returned (.tuple #[.string x, .bool ok]) ∧ Below w.heap.size w w' := by
  refine (rget_is v L n w h hL hsh hn).mono ?_
  rintro e w' ⟨hb, ⟨x, h1, rfl⟩ | ⟨h1, rfl⟩⟩
  · exact ⟨x, true, .inl ⟨rfl, h1⟩, rfl, hb⟩
  · exact ⟨⟨#[]⟩, false, .inr ⟨rfl, h1, rfl⟩, rfl, hb⟩
theorem dparam_is (s nm : ByteArray) (m : Int) (w : World) (hs : s.size ≤ 1000000) (hnm : nm.size ≤ 1000000) (hm : w.cell? ⟨2, 0, none⟩ = some (.int .i64 m)) :
    Calls Tryz.prog 45 #[.string s, .string nm] w fun e w' => ∃ x ok, RGot (paramOf s.data.toList nm.data.toList) x ok ∧ e = .returned (.tuple #[.string x, .bool ok]) ∧ Below w.heap.size w w' := by
  refine (rparam_is s nm m w hs hnm hm).mono ?_
  rintro e w' ⟨hb, ⟨h1, rfl⟩ | ⟨x, h1, rfl⟩⟩
  · exact ⟨⟨#[]⟩, false, .inr ⟨rfl, h1, rfl⟩, rfl, hb⟩
  · exact ⟨x, true, .inl ⟨rfl, h1⟩, rfl, hb⟩
set_option maxHeartbeats 4000000 in
set_option maxRecDepth 100000 in
theorem reads_small (s nm val : ByteArray) (m : Int) (w : World) (hs : s.size ≤ 1500) (hnm : nm.size ≤ 100) (hvl : val.size ≤ 300) (hm : w.cell? ⟨2, 0, none⟩ = some (.int .i64 m)) (he : ErrType w)
    (hf0 : w.cell? ⟨0, 0, none⟩ = some (.int .i64 0)) (hf1 : w.cell? ⟨0, 1, none⟩ = some (.int .i64 (-1))) :
    Calls Tryz.prog 5 #[.string s, .string nm, .string val] w fun e w' => e = .returned (.bool true) ∧ Below w.heap.size w w' := by
  have K0 : Hid (∀ W, Below w.heap.size w W → W.cell? ⟨2, 0, none⟩ = some (.int .i64 m) ∧ ErrType W ∧ W.cell? ⟨0, 0, none⟩ = some (.int .i64 0) ∧ W.cell? ⟨0, 1, none⟩ = some (.int .i64 (-1))) := fun W h =>
    ⟨(h.cell (World.block_lt_of_cell? _ _ hm)).trans hm, he.below h, (h.cell (World.block_lt_of_cell? _ _ hf0)).trans hf0, (h.cell (World.block_lt_of_cell? _ _ hf1)).trans hf1⟩
  have i1 : ¬ (1500 : Int) < (s.size : Int) := by omega
  have i2 : ¬ (100 : Int) < (nm.size : Int) := by omega
  have i3 : ¬ (300 : Int) < (val.size : Int) := by omega
  have cS := fun W hW => rsplit_is s m W (by omega) hW
  have cT := fun W hW => split_is s m W (by omega) hW
  obtain ⟨hd, hhd⟩ : ∃ h : ByteArray, ⟨(headOf s.data.toList).toArray⟩ = h := ⟨_, rfl⟩
  obtain ⟨bd, hbd⟩ : ∃ h : ByteArray, ⟨(bodyOf s.data.toList).toArray⟩ = h := ⟨_, rfl⟩
  rw [hhd, hbd] at cS cT
  have hgood := fieldsOf_good s.data.toList
  have hval := values_short s.data.toList
  have cF := fun W h1 h2 h3 => rfields_is s m W (by omega) h1 h2 h3
  have cG := fun W h1 => pfields_is s m W (by omega) h1
  have cI := fun u W h1 h2 => is_ok u (fieldsOf s.data.toList) W h1 h2
  obtain ⟨F, hF⟩ : ∃ F, fieldsOf s.data.toList = F := ⟨_, rfl⟩
  rw [hF] at hgood hval cF cG cI
  rw [list_size] at hval
  have HGV : Hid (∀ L : List Fb, L.map tx = F.2 → Short L ∧ L.length ≤ 40) := by
    intro L hL
    refine ⟨reads_short (V := 2000) (by decide) fun f hf => ?_, ?_⟩
    · rw [hL] at hf
      exact ⟨hgood.1 f hf, by have := hval f hf; omega⟩
    · have := hgood.2; rw [← hL, List.length_map] at this; exact this
  obtain ⟨⟨fc, fp⟩, fl⟩ := F
  obtain ⟨pl, hpl⟩ : ∃ z, faultAt ((fc, fp), fl) = z := ⟨_, rfl⟩
  have HPL : Hid (faultAt ((fc, fp), fl) = pl) := hpl
  clear hgood hval hF hhd hbd hm he hf0 hf1
  go_enter Tryz.func5, Tryz.ntmps5
  go_wp2_with fail
  refine (cS _ (K0.out w (Below.refl _ _)).1).mono ?_
  clear cS
  rintro e w1 ⟨rfl, hb1⟩
  go_wp2_with fail
  refine (cT _ (K0.out w1 hb1).1).mono ?_
  clear cT
  rintro e w2 ⟨rfl, hb2⟩
  have hb02 := hb1.trans (hb2.mono hb1.size)
  clear hb1 hb2
  have k2 := K0.out w2 hb02
  have cF2 := cF w2 k2.1 k2.2.2.1 k2.2.2.2
  clear cF k2
  go_wp2_with fail
  refine cF2.mono ?_
  clear cF2
  rintro e w3 ⟨hb3, v3, L, rfl, hfg3, hL⟩
  rw [HPL.out]
  try simp only
  have hb03 := hb02.trans (hb3.mono hb02.size)
  clear hb02 hb3
  have hLL := HGV.out L hL
  have hb4 : Below w3.heap.size w3 (w3.alloc (.cells #[.int .i64 fc, .int .i64 pl] 59)) := (Below.refl _ _).alloc (Nat.le_refl _) _
  have hb04 := hb03.trans (hb4.mono hb03.size)
  have hlt4 : w3.heap.size < (w3.alloc (.cells #[.int .i64 fc, .int .i64 pl] 59)).heap.size := by simp
  have d0 := cell_two w3 #[.int .i64 fc, .int .i64 pl] 59 0 _ rfl
  have d1 := cell_two w3 #[.int .i64 fc, .int .i64 pl] 59 1 _ rfl
  have cG4 := cG _ (K0.out _ hb04).1
  clear cG
  obtain ⟨W4, hW4⟩ : ∃ W, w3.alloc (.cells #[.int .i64 fc, .int .i64 pl] 59) = W := ⟨_, rfl⟩
  rw [hW4] at hb4 hb04 hlt4 d0 d1 cG4
  have hfg4 := hfg3.below hb4 (Nat.le_refl _)
  obtain ⟨a3, c3, rfl, _⟩ := hfg3
  clear hb03 hb4
  have HSH : Hid (Short L) := hLL.1
  have hLl := hLL.2
  obtain ⟨N, hN⟩ : ∃ N, L.length = N := ⟨_, rfl⟩
  have HN : Hid (L.length = N) := hN
  rw [hN] at hfg4 hLl ⊢
  clear hLL hN
  go_wp2_with fail
  refine cG4.mono ?_
  clear cG4 hW4
  rintro e w5 ⟨⟨v5, u5, L', rfl, hfg5, hL', hae⟩, hb5⟩
  obtain rfl : L' = L := txs_inj (hL'.trans hL.symm)
  have hb05 := hb04.trans (hb5.mono hb04.size)
  have hfg45 := hfg4.below hb5 (Nat.le_refl _)
  have e0 := (hb5.cell (p := ⟨w3.heap.size, 0, none⟩) hlt4).trans d0
  have e1 := (hb5.cell (p := ⟨w3.heap.size, 1, none⟩) hlt4).trans d1
  have cI5 := cI u5 w5 hae (K0.out w5 hb05).2.1
  rw [HPL.out] at cI5
  try simp only at cI5
  clear cI hae hL' hb5 hb04 hlt4 d0 d1 hfg4
  go_wp2_with fail
  refine cI5.mono ?_
  clear cI5
  rintro e w6 ⟨rfl, hb6⟩
  have hb06 := hb05.trans (hb6.mono hb05.size)
  have g6 := hfg45.below hb6 (Nat.le_refl _)
  have h6 := hfg5.below hb6 (Nat.le_refl _)
  have cM := same_fields v5 (.slice a3 N c3) L' w6 h6 g6 (by have := HN.out; omega)
  obtain ⟨a5, c5, rfl, _⟩ := hfg5
  rw [HN.out] at h6 cM ⊢
  have HFG : Hid (∀ W, Below w6.heap.size w6 W → Fg W (.slice a3 N c3) L' ∧ Fg W (.slice a5 N c5) L') := fun W hW => ⟨g6.below hW (Nat.le_refl _), h6.below hW (Nat.le_refl _)⟩
  clear hb6 hb05 hfg45 g6 h6 e0 e1
  go_wp2_with fail
  refine cM.mono ?_
  clear cM
  rintro e w7 ⟨rfl, hb7⟩
  have cA := dget_is (.slice a3 N c3) L' nm w7 (HFG.out w7 hb7).1 (by have := HN.out; omega) HSH.out (by omega)
  go_wp2_with fail
  refine cA.mono ?_
  clear cA
  rintro e w8 ⟨x, ok, hg', rfl, hb8⟩
  have HG : Hid (RGot (getF (L'.map tx) nm.data.toList) x ok) := hg'
  clear hg'
  have hb68 := hb7.trans (hb8.mono hb7.size)
  have cA := pget_is (.slice a5 N c5) L' nm w8 (HFG.out w8 hb68).2 (by have := HN.out; omega) HSH.out (by omega)
  clear hb7 hb8
  go_wp2_with fail
  refine cA.mono ?_
  clear cA
  rintro e w9 ⟨x', ok', hg', rfl, hb9⟩
  obtain ⟨rfl, rfl⟩ := rgot_one hg' HG.out
  clear hg' HG
  have hb69 := hb68.trans (hb9.mono hb68.size)
  clear hb68 hb9
  have hq1 : (ok' != ok') = false := by simp
  have hba : Below w9.heap.size w9 (w9.alloc (.cells #[.string nm, .string ⟨#[116, 111]⟩] 9)) := (Below.refl _ w9).alloc (Nat.le_refl _) _
  have hb6a := hb69.trans (hba.mono hb69.size)
  have cO := only_is (.slice a5 N c5) (.slice (some ⟨w9.heap.size, 0, none⟩) 2 2) L' [nm, ⟨#[116, 111]⟩] _ (HFG.out _ hb6a).2 (tg_two w9 nm ⟨#[116, 111]⟩) (by have := HN.out; omega) HSH.out (by simp) (by
    intro y hy
    simp at hy
    rcases hy with rfl | rfl
    · omega
    · decide)
  go_wp2_with fail
  refine cO.mono ?_
  clear cO
  rintro e w10 ⟨⟨u10, O, rfl, hfO, hO⟩, hb10⟩
  have hb610 := hb6a.trans (hb10.mono hb6a.size)
  clear hb6a hb10 hba
  have hba : Below w10.heap.size w10 (w10.alloc (.cells #[.string nm, .string ⟨#[116, 111]⟩] 9)) := (Below.refl _ w10).alloc (Nat.le_refl _) _
  have hb6a := hb610.trans (hba.mono hb610.size)
  have cO := ronly_is (.slice a3 N c3) (.slice (some ⟨w10.heap.size, 0, none⟩) 2 2) L' [nm, ⟨#[116, 111]⟩] _ (HFG.out _ hb6a).1 (tg_two w10 nm ⟨#[116, 111]⟩) (by have := HN.out; omega) HSH.out (by simp) (by
    intro y hy
    simp at hy
    rcases hy with rfl | rfl
    · omega
    · decide)
  have hfO' := hfO.below hba (Nat.le_refl _)
  have HOL : Hid (O.length ≤ 1000) := by
    have h1 := congrArg List.length hO
    rw [List.length_map] at h1
    show O.length ≤ 1000
    rw [h1]
    unfold onlyF
    have h2 := List.length_filter_le (fun f : Hd.Fd => (([nm, (⟨#[116, 111]⟩ : ByteArray)].map (·.data.toList)).map small).contains (small f.1)) (L'.map tx)
    rw [List.length_map] at h2
    have := HN.out
    omega
  have HO : Hid (O.map tx = onlyF (L'.map tx) ([nm, (⟨#[116, 111]⟩ : ByteArray)].map (·.data.toList))) := hO
  clear hO
  go_wp2_with fail
  refine cO.mono ?_
  clear cO
  rintro e w11 ⟨⟨u11, O', rfl, hfP, hO'⟩, hb11⟩
  obtain rfl : O' = O := txs_inj (hO'.trans HO.out.symm)
  have hb611 := hb6a.trans (hb11.mono hb6a.size)
  have cM := same_fields u10 u11 O' w11 (hfO'.below hb11 (Nat.le_refl _)) hfP HOL.out
  clear hO' HO hb11 hb6a hba hfO hfO' hfP hb610 hb69
  go_wp2_with fail
  refine cM.mono ?_
  clear cM
  rintro e w12 ⟨rfl, hb12⟩
  have hb612 := hb611.trans (hb12.mono hb611.size)
  have cP := print_is (.slice a5 N c5) L' w12 (HFG.out w12 hb612).2 (by have := HN.out; omega) HSH.out
  have cQ := fun W hW => rprint_is (.slice a3 N c3) L' W (HFG.out W hW).1 (by have := HN.out; omega) HSH.out
  obtain ⟨T, hT⟩ : ∃ t : ByteArray, ⟨(printed (L'.map tx)).toArray⟩ = t := ⟨_, rfl⟩
  rw [hT] at cP cQ
  clear hT hb611 hb12
  go_wp2_with fail
  refine cP.mono ?_
  clear cP
  rintro e w13 ⟨rfl, hb13⟩
  have hb613 := hb612.trans (hb13.mono hb612.size)
  have cQ2 := cQ w13 hb613
  clear cQ hb612 hb13
  go_wp2_with fail
  refine cQ2.mono ?_
  clear cQ2
  rintro e w14 ⟨rfl, hb14⟩
  have hb614 := hb613.trans (hb14.mono hb613.size)
  have hb014 := hb06.trans (hb614.mono hb06.size)
  have cA := dparam_is val nm m w14 (by omega) (by omega) (K0.out w14 hb014).1
  clear hb613 hb14 hb614 HFG
  go_wp2_with fail
  refine cA.mono ?_
  clear cA
  rintro e w15 ⟨y, ko, hg', rfl, hb15⟩
  have HG : Hid (RGot (paramOf val.data.toList nm.data.toList) y ko) := hg'
  clear hg'
  have hb015 := hb014.trans (hb15.mono hb014.size)
  have cA := pparam_is val nm m w15 (by omega) (by omega) (K0.out w15 hb015).1
  clear hb014 hb15
  go_wp2_with fail
  refine cA.mono ?_
  clear cA
  rintro e w16 ⟨y', ko', hg', rfl, hb16⟩
  obtain ⟨rfl, rfl⟩ := rgot_one hg' HG.out
  clear hg' HG
  have hb016 := hb015.trans (hb16.mono hb015.size)
  have hq2 : (ko' == ko') = true := by simp
  have cS := small_is s w16 (by omega)
  have cS2 := fun W => rsmall_is s W (by omega)
  obtain ⟨ss, hss⟩ : ∃ t : ByteArray, ⟨(small s.data.toList).toArray⟩ = t := ⟨_, rfl⟩
  rw [hss] at cS cS2
  have cH := fun W => great_is s W (by omega)
  have cH2 := fun W => rgreat_is s W (by omega)
  obtain ⟨gs, hgs⟩ : ∃ t : ByteArray, ⟨(great s.data.toList).toArray⟩ = t := ⟨_, rfl⟩
  rw [hgs] at cH cH2
  clear hss hgs hb015 hb16
  go_wp2_with fail
  refine cS.mono ?_
  clear cS
  rintro e w17 ⟨rfl, hb17⟩
  have hb017 := hb016.trans (hb17.mono hb016.size)
  go_wp2_with fail
  refine (cS2 w17).mono ?_
  clear cS2 hb016 hb17
  rintro e w18 ⟨rfl, hb18⟩
  have hb018 := hb017.trans (hb18.mono hb017.size)
  go_wp2_with fail
  refine (cH w18).mono ?_
  clear cH hb017 hb18
  rintro e w19 ⟨rfl, hb19⟩
  have hb019 := hb018.trans (hb19.mono hb018.size)
  go_wp2_with fail
  refine (cH2 w19).mono ?_
  clear cH2 hb018 hb19
  rintro e w20 ⟨rfl, hb20⟩
  go_wp2_with fail
  go_ret
  exact ⟨rfl, hb019.trans (hb20.mono hb019.size)⟩
theorem reads_big (s nm val : ByteArray) (w : World) (h : 1500 < s.size ∨ 100 < nm.size ∨ 300 < val.size) :
    Calls Tryz.prog 5 #[.string s, .string nm, .string val] w fun e w' => e = .returned (.bool true) ∧ Below w.heap.size w w' := by
  by_cases h1 : 1500 < s.size
  · have i1 : (1500 : Int) < (s.size : Int) := by omega
    go_enter Tryz.func5, Tryz.ntmps5
    go_wp2_with fail
    go_ret
    exact ⟨rfl, Below.refl _ _⟩
  · have i1 : ¬ (1500 : Int) < (s.size : Int) := by omega
    by_cases h2 : 100 < nm.size
    · have i2 : (100 : Int) < (nm.size : Int) := by omega
      go_enter Tryz.func5, Tryz.ntmps5
      go_wp2_with fail
      go_ret
      exact ⟨rfl, Below.refl _ _⟩
    · have i2 : ¬ (100 : Int) < (nm.size : Int) := by omega
      have i3 : (300 : Int) < (val.size : Int) := by omega
      go_enter Tryz.func5, Tryz.ntmps5
      go_wp2_with fail
      go_ret
      exact ⟨rfl, Below.refl _ _⟩
end Go.Proofs.YtohpfhpkimmmbaaGreatDoor
