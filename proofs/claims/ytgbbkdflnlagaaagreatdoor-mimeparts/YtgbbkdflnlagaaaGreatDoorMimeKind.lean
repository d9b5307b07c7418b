/-
  What mime.kind does.
-/
import Derived.Test.YtgbbkdflnlagaaaGreatDoorHeadAns
import Derived.Test.YtgbbkdflnlagaaaGreatDoorMimeSpec
import Derived.Test.YtgbbkdflnlagaaaGreatDoorMimeShelf
namespace Go.Proofs
open Go.RowKit
theorem Tryz.strings_TrimRight_set (s cutset : ByteArray) (w : World) (hs : s.size ≤ 9223372036854775807) (hcs : cutset.size < 4294967281) (hascii : ∀ (j : Nat) b, cutset.data.toList[j]? = some b → b.toNat < 128) :
    Calls Tryz.prog 106 #[.string s, .string cutset] w fun e w' => e = .returned (.string ⟨(Lib.trimRightS s.data.toList cutset.data.toList).toArray⟩) ∧ Below w.heap.size w w' := Any.strings_TrimRight_laid Tryz.lays162 (by kernel_rfl) s cutset w hs hcs hascii
end Go.Proofs
namespace Go.Proofs.YtgbbkdflnlagaaaGreatDoor
open Go.RowKit Go.Proofs.Aid Go.Proofs.Hd Go.Proofs.Sq Go.Proofs.Mm

theorem blanks_low : ∀ (j : Nat) b, (⟨#[32, 9]⟩ : ByteArray).data.toList[j]? = some b → b.toNat < 128 := ascii_of_all (by decide)
theorem rtrim_is (s : ByteArray) (w : World) (hs : s.size ≤ 1000000) :
    Calls Tryz.prog 106 #[.string s, .string ⟨#[32, 9]⟩] w fun e w' => e = .returned (.string ⟨(rtrim s.data.toList).toArray⟩) ∧ Below w.heap.size w w' :=
  Tryz.strings_TrimRight_set s ⟨#[32, 9]⟩ w (by omega) (by decide) blanks_low
theorem trim2_is (s : ByteArray) (w : World) (hs : s.size ≤ 1000000) :
    Calls Tryz.prog 101 #[.string s, .string ⟨#[32, 9]⟩] w fun e w' => e = .returned (.string ⟨(Hd.bare s.data.toList).toArray⟩) ∧ Below w.heap.size w w' :=
  Tryz.strings_Trim_set s ⟨#[32, 9]⟩ w (by omega) (by decide) blanks_low
theorem getF_mem {l : List Hd.Fd} {n v : Tx} (h : getF l n = some v) : ∃ f ∈ l, f.2 = v := by
  unfold getF at h
  obtain ⟨f, hf, rfl⟩ := Option.map_eq_some_iff.1 h
  exact ⟨f, List.mem_of_find?_eq_some hf, rfl⟩
theorem getF_nil (n : Tx) : getF [] n = none := rfl
set_option maxHeartbeats 2000000 in
set_option maxRecDepth 100000 in
theorem kind_is (t : ByteArray) (m : Int) (w : World) (hs : t.size ≤ 90000) (hm : w.cell? ⟨1, 0, none⟩ = some (.int .i64 m)) :
    Calls Tryz.prog 66 #[.string t] w fun e w' => (∃ a b : ByteArray, e = .returned (.tuple #[.string a, .string b]) ∧ a.data.toList = (kindOf t.data.toList).1 ∧ b.data.toList = (kindOf t.data.toList).2) ∧ Below w.heap.size w w' := by
  have K0 : Hid (∀ W, Below w.heap.size w W → W.cell? ⟨1, 0, none⟩ = some (.int .i64 m)) := fun W h => (h.cell (World.block_lt_of_cell? _ _ hm)).trans hm
  have cF := pfields_is t m w hs hm
  have hgood := fieldsOf_good t.data.toList
  have hval := values_short t.data.toList
  have HK : Hid (kindOf t.data.toList = if (fieldsOf t.data.toList).1.1 = 0 then (match getF (fieldsOf t.data.toList).2 ctypeT with
    | none => (plainT, [])
    | some v => kindV v) else (plainT, [])) := rfl
  obtain ⟨F, hF⟩ : ∃ F, fieldsOf t.data.toList = F := ⟨_, rfl⟩
  rw [hF] at hgood hval cF HK
  rw [list_size] at hval
  obtain ⟨KK, hKK⟩ : ∃ K, kindOf t.data.toList = K := ⟨_, rfl⟩
  rw [hKK] at HK ⊢
  have HVL : Hid (∀ f ∈ F.2, f.2.length ≤ 90001) := fun f hf => by have := hval f hf; omega
  have HGV : Hid (∀ L : List Fb, L.map tx = F.2 → Short L ∧ L.length ≤ 40) := by
    intro L hL
    refine ⟨reads_short (V := 90001) (by decide) fun f hf => ?_, ?_⟩
    · rw [hL] at hf
      exact ⟨hgood.1 f hf, HVL.out f hf⟩
    · have := hgood.2; rw [← hL, List.length_map] at this; exact this
  clear hgood hval hF hKK hm
  go_enter Tryz.func66, Tryz.ntmps66
  go_wp2_with fail
  refine cF.mono ?_
  clear cF
  rintro e w1 ⟨⟨v, u, L, rfl, hfg, hL, hae⟩, hb1⟩
  have hLL := HGV.out L hL
  have cG := pget_is v L ⟨#[99, 111, 110, 116, 101, 110, 116, 45, 116, 121, 112, 101]⟩ w1 hfg (by omega) hLL.1 (by decide)
  rw [hL] at cG
  clear hfg hLL HGV hL
  go_wp2_with fail
  refine cG.mono ?_
  clear cG
  rintro e w2 ⟨x, ok, hg, rfl, hb2⟩
  have hb02 := hb1.trans (hb2.mono hb1.size)
  clear hb1 hb2
  rcases hae with ⟨h0, rfl⟩ | ⟨h0, p, rfl, _, _⟩
  · have HK2 : Hid (KK = match getF F.2 ctypeT with
      | none => (plainT, [])
      | some v => kindV v) := by have := HK.out; rw [if_pos h0] at this; exact this
    clear HK h0
    rcases hg with ⟨rfl, hg⟩ | ⟨rfl, hg, rfl⟩
    · have HKV : Hid (KK = kindV x.data.toList) := by have := HK2.out; rw [show getF F.2 ctypeT = some x.data.toList from hg] at this; exact this
      have hxs : x.size ≤ 90001 := by
        obtain ⟨f, hf, hfx⟩ := getF_mem hg
        have := HVL.out f hf
        rw [hfx, list_size] at this
        exact this
      have cC := cut1_call 59 x m w2 (by omega) (K0.out w2 hb02)
      clear HK2 hg
      go_wp2_with fail
      refine cC.mono ?_
      clear cC
      rintro e w3 ⟨ca, cb, ct, hcut, hca, hcb, rfl, nd, rfl⟩
      have hb03 := below_drewN hb02 nd
      obtain ⟨W3, hW3⟩ : ∃ W, w2.drewN nd = W := ⟨_, rfl⟩
      rw [hW3] at hb03 ⊢
      have cT := trim2_is ca W3 hca
      obtain ⟨ba, hba⟩ : ∃ t : ByteArray, ⟨(Hd.bare ca.data.toList).toArray⟩ = t := ⟨_, rfl⟩
      have hbl : ba.data.toList = Hd.bare ca.data.toList := by rw [← hba]
      have hbz : ba.size ≤ 1000000 := by have := bare_length ca.data.toList; rw [← list_size, hbl]; rw [list_size] at this; omega
      rw [hba] at cT
      clear hW3
      go_wp2_with fail
      refine cT.mono ?_
      clear cT
      rintro e w4 ⟨rfl, hb4⟩
      have hb04 := hb03.trans (hb4.mono hb03.size)
      have cS := small_is ba w4 hbz
      obtain ⟨ty, hty⟩ : ∃ t : ByteArray, ⟨(small ba.data.toList).toArray⟩ = t := ⟨_, rfl⟩
      have htl : ty.data.toList = small (Hd.bare (cutAt 59 x.data.toList).1) := by rw [← hty, hbl, hcut]
      rw [hty] at cS
      have HKT : Hid (KK = if multiT.isPrefixOf ty.data.toList then (ty.data.toList, (paramOf x.data.toList bndryT).getD []) else (ty.data.toList, [])) := by
        show _ = _
        rw [HKV.out, htl]
        rfl
      clear hba hbl hty htl hcut HKV hb03 hb4
      go_wp2_with fail
      refine cS.mono ?_
      clear cS
      rintro e w5 ⟨rfl, hb5⟩
      have hb05 := hb04.trans (hb5.mono hb04.size)
      have cH := Tryz.strings_HasPrefix ty ⟨#[109, 117, 108, 116, 105, 112, 97, 114, 116, 47]⟩ w5
      have hpre : Lib.hasPrefix ty.data.toList (⟨#[109, 117, 108, 116, 105, 112, 97, 114, 116, 47]⟩ : ByteArray).data.toList = multiT.isPrefixOf ty.data.toList := rfl
      rw [hpre] at cH
      obtain ⟨b, hb⟩ : ∃ b, multiT.isPrefixOf ty.data.toList = b := ⟨_, rfl⟩
      rw [hb] at cH HKT
      clear hpre hb hb04 hb5
      go_wp2_with fail
      refine cH.mono ?_
      clear cH
      rintro e w6 ⟨rfl, hw6⟩
      obtain rfl : w5 = w6 := hw6.symm
      cases b with
      | false =>
        go_wp2_with fail
        go_ret2
        exact ⟨⟨_, _, rfl, by rw [HKT.out]; rfl, by rw [HKT.out]; rfl⟩, hb05⟩
      | true =>
        have cP := pparam_is x ⟨#[98, 111, 117, 110, 100, 97, 114, 121]⟩ m w5 (by omega) (by decide) (K0.out w5 hb05)
        go_wp2_with fail
        refine cP.mono ?_
        clear cP
        rintro e w7 ⟨y, ok', hp, rfl, hb7⟩
        have HY : Hid (y.data.toList = (paramOf x.data.toList bndryT).getD []) := by
          show _ = _
          rcases hp with ⟨_, hp⟩ | ⟨_, hp, rfl⟩
          · rw [show paramOf x.data.toList bndryT = some y.data.toList from hp]; rfl
          · rw [show paramOf x.data.toList bndryT = none from hp]; rfl
        clear hp
        go_wp2_with fail
        go_ret2
        exact ⟨⟨_, _, rfl, by rw [HKT.out]; rfl, by rw [HKT.out, HY.out]; rfl⟩, hb05.trans (hb7.mono hb05.size)⟩
    · have HKV : Hid (KK = (plainT, [])) := by have := HK2.out; rw [show getF F.2 ctypeT = none from hg] at this; exact this
      go_wp2_with fail
      go_ret2
      exact ⟨⟨_, _, rfl, by rw [HKV.out]; rfl, by rw [HKV.out]⟩, hb02⟩
  · have HKV : Hid (KK = (plainT, [])) := by have := HK.out; rw [if_neg h0] at this; exact this
    go_wp2_with fail
    go_ret2
    exact ⟨⟨_, _, rfl, by rw [HKV.out]; rfl, by rw [HKV.out]⟩, hb02⟩
end Go.Proofs.YtgbbkdflnlagaaaGreatDoor
