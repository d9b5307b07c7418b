/-
  What key of package search does where no word stands: a set, and more.
-/
import Derived.Test.YtogigccbnohjjaaGreatDoorBpSearchAll
namespace Go.Proofs.YtogigccbnohjjaaGreatDoor
open Go.RowKit Go.Proofs.Aid Go.Proofs.Sq Go.Proofs.Hd
set_option maxHeartbeats 4000000
set_option maxRecDepth 100000
def wAllWords : List Sr.Tx := [[65, 76, 76], [83, 69, 69, 78], [65, 78, 83, 87, 69, 82, 69, 68], [70, 76, 65, 71, 71, 69, 68], [68, 69, 76, 69, 84, 69, 68], [68, 82, 65, 70, 84], [85, 78, 83, 69, 69, 78], [85, 78, 65, 78, 83, 87, 69, 82, 69, 68], [85, 78, 70, 76, 65, 71, 71, 69, 68], [85, 78, 68, 69, 76, 69, 84, 69, 68], [85, 78, 68, 82, 65, 70, 84], [75, 69, 89, 87, 79, 82, 68], [85, 78, 75, 69, 89, 87, 79, 82, 68], [70, 82, 79, 77], [84, 79], [83, 85, 66, 74, 69, 67, 84], [67, 67], [72, 69, 65, 68, 69, 82], [66, 79, 68, 89], [84, 69, 88, 84], [76, 65, 82, 71, 69, 82], [83, 77, 65, 76, 76, 69, 82], [66, 69, 70, 79, 82, 69], [79, 78], [83, 73, 78, 67, 69], [85, 73, 68], [78, 79, 84], [79, 82]]
theorem key_nowd (rb c B d : Nat) (x : Sr.Ar) (l : List Sr.Ar) (v : Value) (Ok : Nat → Prop) (w : World) (henv : EnvB w rb) (hr : RdS w rb v c) (hl : Ags w Ok B (x :: l) v) (hB : B ≤ 2000000) (hrb : rb < w.heap.size) (hO : ∀ k, Ok k → k ≠ rb ∧ k < w.heap.size) (hd : d ≤ 6) (hc : c + 1 ≤ 60) (hx : x.kind ≠ 3) (hnw : ∀ y ∈ wAllWords, great x.text ≠ y) :
  Calls Tryz.prog 38 #[.pointer (some ⟨rb, 0, none⟩), .int .i64 (d : Int)] w fun e w' => Out w rb B Ok ((Sr.setF x.text l (c + 1)).map fun r => .mk 12 [] [] 0 r []) e w' := by
 have HENV : Hid (EnvB w rb) := henv
 obtain ⟨T, hT⟩ : ∃ T, ((Sr.setF x.text l (c + 1)).map fun r => Sr.Ky.mk 12 [] [] 0 r []) = T := ⟨_, rfl⟩
 rw [hT]
 have HT : Hid (((Sr.setF x.text l (c + 1)).map fun r => Sr.Ky.mk 12 [] [] 0 r []) = T) := hT
 clear henv hT
 obtain ⟨GG, hGG⟩ : ∃ t : ByteArray, ⟨(great x.text).toArray⟩ = t := ⟨_, rfl⟩
 have hGl : GG.toList = great x.text := by rw [Lib.toList_data, ← hGG]
 have y0 : (GG.toList == [65, 76, 76]) = false := by rw [hGl, beq_eq_false_iff_ne]; exact hnw _ (by decide)
 have y1 : (GG.toList == [83, 69, 69, 78]) = false := by rw [hGl, beq_eq_false_iff_ne]; exact hnw _ (by decide)
 have y2 : (GG.toList == [65, 78, 83, 87, 69, 82, 69, 68]) = false := by rw [hGl, beq_eq_false_iff_ne]; exact hnw _ (by decide)
 have y3 : (GG.toList == [70, 76, 65, 71, 71, 69, 68]) = false := by rw [hGl, beq_eq_false_iff_ne]; exact hnw _ (by decide)
 have y4 : (GG.toList == [68, 69, 76, 69, 84, 69, 68]) = false := by rw [hGl, beq_eq_false_iff_ne]; exact hnw _ (by decide)
 have y5 : (GG.toList == [68, 82, 65, 70, 84]) = false := by rw [hGl, beq_eq_false_iff_ne]; exact hnw _ (by decide)
 have y6 : (GG.toList == [85, 78, 83, 69, 69, 78]) = false := by rw [hGl, beq_eq_false_iff_ne]; exact hnw _ (by decide)
 have y7 : (GG.toList == [85, 78, 65, 78, 83, 87, 69, 82, 69, 68]) = false := by rw [hGl, beq_eq_false_iff_ne]; exact hnw _ (by decide)
 have y8 : (GG.toList == [85, 78, 70, 76, 65, 71, 71, 69, 68]) = false := by rw [hGl, beq_eq_false_iff_ne]; exact hnw _ (by decide)
 have y9 : (GG.toList == [85, 78, 68, 69, 76, 69, 84, 69, 68]) = false := by rw [hGl, beq_eq_false_iff_ne]; exact hnw _ (by decide)
 have y10 : (GG.toList == [85, 78, 68, 82, 65, 70, 84]) = false := by rw [hGl, beq_eq_false_iff_ne]; exact hnw _ (by decide)
 have y11 : (GG.toList == [75, 69, 89, 87, 79, 82, 68]) = false := by rw [hGl, beq_eq_false_iff_ne]; exact hnw _ (by decide)
 have y12 : (GG.toList == [85, 78, 75, 69, 89, 87, 79, 82, 68]) = false := by rw [hGl, beq_eq_false_iff_ne]; exact hnw _ (by decide)
 have y13 : (GG.toList == [70, 82, 79, 77]) = false := by rw [hGl, beq_eq_false_iff_ne]; exact hnw _ (by decide)
 have y14 : (GG.toList == [84, 79]) = false := by rw [hGl, beq_eq_false_iff_ne]; exact hnw _ (by decide)
 have y15 : (GG.toList == [83, 85, 66, 74, 69, 67, 84]) = false := by rw [hGl, beq_eq_false_iff_ne]; exact hnw _ (by decide)
 have y16 : (GG.toList == [67, 67]) = false := by rw [hGl, beq_eq_false_iff_ne]; exact hnw _ (by decide)
 have y17 : (GG.toList == [72, 69, 65, 68, 69, 82]) = false := by rw [hGl, beq_eq_false_iff_ne]; exact hnw _ (by decide)
 have y18 : (GG.toList == [66, 79, 68, 89]) = false := by rw [hGl, beq_eq_false_iff_ne]; exact hnw _ (by decide)
 have y19 : (GG.toList == [84, 69, 88, 84]) = false := by rw [hGl, beq_eq_false_iff_ne]; exact hnw _ (by decide)
 have y20 : (GG.toList == [76, 65, 82, 71, 69, 82]) = false := by rw [hGl, beq_eq_false_iff_ne]; exact hnw _ (by decide)
 have y21 : (GG.toList == [83, 77, 65, 76, 76, 69, 82]) = false := by rw [hGl, beq_eq_false_iff_ne]; exact hnw _ (by decide)
 have y22 : (GG.toList == [66, 69, 70, 79, 82, 69]) = false := by rw [hGl, beq_eq_false_iff_ne]; exact hnw _ (by decide)
 have y23 : (GG.toList == [79, 78]) = false := by rw [hGl, beq_eq_false_iff_ne]; exact hnw _ (by decide)
 have y24 : (GG.toList == [83, 73, 78, 67, 69]) = false := by rw [hGl, beq_eq_false_iff_ne]; exact hnw _ (by decide)
 have y25 : (GG.toList == [85, 73, 68]) = false := by rw [hGl, beq_eq_false_iff_ne]; exact hnw _ (by decide)
 have y26 : (GG.toList == [78, 79, 84]) = false := by rw [hGl, beq_eq_false_iff_ne]; exact hnw _ (by decide)
 have y27 : (GG.toList == [79, 82]) = false := by rw [hGl, beq_eq_false_iff_ne]; exact hnw _ (by decide)
 have HGG : Hid ((⟨(great x.text).toArray⟩ : ByteArray) = GG) := hGG
 clear hGl hnw hGG
 obtain ⟨W1, W2, hW1, hW2, p1, f1, q1, q0, z2, hr2, hl2, hb2, hE2⟩ := key_begun rb c B (x :: l) v Ok w hr hl hrb hO
 have cW := word_ok rb (c + 1) B x l v Ok W2 hr2 hl2 (fun k hk => (hO k hk).1) hx
 obtain ⟨b, o, C, _, lv, rfl, hC, hC2, hOb, _, _, _, c1, _, _, _⟩ := hl2.head
 have hkb : (x.kind == 3) = false := by simpa using hx
 obtain ⟨K, hK⟩ : ∃ K, x.kind = K := ⟨_, rfl⟩
 rw [hK] at c1 hkb
 obtain ⟨L, hL⟩ : ∃ L, l.length = L := ⟨_, rfl⟩
 rw [hL] at q0 hC
 have HB : Hid (But w.heap.size rb w W2) := hb2
 have HE : Hid (W2.heap[w.heap.size]? = some (.cells #[.int .i64 0, .string ⟨#[]⟩, .string ⟨#[]⟩, .int .i64 0, .slice none 0 0, .slice none 0 0] 32 (0, 0))) := hE2
 have HO : Hid (∀ k, Ok k → k ≠ rb ∧ k < w.heap.size) := hO
 have HZ : Hid (W2.heap.size = w.heap.size + 1) := z2
 have d1 : decide ((6 : Int) < (d : Int)) = false := decide_eq_false (by omega)
 have d2 : decide ((60 : Int) < (c : Int) + 1) = false := decide_eq_false (by omega)
 clear hr hl hO hr2 hl2 hb2 hE2 hL z2 hx hK
 go_enter Tryz.func38, Tryz.ntmps38
 go_wp2_with fail
 refine cW.mono ?_
 rintro e w3 ⟨tb, v3, htb, htz, rfl, hr3, hl3, hb3⟩
 have cG := great_is tb w3 (by omega)
 have HTB : Hid (tb.data.toList = x.text) := htb
 rw [htb, HGG.out] at cG
 have hz := HZ.out
 have hs3 := hb3.size
 have HX : Hid (∀ W, Below w3.heap.size w3 W → RdS W rb v3 (c + 1) ∧ Ags W Ok B l v3 ∧ But w.heap.size rb w W ∧ W.heap[w.heap.size]? = some (.cells #[.int .i64 0, .string ⟨#[]⟩, .string ⟨#[]⟩, .int .i64 0, .slice none 0 0, .slice none 0 0] 32 (0, 0)) ∧ w.heap.size + 1 ≤ W.heap.size) := fun W hW =>
  ⟨hr3.kept (hW.block rb (by omega)), hl3.kept fun k hk hlt => ⟨hk, hW.block k hlt⟩, (HB.out.trans (hb3.less (by omega))).trans (to_but (hW.mono (by omega))), (hW.block w.heap.size (by omega)).trans ((hb3.block w.heap.size (by omega) (by omega)).trans HE.out), by have := hW.size; omega⟩
 clear cW hr3 hl3 hb3 htb
 go_wp2_with fail
 refine cG.mono ?_
 rintro e w4 ⟨rfl, hb4⟩
 obtain ⟨hr4, hl4, hbt, e4, hs4⟩ := HX.out w4 hb4
 clear cG HX
 have henv := HENV.out w4 hbt
 obtain ⟨mx, hmx⟩ := henv.2.2.2
 have cF := set_is tb mx w4 (by omega) hmx henv.2.1
 rw [HTB.out] at cF
 have HX4 : Hid (RdS w4 rb v3 (c + 1) ∧ Ags w4 Ok B l v3 ∧ But w.heap.size rb w w4 ∧ w4.heap[w.heap.size]? = some (.cells #[.int .i64 0, .string ⟨#[]⟩, .string ⟨#[]⟩, .int .i64 0, .slice none 0 0, .slice none 0 0] 32 (0, 0))) := ⟨hr4, hl4, hbt, e4⟩
 clear hr4 hl4 hb4 hbt henv e4
 go_wp2_with fail
 refine cF.mono ?_
 rintro e w6 ⟨h6, hb6⟩
 clear cF
 have HB6 : Hid (But w.heap.size rb w w6) := HX4.out.2.2.1.trans (to_but (hb6.mono (by omega)))
 rcases h6 with ⟨h0, rfl⟩ | ⟨h0, rfl⟩ | ⟨rs, sv, h0, rfl, hst⟩
 ·have hT := HT.out
  rw [Sr.setF, h0] at hT
  subst hT
  clear HT HX4 hb6 h0
  unfold thrown
  go_wp2_with fail
  exact ⟨rfl, rfl, HB6.out⟩
 ·have hT := HT.out
  rw [Sr.setF, h0] at hT
  subst hT
  clear HT HX4 hb6 h0
  unfold thrown
  go_wp2_with fail
  exact ⟨rfl, rfl, HB6.out⟩
 ·have hT := HT.out
  rw [Sr.setF, h0] at hT
  subst hT
  obtain ⟨hr4, hl4, hbt, e4⟩ := HX4.out
  have e6 := (hb6.block w.heap.size (by omega)).trans e4
  have hkx : Kx w6 (fun q => w.heap.size + 1 ≤ q) (.mk 12 [] [] 0 rs []) [.int .i64 12, .string ⟨#[]⟩, .string ⟨#[]⟩, .int .i64 0, sv, .slice none 0 0] := Kx.mk 12 0 ⟨#[]⟩ ⟨#[]⟩ rs sv [] none 0 (fun _ => []) (hst.kept fun q hq _ => ⟨by omega, rfl⟩) (fun j k h => by simp at h) (Or.inl rfl)
  obtain ⟨sa, sc, rfl, _⟩ := hst
  obtain ⟨SL, hSL⟩ : ∃ n, rs.length = n := ⟨_, rfl⟩
  rw [hSL] at hkx
  rw [hSL]
  obtain ⟨⟨s0, s1, s2, s3, s4, s5⟩, ⟨sf0, sf1, sf2, sf3, sf4, sf5⟩, u0, u1, u2, u3, u4, u5⟩ := six_facts e6 (.int .i64 12) (.string ⟨#[]⟩) (.string ⟨#[]⟩) (.int .i64 0) (.slice sa SL sc) (.slice none 0 0)
  have HD : Hid (Out w rb B Ok (.ok (.mk 12 [] [] 0 rs []) l (c + 1)) (.returned (.agg #[.int .i64 12, .string ⟨#[]⟩, .string ⟨#[]⟩, .int .i64 0, .slice sa SL sc, .slice none 0 0])) _) := key_done hrb HO.out hkx (hr4.kept (hb6.block rb (by omega))) (hl4.kept fun k hk hlt => ⟨hk, hb6.block k hlt⟩) (hbt.trans (to_but (hb6.mono (by omega))))
  clear HT HX4 hr4 hl4 hbt e4 e6 hb6 hkx h0 hSL
  go_wp2_with fail
  exact bodyPost_ret (v := .agg #[.int .i64 12, .string ⟨#[]⟩, .string ⟨#[]⟩, .int .i64 0, .slice sa SL sc, .slice none 0 0]) (by simp [results, Tryz.results38, go_sem, u0, u1, u2, u3, u4, u5]) rfl HD.out
end Go.Proofs.YtogigccbnohjjaaGreatDoor
namespace Go.Proofs.YtogigccbnohjjaaGreatDoor
open Go.RowKit Go.Proofs.Aid Go.Proofs.Sq Go.Proofs.Hd
set_option maxHeartbeats 4000000
set_option maxRecDepth 100000
theorem kkey_nowd (kb B d c : Nat) (x : Sr.Ar) (l : List Sr.Ar) (v : Value) (Ok : Nat → Prop) (w : World) (henv : EnvK w kb) (hr : KyS w kb (c : Int) 0) (hl : Ags w Ok B (x :: l) v) (hB : B ≤ 900000) (hO : ∀ k, Ok k → k ≠ kb ∧ k < w.heap.size) (hd : d ≤ 6) (hc : c + 1 ≤ 60) (hx : x.kind ≠ 3) (hnw : ∀ y ∈ wAllWords, great x.text ≠ y) :
  Calls Tryz.prog 37 #[.pointer (some ⟨kb, 0, none⟩), v, .int .i64 (d : Int)] w fun e w' => OutK w kb B Ok ((Sr.setF x.text l (c + 1)).map fun r => Sr.Ky.mk 12 [] [] 0 r []) e w' := by
 obtain ⟨GG, hGG⟩ : ∃ t : ByteArray, ⟨(great x.text).toArray⟩ = t := ⟨_, rfl⟩
 have hGl : GG.toList = great x.text := by rw [Lib.toList_data, ← hGG]
 have y0 : (GG.toList == [65, 76, 76]) = false := by rw [hGl, beq_eq_false_iff_ne]; exact hnw _ (by decide)
 have y1 : (GG.toList == [83, 69, 69, 78]) = false := by rw [hGl, beq_eq_false_iff_ne]; exact hnw _ (by decide)
 have y2 : (GG.toList == [65, 78, 83, 87, 69, 82, 69, 68]) = false := by rw [hGl, beq_eq_false_iff_ne]; exact hnw _ (by decide)
 have y3 : (GG.toList == [70, 76, 65, 71, 71, 69, 68]) = false := by rw [hGl, beq_eq_false_iff_ne]; exact hnw _ (by decide)
 have y4 : (GG.toList == [68, 69, 76, 69, 84, 69, 68]) = false := by rw [hGl, beq_eq_false_iff_ne]; exact hnw _ (by decide)
 have y5 : (GG.toList == [68, 82, 65, 70, 84]) = false := by rw [hGl, beq_eq_false_iff_ne]; exact hnw _ (by decide)
 have y6 : (GG.toList == [85, 78, 83, 69, 69, 78]) = false := by rw [hGl, beq_eq_false_iff_ne]; exact hnw _ (by decide)
 have y7 : (GG.toList == [85, 78, 65, 78, 83, 87, 69, 82, 69, 68]) = false := by rw [hGl, beq_eq_false_iff_ne]; exact hnw _ (by decide)
 have y8 : (GG.toList == [85, 78, 70, 76, 65, 71, 71, 69, 68]) = false := by rw [hGl, beq_eq_false_iff_ne]; exact hnw _ (by decide)
 have y9 : (GG.toList == [85, 78, 68, 69, 76, 69, 84, 69, 68]) = false := by rw [hGl, beq_eq_false_iff_ne]; exact hnw _ (by decide)
 have y10 : (GG.toList == [85, 78, 68, 82, 65, 70, 84]) = false := by rw [hGl, beq_eq_false_iff_ne]; exact hnw _ (by decide)
 have y11 : (GG.toList == [75, 69, 89, 87, 79, 82, 68]) = false := by rw [hGl, beq_eq_false_iff_ne]; exact hnw _ (by decide)
 have y12 : (GG.toList == [85, 78, 75, 69, 89, 87, 79, 82, 68]) = false := by rw [hGl, beq_eq_false_iff_ne]; exact hnw _ (by decide)
 have y13 : (GG.toList == [70, 82, 79, 77]) = false := by rw [hGl, beq_eq_false_iff_ne]; exact hnw _ (by decide)
 have y14 : (GG.toList == [84, 79]) = false := by rw [hGl, beq_eq_false_iff_ne]; exact hnw _ (by decide)
 have y15 : (GG.toList == [83, 85, 66, 74, 69, 67, 84]) = false := by rw [hGl, beq_eq_false_iff_ne]; exact hnw _ (by decide)
 have y16 : (GG.toList == [67, 67]) = false := by rw [hGl, beq_eq_false_iff_ne]; exact hnw _ (by decide)
 have y17 : (GG.toList == [72, 69, 65, 68, 69, 82]) = false := by rw [hGl, beq_eq_false_iff_ne]; exact hnw _ (by decide)
 have y18 : (GG.toList == [66, 79, 68, 89]) = false := by rw [hGl, beq_eq_false_iff_ne]; exact hnw _ (by decide)
 have y19 : (GG.toList == [84, 69, 88, 84]) = false := by rw [hGl, beq_eq_false_iff_ne]; exact hnw _ (by decide)
 have y20 : (GG.toList == [76, 65, 82, 71, 69, 82]) = false := by rw [hGl, beq_eq_false_iff_ne]; exact hnw _ (by decide)
 have y21 : (GG.toList == [83, 77, 65, 76, 76, 69, 82]) = false := by rw [hGl, beq_eq_false_iff_ne]; exact hnw _ (by decide)
 have y22 : (GG.toList == [66, 69, 70, 79, 82, 69]) = false := by rw [hGl, beq_eq_false_iff_ne]; exact hnw _ (by decide)
 have y23 : (GG.toList == [79, 78]) = false := by rw [hGl, beq_eq_false_iff_ne]; exact hnw _ (by decide)
 have y24 : (GG.toList == [83, 73, 78, 67, 69]) = false := by rw [hGl, beq_eq_false_iff_ne]; exact hnw _ (by decide)
 have y25 : (GG.toList == [85, 73, 68]) = false := by rw [hGl, beq_eq_false_iff_ne]; exact hnw _ (by decide)
 have y26 : (GG.toList == [78, 79, 84]) = false := by rw [hGl, beq_eq_false_iff_ne]; exact hnw _ (by decide)
 have y27 : (GG.toList == [79, 82]) = false := by rw [hGl, beq_eq_false_iff_ne]; exact hnw _ (by decide)
 have HGG : Hid ((⟨(great x.text).toArray⟩ : ByteArray) = GG) := hGG
 clear hGl hnw hGG
 have hkb := hr.lt
 obtain ⟨T, hT⟩ : ∃ T, ((Sr.setF x.text l (c + 1)).map fun r => Sr.Ky.mk 12 [] [] 0 r []) = T := ⟨_, rfl⟩
 rw [hT]
 have HT : Hid (((Sr.setF x.text l (c + 1)).map fun r => Sr.Ky.mk 12 [] [] 0 r []) = T) := hT
 have HENV : Hid (EnvK w kb) := henv
 obtain ⟨W1, W2, hW1, hW2, p1, f1, q0, q1, z2, hr2, hl2, hb2, hE2⟩ := kbegun kb B (c : Int) 0 ((c : Int) + 1) (x :: l) v Ok w hr hl hO
 have cW := kword kb B ((c : Int) + 1) 0 (x :: l) v Ok W2 hr2 hl2 (fun _ => by omega)
 obtain ⟨b, o, C, _, lv, rfl, hC, hC2, hOb, _, _, _, c1, _, _, _⟩ := hl2.head
 have hkb3 : (x.kind == 3) = false := by simpa using hx
 obtain ⟨L, hL⟩ : ∃ L, l.length = L := ⟨_, rfl⟩
 have HB : Hid (But w.heap.size kb w W2) := hb2
 have HE : Hid (W2.heap[w.heap.size]? = some (.cells #[.int .i64 0, .string ⟨#[]⟩, .string ⟨#[]⟩, .int .i64 0, .slice none 0 0, .slice none 0 0] 32 (0, 0))) := hE2
 have HO : Hid (∀ k, Ok k → k ≠ kb ∧ k < w.heap.size) := hO
 have HZ : Hid (W2.heap.size = w.heap.size + 1) := z2
 have HWD : Hid (x.kind ≠ 3) := hx
 have d1 : decide ((60 : Int) < (c : Int) + 1) = false := decide_eq_false (by omega)
 have d2 : decide ((6 : Int) < (d : Int)) = false := decide_eq_false (by omega)
 obtain ⟨K, hK⟩ : ∃ K, x.kind = K := ⟨_, rfl⟩
 rw [hK] at c1 hkb3
 rw [hL] at hC cW ⊢
 clear hr hl hO hr2 hl2 hb2 hE2 hL z2 hx hK henv hT
 go_enter Tryz.func37, Tryz.ntmps37
 go_wp2_with fail
 refine cW.mono ?_
 rintro e w3 ⟨tb, v3, l3, E3, rfl, htz, hl3, hr3, hb3, hrel⟩
 obtain ⟨rfl, htb, rfl⟩ : E3 = 0 ∧ tb.data.toList = x.text ∧ l3 = l := by
  unfold atK at hrel
  rw [if_pos rfl, Sr.wordF, if_neg HWD.out] at hrel
  exact ⟨hrel.1, hrel.2.1, hrel.2.2.1⟩
 have r1 : w3.cell? ⟨kb, 1, none⟩ = some (.int .i64 0) := rd_cell hr3 rfl
 have cG := rgreat_is tb w3 (by omega)
 have HTB : Hid (tb.data.toList = x.text) := htb
 rw [htb, HGG.out] at cG
 have hz := HZ.out
 have hs3 := hb3.size
 have HX : Hid (∀ W, Below w3.heap.size w3 W → KyS W kb ((c : Int) + 1) 0 ∧ Ags W Ok B l3 v3 ∧ But w.heap.size kb w W ∧ W.heap[w.heap.size]? = some (.cells #[.int .i64 0, .string ⟨#[]⟩, .string ⟨#[]⟩, .int .i64 0, .slice none 0 0, .slice none 0 0] 32 (0, 0)) ∧ w.heap.size + 1 ≤ W.heap.size) := fun W hW =>
  ⟨hr3.kept (hW.block kb (by omega)), hl3.kept fun k hk hlt => ⟨hk, hW.block k hlt⟩, (HB.out.trans (hb3.less (by omega))).trans (to_but (hW.mono (by omega))), (hW.block w.heap.size (by omega)).trans ((hb3.block w.heap.size (by omega) (by omega)).trans HE.out), by have := hW.size; omega⟩
 clear cW hr3 hl3 hb3 htb hrel
 go_wp2_with fail
 refine cG.mono ?_
 rintro e w4 ⟨rfl, hb4⟩
 obtain ⟨hr4, hl4, hbt, e4, hs4⟩ := HX.out w4 hb4
 clear cG HX hb4
 obtain ⟨hnum, m, hm⟩ := HENV.out w4 hbt
 have cF := kset kb ((c : Int) + 1) 0 m tb w4 hr4 (fun _ => by omega) (by omega) hm hnum
 rw [HTB.out] at cF
 have HX5 : Hid (Ags w4 Ok B l3 v3 ∧ But w.heap.size kb w w4 ∧ w4.heap[w.heap.size]? = some (.cells #[.int .i64 0, .string ⟨#[]⟩, .string ⟨#[]⟩, .int .i64 0, .slice none 0 0, .slice none 0 0] 32 (0, 0))) := ⟨hl4, hbt, e4⟩
 clear hr4 hl4 hbt e4 hnum hm
 go_wp2_with fail
 refine cF.mono ?_
 rintro e w6 ⟨sa, sk, sc, r, E6, rfl, hst, hr6, hb6, hrel6⟩
 have hR := hrel6 l3
 rw [show ((c : Int) + 1) = ((c + 1 : Nat) : Int) from rfl, atK_ok] at hR
 replace hR := hR.map fun r => Sr.Ky.mk 12 [] [] 0 r []
 rw [HT.out, show ((c + 1 : Nat) : Int) = (c : Int) + 1 from rfl] at hR
 have hs6 := hb6.size
 have e6 := (hb6.block w.heap.size (by omega) (by omega)).trans HX5.out.2.2
 have hk6 := kx_set (code := 12) (hst.kept (Ok' := fun q => w.heap.size + 1 ≤ q) fun q hq _ => ⟨by omega, rfl⟩)
 obtain ⟨⟨s0, s1, s2, s3, s4, s5⟩, ⟨sf0, sf1, sf2, sf3, sf4, sf5⟩, u0, u1, u2, u3, u4, u5⟩ := six_facts e6 (.int .i64 12) (.string ⟨#[]⟩) (.string ⟨#[]⟩) (.int .i64 0) (.slice sa sk sc) (.slice none 0 0)
 have HD : Hid (OutK w kb B Ok T (.returned (.tuple #[.agg #[.int .i64 12, .string ⟨#[]⟩, .string ⟨#[]⟩, .int .i64 0, .slice sa sk sc, .slice none 0 0], v3])) _) := kdone hkb HO.out hk6 hr6 (HX5.out.1.kept fun k hk hlt => ⟨hk, hb6.block k hlt (HO.out k hk).1⟩) (HX5.out.2.1.trans (hb6.less (by omega))) hR
 clear hr6 hb6 hrel6 hR hk6 e6 cF HT HX5 HENV hst HTB HGG
 go_wp2_with fail
 exact bodyPost_ret (v := .tuple #[.agg #[.int .i64 12, .string ⟨#[]⟩, .string ⟨#[]⟩, .int .i64 0, .slice sa sk sc, .slice none 0 0], v3]) (by simp [results, Tryz.results37, go_sem, u0, u1, u2, u3, u4, u5]) rfl HD.out
end Go.Proofs.YtogigccbnohjjaaGreatDoor
namespace Go.Proofs.YtogigccbnohjjaaGreatDoor
open Go.RowKit Go.Proofs.Aid Go.Proofs.Sq Go.Proofs.Hd
set_option maxHeartbeats 4000000
set_option maxRecDepth 100000
theorem key_uid (rb c B d : Nat) (x : Sr.Ar) (l : List Sr.Ar) (v : Value) (Ok : Nat → Prop) (w : World) (henv : EnvB w rb) (hr : RdS w rb v c) (hl : Ags w Ok B (x :: l) v) (hB : B ≤ 2000000) (hrb : rb < w.heap.size) (hO : ∀ k, Ok k → k ≠ rb ∧ k < w.heap.size) (hd : d ≤ 6) (hc : c + 1 ≤ 60) (hx : x.kind ≠ 3) (hw : great x.text = Sr.wUid) :
  Calls Tryz.prog 38 #[.pointer (some ⟨rb, 0, none⟩), .int .i64 (d : Int)] w fun e w' => Out w rb B Ok ((Sr.wordF l (c + 1)).then fun s l c => (Sr.setF s l c).map fun r => Sr.Ky.mk 11 [] [] 0 r []) e w' := by
 obtain ⟨RW, hwf⟩ : ∃ RW, Sr.wordF l (c + 1) = RW := ⟨_, rfl⟩
 rw [hwf]
 have HWF : Hid (Sr.wordF l (c + 1) = RW) := hwf
 have HENV : Hid (EnvB w rb) := henv
 obtain ⟨T, hT⟩ : ∃ T, (RW.then fun s l c => (Sr.setF s l c).map fun r => Sr.Ky.mk 11 [] [] 0 r []) = T := ⟨_, rfl⟩
 rw [hT]
 have HT0 : Hid ((RW.then fun s l c => (Sr.setF s l c).map fun r => Sr.Ky.mk 11 [] [] 0 r []) = T) := hT
 clear hwf henv hT
 obtain ⟨W1, W2, hW1, hW2, p1, f1, q1, q0, z2, hr2, hl2, hb2, hE2⟩ := key_begun rb c B (x :: l) v Ok w hr hl hrb hO
 have cW := word_ok rb (c + 1) B x l v Ok W2 hr2 hl2 (fun k hk => (hO k hk).1) hx
 obtain ⟨b, o, C, _, lv, rfl, hC, hC2, hOb, _, _, _, c1, _, _, _⟩ := hl2.head
 have hkb : (x.kind == 3) = false := by simpa using hx
 obtain ⟨K, hK⟩ : ∃ K, x.kind = K := ⟨_, rfl⟩
 rw [hK] at c1 hkb
 obtain ⟨L, hL⟩ : ∃ L, l.length = L := ⟨_, rfl⟩
 rw [hL] at q0 hC
 have HB : Hid (But w.heap.size rb w W2) := hb2
 have HE : Hid (W2.heap[w.heap.size]? = some (.cells #[.int .i64 0, .string ⟨#[]⟩, .string ⟨#[]⟩, .int .i64 0, .slice none 0 0, .slice none 0 0] 32 (0, 0))) := hE2
 have HO : Hid (∀ k, Ok k → k ≠ rb ∧ k < w.heap.size) := hO
 have HZ : Hid (W2.heap.size = w.heap.size + 1) := z2
 have HWD : Hid (great x.text = Sr.wUid) := hw
 have d1 : decide ((6 : Int) < (d : Int)) = false := decide_eq_false (by omega)
 have d2 : decide ((60 : Int) < (c : Int) + 1) = false := decide_eq_false (by omega)
 clear hr hl hO hr2 hl2 hb2 hE2 hL z2 hx hK hw
 go_enter Tryz.func38, Tryz.ntmps38
 go_wp2_with fail
 refine cW.mono ?_
 rintro e w3 ⟨tb, v3, htb, htz, rfl, hr3, hl3, hb3⟩
 have cG := great_is tb w3 (by omega)
 rw [htb, HWD.out, show (⟨(Sr.wUid).toArray⟩ : ByteArray) = ⟨#[85, 73, 68]⟩ from rfl] at cG
 have hz := HZ.out
 have hs3 := hb3.size
 have HX : Hid (∀ W, Below w3.heap.size w3 W → RdS W rb v3 (c + 1) ∧ Ags W Ok B l v3 ∧ But w.heap.size rb w W ∧ W.heap[w.heap.size]? = some (.cells #[.int .i64 0, .string ⟨#[]⟩, .string ⟨#[]⟩, .int .i64 0, .slice none 0 0, .slice none 0 0] 32 (0, 0)) ∧ w.heap.size + 1 ≤ W.heap.size) := fun W hW =>
  ⟨hr3.kept (hW.block rb (by omega)), hl3.kept fun k hk hlt => ⟨hk, hW.block k hlt⟩, (HB.out.trans (hb3.less (by omega))).trans (to_but (hW.mono (by omega))), (hW.block w.heap.size (by omega)).trans ((hb3.block w.heap.size (by omega) (by omega)).trans HE.out), by have := hW.size; omega⟩
 clear cW hr3 hl3 hb3 htb
 go_wp2_with fail
 refine cG.mono ?_
 rintro e w4 ⟨rfl, hb4⟩
 obtain ⟨hr4, hl4, hbt, e4, hs4⟩ := HX.out w4 hb4
 clear cG HX
 have hwf := HWF.out
 clear HWF
 cases RW with
 | bad n =>
  obtain rfl : n = 3 := by
   cases l with
   | nil => cases hwf; rfl
   | cons a r =>
    rw [Sr.wordF] at hwf
    split at hwf
    ·cases hwf; rfl
    ·cases hwf
  have cV := word_bad rb (c + 1) B l _ Ok w4 hr4 hl4 hwf
  unfold thrown at cV
  have HBT : Hid (But w.heap.size rb w w4) := hbt
  have hT := HT0.out
  clear hb4 hr4 hl4 hbt e4 hwf HT0
  subst hT
  go_wp2_with fail
  refine cV.mono ?_
  rintro e w5 ⟨rfl, hw5⟩
  obtain rfl : w4 = w5 := hw5.symm
  go_wp2_with fail
  exact ⟨rfl, rfl, HBT.out⟩
 | ok t l5 c5 =>
  cases l with
  | nil => cases hwf
  | cons y r =>
   rw [Sr.wordF] at hwf
   split at hwf
   ·cases hwf
   ·rename_i hy
    cases hwf
    have cV := word_ok rb (c + 1) B y _ _ Ok w4 hr4 hl4 (fun k hk => (HO.out k hk).1) hy
    have HBT : Hid (But w.heap.size rb w w4) := hbt
    have HE4 : Hid (w4.heap[w.heap.size]? = some (.cells #[.int .i64 0, .string ⟨#[]⟩, .string ⟨#[]⟩, .int .i64 0, .slice none 0 0, .slice none 0 0] 32 (0, 0))) := e4
    clear hb4 hr4 hl4 hbt e4 hy
    go_wp2_with fail
    refine cV.mono ?_
    rintro e w5 ⟨tb5, v5, htb5, htz5, rfl, hr5, hl5, hb5⟩
    have hb05 := HBT.out.trans (hb5.less (base' := w.heap.size) (by omega))
    have henv := HENV.out w5 hb05
    obtain ⟨mx, hmx⟩ := henv.2.2.2
    have cF := set_is tb5 mx w5 (by omega) hmx henv.2.1
    rw [htb5] at cF
    have e5 := (hb5.block w.heap.size (by omega) (by omega)).trans HE4.out
    have hs5 := hb5.size
    have HX5 : Hid (RdS w5 rb v5 (c + 1) ∧ Ags w5 Ok B l5 v5 ∧ But w.heap.size rb w w5 ∧ w5.heap[w.heap.size]? = some (.cells #[.int .i64 0, .string ⟨#[]⟩, .string ⟨#[]⟩, .int .i64 0, .slice none 0 0, .slice none 0 0] 32 (0, 0))) := ⟨hr5, hl5, hb05, e5⟩
    have HT : Hid (((Sr.setF y.text l5 (c + 1)).map fun r => Sr.Ky.mk 11 [] [] 0 r []) = T) := HT0.out
    clear cV hr5 hl5 hb5 hb05 henv e5 htb5 HT0
    go_wp2_with fail
    refine cF.mono ?_
    rintro e w6 ⟨h6, hb6⟩
    clear cF
    have HB6 : Hid (But w.heap.size rb w w6) := HX5.out.2.2.1.trans (to_but (hb6.mono (by omega)))
    rcases h6 with ⟨h0, rfl⟩ | ⟨h0, rfl⟩ | ⟨rs, sv, h0, rfl, hst⟩
    ·have hT := HT.out
     rw [Sr.setF, h0] at hT
     subst hT
     clear HT HX5 hb6 h0
     unfold thrown
     go_wp2_with fail
     exact ⟨rfl, rfl, HB6.out⟩
    ·have hT := HT.out
     rw [Sr.setF, h0] at hT
     subst hT
     clear HT HX5 hb6 h0
     unfold thrown
     go_wp2_with fail
     exact ⟨rfl, rfl, HB6.out⟩
    ·have hT := HT.out
     rw [Sr.setF, h0] at hT
     subst hT
     obtain ⟨hr5, hl5, hb05, e5⟩ := HX5.out
     have e6 := (hb6.block w.heap.size (by omega)).trans e5
     have hkx : Kx w6 (fun q => w.heap.size + 1 ≤ q) (.mk 11 [] [] 0 rs []) [.int .i64 11, .string ⟨#[]⟩, .string ⟨#[]⟩, .int .i64 0, sv, .slice none 0 0] := Kx.mk 11 0 ⟨#[]⟩ ⟨#[]⟩ rs sv [] none 0 (fun _ => []) (hst.kept fun q hq _ => ⟨by omega, rfl⟩) (fun j k h => by simp at h) (Or.inl rfl)
     obtain ⟨sa, sc, rfl, _⟩ := hst
     obtain ⟨SL, hSL⟩ : ∃ n, rs.length = n := ⟨_, rfl⟩
     rw [hSL] at hkx
     rw [hSL]
     obtain ⟨⟨s0, s1, s2, s3, s4, s5⟩, ⟨sf0, sf1, sf2, sf3, sf4, sf5⟩, u0, u1, u2, u3, u4, u5⟩ := six_facts e6 (.int .i64 11) (.string ⟨#[]⟩) (.string ⟨#[]⟩) (.int .i64 0) (.slice sa SL sc) (.slice none 0 0)
     have HD : Hid (Out w rb B Ok (.ok (.mk 11 [] [] 0 rs []) l5 (c + 1)) (.returned (.agg #[.int .i64 11, .string ⟨#[]⟩, .string ⟨#[]⟩, .int .i64 0, .slice sa SL sc, .slice none 0 0])) _) := key_done hrb HO.out hkx (hr5.kept (hb6.block rb (by omega))) (hl5.kept fun k hk hlt => ⟨hk, hb6.block k hlt⟩) (hb05.trans (to_but (hb6.mono (by omega))))
     clear HT HX5 hr5 hl5 hb05 e5 e6 hb6 hkx h0 hSL
     go_wp2_with fail
     exact bodyPost_ret (v := .agg #[.int .i64 11, .string ⟨#[]⟩, .string ⟨#[]⟩, .int .i64 0, .slice sa SL sc, .slice none 0 0]) (by simp [results, Tryz.results38, go_sem, u0, u1, u2, u3, u4, u5]) rfl HD.out
end Go.Proofs.YtogigccbnohjjaaGreatDoor
namespace Go.Proofs.YtogigccbnohjjaaGreatDoor
open Go.RowKit Go.Proofs.Aid Go.Proofs.Sq Go.Proofs.Hd
set_option maxHeartbeats 20000000
set_option maxRecDepth 100000
theorem key_meas (rb c B d : Nat) (x : Sr.Ar) (l : List Sr.Ar) (v : Value) (Ok : Nat → Prop) (w : World) (henv : EnvB w rb) (hr : RdS w rb v c) (hl : Ags w Ok B (x :: l) v) (hB : B ≤ 2000000) (hrb : rb < w.heap.size) (hO : ∀ k, Ok k → k ≠ rb ∧ k < w.heap.size) (hd : d ≤ 6) (hc : c + 1 ≤ 60) (hx : x.kind ≠ 3) (bs : Sr.Tx) (hbs : bs ∈ Sr.wMeas) (hw : great x.text = bs) :
  Calls Tryz.prog 38 #[.pointer (some ⟨rb, 0, none⟩), .int .i64 (d : Int)] w fun e w' => Out w rb B Ok ((Sr.wordF l (c + 1)).then fun s l c => (Sr.numF s l c).map fun (n : Nat) => .mk (6 + (Sr.wMeas.idxOf bs : Int)) [] [] (n : Int) [] []) e w' := by
 obtain ⟨CD, hCD⟩ : ∃ z : Int, 6 + (Sr.wMeas.idxOf bs : Int) = z := ⟨_, rfl⟩
 rw [hCD]
 have HCM : Hid (∀ W, Calls Tryz.prog 69 #[.string ⟨bs.toArray⟩] W fun e w' => e = .returned (.int .i64 CD) ∧ w' = W) := fun W => by
  rw [← hCD]
  exact measure_is ⟨bs.toArray⟩ W (List.contains_iff_mem.2 hbs)
 clear hCD
 obtain ⟨RW, hwf⟩ : ∃ RW, Sr.wordF l (c + 1) = RW := ⟨_, rfl⟩
 rw [hwf]
 have HWF : Hid (Sr.wordF l (c + 1) = RW) := hwf
 have HENV : Hid (EnvB w rb) := henv
 obtain ⟨T, hT⟩ : ∃ T, (RW.then fun s l c => (Sr.numF s l c).map fun (n : Nat) => Sr.Ky.mk CD [] [] (n : Int) [] []) = T := ⟨_, rfl⟩
 rw [hT]
 have HT0 : Hid ((RW.then fun s l c => (Sr.numF s l c).map fun (n : Nat) => Sr.Ky.mk CD [] [] (n : Int) [] []) = T) := hT
 clear hwf henv hT
 obtain ⟨W1, W2, hW1, hW2, p1, f1, q1, q0, z2, hr2, hl2, hb2, hE2⟩ := key_begun rb c B (x :: l) v Ok w hr hl hrb hO
 have cW := word_ok rb (c + 1) B x l v Ok W2 hr2 hl2 (fun k hk => (hO k hk).1) hx
 obtain ⟨b, o, C, _, lv, rfl, hC, hC2, hOb, _, _, _, c1, _, _, _⟩ := hl2.head
 have hkb : (x.kind == 3) = false := by simpa using hx
 obtain ⟨K, hK⟩ : ∃ K, x.kind = K := ⟨_, rfl⟩
 rw [hK] at c1 hkb
 obtain ⟨L, hL⟩ : ∃ L, l.length = L := ⟨_, rfl⟩
 rw [hL] at q0 hC
 have HB : Hid (But w.heap.size rb w W2) := hb2
 have HE : Hid (W2.heap[w.heap.size]? = some (.cells #[.int .i64 0, .string ⟨#[]⟩, .string ⟨#[]⟩, .int .i64 0, .slice none 0 0, .slice none 0 0] 32 (0, 0))) := hE2
 have HO : Hid (∀ k, Ok k → k ≠ rb ∧ k < w.heap.size) := hO
 have HZ : Hid (W2.heap.size = w.heap.size + 1) := z2
 have HWD : Hid (great x.text = bs) := hw
 have d1 : decide ((6 : Int) < (d : Int)) = false := decide_eq_false (by omega)
 have d2 : decide ((60 : Int) < (c : Int) + 1) = false := decide_eq_false (by omega)
 clear hr hl hO hr2 hl2 hb2 hE2 hL z2 hx hK hw
 have hbl : bs.length ≤ 20 := (show ∀ b ∈ Sr.wMeas, b.length ≤ 20 by decide) bs hbs
 clear hbl
 simp only [Sr.wMeas, List.mem_cons, List.not_mem_nil, or_false] at hbs
 rcases hbs with rfl | rfl | rfl | rfl | rfl
 all_goals
  go_enter Tryz.func38, Tryz.ntmps38
  go_wp2_with fail
  refine cW.mono ?_
  rintro e w3 ⟨tb, v3, htb, htz, rfl, hr3, hl3, hb3⟩
  have cG := great_is tb w3 (by omega)
  rw [htb, HWD.out] at cG
  have hz := HZ.out
  have hs3 := hb3.size
  have HX : Hid (∀ W, Below w3.heap.size w3 W → RdS W rb v3 (c + 1) ∧ Ags W Ok B l v3 ∧ But w.heap.size rb w W ∧ W.heap[w.heap.size]? = some (.cells #[.int .i64 0, .string ⟨#[]⟩, .string ⟨#[]⟩, .int .i64 0, .slice none 0 0, .slice none 0 0] 32 (0, 0)) ∧ w.heap.size + 1 ≤ W.heap.size) := fun W hW =>
   ⟨hr3.kept (hW.block rb (by omega)), hl3.kept fun k hk hlt => ⟨hk, hW.block k hlt⟩, (HB.out.trans (hb3.less (by omega))).trans (to_but (hW.mono (by omega))), (hW.block w.heap.size (by omega)).trans ((hb3.block w.heap.size (by omega) (by omega)).trans HE.out), by have := hW.size; omega⟩
  clear cW hr3 hl3 hb3 htb
  go_wp2_with fail
  refine cG.mono ?_
  rintro e w4 ⟨rfl, hb4⟩
  obtain ⟨hr4, hl4, hbt, e4, hs4⟩ := HX.out w4 hb4
  clear cG HX
  have HM := HCM.out w4
  have hwf := HWF.out
  clear HWF
  cases RW with
  | bad n =>
   obtain rfl : n = 3 := by
    cases l with
    | nil => cases hwf; rfl
    | cons a r =>
     rw [Sr.wordF] at hwf
     split at hwf
     ·cases hwf; rfl
     ·cases hwf
   have cV := word_bad rb (c + 1) B l _ Ok w4 hr4 hl4 hwf
   unfold thrown at cV
   have HBT : Hid (But w.heap.size rb w w4) := hbt
   have hT := HT0.out
   clear hb4 hr4 hl4 hbt e4 hwf HT0
   subst hT
   go_wp2_with fail
   refine HM.mono ?_
   rintro e wq ⟨rfl, hwq⟩
   obtain rfl : w4 = wq := hwq.symm
   go_wp2_with fail
   refine cV.mono ?_
   rintro e w5 ⟨rfl, hw5⟩
   obtain rfl : w4 = w5 := hw5.symm
   go_wp2_with fail
   exact ⟨rfl, rfl, HBT.out⟩
  | ok t l5 c5 =>
   cases l with
   | nil => cases hwf
   | cons y r =>
    rw [Sr.wordF] at hwf
    split at hwf
    ·cases hwf
    ·rename_i hy
     cases hwf
     have cV := word_ok rb (c + 1) B y _ _ Ok w4 hr4 hl4 (fun k hk => (HO.out k hk).1) hy
     have HBT : Hid (But w.heap.size rb w w4) := hbt
     have HE4 : Hid (w4.heap[w.heap.size]? = some (.cells #[.int .i64 0, .string ⟨#[]⟩, .string ⟨#[]⟩, .int .i64 0, .slice none 0 0, .slice none 0 0] 32 (0, 0))) := e4
     clear hb4 hr4 hl4 hbt e4 hy
     go_wp2_with fail
     refine HM.mono ?_
     rintro e wq ⟨rfl, hwq⟩
     obtain rfl : w4 = wq := hwq.symm
     go_wp2_with fail
     refine cV.mono ?_
     rintro e w5 ⟨tb5, v5, htb5, htz5, rfl, hr5, hl5, hb5⟩
     have hb05 := HBT.out.trans (hb5.less (base' := w.heap.size) (by omega))
     have henv := HENV.out w5 hb05
     have e5 := (hb5.block w.heap.size (by omega) (by omega)).trans HE4.out
     have hs5 := hb5.size
     have HX5 : Hid (RdS w5 rb v5 (c + 1) ∧ Ags w5 Ok B l5 v5 ∧ But w.heap.size rb w w5 ∧ w5.heap[w.heap.size]? = some (.cells #[.int .i64 0, .string ⟨#[]⟩, .string ⟨#[]⟩, .int .i64 0, .slice none 0 0, .slice none 0 0] 32 (0, 0))) := ⟨hr5, hl5, hb05, e5⟩
     have HT : Hid (((Sr.numF y.text l5 (c + 1)).map fun (n : Nat) => Sr.Ky.mk CD [] [] (n : Int) [] []) = T) := HT0.out
     cases hnn : Sr.numN y.text with
     | none =>
      have cF := number_bad tb5 w5 (by omega) henv.2.2.1 (by rw [htb5]; exact hnn)
      clear cV hr5 hl5 hb5 hb05 henv e5 htb5 HT0 HM
      go_wp2_with fail
      refine cF.mono ?_
      rintro e w6 ⟨rfl, hb6⟩
      have HB6 : Hid (But w.heap.size rb w w6) := HX5.out.2.2.1.trans (to_but (hb6.mono (by omega)))
      have hT := HT.out
      rw [Sr.numF, hnn] at hT
      subst hT
      clear HT HX5 hb6 hnn cF
      unfold thrown
      go_wp2_with fail
      exact ⟨rfl, rfl, HB6.out⟩
     | some n =>
      have cF := number_ok tb5 n w5 (by omega) henv.2.2.1 (by rw [htb5]; exact hnn)
      clear cV hr5 hl5 hb5 hb05 henv e5 htb5 HT0 HM
      go_wp2_with fail
      refine cF.mono ?_
      rintro e w6 ⟨rfl, hb6⟩
      have hT := HT.out
      rw [Sr.numF, hnn] at hT
      subst hT
      obtain ⟨hr5, hl5, hb05, e5⟩ := HX5.out
      have e6 := (hb6.block w.heap.size (by omega)).trans e5
      have HKX : Hid (Kx w6 (fun q => w.heap.size + 1 ≤ q) (.mk CD [] [] (n : Int) [] []) [.int .i64 CD, .string ⟨#[]⟩, .string ⟨#[]⟩, .int .i64 (n : Int), .slice none 0 0, .slice none 0 0]) := kx_leaf w6 _ CD (n : Int) ⟨#[]⟩ ⟨#[]⟩
      obtain ⟨⟨s0, s1, s2, s3, s4, s5⟩, ⟨sf0, sf1, sf2, sf3, sf4, sf5⟩, u0, u1, u2, u3, u4, u5⟩ := six_facts e6 (.int .i64 CD) (.string ⟨#[]⟩) (.string ⟨#[]⟩) (.int .i64 (n : Int)) (.slice none 0 0) (.slice none 0 0)
      have HD : Hid (Out w rb B Ok (.ok (.mk CD [] [] (n : Int) [] []) l5 (c + 1)) (.returned (.agg #[.int .i64 CD, .string ⟨#[]⟩, .string ⟨#[]⟩, .int .i64 (n : Int), .slice none 0 0, .slice none 0 0])) _) := key_done hrb HO.out (HKX.out) (hr5.kept (hb6.block rb (by omega))) (hl5.kept fun k hk hlt => ⟨hk, hb6.block k hlt⟩) (hb05.trans (to_but (hb6.mono (by omega))))
      clear HT HX5 hr5 hl5 hb05 e5 e6 hb6 hnn cF HKX
      go_wp2_with fail
      exact bodyPost_ret (v := .agg #[.int .i64 CD, .string ⟨#[]⟩, .string ⟨#[]⟩, .int .i64 (n : Int), .slice none 0 0, .slice none 0 0]) (by simp [results, Tryz.results38, go_sem, u0, u1, u2, u3, u4, u5]) rfl HD.out
end Go.Proofs.YtogigccbnohjjaaGreatDoor
