/-
  What the method counted of wire.reader does.
-/
import Derived.Test.YtligkpcoajnjmaaDoorWireWord
namespace Go.Proofs.YtligkpcoajnjmaaDoor
open Go.RowKit Go.Proofs.Aid Go.Proofs.Hd

theorem cut_len (l sep : Tx) : (Lib.cut l sep).1.length ≤ l.length ∧ (Lib.cut l sep).2.1.length ≤ l.length := by
  unfold Lib.cut
  split
  · simp only [List.length_take, List.length_drop]; omega
  · simp
set_option maxHeartbeats 2000000 in
set_option maxRecDepth 100000 in
theorem counted_is (rb p c : Nat) (s : ByteArray) (m : Int) (w : World) (hr : RdW w rb s p c) (hs : s.size ≤ 1000000) (h : tookW [123] s.data.toList p = true)
    (hm : ∀ W, Below w.heap.size w W → W.cell? ⟨0, 0, none⟩ = some (.int .i64 m)) (hg : NumAt w) :
    Calls Tryd.prog 75 #[.pointer (some ⟨rb, 0, none⟩)] w fun e w' => OutT w rb s (countedW s.data.toList p c) e w' := by
  have hp : p < s.size := by
    have := (List.getElem?_eq_some_iff.1 (took_one.1 h)).1
    rw [wsize] at this; exact this
  have cR := rest_is rb p c s w hr (by omega)
  have hre := rest_list s p
  have hrs : (s.extract p s.size).size = s.size - p := by rw [← wsize, hre, List.length_drop, wsize]
  obtain ⟨Q, hQ⟩ : ∃ Q, s.extract p s.size = Q := ⟨_, rfl⟩
  rw [hQ] at cR hre hrs
  have hqe : (Q.extract 1 Q.size).data.toList = (s.data.toList.drop p).drop 1 := by rw [Lib.extract_to_end, hre]
  obtain ⟨Y, hY⟩ : ∃ Q', Q.extract 1 Q.size = Q' := ⟨_, rfl⟩
  rw [hY] at hqe
  have hYs : Y.size ≤ s.size := by rw [← wsize, hqe, List.length_drop, List.length_drop, wsize]; omega
  have cC : ∀ W, Below w.heap.size w W → Calls Tryd.prog 30 #[.string Y, .string ⟨#[125, 13, 10]⟩] W fun e w' => e = .returned (.tuple #[.string ⟨(Lib.cut ((s.data.toList.drop p).drop 1) [125, 13, 10]).1.toArray⟩, .string ⟨(Lib.cut ((s.data.toList.drop p).drop 1) [125, 13, 10]).2.1.toArray⟩, .bool (Lib.cut ((s.data.toList.drop p).drop 1) [125, 13, 10]).2.2]) ∧ ∃ n, w' = W.drewN n := fun W hW => by
    have := Tryd.strings_Cut Y ⟨#[125, 13, 10]⟩ m W (by omega) (hm W hW)
    rw [hqe] at this
    exact this
  obtain ⟨T, hT⟩ : ∃ T, countedW s.data.toList p c = T := ⟨_, rfl⟩
  rw [hT]
  unfold countedW at hT
  obtain ⟨cl1, cl2⟩ := cut_len ((s.data.toList.drop p).drop 1) [125, 13, 10]
  obtain ⟨⟨c1, c2, c3⟩, hcut⟩ : ∃ q, Lib.cut ((s.data.toList.drop p).drop 1) [125, 13, 10] = q := ⟨_, rfl⟩
  rw [hcut] at cC hT cl1 cl2
  simp only [List.length_drop, wsize] at cl1 cl2
  obtain ⟨A, hA⟩ : ∃ A : ByteArray, ⟨c1.toArray⟩ = A := ⟨_, rfl⟩
  obtain ⟨B, hB⟩ : ∃ A : ByteArray, ⟨c2.toArray⟩ = A := ⟨_, rfl⟩
  have hAl : A.data.toList = c1 := by rw [← hA]
  have hBl : B.data.toList = c2 := by rw [← hB]
  have hAs : A.size ≤ 1000000 := by rw [← wsize, hAl]; omega
  have hBs : B.size ≤ s.size := by rw [← wsize, hBl]; omega
  have hBc : c2.length = B.size := by rw [← wsize, hBl]
  have cC : ∀ W, Below w.heap.size w W → Calls Tryd.prog 30 #[.string Y, .string ⟨#[125, 13, 10]⟩] W fun e w' => e = .returned (.tuple #[.string A, .string B, .bool c3]) ∧ ∃ n, w' = W.drewN n := fun W hW => by
    have := cC W hW
    rw [hA, hB] at this
    exact this
  have cN := fun W h => wnumber_is A W (by omega) h
  rw [hAl] at cN
  obtain ⟨NN, hNN⟩ : ∃ o, numW c1 = o := ⟨_, rfl⟩
  rw [hNN] at cN
  have HNW : Hid (∀ W, Below w.heap.size w W → NumAt W) := fun W h => hg.below h
  have HR : Hid (RdW w rb s p c) := hr
  have HT : Hid ((if c3 = false then Wd.bad 3 p else match NN with
    | none => .bad 3 p
    | some n => if B.size < n then .bad 3 p else .ok (c2.take n) (s.size - B.size + n) c) = T) := by
    have := hT
    simp only [hNN, hBc, wsize] at this
    exact this
  have HNL : Hid (∀ n, NN = some n → n ≤ 4611686018427387904) := fun n e => numW_le (by rw [hNN, e])
  have HBL : Hid (B.data.toList = c2) := hBl
  have hQ1 : 1 ≤ Q.size := by omega
  clear hr hre hT hqe hA hB hAl hBl hNN hcut hg hm hrs cl1 cl2 hBc h hAs
  go_enter Tryd.func75, Tryd.ntmps75
  go_wp2_with fail
  refine cR.mono ?_
  rintro e w1 ⟨rfl, hb1⟩
  have HR1 : Hid (RdW w1 rb s p c ∧ Below w.heap.size w w1) := ⟨HR.out.kept (hb1.block rb HR.out.lt), hb1⟩
  clear cR hb1
  go_wp2_with fail
  refine (cC _ HR1.out.2).mono ?_
  rintro e w2 ⟨rfl, n2, rfl⟩
  have HR2 : Hid (RdW (w1.drewN n2) rb s p c ∧ Below w.heap.size w (w1.drewN n2)) := ⟨HR1.out.1.kept ((below_drewN (Below.refl w1.heap.size w1) n2).block rb HR1.out.1.lt), below_drewN HR1.out.2 n2⟩
  clear cC HR1
  generalize w1.drewN n2 = w2 at HR2 ⊢
  go_wp2_with fail
  refine (cN _ (HNW.out _ HR2.out.2)).mono ?_
  rintro e w3 ⟨rfl, hb3⟩
  have HR3 : Hid (RdW w3 rb s p c ∧ Below w.heap.size w w3) := ⟨HR2.out.1.kept (hb3.block rb HR2.out.1.lt), HR2.out.2.trans (hb3.mono HR2.out.2.size)⟩
  clear cN hb3 HR2
  have cF := fail_is rb p c 3 s w3 HR3.out.1
  unfold thrownA at cF
  have HFB : Hid (∀ w4, AtIs w4 w3.heap.size 3 p → Below w3.heap.size w3 w4 → OutT w rb s (.bad 3 p) (thrownA w3.heap.size) w4) := fun w4 h1 h2 => ⟨_, rfl, HR3.out.2.size, h1, to_but (HR3.out.2.trans (h2.mono HR3.out.2.size))⟩
  unfold thrownA at HFB
  cases c3 with
  | false =>
    have hT := HT.out
    rw [if_pos rfl] at hT
    subst hT
    clear HT
    go_wp2_with fail
    refine cF.mono ?_
    rintro e w4 ⟨rfl, ha, hb4⟩
    have HD := HFB.out w4 ha hb4
    have HD : Hid _ := HD
    clear cF ha hb4
    go_wp2_with fail
    exact ⟨rfl, HD.out⟩
  | true =>
    cases NN with
    | none =>
      have hT := HT.out
      rw [if_neg (by simp)] at hT
      simp only at hT
      subst hT
      clear HT
      go_wp2_with fail
      refine cF.mono ?_
      rintro e w4 ⟨rfl, ha, hb4⟩
      have HD := HFB.out w4 ha hb4
      have HD : Hid _ := HD
      clear cF ha hb4
      go_wp2_with fail
      exact ⟨rfl, HD.out⟩
    | some n =>
      have hn := HNL.out n rfl
      by_cases h4 : B.size < n
      · have hT := HT.out
        rw [if_neg (by simp)] at hT
        simp only at hT
        rw [if_pos h4] at hT
        subst hT
        clear HT
        have d1 : decide ((B.size : Int) < (n : Int)) = true := decide_eq_true (by omega)
        go_wp2_with fail
        refine cF.mono ?_
        rintro e w4 ⟨rfl, ha, hb4⟩
        have HD := HFB.out w4 ha hb4
        have HD : Hid _ := HD
        clear cF ha hb4
        go_wp2_with fail
        exact ⟨rfl, HD.out⟩
      · have hT := HT.out
        rw [if_neg (by simp)] at hT
        simp only at hT
        rw [if_neg h4] at hT
        obtain ⟨P2, hP2⟩ : ∃ q, s.size - B.size + n = q := ⟨_, rfl⟩
        have q2 : (s.size : Int) - (B.size : Int) + (n : Int) = (P2 : Int) := by omega
        rw [hP2] at hT
        subst hT
        have d1 : decide ((B.size : Int) < (n : Int)) = false := decide_eq_false (by omega)
        have p0 : w3.cell? ⟨rb, 0, none⟩ = some (.string s) := rd_cell HR3.out.1 rfl
        have p1 : w3.cell? ⟨rb, 1, none⟩ = some (.int .i64 (p : Int)) := rd_cell HR3.out.1 rfl
        have g1 : w3.frozen? ⟨rb, 1, none⟩ = false := rd_free HR3.out.1 1
        have hset : RdW (w3.setCell ⟨rb, 1, none⟩ (.int .i64 (P2 : Int))) rb s P2 c := rd_set (i := 1) (.int .i64 (P2 : Int)) HR3.out.1
        have HD : Hid (RdW (w3.setCell ⟨rb, 1, none⟩ (.int .i64 (P2 : Int))) rb s P2 c ∧ But w.heap.size rb w (w3.setCell ⟨rb, 1, none⟩ (.int .i64 (P2 : Int)))) := ⟨hset, (to_but HR3.out.2).setB 1 _⟩
        have HX : Hid ((B.extract 0 n).data.toList = c2.take n) := by show _ = _; rw [Lib.extract_from_zero, HBL.out]
        clear HT hset cF HFB hP2
        go_wp2_with fail
        go_ret
        exact ⟨_, rfl, HX.out, HD.out⟩
end Go.Proofs.YtligkpcoajnjmaaDoor
