/-
  Sights that go: slices.DeleteFunc.
-/
import Derived.Test.YtgpcnacpefficaaGreatDoorMViewDel
namespace Go.Proofs.YtgpcnacpefficaaGreatDoor
open Go.RowKit Go.Proofs.Aid Go.Proofs.Bx

theorem idxS_split (p : Int → Bool) (S : List Sg) : ∃ A B, S = A ++ B ∧ A.length = idxS p S ∧ (∀ s ∈ A, p s.uid = false) ∧ ∀ b B', B = b :: B' → p b.uid = true := by
  refine ⟨S.takeWhile fun s => !p s.uid, S.dropWhile fun s => !p s.uid, by simp, rfl, fun s hs => ?_, fun b B' hb => ?_⟩
  · have := List.all_eq_true.1 (List.all_takeWhile (p := fun s : Sg => !p s.uid) (l := S)) s hs
    simpa using this
  · have h1 := List.head?_dropWhile_not (fun s : Sg => !p s.uid) S
    rw [hb] at h1
    simpa using h1
theorem keepS_le (p : Int → Bool) (S : List Sg) : (keepS p S).length ≤ S.length := List.length_filter_le _ _
/-- Behind some rounds of DeleteFunc. -/
def DState (w : World) (g c N : Nat) (p : Int → Bool) (S : List Sg) (i j : Nat) (wr : World) : Prop :=
  ∃ T : List Sg, T.length = N ∧ i = (keepS p (S.take j)).length ∧ T.take i = keepS p (S.take j) ∧ T.drop j = S.drop j ∧ Sgs wr (.slice (some ⟨g, 0, none⟩) N c) T ∧ But w.heap.size g w wr
theorem but_set2 {base g i : Nat} {w w' : World} {x y : Value} (h : But base g w w') : But base g w ((w'.setCell ⟨g, i * 2, none⟩ x).setCell ⟨g, i * 2 + 1, none⟩ y) := (h.setB _ _).setB _ _
set_option maxHeartbeats 4000000 in
set_option maxRecDepth 100000 in
theorem del_is (f : FuncId) (caps : List Value) (g c N : Nat) (p : Int → Bool) (S : List Sg) (w : World) (h : Sgs w (.slice (some ⟨g, 0, none⟩) N c) S) (hN : S.length = N) (hS : N ≤ 900) (eg : ∀ args w, (callFunc f args).run Tryz.prog w = .ok (.enter f args) w) (hp : Goes f caps g p w) :
    Calls Tryz.prog 72 #[.slice (some ⟨g, 0, none⟩) N c, .func (.func f) #[] caps.toArray] w fun e w' =>
      e = .returned (.slice (some ⟨g, 0, none⟩) (keepS p S).length c) ∧ Sgs w' (.slice (some ⟨g, 0, none⟩) (keepS p S).length c) (keepS p S) ∧ But w.heap.size g w w' := by
  have cI := index_is f caps g p _ S w h (by rw [hN]; exact hS) eg hp
  rw [hN] at cI
  obtain ⟨A, B, hAB, hAl, hA, hB⟩ := idxS_split p S
  have HH : Hid (Sgs w (.slice (some ⟨g, 0, none⟩) N c) S) := h
  have HP : Hid (Goes f caps g p w) := hp
  have HN : Hid (S.length = N) := hN
  have hgl : g < w.heap.size := h.lt rfl
  have HCAP : Hid (N ≤ c) := by
    obtain ⟨rows, h1, _⟩ := h
    rcases h1.2 with ⟨h0, _⟩ | ⟨g2, _, _, h0, _, _, h6, _⟩
    · cases h0
    · injection h0 with _ _ h0; rw [← HN.out]; subst h0; exact h6
  obtain ⟨I, hI⟩ : ∃ I, idxS p S = I := ⟨_, rfl⟩
  rw [hI] at cI hAl
  obtain ⟨K, hK⟩ : ∃ K, (keepS p S).length = K := ⟨_, rfl⟩
  rw [hK]
  have HKK : Hid ((keepS p S).length = K) := hK
  by_cases hlt : I < N
  · rw [if_pos hlt] at cI
    have HST : Hid (keepS p (S.take (I + 1)) = A ∧ S.take I = A ∧ A.length = I) := by
      have h1 : S.take I = A := by rw [hAB, ← hAl, List.take_left]
      have hsk : S[I]? = some (S[I]'(by omega)) := List.getElem?_eq_getElem (by omega)
      refine ⟨?_, h1, hAl⟩
      rw [keepS_next hsk, h1, keepS_all hA]
      have h2 : p (S[I]'(by omega)).uid = true := by
        cases B with
        | nil => rw [List.append_nil] at hAB; subst hAB; omega
        | cons b B' =>
          have h3 : S[I]? = some b := by rw [hAB, ← hAl, List.getElem?_append_right (Nat.le_refl _), Nat.sub_self]; rfl
          rw [hsk] at h3
          rw [Option.some.inj h3]
          exact hB b B' rfl
      rw [if_pos h2, List.append_nil]
    have hI1 : ((I : Int) == -1) = false := by rw [beq_eq_false_iff_ne]; omega
    clear h hp hN hAB hAl hA hB hI hK
    go_enter Tryz.func72, Tryz.ntmps72
    go_wp2_with fail
    refine cI.mono ?_
    rintro e w1 ⟨rfl, hb1⟩
    have HB1 : Hid (Below w.heap.size w w1) := hb1
    clear cI hb1
    go_wp2_with fail
    go_loopw [5, 6] (fun iv jv wr => ∃ i j : Nat, iv = .int .i64 (i : Int) ∧ jv = .int .i64 (j : Int) ∧ i < j ∧ j ≤ N ∧ Hid (DState w g c N p S i j wr)) (fun _ jv _ => N - (intOf jv).toNat)
    case atStart =>
      refine ⟨I, I + 1, rfl, by go_num, by omega, by omega, S, HN.out, ?_, ?_, rfl, HH.out.below HB1.out, to_but HB1.out⟩
      · rw [HST.out.1, HST.out.2.2]
      · rw [HST.out.1, HST.out.2.1]
    case round =>
      obtain ⟨i, j, rfl, rfl, hij, hjN, HD⟩ := hrel
      by_cases hlt2 : j < N
      · obtain ⟨T, t1, t2, t3, t4, t5, t6⟩ := HD.out
        have hjl : j < S.length := by rw [HN.out]; exact hlt2
        obtain ⟨s, hs⟩ : ∃ s, S[j] = s := ⟨_, rfl⟩
        have hsk : S[j]? = some s := by rw [List.getElem?_eq_getElem hjl, hs]
        have htk : T[j]? = some s := by
          have := congrArg (fun l => l[0]?) t4
          simpa [List.getElem?_drop, hsk] using this
        have HSK : Hid (S[j]? = some s) := hsk
        obtain ⟨g2, c2, fv, e0, hgl2, q0, q1, hsf⟩ := sgs_at t5 htk
        rw [t1] at e0
        injection e0 with e0 _ e00
        injection e0 with e0
        injection e0 with e0 _ _
        subst e0
        subst e00
        obtain ⟨fa, fc, rfl, _⟩ := id hsf
        obtain ⟨U, hU⟩ : ∃ u, s.uid = u := ⟨_, rfl⟩
        obtain ⟨FLs, hFLs⟩ : ∃ n, s.flags.length = n := ⟨_, rfl⟩
        rw [hU] at q0
        rw [hFLs] at q1 hsf
        have HU : Hid (s.uid = U) := hU
        have HSF : Hid (Sl wr (.slice fa FLs fc) s.flags) := hsf
        have bA : Below wr.heap.size wr (wr.alloc (.cells #[.int .i64 U, .slice fa FLs fc] 86)) := (Below.refl _ _).alloc (Nat.le_refl _) _
        have hzr := t6.size
        have cP := HP.out _ (t6.trans (to_but (bA.mono hzr))) (Nat.le_trans hzr bA.size) U fa FLs fc
        obtain ⟨pb, hpb⟩ : ∃ b, p U = b := ⟨_, rfl⟩
        rw [hpb] at cP
        have HPB : Hid (p s.uid = pb) := by show p s.uid = pb; rw [hU]; exact hpb
        have HBA : Hid (Below wr.heap.size wr (wr.alloc (.cells #[.int .i64 U, .slice fa FLs fc] 86))) := bA
        clear hs hsk htk hU hFLs hsf hpb bA t1 t2 t3 t4 t5 t6
        go_wp2_with fail
        refine cP.mono ?_
        rintro e w5 ⟨rfl, hb5⟩
        have HB5 : Hid (Below wr.heap.size wr w5) := HBA.out.trans (hb5.mono (by simp))
        have a0 : w5.cell? ⟨wr.heap.size, 0, none⟩ = some (.int .i64 U) := (hb5.cell (p := ⟨wr.heap.size, _, none⟩) (by simp)).trans (rd_cell (heap_alloc_new _ _) rfl)
        have a1 : w5.cell? ⟨wr.heap.size, 1, none⟩ = some (.slice fa FLs fc) := (hb5.cell (p := ⟨wr.heap.size, _, none⟩) (by simp)).trans (rd_cell (heap_alloc_new _ _) rfl)
        clear cP hb5
        cases pb with
        | true =>
          have HNX : Hid (DState w g c N p S i (j + 1) w5) := by
            obtain ⟨T, t1, t2, t3, t4, t5, t6⟩ := HD.out
            have hkn : keepS p (S.take (j + 1)) = keepS p (S.take j) := by rw [keepS_next HSK.out, if_pos HPB.out, List.append_nil]
            exact ⟨T, t1, by rw [hkn]; exact t2, by rw [hkn]; exact t3, by rw [← List.drop_drop, t4, List.drop_drop], t5.below HB5.out, t6.trans (to_but (HB5.out.mono t6.size))⟩
          go_wp2_with fail
          go_roundw
          case rel => exact ⟨i, j + 1, rfl, by go_num, by omega, by omega, HNX.out⟩
          case measure => simp [intOf]; omega
        | false =>
          have HRW : Hid (∃ cur, w5.heap[g]? = some (.cells cur 86 (0, 0)) ∧ cur.size = c * 2) := by
            obtain ⟨T, t1, t2, t3, t4, t5, t6⟩ := HD.out
            obtain ⟨rows, h1, _⟩ := t5.below HB5.out
            rcases h1.2 with ⟨h0, _⟩ | ⟨g2, _, cur, h0, _, hh, _, _, hcs, _⟩
            · cases h0
            · injection h0 with h0 _ h00
              injection h0 with h0
              injection h0 with h0 _ _
              subst h0
              subst h00
              exact ⟨cur, hh, hcs⟩
          obtain ⟨cur, hcur, hcs⟩ := HRW.out
          have hcapN := HCAP.out
          obtain ⟨x0, hx0⟩ : ∃ x, w5.cell? ⟨g, i * 2, none⟩ = some x := ⟨cur[i * 2]'(by omega), rd_cell hcur (Array.getElem?_eq_getElem (by omega))⟩
          obtain ⟨x1, hx1⟩ : ∃ x, w5.cell? ⟨g, i * 2 + 1, none⟩ = some x := ⟨cur[i * 2 + 1]'(by omega), rd_cell hcur (Array.getElem?_eq_getElem (by omega))⟩
          have hf0 := rd_free hcur (i * 2)
          have hf1 := rd_free hcur (i * 2 + 1)
          have HNX : Hid (DState w g c N p S (i + 1) (j + 1) ((w5.setCell ⟨g, i * 2, none⟩ (.int .i64 U)).setCell ⟨g, i * 2 + 1, none⟩ (.slice fa FLs fc))) := by
            obtain ⟨T, t1, t2, t3, t4, t5, t6⟩ := HD.out
            have hkn : keepS p (S.take (j + 1)) = keepS p (S.take j) ++ [s] := by rw [keepS_next HSK.out, if_neg (by rw [HPB.out]; decide)]
            have hput := sgs_put (k := i) (x := s) (t5.below HB5.out) t1 (by omega) (HSF.out.below HB5.out (Nat.le_refl _))
            rw [HU.out] at hput
            refine ⟨T.set i s, by rw [List.length_set]; exact t1, by rw [hkn, List.length_append, ← t2]; rfl, ?_, ?_, hput, but_set2 (t6.trans (to_but (HB5.out.mono t6.size)))⟩
            · rw [hkn, ← t3, List.take_add_one, List.take_set_of_le (Nat.le_refl _), List.getElem?_set, if_pos rfl, if_pos (by omega)]
              rfl
            · rw [List.drop_set_of_lt (by omega), ← List.drop_drop, t4, List.drop_drop]
          clear HD HRW hcur hcs HSF
          go_wp2_with fail
          go_roundw
          case rel => exact ⟨i + 1, j + 1, by go_num, by go_num, by omega, by omega, HNX.out⟩
          case measure => simp [intOf]; omega
      · obtain rfl : j = N := by omega
        have HE : Hid (i = K ∧ Sgs (wr.setCells g (i * 2) (Builtin.zeroCells #[.int .i64 0, .slice none 0 0] (j - i)).toList) (.slice (some ⟨g, 0, none⟩) i c) (keepS p S) ∧ But w.heap.size g w (wr.setCells g (i * 2) (Builtin.zeroCells #[.int .i64 0, .slice none 0 0] (j - i)).toList)) := by
          obtain ⟨T, t1, t2, t3, t4, t5, t6⟩ := HD.out
          rw [List.take_of_length_le (l := S) (by rw [HN.out]; exact Nat.le_refl _)] at t2 t3
          refine ⟨by rw [t2]; exact HKK.out, ?_, ?_⟩
          · rw [← t3]
            exact sgs_cut t5 t1 (by omega) _ (zeroCells_all (fun u hu s => by
              have : u = .int .i64 0 ∨ u = .slice none 0 0 := by simpa using hu
              rcases this with rfl | rfl <;> (intro e; cases e)) _)
          · obtain ⟨o1, o2, o3, o4⟩ := setCells_os g (Builtin.zeroCells #[.int .i64 0, .slice none 0 0] (j - i)).toList (i * 2) wr
            exact ⟨o1.trans t6.os, o2.trans t6.tape, o3.trans t6.output, by rw [o4]; exact t6.size, fun q hq hne => (setCells_other g _ _ _ q hne).trans (t6.block q hq hne)⟩
        obtain ⟨cur, hcur, hcs⟩ : ∃ cur, wr.heap[g]? = some (.cells cur 86 (0, 0)) ∧ cur.size = c * 2 := by
          obtain ⟨T, t1, t2, t3, t4, t5, t6⟩ := HD.out
          obtain ⟨rows, h1, _⟩ := t5
          rcases h1.2 with ⟨h0, _⟩ | ⟨g2, _, cur, h0, _, hh, _, _, hcs, _⟩
          · cases h0
          · injection h0 with h0 _ h00
            injection h0 with h0
            injection h0 with h0 _ _
            subst h0
            subst h00
            exact ⟨cur, hh, hcs⟩
        have hcapN := HCAP.out
        have hzl : (Builtin.zeroCells #[.int .i64 0, .slice none 0 0] (j - i)).toList.length = (j - i) * 2 := by simp [Builtin.zeroCells]
        have hcl : ∀ ty, (Builtin.clear_ #[60] ty #[.slice (some ⟨g, i * 2, none⟩) (j - i) (c - i)]).run Tryz.prog wr = .ok (.tuple #[]) (wr.setCells g (i * 2) (Builtin.zeroCells #[.int .i64 0, .slice none 0 0] (j - i)).toList) := fun ty =>
          run_clear_rows wr _ _ ty (.agg #[.int .i64 0, .slice none 0 0]) Tryz.underlying60 (by
            obtain ⟨j0, hj, hz, _, _⟩ := info_parts Tryz.infoSg
            intro W
            simp [zeroValue, typeInfo, hj, hz]) g (i * 2) (j - i) (c - i) (by omega) (fun u hu => zeroCells_all (F := fun u => u.oneCell' = true) (fun u hu => by
              have : u = .int .i64 0 ∨ u = .slice none 0 0 := by simpa [Value.cells] using hu
              rcases this with rfl | rfl <;> rfl) _ u hu) (fun k hk => by
              have hk : k < (j - i) * 2 := by rw [← hzl]; exact hk
              rw [rd_cell hcur (Array.getElem?_eq_getElem (show i * 2 + k < cur.size by omega))]; rfl) (fun k _ => rd_free hcur _)
        clear HD hcur hcs hzl
        go_wp2_with fail
        go_ret
        obtain ⟨rfl, h1, h2⟩ := HE.out
        exact ⟨rfl, h1, h2⟩
  · rw [if_neg hlt] at cI
    have hks : keepS p S = S := by
      refine keepS_all fun s hs => ?_
      have hBl : B = [] := by
        have := congrArg List.length hAB
        rw [List.length_append] at this
        exact List.eq_nil_of_length_eq_zero (by omega)
      rw [hBl, List.append_nil] at hAB
      exact hA s (hAB ▸ hs)
    rw [hks] at HKK ⊢
    obtain rfl : N = K := HN.out.symm.trans HKK.out
    clear h hp hN hAB hAl hA hB hI hK hks
    go_enter Tryz.func72, Tryz.ntmps72
    go_wp2_with fail
    refine cI.mono ?_
    rintro e w1 ⟨rfl, hb1⟩
    have HB1 : Hid (Below w.heap.size w w1) := hb1
    clear cI hb1
    go_wp2_with fail
    go_ret
    exact ⟨rfl, HH.out.below HB1.out, to_but HB1.out⟩
set_option maxHeartbeats 1000000 in
theorem del_nil (f : FuncId) (caps : List Value) (p : Int → Bool) (w : World) (eg : ∀ args w, (callFunc f args).run Tryz.prog w = .ok (.enter f args) w) (hp : Goes f caps w.heap.size p w) :
    Calls Tryz.prog 72 #[.slice none 0 0, .func (.func f) #[] caps.toArray] w fun e w' => e = .returned (.slice none 0 0) ∧ Below w.heap.size w w' := by
  have cI := index_is f caps w.heap.size p (.slice none 0 0) [] w (Sgs.nil w) (by simp) eg hp
  rw [if_neg (by simp)] at cI
  go_enter Tryz.func72, Tryz.ntmps72
  go_wp2_with fail
  refine cI.mono ?_
  rintro e w1 ⟨rfl, hb1⟩
  have HB1 : Hid (Below w.heap.size w w1) := hb1
  clear cI hb1
  go_wp2_with fail
  go_ret
  exact ⟨rfl, HB1.out⟩
theorem del_any (f : FuncId) (caps : List Value) (a : Option Addr) (c N : Nat) (p : Int → Bool) (S : List Sg) (w : World) (h : Sgs w (.slice a N c) S) (hN : S.length = N) (hS : N ≤ 900) (eg : ∀ args w, (callFunc f args).run Tryz.prog w = .ok (.enter f args) w) (hp : ∀ g, NoStr w g → (Value.slice a N c).ownBlock = some g ∨ g = w.heap.size → Goes f caps g p w) :
    Calls Tryz.prog 72 #[.slice a N c, .func (.func f) #[] caps.toArray] w fun e w' =>
      e = .returned (.slice a (keepS p S).length c) ∧ Sgs w' (.slice a (keepS p S).length c) (keepS p S) ∧ VKeep w.heap.size (.slice a N c) w w' := by
  cases a with
  | none =>
    obtain ⟨rows, h1, _⟩ := h
    rcases h1.2 with ⟨h0, h2⟩ | ⟨g, _, _, h0, _⟩
    · injection h0 with _ h3 h4
      subst h3
      subst h4
      have hS0 : S = [] := List.eq_nil_of_length_eq_zero hN
      subst hS0
      refine (del_nil f caps p w eg (hp w.heap.size (fun i s hc => ?_) (Or.inr rfl))).mono ?_
      · exact absurd (World.block_lt_of_cell? _ _ hc) (Nat.lt_irrefl _)
      · rintro e w' ⟨rfl, hb⟩
        exact ⟨rfl, Sgs.nil _, VKeep.of hb⟩
    · cases h0
  | some ad =>
    obtain ⟨g, rfl⟩ : ∃ g, ad = ⟨g, 0, none⟩ := by
      obtain ⟨rows, h1, _⟩ := id h
      rcases h1.2 with ⟨h0, h2⟩ | ⟨g, _, _, h0, _⟩
      · cases h0
      · injection h0 with h0 _ _
        exact ⟨g, Option.some.inj h0⟩
    refine (del_is f caps g c N p S w h hN hS eg (hp g (h.noStr rfl) (Or.inl rfl))).mono ?_
    rintro e w' ⟨rfl, h1, h2⟩
    exact ⟨rfl, h1, ⟨h2.os, h2.tape, h2.output, h2.size, fun q hq _ hne => h2.block q hq (fun e => hne (by rw [e]; rfl))⟩⟩
end Go.Proofs.YtgpcnacpefficaaGreatDoor
