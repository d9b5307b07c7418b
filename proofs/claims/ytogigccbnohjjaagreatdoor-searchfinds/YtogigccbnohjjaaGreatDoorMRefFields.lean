/-
  What letterboxref.Fields does: the same as head.Fields.
-/
import Derived.Test.YtogigccbnohjjaaGreatDoorBpSfLeaf
namespace Go.Proofs.YtogigccbnohjjaaGreatDoor
open Go.RowKit Go.Proofs.Aid Go.Proofs.Hd Go.Proofs.Sq
set_option maxHeartbeats 40000000
set_option maxRecDepth 100000
theorem cut_index' (c : UInt8) (l : Tx) : cutAt c l = if 0 ≤ Lib.indexByte l c then (l.take (Lib.indexByte l c).toNat, l.drop ((Lib.indexByte l c).toNat + 1), true) else (l, [], false) := by
 rw [← cut_eq, Lib.cut, Lib.index_one]
 rfl
theorem wrap64_byte (c : UInt8) : wrap64 (c.toNat : Int) = (c.toNat : Int) := by
 have := c.toNat_lt
 unfold wrap64
 omega
theorem bel_new {w W : World} (h : Below w.heap.size w W) (o : Obj) : Below w.heap.size w (W.alloc o) := h.alloc h.size o
theorem more_size {k n : Nat} (h : n ≤ k * 90001) : n ≤ (k + 1) * 90001 := Nat.le_trans h (Nat.mul_le_mul_right _ (Nat.le_succ k))
theorem set_read {W : World} {b i : Nat} {arr : Array Value} {t : TypeId} (hh : W.heap[b]? = some (.cells arr t (0, 0))) (hi : i < arr.size) (x : Value) : (W.setCell ⟨b, i, none⟩ x).cell? ⟨b, i, none⟩ = some x :=
 rd_cell (rd_set x hh) (by rw [Array.getElem?_setIfInBounds_self_of_lt hi])
theorem rfields_is (s : ByteArray) (m : Int) (w : World) (hs : s.size ≤ 90000) (hm : w.cell? ⟨1, 0, none⟩ = some (.int .i64 m)) (hf0 : w.cell? ⟨0, 0, none⟩ = some (.int .i64 0)) (hf1 : w.cell? ⟨0, 1, none⟩ = some (.int .i64 (-1))) :
  Calls Tryz.prog 28 #[.string s] w (Told w (fieldsOf s.data.toList)) := by
 have cS := rsplit_is s m (w.alloc (.cells #[.int .i64 0, .int .i64 0] 50)) (by omega) (by rw [World.cell?_alloc_lt _ _ ⟨1, 0, none⟩ (World.block_lt_of_cell? _ _ hm)]; exact hm)
 obtain ⟨hd, hhd⟩ : ∃ h : ByteArray, ⟨(headOf s.data.toList).toArray⟩ = h := ⟨_, rfl⟩
 have hdl : hd.data.toList = headOf s.data.toList := by rw [← hhd]
 have hds : hd.size ≤ s.size := by
  rw [← list_size, hdl, ← list_size s]
  unfold headOf
  rw [List.length_take]
  omega
 obtain ⟨F, hF⟩ : ∃ F, fieldsOf s.data.toList = F := ⟨_, rfl⟩
 have hF' : fieldsFrom 0 [] (pieces hd.data.toList) = F := by rw [← hF, hdl]; rfl
 rw [hhd] at cS
 rw [hF]
 have hgl := World.block_lt_of_cell? _ _ hm
 have hsp := split_pieces hd
 have hpl := Lib.splitB_all ⟨#[13, 10]⟩ (by decide) 0 _ hd rfl
 have hcl := Lib.countB_le ⟨#[13, 10]⟩ (by decide) _ hd (Nat.le_refl _)
 obtain ⟨P, hP⟩ : ∃ P, Lib.splitB ⟨#[13, 10]⟩ 0 (Lib.countB hd ⟨#[13, 10]⟩) hd = P := ⟨_, rfl⟩
 have hps : ∀ x ∈ P, x.size ≤ 90000 := fun x hx => by
  have hm1 : x.data.toList ∈ pieces hd.data.toList := by rw [← hsp, hP]; exact List.mem_map_of_mem hx
  have := pieces_length _ _ hm1
  rw [list_size, list_size] at this
  omega
 rw [← hsp, hP] at hF'
 rw [hP] at hpl
 obtain ⟨N, hN⟩ : ∃ N, Lib.countB hd ⟨#[13, 10]⟩ + 1 = N := ⟨_, rfl⟩
 rw [hN] at hpl
 have hNs : N ≤ 90001 := by omega
 have HF0 : Hid (fieldsFrom 0 [] (P.map (·.data.toList)) = F) := hF'
 have HP : Hid (P.length = N ∧ ∀ x ∈ P, x.size ≤ 90000) := ⟨hpl, hps⟩
 have cP0 : ∀ W, W.cell? ⟨1, 0, none⟩ = some (.int .i64 m) → Calls Tryz.prog 47 #[.string hd, .string ⟨#[13, 10]⟩] W fun e w' => e = .returned (.slice (some ⟨W.heap.size, 0, none⟩) N N) ∧ w' = W.alloc (.cells (P.map Value.string).toArray 9) := fun W hW => by
  have := Tryz.strings_Split hd ⟨#[13, 10]⟩ m W (by omega) hW (by decide)
  rw [hP, hN] at this
  exact this
 have hhA := heap_alloc_new w (.cells #[.int .i64 0, .int .i64 0] 50)
 have hbA : Below w.heap.size w (w.alloc (.cells #[.int .i64 0, .int .i64 0] 50)) := (Below.refl _ w).alloc (Nat.le_refl _) _
 have hlA : w.heap.size < (w.alloc (.cells #[.int .i64 0, .int .i64 0] 50)).heap.size := by simp
 obtain ⟨i0, hi, hz0, hz1, hz2⟩ := info_parts Tryz.infoField
 clear hF hF' hsp hpl hcl hP hps hN hhd hdl
 go_enter Tryz.func28, Tryz.ntmps28
 go_wp2_with fail
 refine cS.mono ?_
 clear cS
 rintro e w1 ⟨rfl, hb1⟩
 have hb01 := hbA.trans (hb1.mono hbA.size)
 have hh1 := (hb1.block w.heap.size hlA).trans hhA
 have hl1 : w.heap.size < w1.heap.size := Nat.lt_of_lt_of_le hlA hb1.size
 have cP := cP0 w1 ((hb01.cell hgl).trans hm)
 clear cP0 hhA hbA hlA hb1
 go_wp2_with fail
 refine cP.mono ?_
 clear cP
 rintro e w3 ⟨rfl, hw3⟩
 have hb13 : Below w1.heap.size w1 w3 := by rw [hw3]; exact (Below.refl _ _).alloc (Nat.le_refl _) _
 have hb03 := hb01.trans (hb13.mono hb01.size)
 have hpc : ∀ (j : Nat) x, P[j]? = some x → w3.cell? ⟨w1.heap.size, j, none⟩ = some (.string x) := fun j x hj => by
  have hn := heap_alloc_new w1 (.cells (P.map Value.string).toArray 9)
  rw [← hw3] at hn
  exact rd_cell hn (by rw [List.getElem?_toArray, List.getElem?_map, hj]; rfl)
 have hpb : w1.heap.size < w3.heap.size := by rw [hw3]; simp
 have hh3 := (hb13.block w.heap.size hl1).trans hh1
 have HPC : Hid (∀ (j : Nat) x, P[j]? = some x → w3.cell? ⟨w1.heap.size, j, none⟩ = some (.string x)) := hpc
 have f0 := (hb03.cell (p := ⟨0, 0, none⟩) (World.block_lt_of_cell? _ _ hf0)).trans hf0
 have f1 := (hb03.cell (p := ⟨0, 1, none⟩) (World.block_lt_of_cell? _ _ hf1)).trans hf1
 have hgl9 : 0 < w3.heap.size := Nat.lt_of_lt_of_le (World.block_lt_of_cell? _ _ hf0) hb03.size
 have hl3 : w.heap.size < w3.heap.size := Nat.lt_of_lt_of_le hl1 hb13.size
 obtain ⟨pb, hpbe⟩ : ∃ n, w1.heap.size = n := ⟨_, rfl⟩
 obtain ⟨rb, hrbe⟩ : ∃ n, w.heap.size = n := ⟨_, rfl⟩
 rw [hpbe] at HPC hpb ⊢
 rw [hrbe] at hh3 hl3 ⊢
 have HB0 : Hid (Below rb w w3) := by show Below _ _ _; rw [← hrbe]; exact hb03
 have HRB : Hid (w.heap.size = rb) := hrbe
 clear hb01 hh1 hl1 hw3 hb13 hb03 hpc hm hf0 hf1 hgl hpbe hrbe
 go_wp2_with fail
 go_loopw [6, 22] (fun lv i wr => ∃ (k : Nat) (L : List Fb), i = .int .i64 (k : Int) ∧ k ≤ N ∧ L.length ≤ 40 ∧ wr.ownsRow w3.heap.size 78 2 lv L.length (cellsF L) ∧ Hid (∀ f ∈ L.map tx, Hd.Good f) ∧ Hid (fieldsFrom k (L.map tx) ((P.drop k).map (·.data.toList)) = F) ∧ Hid (∀ f ∈ L, f.2.size ≤ k * 90001) ∧ Below w3.heap.size w3 wr) (fun _ i _ => N - (intOf i).toNat)
 case atStart => exact ⟨0, [], rfl, by omega, by simp, World.ownsRow_nil _ _ _ _, by show ∀ f ∈ _, _; simp, by show _ = _; simpa using HF0.out, by show ∀ f ∈ _, _; simp, Below.refl _ _⟩
 case round =>
  obtain ⟨k, L, rfl, hk, hLl, hrow, HG, HFF, HZ, hbW⟩ := hrel
  by_cases hlt : k < N
  ·have hkP : k < P.length := by rw [HP.out.1]; exact hlt
   have c1 := HPC.out k _ (List.getElem?_eq_getElem hkP)
   obtain ⟨p, hp⟩ : ∃ x, P[k] = x := ⟨_, rfl⟩
   rw [hp] at c1
   have c2 := (hbW.cell (p := ⟨pb, k, none⟩) hpb).trans c1
   have hpz : p.size ≤ 90000 := by rw [← hp]; exact HP.out.2 _ (List.getElem_mem _)
   have HFX : Hid ((if (Hd.step (L.map tx) p.data.toList).1 = 0 then fieldsFrom (k + 1) (Hd.step (L.map tx) p.data.toList).2 ((P.drop (k + 1)).map (·.data.toList)) else (((Hd.step (L.map tx) p.data.toList).1, k), [])) = F) := by
    have := HFF.out
    rw [List.drop_eq_getElem_cons hkP, hp, List.map_cons, fieldsFrom_cons] at this
    exact this
   obtain ⟨Wr, hWr⟩ : ∃ W, W = wr := ⟨_, rfl⟩
   subst hWr
   have hhB := heap_alloc_new Wr (.cells #[.int .i64 3, .int .i64 (k : Int)] 50)
   have hbB : Below w3.heap.size w3 (Wr.alloc (.cells #[.int .i64 3, .int .i64 (k : Int)] 50)) := hbW.alloc hbW.size _
   have hrowB := hrow.alloc (.cells #[.int .i64 3, .int .i64 (k : Int)] 50)
   have hbwB : Below rb w (Wr.alloc (.cells #[.int .i64 3, .int .i64 (k : Int)] 50)) := HB0.out.trans (hbB.mono (Nat.le_of_lt hl3))
   have hhR := (hbB.block rb hl3).trans hh3
   have hlB : Wr.heap.size < (Wr.alloc (.cells #[.int .i64 3, .int .i64 (k : Int)] 50)).heap.size := by simp
   obtain ⟨WB, hWB⟩ : ∃ W, Wr.alloc (.cells #[.int .i64 3, .int .i64 (k : Int)] 50) = W := ⟨_, rfl⟩
   have hwz : w3.heap.size ≤ WB.heap.size := by rw [← hWB]; exact hbB.size
   rw [hWB] at hhB hbB hrowB hbwB hhR hlB
   have d0 : WB.cell? ⟨Wr.heap.size, 0, none⟩ = some (.int .i64 3) := rd_cell hhB rfl
   have d1 : WB.cell? ⟨Wr.heap.size, 1, none⟩ = some (.int .i64 (k : Int)) := rd_cell hhB rfl
   have r0 : WB.cell? ⟨rb, 0, none⟩ = some (.int .i64 0) := rd_cell hhR rfl
   have r1 : WB.cell? ⟨rb, 1, none⟩ = some (.int .i64 0) := rd_cell hhR rfl
   have rf0 := rd_free hhR 0
   have rf1 := rd_free hhR 1
   have hrne : ¬ Wr.heap.size = rb := by have := hbW.size; omega
   have s3 := set_read (i := 0) hhR (by decide) (.int .i64 3)
   have s4 := set_read (i := 1) (rd_set (i := 0) (.int .i64 3) hhR) (by simp) (.int .i64 (k : Int))
   -- what is told where a piece may not stand there
   have HTL : Hid (∀ c : Int, c ≠ 0 → Hd.step (L.map tx) p.data.toList = (c, []) → ∀ W', Below rb w W' → Told w F (.returned (.tuple #[.slice none 0 0, .agg #[.int .i64 c, .int .i64 (k : Int)]])) W') := by
    intro c hc h3 W' hW'
    have hFF := HFX.out
    rw [h3, if_neg hc] at hFF
    rw [← hFF]
    refine ⟨by rw [HRB.out]; exact hW', _, [], ?_, fg_nil _, rfl⟩
    unfold faultAt
    rw [if_neg hc]
   have HGO : Hid (∀ l', Hd.step (L.map tx) p.data.toList = (0, l') → fieldsFrom (k + 1) l' ((P.drop (k + 1)).map (·.data.toList)) = F) := by
    intro l' h3
    have hFF := HFX.out
    rw [h3, if_pos rfl] at hFF
    exact hFF
   have HGD : Hid (∀ l', Hd.step (L.map tx) p.data.toList = (0, l') → ∀ f ∈ l', Hd.Good f) := by
    intro l' h3
    have := (step_good (p := p.data.toList) HG.out (by rw [List.length_map]; exact hLl) (by rw [h3])).1
    rw [h3] at this
    exact this
   clear hp c1 HFF hrow HFX
   by_cases hp0 : p.data.toList = []
   ·obtain rfl : p = ⟨#[]⟩ := text_ext hp0
    have hst : Hd.step (L.map tx) (⟨#[]⟩ : ByteArray).data.toList = (0, L.map tx) := rfl
    have HN := HGO.out _ hst
    clear hst hp0
    go_wp2_with fail
    go_roundw
    case rel => exact ⟨k + 1, L, by go_num, by omega, hLl, hrowB, HG.out, HN, fun f hf => more_size (HZ.out f hf), hbB⟩
    case measure => simp [intOf]; omega
   ·have hv1 : ¬ p.toList = [] := by rw [Lib.toList_data]; exact hp0
    have hv2 : p.toList.isEmpty = false := by rw [Lib.toList_data]; exact empty_no hp0
    have hpos : 0 < p.size := size_pos hp0
    have HP0 : Hid (p.data.toList ≠ []) := hp0
    clear hp0
    go_wp2_with fail
    clear hWB
    go_loopw [33] (fun i wr => ∃ j : Nat, i = .int .i64 (j : Int) ∧ j ≤ p.size ∧ Hid (∀ c ∈ p.data.toList.take j, isBad c = false) ∧ wr = WB) (fun i _ => p.size - (intOf i).toNat)
    case atStart => exact ⟨0, rfl, by omega, by show ∀ c ∈ _, _; simp, rfl⟩
    case round =>
     obtain ⟨j, rfl, hj, HBD, hw⟩ := hrel
     obtain rfl : WB = wr := hw.symm
     by_cases hjp : j < p.size
     ·have hjl : j < p.data.toList.length := by rw [list_size]; exact hjp
      have HCJ : Hid (p.data.toList[j]'hjl ∈ p.data.toList) := List.getElem_mem _
      have HTS : Hid (p.data.toList.take (j + 1) = p.data.toList.take j ++ [p[j]]) := List.take_succ_eq_append_getElem hjl
      have HCM : Hid (p[j] ∈ p.data.toList) := HCJ.out
      clear HCJ
      generalize hc : p[j] = c at HTS HCM
      by_cases hb : isBad c = true
      ·have HE := HTL.out 3 (by decide) (step_bad HCM.out hb)
       have HE3 : Hid (∀ W', Below rb w W' → Told w F (.returned (.tuple #[.slice none 0 0, .agg #[.int .i64 3, .int .i64 (k : Int)]])) W') := HE
       have hcs : c = 13 ∨ c = 10 ∨ c = 0 := by simpa [isBad] using hb
       clear HE hb
       rcases hcs with rfl | rfl | rfl
       all_goals
        go_wp2_with fail
        go_region
        all_goals
         go_wp2_with fail
         refine bodyPost_ret (v := .tuple #[.slice none 0 0, .agg #[.int .i64 3, .int .i64 (k : Int)]]) (by simp [results, Tryz.results28, go_sem, s3, s4]) rfl ?_
         exact HE3.out _ ((below_drewN hbwB _).setCell (Nat.le_refl _) _ |>.setCell (Nat.le_refl _) _)
      ·have hbf : isBad c = false := by simpa using hb
       have hn : c ≠ 13 ∧ c ≠ 10 ∧ c ≠ 0 := by
        refine ⟨?_, ?_, ?_⟩ <;> rintro rfl <;> exact absurd hbf (by decide)
       have q1 : ((c.toNat : Int) == 13) = false := by rw [beq_eq_false_iff_ne]; intro h; exact hn.1 (UInt8.toNat_inj.1 (by show c.toNat = 13; omega))
       have q2 : ((c.toNat : Int) == 10) = false := by rw [beq_eq_false_iff_ne]; intro h; exact hn.2.1 (UInt8.toNat_inj.1 (by show c.toNat = 10; omega))
       have q3 : ((c.toNat : Int) == 0) = false := by rw [beq_eq_false_iff_ne]; intro h; exact hn.2.2 (UInt8.toNat_inj.1 (by show c.toNat = 0; omega))
       have HBN : Hid (∀ d ∈ p.data.toList.take (j + 1), isBad d = false) := by
        intro d hd
        rw [HTS.out] at hd
        rcases List.mem_append.1 hd with hd | hd
        ·exact HBD.out d hd
        ·rw [List.mem_singleton.1 hd]; exact hbf
       clear hb hbf hn HBD HTS HCM
       go_wp2_with fail
       go_roundw
       case rel => exact ⟨j + 1, by go_num, by omega, HBN.out, trivial⟩
       case measure => simp [intOf]; omega
     ·obtain rfl : j = p.size := by omega
      have HCL : Hid (∀ c ∈ p.data.toList, isBad c = false) := by
       have := HBD.out
       rw [List.take_of_length_le (by rw [list_size]; exact Nat.le_refl _)] at this
       exact this
      have HST : Hid (Hd.step (L.map tx) p.data.toList =
        if blk (p.data.toList.headD 0) then (if L.map tx = [] then (3, []) else (0, onto (L.map tx) (Hd.bare p.data.toList)))
        else if (cutAt 58 p.data.toList).2.2 = false ∨ nameOk (cutAt 58 p.data.toList).1 = false then (3, [])
        else if (L.map tx).length = 40 then (4, [])
        else (0, L.map tx ++ [((cutAt 58 p.data.toList).1, Hd.bare (cutAt 58 p.data.toList).2.1)])) := step_clean HP0.out HCL.out
      have hhd : p.data.toList.headD 0 = p[0] := by rw [cons_of p hpos]; rfl
      rw [hhd] at HST
      clear hhd
      generalize hc : p[0] = c at HST
      have cB := rblank_is c WB
      obtain ⟨b, hb⟩ : ∃ b, blk c = b := ⟨_, rfl⟩
      rw [hb] at cB HST
      clear hb HBD hjp
      go_wp2_with fail
      refine cB.mono ?_
      clear cB
      rintro e w5 ⟨rfl, hw⟩
      obtain rfl : WB = w5 := hw.symm
      cases b with
      | true =>
       by_cases hL0 : L = []
       ·subst hL0
        have HE3 : Hid (∀ W', Below rb w W' → Told w F (.returned (.tuple #[.slice none 0 0, .agg #[.int .i64 3, .int .i64 (k : Int)]])) W') := HTL.out 3 (by decide) (by rw [HST.out]; rfl)
        obtain ⟨ra, rc, rfl⟩ := row_slice hrowB
        clear hrowB HST HGO HGD HTL
        go_wp2_with fail
        go_region
        all_goals
         go_wp2_with fail
         refine bodyPost_ret (v := .tuple #[.slice none 0 0, .agg #[.int .i64 3, .int .i64 (k : Int)]]) (by simp [results, Tryz.results28, go_sem, s3, s4]) rfl ?_
         exact HE3.out _ ((below_drewN hbwB _).setCell (Nat.le_refl _) _ |>.setCell (Nat.le_refl _) _)
       ·obtain ⟨P', f, hLf⟩ : ∃ P' f, L = P' ++ [f] := ⟨L.dropLast, L.getLast hL0, (List.dropLast_concat_getLast hL0).symm⟩
        obtain ⟨fn, fv⟩ := f
        subst hLf
        obtain ⟨K, hK⟩ : ∃ K, P'.length = K := ⟨_, rfl⟩
        have hKl : K ≤ 39 := by rw [List.length_append] at hLl; simp at hLl; omega
        have hst : Hd.step ((P' ++ [(fn, fv)]).map tx) p.data.toList = (0, P'.map tx ++ [(fn.data.toList, joinV fv.data.toList (Hd.bare p.data.toList))]) := by
         rw [HST.out, if_pos rfl, if_neg (by simp), List.map_append]
         exact congrArg _ (onto_snoc _ _ _ _)
        have HN := HGO.out _ hst
        have HGN := HGD.out _ hst
        have htr : Hd.Trim fv.data.toList := (HG.out (tx (fn, fv)) (by rw [List.map_append]; exact List.mem_append_right _ (by simp))).trim
        have HSP : Hid (spb (fv.data.toList ++ 32 :: Hd.bare p.data.toList) = joinV fv.data.toList (Hd.bare p.data.toList)) := spb_join htr (bare_trim _)
        obtain ⟨J, hJ⟩ : ∃ J : Tx, joinV fv.data.toList (Hd.bare p.data.toList) = J := ⟨_, rfl⟩
        rw [hJ] at HN HGN HSP
        have hfz := HZ.out (fn, fv) (List.mem_append_right _ (by simp))
        simp only at hfz
        have hkz : k * 90001 ≤ 90001 * 90001 := Nat.mul_le_mul_right _ (by omega)
        have HZ' : Hid (∀ f ∈ P', f.2.size ≤ (k + 1) * 90001) := fun f hf => more_size (HZ.out f (List.mem_append_left _ hf))
        have HKZ : Hid ((k + 1) * 90001 = k * 90001 + 90001) := Nat.succ_mul _ _
        have cR := fun W => rbare_is p W (by omega)
        obtain ⟨bp, hbp⟩ : ∃ t : ByteArray, ⟨(Hd.bare p.data.toList).toArray⟩ = t := ⟨_, rfl⟩
        have hbl : bp.data.toList = Hd.bare p.data.toList := by rw [← hbp]
        have hbz : bp.size ≤ p.size := by rw [← list_size, ← list_size p, hbl]; exact bare_length _
        rw [hbp] at cR
        rw [← hbl] at HSP
        have hRl : (P' ++ [(fn, fv)]).length = K + 1 := by rw [List.length_append, hK]; rfl
        rw [hRl] at hrowB
        obtain ⟨g, cap, rfl⟩ := row_some hrowB (by omega)
        have hgl := hrowB.lt g rfl
        have cv := hrowB.cellAt (K * 2 + 1) (by omega)
        rw [← hK, cellsF_last, hK] at cv
        have fvz := hrowB.frozenAt (K * 2 + 1)
        have hwr : IntKind.i64.wrap (K : Int) = (K : Int) := by rw [IntKind.wrap_i64]; omega
        have hK1 : (K : Int) < (K : Int) + 1 := by omega
        have z1 : fv.size + (⟨#[32]⟩ : ByteArray).size ≤ 9000000000 := by show fv.size + 1 ≤ _; omega
        have z2 : (fv ++ ⟨#[32]⟩ : ByteArray).size + bp.size ≤ 9000000000 := by rw [one_size]; omega
        have HVZ : Hid ((fv ++ ⟨#[32]⟩ ++ bp : ByteArray).size ≤ (k + 1) * 90001) := by show _ ≤ _; rw [cat_size, one_size, HKZ.out]; omega
        have HSV : Hid (spb (fv ++ ⟨#[32]⟩ ++ bp : ByteArray).data.toList = J) := by
         show _ = _
         rw [cat_list, one_list, ← HSP.out]
         simp
        have HRB' : Hid (∀ q, (WB.drewN q).ownsRow w3.heap.size 78 2 (.slice (some ⟨g, 0, none⟩) (K + 1) cap) (K + 1) (cellsF (P' ++ [(fn, fv)]))) := fun q => row_below (below_drewN (Below.refl WB.heap.size WB) q) (Nat.le_refl _) hrowB
        have HK : Hid (P'.length = K) := hK
        have hbq : ∀ q, Below w3.heap.size w3 (WB.drewN q) := fun q => below_drewN hbB q
        clear hJ hst HG HZ HST HGO HGD HTL htr hbp hbl hRl hrowB hK HSP hL0 hfz hkz HKZ
        go_upto_region 17 with fail
        go_cut [11] (fun v wx => v = .string (fv ++ ⟨#[32]⟩ ++ bp) ∧ ∃ q, wx = WB.drewN q)
        case first =>
         go_region_with (go_at_call 49; refine (cR _).mono ?_; rintro e w6 ⟨rfl, hw6⟩; subst hw6)
         all_goals
          go_wp2_with fail
          go_meet
          exact ⟨rfl, _, rfl⟩
        case rest =>
         obtain ⟨rfl, q, rfl⟩ := hcut
         obtain ⟨V, hV⟩ : ∃ V, (fv ++ ⟨#[32]⟩ ++ bp : ByteArray) = V := ⟨_, rfl⟩
         have hrowC := HRB'.out q
         have hbC := hbq q
         have cvC : (WB.drewN q).cell? ⟨g, K * 2 + 1, none⟩ = some (.string fv) := by simpa using cv
         have fvC : (WB.drewN q).frozen? ⟨g, K * 2 + 1, none⟩ = false := by simpa using fvz
         rw [hV] at HVZ HSV ⊢
         obtain ⟨WC, hWC⟩ : ∃ W, WB.drewN q = W := ⟨_, rfl⟩
         rw [hWC] at hrowC hbC cvC fvC ⊢
         clear hV hWC z1 z2 cR HRB' hbq cv fvz d0 d1 r0 r1 rf0 rf1 s3 s4 hhB hhR hbB hbwB
         go_wp2_with fail
         go_loopw [11] (fun v wr => ∃ t : ByteArray, v = .string t ∧ Hid (t.size ≤ (k + 1) * 90001) ∧ Hid (spb t.data.toList = J) ∧ wr = WC) (fun v _ => strLen v)
         case atStart => exact ⟨V, rfl, HVZ.out, HSV.out, rfl⟩
         case round =>
          obtain ⟨t, rfl, HTZ, HT, hw⟩ := hrel
          obtain rfl : WC = wr := hw.symm
          clear HVZ HSV
          have hl := list_size t
          have htb : t.size ≤ 9223372036854775807 := Nat.le_trans HTZ.out (Nat.le_trans (Nat.mul_le_mul_right _ (by omega : k + 1 ≤ 100000)) (by decide))
          by_cases hsp : t.data.toList.head? = some 32
          ·have h0 : ¬ t.data.toList = [] := fun e => by rw [e] at hsp; cases hsp
           have f1 : ¬ t.toList = [] := by rw [Lib.toList_data]; exact h0
           have f2 : t.toList.isEmpty = false := by rw [Lib.toList_data]; exact empty_no h0
           have hpos1 : 0 < t.size := size_pos h0
           have hcons := cons_of t hpos1
           have hc32 : t[0] = 32 := by rw [hcons, List.head?_cons] at hsp; exact Option.some.inj hsp
           rw [hc32] at hcons
           have HC : Hid (t.data.toList = 32 :: (t.extract 1 t.size).data.toList) := hcons
           have hr : (t.extract 1 t.size).size < t.size := by rw [Lib.size_eq, Lib.extract_to_end, List.length_drop, hl]; omega
           have HRZ : Hid ((t.extract 1 t.size).size ≤ (k + 1) * 90001) := Nat.le_trans (Nat.le_of_lt hr) HTZ.out
           clear h0 hcons hsp
           go_wp2_with fail
           go_roundw
           case rel =>
            refine ⟨_, rfl, HRZ.out, ?_, trivial⟩
            show _ = _
            rw [← HT.out, HC.out, spb_head]
           case measure => simpa [strLen] using hr
          ·have HH : Hid (∀ d, t.data.toList.head? = some d → d ≠ 32) := by
            intro d hd e
            rw [e] at hd
            exact hsp hd
           have hcase : (t.toList = [] ∧ t.toList.isEmpty = true) ∨ ∃ (h0 : 0 < t.size) (c : UInt8), (¬ t.toList = []) ∧ t.toList.isEmpty = false ∧ t[0] = c ∧ ((c.toNat : Int) == 32) = false := by
            by_cases h0 : t.data.toList = []
            ·exact Or.inl ⟨by rw [Lib.toList_data]; exact h0, by rw [Lib.toList_data, h0]; rfl⟩
            ·have hpos1 : 0 < t.size := size_pos h0
             refine Or.inr ⟨hpos1, _, by rw [Lib.toList_data]; exact h0, by rw [Lib.toList_data]; exact empty_no h0, rfl, ?_⟩
             rw [beq_eq_false_iff_ne]
             intro h
             exact HH.out t[0] (by rw [cons_of t hpos1]; rfl) (UInt8.toNat_inj.1 (by show t[0].toNat = 32; omega))
           clear hsp
           rcases hcase with ⟨f1, f2⟩ | ⟨hpos1, c1, f1, f2, f3, f4⟩
           all_goals
            go_wp2_with fail
            go_loopw [11] (fun v wr => ∃ u : ByteArray, v = .string u ∧ Hid (u.size ≤ (k + 1) * 90001) ∧ Hid (spb u.data.toList = J) ∧ Hid (∀ d, u.data.toList.head? = some d → d ≠ 32) ∧ wr = WC) (fun v _ => strLen v)
            case atStart => exact ⟨t, rfl, HTZ.out, HT.out, HH.out, rfl⟩
            case round =>
             obtain ⟨u, rfl, HUZ, HU, HHU, hw⟩ := hrel
             obtain rfl : WC = wr := hw.symm
             clear HTZ HT HH f1 f2 hl htb
             have hl := list_size u
             have hub : u.size ≤ 9223372036854775807 := Nat.le_trans HUZ.out (Nat.le_trans (Nat.mul_le_mul_right _ (by omega : k + 1 ≤ 100000)) (by decide))
             by_cases hsp : u.data.toList.getLast? = some 32
             ·have h0 : ¬ u.data.toList = [] := fun e => by rw [e] at hsp; cases hsp
              have f1 : ¬ u.toList = [] := by rw [Lib.toList_data]; exact h0
              have f2 : u.toList.isEmpty = false := by rw [Lib.toList_data]; exact empty_no h0
              have hpos2 : 0 < u.size := size_pos h0
              have h1 : u.size - 1 < u.size := by omega
              have hsnoc := snoc_of u hpos2 h1
              have hc32 : u[u.size - 1] = 32 := by rw [hsnoc, List.getLast?_concat] at hsp; exact Option.some.inj hsp
              rw [hc32] at hsnoc
              have HC : Hid (u.data.toList = (u.extract 0 (u.size - 1)).data.toList ++ [32]) := hsnoc
              have hr : (u.extract 0 (u.size - 1)).size < u.size := by rw [Lib.size_eq, Lib.extract_from_zero, List.length_take, hl]; omega
              have HRZ : Hid ((u.extract 0 (u.size - 1)).size ≤ (k + 1) * 90001) := Nat.le_trans (Nat.le_of_lt hr) HUZ.out
              clear h0 hsnoc hsp
              go_wp2_with fail
              go_roundw
              case rel =>
               refine ⟨_, rfl, HRZ.out, ?_, ?_, trivial⟩
               ·show _ = _
                rw [← HU.out, HC.out, spb_last (by rw [← HC.out]; exact HHU.out)]
               ·intro d hd
                refine HHU.out d ?_
                rw [HC.out, List.head?_append, hd]
                rfl
              case measure => simpa [strLen] using hr
             ·have HUJ : Hid (u.data.toList = J) := by
               show _ = _
               rw [← HU.out, spb_of HHU.out]
               intro d hd e
               rw [e] at hd
               exact hsp hd
              have hcase : (u.toList = [] ∧ u.toList.isEmpty = true) ∨ ∃ (h1 : u.size - 1 < u.size) (c : UInt8), 0 < u.size ∧ (¬ u.toList = []) ∧ u.toList.isEmpty = false ∧ u[u.size - 1] = c ∧ ((c.toNat : Int) == 32) = false := by
               by_cases h0 : u.data.toList = []
               ·exact Or.inl ⟨by rw [Lib.toList_data]; exact h0, by rw [Lib.toList_data, h0]; rfl⟩
               ·have hpos2 : 0 < u.size := size_pos h0
                have h1 : u.size - 1 < u.size := by omega
                refine Or.inr ⟨h1, _, hpos2, by rw [Lib.toList_data]; exact h0, by rw [Lib.toList_data]; exact empty_no h0, rfl, ?_⟩
                rw [beq_eq_false_iff_ne]
                intro h
                have h32 : u[u.size - 1] = 32 := UInt8.toNat_inj.1 (by show u[u.size - 1].toNat = 32; omega)
                refine hsp ?_
                rw [snoc_of u hpos2 h1, List.getLast?_concat, h32]
              have hst := (hrowC.stored (K * 2 + 1) (.string u)).1
              rw [show K * 2 + 1 = P'.length * 2 + 1 by rw [HK.out], cellsF_setlast, HK.out] at hst
              have HROW : Hid ((WC.setCell ⟨g, K * 2 + 1, none⟩ (.string u)).ownsRow w3.heap.size 78 2 (.slice (some ⟨g, 0, none⟩) (K + 1) cap) (K + 1) (cellsF (P' ++ [(fn, u)]))) := hst
              have hbS : Below w3.heap.size w3 (WC.setCell ⟨g, K * 2 + 1, none⟩ (.string u)) := hbC.setCell hgl.1 _
              have HLL : Hid ((P' ++ [(fn, u)]).length = K + 1) := by show _ = _; rw [List.length_append, HK.out]; rfl
              have HMM : Hid ((P' ++ [(fn, u)]).map tx = P'.map tx ++ [(fn.data.toList, J)]) := by show _ = _; rw [List.map_append, ← HUJ.out]; rfl
              clear hsp hst HU HHU hrowC
              rcases hcase with ⟨f1, f2⟩ | ⟨h1, c2', hpos2, f1, f2, f3', f4'⟩
              all_goals
               go_wp2_with fail
               go_roundw
               case rel => exact ⟨k + 1, P' ++ [(fn, u)], by go_num, by omega, by rw [HLL.out]; omega, by rw [HLL.out]; exact HROW.out, by show ∀ f ∈ _, _; rw [HMM.out]; exact HGN, by show _ = _; rw [HMM.out]; exact HN, fun f hf => by
                rcases List.mem_append.1 hf with hf | hf
                ·exact HZ'.out f hf
                ·rw [List.mem_singleton.1 hf]; exact HUZ.out, hbS⟩
               case measure => simp [intOf]; omega
      | false =>
       rw [if_neg (by simp)] at HST
       have hci := cut_index' 58 p.data.toList
       have cI := Tryz.strings_IndexByte p 58 WB
       rw [show ((58 : Int).toNat.toUInt8) = 58 from rfl] at cI
       obtain ⟨z, hz⟩ : ∃ z, Lib.indexByte p.data.toList 58 = z := ⟨_, rfl⟩
       rw [hz] at hci cI
       have HCI : Hid (cutAt 58 p.data.toList = if 0 ≤ z then (p.data.toList.take z.toNat, p.data.toList.drop (z.toNat + 1), true) else (p.data.toList, [], false)) := hci
       have hzl : 0 ≤ z → z + 1 ≤ p.size := fun h0 => by
        have := Lib.index_room p.data.toList [58]
        rw [Lib.index_one, hz, list_size, show ([58] : Tx).length = 1 from rfl] at this
        exact this h0
       have cN := fun W => ref_in z 1 60 W
       clear hci hz
       go_wp2_with fail
       refine cI.mono ?_
       clear cI
       rintro e w6 ⟨rfl, hw6⟩
       obtain rfl : WB = w6 := hw6.symm
       by_cases hin : 1 ≤ z ∧ z ≤ 60
       ·rw [decide_eq_true hin] at cN
        obtain ⟨q, rfl⟩ : ∃ q : Nat, z = q := ⟨z.toNat, by omega⟩
        have hq := hzl (by omega)
        have HCU : Hid (cutAt 58 p.data.toList = ((p.extract 0 q).data.toList, (p.extract (q + 1) p.size).data.toList, true)) := by
         show _ = _
         rw [HCI.out, if_pos (by omega), Int.toNat_natCast, Lib.extract_from_zero, Lib.extract_to_end]
        have hnl : (p.extract 0 q).data.toList.length = q := by rw [Lib.extract_from_zero, List.length_take, list_size]; omega
        have HQ : Hid (p.data.toList.take q = (p.extract 0 q).data.toList) := by show _ = _; rw [Lib.extract_from_zero]
        rw [HCU.out] at HST
        simp only [Bool.true_eq_false, false_or] at HST
        go_wp2_with fail
        refine (cN _).mono ?_
        clear cN
        rintro e w6 ⟨rfl, hw6⟩
        obtain rfl : WB = w6 := hw6.symm
        clear hzl HCI HCU
        go_wp2_with fail
        go_loopw [110] (fun i wr => ∃ j : Nat, i = .int .i64 (j : Int) ∧ j ≤ q ∧ Hid (∀ c ∈ p.data.toList.take j, 33 ≤ c.toNat ∧ c.toNat ≤ 126) ∧ wr = WB) (fun i _ => q - (intOf i).toNat)
        case atStart => exact ⟨0, rfl, by omega, by show ∀ c ∈ _, _; simp, rfl⟩
        case round =>
         obtain ⟨j, rfl, hj, HBD, hw⟩ := hrel
         obtain rfl : WB = wr := hw.symm
         by_cases hjq : j < q
         ·have hjp : j < p.size := by omega
          have hjl : j < p.data.toList.length := by rw [list_size]; exact hjp
          have HTS : Hid (p.data.toList.take (j + 1) = p.data.toList.take j ++ [p[j]]) := List.take_succ_eq_append_getElem hjl
          have HCM : Hid (p[j] ∈ (p.extract 0 q).data.toList) := by
           show _ ∈ _
           rw [← HQ.out]
           exact List.mem_take_iff_getElem.2 ⟨j, by omega, rfl⟩
          generalize hc : p[j] = c at HTS HCM
          have hwc : wrap64 (c.toNat : Int) = (c.toNat : Int) := wrap64_byte c
          have cN := fun W => ref_in (c.toNat : Int) 33 126 W
          by_cases hb : 33 ≤ c.toNat ∧ c.toNat ≤ 126
          ·rw [decide_eq_true (by omega)] at cN
           have HBN : Hid (∀ d ∈ p.data.toList.take (j + 1), 33 ≤ d.toNat ∧ d.toNat ≤ 126) := by
            intro d hd
            rw [HTS.out] at hd
            rcases List.mem_append.1 hd with hd | hd
            ·exact HBD.out d hd
            ·rw [List.mem_singleton.1 hd]; exact hb
           clear hb HBD HTS HCM
           go_wp2_with fail
           refine (cN _).mono ?_
           clear cN
           rintro e w7 ⟨rfl, hw7⟩
           obtain rfl : WB = w7 := hw7.symm
           go_wp2_with fail
           go_roundw
           case rel => exact ⟨j + 1, by go_num, by omega, HBN.out, trivial⟩
           case measure => simp [intOf]; omega
          ·rw [decide_eq_false (by omega)] at cN
           have HE3 : Hid (∀ W', Below rb w W' → Told w F (.returned (.tuple #[.slice none 0 0, .agg #[.int .i64 3, .int .i64 (k : Int)]])) W') := HTL.out 3 (by decide) (by rw [HST.out, if_pos (name_bad HCM.out hb)])
           clear hb HBD HTS HCM HST HGO HGD HTL
           go_wp2_with fail
           refine (cN _).mono ?_
           clear cN
           rintro e w7 ⟨rfl, hw7⟩
           obtain rfl : WB = w7 := hw7.symm
           go_wp2_with fail
           go_region
           all_goals
            go_wp2_with fail
            refine bodyPost_ret (v := .tuple #[.slice none 0 0, .agg #[.int .i64 3, .int .i64 (k : Int)]]) (by simp [results, Tryz.results28, go_sem, s3, s4]) rfl ?_
            exact HE3.out _ ((below_drewN hbwB _).setCell (Nat.le_refl _) _ |>.setCell (Nat.le_refl _) _)
         ·obtain rfl : j = q := by omega
          have hnok : nameOk (p.extract 0 j).data.toList = true := by
           refine name_yes ?_ (by rw [hnl]; omega) (by rw [← HQ.out]; exact HBD.out)
           intro e
           rw [e] at hnl
           simp at hnl
           omega
          rw [if_neg (by rw [hnok]; simp), List.length_map] at HST
          clear hnok hjq HBD HQ
          by_cases h40 : L.length = 40
          ·have HE4 : Hid (∀ W', Below rb w W' → Told w F (.returned (.tuple #[.slice none 0 0, .agg #[.int .i64 4, .int .i64 (k : Int)]])) W') := HTL.out 4 (by decide) (by rw [HST.out, if_pos h40])
           have s5 := set_read (i := 0) hhR (by decide) (.int .i64 4)
           have s6 := set_read (i := 1) (rd_set (i := 0) (.int .i64 4) hhR) (by simp) (.int .i64 (k : Int))
           rw [h40] at hrowB
           obtain ⟨ra, rc, rfl⟩ := row_slice hrowB
           clear HST HGO HGD HTL hrowB
           go_wp2_with fail
           refine bodyPost_ret (v := .tuple #[.slice none 0 0, .agg #[.int .i64 4, .int .i64 (k : Int)]]) (by simp [results, Tryz.results28, go_sem, s5, s6]) rfl ?_
           exact HE4.out _ (hbwB.setCell (Nat.le_refl _) _ |>.setCell (Nat.le_refl _) _)
          ·have hst := HST.out
           rw [if_neg h40] at hst
           have HN := HGO.out _ hst
           have HGN := HGD.out _ hst
           obtain ⟨nm, hnm⟩ : ∃ t : ByteArray, p.extract 0 j = t := ⟨_, rfl⟩
           obtain ⟨J1, hJ1⟩ : ∃ J1, j + 1 = J1 := ⟨_, rfl⟩
           have hwj : IntKind.i64.wrap ((j : Int) + 1) = (J1 : Int) := by rw [IntKind.wrap_i64]; omega
           have hJp : J1 ≤ p.size := by omega
           rw [hJ1] at HN HGN
           have cR := fun W => rbare_is (p.extract J1 p.size) W (by rw [Lib.size_eq, Lib.extract_to_end, List.length_drop, list_size]; omega)
           obtain ⟨vl, hvl⟩ : ∃ t : ByteArray, ⟨(Hd.bare (p.extract J1 p.size).data.toList).toArray⟩ = t := ⟨_, rfl⟩
           have hvd : Hd.bare (p.extract J1 p.size).data.toList = vl.data.toList := by rw [← hvl]
           have hvz : vl.size ≤ 90001 := by
            rw [← list_size, ← hvd]
            refine Nat.le_trans (bare_length _) ?_
            rw [Lib.extract_to_end, List.length_drop, list_size]; omega
           rw [hvl] at cR
           rw [hnm, hvd] at HN HGN
           have HMM : Hid ((L ++ [(nm, vl)]).map tx = L.map tx ++ [(nm.data.toList, vl.data.toList)]) := by show _ = _; rw [List.map_append]; rfl
           have HZ2 : Hid (∀ f ∈ L ++ [(nm, vl)], f.2.size ≤ (k + 1) * 90001) := by
            intro f hf
            rcases List.mem_append.1 hf with hf | hf
            ·exact more_size (HZ.out f hf)
            ·rw [List.mem_singleton.1 hf]
             exact Nat.le_trans hvz (Nat.le_mul_of_pos_left _ (Nat.succ_pos _))
           have hr2 : ∀ q', (WB.drewN q').ownsRow w3.heap.size 78 2 u6 L.length (cellsF L) := fun q' => row_below (below_drewN (Below.refl WB.heap.size WB) q') (Nat.le_refl _) hrowB
           obtain ⟨ra, rc, hrs⟩ := row_slice hrowB
           subst hrs
           obtain ⟨LN, hLN⟩ : ∃ n, L.length = n := ⟨_, rfl⟩
           have HLN : Hid (L.length = LN) := hLN
           rw [hLN] at hr2 hLl h40 hrowB ⊢
           have hj1 : j ≤ p.size := by omega
           have hj2 : j + 1 ≤ p.size := by omega
           have hgq : decide ((40 : Int) ≤ (LN : Int)) = false := decide_eq_false (by omega)
           clear HST HGO HGD HTL hst HZ HG hvd hnl hvl hLN hJ1
           go_wp2_with fail
           go_region_held3 (fun W => Below w3.heap.size w3 W)
            (repeat (first | (with_reducible assumption) | (with_reducible refine Below.drew ?_) | (with_reducible refine bel_new ?_ _)))
            (first
             | (go_at_call 49; refine (cR _).mono ?_; rintro e w7 ⟨rfl, hw7⟩; subst hw7)
             | (refine step_append_lies _ ?_ (.tmp 126) (.tmp 136) 74 ?_ w3.heap.size 78 i0 (.agg #[.string ⟨#[]⟩, .string ⟨#[]⟩]) 2 32 Tryz.underlying74 hi hz0 hz1 hz2 rfl (by decide) (.slice ra LN rc) LN (cellsF L) ?_ ?_ ⟨WB.heap.size, 0, none⟩ 1 1 [.string nm, .string vl] ?_ rfl ?_ (by simp [Value.oneCell']) (by decide) (by unfold maxLen; omega) (by omega) ?_ _ rfl ?_; (focus rfl); (focus rfl); (focus rfl); (focus ((repeat (first | (with_reducible exact hrowB) | (with_reducible refine World.ownsRow.alloc ?_ _) | (with_reducible refine World.ownsRow.drew ?_))); done)); (focus rfl); (focus (first | exact World.news_of_block (w := (WB.alloc (.cells #[.string nm, .string vl] 78)).drew) (heap_alloc_new WB (.cells #[.string nm, .string vl] 78)) | exact World.news_of_block (heap_alloc_new _ _))); (focus (first | omega | (simp; omega))); intro g5 cap5 w9 hown9 hg9 _ hlt9; (first | (have hbX : Below w3.heap.size w3 w9 := (bel_new hbB _).drew.grown hg9 (bel_new hbB _).drew.size (fun i e => (hrowB.lt i e).1)) | (have hbX : Below w3.heap.size w3 w9 := (bel_new hbB.drew _).grown hg9 (bel_new hbB.drew _).size (fun i e => (hrowB.lt i e).1)))))
           all_goals
            have HRW : Hid (w9.ownsRow w3.heap.size 78 2 (.slice (some ⟨g5, 0, none⟩) (LN + 1) cap5) (LN + 1) (cellsF (L ++ [(nm, vl)]))) := by
             show World.ownsRow _ _ _ _ _ _ _
             rw [cellsF_append]
             exact hown9
            go_wp2_with fail
            go_roundw
            case rel => exact ⟨k + 1, L ++ [(nm, vl)], by go_num, by omega, by rw [List.length_append, HLN.out]; show LN + 1 ≤ 40; omega, by rw [List.length_append, HLN.out]; exact HRW.out, by show ∀ f ∈ _, _; rw [HMM.out]; exact HGN, by show _ = _; rw [HMM.out]; exact HN, HZ2.out, hbX⟩
            case measure => simp [intOf]; omega
       ·rw [decide_eq_false hin] at cN
        have hbd : (cutAt 58 p.data.toList).2.2 = false ∨ nameOk (cutAt 58 p.data.toList).1 = false := by
         rw [HCI.out]
         by_cases h0 : 0 ≤ z
         ·rw [if_pos h0]
          right
          refine name_no ?_
          have hq := hzl h0
          have hl : (p.data.toList.take z.toNat).length = z.toNat := by rw [List.length_take, list_size]; omega
          by_cases hz0 : z = 0
          ·left; subst hz0; rfl
          ·right
           show 60 < (p.data.toList.take z.toNat).length
           rw [hl]; omega
         ·rw [if_neg h0]; exact Or.inl rfl
        have HE3 : Hid (∀ W', Below rb w W' → Told w F (.returned (.tuple #[.slice none 0 0, .agg #[.int .i64 3, .int .i64 (k : Int)]])) W') := HTL.out 3 (by decide) (by rw [HST.out, if_pos hbd])
        clear HST HGO HGD HTL hbd HCI
        go_wp2_with fail
        refine (cN _).mono ?_
        clear cN
        rintro e w6 ⟨rfl, hw6⟩
        obtain rfl : WB = w6 := hw6.symm
        go_wp2_with fail
        go_region
        all_goals
         go_wp2_with fail
         refine bodyPost_ret (v := .tuple #[.slice none 0 0, .agg #[.int .i64 3, .int .i64 (k : Int)]]) (by simp [results, Tryz.results28, go_sem, s3, s4]) rfl ?_
         exact HE3.out _ ((below_drewN hbwB _).setCell (Nat.le_refl _) _ |>.setCell (Nat.le_refl _) _)
  ·have HN : Hid (((0, 0), L.map tx) = F) := by
    have := HFF.out
    rw [List.drop_eq_nil_of_le (by rw [HP.out.1]; omega)] at this
    exact this
   have hfg := fg_of_row hrow
   obtain ⟨ra, rc, rfl⟩ := row_slice hrow
   have HFG : Hid (Fg wr (.slice ra L.length rc) L) := hfg
   obtain ⟨LN, hLN⟩ : ∃ n, L.length = n := ⟨_, rfl⟩
   rw [hLN] at HFG hrow hLl ⊢
   have g0 := (hbW.cell (p := ⟨0, 0, none⟩) hgl9).trans f0
   have g1 := (hbW.cell (p := ⟨0, 1, none⟩) hgl9).trans f1
   have hhR := (hbW.block rb hl3).trans hh3
   have r0 : wr.cell? ⟨rb, 0, none⟩ = some (.int .i64 0) := rd_cell hhR rfl
   have r1 : wr.cell? ⟨rb, 1, none⟩ = some (.int .i64 0) := rd_cell hhR rfl
   have rf0 := rd_free hhR 0
   have rf1 := rd_free hhR 1
   have s3 := set_read (i := 0) hhR (by decide) (.int .i64 0)
   have s4 := set_read (i := 1) (rd_set (i := 0) (.int .i64 0) hhR) (by simp) (.int .i64 (-1))
   have hbw : Below rb w wr := HB0.out.trans (hbW.mono (Nat.le_of_lt hl3))
   have HFX : Hid (∀ q, Fg (((wr.drewN q).setCell ⟨rb, 0, none⟩ (.int .i64 0)).setCell ⟨rb, 1, none⟩ (.int .i64 (-1))) (.slice ra LN rc) L) := by
    intro q
    obtain ⟨a', c', hv, hd⟩ := HFG.out
    refine ⟨a', c', hv, ?_⟩
    rcases hd with h0 | ⟨b, o, h1, hat⟩
    ·exact Or.inl h0
    ·refine Or.inr ⟨b, o, h1, fun j x hj => ?_⟩
     have hbb : b ≠ rb := by
      rintro rfl
      injection hv with hv1 _ _
      subst h1
      subst hv1
      have := (hrow.lt b rfl).1
      omega
     have e0 : ∀ i, (((wr.drewN q).setCell ⟨rb, 0, none⟩ (.int .i64 0)).setCell ⟨rb, 1, none⟩ (.int .i64 (-1))).cell? ⟨b, i, none⟩ = wr.cell? ⟨b, i, none⟩ := fun i => by
      refine World.cell?_of_block ?_
      rw [Below.heap_setCell _ _ _ _ hbb, Below.heap_setCell _ _ _ _ hbb]
      simp
     rw [e0, e0]
     exact hat j x hj
   clear hfg HFF HG
   go_wp2_with fail
   go_region
   all_goals
    go_wp2_with fail
    refine bodyPost_ret (v := .tuple #[.slice ra LN rc, .agg #[.int .i64 0, .int .i64 (-1)]]) (by simp [results, Tryz.results28, go_sem, s3, s4]) rfl ?_
    rw [← HN.out]
    refine ⟨by rw [HRB.out]; exact ((below_drewN hbw _).setCell (Nat.le_refl _) _ |>.setCell (Nat.le_refl _) _), _, L, rfl, HFX.out _, rfl⟩
end Go.Proofs.YtogigccbnohjjaaGreatDoor
