/-
  What seq.Of does.
-/
import Derived.Test.YtefgpafoajoofaaGreatDoorSeqBase
import Derived.Laws.OwnMore
namespace Go.Proofs.YtefgpafoajoofaaGreatDoor
open Go.RowKit Go.Proofs.Aid Go.Proofs.Sq

/-- A slice of numbers. -/
def Ig (w : World) (v : Value) (zs : List Int) : Prop :=
  ∃ a c, v = .slice a zs.length c ∧ (zs = [] ∨ ∃ b o, a = some ⟨b, o, none⟩ ∧ ∀ (j : Nat) z, zs[j]? = some z → w.cell? ⟨b, o + j, none⟩ = some (.int .i64 z))
theorem Ig.below {w w' : World} {v : Value} {B : Nat} {zs : List Int} (h : Ig w v zs) (hb : Below B w w') (hB : w.heap.size ≤ B) : Ig w' v zs := by
  obtain ⟨a, c, h1, h2⟩ := h
  refine ⟨a, c, h1, ?_⟩
  rcases h2 with h2 | ⟨b, o, h3, h4⟩
  · exact Or.inl h2
  · refine Or.inr ⟨b, o, h3, fun j z hj => ?_⟩
    have h5 := h4 j z hj
    have hlt := World.block_lt_of_cell? _ _ h5
    exact (hb.cell (p := ⟨b, _, none⟩) (Nat.lt_of_lt_of_le hlt hB)).trans h5
theorem Tryz.infoRange2 : (Tryz.prog.info? 78).map (fun i => (i.zero, i.size, i.bytes)) = some (some (.agg #[.int .i64 0, .int .i64 0]), 2, 16) := by kernel_rfl
theorem row_set {w : World} {base e size g n cap : Nat} {xs : List Value} (h : w.ownsRow base e size (.slice (some ⟨g, 0, none⟩) n cap) n xs) (i : Nat) (_ : i < n * size) (v' : Value) :
    (w.setCell ⟨g, i, none⟩ v').ownsRow base e size (.slice (some ⟨g, 0, none⟩) n cap) n (xs.set i v') := by
  refine ⟨by rw [List.length_set]; exact h.1, ?_⟩
  rcases h.2 with ⟨h1, _⟩ | ⟨g', cap', cur, hv, hb, hh, hc1, hc2, hsz, htk⟩
  · cases h1
  · cases hv
    refine Or.inr ⟨g, cap, cur.set! i v', rfl, hb, ?_, hc1, hc2, by simpa using hsz, ?_⟩
    · obtain ⟨hlt, hk⟩ := Array.getElem?_eq_some_iff.1 hh
      show (w.heap.modify g _)[g]? = _
      rw [Array.getElem?_eq_getElem (by rw [Array.size_modify]; exact hlt), Array.getElem_modify_self, hk]
      rfl
    · rw [← htk]
      simp [List.take_set]
/-- The last range, made longer. -/
theorem cells_longer (pre : List (Int × Int)) (f t z : Int) : (cellsR (pre ++ [(f, t)])).set (pre.length * 2 + 1) (.int .i64 z) = cellsR (pre ++ [(f, z)]) := by
  rw [cellsR_append, cellsR_append, List.set_append_right _ _ (by rw [cellsR_length]; omega), cellsR_length, show pre.length * 2 + 1 - pre.length * 2 = 1 by omega]
  rfl

set_option maxHeartbeats 2000000 in
set_option maxRecDepth 100000 in
theorem of_any (v : Value) (zs : List Int) (w : World) (h : Ig w v zs) (hr : rising 0 zs = true) (hlen : zs.length ≤ 1000) (hz : ∀ z ∈ zs, z ≤ 9223372036854775807) :
    Calls Tryz.prog 16 #[v] w fun e w' => (∃ v', e = .returned v' ∧ w'.ownsRow w.heap.size 78 2 v' (ofL zs).length (cellsR (ofL zs))) ∧ Below w.heap.size w w' := by
  obtain ⟨i0, hi, hz0, hz1, hz2⟩ := info_parts Tryz.infoRange2
  obtain ⟨a, c, rfl, ha⟩ := h
  obtain ⟨len, hn⟩ : ∃ n, zs.length = n := ⟨_, rfl⟩
  rw [hn] at hlen ⊢
  obtain ⟨ANS, hANS⟩ : ∃ ANS, ofL zs = ANS := ⟨_, rfl⟩
  rw [hANS]
  go_enter Tryz.func16, Tryz.ntmps16
  go_wp2
  go_loopw [3, 4, 9] (fun ov lv i wr => ∃ k : Nat, i = .int .i64 (k : Int) ∧ k ≤ len ∧ Below w.heap.size w wr ∧ ((k = 0 ∧ ov = .slice none 0 0 ∧ lv = .int .i64 0) ∨ (0 < k ∧ ∃ (pre : List (Int × Int)) (f t : Int) (g cap : Nat), lv = .int .i64 t ∧ ov = .slice (some ⟨g, 0, none⟩) (pre.length + 1) cap ∧ wr.ownsRow w.heap.size 78 2 ov (pre.length + 1) (cellsR (pre ++ [(f, t)])) ∧ pre ++ ofRun f t (zs.drop k) = ANS ∧ rising t (zs.drop k) = true ∧ 1 ≤ t ∧ pre.length < k))) (fun _ _ i _ => len - (intOf i).toNat)
  case atStart => exact ⟨0, rfl, by omega, Below.refl _ _, Or.inl ⟨rfl, rfl, rfl⟩⟩
  case round =>
    obtain ⟨k, rfl, hk, hb, hcase⟩ := hrel
    by_cases hlt : k < len
    · rcases ha with rfl | ⟨b, o, rfl, hat⟩
      · simp at hn; omega
      have hlk : zs[k]? = some zs[k] := List.getElem?_eq_getElem _
      have c1 := hat k _ hlk
      have c2 := (hb.cell (p := ⟨b, o + k, none⟩) (World.block_lt_of_cell? _ _ c1)).trans c1
      have hzk := hz (zs[k]'(by omega)) (List.getElem_mem _)
      have hdr : zs.drop k = zs[k]'(by omega) :: zs.drop (k + 1) := List.drop_eq_getElem_cons (by omega)
      obtain ⟨z, hzz⟩ : ∃ z, zs[k]'(by omega) = z := ⟨_, rfl⟩
      rw [hzz] at c2 hzk hdr
      have hbs := hb.size
      clear c1 hlk hat hz
      rcases hcase with ⟨rfl, rfl, rfl⟩ | ⟨hk0, pre, f, t, g, cap, rfl, rfl, hown, hans, hris, ht, hpl⟩
      · rw [List.drop_zero] at hdr
        rw [Nat.add_zero] at c2
        have hz1' : 0 < z ∧ rising z (zs.drop 1) = true := by
          rw [hdr, rising, Bool.and_eq_true, decide_eq_true_eq] at hr; exact hr
        have HA : Hid (ofRun z z (zs.drop 1) = ANS) := by show _ = ANS; rw [← hANS, hdr]; rfl
        have hznot : ¬ (z ≤ 0) := by omega
        have HR : Hid (rising z (zs.drop 1) = true) := hz1'.2
        have hzp : 0 < z := hz1'.1
        clear hANS hr hz1'
        have hnews : ∀ (j : Nat) (u : Value), [Value.int .i64 z, Value.int .i64 z][j]? = some u → (wr.alloc (.cells #[.int .i64 z, .int .i64 z] 78)).cell? (Addr.add ⟨wr.heap.size, 0, none⟩ j) = some u := World.news_of_block (heap_alloc_new wr (.cells #[.int .i64 z, .int .i64 z] 78))
        go_wp2_with (at_builtin; go_must (refine wpList_append_lies _ rfl (.tmp 32) (.tmp 36) 22 rfl w.heap.size 78 i0 (.agg #[.int .i64 0, .int .i64 0]) 2 16 Tryz.underlying22 hi hz0 hz1 hz2 rfl (by decide) _ 0 [] (by rfl) (World.ownsRow_nil _ _ _ _) ⟨wr.heap.size, 0, none⟩ 1 1 [.int .i64 z, .int .i64 z] (by rfl) rfl hnews (by simp [Value.oneCell']) (by decide) (by decide) (by decide) (by simp; omega) _ rfl ?_); intro g1 cap1 w2 hown1 hg1 _ hlt1)
        have hb2 : Below w.heap.size w w2 := (hb.alloc hbs _).grown hg1 (by simp; omega) (fun j e => by cases e)
        go_roundw
        case rel => exact ⟨1, by go_num, by omega, hb2, Or.inr ⟨by omega, [], z, z, g1, cap1, rfl, rfl, by simpa [cellsR] using hown1, HA, HR, by omega, by simp⟩⟩
        case measure => simp [intOf]; omega
      · rw [hdr] at hans hris
        rw [rising, Bool.and_eq_true, decide_eq_true_eq] at hris
        rw [ofRun] at hans
        obtain ⟨htz, hris⟩ := hris
        have hznot : ¬ (z ≤ t) := by omega
        by_cases hz1' : z - 1 = t
        · rw [if_pos hz1'] at hans
          have hzq : (z - 1 == t) = true := by simpa using hz1'
          have cT := hown.cellAt (pre.length * 2 + 1) (by omega)
          rw [(cellsR_get (pre ++ [(f, t)]) pre.length (f, t) (by simp)).2] at cT
          have fT := hown.frozenAt (pre.length * 2 + 1)
          have HA : Hid (pre ++ ofRun f z (zs.drop (k + 1)) = ANS) := hans
          have HR : Hid (rising z (zs.drop (k + 1)) = true) := hris
          have hown2 := row_set hown (pre.length * 2 + 1) (by omega) (.int .i64 z)
          rw [cells_longer] at hown2
          have hgl := hown.lt g rfl
          clear hans hris hANS hr
          go_wp2
          go_roundw
          case rel => exact ⟨k + 1, by go_num, by omega, hb.setCell (p := ⟨g, pre.length * 2 + 1, none⟩) hgl.1 _, Or.inr ⟨by omega, pre, f, z, g, cap, rfl, rfl, hown2, HA, HR, by omega, by omega⟩⟩
          case measure => simp [intOf]; omega
        · rw [if_neg hz1'] at hans
          have hzq : (z - 1 == t) = false := by simpa using hz1'
          have HA : Hid (pre ++ (f, t) :: ofRun z z (zs.drop (k + 1)) = ANS) := hans
          have HR : Hid (rising z (zs.drop (k + 1)) = true) := hris
          have hgl := hown.lt g rfl
          clear hans hris hANS hr
          have hnews : ∀ (j : Nat) (u : Value), [Value.int .i64 z, Value.int .i64 z][j]? = some u → (wr.alloc (.cells #[.int .i64 z, .int .i64 z] 78)).cell? (Addr.add ⟨wr.heap.size, 0, none⟩ j) = some u := World.news_of_block (heap_alloc_new wr (.cells #[.int .i64 z, .int .i64 z] 78))
          go_wp2_with (at_builtin; go_must (refine wpList_append_lies _ rfl (.tmp 32) (.tmp 36) 22 rfl w.heap.size 78 i0 (.agg #[.int .i64 0, .int .i64 0]) 2 16 Tryz.underlying22 hi hz0 hz1 hz2 rfl (by decide) _ _ _ (by rfl) (hown.alloc _) ⟨wr.heap.size, 0, none⟩ 1 1 [.int .i64 z, .int .i64 z] (by rfl) rfl hnews (by simp [Value.oneCell']) (by decide) (by unfold maxLen; omega) (by omega) (by simp; omega) _ rfl ?_); intro g1 cap1 w2 hown1 hg1 _ hlt1)
          have hb2 : Below w.heap.size w w2 := (hb.alloc hbs _).grown hg1 (by simp; omega) (fun j e => by cases e; exact hgl.1)
          go_roundw
          case rel => exact ⟨k + 1, by go_num, by omega, hb2, Or.inr ⟨by omega, pre ++ [(f, t)], z, z, g1, cap1, rfl, by simp, by rw [cellsR_append (pre ++ [(f, t)]), show cellsR [(z, z)] = [Value.int .i64 z, Value.int .i64 z] from rfl]; simpa using hown1, by rw [← HA.out]; simp, HR, by omega, by simp; omega⟩⟩
          case measure => simp [intOf]; omega
    · have hke : k = len := by omega
      rcases hcase with ⟨rfl, rfl, rfl⟩ | ⟨hk0, pre, f, t, g, cap, rfl, rfl, hown, hans, hris, ht, hpl⟩
      · have hzs : zs = [] := List.eq_nil_of_length_eq_zero (by omega)
        have HA : Hid ([] = ANS) := by show [] = ANS; rw [← hANS, hzs]; rfl
        clear hANS hr hz ha
        go_wp2
        go_ret
        exact ⟨⟨_, rfl, by rw [← HA.out]; exact World.ownsRow_nil _ _ _ _⟩, hb⟩
      · rw [List.drop_eq_nil_of_le (by omega), ofRun] at hans
        have HA : Hid (pre ++ [(f, t)] = ANS) := hans
        clear hANS hr hz ha hans hris
        go_wp2
        go_ret
        exact ⟨⟨_, rfl, by rw [← HA.out]; simpa using hown⟩, hb⟩
end Go.Proofs.YtefgpafoajoofaaGreatDoor
