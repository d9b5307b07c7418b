/-
  What head.Fields does.
-/
import Derived.Test.YtgbbkdflnlagaaaGreatDoorHeadTake2
namespace Go.Proofs.YtgbbkdflnlagaaaGreatDoor
open Go.RowKit Go.Proofs.Aid Go.Proofs.Hd Go.Proofs.Sq

theorem step_len {l : List Hd.Fd} {p : Tx} (h : l.length ≤ 40) : (Hd.step l p).2.length ≤ 40 := by
  unfold Hd.step
  split
  · exact h
  · split
    · simp
    · split
      · split
        · simp
        · rw [onto_length]; exact h
      · split
        · simp
        · split
          · simp
          · simp; omega
theorem fieldsFrom_cons (i : Nat) (l : List Hd.Fd) (p : Tx) (ps : List Tx) : fieldsFrom i l (p :: ps) = if (Hd.step l p).1 = 0 then fieldsFrom (i + 1) (Hd.step l p).2 ps else (((Hd.step l p).1, i), []) := rfl
set_option maxHeartbeats 2000000 in
set_option maxRecDepth 100000 in
theorem fields_is (s : ByteArray) (m : Int) (w : World) (hs : s.size ≤ 90000) (hm : w.cell? ⟨1, 0, none⟩ = some (.int .i64 m)) :
    Calls Tryz.prog 97 #[.string s] w fun e w' => Below w.heap.size w w' ∧
      ((fieldsOf s.data.toList).1.1 = 0 ∧ (∃ v L, e = .returned (.tuple #[v, .nilIface]) ∧ Fg w' v L ∧ L.map tx = (fieldsOf s.data.toList).2) ∨
       (fieldsOf s.data.toList).1.1 ≠ 0 ∧ ∃ p, e = .returned (.tuple #[.slice none 0 0, .iface 170 (.pointer (some ⟨p, 0, none⟩))]) ∧ w'.cell? ⟨p, 0, none⟩ = some (.int .i64 (fieldsOf s.data.toList).1.1) ∧ w'.cell? ⟨p, 1, none⟩ = some (.int .i64 ((fieldsOf s.data.toList).1.2 : Int))) := by
  have cS := split_is s m w (by omega) hm
  obtain ⟨hd, hhd⟩ : ∃ h : ByteArray, ⟨(headOf s.data.toList).toArray⟩ = h := ⟨_, rfl⟩
  have hdl : hd.data.toList = headOf s.data.toList := by rw [← hhd]
  have hds : hd.size ≤ s.size := by
    rw [← list_size, hdl, ← list_size s]
    unfold headOf
    rw [List.length_take]
    omega
  obtain ⟨F, hF⟩ : ∃ F, fieldsOf s.data.toList = F := ⟨_, rfl⟩
  have hF' : fieldsFrom 0 [] (pieces hd.data.toList) = F := by rw [← hF, hdl]; rfl
  rw [hhd] at cS
  rw [hF]
  have hgl := World.block_lt_of_cell? _ _ hm
  have hsp := split_pieces hd
  have hpl := Lib.splitB_all ⟨#[13, 10]⟩ (by decide) 0 _ hd rfl
  have hcl := Lib.countB_le ⟨#[13, 10]⟩ (by decide) _ hd (Nat.le_refl _)
  obtain ⟨P, hP⟩ : ∃ P, Lib.splitB ⟨#[13, 10]⟩ 0 (Lib.countB hd ⟨#[13, 10]⟩) hd = P := ⟨_, rfl⟩
  have hps : ∀ x ∈ P, x.size ≤ 1000000 := fun x hx => by
    have hm1 : x.data.toList ∈ pieces hd.data.toList := by rw [← hsp, hP]; exact List.mem_map_of_mem hx
    have := pieces_length _ _ hm1
    rw [list_size, list_size] at this
    omega
  rw [← hsp, hP] at hF'
  rw [hP] at hpl
  obtain ⟨N, hN⟩ : ∃ N, Lib.countB hd ⟨#[13, 10]⟩ + 1 = N := ⟨_, rfl⟩
  rw [hN] at hpl
  have hNs : N ≤ 90001 := by omega
  have HF0 : Hid (fieldsFrom 0 [] (P.map (·.data.toList)) = F) := hF'
  have HP : Hid (P.length = N ∧ ∀ x ∈ P, x.size ≤ 1000000) := ⟨hpl, hps⟩
  have cP0 : ∀ W, W.cell? ⟨1, 0, none⟩ = some (.int .i64 m) → Calls Tryz.prog 85 #[.string hd, .string ⟨#[13, 10]⟩] W fun e w' => e = .returned (.slice (some ⟨W.heap.size, 0, none⟩) N N) ∧ w' = W.alloc (.cells (P.map Value.string).toArray 9) := fun W hW => by
    have := Tryz.strings_Split hd ⟨#[13, 10]⟩ m W (by omega) hW (by decide)
    rw [hP, hN] at this
    exact this
  clear hF hF' hsp hpl hcl hP hps hN hhd hdl
  go_enter Tryz.func97, Tryz.ntmps97
  go_wp2_with fail
  refine cS.mono ?_
  clear cS
  rintro e w1 ⟨rfl, hb1⟩
  have hb2 : Below w.heap.size w (w1.alloc (.cells #[.slice none 0 0, .slice none 0 0] 201)) := hb1.alloc hb1.size _
  have hh2 := heap_alloc_new w1 (.cells #[.slice none 0 0, .slice none 0 0] 201)
  have cP := cP0 (w1.alloc (.cells #[.slice none 0 0, .slice none 0 0] 201)) ((hb2.cell hgl).trans hm)
  have hlb : w1.heap.size < (w1.alloc (.cells #[.slice none 0 0, .slice none 0 0] 201)).heap.size := by simp
  have hwb : w.heap.size ≤ w1.heap.size := hb1.size
  clear cP0 hb1
  go_wp2_with fail
  generalize w1.alloc (.cells #[.slice none 0 0, .slice none 0 0] 201) = W2 at hb2 hh2 cP hlb ⊢
  generalize w1.heap.size = b at hh2 hlb hwb ⊢
  refine cP.mono ?_
  clear cP
  rintro e w3 ⟨rfl, hw3⟩
  have hb3 : Below w.heap.size w w3 := by rw [hw3]; exact hb2.alloc hb2.size _
  have hb23 : Below W2.heap.size W2 w3 := by rw [hw3]; exact (Below.refl _ _).alloc (Nat.le_refl _) _
  have hh3 : w3.heap[b]? = some (.cells #[.slice none 0 0, .slice none 0 0] 201 (0, 0)) := (hb23.block b hlb).trans hh2
  have hpc : ∀ (j : Nat) x, P[j]? = some x → w3.cell? ⟨W2.heap.size, j, none⟩ = some (.string x) := fun j x hj => by
    have hn := heap_alloc_new W2 (.cells (P.map Value.string).toArray 9)
    rw [← hw3] at hn
    exact rd_cell hn (by rw [List.getElem?_toArray, List.getElem?_map, hj]; rfl)
  have hpb : W2.heap.size < w3.heap.size := by rw [hw3]; simp
  have hpne : W2.heap.size ≠ b := by omega
  have hst0 : St w3.heap.size b [] 0 w3 := ⟨[], [], ⟨_, _, hh3, World.ownsRow_nil _ _ _ _, World.ownsRow_nil _ _ _ _⟩, by simp, by simp, Or.inl ⟨rfl, rfl, rfl⟩⟩
  have hm3 := (hb3.cell hgl).trans hm
  obtain ⟨pb, hpbe⟩ : ∃ n, W2.heap.size = n := ⟨_, rfl⟩
  rw [hpbe] at hpc hpb hpne ⊢
  have HPC : Hid (∀ (j : Nat) x, P[j]? = some x → w3.cell? ⟨pb, j, none⟩ = some (.string x)) := hpc
  obtain ⟨base, hbase⟩ : ∃ n, w3.heap.size = n := ⟨_, rfl⟩
  rw [hbase] at hpb hst0
  have hwbase : w.heap.size ≤ base := by rw [← hbase]; exact hb3.size
  clear hb2 hh2 hw3 hb23 hh3 hpc hm hpbe
  go_wp2_with fail
  go_loopw [18] (fun i wr => ∃ (k : Nat) (l : List Hd.Fd), i = .int .i64 (k : Int) ∧ k ≤ N ∧ l.length ≤ 40 ∧ St base b l k wr ∧ Hid (fieldsFrom k l ((P.drop k).map (·.data.toList)) = F) ∧ But base b w3 wr) (fun i _ => N - (intOf i).toNat)
  case atStart => exact ⟨0, [], rfl, by omega, by simp, hst0, by show _ = _; simpa using HF0.out, to_but (Below.refl _ _)⟩
  case round =>
    obtain ⟨k, l, rfl, hk, hll, hst, HFF, hbt⟩ := hrel
    have hbR : base ≤ wr.heap.size := by rw [← hbase]; exact hbt.size
    have hBB : Below w.heap.size w wr := hb3.trans (hbt.below hwbase hwb)
    have hmr := (hbt.cell (p := ⟨1, 0, none⟩) (Nat.lt_of_lt_of_le hgl hwbase) (by show 1 ≠ b; have : 1 < w.heap.size := hgl; omega)).trans hm3
    by_cases hlt : k < N
    · have hkP : k < P.length := by rw [HP.out.1]; exact hlt
      have c1 := HPC.out k _ (List.getElem?_eq_getElem hkP)
      obtain ⟨x, hx⟩ : ∃ x, P[k] = x := ⟨_, rfl⟩
      rw [hx] at c1
      have c2 := (hbt.cell (p := ⟨pb, k, none⟩) hpb hpne).trans c1
      have hxs : x.size ≤ 1000000 := by rw [← hx]; exact HP.out.2 _ (List.getElem_mem _)
      have HFX : Hid ((if (Hd.step l x.data.toList).1 = 0 then fieldsFrom (k + 1) (Hd.step l x.data.toList).2 ((P.drop (k + 1)).map (·.data.toList)) else (((Hd.step l x.data.toList).1, k), [])) = F) := by
        have := HFF.out
        rw [List.drop_eq_getElem_cons hkP, hx, List.map_cons, fieldsFrom_cons] at this
        exact this
      have cT := take_is base b k l x m wr hst hxs (by omega) hbR hll hmr
      have hsl := step_len (p := x.data.toList) hll
      obtain ⟨E, hE⟩ : ∃ E, Hd.step l x.data.toList = E := ⟨_, rfl⟩
      rw [hE] at cT HFX hsl
      obtain ⟨code, l2⟩ := E
      simp only at cT HFX hsl
      clear hx c1 hE HFF hst
      go_wp2_with fail
      refine cT.mono ?_
      clear cT
      rintro e w4 ⟨hb4, rfl, hst4⟩
      by_cases hc : code = 0
      · have HN : Hid (fieldsFrom (k + 1) l2 ((P.drop (k + 1)).map (·.data.toList)) = F) := by have := HFX.out; rw [if_pos hc] at this; exact this
        have hs4 := hst4 hc
        subst hc
        clear hst4 HFX
        go_wp2_with fail
        go_roundw
        case rel => exact ⟨k + 1, l2, by go_num, by omega, hsl, hs4, HN.out, hbt.trans hb4⟩
        case measure => simp [intOf]; omega
      · have HN : Hid (((code, k), []) = F) := by have := HFX.out; rw [if_neg hc] at this; exact this
        have hcn : (code != 0) = true := by rw [bne_iff_ne]; exact hc
        have hb5 := hBB.trans (hb4.below hwbase hwb)
        have hh5 := heap_alloc_new w4 (.cells #[.int .i64 code, .int .i64 (k : Int)] 172)
        clear hst4 HFX
        go_wp2_with fail
        go_ret2
        refine ⟨hb5.alloc hb5.size _, Or.inr ⟨by rw [← HN.out]; exact hc, _, rfl, ?_, ?_⟩⟩
        · rw [← HN.out]; exact rd_cell hh5 rfl
        · rw [← HN.out]; exact rd_cell hh5 rfl
    · have HN : Hid (((0, 0), l) = F) := by
        have := HFF.out
        rw [List.drop_eq_nil_of_le (by rw [HP.out.1]; omega)] at this
        exact this
      have cA := all_is base b k l wr hst (by omega) hbR hll
      clear HFF hst
      go_wp2_with fail
      refine cA.mono ?_
      rintro e w4 ⟨⟨v, L, rfl, hfg, hL⟩, hb4⟩
      have hFv := hfg
      obtain ⟨va, vc, rfl, _⟩ := hFv
      have HFG : Hid (Fg w4 (.slice va L.length vc) L) := hfg
      have HL : Hid (L.map tx = l) := hL
      obtain ⟨LN, hLN⟩ : ∃ n, L.length = n := ⟨_, rfl⟩
      rw [hLN] at HFG ⊢
      clear hfg hL
      go_wp2_with fail
      go_ret2
      exact ⟨hBB.trans (hb4.below hwbase hwb), Or.inl ⟨by rw [← HN.out], _, L, rfl, HFG.out, by rw [HL.out, ← HN.out]⟩⟩
end Go.Proofs.YtgbbkdflnlagaaaGreatDoor
