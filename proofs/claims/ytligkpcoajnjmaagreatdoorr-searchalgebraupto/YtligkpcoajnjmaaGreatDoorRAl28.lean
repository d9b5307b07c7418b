/-
  What head.Fields does.
  How long what stands at a head can be. Of no program.
  Fields that are short.
-/
import Derived.Test.YtligkpcoajnjmaaGreatDoorRAl27
import Derived.Test.YtligkpcoajnjmaaGreatDoorRAl01
namespace Go.Proofs.YtligkpcoajnjmaaGreatDoorR
open Go.RowKit Go.Proofs.Aid Go.Proofs.Hd Go.Proofs.Sq

theorem step_len {l : List Hd.Fd} {p : Tx} (h : l.length ≤ 40) : (Hd.step l p).2.length ≤ 40 := by
  unfold Hd.step
  split
  · exact h
  · split
    · simp
    · split
      · split
        · simp
        · rw [onto_length]; exact h
      · split
        · simp
        · split
          · simp
          · simp; omega
theorem fieldsFrom_cons (i : Nat) (l : List Hd.Fd) (p : Tx) (ps : List Tx) : fieldsFrom i l (p :: ps) = if (Hd.step l p).1 = 0 then fieldsFrom (i + 1) (Hd.step l p).2 ps else (((Hd.step l p).1, i), []) := rfl
set_option maxHeartbeats 2000000 in
set_option maxRecDepth 100000 in
theorem fields_is (s : ByteArray) (m : Int) (w : World) (hs : s.size ≤ 90000) (hm : w.cell? ⟨1, 0, none⟩ = some (.int .i64 m)) :
    Calls Tryz.prog 159 #[.string s] w fun e w' => Below w.heap.size w w' ∧
      ((fieldsOf s.data.toList).1.1 = 0 ∧ (∃ v L, e = .returned (.tuple #[v, .nilIface]) ∧ Fg w' v L ∧ L.map tx = (fieldsOf s.data.toList).2) ∨
       (fieldsOf s.data.toList).1.1 ≠ 0 ∧ ∃ p, e = .returned (.tuple #[.slice none 0 0, .iface 179 (.pointer (some ⟨p, 0, none⟩))]) ∧ w'.cell? ⟨p, 0, none⟩ = some (.int .i64 (fieldsOf s.data.toList).1.1) ∧ w'.cell? ⟨p, 1, none⟩ = some (.int .i64 ((fieldsOf s.data.toList).1.2 : Int))) := by
  have cS := split_is s m w (by omega) hm
  obtain ⟨hd, hhd⟩ : ∃ h : ByteArray, ⟨(headOf s.data.toList).toArray⟩ = h := ⟨_, rfl⟩
  have hdl : hd.data.toList = headOf s.data.toList := by rw [← hhd]
  have hds : hd.size ≤ s.size := by
    rw [← list_size, hdl, ← list_size s]
    unfold headOf
    rw [List.length_take]
    omega
  obtain ⟨F, hF⟩ : ∃ F, fieldsOf s.data.toList = F := ⟨_, rfl⟩
  have hF' : fieldsFrom 0 [] (pieces hd.data.toList) = F := by rw [← hF, hdl]; rfl
  rw [hhd] at cS
  rw [hF]
  have hgl := World.block_lt_of_cell? _ _ hm
  have hsp := split_pieces hd
  have hpl := Lib.splitB_all ⟨#[13, 10]⟩ (by decide) 0 _ hd rfl
  have hcl := Lib.countB_le ⟨#[13, 10]⟩ (by decide) _ hd (Nat.le_refl _)
  obtain ⟨P, hP⟩ : ∃ P, Lib.splitB ⟨#[13, 10]⟩ 0 (Lib.countB hd ⟨#[13, 10]⟩) hd = P := ⟨_, rfl⟩
  have hps : ∀ x ∈ P, x.size ≤ 2000000 := fun x hx => by
    have hm1 : x.data.toList ∈ pieces hd.data.toList := by rw [← hsp, hP]; exact List.mem_map_of_mem hx
    have := pieces_length _ _ hm1
    rw [list_size, list_size] at this
    omega
  rw [← hsp, hP] at hF'
  rw [hP] at hpl
  obtain ⟨N, hN⟩ : ∃ N, Lib.countB hd ⟨#[13, 10]⟩ + 1 = N := ⟨_, rfl⟩
  rw [hN] at hpl
  have hNs : N ≤ 90001 := by omega
  have HF0 : Hid (fieldsFrom 0 [] (P.map (·.data.toList)) = F) := hF'
  have HP : Hid (P.length = N ∧ ∀ x ∈ P, x.size ≤ 2000000) := ⟨hpl, hps⟩
  have cP0 : ∀ W, W.cell? ⟨1, 0, none⟩ = some (.int .i64 m) → Calls Tryz.prog 203 #[.string hd, .string ⟨#[13, 10]⟩] W fun e w' => e = .returned (.slice (some ⟨W.heap.size, 0, none⟩) N N) ∧ w' = W.alloc (.cells (P.map Value.string).toArray 9) := fun W hW => by
    have := Tryz.strings_Split hd ⟨#[13, 10]⟩ m W (by omega) hW (by decide)
    rw [hP, hN] at this
    exact this
  clear hF hF' hsp hpl hcl hP hps hN hhd hdl
  go_enter Tryz.func159, Tryz.ntmps159
  go_wp2_with fail
  refine cS.mono ?_
  clear cS
  rintro e w1 ⟨rfl, hb1⟩
  have hb2 : Below w.heap.size w (w1.alloc (.cells #[.slice none 0 0, .slice none 0 0] 250)) := hb1.alloc hb1.size _
  have hh2 := heap_alloc_new w1 (.cells #[.slice none 0 0, .slice none 0 0] 250)
  have cP := cP0 (w1.alloc (.cells #[.slice none 0 0, .slice none 0 0] 250)) ((hb2.cell hgl).trans hm)
  have hlb : w1.heap.size < (w1.alloc (.cells #[.slice none 0 0, .slice none 0 0] 250)).heap.size := by simp
  have hwb : w.heap.size ≤ w1.heap.size := hb1.size
  clear cP0 hb1
  go_wp2_with fail
  generalize w1.alloc (.cells #[.slice none 0 0, .slice none 0 0] 250) = W2 at hb2 hh2 cP hlb ⊢
  generalize w1.heap.size = b at hh2 hlb hwb ⊢
  refine cP.mono ?_
  clear cP
  rintro e w3 ⟨rfl, hw3⟩
  have hb3 : Below w.heap.size w w3 := by rw [hw3]; exact hb2.alloc hb2.size _
  have hb23 : Below W2.heap.size W2 w3 := by rw [hw3]; exact (Below.refl _ _).alloc (Nat.le_refl _) _
  have hh3 : w3.heap[b]? = some (.cells #[.slice none 0 0, .slice none 0 0] 250 (0, 0)) := (hb23.block b hlb).trans hh2
  have hpc : ∀ (j : Nat) x, P[j]? = some x → w3.cell? ⟨W2.heap.size, j, none⟩ = some (.string x) := fun j x hj => by
    have hn := heap_alloc_new W2 (.cells (P.map Value.string).toArray 9)
    rw [← hw3] at hn
    exact rd_cell hn (by rw [List.getElem?_toArray, List.getElem?_map, hj]; rfl)
  have hpb : W2.heap.size < w3.heap.size := by rw [hw3]; simp
  have hpne : W2.heap.size ≠ b := by omega
  have hst0 : St w3.heap.size b [] 0 w3 := ⟨[], [], ⟨_, _, hh3, World.ownsRow_nil _ _ _ _, World.ownsRow_nil _ _ _ _⟩, by simp, by simp, Or.inl ⟨rfl, rfl, rfl⟩⟩
  have hm3 := (hb3.cell hgl).trans hm
  obtain ⟨pb, hpbe⟩ : ∃ n, W2.heap.size = n := ⟨_, rfl⟩
  rw [hpbe] at hpc hpb hpne ⊢
  have HPC : Hid (∀ (j : Nat) x, P[j]? = some x → w3.cell? ⟨pb, j, none⟩ = some (.string x)) := hpc
  obtain ⟨base, hbase⟩ : ∃ n, w3.heap.size = n := ⟨_, rfl⟩
  rw [hbase] at hpb hst0
  have hwbase : w.heap.size ≤ base := by rw [← hbase]; exact hb3.size
  clear hb2 hh2 hw3 hb23 hh3 hpc hm hpbe
  go_wp2_with fail
  go_loopw [18] (fun i wr => ∃ (k : Nat) (l : List Hd.Fd), i = .int .i64 (k : Int) ∧ k ≤ N ∧ l.length ≤ 40 ∧ St base b l k wr ∧ Hid (fieldsFrom k l ((P.drop k).map (·.data.toList)) = F) ∧ But base b w3 wr) (fun i _ => N - (intOf i).toNat)
  case atStart => exact ⟨0, [], rfl, by omega, by simp, hst0, by show _ = _; simpa using HF0.out, to_but (Below.refl _ _)⟩
  case round =>
    obtain ⟨k, l, rfl, hk, hll, hst, HFF, hbt⟩ := hrel
    have hbR : base ≤ wr.heap.size := by rw [← hbase]; exact hbt.size
    have hBB : Below w.heap.size w wr := hb3.trans (hbt.below hwbase hwb)
    have hmr := (hbt.cell (p := ⟨1, 0, none⟩) (Nat.lt_of_lt_of_le hgl hwbase) (by show 1 ≠ b; have : 1 < w.heap.size := hgl; omega)).trans hm3
    by_cases hlt : k < N
    · have hkP : k < P.length := by rw [HP.out.1]; exact hlt
      have c1 := HPC.out k _ (List.getElem?_eq_getElem hkP)
      obtain ⟨x, hx⟩ : ∃ x, P[k] = x := ⟨_, rfl⟩
      rw [hx] at c1
      have c2 := (hbt.cell (p := ⟨pb, k, none⟩) hpb hpne).trans c1
      have hxs : x.size ≤ 2000000 := by rw [← hx]; exact HP.out.2 _ (List.getElem_mem _)
      have HFX : Hid ((if (Hd.step l x.data.toList).1 = 0 then fieldsFrom (k + 1) (Hd.step l x.data.toList).2 ((P.drop (k + 1)).map (·.data.toList)) else (((Hd.step l x.data.toList).1, k), [])) = F) := by
        have := HFF.out
        rw [List.drop_eq_getElem_cons hkP, hx, List.map_cons, fieldsFrom_cons] at this
        exact this
      have cT := take_is base b k l x m wr hst hxs (by omega) hbR hll hmr
      have hsl := step_len (p := x.data.toList) hll
      obtain ⟨E, hE⟩ : ∃ E, Hd.step l x.data.toList = E := ⟨_, rfl⟩
      rw [hE] at cT HFX hsl
      obtain ⟨code, l2⟩ := E
      simp only at cT HFX hsl
      clear hx c1 hE HFF hst
      go_wp2_with fail
      refine cT.mono ?_
      clear cT
      rintro e w4 ⟨hb4, rfl, hst4⟩
      by_cases hc : code = 0
      · have HN : Hid (fieldsFrom (k + 1) l2 ((P.drop (k + 1)).map (·.data.toList)) = F) := by have := HFX.out; rw [if_pos hc] at this; exact this
        have hs4 := hst4 hc
        subst hc
        clear hst4 HFX
        go_wp2_with fail
        go_roundw
        case rel => exact ⟨k + 1, l2, by go_num, by omega, hsl, hs4, HN.out, hbt.trans hb4⟩
        case measure => simp [intOf]; omega
      · have HN : Hid (((code, k), []) = F) := by have := HFX.out; rw [if_neg hc] at this; exact this
        have hcn : (code != 0) = true := by rw [bne_iff_ne]; exact hc
        have hb5 := hBB.trans (hb4.below hwbase hwb)
        have hh5 := heap_alloc_new w4 (.cells #[.int .i64 code, .int .i64 (k : Int)] 182)
        clear hst4 HFX
        go_wp2_with fail
        go_ret2
        refine ⟨hb5.alloc hb5.size _, Or.inr ⟨by rw [← HN.out]; exact hc, _, rfl, ?_, ?_⟩⟩
        · rw [← HN.out]; exact rd_cell hh5 rfl
        · rw [← HN.out]; exact rd_cell hh5 rfl
    · have HN : Hid (((0, 0), l) = F) := by
        have := HFF.out
        rw [List.drop_eq_nil_of_le (by rw [HP.out.1]; omega)] at this
        exact this
      have cA := all_is base b k l wr hst (by omega) hbR hll
      clear HFF hst
      go_wp2_with fail
      refine cA.mono ?_
      rintro e w4 ⟨⟨v, L, rfl, hfg, hL⟩, hb4⟩
      have hFv := hfg
      obtain ⟨va, vc, rfl, _⟩ := hFv
      have HFG : Hid (Fg w4 (.slice va L.length vc) L) := hfg
      have HL : Hid (L.map tx = l) := hL
      obtain ⟨LN, hLN⟩ : ∃ n, L.length = n := ⟨_, rfl⟩
      rw [hLN] at HFG ⊢
      clear hfg hL
      go_wp2_with fail
      go_ret2
      exact ⟨hBB.trans (hb4.below hwbase hwb), Or.inl ⟨by rw [← HN.out], _, L, rfl, HFG.out, by rw [HL.out, ← HN.out]⟩⟩
end Go.Proofs.YtligkpcoajnjmaaGreatDoorR
namespace Go.Proofs.Hd
open Go.Proofs.Sq

theorem joinV_len (v b : Tx) : (joinV v b).length ≤ v.length + b.length + 1 := by
  unfold joinV
  split
  · omega
  · split
    · omega
    · simp; omega
theorem onto_bound {M : Nat} : ∀ {l : List Fd} {b : Tx}, (∀ f ∈ l, f.2.length ≤ M) → ∀ f ∈ onto l b, f.2.length ≤ M + b.length + 1
  | [], _, _, f, hf => by simp [onto] at hf
  | [g], b, h, f, hf => by
    have hg := h g List.mem_cons_self
    rw [onto, List.mem_singleton] at hf
    subst hf
    have := joinV_len g.2 b
    show (joinV g.2 b).length ≤ _
    omega
  | g :: k :: r, b, h, f, hf => by
    rw [onto] at hf
    rcases List.mem_cons.1 hf with rfl | hf
    · have := h _ List.mem_cons_self; omega
    · exact onto_bound (fun x hx => h x (List.mem_cons_of_mem _ hx)) f hf
theorem cut_len (c : UInt8) : ∀ s : Tx, (cutAt c s).2.1.length ≤ s.length
  | [] => by simp [cutAt]
  | b :: r => by
    have ih := cut_len c r
    rw [cutAt]
    split
    · simp
    · simp only [List.length_cons]; omega
theorem step_bound {M : Nat} {l : List Fd} {p : Tx} (h : ∀ f ∈ l, f.2.length ≤ M) : ∀ f ∈ (step l p).2, f.2.length ≤ M + (p.length + 1) := by
  intro f hf
  unfold step at hf
  split at hf
  · have := h f hf; omega
  · split at hf
    · simp at hf
    · split at hf
      · split at hf
        · simp at hf
        · have := onto_bound h f hf
          have := bare_length p
          omega
      · split at hf
        · simp at hf
        · split at hf
          · simp at hf
          · rcases List.mem_append.1 hf with hf | hf
            · have := h f hf; omega
            · obtain rfl := List.mem_singleton.1 hf
              have h1 := bare_length (cutAt 58 p).2.1
              have h2 := cut_len 58 p
              show (bare (cutAt 58 p).2.1).length ≤ _
              omega
theorem fieldsFrom_bound : ∀ (ps : List Tx) (i M : Nat) (l : List Fd), (∀ f ∈ l, f.2.length ≤ M) → ∀ f ∈ (fieldsFrom i l ps).2, f.2.length ≤ M + (ps.map fun p => p.length + 1).sum
  | [], _, _, _, h, f, hf => by have := h f hf; simpa using this
  | p :: ps, i, M, l, h, f, hf => by
    rw [fieldsFrom] at hf
    split at hf
    · have := fieldsFrom_bound ps (i + 1) (M + (p.length + 1)) _ (step_bound h) f hf
      rw [List.map_cons, List.sum_cons]
      omega
    · simp at hf
theorem pieces_sum : ∀ (s : Tx), ((pieces s).map fun p => p.length + 1).sum ≤ s.length + 1
  | [] => by simp [pieces]
  | [c] => by simp [pieces]
  | c :: d :: r => by
    have h1 := pieces_sum r
    have h2 := pieces_sum (d :: r)
    rw [pieces]
    split
    · simp only [List.map_cons, List.sum_cons, List.length_cons, List.length_nil]; omega
    · cases hb : pieces (d :: r) with
      | nil => exact absurd hb (pieces_ne _)
      | cons q qs =>
        rw [hb] at h2
        simp only [List.map_cons, List.sum_cons, List.length_cons, List.headD_cons, List.tail_cons] at h2 ⊢
        omega
theorem values_short (s : Tx) : ∀ f ∈ (fieldsOf s).2, f.2.length ≤ s.length + 1 := by
  intro f hf
  have h1 := fieldsFrom_bound (pieces (headOf s)) 0 0 [] (by simp) f hf
  have h2 := pieces_sum (headOf s)
  have h3 : (headOf s).length ≤ s.length := by unfold headOf; rw [List.length_take]; omega
  omega
theorem printed_len {V : Nat} : ∀ {l : List Fd}, (∀ f ∈ l, Good f ∧ f.2.length ≤ V) → (printed l).length ≤ l.length * (64 + V) + 2
  | [], _ => by simp [printed]
  | f :: r, h => by
    have ih := printed_len (fun x hx => h x (List.mem_cons_of_mem _ hx) : ∀ x ∈ r, Good x ∧ x.2.length ≤ V)
    have hf := h f List.mem_cons_self
    have hn := (name_ne hf.1.name).2
    rw [printed, List.length_append, List.length_cons, List.length_cons, List.length_cons, Nat.add_mul]
    have : (lineOf f).length = f.1.length + (f.2.length + 2) := by unfold lineOf; simp
    omega
theorem head_body (s : Tx) : headOf s ++ bodyOf s = s := List.take_append_drop _ _
end Go.Proofs.Hd
namespace Go.Proofs.YtligkpcoajnjmaaGreatDoorR
open Go.RowKit Go.Proofs.Aid Go.Proofs.Hd Go.Proofs.Sq

def Short (L : List Fb) : Prop := ∀ f ∈ L, f.1.size ≤ 2000000 ∧ f.2.size ≤ 2000000
theorem short_of {L : List Fb} {V : Nat} (hV : V ≤ 2000000) (h : ∀ f ∈ L.map tx, Hd.Good f ∧ f.2.length ≤ V) : Short L := fun f hf => by
  have h1 := h (tx f) (List.mem_map_of_mem hf)
  have h2 := (name_ne h1.1.name).2
  have h3 := h1.2
  simp only [tx] at h2 h3
  rw [list_size] at h2 h3
  omega
end Go.Proofs.YtligkpcoajnjmaaGreatDoorR
