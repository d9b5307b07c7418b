/-
  A slice of texts cloned: a row of texts alone, with room behind, and more.
-/
import Derived.Test.YtfdlopimncodcaaGreatDoorMHpList
import Derived.DeepKeys4
namespace Go.Proofs.YtfdlopimncodcaaGreatDoor
open Go.RowKit Go.Proofs.Aid
theorem Tryz.nilNms (w : World) : (binOp BinOp.eql 32 (.slice none 0 0) (.slice none 0 0)).run Tryz.prog w = .ok (.bool true) w := by kernel_rfl
theorem Tryz.someNms (b : Addr) (n c : Nat) (w : World) : (binOp BinOp.eql 32 (.slice (some b) n c) (.slice none 0 0)).run Tryz.prog w = .ok (.bool false) w := by kernel_rfl
theorem Tryz.noneNms (x b : Addr) (c : Nat) (w : World) : (Builtin.append_ #[32, 32] 32 #[.slice (some x) 0 0, .slice (some b) 0 c]).run Tryz.prog w = .ok (.slice (some x) 0 0) w := by kernel_rfl
set_option maxHeartbeats 1000000 in
set_option maxRecDepth 100000 in
theorem nclone_nil (w : World) : Calls Tryz.prog 51 #[.slice none 0 0] w fun e w' => e = .returned (.slice none 0 0) ∧ w' = w := by
  have h := Tryz.nilNms w
  go_enter Tryz.func51, Tryz.ntmps51
  go_wp2_with fail
  go_ret
  exact ⟨rfl, rfl⟩
set_option maxHeartbeats 1000000 in
set_option maxRecDepth 100000 in
theorem nclone_run (b : Addr) (n c : Nat) (w : World) (v' : Value) (w' : World) (hr : (Builtin.append_ #[32, 32] 32 #[.slice (some ⟨w.heap.size, 0, none⟩) 0 0, .slice (some b) n c]).run Tryz.prog (w.alloc (.cells #[] 9)) = .ok v' w') :
    Calls Tryz.prog 51 #[.slice (some b) n c] w fun e w2 => e = .returned v' ∧ w2 = w' := by
  have h := Tryz.someNms b n c w
  have HR : Hid ((Builtin.append_ #[32, 32] 32 #[.slice (some ⟨w.heap.size, 0, none⟩) 0 0, .slice (some b) n c]).run Tryz.prog (w.alloc (.cells #[] 9)) = .ok v' w') := hr
  clear hr
  go_enter Tryz.func51, Tryz.ntmps51
  go_wp2_with (at_builtin; go_must (refine Go.Lib.wpList_append_run _ rfl (.tmp 5) (.tmp 6) 32 32 rfl _ _ rfl rfl v' w' HR.out ?_))
  go_ret
  exact ⟨rfl, rfl⟩
def WOwn (w : World) (base : Nat) (v : Value) (W : List Nm) : Prop := WRow w v W ∧ NRow w base v W
theorem clone_wown (fv : Value) (F : List Nm) (w : World) (h : Sl w fv F) (hF : F.length ≤ 1000) :
    Calls Tryz.prog 51 #[fv] w fun e w' => (∃ v', e = .returned v' ∧ WOwn w' w.heap.size v' F) ∧ Below w.heap.size w w' := by
  obtain ⟨a, c, rfl, ⟨h0, hc⟩, h2⟩ := h
  cases a with
  | none =>
    have hn : F = [] := by
      rcases h2 with h2 | ⟨b, o, h2, _⟩
      · exact h2
      · cases h2
    subst hn
    obtain rfl := h0 rfl
    refine (nclone_nil w).mono ?_
    rintro e w' ⟨rfl, rfl⟩
    exact ⟨⟨_, rfl, Or.inl ⟨rfl, rfl⟩, World.ownsRow_nil _ _ _ _⟩, Below.refl _ _⟩
  | some ad =>
    have b1 : Below w.heap.size w (w.alloc (.cells #[] 9)) := (Below.refl _ _).alloc (Nat.le_refl _) _
    have z1 : (w.alloc (.cells #[] 9)).heap.size = w.heap.size + 1 := by simp
    have e1 := heap_alloc_new w (.cells #[] 9)
    have hnil : (w.alloc (.cells #[] 9)).ownsRow w.heap.size 9 1 (.slice (some ⟨w.heap.size, 0, none⟩) 0 0) 0 [] := ⟨rfl, Or.inr ⟨w.heap.size, 0, #[], rfl, Nat.le_refl _, e1, Nat.le_refl _, by unfold maxLen; omega, rfl, rfl⟩⟩
    by_cases hl0 : F = []
    · subst hl0
      refine (nclone_run ad 0 c w _ _ (Tryz.noneNms ⟨w.heap.size, 0, none⟩ ad c _)).mono ?_
      rintro e w' ⟨rfl, rfl⟩
      exact ⟨⟨_, rfl, Or.inr ⟨_, 0, rfl, ⟨#[], e1, rfl, fun j u hu => (by simp at hu)⟩, fun j x hx => (by simp at hx), Nat.le_refl _, by unfold maxLen; omega⟩, hnil⟩, b1⟩
    · obtain ⟨b, o, rfl, hat⟩ : ∃ b o, ad = ⟨b, o, none⟩ ∧ ∀ (j : Nat) t, F[j]? = some t → w.cell? ⟨b, o + j, none⟩ = some (encStr t) := by
        rcases h2 with h2 | ⟨b, o, h2, h3⟩
        · exact absurd h2 hl0
        · exact ⟨b, o, Option.some.inj h2, h3⟩
      have hpos := List.length_pos_iff.2 hl0
      obtain ⟨j0, hj, hz, hs, hby⟩ := info_parts Tryz.infoNm
      obtain ⟨g, cap, w', hrun, hown, hg, hor, hlt, hall⟩ := run_append_clean (P := Tryz.prog) (w.alloc (.cells #[] 9)) (fun u => ∃ s : ByteArray, u = .string s) 32 32 w.heap.size 9 j0 (.string ⟨#[]⟩) 1 16 Tryz.underlying32 hj hz hs hby rfl (by decide) (.slice (some ⟨w.heap.size, 0, none⟩) 0 0) 0 [] hnil (fun g hg => by
        obtain rfl : w.heap.size = g := by simpa [Value.ownBlock] using hg
        exact allC_of e1 (fun u hu => by simp at hu)) (fun u hu => by
        have : u = .string ⟨#[]⟩ := by simpa [Value.cells] using hu
        exact ⟨_, this⟩) ⟨b, o, none⟩ F.length c (F.map encStr) (by simp) (fun k u hk => by
        rw [Addr.add_lit]
        rw [List.getElem?_map] at hk
        obtain ⟨t, ht, rfl⟩ := Option.map_eq_some_iff.1 hk
        have h9 := hat k t ht
        exact (b1.cell (p := ⟨b, _, none⟩) (World.block_lt_of_cell? _ _ h9)).trans h9) encs_one encs_txt hpos (by unfold maxLen; omega) (by omega) (by omega)
      refine (nclone_run ⟨b, o, none⟩ F.length c w _ w' hrun).mono ?_
      rintro e w2 ⟨rfl, rfl⟩
      rw [Nat.zero_add, List.nil_append] at hown
      have hb2 : Below w.heap.size (w.alloc (.cells #[] 9)) w2 := ⟨hg.os, hg.tape, hg.output, hg.size, fun k hk => hg.block k (by omega) (fun e => by
        have : w.heap.size = k := by simpa [Value.ownBlock] using e.symm
        omega)⟩
      rw [Nat.zero_add]
      refine ⟨⟨_, rfl, Or.inr ?_, hown⟩, b1.trans hb2⟩
      rcases id hown.2 with ⟨q1, _⟩ | ⟨g', cap', cur, q1, q2, q3, q4, q5, q6, q7⟩
      · cases q1
      · injection q1 with q1 _ qc
        injection q1 with q1
        injection q1 with q1 _ _
        subst q1 qc
        refine ⟨g, cap, rfl, ⟨cur, q3, by omega, fun j u hu => hall j u (by rw [rd_cell q3 hu])⟩, fun j x hx => ?_, q4, q5⟩
        have h3 : (F.map encStr)[j]? = some (encStr x) := by rw [List.getElem?_map, hx]; rfl
        rw [← q7, List.getElem?_take] at h3
        split at h3
        · exact rd_cell q3 (by rw [← Array.getElem?_toList]; exact h3)
        · cases h3
end Go.Proofs.YtfdlopimncodcaaGreatDoor
namespace Go.Proofs.YtfdlopimncodcaaGreatDoor
open Go.RowKit Go.Proofs.Aid
theorem nrow_blk {w : World} {base : Nat} {v : Value} {l : List Nm} (h : NRow w base v l) {g : Nat} (hg : v.ownBlock = some g) : base ≤ g := by
  rcases h.2 with ⟨q1, _⟩ | ⟨g', cap, cur, q1, q2, _⟩
  · rw [q1] at hg; cases hg
  · rw [q1] at hg
    have : g' = g := by simpa [Value.ownBlock] using hg
    omega
set_option maxHeartbeats 4000000 in
set_option maxRecDepth 100000 in
theorem list_p (H K hb mb : Nat) (l : Bxs) (nx : Int) (W : List Nm) (C : Nat → Bxd) (wv : Value) (p : ByteArray) (y : Bool) (w : World) (h : PH H K hb mb l nx W C wv w) (hps : p.size ≤ 1000) :
    Calls Tryz.prog 29 #[.pointer (some ⟨hb, 0, none⟩), .string p, .bool y] w fun e w' => (∃ v, e = .returned v ∧ Sl w' v ((if y = true then W else namesB l).filter fun t => matchB p.data.toList t)) ∧ Below w.heap.size w w' := by
  have b1 : Below w.heap.size w (w.alloc (.cells #[.string p] 9)) := (Below.refl _ _).alloc (Nat.le_refl _) _
  have e1 := heap_alloc_new w (.cells #[.string p] 9)
  obtain ⟨W1, hW1⟩ : ∃ W, w.alloc (.cells #[.string p] 9) = W := ⟨_, rfl⟩
  rw [hW1] at b1 e1
  have h1 := h.below b1
  have hlen := h.hi.len
  have cN := names_is hb mb l nx wv W1 h1.st.hse.hs (by omega)
  have hw1 : w.heap.size < W1.heap.size := (Array.getElem?_eq_some_iff.1 e1).1
  have HX : Hid (PH H K hb mb l nx W C wv W1 ∧ Below w.heap.size w W1 ∧ W1.heap[w.heap.size]? = some (.cells #[.string p] 9 (0, 0)) ∧ (∀ n ∈ namesB l, n.length ≤ 1000) ∧ (∀ n ∈ W, n.length ≤ 1000) ∧ (namesB l).length ≤ 1000 ∧ W.length ≤ 1000) := by
    refine ⟨h1, b1, e1, fun n hn => ?_, fun n hn => ?_, by unfold namesB; rw [List.length_map]; omega, by have := h.hi.wlen; omega⟩
    · obtain ⟨q, hq, rfl⟩ := List.mem_map.1 hn
      have := h.hi.short q hq
      omega
    · have := nameB_len60 (h.hi.wnm n hn)
      omega
  obtain ⟨a, c, hwv⟩ := h.st.form
  obtain ⟨M, hM⟩ : ∃ m, W.length = m := ⟨_, rfl⟩
  rw [hM] at hwv
  subst hwv
  clear h h1 b1 e1 hlen
  cases y with
  | false =>
    rw [if_neg (by decide)]
    go_enter Tryz.func29, Tryz.ntmps29
    go_wp2_with fail
    refine cN.mono ?_
    rintro e w2 ⟨⟨v2, rfl, hrow⟩, hb2⟩
    have hp2 : w2.cell? ⟨w.heap.size, 0, none⟩ = some (.string p) := rd_cell ((hb2.block _ hw1).trans HX.out.2.2.1) rfl
    have cD := del_any p w.heap.size W1.heap.size v2 (namesB l) w2 hrow hb2.size hp2 (fun e => by have := nrow_blk hrow e; omega) hps HX.out.2.2.2.1 HX.out.2.2.2.2.2.1
    obtain ⟨na, nc, rfl⟩ := row_form hrow
    have HB2 : Hid (Below W1.heap.size W1 w2) := hb2
    clear cN hrow hb2 hp2
    go_wp2_with fail
    refine cD.mono ?_
    rintro e w3 ⟨⟨v3, rfl, hs3⟩, hb3⟩
    have HF : Hid (Sl w3 v3 ((namesB l).filter fun t => matchB p.data.toList t) ∧ Below w.heap.size w w3) := ⟨hs3, HX.out.2.1.trans ((HB2.out.trans hb3).mono HX.out.2.1.size)⟩
    clear cD hs3 hb3
    go_wp2_with fail
    go_ret
    exact ⟨⟨_, rfl, HF.out.1⟩, HF.out.2⟩
  | true =>
    rw [if_pos rfl]
    go_enter Tryz.func29, Tryz.ntmps29
    go_wp2_with fail
    refine cN.mono ?_
    rintro e w2 ⟨⟨v2, rfl, _⟩, hb2⟩
    have h2 := HX.out.1.below hb2
    have c1 := h2.st.hse.hs.cell.2.1
    have cC := clone_wown (.slice a M c) W w2 h2.st.hse.ws HX.out.2.2.2.2.2.2
    have HB2 : Hid (Below W1.heap.size W1 w2) := hb2
    clear cN hb2 h2
    go_wp2_with fail
    refine cC.mono ?_
    rintro e w3 ⟨⟨v3, rfl, hown⟩, hb3⟩
    have hrow := hown.2
    have hz2 := HB2.out.size
    have hp3 : w3.cell? ⟨w.heap.size, 0, none⟩ = some (.string p) := rd_cell ((hb3.block _ (by omega)).trans ((HB2.out.block _ hw1).trans HX.out.2.2.1)) rfl
    have cD := del_any p w.heap.size w2.heap.size v3 W w3 hrow hb3.size hp3 (fun e => by have := nrow_blk hrow e; omega) hps HX.out.2.2.2.2.1 HX.out.2.2.2.2.2.2
    obtain ⟨na, nc, rfl⟩ := row_form hrow
    rw [hM] at cD
    have HB3 : Hid (Below W1.heap.size W1 w3 ∧ W1.heap.size ≤ w2.heap.size) := ⟨HB2.out.trans (hb3.mono hz2), hz2⟩
    clear cC hrow hown hb3 hp3 c1
    go_wp2_with fail
    refine cD.mono ?_
    rintro e w4 ⟨⟨v4, rfl, hs4⟩, hb4⟩
    have HF : Hid (Sl w4 v4 (W.filter fun t => matchB p.data.toList t) ∧ Below w.heap.size w w4) := ⟨hs4, HX.out.2.1.trans ((HB3.out.1.trans (hb4.mono HB3.out.2)).mono HX.out.2.1.size)⟩
    clear cD hs4 hb4
    go_wp2_with fail
    go_ret
    exact ⟨⟨_, rfl, HF.out.1⟩, HF.out.2⟩
end Go.Proofs.YtfdlopimncodcaaGreatDoor
namespace Go.Proofs.YtfdlopimncodcaaGreatDoor
open Go.RowKit Go.Proofs.Aid
open Go.Maps (Keyed IsMap isMap_empty atKey_put_same atKey_put_other)
theorem plLaid : laidOutB Tryz.prog = true := by kernel_rfl
theorem lawP : Keyed Tryz.prog 124 := Keyed.of_law (deep_law_laid plLaid (m := 2) (by omega) (of_decide_eq_true (by kernel_rfl)) (by kernel_rfl) (by rw [Tryz.underlying124]))
abbrev pairV (i k : Nat) : Value := .agg #[.int .i64 (i : Int), .int .i64 (k : Int)]
theorem key_pair (i k : Nat) (hi : i ≤ 1000000) (hk : k ≤ 1000000) : ∃ l, keyOf Tryz.prog 124 (pairV i k) = some l := by
  have u := Tryz.underlying124
  have v := Tryz.underlying3
  have hkt : Program.keyType Tryz.prog 124 = true := by kernel_rfl
  have hc : Tryz.prog.cellsOf 124 = 2 := by kernel_rfl
  have hc1 : Tryz.prog.cellsOf 3 = 1 := by kernel_rfl
  have hsz : Tryz.prog.types.size = 0 + (293 - 1) + 1 := by kernel_rfl
  have w1 : (Lit.int .i64 (i : Int)).wf = true := WalkArith.wf_i64 (by omega)
  have w2 : (Lit.int .i64 (k : Int)).wf = true := WalkArith.wf_i64 (by omega)
  obtain ⟨m, hm⟩ : ∃ m, Tryz.prog.types.size = m + 1 := ⟨_, hsz⟩
  have hf : (pairV i k).formed Tryz.prog 124 = true := by simp [Value.formed, u, hc]
  have hl : ∃ ls, Tryz.prog.keyLits (Tryz.prog.types.size + 1) 124 (pairV i k).cells.toList = some ls := by
    rw [hm]
    refine ⟨[.int .i64 (i : Int), .int .i64 (k : Int)], ?_⟩
    simp [Program.keyLits, u, v, hc, hc1, Value.cells, w1, w2, List.range_succ]
  obtain ⟨ls, hls⟩ := hl
  unfold keyOf
  rw [u]
  exact ⟨.string (keyBytes ls), by simp only [hkt, hf, hls, Bool.and_self, if_true, Option.map_some]⟩
def SeenAt (w : World) (mb n : Nat) (S : Nat → Nat → Bool) : Prop :=
  ∃ D : DataW Unit, w.ownsMap Tryz.prog 124 (plainElem Tryz.prog 4) mb n D ∧ ∀ i k l, i ≤ 1000000 → k ≤ 1000000 → keyOf Tryz.prog 124 (pairV i k) = some l → D.atKey l (.lit (.bool false)) = .lit (.bool (S i k))
theorem seen_new (w : World) : SeenAt (w.alloc (.map #[] 0)) w.heap.size 0 (fun _ _ => false) := ⟨.map [], World.ownsMap_made _ _ _ _, fun _ _ _ _ _ _ => rfl⟩
theorem seen_make (w : World) : (Instr.makeMap 122 none).run Tryz.prog w = .ok (.map (some w.heap.size)) (w.alloc (.map #[] 0)) := by kernel_rfl
theorem SeenAt.same {w w' : World} {mb n : Nat} {S : Nat → Nat → Bool} (h : SeenAt w mb n S) (hb : w'.heap[mb]? = w.heap[mb]?) : SeenAt w' mb n S := by
  obtain ⟨D, ⟨es, clock, h1, r⟩, hD⟩ := h
  exact ⟨D, ⟨es, clock, hb.trans h1, r⟩, hD⟩
set_option maxRecDepth 100000 in
theorem seen_look {w : World} {mb n : Nat} {S : Nat → Nat → Bool} (h : SeenAt w mb n S) (i k : Nat) (hi : i ≤ 1000000) (hk : k ≤ 1000000) :
    (Instr.lookup 122 (.map (some mb)) (pairV i k) false).run Tryz.prog w = .ok (.bool (S i k)) w := by
  obtain ⟨D, h1, hD⟩ := h
  obtain ⟨l, hl⟩ := key_pair i k hi hk
  have hz : (zeroValue 4).run Tryz.prog w = .ok (.bool false) w := by kernel_rfl
  obtain ⟨v, ps, hr, hv⟩ := h1.lookup lawP Tryz.underlying122 hz (plainElem_bool Tryz.underlying4 false) hl
  rw [hD i k l hi hk hl] at hv
  have : v = .bool (S i k) := by
    have hb := Tryz.underlying4
    generalize S i k = b at hv ⊢
    generalize Tryz.prog = P at hb hv
    unfold plainElem at hv
    rw [hb] at hv
    cases v <;> simp at hv
    rw [hv.1]
  subst this
  exact hr
theorem seen_put {w : World} {mb n : Nat} {S : Nat → Nat → Bool} (h : SeenAt w mb n S) (hn : n ≤ 1000000) (i k : Nat) (hi : i ≤ 1000000) (hk : k ≤ 1000000) :
    ∃ w', (Instr.mapUpdate 122 (.map (some mb)) (pairV i k) (.bool true)).run Tryz.prog w = .ok () w' ∧ SeenAt w' mb (n + 1) (fun a c => S a c || (decide (a = i) && decide (c = k))) ∧ w.mapTurned w' mb := by
  obtain ⟨D, h1, hD⟩ := h
  obtain ⟨l, hl⟩ := key_pair i k hi hk
  obtain ⟨w', hr, h2, h3⟩ := h1.store lawP Tryz.underlying122 (by unfold maxLen; omega) hl (plainElem_bool Tryz.underlying4 true)
  refine ⟨w', hr, ⟨_, h2, fun a c m ha hc hm => ?_⟩, h3⟩
  by_cases e : a = i ∧ c = k
  · obtain ⟨rfl, rfl⟩ := e
    rw [hl] at hm
    obtain rfl := Option.some.inj hm
    rw [atKey_put_same h1.isMap (lawP.key hl)]
    simp
  · have hne : m ≠ l := fun e2 => by
      have := lawP.inj hm (e2 ▸ hl)
      injection this with this
      have h4 : ([Value.int .i64 (a : Int), .int .i64 (c : Int)] : List Value) = [.int .i64 (i : Int), .int .i64 (k : Int)] := congrArg Array.toList this
      injection h4 with h5 h6
      injection h6 with h6 _
      injection h5 with _ h5
      injection h6 with _ h6
      exact e ⟨by omega, by omega⟩
    rw [atKey_put_other hne, hD a c m ha hc hm]
    have : (decide (a = i) && decide (c = k)) = false := by
      rw [Bool.and_eq_false_iff]
      by_cases h5 : a = i
      · exact Or.inr (decide_eq_false fun h6 => e ⟨h5, h6⟩)
      · exact Or.inl (decide_eq_false h5)
    show _ = DataW.lit (Lit.bool (S a c || (decide (a = i) && decide (c = k))))
    rw [this, Bool.or_false]
end Go.Proofs.YtfdlopimncodcaaGreatDoor
namespace Go.Proofs.YtfdlopimncodcaaGreatDoor
def Sg (c : UInt8) (u : List UInt8) : Prop := c = 42 ∨ (c = 37 ∧ 47 ∉ u) ∨ (c ≠ 42 ∧ c ≠ 37 ∧ u = [c])
theorem mt_cons {c : UInt8} : ∀ (n : Nat) (p : List UInt8), p.length = n → ∀ t, (Mt (c :: p) t ↔ ∃ u t1, t = u ++ t1 ∧ Sg c u ∧ Mt p t1)
  | 0, p, hp, t => by
    obtain rfl := List.eq_nil_of_length_eq_zero hp
    rw [show (c :: ([] : List UInt8)) = [] ++ [c] from rfl, mt_snoc]
    constructor
    · rintro ⟨t1, u, rfl, h, hs⟩
      obtain rfl := mt_nil.1 h
      exact ⟨u, [], by simp, hs, Mt.nil⟩
    · rintro ⟨u, t1, rfl, hs, h⟩
      obtain rfl := mt_nil.1 h
      exact ⟨[], u, by simp, Mt.nil, hs⟩
  | n + 1, p, hp, t => by
    rcases snoc_cases p with rfl | ⟨q, d, rfl⟩
    · simp at hp
    · have hq : q.length = n := by simpa using hp
      rw [show c :: (q ++ [d]) = (c :: q) ++ [d] from rfl, mt_snoc]
      constructor
      · rintro ⟨t1, u, rfl, h, hs⟩
        obtain ⟨v, t2, rfl, hv, h2⟩ := (mt_cons n q hq t1).1 h
        exact ⟨v, t2 ++ u, by simp, hv, mt_snoc.2 ⟨t2, u, rfl, h2, hs⟩⟩
      · rintro ⟨v, t2, rfl, hv, h2⟩
        obtain ⟨t3, u, rfl, h3, hs⟩ := mt_snoc.1 h2
        exact ⟨v ++ t3, u, by simp, (mt_cons n q hq _).2 ⟨v, t3, rfl, hv, h3⟩, hs⟩
theorem mt_wild {c : UInt8} (hc : c = 42 ∨ c = 37) (p t : List UInt8) : Mt (c :: p) t ↔ Mt p t ∨ ∃ d t1, t = d :: t1 ∧ (c = 42 ∨ d ≠ 47) ∧ Mt (c :: p) t1 := by
  constructor
  · intro h
    obtain ⟨u, t1, rfl, hs, h1⟩ := (mt_cons _ p rfl t).1 h
    cases u with
    | nil => exact Or.inl h1
    | cons d u =>
      refine Or.inr ⟨d, u ++ t1, rfl, ?_, (mt_cons _ p rfl _).2 ⟨u, t1, rfl, ?_, h1⟩⟩
      · rcases hs with h | ⟨_, h⟩ | ⟨h2, h3, _⟩
        · exact Or.inl h
        · exact Or.inr fun e => h (by rw [e]; exact List.mem_cons_self)
        · rcases hc with h | h
          · exact Or.inl h
          · exact absurd h h3
      · rcases hs with h | ⟨h, h4⟩ | ⟨h2, h3, _⟩
        · exact Or.inl h
        · exact Or.inr (Or.inl ⟨h, fun e => h4 (List.mem_cons_of_mem _ e)⟩)
        · rcases hc with h | h
          · exact absurd h h2
          · exact absurd h h3
  · rintro (h | ⟨d, t1, rfl, hd, h⟩)
    · refine (mt_cons _ p rfl t).2 ⟨[], t, rfl, ?_, h⟩
      rcases hc with h | h
      · exact Or.inl h
      · exact Or.inr (Or.inl ⟨h, List.not_mem_nil⟩)
    · obtain ⟨u, t2, rfl, hs, h1⟩ := (mt_cons _ p rfl t1).1 h
      refine (mt_cons _ p rfl _).2 ⟨d :: u, t2, rfl, ?_, h1⟩
      rcases hs with h | ⟨h, h4⟩ | ⟨h2, h3, _⟩
      · exact Or.inl h
      · refine Or.inr (Or.inl ⟨h, fun e => ?_⟩)
        rcases List.mem_cons.1 e with e | e
        · rcases hd with h5 | h5
          · rw [h] at h5; exact absurd h5 (by decide)
          · exact h5 e.symm
        · exact h4 e
      · rcases hc with h | h
        · exact absurd h h2
        · exact absurd h h3
theorem mt_plain1 {c : UInt8} (h1 : c ≠ 42) (h2 : c ≠ 37) (p t : List UInt8) : Mt (c :: p) t ↔ ∃ t1, t = c :: t1 ∧ Mt p t1 := by
  rw [mt_cons _ p rfl t]
  constructor
  · rintro ⟨u, t1, rfl, hs, h⟩
    rcases hs with h3 | ⟨h3, _⟩ | ⟨_, _, rfl⟩
    · exact absurd h3 h1
    · exact absurd h3 h2
    · exact ⟨t1, rfl, h⟩
  · rintro ⟨t1, rfl, h⟩
    exact ⟨[c], t1, rfl, Or.inr (Or.inr ⟨h1, h2, rfl⟩), h⟩
theorem drop_get {s : List UInt8} {k : Nat} (h : k < s.length) : s.drop k = s.getD k 0 :: s.drop (k + 1) := by
  rw [List.drop_eq_getElem_cons h, List.getD_eq_getElem?_getD, List.getElem?_eq_getElem h]
  rfl
abbrev Pl := Nat → Nat → Prop
def Shut (p s : List UInt8) (S : Pl) (i k : Nat) : Prop :=
  if i = p.length then k ≠ s.length
  else if p.getD i 0 = 42 ∨ p.getD i 0 = 37 then S (i + 1) k ∧ (k < s.length → (p.getD i 0 = 42 ∨ s.getD k 0 ≠ 47) → S i (k + 1))
  else k < s.length → s.getD k 0 = p.getD i 0 → S (i + 1) (k + 1)
theorem Shut.more {p s : List UInt8} {S S' : Pl} {i k : Nat} (h : Shut p s S i k) (hS : ∀ a c, S a c → S' a c) : Shut p s S' i k := by
  unfold Shut at h ⊢
  split
  · rename_i h1
    rw [if_pos h1] at h
    exact h
  · rename_i h1
    rw [if_neg h1] at h
    split
    · rename_i h2
      rw [if_pos h2] at h
      exact ⟨hS _ _ h.1, fun a b => hS _ _ (h.2 a b)⟩
    · rename_i h2
      rw [if_neg h2] at h
      exact fun a b => hS _ _ (h a b)
theorem shut_not {p s : List UInt8} {S : Pl} (hS : ∀ i k, S i k → i ≤ p.length ∧ k ≤ s.length ∧ Shut p s S i k) : ∀ (n i k : Nat), (p.length - i) + (s.length - k) = n → S i k → ¬ Mt (p.drop i) (s.drop k) := by
  intro n
  induction n using Nat.strongRecOn with
  | _ n ih =>
    intro i k hn hik hm
    obtain ⟨hi, hk, hsh⟩ := hS i k hik
    unfold Shut at hsh
    by_cases h1 : i = p.length
    · rw [if_pos h1] at hsh
      rw [h1, List.drop_length, mt_nil] at hm
      have := congrArg List.length hm
      rw [List.length_drop] at this
      simp at this
      omega
    · rw [if_neg h1] at hsh
      have hip : i < p.length := by omega
      rw [drop_get hip] at hm
      by_cases h2 : p.getD i 0 = 42 ∨ p.getD i 0 = 37
      · rw [if_pos h2] at hsh
        rcases (mt_wild h2 _ _).1 hm with h3 | ⟨d, t1, e, hd, h3⟩
        · exact ih _ (by omega) (i + 1) k rfl hsh.1 h3
        · have hks : k < s.length := by
            rcases Nat.lt_or_ge k s.length with h | h
            · exact h
            · rw [List.drop_eq_nil_of_le h] at e; cases e
          rw [drop_get hks] at e
          injection e with e1 e2
          refine ih _ (by omega) i (k + 1) rfl (hsh.2 hks ?_) ?_
          · rw [e1]; exact hd
          · rw [drop_get hip, e2]; exact h3
      · rw [if_neg h2] at hsh
        rw [not_or] at h2
        obtain ⟨t1, e, h3⟩ := (mt_plain1 h2.1 h2.2 _ _).1 hm
        have hks : k < s.length := by
          rcases Nat.lt_or_ge k s.length with h | h
          · exact h
          · rw [List.drop_eq_nil_of_le h] at e; cases e
        rw [drop_get hks] at e
        injection e with e1 e2
        exact ih _ (by omega) (i + 1) (k + 1) rfl (hsh hks e1) (by rw [e2]; exact h3)
structure Sought (p s : List UInt8) (S S' : Pl) (i k : Nat) (b : Bool) : Prop where
  more : ∀ a c, S a c → S' a c
  inn : (∀ a c, S a c → a ≤ p.length ∧ c ≤ s.length) → ∀ a c, S' a c → a ≤ p.length ∧ c ≤ s.length
  yes : b = true → Mt (p.drop i) (s.drop k)
  no : b = false → S' i k ∧ ∀ a c, S' a c → S a c ∨ Shut p s S' a c
theorem sought_top {p s : List UInt8} {S' : Pl} {b : Bool} (h : Sought p s (fun _ _ => False) S' 0 0 b) : b = true ↔ Mt p s := by
  constructor
  · intro e
    have := h.yes e
    simpa using this
  · intro hm
    cases b with
    | true => rfl
    | false =>
      obtain ⟨h1, h2⟩ := h.no rfl
      have h3 := h.inn (fun a c hf => hf.elim)
      exact absurd (by simpa using hm) (shut_not (S := S') (fun a c hac => ⟨(h3 a c hac).1, (h3 a c hac).2, (h2 a c hac).resolve_left id⟩) _ 0 0 rfl h1)
def Pl.add (S : Pl) (i k : Nat) : Pl := fun a c => S a c ∨ (a = i ∧ c = k)
theorem sought_seen {p s : List UInt8} {S : Pl} {i k : Nat} (h : S i k) : Sought p s S S i k false := ⟨fun _ _ h => h, fun h => h, fun e => by (cases e), fun _ => ⟨h, fun _ _ h => Or.inl h⟩⟩
theorem add_inn {p s : List UInt8} {S : Pl} {i k : Nat} (hi : i ≤ p.length) (hk : k ≤ s.length) (h : ∀ a c, S a c → a ≤ p.length ∧ c ≤ s.length) : ∀ a c, S.add i k a c → a ≤ p.length ∧ c ≤ s.length := fun a c hac => by
  rcases hac with h1 | ⟨rfl, rfl⟩
  · exact h a c h1
  · exact ⟨hi, hk⟩
theorem sought_end {p s : List UInt8} {S : Pl} {k : Nat} (hk : k ≤ s.length) : Sought p s S (S.add p.length k) p.length k (decide (k = s.length)) := by
  refine ⟨fun _ _ h => Or.inl h, fun h => add_inn (Nat.le_refl _) hk h, fun e => ?_, fun e => ⟨Or.inr ⟨rfl, rfl⟩, fun a c hac => ?_⟩⟩
  · rw [of_decide_eq_true e, List.drop_length, List.drop_length]
    exact Mt.nil
  · rcases hac with h1 | ⟨rfl, rfl⟩
    · exact Or.inl h1
    · refine Or.inr ?_
      unfold Shut
      rw [if_pos rfl]
      exact of_decide_eq_false e
theorem sought_yes {p s : List UInt8} {S S' : Pl} {i k a c : Nat} (hi : i ≤ p.length) (hk : k ≤ s.length) (h : Sought p s (S.add i k) S' a c true) (hm : Mt (p.drop a) (s.drop c) → Mt (p.drop i) (s.drop k)) : Sought p s S S' i k true :=
  ⟨fun x y hxy => h.more x y (Or.inl hxy), fun hin => h.inn (add_inn hi hk hin), fun _ => hm (h.yes rfl), fun e => by (cases e)⟩
theorem sought_stop {p s : List UInt8} {S : Pl} {i k : Nat} (hi : i ≤ p.length) (hk : k ≤ s.length) (h : ∀ S', Shut p s S' i k) : Sought p s S (S.add i k) i k false :=
  ⟨fun _ _ h => Or.inl h, fun hin => add_inn hi hk hin, fun e => by (cases e), fun _ => ⟨Or.inr ⟨rfl, rfl⟩, fun a c hac => by
    rcases hac with h1 | ⟨rfl, rfl⟩
    · exact Or.inl h1
    · exact Or.inr (h _)⟩⟩
theorem sought_one {p s : List UInt8} {S S' : Pl} {i k a c : Nat} (hi : i ≤ p.length) (hk : k ≤ s.length) (h : Sought p s (S.add i k) S' a c false) (hs : S' a c → Shut p s S' i k) : Sought p s S S' i k false :=
  ⟨fun x y hxy => h.more x y (Or.inl hxy), fun hin => h.inn (add_inn hi hk hin), fun e => by (cases e), fun _ => by
    obtain ⟨h1, h2⟩ := h.no rfl
    refine ⟨h.more _ _ (Or.inr ⟨rfl, rfl⟩), fun x y hxy => ?_⟩
    rcases h2 x y hxy with (h3 | ⟨rfl, rfl⟩) | h3
    · exact Or.inl h3
    · exact Or.inr (hs h1)
    · exact Or.inr h3⟩
theorem sought_two {p s : List UInt8} {S S1 S' : Pl} {i k a c x y : Nat} {b : Bool} (hi : i ≤ p.length) (hk : k ≤ s.length) (h : Sought p s (S.add i k) S1 a c false) (h' : Sought p s S1 S' x y b) (hm : Mt (p.drop x) (s.drop y) → Mt (p.drop i) (s.drop k)) (hs : S' a c → S' x y → Shut p s S' i k) : Sought p s S S' i k b :=
  ⟨fun u v huv => h'.more u v (h.more u v (Or.inl huv)), fun hin => h'.inn (h.inn (add_inn hi hk hin)), fun e => hm (h'.yes e), fun e => by
    obtain ⟨h1, h2⟩ := h.no rfl
    obtain ⟨h3, h4⟩ := h'.no e
    refine ⟨h'.more _ _ (h.more _ _ (Or.inr ⟨rfl, rfl⟩)), fun u v huv => ?_⟩
    rcases h4 u v huv with h5 | h5
    · rcases h2 u v h5 with (h6 | ⟨rfl, rfl⟩) | h6
      · exact Or.inl h6
      · exact Or.inr (hs (h'.more _ _ h1) h3)
      · exact Or.inr (h6.more h'.more)
    · exact Or.inr h5⟩
def leftOf (P : List (Nat × Nat)) (S : Nat × Nat → Bool) : Nat := (P.filter fun x => !S x).length
theorem left_cons (a : Nat × Nat) (P : List (Nat × Nat)) (S : Nat × Nat → Bool) : leftOf (a :: P) S = (if S a = true then 0 else 1) + leftOf P S := by
  unfold leftOf
  rw [List.filter_cons]
  cases S a <;> simp <;> omega
theorem left_le {S T : Nat × Nat → Bool} (h : ∀ x, S x = true → T x = true) : ∀ P : List (Nat × Nat), leftOf P T ≤ leftOf P S
  | [] => Nat.le_refl _
  | a :: P => by
    rw [left_cons, left_cons]
    have ih := left_le h P
    cases hs : S a with
    | true => rw [h a hs]; simp; exact ih
    | false => cases T a <;> simp <;> omega
theorem left_add {S T : Nat × Nat → Bool} {v : Nat × Nat} (hS : S v = false) (hT : T v = true) (h : ∀ x, S x = true → T x = true) : ∀ (P : List (Nat × Nat)), v ∈ P → leftOf P T + 1 ≤ leftOf P S
  | [], hm => absurd hm List.not_mem_nil
  | a :: P, hm => by
    rw [left_cons, left_cons]
    by_cases ha : a = v
    · have := left_le h P
      rw [ha, hS, hT]
      simp
      omega
    · have ih := left_add hS hT h P ((List.mem_cons.1 hm).resolve_left fun e => ha e.symm)
      cases hs : S a with
      | true => rw [h a hs]; simp; omega
      | false => cases T a <;> simp <;> omega
end Go.Proofs.YtfdlopimncodcaaGreatDoor
