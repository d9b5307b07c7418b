/-
  List, by any pattern.
-/
import Derived.Test.YtfdlopimncodcaaGreatDoorBpHpWant
namespace Go.Proofs.YtfdlopimncodcaaGreatDoor
open Go.RowKit Go.Proofs.Aid
abbrev matV (P : Nat) : Value := .func (.func 79) #[] #[.pointer (some ⟨P, 0, none⟩)]
set_option maxHeartbeats 2000000 in
theorem list1_any (p n : ByteArray) (P : Nat) (w : World) (hp : w.cell? ⟨P, 0, none⟩ = some (.string p)) (hn : n.size ≤ 1000) (hps : p.size ≤ 1000) :
    Calls Tryz.prog 79 #[.string n, .pointer (some ⟨P, 0, none⟩)] w fun e w' => e = .returned (.bool (!matchB p.data.toList n.data.toList)) ∧ Below w.heap.size w w' := by
  have cM := match_is p n w (by omega) (by omega)
  obtain ⟨R, hR⟩ : ∃ b, matchB p.data.toList n.data.toList = b := ⟨_, rfl⟩
  rw [hR] at cM ⊢
  clear hR
  go_enter Tryz.func79, Tryz.ntmps79
  go_wp2_with fail
  refine cM.mono ?_
  rintro e w1 ⟨rfl, hb1⟩
  clear cM
  go_wp2_with fail
  go_ret
  exact ⟨rfl, hb1⟩
set_option maxHeartbeats 2000000 in
set_option maxRecDepth 100000 in
theorem idx_any (p : ByteArray) (P base : Nat) (v : Value) (ns : List Nm) (w : World) (h : NRow w base v ns) (hp : w.cell? ⟨P, 0, none⟩ = some (.string p)) (hps : p.size ≤ 1000) (hns : ∀ n ∈ ns, n.length ≤ 1000) (hl : ns.length ≤ 1000) :
    Calls Tryz.prog 122 #[v, matV P] w fun e w' => Below w.heap.size w w' ∧
      ((e = .returned (.int .i64 (-1)) ∧ ∀ n ∈ ns, matchB p.data.toList n = true) ∨ ∃ k : Nat, k < ns.length ∧ e = .returned (.int .i64 (k : Int)) ∧ (∀ n ∈ ns.take k, matchB p.data.toList n = true) ∧ ∃ n, ns[k]? = some n ∧ matchB p.data.toList n = false) := by
  obtain ⟨a, c, rfl⟩ := row_form h
  obtain ⟨M, hM⟩ : ∃ m, ns.length = m := ⟨_, rfl⟩
  have HX : Hid (NRow w base (.slice a M c) ns ∧ ns.length = M ∧ (∀ n ∈ ns, n.length ≤ 1000) ∧ w.cell? ⟨P, 0, none⟩ = some (.string p)) := ⟨by rw [← hM]; exact h, hM, hns, hp⟩
  rw [hM] at hl ⊢
  clear h hM hns hp
  go_enter Tryz.func122, Tryz.ntmps122
  go_wp2_with fail
  go_loopw [8] (fun iv wr => ∃ k : Nat, iv = .int .i64 (k : Int) ∧ k ≤ M ∧ Hid (Below w.heap.size w wr ∧ ∀ n ∈ ns.take k, matchB p.data.toList n = true)) (fun iv _ => M - (intOf iv).toNat)
  case atStart => exact ⟨0, rfl, Nat.zero_le _, Below.refl _ _, fun n hn => absurd hn (by simp)⟩
  case round =>
    obtain ⟨k, rfl, hk, HB⟩ := hrel
    by_cases hlt : k < M
    · have d1 : decide ((k : Int) < (M : Int)) = true := decide_eq_true (by omega)
      have i1 : (0 : Int) ≤ (k : Int) := by omega
      have i2 : (k : Int) < (M : Int) := by omega
      obtain ⟨n, hnk⟩ : ∃ n, ns[k]? = some n := ⟨_, List.getElem?_eq_getElem (by have := HX.out.2.1; omega)⟩
      obtain ⟨g, cap, hvg, hc0⟩ := nrow_at (HX.out.1.below HB.out.1 (Nat.le_refl _)) hnk
      injection hvg with hva hvb hvc
      subst hva
      clear hvb hvc
      obtain ⟨xs, hxs⟩ : ∃ s : ByteArray, (⟨n.toArray⟩ : ByteArray) = s := ⟨_, rfl⟩
      have hcg : wr.cell? ⟨g, k, none⟩ = some (.string xs) := by rw [← hxs]; exact hc0
      have hxl : xs.data.toList = n := by rw [← hxs]
      have hnl := HX.out.2.2.1 n (List.mem_of_getElem? hnk)
      have cL := list1_any p xs P wr ((HB.out.1.cell (p := ⟨P, 0, none⟩) (World.block_lt_of_cell? _ _ HX.out.2.2.2)).trans HX.out.2.2.2) (by rw [← hxs]; show n.toArray.size ≤ _; rw [List.size_toArray]; exact hnl) hps
      obtain ⟨R, hR⟩ : ∃ b, matchB p.data.toList xs.data.toList = b := ⟨_, rfl⟩
      rw [hR] at cL
      have HNK : Hid (ns[k]? = some n ∧ matchB p.data.toList n = R) := ⟨hnk, by rw [← hxl]; exact hR⟩
      clear hc0 hnk hnl hxs hxl hR
      go_wp2_with fail
      refine cL.mono ?_
      rintro e w1 ⟨rfl, hb1⟩
      cases R with
      | true =>
        have HB1 : Hid (Below w.heap.size w w1 ∧ ∀ n ∈ ns.take (k + 1), matchB p.data.toList n = true) := by
          refine ⟨HB.out.1.trans (hb1.mono HB.out.1.size), fun y hy => ?_⟩
          rw [List.take_add_one, HNK.out.1] at hy
          rcases List.mem_append.1 hy with hy | hy
          · exact HB.out.2 y hy
          · obtain rfl : y = n := by simpa using hy
            exact HNK.out.2
        clear cL hb1
        go_wp2_with fail
        go_roundw
        case rel => exact ⟨k + 1, by go_num, by omega, HB1⟩
        case measure => simp [intOf]; omega
      | false =>
        have HB1 : Hid (Below w.heap.size w w1) := HB.out.1.trans (hb1.mono HB.out.1.size)
        clear cL hb1
        go_wp2_with fail
        go_ret
        exact ⟨HB1.out, Or.inr ⟨k, by have := HX.out.2.1; omega, rfl, HB.out.2, n, HNK.out⟩⟩
    · have d1 : decide ((k : Int) < (M : Int)) = false := decide_eq_false (by omega)
      go_wp2_with fail
      go_ret
      exact ⟨HB.out.1, Or.inl ⟨rfl, fun n hn => HB.out.2 n (by rw [List.take_of_length_le (by have := HX.out.2.1; omega)]; exact hn)⟩⟩
def Half (w : World) (g M : Nat) (F ns : List Nm) (j : Nat) : Prop := ∃ cur : Array Value, w.heap[g]? = some (.cells cur 9 (0, 0)) ∧ M ≤ cur.size ∧ (∀ (t : Nat) x, F[t]? = some x → cur[t]? = some (encStr x)) ∧ (∀ (t : Nat) x, j ≤ t → ns[t]? = some x → cur[t]? = some (encStr x))
theorem Half.same {w w' : World} {g M j : Nat} {F ns : List Nm} (h : Half w g M F ns j) (hb : w'.heap[g]? = w.heap[g]?) : Half w' g M F ns j := by
  obtain ⟨cur, h1, r⟩ := h
  exact ⟨cur, hb.trans h1, r⟩
theorem Half.lt {w : World} {g M j : Nat} {F ns : List Nm} (h : Half w g M F ns j) : g < w.heap.size := by
  obtain ⟨cur, h1, _⟩ := h
  exact (Array.getElem?_eq_some_iff.1 h1).1
theorem Half.some {w : World} {g M j i : Nat} {F ns : List Nm} (h : Half w g M F ns j) (hi : i < M) : (w.cell? ⟨g, i, none⟩).isSome = true ∧ w.frozen? ⟨g, i, none⟩ = false ∧ ∃ v, w.cell? ⟨g, i, none⟩ = Option.some v := by
  obtain ⟨cur, h1, h2, _⟩ := h
  have h3 : cur[i]? = Option.some (cur[i]'(by omega)) := Array.getElem?_eq_getElem (by omega)
  have h4 : w.cell? ⟨g, i, none⟩ = Option.some (cur[i]'(by omega)) := rd_cell h1 h3
  exact ⟨by rw [h4]; rfl, rd_free h1 i, _, h4⟩
theorem Half.next {w : World} {g M j : Nat} {F ns : List Nm} (h : Half w g M F ns j) : Half w g M F ns (j + 1) := by
  obtain ⟨cur, h1, h2, h3, h4⟩ := h
  exact ⟨cur, h1, h2, h3, fun t x ht hx => h4 t x (by omega) hx⟩
theorem Half.put {w : World} {g M j : Nat} {F ns : List Nm} {s : ByteArray} (h : Half w g M F ns j) (hF : F.length ≤ j) (hj : F.length < M) : Half (w.setCell ⟨g, F.length, none⟩ (.string s)) g M (F ++ [s.data.toList]) ns (j + 1) := by
  obtain ⟨cur, h1, h2, h3, h4⟩ := h
  refine ⟨_, rd_set (i := F.length) (.string s) h1, by simpa using h2, fun t x hx => ?_, fun t x ht hx => ?_⟩
  · rw [Array.getElem?_setIfInBounds]
    by_cases e : F.length = t
    · subst e
      rw [List.getElem?_append_right (Nat.le_refl _), Nat.sub_self] at hx
      obtain rfl := Option.some.inj hx
      rw [if_pos rfl, if_pos (by omega), enc_ba]
    · rw [if_neg e]
      have : t < (F ++ [s.data.toList]).length := (List.getElem?_eq_some_iff.1 hx).1
      rw [List.length_append] at this
      simp only [List.length_cons, List.length_nil] at this
      rw [List.getElem?_append_left (by omega)] at hx
      exact h3 t x hx
  · rw [Array.getElem?_setIfInBounds, if_neg (by omega)]
    exact h4 t x (by omega) hx
theorem Half.sl {w : World} {g M j cap : Nat} {F ns : List Nm} (h : Half w g M F ns j) (hF : F.length ≤ cap) (k : Nat) : Sl (w.setCells g F.length (List.replicate k (.string ⟨#[]⟩))) (.slice (Option.some ⟨g, 0, none⟩) F.length cap) F := by
  obtain ⟨cur, h1, h2, h3, h4⟩ := h
  refine ⟨_, cap, rfl, ⟨fun e => (by cases e), hF⟩, Or.inr ⟨g, 0, rfl, fun t x hx => ?_⟩⟩
  have hlt := (List.getElem?_eq_some_iff.1 hx).1
  rw [Nat.zero_add, out_txt _ (Or.inl hlt)]
  exact rd_cell h1 (h3 t x hx)
set_option maxHeartbeats 8000000 in
set_option maxRecDepth 100000 in
theorem del_any (p : ByteArray) (P base : Nat) (v : Value) (ns : List Nm) (w : World) (h : NRow w base v ns) (hB : base ≤ w.heap.size) (hp : w.cell? ⟨P, 0, none⟩ = some (.string p)) (hne : v.ownBlock ≠ some P) (hps : p.size ≤ 1000) (hns : ∀ n ∈ ns, n.length ≤ 1000) (hl : ns.length ≤ 1000) :
    Calls Tryz.prog 78 #[v, matV P] w fun e w' => (∃ v', e = .returned v' ∧ Sl w' v' (ns.filter fun t => matchB p.data.toList t)) ∧ Below base w w' := by
  have cI := idx_any p P base v ns w h hp hps hns hl
  obtain ⟨a, c, rfl⟩ := row_form h
  obtain ⟨M, hM⟩ : ∃ m, ns.length = m := ⟨_, rfl⟩
  have HX : Hid (NRow w base (.slice a M c) ns ∧ ns.length = M ∧ (∀ n ∈ ns, n.length ≤ 1000) ∧ w.cell? ⟨P, 0, none⟩ = some (.string p) ∧ (Value.slice a M c).ownBlock ≠ some P) := ⟨by rw [← hM]; exact h, hM, hns, hp, by rw [← hM]; exact hne⟩
  rw [hM] at hl cI ⊢
  clear h hM hns hp hne
  go_enter Tryz.func78, Tryz.ntmps78
  go_wp2_with fail
  refine cI.mono ?_
  rintro e w1 ⟨hb1, ⟨rfl, hall⟩ | ⟨k0, hk0, rfl, hpre, n0, hn0, hno⟩⟩
  · have HF : Hid (Sl w1 (.slice a M c) (ns.filter fun t => matchB p.data.toList t) ∧ Below base w w1) := by
      rw [List.filter_eq_self.2 hall]
      exact ⟨sl_of_nrow (HX.out.1.below hb1 (Nat.le_refl _)), hb1.mono hB⟩
    clear cI hall hb1
    go_wp2_with fail
    go_ret
    exact ⟨⟨_, rfl, HF.out.1⟩, HF.out.2⟩
  · obtain ⟨g, hgc⟩ : ∃ g, a = some ⟨g, 0, none⟩ ∧ base ≤ g ∧ M ≤ c ∧ Half w1 g M (ns.take k0) ns k0 := by
      have h1 := HX.out.1.below hb1 (Nat.le_refl _)
      rcases id h1.2 with ⟨q1, q2⟩ | ⟨g, cap, cur, q1, q2, q3, q4, q5, q6, q7⟩
      · have := HX.out.2.1; omega
      · injection q1 with q1 qm qc
        subst q1 qc
        have hcell : ∀ (t : Nat) x, ns[t]? = some x → cur[t]? = some (encStr x) := fun t x hx => by
          have h3 : (ns.map encStr)[t]? = some (encStr x) := by rw [List.getElem?_map, hx]; rfl
          rw [← q7, List.getElem?_take] at h3
          split at h3
          · rw [← Array.getElem?_toList]; exact h3
          · cases h3
        refine ⟨g, rfl, q2, by omega, cur, q3, by rw [q6]; have := HX.out.2.1; omega, fun t x hx => ?_, fun t x _ hx => hcell t x hx⟩
        rw [List.getElem?_take] at hx
        split at hx
        · exact hcell t x hx
        · cases hx
    obtain ⟨rfl, hgb, hMc, hH⟩ := hgc
    have hk0M : k0 < M := hk0
    have hd : ((k0 : Int) == -1) = false := beq_eq_false_iff_ne.2 (by omega)
    have HI : Hid (Half w1 g M (ns.take k0) ns (k0 + 1) ∧ ((ns.take (k0 + 1)).filter fun t => matchB p.data.toList t) = ns.take k0 ∧ Below w.heap.size w w1 ∧ P ≠ g) := by
      refine ⟨hH.next, ?_, hb1, fun e => HX.out.2.2.2.2 (by rw [e]; rfl)⟩
      rw [List.take_add_one, hn0, List.filter_append, List.filter_eq_self.2 hpre]
      simp [hno]
    clear cI hpre hn0 hno hb1 hH
    go_wp2_with fail
    go_loopw [5, 6] (fun iv jv wr => ∃ i j : Nat, iv = .int .i64 (i : Int) ∧ jv = .int .i64 (j : Int) ∧ k0 + 1 ≤ j ∧ j ≤ M ∧ i < j ∧ Hid (((ns.take j).filter fun t => matchB p.data.toList t).length = i ∧ Half wr g M ((ns.take j).filter fun t => matchB p.data.toList t) ns j ∧ Below base w wr ∧ wr.cell? ⟨P, 0, none⟩ = some (.string p))) (fun _ jv _ => M - (intOf jv).toNat)
    case atStart =>
      refine ⟨k0, k0 + 1, rfl, by first | rfl | simp, by omega, by omega, by omega, ?_, ?_, HI.out.2.2.1.mono hB, ?_⟩
      · rw [HI.out.2.1, List.length_take]; have := HX.out.2.1; omega
      · rw [HI.out.2.1]; exact HI.out.1
      · exact (HI.out.2.2.1.cell (p := ⟨P, 0, none⟩) (World.block_lt_of_cell? _ _ HX.out.2.2.2.1)).trans HX.out.2.2.2.1
    case round =>
      obtain ⟨i, j, rfl, rfl, hj1, hjM, hij, HR⟩ := hrel
      by_cases hlt : j < M
      · have d1 : decide ((j : Int) < (M : Int)) = true := decide_eq_true (by omega)
        have i1 : (0 : Int) ≤ (j : Int) := by omega
        have i2 : (j : Int) < (M : Int) := by omega
        have i3 : (0 : Int) ≤ (i : Int) := by omega
        have i4 : (i : Int) < (M : Int) := by omega
        obtain ⟨n, hnk⟩ : ∃ n, ns[j]? = some n := ⟨_, List.getElem?_eq_getElem (by have := HX.out.2.1; omega)⟩
        obtain ⟨xs, hxs⟩ : ∃ s : ByteArray, (⟨n.toArray⟩ : ByteArray) = s := ⟨_, rfl⟩
        have hcg : wr.cell? ⟨g, j, none⟩ = some (.string xs) := by
          obtain ⟨cur, q1, _, _, q4⟩ := HR.out.2.1
          rw [← hxs]
          exact rd_cell q1 (q4 j n (Nat.le_refl _) hnk)
        have hxl : xs.data.toList = n := by rw [← hxs]
        have hnl := HX.out.2.2.1 n (List.mem_of_getElem? hnk)
        have cL := list1_any p xs P wr HR.out.2.2.2 (by rw [← hxs]; show n.toArray.size ≤ _; rw [List.size_toArray]; exact hnl) hps
        obtain ⟨R, hR⟩ : ∃ b, matchB p.data.toList xs.data.toList = b := ⟨_, rfl⟩
        rw [hR] at cL
        have HNK : Hid (ns[j]? = some n ∧ matchB p.data.toList n = R ∧ xs.data.toList = n) := ⟨hnk, by rw [← hxl]; exact hR, hxl⟩
        clear hnk hnl hxs hxl hR
        go_wp2_with fail
        refine cL.mono ?_
        rintro e w2 ⟨rfl, hb2⟩
        cases R with
        | true =>
          have hH2 := HR.out.2.1.same (hb2.block g HR.out.2.1.lt)
          obtain ⟨_, hfz, v0, hcs⟩ := hH2.some (i := i) (by omega)
          have HN : Hid (((ns.take (j + 1)).filter fun t => matchB p.data.toList t).length = i + 1 ∧ Half (w2.setCell ⟨g, i, none⟩ (.string xs)) g M ((ns.take (j + 1)).filter fun t => matchB p.data.toList t) ns (j + 1) ∧ Below base w (w2.setCell ⟨g, i, none⟩ (.string xs)) ∧ (w2.setCell ⟨g, i, none⟩ (.string xs)).cell? ⟨P, 0, none⟩ = some (.string p)) := by
            have hy := filt_yes (p := fun t => matchB p.data.toList t) HNK.out.1 HNK.out.2.1
            refine ⟨?_, ?_, ?_, ?_⟩
            · rw [hy, List.length_append, HR.out.1]; rfl
            · rw [hy, ← HNK.out.2.2, ← HR.out.1]
              exact hH2.put (by rw [HR.out.1]; omega) (by rw [HR.out.1]; omega)
            · refine (HR.out.2.2.1.trans (hb2.mono (by have := HR.out.2.2.1.size; omega))).trans ?_
              exact ⟨rfl, rfl, rfl, by simp, fun k hk => Below.heap_setCell _ _ _ _ (by show k ≠ g; omega)⟩
            · have h1 : (w2.setCell ⟨g, i, none⟩ (.string xs)).heap[P]? = w2.heap[P]? := Below.heap_setCell _ _ _ _ (by show P ≠ g; exact HI.out.2.2.2)
              exact (World.cell?_of_block (a := ⟨P, 0, none⟩) h1).trans ((hb2.cell (p := ⟨P, 0, none⟩) (World.block_lt_of_cell? _ _ HR.out.2.2.2)).trans HR.out.2.2.2)
          clear cL hb2 hH2
          go_wp2_with fail
          go_roundw
          case rel => exact ⟨i + 1, j + 1, by go_num, by go_num, by omega, by omega, by omega, HN⟩
          case measure => simp [intOf]; omega
        | false =>
          have HN : Hid (((ns.take (j + 1)).filter fun t => matchB p.data.toList t).length = i ∧ Half w2 g M ((ns.take (j + 1)).filter fun t => matchB p.data.toList t) ns (j + 1) ∧ Below base w w2 ∧ w2.cell? ⟨P, 0, none⟩ = some (.string p)) := by
            rw [filt_no (p := fun t => matchB p.data.toList t) HNK.out.1 HNK.out.2.1]
            exact ⟨HR.out.1, (HR.out.2.1.same (hb2.block g HR.out.2.1.lt)).next, HR.out.2.2.1.trans (hb2.mono (by have := HR.out.2.2.1.size; omega)), (hb2.cell (p := ⟨P, 0, none⟩) (World.block_lt_of_cell? _ _ HR.out.2.2.2)).trans HR.out.2.2.2⟩
          clear cL hb2
          go_wp2_with fail
          go_roundw
          case rel => exact ⟨i, j + 1, rfl, by go_num, by omega, by omega, by omega, HN⟩
          case measure => simp [intOf]; omega
      · have d1 : decide ((j : Int) < (M : Int)) = false := decide_eq_false (by omega)
        obtain rfl : j = M := by omega
        have i3 : (0 : Int) ≤ (i : Int) := by omega
        have i4 : (i : Int) ≤ (j : Int) := by omega
        have i5 : (i : Int) ≤ (c : Int) := by omega
        have i6 : ¬ c = i := by omega
        have hcl : ∀ ty, (Builtin.clear_ #[32] ty #[.slice (some ⟨g, i, none⟩) (j - i) (c - i)]).run Tryz.prog wr = .ok (.tuple #[]) (wr.setCells g i (List.replicate (j - i) (.string ⟨#[]⟩))) := fun ty =>
          Lib.run_clear_slice wr 32 9 ty (.string ⟨#[]⟩) Tryz.underlying32 (fun w => by kernel_rfl) rfl rfl g i (j - i) (c - i) (by omega) (fun t ht => (HR.out.2.1.some (i := i + t) (by omega)).1) (fun t ht => (HR.out.2.1.some (i := i + t) (by omega)).2.1)
        have HF : Hid (Sl (wr.setCells g i (List.replicate (j - i) (.string ⟨#[]⟩))) (.slice (some ⟨g, 0, none⟩) i c) (ns.filter fun t => matchB p.data.toList t) ∧ Below base w (wr.setCells g i (List.replicate (j - i) (.string ⟨#[]⟩)))) := by
          have hfull : ns.take j = ns := List.take_of_length_le (by have := HX.out.2.1; omega)
          have h1 := HR.out
          rw [hfull] at h1
          refine ⟨?_, HR.out.2.2.1.trans (bset g hgb _ _ (Below.refl _ _))⟩
          have h2 := h1.2.1.sl (cap := c) (by rw [h1.1]; omega) (j - i)
          rw [h1.1] at h2
          exact h2
        clear HR
        go_wp2_with fail
        go_ret
        exact ⟨⟨_, rfl, HF.out.1⟩, HF.out.2⟩
end Go.Proofs.YtfdlopimncodcaaGreatDoor
