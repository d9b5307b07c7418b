/-
  What a view meets: meet.
-/
import Derived.Test.YtgpcnacpefficaaGreatDoorMViewMem
import Derived.Deep.RegionHeld3
namespace Go.Proofs.YtgpcnacpefficaaGreatDoor
open Go.RowKit Go.Proofs.Aid Go.Proofs.Bx

/-- The last number that is seen. -/
def lastS (S : List Sg) : Int := match S.getLast? with | some x => x.uid | none => 0
def sgOf (x : Lt) : Sg := ⟨x.uid, x.flags⟩
/-- What stands behind a number. -/
def newS (u : Int) (l : List Lt) : List Sg := (l.filter fun x => decide (u < x.uid)).map sgOf
theorem newS_next {u : Int} {l : List Lt} {k : Nat} {x : Lt} (h : l[k]? = some x) : newS u (l.take (k + 1)) = newS u (l.take k) ++ (if u < x.uid then [sgOf x] else []) := by
  unfold newS
  rw [List.take_add_one, h]
  show List.map _ (List.filter _ (l.take k ++ [x])) = _
  rw [List.filter_append, List.map_append]
  by_cases hb : u < x.uid <;> simp [List.filter, hb]
theorem newS_le (u : Int) (l : List Lt) : (newS u l).length ≤ l.length := by unfold newS; rw [List.length_map]; exact List.length_filter_le _ _
/-- slices.Clone of texts. -/
def CloneAt : Prop := ∀ (v : Value) (l : List Fl.Tx) (w : World), Sl w v l → l.length ≤ 1000 → Calls Tryz.prog 45 #[v] w fun e w' => (∃ v', e = .returned v' ∧ Sl w' v' l) ∧ Below w.heap.size w w'
theorem step_app {P : Program} {w w' : World} {ops : Array Oper} {o : Oper} {a : Act} {K : Act → World → Prop} {Q : Exit → Act → World → Prop} {E : Prop} (hgd : o.guard = none) (s x : Operand) (t : TypeId)
    (ho : o.op = .call { callee := .builtin .append, args := #[s, x], argTypes := #[t, t] }) (v xv r : Value) (hs : a.eval s = v) (hx : a.eval x = xv) (hr : (Builtin.append_ #[t, t] o.type #[v, xv]).run P w = .ok r w') (h : K (a.put o.dst r) w') :
    if Region.wanted o (yielded ops a.tmps) = true then Oper.wp P o a w K Q else E := by
  have hw : Region.wanted o (yielded ops a.tmps) = true := by simp [Region.wanted, hgd]
  rw [if_pos hw]
  unfold Oper.wp execOp
  simp only [ho, resolve, invoke, builtin, Sem.run_bind, Sem.run_pure, Result.andThen_ok, List.map_toArray, List.map_cons, List.map_nil, hs, hx, hr]
  exact h
/-- Flags are copied, and a sight more is put behind the others. -/
theorem vadd (HC : CloneAt) (vb N ca LB : Nat) (va : Option Addr) (S : List Sg) (U : Int) (F : List Fl.Tx) (x2 x3 fv : Value) (t : TypeId) (w : World) (hv : ViewAt w vb (.slice va N ca) S) (hN : S.length = N) (hS : N ≤ 999) (hf : Sl w fv F) (hF : F.length ≤ 1000) (hLB : w.heap[LB]? = some (.cells #[.int .i64 U, fv, x2, x3] t (0, 0))) (ht : t ≠ 86 ∧ t ≠ 62) :
    Calls Tryz.prog 45 #[fv] w fun e w9 => ∃ (xa : Option Addr) (xk xc : Nat) (w7 W8 : World) (g9 cap9 : Nat) (W9 : World),
      e = .returned (.slice xa xk xc) ∧ w9 = w7 ∧ w7.cell? ⟨vb, 0, none⟩ = some (.slice va N ca) ∧ w7.alloc (.cells #[.int .i64 U, .slice xa xk xc] 86) = W8 ∧ W8.cell? ⟨vb, 0, none⟩ = some (.slice va N ca) ∧
      (Builtin.append_ #[60, 60] 60 #[.slice va N ca, .slice (some ⟨w7.heap.size, 0, none⟩) 1 1]).run Tryz.prog W8 = .ok (.slice (some ⟨g9, 0, none⟩) (N + 1) cap9) W9 ∧ W9.cell? ⟨vb, 0, none⟩ = some (.slice va N ca) ∧ W9.frozen? ⟨vb, 0, none⟩ = false ∧
      Hid (∀ W, W = w7 ∨ W = W8 ∨ W = W9 ∨ W = W9.setCell ⟨vb, 0, none⟩ (.slice (some ⟨g9, 0, none⟩) (N + 1) cap9) → W.cell? ⟨LB, 0, none⟩ = some (.int .i64 U) ∧ W.cell? ⟨LB, 1, none⟩ = some fv) ∧
      Hid (VNext w vb (.slice va N ca) (W9.setCell ⟨vb, 0, none⟩ (.slice (some ⟨g9, 0, none⟩) (N + 1) cap9)) (S ++ [⟨U, F⟩])) := by
  refine (HC fv F w hf hF).mono ?_
  rintro e w7 ⟨⟨v', rfl, hs7⟩, hb7⟩
  obtain ⟨xa, xc, rfl, _⟩ := id hs7
  have hv7 := hv.below hb7
  subst hN
  obtain ⟨g9, cap9, W9, hrun, hsg, ⟨k1, k2, k3, k4, k5⟩, hnear⟩ := sgs_push hv7.2 (by omega) ⟨U, F⟩ (.slice xa F.length xc) hs7
  have b8 : Below w7.heap.size w7 (w7.alloc (.cells #[.int .i64 U, .slice xa F.length xc] 86)) := (Below.refl _ _).alloc (Nat.le_refl _) _
  have hvb7 := hv7.lt
  have e7 := hv7.1
  have e8 := (b8.block vb hvb7).trans e7
  have e9 := (k5 vb hvb7 hv7.apart).trans e7
  have hLl := (Array.getElem?_eq_some_iff.1 hLB).1
  have hs7z := hb7.size
  have l7 := (hb7.block LB hLl).trans hLB
  have l8 := (b8.block LB (by omega)).trans l7
  have hne : LB ≠ vb := fun e => by
    subst e
    rw [hv.1] at hLB
    injection hLB with hLB
    injection hLB with _ h _
    exact ht.2 h.symm
  have hng : (Value.slice va S.length ca).ownBlock ≠ some LB := by
    obtain ⟨rows, h1, _⟩ := hv7.2
    exact row_off h1 l7 (fun e => ht.1 e.symm)
  have l9 := (k5 LB (by omega) hng).trans l7
  have lX := (Below.heap_setCell W9 ⟨vb, 0, none⟩ (.slice (some ⟨g9, 0, none⟩) (S.length + 1) cap9) LB hne).trans l9
  refine ⟨xa, F.length, xc, w7, _, g9, cap9, W9, rfl, rfl, rd_cell e7 rfl, rfl, rd_cell e8 rfl, hrun, rd_cell e9 rfl, rd_free e9 0, ?_, ?_⟩
  · rintro W (rfl | rfl | rfl | rfl)
    · exact ⟨rd_cell l7 rfl, rd_cell l7 rfl⟩
    · exact ⟨rd_cell l8 rfl, rd_cell l8 rfl⟩
    · exact ⟨rd_cell l9 rfl, rd_cell l9 rfl⟩
    · exact ⟨rd_cell lX rfl, rd_cell lX rfl⟩
  · have hset : ∀ q, q ≠ vb → (W9.setCell ⟨vb, 0, none⟩ (.slice (some ⟨g9, 0, none⟩) (S.length + 1) cap9)).heap[q]? = W9.heap[q]? := fun q hq => Below.heap_setCell _ _ _ _ hq
    have hnsv : NoStr W9 vb := by
      intro i s hc
      simp only [World.cell?, e9] at hc
      match i, hc with
      | 0, hc => simp at hc
      | i + 1, hc => simp at hc
    have hsz : (W9.setCell ⟨vb, 0, none⟩ (.slice (some ⟨g9, 0, none⟩) (S.length + 1) cap9)).heap.size = W9.heap.size := by simp
    refine ⟨_, ⟨rd_set (i := 0) _ e9, ?_⟩, ⟨?_, ?_, ?_, by rw [hsz]; omega, fun q hq h1 h2 => (hset q h1).trans ((k5 q (by omega) h2).trans (hb7.block q hq))⟩, fun q hq => ?_⟩
    · refine Sgs.same (w := W9) (by simpa using hsg) fun q hq h => hset q fun e => ?_
      rcases h with h | h
      · obtain ⟨rows, h1, _⟩ := hsg
        exact row_off h1 (e ▸ e9) (by decide) h
      · exact h (by rw [e]; exact hnsv)
    · exact k1.trans hb7.os
    · exact k2.trans hb7.tape
    · exact k3.trans hb7.output
    · rcases hnear q hq with h | h
      · exact Or.inl h
      · exact Or.inr (by omega)
set_option maxHeartbeats 4000000 in
set_option maxRecDepth 100000 in
theorem meet_is (HC : CloneAt) (vb : Nat) (sv : Value) (S : List Sg) (vv nn : Int) (lv : Value) (l : List Lt) (w : World) (h : ViewAt w vb sv S) (hl : Lts w lv l) (hS : S.length + l.length ≤ 900) (hfl : ∀ x ∈ l, x.flags.length ≤ 1000) :
    Calls Tryz.prog 20 #[.pointer (some ⟨vb, 0, none⟩), .agg #[.int .i64 vv, .int .i64 nn, lv]] w fun e w' =>
      e = .returned (.bool (decide (0 < (newS (lastS S) l).length))) ∧ VNext w vb sv w' (S ++ newS (lastS S) l) := by
  obtain ⟨a, c, rfl⟩ := sgs_form h.2
  obtain ⟨la, lc, rfl, lcap, lrest⟩ := id hl
  obtain ⟨N, hN⟩ : ∃ N, S.length = N := ⟨_, rfl⟩
  obtain ⟨m, hm⟩ : ∃ m, l.length = m := ⟨_, rfl⟩
  obtain ⟨LU, hLU⟩ : ∃ u, lastS S = u := ⟨_, rfl⟩
  obtain ⟨R, hR⟩ : ∃ b, decide (0 < (newS LU l).length) = b := ⟨_, rfl⟩
  rw [hLU, hR]
  have HN : Hid (S.length = N) := hN
  have HM : Hid (l.length = m) := hm
  have HLU : Hid (lastS S = LU) := hLU
  have HR : Hid (decide (0 < (newS LU l).length) = R) := hR
  have HFL : Hid (∀ x ∈ l, x.flags.length ≤ 1000) := hfl
  have HLA : Hid (l = [] ∨ ∃ b o, la = some ⟨b, o, none⟩ ∧ ∀ (j : Nat) x, l[j]? = some x → LtAt w b (o + j * 4) x) := lrest
  rw [hN, hm] at hS
  rw [hN] at h
  rw [hm] at hl
  rw [hN, hm]
  have HV : Hid (ViewAt w vb (.slice a N c) S) := h
  have hvbl := h.lt
  have p0 : w.cell? ⟨vb, 0, none⟩ = some (.slice a N c) := rd_cell h.1 rfl
  have HRD : Hid (0 < N → ∃ g, a = some ⟨g, 0, none⟩ ∧ w.cell? ⟨g, (N - 1) * 2, none⟩ = some (.int .i64 LU)) := fun h0 => by
    have hlt : N - 1 < S.length := by rw [HN.out]; omega
    obtain ⟨g, c2, fv, e0, _, q0, _⟩ := sgs_at HV.out.2 (List.getElem?_eq_getElem hlt)
    injection e0 with e0 _ _
    refine ⟨g, e0, ?_⟩
    rw [q0, ← HLU.out]
    unfold lastS
    rw [List.getLast?_eq_getElem?, HN.out, List.getElem?_eq_getElem hlt]
  have HR0 : Hid (N = 0 → LU = 0) := fun h0 => by
    rw [← HLU.out, List.eq_nil_of_length_eq_zero (HN.out.trans h0)]
    rfl
  clear h hl hN hm hLU hR hfl lrest
  go_enter Tryz.func20, Tryz.ntmps20
  go_upto_if 15 with fail
  go_cut [6] (fun u wx => u = .int .i64 LU ∧ wx = w.alloc (.cells #[.int .i64 vv, .int .i64 nn, .slice la m lc] 28))
  case first =>
    by_cases h0 : 0 < N
    · obtain ⟨g, rfl, q0⟩ := HRD.out h0
      have i0 : (0 : Int) < (N : Int) := by omega
      have d0 : decide ((0 : Int) < (N : Int)) = true := decide_eq_true i0
      obtain ⟨N1, rfl⟩ : ∃ N1, N = N1 + 1 := ⟨N - 1, by omega⟩
      rw [Nat.add_sub_cancel] at q0
      have hgl : g < w.heap.size := World.block_lt_of_cell? _ _ q0
      go_wp2_with fail
      go_meet
      case rel => exact ⟨rfl, rfl⟩
    · obtain rfl : N = 0 := by omega
      have hLU0 := HR0.out rfl
      subst hLU0
      go_wp2_with fail
      go_meet
      case rel => exact ⟨rfl, rfl⟩
  case rest =>
    obtain ⟨rfl, hwc⟩ := hcut
    have b0 : Below w.heap.size w wc := by rw [hwc]; exact (Below.refl _ _).alloc (Nat.le_refl _) _
    have x0 : wc.cell? ⟨w.heap.size, 2, none⟩ = some (.slice la m lc) := by rw [hwc]; exact rd_cell (heap_alloc_new _ _) rfl
    have HB0 : Hid (Below w.heap.size w wc) := b0
    clear hwc b0 HRD HR0 p0
    go_wp2_with fail
    go_loopw [28] (fun i wr => ∃ k : Nat, i = .int .i64 (k : Int) ∧ k ≤ m ∧ Hid (VNext w vb (.slice a N c) wr (S ++ newS LU (l.take k)))) (fun i _ => m - (intOf i).toNat)
    case atStart => exact ⟨0, rfl, Nat.zero_le _, ⟨_, by rw [show newS LU (l.take 0) = [] from rfl, List.append_nil]; exact HV.out.below HB0.out, VKeep.of HB0.out, Near.refl _ _⟩⟩
    case round =>
      obtain ⟨k, rfl, hk, HI⟩ := hrel
      by_cases hlt : k < m
      · have hkl : k < l.length := by rw [HM.out]; exact hlt
        obtain ⟨x, hx⟩ : ∃ x, l[k] = x := ⟨_, rfl⟩
        have hxk : l[k]? = some x := by rw [List.getElem?_eq_getElem hkl, hx]
        have hxf : x.flags.length ≤ 1000 := HFL.out x (hx ▸ List.getElem_mem hkl)
        obtain ⟨lb, lo, rfl, hat⟩ : ∃ b o, la = some ⟨b, o, none⟩ ∧ ∀ (j : Nat) x, l[j]? = some x → LtAt w b (o + j * 4) x := by
          rcases HLA.out with h | h
          · rw [h] at hkl; simp at hkl
          · exact h
        obtain ⟨sv2, hv2, hk2, hn2⟩ := HI.out
        obtain ⟨a2, c2, rfl⟩ := sgs_form hv2.2
        obtain ⟨q0, ⟨fv, q1, hsf⟩, q2, q3⟩ := (hat k x hxk).vkeep hk2 HV.out
        have hlbl : lb < wr.heap.size := World.block_lt_of_cell? _ _ q0
        obtain ⟨XU, hXU⟩ : ∃ z, x.uid = z := ⟨_, rfl⟩
        obtain ⟨XD, hXD⟩ : ∃ z, x.day = z := ⟨_, rfl⟩
        obtain ⟨XT, hXT⟩ : ∃ z : ByteArray, ⟨x.text.toArray⟩ = z := ⟨_, rfl⟩
        have HNX : Hid (newS LU (l.take (k + 1)) = newS LU (l.take k) ++ (if LU < XU then [⟨XU, x.flags⟩] else [])) := by
          unfold Hid
          rw [newS_next hxk, ← hXU]
          rfl
        rw [hXU] at q0
        rw [hXD] at q2
        rw [hXT] at q3
        obtain ⟨fa, fc, rfl, _⟩ := id hsf
        have HSF : Hid (Sl wr (.slice fa x.flags.length fc) x.flags) := hsf
        obtain ⟨FL, hFL⟩ : ∃ n, x.flags.length = n := ⟨_, rfl⟩
        rw [hFL] at HSF q1
        have hN2 : (S ++ newS LU (l.take k)).length ≤ 900 := by
          have h1 := newS_le LU (l.take k)
          have h2 : (l.take k).length ≤ l.length := by rw [List.length_take]; omega
          have h3 := HN.out
          have h4 := HM.out
          rw [List.length_append]; omega
        obtain ⟨N2, hN2e⟩ : ∃ n, (S ++ newS LU (l.take k)).length = n := ⟨_, rfl⟩
        rw [hN2e] at hN2 hv2 hn2
        have HV2 : Hid (ViewAt wr vb (.slice a2 N2 c2) (S ++ newS LU (l.take k)) ∧ VKeep vb (.slice a N c) w wr ∧ Near w (.slice a N c) (.slice a2 N2 c2)) := ⟨hv2, hk2, hn2⟩
        have HN2 : Hid ((S ++ newS LU (l.take k)).length = N2) := hN2e
        clear hx hxk hXU hXD hXT hFL hat hsf hv2 hk2 hn2 hN2e HI hkl
        by_cases hgt : LU < XU
        · have dgt : decide (LU < XU) = true := decide_eq_true hgt
          have HNY : Hid (S ++ newS LU (l.take (k + 1)) = S ++ newS LU (l.take k) ++ [⟨XU, x.flags⟩]) := by
            unfold Hid
            rw [HNX.out, if_pos hgt, List.append_assoc]
          have bA : Below wr.heap.size wr (wr.alloc (.cells #[.int .i64 XU, .slice fa FL fc, .int .i64 XD, .string XT] 51)) := (Below.refl _ _).alloc (Nat.le_refl _) _
          have eA := heap_alloc_new wr (.cells #[.int .i64 XU, .slice fa FL fc, .int .i64 XD, .string XT] 51)
          go_upto_region 8 with fail
          obtain ⟨WA, hWA⟩ : ∃ W, wr.alloc (.cells #[.int .i64 XU, .slice fa FL fc, .int .i64 XD, .string XT] 51) = W := ⟨_, rfl⟩
          rw [hWA] at bA eA ⊢
          obtain ⟨LB, hLB⟩ : ∃ B, wr.heap.size = B := ⟨_, rfl⟩
          rw [hLB] at bA eA ⊢
          have hvA := HV2.out.1.below (by rw [hLB]; exact bA)
          have a0 : WA.cell? ⟨LB, 0, none⟩ = some (.int .i64 XU) := rd_cell eA rfl
          have a1 : WA.cell? ⟨LB, 1, none⟩ = some (.slice fa FL fc) := rd_cell eA rfl
          have av : WA.cell? ⟨vb, 0, none⟩ = some (.slice a2 N2 c2) := rd_cell hvA.1 rfl
          have cV := vadd HC vb N2 c2 LB a2 _ XU x.flags (.int .i64 XD) (.string XT) (.slice fa FL fc) 51 WA.drew (hvA.below (Below.refl _ _).drew) HN2.out (by omega) ((HSF.out.below bA (by omega)).below (Below.refl _ _).drew (Nat.le_refl _)) hxf eA (by decide)
          have HFIN : Hid (∀ W, VNext WA.drew vb (.slice a2 N2 c2) W (S ++ newS LU (l.take k) ++ [⟨XU, x.flags⟩]) → VNext w vb (.slice a N c) W (S ++ newS LU (l.take (k + 1)))) := fun W hW => by
            rw [HNY.out]
            exact hW.trans (HV2.out.2.1.trans HV2.out.2.2 (VKeep.of (by rw [hLB]; exact bA.trans (Below.refl _ _).drew))) HV2.out.2.2
          clear hWA eA bA hvA HSF
          refine wp_region_held_drew (S := fun W => W.cell? ⟨LB, 0, none⟩ = some (.int .i64 XU) ∧ W.cell? ⟨LB, 1, none⟩ = some (.slice fa FL fc)) (by kernel_rfl) ?_ (fun hHeld => ?_)
          · exact ⟨by simpa using a0, by simpa using a1⟩
          refine wpAnyH_take (i := 0) (v := ?_) rfl (by kernel_rfl) (by kernel_rfl) (by kernel_rfl) (fun _ _ _ h => h) (Or.inl ⟨by rfl, ?_⟩) (by assumption) ?_
          rotate_left
          · intro w hSw; go_simp; (try with_reducible rfl)
          change wpAnyH _ _ _ _ _ _ _ (Act.put _ (some 36) _) _; simp only [Act.put, List.setIfInBounds_toArray, List.set_cons_zero, List.set_cons_succ]
          refine wpAnyH_take (i := 1) (v := ?_) rfl (by kernel_rfl) (by kernel_rfl) (by kernel_rfl) (fun _ _ _ h => h) (Or.inl ⟨by rfl, ?_⟩) (by assumption) ?_
          rotate_left
          · intro w hSw; go_simp; (try with_reducible rfl)
          change wpAnyH _ _ _ _ _ _ _ (Act.put _ (some 37) _) _; simp only [Act.put, List.setIfInBounds_toArray, List.set_cons_zero, List.set_cons_succ]
          refine wpAnyH_take (i := 2) (v := ?_) rfl (by kernel_rfl) (by kernel_rfl) (by kernel_rfl) (fun _ _ _ h => h) (Or.inl ⟨by rfl, ?_⟩) (by assumption) ?_
          rotate_left
          · intro w hSw; go_simp; (try with_reducible rfl)
          change wpAnyH _ _ _ _ _ _ _ (Act.put _ (some 38) _) _; simp only [Act.put, List.setIfInBounds_toArray, List.set_cons_zero, List.set_cons_succ]
          refine wpAnyH_take (i := 3) (v := ?_) rfl (by kernel_rfl) (by kernel_rfl) (by kernel_rfl) (fun _ _ _ h => h) (Or.inl ⟨by rfl, ?_⟩) (by assumption) ?_
          rotate_left
          · intro w hSw; go_simp; (try with_reducible rfl)
          change wpAnyH _ _ _ _ _ _ _ (Act.put _ (some 39) _) _; simp only [Act.put, List.setIfInBounds_toArray, List.set_cons_zero, List.set_cons_succ]
          refine wpAnyH_take (i := 5) (v := ?_) rfl (by kernel_rfl) (by kernel_rfl) (by kernel_rfl) (fun _ _ _ h => h) (Or.inl ⟨by rfl, ?_⟩) (by assumption) ?_
          rotate_left
          · intro w hSw; go_simp; (try with_reducible rfl)
          change wpAnyH _ _ _ _ _ _ _ (Act.put _ (some 41) _) _; simp only [Act.put, List.setIfInBounds_toArray, List.set_cons_zero, List.set_cons_succ]
          refine wpAnyH_take (i := 6) (v := ?_) rfl (by kernel_rfl) (by kernel_rfl) (by kernel_rfl) (fun _ _ _ h => h) (Or.inl ⟨by rfl, ?_⟩) (by assumption) ?_
          rotate_left
          · intro w hSw; go_simp; (try with_reducible rfl)
          change wpAnyH _ _ _ _ _ _ _ (Act.put _ (some 42) _) _; simp only [Act.put, List.setIfInBounds_toArray, List.set_cons_zero, List.set_cons_succ]
          refine wpAnyH_take (i := 7) (v := ?_) rfl (by kernel_rfl) (by kernel_rfl) (by kernel_rfl) (fun _ _ _ h => h) (Or.inl ⟨by rfl, ?_⟩) (by assumption) ?_
          rotate_left
          · intro w hSw; go_simp; (try with_reducible rfl)
          change wpAnyH _ _ _ _ _ _ _ (Act.put _ (some 43) _) _; simp only [Act.put, List.setIfInBounds_toArray, List.set_cons_zero, List.set_cons_succ]
          refine wpAnyH_take (i := 8) (v := ?_) rfl (by kernel_rfl) (by kernel_rfl) (by kernel_rfl) (fun _ _ _ h => h) (Or.inl ⟨by rfl, ?_⟩) (by assumption) ?_
          rotate_left
          · intro w hSw; go_simp; (try with_reducible rfl)
          change wpAnyH _ _ _ _ _ _ _ (Act.put _ (some 44) _) _; simp only [Act.put, List.setIfInBounds_toArray, List.set_cons_zero, List.set_cons_succ]
          refine wpAnyH_ready (rs := [4, 9]) (by kernel_rfl) (by simp) ?_
          refine AllReadyH.cons rfl (fun K hK => ?_) ?_
          · go_simp
            refine hK.out _ _ ?_ (fun hHeld => ?_)
            · exact hHeld
            clear hK K
            refine wpAnyH_ready (rs := [9]) (by kernel_rfl) (by simp) ?_
            refine AllReadyH.cons rfl (fun K hK => ?_) AllReadyH.nil
            go_simp
            refine cV.mono ?_
            rintro e w9 ⟨xa, xk, xc, w7, W8, g9, cap9, W9, rfl, hw9, k7, hW8, k8, hrun, k9, kf9, HLX, HS9⟩
            obtain rfl : w7 = w9 := hw9.symm
            refine hK.out _ _ ?_ (fun hHeld => ?_)
            · exact HLX.out _ (Or.inl rfl)
            clear hK K
            refine wpAnyH_take (i := 10) (v := ?_) rfl (by kernel_rfl) (by kernel_rfl) (by kernel_rfl) (fun _ _ _ h => h) (Or.inl ⟨by rfl, ?_⟩) (by assumption) ?_
            rotate_left
            · intro w hSw; go_simp; (try with_reducible rfl)
            change wpAnyH _ _ _ _ _ _ _ (Act.put _ (some 46) _) _; simp only [Act.put, List.setIfInBounds_toArray, List.set_cons_zero, List.set_cons_succ]
            refine wpAnyH_ready (rs := [11]) (by kernel_rfl) (by simp) ?_
            refine AllReadyH.cons rfl (fun K hK => ?_) AllReadyH.nil
            go_simp
            refine hK.out _ _ ?_ (fun hHeld => ?_)
            · exact HLX.out _ (Or.inr (Or.inl rfl))
            clear hK K
            refine wpAnyH_ready (rs := [12]) (by kernel_rfl) (by simp) ?_
            refine AllReadyH.cons rfl (fun K hK => ?_) AllReadyH.nil
            refine step_app rfl (.tmp 40) (.tmp 47) 60 rfl _ _ _ rfl rfl hrun ?_
            refine hK.out _ _ ?_ (fun hHeld => ?_)
            · exact HLX.out _ (Or.inr (Or.inr (Or.inl rfl)))
            clear hK K
            refine wpAnyH_take (i := 13) (v := ?_) rfl (by kernel_rfl) (by kernel_rfl) (by kernel_rfl) (fun _ _ _ h => h) (Or.inl ⟨by rfl, ?_⟩) (by assumption) ?_
            rotate_left
            · intro w hSw; go_simp; (try with_reducible rfl)
            refine wpAnyH_take (i := 14) (v := ?_) rfl (by kernel_rfl) (by kernel_rfl) (by kernel_rfl) (fun _ _ _ h => h) (Or.inl ⟨by rfl, ?_⟩) (by assumption) ?_
            rotate_left
            · intro w hSw; go_simp; (try with_reducible rfl)
            refine wpAnyH_ready (rs := [15]) (by kernel_rfl) (by simp) ?_
            refine AllReadyH.cons rfl (fun K hK => ?_) AllReadyH.nil
            go_simp
            refine hK.out _ _ ?_ (fun hHeld => ?_)
            · exact HLX.out _ (Or.inr (Or.inr (Or.inr rfl)))
            clear hK K
            refine wpAnyH_done (by kernel_rfl) ?_ _
            go_wp2_with fail
            go_roundw
            case rel => exact ⟨k + 1, by go_num, by omega, HFIN.out _ HS9.out⟩
            case measure => simp [intOf]; omega
          refine AllReadyH.cons rfl (fun K hK => ?_) AllReadyH.nil
          go_simp
          refine cV.mono ?_
          rintro e w9 ⟨xa, xk, xc, w7, W8, g9, cap9, W9, rfl, hw9, k7, hW8, k8, hrun, k9, kf9, HLX, HS9⟩
          obtain rfl : w7 = w9 := hw9.symm
          refine hK.out _ _ ?_ (fun hHeld => ?_)
          · exact HLX.out _ (Or.inl rfl)
          clear hK K
          refine wpAnyH_take (i := 10) (v := ?_) rfl (by kernel_rfl) (by kernel_rfl) (by kernel_rfl) (fun _ _ _ h => h) (Or.inl ⟨by rfl, ?_⟩) (by assumption) ?_
          rotate_left
          · intro w hSw; go_simp; (try with_reducible rfl)
          change wpAnyH _ _ _ _ _ _ _ (Act.put _ (some 46) _) _; simp only [Act.put, List.setIfInBounds_toArray, List.set_cons_zero, List.set_cons_succ]
          refine wpAnyH_ready (rs := [4, 11]) (by kernel_rfl) (by simp) ?_
          refine AllReadyH.cons rfl (fun K hK => ?_) ?_
          · go_simp
            refine hK.out _ _ ?_ (fun hHeld => ?_)
            · exact hHeld
            clear hK K
            refine wpAnyH_ready (rs := [11]) (by kernel_rfl) (by simp) ?_
            refine AllReadyH.cons rfl (fun K hK => ?_) AllReadyH.nil
            go_simp
            refine hK.out _ _ ?_ (fun hHeld => ?_)
            · exact HLX.out _ (Or.inr (Or.inl rfl))
            clear hK K
            refine wpAnyH_ready (rs := [12]) (by kernel_rfl) (by simp) ?_
            refine AllReadyH.cons rfl (fun K hK => ?_) AllReadyH.nil
            refine step_app rfl (.tmp 40) (.tmp 47) 60 rfl _ _ _ rfl rfl hrun ?_
            refine hK.out _ _ ?_ (fun hHeld => ?_)
            · exact HLX.out _ (Or.inr (Or.inr (Or.inl rfl)))
            clear hK K
            refine wpAnyH_take (i := 13) (v := ?_) rfl (by kernel_rfl) (by kernel_rfl) (by kernel_rfl) (fun _ _ _ h => h) (Or.inl ⟨by rfl, ?_⟩) (by assumption) ?_
            rotate_left
            · intro w hSw; go_simp; (try with_reducible rfl)
            refine wpAnyH_take (i := 14) (v := ?_) rfl (by kernel_rfl) (by kernel_rfl) (by kernel_rfl) (fun _ _ _ h => h) (Or.inl ⟨by rfl, ?_⟩) (by assumption) ?_
            rotate_left
            · intro w hSw; go_simp; (try with_reducible rfl)
            refine wpAnyH_ready (rs := [15]) (by kernel_rfl) (by simp) ?_
            refine AllReadyH.cons rfl (fun K hK => ?_) AllReadyH.nil
            go_simp
            refine hK.out _ _ ?_ (fun hHeld => ?_)
            · exact HLX.out _ (Or.inr (Or.inr (Or.inr rfl)))
            clear hK K
            refine wpAnyH_done (by kernel_rfl) ?_ _
            go_wp2_with fail
            go_roundw
            case rel => exact ⟨k + 1, by go_num, by omega, HFIN.out _ HS9.out⟩
            case measure => simp [intOf]; omega
          refine AllReadyH.cons rfl (fun K hK => ?_) AllReadyH.nil
          go_simp
          refine hK.out _ _ ?_ (fun hHeld => ?_)
          · exact HLX.out _ (Or.inr (Or.inl rfl))
          clear hK K
          refine wpAnyH_ready (rs := [4]) (by kernel_rfl) (by simp) ?_
          refine AllReadyH.cons rfl (fun K hK => ?_) AllReadyH.nil
          go_simp
          refine hK.out _ _ ?_ (fun hHeld => ?_)
          · exact hHeld
          clear hK K
          refine wpAnyH_ready (rs := [12]) (by kernel_rfl) (by simp) ?_
          refine AllReadyH.cons rfl (fun K hK => ?_) AllReadyH.nil
          refine step_app rfl (.tmp 40) (.tmp 47) 60 rfl _ _ _ rfl rfl hrun ?_
          refine hK.out _ _ ?_ (fun hHeld => ?_)
          · exact HLX.out _ (Or.inr (Or.inr (Or.inl rfl)))
          clear hK K
          refine wpAnyH_take (i := 13) (v := ?_) rfl (by kernel_rfl) (by kernel_rfl) (by kernel_rfl) (fun _ _ _ h => h) (Or.inl ⟨by rfl, ?_⟩) (by assumption) ?_
          rotate_left
          · intro w hSw; go_simp; (try with_reducible rfl)
          refine wpAnyH_take (i := 14) (v := ?_) rfl (by kernel_rfl) (by kernel_rfl) (by kernel_rfl) (fun _ _ _ h => h) (Or.inl ⟨by rfl, ?_⟩) (by assumption) ?_
          rotate_left
          · intro w hSw; go_simp; (try with_reducible rfl)
          refine wpAnyH_ready (rs := [15]) (by kernel_rfl) (by simp) ?_
          refine AllReadyH.cons rfl (fun K hK => ?_) AllReadyH.nil
          go_simp
          refine hK.out _ _ ?_ (fun hHeld => ?_)
          · exact HLX.out _ (Or.inr (Or.inr (Or.inr rfl)))
          clear hK K
          refine wpAnyH_done (by kernel_rfl) ?_ _
          go_wp2_with fail
          go_roundw
          case rel => exact ⟨k + 1, by go_num, by omega, HFIN.out _ HS9.out⟩
          case measure => simp [intOf]; omega
        · have dgt : decide (LU < XU) = false := decide_eq_false hgt
          have HNY : Hid (S ++ newS LU (l.take (k + 1)) = S ++ newS LU (l.take k)) := by
            unfold Hid
            rw [HNX.out, if_neg hgt, List.append_nil]
          have HFIN : Hid (VNext w vb (.slice a N c) (wr.alloc (.cells #[.int .i64 XU, .slice fa FL fc, .int .i64 XD, .string XT] 51)) (S ++ newS LU (l.take (k + 1)))) := by
            unfold Hid
            rw [HNY.out]
            have bA : Below wr.heap.size wr (wr.alloc (.cells #[.int .i64 XU, .slice fa FL fc, .int .i64 XD, .string XT] 51)) := (Below.refl _ _).alloc (Nat.le_refl _) _
            exact ⟨_, HV2.out.1.below bA, HV2.out.2.1.trans HV2.out.2.2 (VKeep.of bA), HV2.out.2.2⟩
          clear HSF HV2
          go_wp2_with fail
          go_roundw
          case rel => exact ⟨k + 1, by go_num, by omega, HFIN.out⟩
          case measure => simp [intOf]; omega
      · obtain rfl : k = m := by omega
        obtain ⟨sv2, hv2, hk2, hn2⟩ := HI.out
        obtain ⟨a2, c2, rfl⟩ := sgs_form hv2.2
        rw [List.take_of_length_le (by rw [HM.out]; exact Nat.le_refl _)] at hv2 hn2
        obtain ⟨N2, hN2e⟩ : ∃ n, (S ++ newS LU l).length = n := ⟨_, rfl⟩
        rw [hN2e] at hv2 hn2
        have r0 : wr.cell? ⟨vb, 0, none⟩ = some (.slice a2 N2 c2) := rd_cell hv2.1 rfl
        have HRR : Hid (decide ((N : Int) < (N2 : Int)) = R) := by
          show _ = R
          rw [← HR.out, ← hN2e, List.length_append, HN.out]
          exact decide_eq_decide.2 (by omega)
        have HF : Hid (VNext w vb (.slice a N c) wr (S ++ newS LU l)) := ⟨_, hv2, hk2, hn2⟩
        clear hv2 hk2 hn2 hN2e HI
        go_wp2_with fail
        go_ret
        exact ⟨by rw [← HRR.out]; simp, HF.out⟩
end Go.Proofs.YtgpcnacpefficaaGreatDoor
