/-
  One deed at both: the statement's posts.
-/
import Derived.Test.YtgpcnacpefficaaGreatDoorBpPlOps
namespace Go.Proofs.YtgpcnacpefficaaGreatDoor
open Go.RowKit Go.Proofs.Aid Go.Proofs.Bx

theorem pl_wrap (a : Int) : 0 ≤ IntKind.u64.wrap a := by
  have e1 : IntKind.u64.bits = 64 := rfl
  unfold IntKind.wrap
  rw [e1]
  simp only [IntKind.signed]
  first | omega | (simp; omega) | (split <;> omega)
theorem pl_urem (n : Int) : ∃ A : Nat, (IntKind.u64.wrap n).tmod 2 = (A : Int) ∧ A < 2 := by
  have h0 : 0 ≤ IntKind.u64.wrap n := pl_wrap n
  rw [Int.tmod_eq_emod_of_nonneg h0]
  exact ⟨(IntKind.u64.wrap n % 2).toNat, by omega, by omega⟩
/-- What a deed leaves. -/
def PlOut (w0 w : World) (bb wb vb ub : Nat) (K : List (Nat × Array Value)) (vv : Int) (i : Nat) : Prop :=
  ∃ (n : Int) (l : List Lt) (S : List Sg) (lv lw sv uv : Value), PS w0 w bb wb vb ub K 37 vv n n l l S S lv lw sv uv ∧ PInv n l ∧ VInv l S (i + 1)
section
variable {w0 w : World} {bb wb vb ub : Nat} {x : Nat × Array Value} {K : List (Nat × Array Value)} {vv n : Int} {l : List Lt} {S : List Sg} {lv lw sv uv : Value} {i : Nat}
theorem PS.tail {pt : TypeId} {n2 : Int} {l2 : List Lt} {S2 : List Sg} (h : PS w0 w bb wb vb ub (x :: K) pt vv n n2 l l2 S S2 lv lw sv uv) : PS w0 w bb wb vb ub K pt vv n n2 l l2 S S2 lv lw sv uv := h.keeps fun q pc hq => h.post q pc (List.mem_cons_of_mem _ hq)
theorem app_out {F : List Fl.Tx} {day : Int} {t : ByteArray} (h : PS w0 w bb wb vb ub (x :: K) 37 vv (apN F n l day t) (apN F n l day t) (apL F n l day t) (apL F n l day t) S S lv lw sv uv) (hI : PInv n l) (hV : VInv l S i) : PlOut w0 w bb wb vb ub K vv i := by
  refine ⟨_, _, _, _, _, _, _, h.tail, ?_, ?_⟩
  all_goals unfold apL
  · unfold apN
    by_cases h0 : apE F n l day t = 0
    · rw [if_pos h0, if_pos h0]
      unfold apE appE at h0
      split at h0
      · simp at h0
      split at h0
      · next h1 => exact absurd h0 h1
      next h1 =>
      split at h0
      · simp at h0
      split at h0
      · simp at h0
      next h3 => exact pinv_append hI (setOf_ok (by simpa using h1)) (by omega) (by omega)
    · rw [if_neg h0, if_neg h0]
      exact hI
  · by_cases h0 : apE F n l day t = 0
    · rw [if_pos h0]
      exact vinv_append hV _
    · rw [if_neg h0]
      exact hV.more
theorem flag_out {F : List Fl.Tx} {u what : Int} (h : PS w0 w bb wb vb ub (x :: K) 37 vv n n (flL l u what F) (flL l u what F) S S lv lw sv uv) (hI : PInv n l) (hV : VInv l S i) (_hF : ∀ t ∈ F, t.length ≤ 100) : PlOut w0 w bb wb vb ub K vv i := by
  have hcase : flL l u what F = l ∨ ∃ x, l[findI l u]? = some x ∧ (Fl.setOf F).2 = 0 ∧ (chgF x.flags what (Fl.setOf F).1).2 = 0 ∧ flL l u what F = l.set (findI l u) (Lt.withF x (chgF x.flags what (Fl.setOf F).1).1) := by
    unfold flL
    by_cases h0 : flE l u what F = 0
    · rw [if_pos h0]
      unfold flE at h0
      split at h0
      · split at h0
        · next h1 => exact absurd h0 h1
        · next h1 =>
          cases hx : l[findI l u]? with
          | none => exact Or.inl rfl
          | some x =>
            rw [hx] at h0
            exact Or.inr ⟨x, rfl, by simpa using h1, h0, rfl⟩
      · simp at h0
    · rw [if_neg h0]
      exact Or.inl rfl
  rcases hcase with he | ⟨x, hx, h1, h2, he⟩
  · rw [he] at h
    exact ⟨_, _, _, _, _, _, _, h.tail, hI, hV.more⟩
  · rw [he] at h
    exact ⟨_, _, _, _, _, _, _, h.tail, pinv_flag hI hx (chg_ok (hI.ok x (List.mem_of_getElem? hx)) (setOf_ok h1) h2), vinv_uids hV (set_uids hx _)⟩
theorem look_out {g : Bool} (h : PS w0 w bb wb vb ub (x :: K) 37 vv n n l l (lookS S l g) (lookS S l g) lv lw sv uv) (hI : PInv n l) (hV : VInv l S i) : PlOut w0 w bb wb vb ub K vv i := ⟨_, _, _, _, _, _, _, h.tail, hI, vinv_look hV hI g⟩
end
theorem nr_form {e : TypeId} {w : World} {v : Value} {N : List Nw} (h : NR e w v N) : ∃ a c, v = .slice a N.length c := by
  obtain ⟨rows, h1, _⟩ := h
  rcases h1.2 with ⟨h2, h3⟩ | ⟨g, cap, cur, hv, _⟩
  · exact ⟨none, 0, by rw [h2, h3]⟩
  · exact ⟨_, _, hv⟩
theorem look_many {n : Int} {l : List Lt} {S : List Sg} {g : Bool} (hS : S.length ≤ 200) (hI : PInv n l) : (lookN S l g).length ≤ 2000 := by
  rw [lookN_is S hI.rise g, List.length_append]
  have h1 := learnN_le l 0 (lookS1 S l g)
  have h2 : (lookS1 S l g).length ≤ S.length := by rw [look1_keep]; exact keepS_le _ _
  have h3 : (lookN2 S l g).length ≤ S.length + 1 := by
    unfold lookN2
    rw [List.length_append, lookN1_gone]
    have h4 := goneN_le (goneP l g) (bk S 0)
    rw [bk_len] at h4
    split <;> simp <;> omega
  omega
theorem look_fl {n : Int} {l : List Lt} {S : List Sg} {g : Bool} (_hS : ∀ s ∈ S, s.flags.length ≤ 1000) (hI : PInv n l) : ∀ x ∈ lookN S l g, x.flags.length ≤ 1000 := by
  have hl : ∀ (k : Nat) (T : List Sg), ∀ x ∈ learnN l k T, x.flags.length ≤ 1000 := by
    intro k T
    induction T generalizing k with
    | nil => intro x hx; cases hx
    | cons s T ih =>
      intro x hx
      rw [learnN] at hx
      rcases List.mem_append.1 hx with h | h
      · unfold news1 at h
        cases hf : flagsOf l s.uid with
        | none => rw [hf] at h; cases h
        | some F =>
          rw [hf] at h
          unfold flagsOf at hf
          obtain ⟨y, hy, rfl⟩ := Option.map_eq_some_iff.1 hf
          have := (hI.ok y (List.mem_of_find?_eq_some hy)).2.2
          by_cases he : y.flags = s.flags
          · simp [he] at h
          · simp only [he, if_false] at h
            rw [List.mem_singleton.1 h]
            show y.flags.length ≤ 1000
            omega
      · exact ih (k + 1) x h
  intro x hx
  rw [lookN_is S hI.rise g] at hx
  rcases List.mem_append.1 hx with h | h
  · unfold lookN2 at h
    rcases List.mem_append.1 h with h | h
    · rw [lookN1_gone] at h
      unfold goneN at h
      obtain ⟨y, _, rfl⟩ := List.mem_map.1 h
      simp
    · split at h
      · rw [List.mem_singleton.1 h]; simp
      · cases h
  · exact hl 0 _ x h
def holdsB (N u : Int) : Bool := decide (N.tmod 2 = 0) || decide (u.tmod 2 = 0)
set_option maxHeartbeats 1000000 in
theorem holds1_is (PB : Nat) (N u : Int) (w : World) (h : w.cell? ⟨PB, 2, none⟩ = some (.int .i64 N)) : Calls Tryz.prog 27 #[.int .i64 u, .pointer (some ⟨PB, 0, none⟩)] w fun e w' => e = .returned (.bool (holdsB N u)) ∧ Below w.heap.size w w' := by
  unfold holdsB
  by_cases h1 : N.tmod 2 = 0
  · have d1 : (N.tmod 2 == 0) = true := by simpa using h1
    rw [decide_eq_true h1]
    go_enter Tryz.func27, Tryz.ntmps27
    go_wp2_with fail
    go_ret
    exact ⟨rfl, Below.refl _ _⟩
  · have d1 : (N.tmod 2 == 0) = false := by simpa using h1
    rw [decide_eq_false h1]
    by_cases h2 : u.tmod 2 = 0
    · have d2 : (u.tmod 2 == 0) = true := by simpa using h2
      rw [decide_eq_true h2]
      go_enter Tryz.func27, Tryz.ntmps27
      go_wp2_with fail
      go_ret
      exact ⟨rfl, Below.refl _ _⟩
    · have d2 : (u.tmod 2 == 0) = false := by simpa using h2
      rw [decide_eq_false h2]
      go_enter Tryz.func27, Tryz.ntmps27
      go_wp2_with fail
      go_ret
      exact ⟨rfl, Below.refl _ _⟩
set_option maxHeartbeats 16000000 in
set_option maxRecDepth 100000 in
theorem posts_is (w0 w : World) (bb wb vb ub : Nat) (KK : List (Nat × Array Value)) (vv n : Int) (l : List Lt) (S : List Sg) (lv lw sv uv : Value) (i : Nat) (WH UI NN : Int) (fv : Value) (F : List Fl.Tx) (TX : ByteArray) (LG : Bool)
    (h : PS w0 w bb wb vb ub KK 37 vv n n l l S S lv lw sv uv) (hI : PInv n l) (hV : VInv l S i) (hi : i ≤ 60) (hf : Sl w0 fv F) (hF : F.length ≤ 40) (hFs : ∀ t ∈ F, t.length ≤ 100) (hg : SysAt w0) (he : ErrType w0) :
    Calls Tryz.prog 10 #[.pointer (some ⟨bb, 0, none⟩), .pointer (some ⟨wb, 0, none⟩), .pointer (some ⟨vb, 0, none⟩), .pointer (some ⟨ub, 0, none⟩), .agg #[.int .i64 WH, .int .i64 UI, .int .i64 NN, fv, .string TX, .bool LG]] w fun e w' => e = .returned (.bool true) ∧ PlOut w0 w' bb wb vb ub KK vv i := by
  obtain ⟨fa, fc, hfv, hfr⟩ := id hf
  clear hfr
  obtain ⟨FL, hFL⟩ : ∃ k, F.length = k := ⟨_, rfl⟩
  rw [hFL] at hfv
  subst hfv
  have HI : Hid (PInv n l ∧ VInv l S i ∧ i ≤ 60) := ⟨hI, hV, hi⟩
  have HF : Hid (Sl w0 (.slice fa FL fc) F ∧ F.length ≤ 40 ∧ ∀ t ∈ F, t.length ≤ 100) := ⟨hf, hF, hFs⟩
  have HG : Hid (SysAt w0 ∧ ErrType w0) := ⟨hg, he⟩
  have b1 : Below w.heap.size w (w.alloc (.cells #[.int .i64 WH, .int .i64 UI, .int .i64 NN, .slice fa FL fc, .string TX, .bool LG] 37)) := (Below.refl _ _).alloc (Nat.le_refl _) _
  have e1 := heap_alloc_new w (.cells #[.int .i64 WH, .int .i64 UI, .int .i64 NN, .slice fa FL fc, .string TX, .bool LG] 37)
  have hP1 := (h.below b1).keeps (K' := (w.heap.size, #[.int .i64 WH, .int .i64 UI, .int .i64 NN, .slice fa FL fc, .string TX, .bool LG]) :: KK) (fun q pc hq => by
    rcases List.mem_cons.1 hq with e | hq
    · injection e with e2 e3
      subst e2
      subst e3
      exact e1
    · exact (h.below b1).post q pc hq)
  clear h hI hV hi hf hF hFs hg he hFL
  go_enter Tryz.func10, Tryz.ntmps10
  go_upto_region 1 with fail
  obtain ⟨w1, hw1⟩ : ∃ W, w.alloc (.cells #[.int .i64 WH, .int .i64 UI, .int .i64 NN, .slice fa FL fc, .string TX, .bool LG] 37) = W := ⟨_, rfl⟩
  rw [hw1] at hP1 ⊢
  obtain ⟨PB, hPB⟩ : ∃ B, w.heap.size = B := ⟨_, rfl⟩
  rw [hPB] at hP1 ⊢
  have HP1 : Hid (PS w0 w1 bb wb vb ub ((PB, #[.int .i64 WH, .int .i64 UI, .int .i64 NN, .slice fa FL fc, .string TX, .bool LG]) :: KK) 37 vv n n l l S S lv lw sv uv) := hP1
  have HPC : Hid (∀ (W : World) (n n2 : Int) (l l2 : List Lt) (S S2 : List Sg) (lv lw sv uv : Value), PS w0 W bb wb vb ub ((PB, #[.int .i64 WH, .int .i64 UI, .int .i64 NN, .slice fa FL fc, .string TX, .bool LG]) :: KK) 37 vv n n2 l l2 S S2 lv lw sv uv → W.cell? ⟨PB, 3, none⟩ = some (.slice fa FL fc) ∧ W.cell? ⟨PB, 4, none⟩ = some (.string TX) ∧ W.cell? ⟨PB, 5, none⟩ = some (.bool LG) ∧ W.cell? ⟨PB, 1, none⟩ = some (.int .i64 UI) ∧ W.cell? ⟨PB, 2, none⟩ = some (.int .i64 NN)) := fun W _ _ _ _ _ _ _ _ _ _ hW => by
    have hp := hW.post PB _ List.mem_cons_self
    exact ⟨rd_cell hp rfl, rd_cell hp rfl, rd_cell hp rfl, rd_cell hp rfl, rd_cell hp rfl⟩
  have p0 : w1.cell? ⟨PB, 0, none⟩ = some (.int .i64 WH) := rd_cell (hP1.post PB _ List.mem_cons_self) rfl
  obtain ⟨p3, p4, p5, p1, p2⟩ := HPC.out _ _ _ _ _ _ _ _ _ _ _ hP1
  clear hP1 e1 b1 hw1 hPB
  by_cases h0 : WH = 0
  · subst h0
    cases LG with
    | false =>
      have HP : Hid _ := HP1.out
      clear HP1
      have hps := HP.out
      have cR := app_doc hps HI.out.1.len HI.out.1.next (.slice fa FL fc) F NN TX HF.out.1 HF.out.2.1 HF.out.2.2
      obtain ⟨AV, hAV⟩ : ∃ z, apV F n l NN TX = z := ⟨_, rfl⟩
      obtain ⟨AE, hAE⟩ : ∃ z, apE F n l NN TX = z := ⟨_, rfl⟩
      have HAE : Hid (apE F n l NN TX = AE) := hAE
      rw [hAV, hAE] at cR
      go_wp2_with fail
      refine cR.mono ?_
      clear cR hps
      rintro e w3 ⟨lw3, rfl, hps3⟩
      have cB := app_prog hps3 HI.out.1.len HI.out.1.next (.slice fa FL fc) F NN TX HF.out.1 HF.out.2.1 HF.out.2.2 HG.out.1
      rw [hAV, hAE] at cB
      have HP3 : Hid _ := hps3
      obtain ⟨g2, g3, g4, g0, g1⟩ := HPC.out _ _ _ _ _ _ _ _ _ _ _ hps3
      clear hps3 hAV hAE
      go_wp2_with fail
      refine cB.mono ?_
      clear cB g0 g1 g2 g3 g4
      rintro e w4 ⟨ev, lv4, rfl, hev, hps4⟩
      have HEV : Hid (ErrIs ev AE) := hev
      have cE := bare_is ev AE w4 hev (HG.out.2.below hps4.base)
      have HP4 : Hid _ := hps4
      have hform : (∃ t v, ev = .iface t v) ∨ ev = .nilIface := by
        rcases hev with ⟨_, h⟩ | ⟨_, h⟩
        · exact Or.inr h
        · exact Or.inl ⟨_, _, h⟩
      clear hev hps4 HP3
      rcases hform with ⟨it, iv, rfl⟩ | rfl
      all_goals
        go_wp2_with fail
        refine cE.mono ?_
        clear cE
        rintro e w5 ⟨rfl, hb5⟩
        have HOUT : Hid (PlOut w0 w5 bb wb vb ub KK vv i) := app_out (HP4.out.below hb5) HI.out.1 HI.out.2.1
        clear hb5 HP4
        go_wp2_with fail
        go_ret
        exact ⟨rfl, HOUT.out⟩
    | true =>
      obtain ⟨A, hA, hA2⟩ := pl_urem NN
      have cF : Calls Tryz.prog 21 #[.int .i64 (2000 + (A : Int))] w1 fun e w' => (∃ t : ByteArray, e = .returned (.string t) ∧ t.size = 2000 + A) ∧ Below w1.heap.size w1 w' := by
        have := fill_is (2000 + A) w1 (by omega)
        rw [show ((2000 + A : Nat) : Int) = 2000 + (A : Int) by omega] at this
        exact this
      go_wp2_with fail
      refine cF.mono ?_
      clear cF
      rintro e w2 ⟨⟨t2, rfl, ht2⟩, hb2⟩
      have HP : Hid _ := HP1.out.below hb2
      obtain ⟨r3, r4, r5, r1, r2⟩ := HPC.out _ _ _ _ _ _ _ _ _ _ _ HP.out
      clear HP1 hb2 p0 p1 p2 p3 p4 p5 ht2 hA hA2
      have hps := HP.out
      have cR := app_doc hps HI.out.1.len HI.out.1.next (.slice fa FL fc) F NN t2 HF.out.1 HF.out.2.1 HF.out.2.2
      obtain ⟨AV, hAV⟩ : ∃ z, apV F n l NN t2 = z := ⟨_, rfl⟩
      obtain ⟨AE, hAE⟩ : ∃ z, apE F n l NN t2 = z := ⟨_, rfl⟩
      have HAE : Hid (apE F n l NN t2 = AE) := hAE
      rw [hAV, hAE] at cR
      go_wp2_with fail
      refine cR.mono ?_
      clear cR hps
      rintro e w3 ⟨lw3, rfl, hps3⟩
      have cB := app_prog hps3 HI.out.1.len HI.out.1.next (.slice fa FL fc) F NN t2 HF.out.1 HF.out.2.1 HF.out.2.2 HG.out.1
      rw [hAV, hAE] at cB
      have HP3 : Hid _ := hps3
      obtain ⟨g2, g3, g4, g0, g1⟩ := HPC.out _ _ _ _ _ _ _ _ _ _ _ hps3
      clear hps3 hAV hAE
      go_wp2_with fail
      refine cB.mono ?_
      clear cB g0 g1 g2 g3 g4
      rintro e w4 ⟨ev, lv4, rfl, hev, hps4⟩
      have HEV : Hid (ErrIs ev AE) := hev
      have cE := bare_is ev AE w4 hev (HG.out.2.below hps4.base)
      have HP4 : Hid _ := hps4
      have hform : (∃ t v, ev = .iface t v) ∨ ev = .nilIface := by
        rcases hev with ⟨_, h⟩ | ⟨_, h⟩
        · exact Or.inr h
        · exact Or.inl ⟨_, _, h⟩
      clear hev hps4 HP3
      rcases hform with ⟨it, iv, rfl⟩ | rfl
      all_goals
        go_wp2_with fail
        refine cE.mono ?_
        clear cE
        rintro e w5 ⟨rfl, hb5⟩
        have HOUT : Hid (PlOut w0 w5 bb wb vb ub KK vv i) := app_out (HP4.out.below hb5) HI.out.1 HI.out.2.1
        clear hb5 HP4
        go_wp2_with fail
        go_ret
        exact ⟨rfl, HOUT.out⟩
  have d0 : (WH == 0) = false := by simpa using h0
  by_cases h1 : WH = 1
  · subst h1
    obtain ⟨WD, hWD⟩ : ∃ W, w1.drew = W := ⟨_, rfl⟩
    have hpsD := HP1.out.below (w' := WD) (by rw [← hWD]; exact (Below.refl _ _).drew)
    obtain ⟨AE, hAE⟩ : ∃ z, flE l UI NN F = z := ⟨_, rfl⟩
    have HAE : Hid (flE l UI NN F = AE) := hAE
    have cB := flag_prog hpsD HI.out.1 (.slice fa FL fc) F UI NN HF.out.1 HF.out.2.1 HF.out.2.2 HG.out.1
    rw [hAE] at cB
    have q1 := p1
    have q2 := p2
    have q3 := p3
    clear hpsD hAE HP1
    go_upto_region 10 with fail
    refine wp_region_held_drew (S := fun W => W.cell? ⟨PB, 1, none⟩ = some (.int .i64 UI) ∧ W.cell? ⟨PB, 2, none⟩ = some (.int .i64 NN) ∧ W.cell? ⟨PB, 3, none⟩ = some (.slice fa FL fc)) (by kernel_rfl) ?_ (fun hHeld => ?_)
    · exact ⟨by simpa using q1, by simpa using q2, by simpa using q3⟩
    rw [hWD] at hHeld ⊢
    refine wpAnyH_take (i := 0) (v := ?_) rfl (by kernel_rfl) (by kernel_rfl) (by kernel_rfl) (fun _ _ _ h => h) (Or.inl ⟨by rfl, ?_⟩) (by first | assumption | trivial) ?_
    rotate_left
    · intro w hSw; go_simp; (try with_reducible rfl)
    change wpAnyH _ _ _ _ _ _ _ (Act.put _ (some 62) _) _; simp only [Act.put, List.setIfInBounds_toArray, List.set_cons_zero, List.set_cons_succ]
    refine wpAnyH_take (i := 1) (v := ?_) rfl (by kernel_rfl) (by kernel_rfl) (by kernel_rfl) (fun _ _ _ h => h) (Or.inl ⟨by rfl, ?_⟩) (by first | assumption | trivial) ?_
    rotate_left
    · intro w hSw; go_simp; (try with_reducible rfl)
    change wpAnyH _ _ _ _ _ _ _ (Act.put _ (some 63) _) _; simp only [Act.put, List.setIfInBounds_toArray, List.set_cons_zero, List.set_cons_succ]
    refine wpAnyH_take (i := 2) (v := ?_) rfl (by kernel_rfl) (by kernel_rfl) (by kernel_rfl) (fun _ _ _ h => h) (Or.inl ⟨by rfl, ?_⟩) (by first | assumption | trivial) ?_
    rotate_left
    · intro w hSw; go_simp; (try with_reducible rfl)
    change wpAnyH _ _ _ _ _ _ _ (Act.put _ (some 64) _) _; simp only [Act.put, List.setIfInBounds_toArray, List.set_cons_zero, List.set_cons_succ]
    refine wpAnyH_take (i := 3) (v := ?_) rfl (by kernel_rfl) (by kernel_rfl) (by kernel_rfl) (fun _ _ _ h => h) (Or.inl ⟨by rfl, ?_⟩) (by first | assumption | trivial) ?_
    rotate_left
    · intro w hSw; go_simp; (try with_reducible rfl)
    change wpAnyH _ _ _ _ _ _ _ (Act.put _ (some 65) _) _; simp only [Act.put, List.setIfInBounds_toArray, List.set_cons_zero, List.set_cons_succ]
    refine wpAnyH_take (i := 4) (v := ?_) rfl (by kernel_rfl) (by kernel_rfl) (by kernel_rfl) (fun _ _ _ h => h) (Or.inl ⟨by rfl, ?_⟩) (by first | assumption | trivial) ?_
    rotate_left
    · intro w hSw; go_simp; (try with_reducible rfl)
    change wpAnyH _ _ _ _ _ _ _ (Act.put _ (some 66) _) _; simp only [Act.put, List.setIfInBounds_toArray, List.set_cons_zero, List.set_cons_succ]
    refine wpAnyH_take (i := 5) (v := ?_) rfl (by kernel_rfl) (by kernel_rfl) (by kernel_rfl) (fun _ _ _ h => h) (Or.inl ⟨by rfl, ?_⟩) (by first | assumption | trivial) ?_
    rotate_left
    · intro w hSw; go_simp; (try with_reducible rfl)
    change wpAnyH _ _ _ _ _ _ _ (Act.put _ (some 67) _) _; simp only [Act.put, List.setIfInBounds_toArray, List.set_cons_zero, List.set_cons_succ]
    refine wpAnyH_take (i := 6) (v := ?_) rfl (by kernel_rfl) (by kernel_rfl) (by kernel_rfl) (fun _ _ _ h => h) (Or.inl ⟨by rfl, ?_⟩) (by first | assumption | trivial) ?_
    rotate_left
    · intro w hSw; go_simp; (try with_reducible rfl)
    change wpAnyH _ _ _ _ _ _ _ (Act.put _ (some 68) _) _; simp only [Act.put, List.setIfInBounds_toArray, List.set_cons_zero, List.set_cons_succ]
    refine wpAnyH_take (i := 8) (v := ?_) rfl (by kernel_rfl) (by kernel_rfl) (by kernel_rfl) (fun _ _ _ h => h) (Or.inl ⟨by rfl, ?_⟩) (by first | assumption | trivial) ?_
    rotate_left
    · intro w hSw; go_simp; (try with_reducible rfl)
    change wpAnyH _ _ _ _ _ _ _ (Act.put _ (some 70) _) _; simp only [Act.put, List.setIfInBounds_toArray, List.set_cons_zero, List.set_cons_succ]
    refine wpAnyH_take (i := 9) (v := ?_) rfl (by kernel_rfl) (by kernel_rfl) (by kernel_rfl) (fun _ _ _ h => h) (Or.inl ⟨by rfl, ?_⟩) (by first | assumption | trivial) ?_
    rotate_left
    · intro w hSw; go_simp; (try with_reducible rfl)
    change wpAnyH _ _ _ _ _ _ _ (Act.put _ (some 71) _) _; simp only [Act.put, List.setIfInBounds_toArray, List.set_cons_zero, List.set_cons_succ]
    refine wpAnyH_take (i := 10) (v := ?_) rfl (by kernel_rfl) (by kernel_rfl) (by kernel_rfl) (fun _ _ _ h => h) (Or.inl ⟨by rfl, ?_⟩) (by first | assumption | trivial) ?_
    rotate_left
    · intro w hSw; go_simp; (try with_reducible rfl)
    change wpAnyH _ _ _ _ _ _ _ (Act.put _ (some 72) _) _; simp only [Act.put, List.setIfInBounds_toArray, List.set_cons_zero, List.set_cons_succ]
    refine wpAnyH_take (i := 11) (v := ?_) rfl (by kernel_rfl) (by kernel_rfl) (by kernel_rfl) (fun _ _ _ h => h) (Or.inl ⟨by rfl, ?_⟩) (by first | assumption | trivial) ?_
    rotate_left
    · intro w hSw; go_simp; (try with_reducible rfl)
    change wpAnyH _ _ _ _ _ _ _ (Act.put _ (some 73) _) _; simp only [Act.put, List.setIfInBounds_toArray, List.set_cons_zero, List.set_cons_succ]
    refine wpAnyH_take (i := 12) (v := ?_) rfl (by kernel_rfl) (by kernel_rfl) (by kernel_rfl) (fun _ _ _ h => h) (Or.inl ⟨by rfl, ?_⟩) (by first | assumption | trivial) ?_
    rotate_left
    · intro w hSw; go_simp; (try with_reducible rfl)
    change wpAnyH _ _ _ _ _ _ _ (Act.put _ (some 74) _) _; simp only [Act.put, List.setIfInBounds_toArray, List.set_cons_zero, List.set_cons_succ]
    refine wpAnyH_take (i := 13) (v := ?_) rfl (by kernel_rfl) (by kernel_rfl) (by kernel_rfl) (fun _ _ _ h => h) (Or.inl ⟨by rfl, ?_⟩) (by first | assumption | trivial) ?_
    rotate_left
    · intro w hSw; go_simp; (try with_reducible rfl)
    change wpAnyH _ _ _ _ _ _ _ (Act.put _ (some 75) _) _; simp only [Act.put, List.setIfInBounds_toArray, List.set_cons_zero, List.set_cons_succ]
    refine wpAnyH_take (i := 14) (v := ?_) rfl (by kernel_rfl) (by kernel_rfl) (by kernel_rfl) (fun _ _ _ h => h) (Or.inl ⟨by rfl, ?_⟩) (by first | assumption | trivial) ?_
    rotate_left
    · intro w hSw; go_simp; (try with_reducible rfl)
    change wpAnyH _ _ _ _ _ _ _ (Act.put _ (some 76) _) _; simp only [Act.put, List.setIfInBounds_toArray, List.set_cons_zero, List.set_cons_succ]
    refine wpAnyH_ready (rs := [7]) (by kernel_rfl) (by simp) ?_
    refine AllReadyH.cons rfl (fun K hK => ?_) AllReadyH.nil
    go_simp
    refine cB.mono ?_
    rintro e w3 ⟨ev, lv3, rfl, hev, hps3⟩
    have HP3 : Hid _ := hps3
    have HEV : Hid (ErrIs ev AE) := hev
    obtain ⟨g2, g3, g4, g0, g1⟩ := HPC.out _ _ _ _ _ _ _ _ _ _ _ hps3
    clear hps3 hev cB
    refine hK.out _ _ ?_ (fun hHeld => ?_)
    · exact ⟨g0, g1, g2⟩
    clear hK K
    refine wpAnyH_ready (rs := [15]) (by kernel_rfl) (by simp) ?_
    refine AllReadyH.cons rfl (fun K hK => ?_) AllReadyH.nil
    go_simp
    have cR := flag_doc HP3.out HI.out.1 (.slice fa FL fc) F UI NN HF.out.1 HF.out.2.1 HF.out.2.2
    rw [HAE.out] at cR
    refine cR.mono ?_
    rintro e w4 ⟨lw4, rfl, hps4⟩
    have HP4 : Hid _ := hps4
    obtain ⟨k2, k3, k4, k0, k1⟩ := HPC.out _ _ _ _ _ _ _ _ _ _ _ hps4
    have cE := bare_is ev AE w4 HEV.out (HG.out.2.below hps4.base)
    clear hps4 cR g0 g1 g2 g3 g4
    refine hK.out _ _ ?_ (fun hHeld => ?_)
    · exact ⟨k0, k1, k2⟩
    clear hK K
    refine wpAnyH_ready (rs := [16]) (by kernel_rfl) (by simp) ?_
    refine AllReadyH.cons rfl (fun K hK => ?_) AllReadyH.nil
    go_simp
    refine cE.mono ?_
    rintro e w5 ⟨rfl, hb5⟩
    have hps5 := HP4.out.below hb5
    obtain ⟨j2, j3, j4, j0, j1⟩ := HPC.out _ _ _ _ _ _ _ _ _ _ _ hps5
    have HOUT : Hid (PlOut w0 w5 bb wb vb ub KK vv i) := flag_out hps5 HI.out.1 HI.out.2.1 HF.out.2.2
    clear hps5 hb5 cE k0 k1 k2 k3 k4
    refine hK.out _ _ ?_ (fun hHeld => ?_)
    · exact ⟨j0, j1, j2⟩
    clear hK K
    refine wpAnyH_take (i := 17) (v := ?_) rfl (by kernel_rfl) (by kernel_rfl) (by kernel_rfl) (fun _ _ _ h => h) (Or.inl ⟨by rfl, ?_⟩) (by first | assumption | trivial) ?_
    rotate_left
    · intro w hSw; go_simp; (try with_reducible rfl)
    refine wpAnyH_done (by kernel_rfl) ?_ _
    clear hHeld j0 j1 j2 j3 j4
    go_wp2_with fail
    go_ret
    exact ⟨rfl, HOUT.out⟩
  have d1 : (WH == 1) = false := by simpa using h1
  by_cases h2 : WH = 2
  · subst h2
    have eg : ∀ args w, (callFunc 27 args).run Tryz.prog w = .ok (.enter 27 args) w := enters_of Tryz.func27 (by kernel_rfl) rfl
    have hPl : PB < w1.heap.size := World.block_lt_of_cell? _ _ p2
    have cB := exp_prog HP1.out HI.out.1 27 [.pointer (some ⟨PB, 0, none⟩)] (holdsB NN) HG.out.1 eg (fun x _ W hW => holds1_is PB NN x.uid W ((hW.cell (p := ⟨PB, _, none⟩) hPl).trans p2))
    clear HP1
    go_wp2_with fail
    refine cB.mono ?_
    clear cB
    rintro e w3 ⟨ov, lv3, rfl, hno, hps3⟩
    obtain ⟨g3, g4, g5, g1, g2⟩ := HPC.out _ _ _ _ _ _ _ _ _ _ _ hps3
    have hPl3 : PB < w3.heap.size := World.block_lt_of_cell? _ _ g2
    have cR := exp_doc hps3 HI.out.1 27 [.pointer (some ⟨PB, 0, none⟩)] (holdsB NN) eg (fun x _ W hW => holds1_is PB NN x.uid W ((hW.cell (p := ⟨PB, _, none⟩) hPl3).trans g2))
    obtain ⟨oa, oc, hov⟩ := nown_form hno
    have HNO : Hid (NOwn w3 0 ov (went (holdsB NN) l)) := hno
    clear hps3 hno
    subst hov
    go_wp2_with fail
    refine cR.mono ?_
    clear cR
    rintro e w4 ⟨ov2, lw4, rfl, hno2, hkp, hps4⟩
    obtain ⟨oa2, oc2, hov2⟩ := nown_form hno2
    have cE := same_ints _ _ _ w4 (hkp _ _ HNO.out).rd hno2.rd (by have := went_le (holdsB NN) l; have := HI.out.1.len; omega)
    have HP4 : Hid _ := hps4
    clear hno2 hkp hps4 HNO
    subst hov2
    go_wp2_with fail
    refine cE.mono ?_
    clear cE
    rintro e w5 ⟨rfl, hb5⟩
    have HOUT : Hid (PlOut w0 w5 bb wb vb ub KK vv i) := ⟨_, _, _, _, _, _, _, (HP4.out.below hb5).tail, pinv_stay HI.out.1 _, vinv_stay HI.out.2.1 _⟩
    clear hb5 HP4
    go_wp2_with fail
    go_ret
    exact ⟨rfl, HOUT.out⟩
  have d2 : (WH == 2) = false := by simpa using h2
  by_cases h34 : WH = 3 ∨ WH = 4
  · -- Look
    obtain ⟨la, lm, lc, hlv⟩ := HP1.out.lts.form
    obtain ⟨ra, rm, rc, hlw⟩ := HP1.out.rbox.2.form
    subst hlv
    subst hlw
    have HV2 : Hid (S.length ≤ 200 ∧ ∀ s ∈ S, s.flags.length ≤ 1000) := ⟨by have := HI.out.2.1.len; have := HI.out.2.2; omega, HI.out.2.1.flags⟩
    have HPD : Hid (∀ (W : World) (S1 S2 : List Sg) (sv uv : Value), PS w0 W bb wb vb ub ((PB, #[.int .i64 WH, .int .i64 UI, .int .i64 NN, .slice fa FL fc, .string TX, .bool LG]) :: KK) 37 vv n n l l S1 S2 (.slice la lm lc) (.slice ra rm rc) sv uv → W.cell? ⟨PB, 0, none⟩ = some (.int .i64 WH) ∧ W.cell? ⟨bb, 0, none⟩ = some (.int .i64 vv) ∧ W.cell? ⟨bb, 1, none⟩ = some (.int .i64 n) ∧ W.cell? ⟨bb, 2, none⟩ = some (.slice la lm lc) ∧ W.cell? ⟨wb, 0, none⟩ = some (.int .i64 vv) ∧ W.cell? ⟨wb, 1, none⟩ = some (.int .i64 n) ∧ W.cell? ⟨wb, 2, none⟩ = some (.slice ra rm rc)) := fun W _ _ _ _ hW => by
      have hp := hW.post PB _ List.mem_cons_self
      exact ⟨rd_cell hp rfl, rd_cell hW.box rfl, rd_cell hW.box rfl, rd_cell hW.box rfl, rd_cell hW.rbox.1 rfl, rd_cell hW.rbox.1 rfl, rd_cell hW.rbox.1 rfl⟩
    obtain ⟨q4, q5, q6, q7, q8, q9, qx⟩ := HPD.out _ _ _ _ _ HP1.out
    obtain ⟨WD, hWD⟩ : ∃ W, w1.drew = W := ⟨_, rfl⟩
    have hpsD := HP1.out.below (w' := WD) (by rw [← hWD]; exact (Below.refl _ _).drew)
    obtain ⟨GO, hGO⟩ : ∃ b, decide (WH = 3) = b := ⟨_, rfl⟩
    have cB := look_prog hpsD HI.out.1 HV2.out.1 HV2.out.2 GO
    clear hpsD HP1 p0 p1 p2 p3 p4 p5
    rcases h34 with h3 | h4
    · subst h3
      have hG : GO = true := by rw [← hGO]; rfl
      subst hG
      clear hGO
      go_upto_region 16 with fail
      refine wp_region_held_drew (S := fun W => W.cell? ⟨PB, 0, none⟩ = some (.int .i64 3) ∧ (W.cell? ⟨bb, 0, none⟩ = some (.int .i64 vv) ∧ W.cell? ⟨bb, 1, none⟩ = some (.int .i64 n) ∧ W.cell? ⟨bb, 2, none⟩ = some (.slice la lm lc)) ∧ W.cell? ⟨wb, 0, none⟩ = some (.int .i64 vv) ∧ W.cell? ⟨wb, 1, none⟩ = some (.int .i64 n) ∧ W.cell? ⟨wb, 2, none⟩ = some (.slice ra rm rc)) (by kernel_rfl) ?_ (fun hHeld => ?_)
      · exact ⟨by simpa using q4, ⟨by simpa using q5, by simpa using q6, by simpa using q7⟩, by simpa using q8, by simpa using q9, by simpa using qx⟩
      rw [hWD] at hHeld ⊢
      refine wpAnyH_take (i := 0) (v := ?_) rfl (by kernel_rfl) (by kernel_rfl) (by kernel_rfl) (fun _ _ _ h => h) (Or.inl ⟨by rfl, ?_⟩) (by first | assumption | trivial) ?_
      rotate_left
      · intro w hSw; go_simp; (try with_reducible rfl)
      change wpAnyH _ _ _ _ _ _ _ (Act.put _ (some 92) _) _; simp only [Act.put, List.setIfInBounds_toArray, List.set_cons_zero, List.set_cons_succ]
      refine wpAnyH_take (i := 1) (v := ?_) rfl (by kernel_rfl) (by kernel_rfl) (by kernel_rfl) (fun _ _ _ h => h) (Or.inl ⟨by rfl, ?_⟩) (by first | assumption | trivial) ?_
      rotate_left
      · intro w hSw; go_simp; (try with_reducible rfl)
      change wpAnyH _ _ _ _ _ _ _ (Act.put _ (some 93) _) _; simp only [Act.put, List.setIfInBounds_toArray, List.set_cons_zero, List.set_cons_succ]
      refine wpAnyH_take (i := 2) (v := ?_) rfl (by kernel_rfl) (by kernel_rfl) (by kernel_rfl) (fun _ _ _ h => h) (Or.inl ⟨by rfl, ?_⟩) (by first | assumption | trivial) ?_
      rotate_left
      · intro w hSw; go_simp; (try with_reducible rfl)
      change wpAnyH _ _ _ _ _ _ _ (Act.put _ (some 94) _) _; simp only [Act.put, List.setIfInBounds_toArray, List.set_cons_zero, List.set_cons_succ]
      refine wpAnyH_take (i := 3) (v := ?_) rfl (by kernel_rfl) (by kernel_rfl) (by kernel_rfl) (fun _ _ _ h => h) (Or.inl ⟨by rfl, ?_⟩) (by first | assumption | trivial) ?_
      rotate_left
      · intro w hSw; go_simp; (try with_reducible rfl)
      change wpAnyH _ _ _ _ _ _ _ (Act.put _ (some 95) _) _; simp only [Act.put, List.setIfInBounds_toArray, List.set_cons_zero, List.set_cons_succ]
      refine wpAnyH_take (i := 4) (v := ?_) rfl (by kernel_rfl) (by kernel_rfl) (by kernel_rfl) (fun _ _ _ h => h) (Or.inl ⟨by rfl, ?_⟩) (by first | assumption | trivial) ?_
      rotate_left
      · intro w hSw; go_simp; (try with_reducible rfl)
      change wpAnyH _ _ _ _ _ _ _ (Act.put _ (some 96) _) _; simp only [Act.put, List.setIfInBounds_toArray, List.set_cons_zero, List.set_cons_succ]
      refine wpAnyH_take (i := 5) (v := ?_) rfl (by kernel_rfl) (by kernel_rfl) (by kernel_rfl) (fun _ _ _ h => h) (Or.inl ⟨by rfl, ?_⟩) (by first | assumption | trivial) ?_
      rotate_left
      · intro w hSw; go_simp; (try with_reducible rfl)
      change wpAnyH _ _ _ _ _ _ _ (Act.put _ (some 97) _) _; simp only [Act.put, List.setIfInBounds_toArray, List.set_cons_zero, List.set_cons_succ]
      refine wpAnyH_take (i := 6) (v := ?_) rfl (by kernel_rfl) (by kernel_rfl) (by kernel_rfl) (fun _ _ _ h => h) (Or.inl ⟨by rfl, ?_⟩) (by first | assumption | trivial) ?_
      rotate_left
      · intro w hSw; go_simp; (try with_reducible rfl)
      change wpAnyH _ _ _ _ _ _ _ (Act.put _ (some 98) _) _; simp only [Act.put, List.setIfInBounds_toArray, List.set_cons_zero, List.set_cons_succ]
      refine wpAnyH_take (i := 8) (v := ?_) rfl (by kernel_rfl) (by kernel_rfl) (by kernel_rfl) (fun _ _ _ h => h) (Or.inl ⟨by rfl, ?_⟩) (by first | assumption | trivial) ?_
      rotate_left
      · intro w hSw; go_simp; (try with_reducible rfl)
      change wpAnyH _ _ _ _ _ _ _ (Act.put _ (some 100) _) _; simp only [Act.put, List.setIfInBounds_toArray, List.set_cons_zero, List.set_cons_succ]
      refine wpAnyH_take (i := 9) (v := ?_) rfl (by kernel_rfl) (by kernel_rfl) (by kernel_rfl) (fun _ _ _ h => h) (Or.inl ⟨by rfl, ?_⟩) (by first | assumption | trivial) ?_
      rotate_left
      · intro w hSw; go_simp; (try with_reducible rfl)
      change wpAnyH _ _ _ _ _ _ _ (Act.put _ (some 101) _) _; simp only [Act.put, List.setIfInBounds_toArray, List.set_cons_zero, List.set_cons_succ]
      refine wpAnyH_take (i := 10) (v := ?_) rfl (by kernel_rfl) (by kernel_rfl) (by kernel_rfl) (fun _ _ _ h => h) (Or.inl ⟨by rfl, ?_⟩) (by first | assumption | trivial) ?_
      rotate_left
      · intro w hSw; go_simp; (try with_reducible rfl)
      change wpAnyH _ _ _ _ _ _ _ (Act.put _ (some 102) _) _; simp only [Act.put, List.setIfInBounds_toArray, List.set_cons_zero, List.set_cons_succ]
      refine wpAnyH_take (i := 11) (v := ?_) rfl (by kernel_rfl) (by kernel_rfl) (by kernel_rfl) (fun _ _ _ h => h) (Or.inl ⟨by rfl, ?_⟩) (by first | assumption | trivial) ?_
      rotate_left
      · intro w hSw; go_simp; (try with_reducible rfl)
      change wpAnyH _ _ _ _ _ _ _ (Act.put _ (some 103) _) _; simp only [Act.put, List.setIfInBounds_toArray, List.set_cons_zero, List.set_cons_succ]
      refine wpAnyH_take (i := 12) (v := ?_) rfl (by kernel_rfl) (by kernel_rfl) (by kernel_rfl) (fun _ _ _ h => h) (Or.inl ⟨by rfl, ?_⟩) (by first | assumption | trivial) ?_
      rotate_left
      · intro w hSw; go_simp; (try with_reducible rfl)
      change wpAnyH _ _ _ _ _ _ _ (Act.put _ (some 104) _) _; simp only [Act.put, List.setIfInBounds_toArray, List.set_cons_zero, List.set_cons_succ]
      refine wpAnyH_take (i := 13) (v := ?_) rfl (by kernel_rfl) (by kernel_rfl) (by kernel_rfl) (fun _ _ _ h => h) (Or.inl ⟨by rfl, ?_⟩) (by first | assumption | trivial) ?_
      rotate_left
      · intro w hSw; go_simp; (try with_reducible rfl)
      change wpAnyH _ _ _ _ _ _ _ (Act.put _ (some 105) _) _; simp only [Act.put, List.setIfInBounds_toArray, List.set_cons_zero, List.set_cons_succ]
      refine wpAnyH_take (i := 14) (v := ?_) rfl (by kernel_rfl) (by kernel_rfl) (by kernel_rfl) (fun _ _ _ h => h) (Or.inl ⟨by rfl, ?_⟩) (by first | assumption | trivial) ?_
      rotate_left
      · intro w hSw; go_simp; (try with_reducible rfl)
      change wpAnyH _ _ _ _ _ _ _ (Act.put _ (some 106) _) _; simp only [Act.put, List.setIfInBounds_toArray, List.set_cons_zero, List.set_cons_succ]
      refine wpAnyH_ready (rs := [7]) (by kernel_rfl) (by simp) ?_
      refine AllReadyH.cons rfl (fun K hK => ?_) AllReadyH.nil
      go_simp
      refine cB.mono ?_
      rintro e w3 ⟨ov, sv3, rfl, hnr, -, hps3⟩
      obtain ⟨oa, oc, hov⟩ := nr_form hnr
      have HP3 : Hid _ := hps3
      have HNR : Hid _ := hnr
      obtain ⟨g4, g5, g6, g7, g8, g9, gx⟩ := HPD.out _ _ _ _ _ hps3
      clear hps3 hnr cB
      subst hov
      refine hK.out _ _ ?_ (fun hHeld => ?_)
      · exact ⟨g4, ⟨g5, g6, g7⟩, g8, g9, gx⟩
      clear hK K
      refine wpAnyH_ready (rs := [15]) (by kernel_rfl) (by simp) ?_
      refine AllReadyH.cons rfl (fun K hK => ?_) AllReadyH.nil
      go_simp
      have cR := look_doc HP3.out HI.out.1 HV2.out.1 HV2.out.2 true
      refine cR.mono ?_
      rintro e w4 ⟨ov2, uv4, rfl, hnr2, hkp, hps4⟩
      obtain ⟨pa, pc2, hov2⟩ := nr_form hnr2
      have hnr4 := hkp _ _ HNR.out
      have HP4 : Hid _ := hps4
      obtain ⟨k4, k5, k6, k7, k8, k9, kx⟩ := HPD.out _ _ _ _ _ hps4
      have cE := same_news _ _ _ w4 hnr4.rd hnr2.rd (look_many HV2.out.1 HI.out.1) (look_fl HV2.out.2 HI.out.1)
      clear hps4 cR hnr2 hkp hnr4 HNR HP3 g4 g5 g6 g7 g8 g9 gx
      subst hov2
      refine hK.out _ _ ?_ (fun hHeld => ?_)
      · exact ⟨k4, ⟨k5, k6, k7⟩, k8, k9, kx⟩
      clear hK K
      refine wpAnyH_ready (rs := [16]) (by kernel_rfl) (by simp) ?_
      refine AllReadyH.cons rfl (fun K hK => ?_) AllReadyH.nil
      go_simp
      refine cE.mono ?_
      rintro e w5 ⟨rfl, hb5⟩
      have hps5 := HP4.out.below hb5
      obtain ⟨j4, j5, j6, j7, j8, j9, jx⟩ := HPD.out _ _ _ _ _ hps5
      have HOUT : Hid (PlOut w0 w5 bb wb vb ub KK vv i) := look_out hps5 HI.out.1 HI.out.2.1
      clear hps5 hb5 cE k4 k5 k6 k7 k8 k9 kx
      refine hK.out _ _ ?_ (fun hHeld => ?_)
      · exact ⟨j4, ⟨j5, j6, j7⟩, j8, j9, jx⟩
      clear hK K
      refine wpAnyH_take (i := 17) (v := ?_) rfl (by kernel_rfl) (by kernel_rfl) (by kernel_rfl) (fun _ _ _ h => h) (Or.inl ⟨by rfl, ?_⟩) (by first | assumption | trivial) ?_
      rotate_left
      · intro w hSw; go_simp; (try with_reducible rfl)
      refine wpAnyH_done (by kernel_rfl) ?_ _
      clear hHeld j4 j5 j6 j7 j8 j9 jx
      go_wp2_with fail
      go_ret
      exact ⟨rfl, HOUT.out⟩
    · subst h4
      have hG : GO = false := by rw [← hGO]; rfl
      subst hG
      clear hGO
      go_upto_region 16 with fail
      refine wp_region_held_drew (S := fun W => W.cell? ⟨PB, 0, none⟩ = some (.int .i64 4) ∧ (W.cell? ⟨bb, 0, none⟩ = some (.int .i64 vv) ∧ W.cell? ⟨bb, 1, none⟩ = some (.int .i64 n) ∧ W.cell? ⟨bb, 2, none⟩ = some (.slice la lm lc)) ∧ W.cell? ⟨wb, 0, none⟩ = some (.int .i64 vv) ∧ W.cell? ⟨wb, 1, none⟩ = some (.int .i64 n) ∧ W.cell? ⟨wb, 2, none⟩ = some (.slice ra rm rc)) (by kernel_rfl) ?_ (fun hHeld => ?_)
      · exact ⟨by simpa using q4, ⟨by simpa using q5, by simpa using q6, by simpa using q7⟩, by simpa using q8, by simpa using q9, by simpa using qx⟩
      rw [hWD] at hHeld ⊢
      refine wpAnyH_take (i := 0) (v := ?_) rfl (by kernel_rfl) (by kernel_rfl) (by kernel_rfl) (fun _ _ _ h => h) (Or.inl ⟨by rfl, ?_⟩) (by first | assumption | trivial) ?_
      rotate_left
      · intro w hSw; go_simp; (try with_reducible rfl)
      change wpAnyH _ _ _ _ _ _ _ (Act.put _ (some 92) _) _; simp only [Act.put, List.setIfInBounds_toArray, List.set_cons_zero, List.set_cons_succ]
      refine wpAnyH_take (i := 1) (v := ?_) rfl (by kernel_rfl) (by kernel_rfl) (by kernel_rfl) (fun _ _ _ h => h) (Or.inl ⟨by rfl, ?_⟩) (by first | assumption | trivial) ?_
      rotate_left
      · intro w hSw; go_simp; (try with_reducible rfl)
      change wpAnyH _ _ _ _ _ _ _ (Act.put _ (some 93) _) _; simp only [Act.put, List.setIfInBounds_toArray, List.set_cons_zero, List.set_cons_succ]
      refine wpAnyH_take (i := 2) (v := ?_) rfl (by kernel_rfl) (by kernel_rfl) (by kernel_rfl) (fun _ _ _ h => h) (Or.inl ⟨by rfl, ?_⟩) (by first | assumption | trivial) ?_
      rotate_left
      · intro w hSw; go_simp; (try with_reducible rfl)
      change wpAnyH _ _ _ _ _ _ _ (Act.put _ (some 94) _) _; simp only [Act.put, List.setIfInBounds_toArray, List.set_cons_zero, List.set_cons_succ]
      refine wpAnyH_take (i := 3) (v := ?_) rfl (by kernel_rfl) (by kernel_rfl) (by kernel_rfl) (fun _ _ _ h => h) (Or.inl ⟨by rfl, ?_⟩) (by first | assumption | trivial) ?_
      rotate_left
      · intro w hSw; go_simp; (try with_reducible rfl)
      change wpAnyH _ _ _ _ _ _ _ (Act.put _ (some 95) _) _; simp only [Act.put, List.setIfInBounds_toArray, List.set_cons_zero, List.set_cons_succ]
      refine wpAnyH_take (i := 4) (v := ?_) rfl (by kernel_rfl) (by kernel_rfl) (by kernel_rfl) (fun _ _ _ h => h) (Or.inl ⟨by rfl, ?_⟩) (by first | assumption | trivial) ?_
      rotate_left
      · intro w hSw; go_simp; (try with_reducible rfl)
      change wpAnyH _ _ _ _ _ _ _ (Act.put _ (some 96) _) _; simp only [Act.put, List.setIfInBounds_toArray, List.set_cons_zero, List.set_cons_succ]
      refine wpAnyH_take (i := 5) (v := ?_) rfl (by kernel_rfl) (by kernel_rfl) (by kernel_rfl) (fun _ _ _ h => h) (Or.inl ⟨by rfl, ?_⟩) (by first | assumption | trivial) ?_
      rotate_left
      · intro w hSw; go_simp; (try with_reducible rfl)
      change wpAnyH _ _ _ _ _ _ _ (Act.put _ (some 97) _) _; simp only [Act.put, List.setIfInBounds_toArray, List.set_cons_zero, List.set_cons_succ]
      refine wpAnyH_take (i := 6) (v := ?_) rfl (by kernel_rfl) (by kernel_rfl) (by kernel_rfl) (fun _ _ _ h => h) (Or.inl ⟨by rfl, ?_⟩) (by first | assumption | trivial) ?_
      rotate_left
      · intro w hSw; go_simp; (try with_reducible rfl)
      change wpAnyH _ _ _ _ _ _ _ (Act.put _ (some 98) _) _; simp only [Act.put, List.setIfInBounds_toArray, List.set_cons_zero, List.set_cons_succ]
      refine wpAnyH_take (i := 8) (v := ?_) rfl (by kernel_rfl) (by kernel_rfl) (by kernel_rfl) (fun _ _ _ h => h) (Or.inl ⟨by rfl, ?_⟩) (by first | assumption | trivial) ?_
      rotate_left
      · intro w hSw; go_simp; (try with_reducible rfl)
      change wpAnyH _ _ _ _ _ _ _ (Act.put _ (some 100) _) _; simp only [Act.put, List.setIfInBounds_toArray, List.set_cons_zero, List.set_cons_succ]
      refine wpAnyH_take (i := 9) (v := ?_) rfl (by kernel_rfl) (by kernel_rfl) (by kernel_rfl) (fun _ _ _ h => h) (Or.inl ⟨by rfl, ?_⟩) (by first | assumption | trivial) ?_
      rotate_left
      · intro w hSw; go_simp; (try with_reducible rfl)
      change wpAnyH _ _ _ _ _ _ _ (Act.put _ (some 101) _) _; simp only [Act.put, List.setIfInBounds_toArray, List.set_cons_zero, List.set_cons_succ]
      refine wpAnyH_take (i := 10) (v := ?_) rfl (by kernel_rfl) (by kernel_rfl) (by kernel_rfl) (fun _ _ _ h => h) (Or.inl ⟨by rfl, ?_⟩) (by first | assumption | trivial) ?_
      rotate_left
      · intro w hSw; go_simp; (try with_reducible rfl)
      change wpAnyH _ _ _ _ _ _ _ (Act.put _ (some 102) _) _; simp only [Act.put, List.setIfInBounds_toArray, List.set_cons_zero, List.set_cons_succ]
      refine wpAnyH_take (i := 11) (v := ?_) rfl (by kernel_rfl) (by kernel_rfl) (by kernel_rfl) (fun _ _ _ h => h) (Or.inl ⟨by rfl, ?_⟩) (by first | assumption | trivial) ?_
      rotate_left
      · intro w hSw; go_simp; (try with_reducible rfl)
      change wpAnyH _ _ _ _ _ _ _ (Act.put _ (some 103) _) _; simp only [Act.put, List.setIfInBounds_toArray, List.set_cons_zero, List.set_cons_succ]
      refine wpAnyH_take (i := 12) (v := ?_) rfl (by kernel_rfl) (by kernel_rfl) (by kernel_rfl) (fun _ _ _ h => h) (Or.inl ⟨by rfl, ?_⟩) (by first | assumption | trivial) ?_
      rotate_left
      · intro w hSw; go_simp; (try with_reducible rfl)
      change wpAnyH _ _ _ _ _ _ _ (Act.put _ (some 104) _) _; simp only [Act.put, List.setIfInBounds_toArray, List.set_cons_zero, List.set_cons_succ]
      refine wpAnyH_take (i := 13) (v := ?_) rfl (by kernel_rfl) (by kernel_rfl) (by kernel_rfl) (fun _ _ _ h => h) (Or.inl ⟨by rfl, ?_⟩) (by first | assumption | trivial) ?_
      rotate_left
      · intro w hSw; go_simp; (try with_reducible rfl)
      change wpAnyH _ _ _ _ _ _ _ (Act.put _ (some 105) _) _; simp only [Act.put, List.setIfInBounds_toArray, List.set_cons_zero, List.set_cons_succ]
      refine wpAnyH_take (i := 14) (v := ?_) rfl (by kernel_rfl) (by kernel_rfl) (by kernel_rfl) (fun _ _ _ h => h) (Or.inl ⟨by rfl, ?_⟩) (by first | assumption | trivial) ?_
      rotate_left
      · intro w hSw; go_simp; (try with_reducible rfl)
      change wpAnyH _ _ _ _ _ _ _ (Act.put _ (some 106) _) _; simp only [Act.put, List.setIfInBounds_toArray, List.set_cons_zero, List.set_cons_succ]
      refine wpAnyH_ready (rs := [7]) (by kernel_rfl) (by simp) ?_
      refine AllReadyH.cons rfl (fun K hK => ?_) AllReadyH.nil
      go_simp
      refine cB.mono ?_
      rintro e w3 ⟨ov, sv3, rfl, hnr, -, hps3⟩
      obtain ⟨oa, oc, hov⟩ := nr_form hnr
      have HP3 : Hid _ := hps3
      have HNR : Hid _ := hnr
      obtain ⟨g4, g5, g6, g7, g8, g9, gx⟩ := HPD.out _ _ _ _ _ hps3
      clear hps3 hnr cB
      subst hov
      refine hK.out _ _ ?_ (fun hHeld => ?_)
      · exact ⟨g4, ⟨g5, g6, g7⟩, g8, g9, gx⟩
      clear hK K
      refine wpAnyH_ready (rs := [15]) (by kernel_rfl) (by simp) ?_
      refine AllReadyH.cons rfl (fun K hK => ?_) AllReadyH.nil
      go_simp
      have cR := look_doc HP3.out HI.out.1 HV2.out.1 HV2.out.2 false
      refine cR.mono ?_
      rintro e w4 ⟨ov2, uv4, rfl, hnr2, hkp, hps4⟩
      obtain ⟨pa, pc2, hov2⟩ := nr_form hnr2
      have hnr4 := hkp _ _ HNR.out
      have HP4 : Hid _ := hps4
      obtain ⟨k4, k5, k6, k7, k8, k9, kx⟩ := HPD.out _ _ _ _ _ hps4
      have cE := same_news _ _ _ w4 hnr4.rd hnr2.rd (look_many HV2.out.1 HI.out.1) (look_fl HV2.out.2 HI.out.1)
      clear hps4 cR hnr2 hkp hnr4 HNR HP3 g4 g5 g6 g7 g8 g9 gx
      subst hov2
      refine hK.out _ _ ?_ (fun hHeld => ?_)
      · exact ⟨k4, ⟨k5, k6, k7⟩, k8, k9, kx⟩
      clear hK K
      refine wpAnyH_ready (rs := [16]) (by kernel_rfl) (by simp) ?_
      refine AllReadyH.cons rfl (fun K hK => ?_) AllReadyH.nil
      go_simp
      refine cE.mono ?_
      rintro e w5 ⟨rfl, hb5⟩
      have hps5 := HP4.out.below hb5
      obtain ⟨j4, j5, j6, j7, j8, j9, jx⟩ := HPD.out _ _ _ _ _ hps5
      have HOUT : Hid (PlOut w0 w5 bb wb vb ub KK vv i) := look_out hps5 HI.out.1 HI.out.2.1
      clear hps5 hb5 cE k4 k5 k6 k7 k8 k9 kx
      refine hK.out _ _ ?_ (fun hHeld => ?_)
      · exact ⟨j4, ⟨j5, j6, j7⟩, j8, j9, jx⟩
      clear hK K
      refine wpAnyH_take (i := 17) (v := ?_) rfl (by kernel_rfl) (by kernel_rfl) (by kernel_rfl) (fun _ _ _ h => h) (Or.inl ⟨by rfl, ?_⟩) (by first | assumption | trivial) ?_
      rotate_left
      · intro w hSw; go_simp; (try with_reducible rfl)
      refine wpAnyH_done (by kernel_rfl) ?_ _
      clear hHeld j4 j5 j6 j7 j8 j9 jx
      go_wp2_with fail
      go_ret
      exact ⟨rfl, HOUT.out⟩
  have d3 : (WH == 3) = false := by simpa using fun e => h34 (Or.inl e)
  have d4 : (WH == 4) = false := by simpa using fun e => h34 (Or.inr e)
  by_cases h5 : WH = 5
  · subst h5
    have HS2 : Hid (S.length ≤ 200) := by show S.length ≤ 200; have := HI.out.2.1.len; have := HI.out.2.2; omega
    have cB := know_prog HP1.out HI.out.2.1.rise HS2.out UI (.slice fa FL fc) F HF.out.1 HF.out.2.1
    clear HP1
    go_wp2_with fail
    refine cB.mono ?_
    clear cB
    rintro e w3 ⟨sv3, rfl, hps3⟩
    obtain ⟨g3, g4, g5, g1, g2⟩ := HPC.out _ _ _ _ _ _ _ _ _ _ _ hps3
    have cR := know_doc hps3 HS2.out UI (.slice fa FL fc) F HF.out.1
    clear hps3
    go_wp2_with fail
    refine cR.mono ?_
    clear cR
    rintro e w4 ⟨rfl, hps4⟩
    have HOUT : Hid (PlOut w0 w4 bb wb vb ub KK vv i) := ⟨_, _, _, _, _, _, _, hps4.tail, HI.out.1, vinv_know HI.out.2.1 _ _ (by have := HF.out.2.1; omega)⟩
    clear hps4
    go_wp2_with fail
    go_ret
    exact ⟨rfl, HOUT.out⟩
  have d5 : (WH == 5) = false := by simpa using h5
  have HOUT : Hid (PlOut w0 w1 bb wb vb ub KK vv i) := ⟨_, _, _, _, _, _, _, HP1.out.tail, HI.out.1, HI.out.2.1.more⟩
  clear HP1
  go_wp2_with fail
  go_ret
  exact ⟨rfl, HOUT.out⟩
end Go.Proofs.YtgpcnacpefficaaGreatDoor
