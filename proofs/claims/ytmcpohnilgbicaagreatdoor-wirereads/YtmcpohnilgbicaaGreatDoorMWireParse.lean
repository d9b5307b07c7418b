/-
  What wire.Parse does: what is thrown is caught, and told.
-/
import Derived.Test.YtmcpohnilgbicaaGreatDoorWireCommAll
import Derived.Recover
import Derived.Defers
namespace Go.Proofs
theorem Tryz.assertAt (v : Value) (w : World) : (Instr.typeAssert (.iface 86 v) 20 86 true).run Tryz.prog w = .ok (.tuple #[v, .bool true]) w := by kernel_rfl
end Go.Proofs
namespace Go.Proofs.YtmcpohnilgbicaaGreatDoor
open Go.RowKit Go.Proofs.Aid Go.Proofs.Hd

theorem told_wnil (w : World) : Calls Tryz.prog 29 #[.nilIface] w fun e w' => e = .returned .nilIface ∧ w' = w := by
  go_enter Tryz.func29, Tryz.ntmps29
  go_wp2_with fail
  go_ret
  exact ⟨rfl, rfl⟩
set_option maxHeartbeats 1000000 in
theorem told_wat (N : Nat) (w : World) : Calls Tryz.prog 29 #[.iface 86 (.pointer (some ⟨N, 0, none⟩))] w fun e w' => e = .returned (.iface 86 (.pointer (some ⟨N, 0, none⟩))) ∧ w' = w := by
  have ha := Tryz.assertAt (.pointer (some ⟨N, 0, none⟩))
  go_enter Tryz.func29, Tryz.ntmps29
  go_wp2_with fail
  go_ret
  exact ⟨rfl, rfl⟩
theorem caught_panic (eb N : Nat) (older : List PanicEntry) (v0 : Value) (w : World) (hc : w.cell? ⟨eb, 0, none⟩ = some v0) (hz : w.frozen? ⟨eb, 0, none⟩ = false) :
    CallsD Tryz.prog 28 #[.pointer (some ⟨eb, 0, none⟩)] (.panicking ({ v := .iface 86 (.pointer (some ⟨N, 0, none⟩)), recovered := false } :: older)) w fun e u' w' =>
      e = .returned (.tuple #[]) ∧ u' = .panicking ({ v := .iface 86 (.pointer (some ⟨N, 0, none⟩)), recovered := true } :: older) ∧ w' = w.setCell ⟨eb, 0, none⟩ (.iface 86 (.pointer (some ⟨N, 0, none⟩))) := by
  refine callsD_of_wpS Tryz.func28 rfl fun c₀ cs hu => ?_
  apply wpS_region
  simp [wpOpsS, go_sem, recoverD, hu, Tryz.ntmps28]
  refine (told_wat N w).mono ?_
  rintro e w1 ⟨rfl, rfl⟩
  simp [go_sem, hc, hz, bodyPostS, results, Tryz.results28]
theorem caught_none (eb : Nat) (v0 : Value) (w : World) (hc : w.cell? ⟨eb, 0, none⟩ = some v0) (hz : w.frozen? ⟨eb, 0, none⟩ = false) :
    CallsD Tryz.prog 28 #[.pointer (some ⟨eb, 0, none⟩)] .returning w fun e u' w' =>
      e = .returned (.tuple #[]) ∧ u' = .returning ∧ w' = w.setCell ⟨eb, 0, none⟩ .nilIface := by
  refine callsD_of_wpS Tryz.func28 rfl fun c₀ cs hu => ?_
  apply wpS_region
  simp [wpOpsS, go_sem, recoverD, hu, Tryz.ntmps28]
  refine (told_wnil w).mono ?_
  rintro e w1 ⟨rfl, rfl⟩
  cases c₀
  simp_all [go_sem, bodyPostS, results, Tryz.results28]
/-- The error that a reading tells. -/
def ErrAt (w : World) (v : Value) (n : Int) (p : Nat) : Prop := ∃ N, v = .iface 86 (.pointer (some ⟨N, 0, none⟩)) ∧ AtIs w N n p
/-- What Parse leaves. -/
def OutP (w : World) : Wd Cmd → Ending → World → Prop
  | .bad n p, e, w' => ∃ v, e = .returned (.tuple #[.agg #[.string ⟨#[]⟩, .string ⟨#[]⟩, .slice none 0 0], v]) ∧ ErrAt w' v n p ∧ Below w.heap.size w w'
  | .ok k _ _, e, w' => ∃ (tb nb : ByteArray) (v : Value), e = .returned (.tuple #[.agg #[.string tb, .string nb, v], .nilIface]) ∧ tb.data.toList = k.tag ∧ nb.data.toList = k.name ∧ Agw w' (fun q => w.heap.size ≤ q) k.args v ∧ Below w.heap.size w w'
theorem ends_of {s : Tx} (h : Lib.hasSuffix s [13, 10] = true) : Ends s := by
  unfold Lib.hasSuffix at h
  obtain ⟨t, ht⟩ := List.isSuffixOf_iff_suffix.1 h
  exact ⟨t, ht.symm⟩
set_option maxHeartbeats 4000000 in
set_option maxRecDepth 100000 in
theorem wparse_is (s : ByteArray) (m : Int) (w : World) (hs : s.size ≤ 1000000) (hm : w.cell? ⟨1, 0, none⟩ = some (.int .i64 m)) (hg : NumAt w) :
    Calls Tryz.prog 8 #[.string s] w fun e w' => OutP w (parseW s.data.toList) e w' := by
  have hmf : ∀ (fn : Fn) (first cap : Array Value) (w : World), (Instr.makeFunc fn first cap).run Tryz.prog w = .ok (.func fn first cap) w := fun _ _ _ _ => rfl
  obtain ⟨T, hT⟩ : ∃ T, parseW s.data.toList = T := ⟨_, rfl⟩
  rw [hT]
  unfold parseW at hT
  have cS : ∀ W, Calls Tryz.prog 21 #[.string s, .string ⟨#[13, 10]⟩] W fun e w' => e = .returned (.bool (Lib.hasSuffix s.data.toList [13, 10])) ∧ w' = W := fun W => Tryz.strings_HasSuffix s ⟨#[13, 10]⟩ W (by omega)
  have HT : Hid ((if Lib.hasSuffix s.data.toList [13, 10] = true then commandW s.data.toList else .bad 3 0) = T) := hT
  clear hT
  have HG : Hid (∀ W, Below w.heap.size w W → NumAt W ∧ W.cell? ⟨1, 0, none⟩ = some (.int .i64 m)) := fun W h => ⟨hg.below h, (h.cell (World.block_lt_of_cell? _ _ hm)).trans hm⟩
  have hmx := World.block_lt_of_cell? _ _ hm
  clear hg hm
  obtain ⟨W3, hW3⟩ : ∃ W, ((w.alloc (.cells #[.string ⟨#[]⟩, .string ⟨#[]⟩, .slice none 0 0] 32)).alloc (.cells #[.nilIface] 26)).alloc (.cells #[.string s, .int .i64 0, .int .i64 0] 64) = W := ⟨_, rfl⟩
  have hb3 : Below w.heap.size w W3 := by
    rw [← hW3]
    exact (((Below.refl _ _).alloc (Nat.le_refl _) _).alloc (by simp) _).alloc (by simp; omega) _
  have hz3 : W3.heap.size = w.heap.size + 3 := by rw [← hW3]; simp
  have hr3 : RdW W3 (w.heap.size + 1 + 1) s 0 0 := by
    rw [← hW3]
    have := heap_alloc_new ((w.alloc (.cells #[.string ⟨#[]⟩, .string ⟨#[]⟩, .slice none 0 0] 32)).alloc (.cells #[.nilIface] 26)) (.cells #[.string s, .int .i64 0, .int .i64 0] 64)
    have hz : ((w.alloc (.cells #[.string ⟨#[]⟩, .string ⟨#[]⟩, .slice none 0 0] 32)).alloc (.cells #[.nilIface] 26)).heap.size = w.heap.size + 1 + 1 := by simp
    rw [hz] at this
    exact this
  have he3 : W3.heap[w.heap.size + 1]? = some (.cells #[.nilIface] 26 (0, 0)) := by
    rw [← hW3, Lib.alloc_old _ _ _ (by simp)]
    have := heap_alloc_new (w.alloc (.cells #[.string ⟨#[]⟩, .string ⟨#[]⟩, .slice none 0 0] 32)) (.cells #[.nilIface] 26)
    have hz : (w.alloc (.cells #[.string ⟨#[]⟩, .string ⟨#[]⟩, .slice none 0 0] 32)).heap.size = w.heap.size + 1 := by simp
    rw [hz] at this
    exact this
  have hc3 : W3.heap[w.heap.size]? = some (.cells #[.string ⟨#[]⟩, .string ⟨#[]⟩, .slice none 0 0] 32 (0, 0)) := by
    rw [← hW3, Lib.alloc_old _ _ _ (by simp; omega), Lib.alloc_old _ _ _ (by simp)]
    exact heap_alloc_new _ _
  have HX : Hid (Below w.heap.size w W3 ∧ W3.heap.size = w.heap.size + 3 ∧ RdW W3 (w.heap.size + 1 + 1) s 0 0 ∧ W3.heap[w.heap.size + 1]? = some (.cells #[.nilIface] 26 (0, 0)) ∧ W3.heap[w.heap.size]? = some (.cells #[.string ⟨#[]⟩, .string ⟨#[]⟩, .slice none 0 0] 32 (0, 0))) := ⟨hb3, hz3, hr3, he3, hc3⟩
  clear hb3 hz3 hr3 he3 hc3
  /- What is thrown is told. -/
  have HP : Hid (∀ (n : Int) (q N : Nat) (w5 : World), W3.heap.size ≤ N → AtIs w5 N n q → But W3.heap.size (w.heap.size + 1 + 1) W3 w5 → ∀ tmps, tmps[2]? = some (.pointer (some ⟨w.heap.size, 0, none⟩)) → tmps[3]? = some (.pointer (some ⟨w.heap.size + 1, 0, none⟩)) →
      Leaves Tryz.prog Tryz.f8 tmps (fun e w' => OutP w (.bad n q) e w') [{ target := .fn (.func 28) #[.pointer (some ⟨w.heap.size + 1, 0, none⟩)], args := #[] }] (.panicking [{ v := .iface 86 (.pointer (some ⟨N, 0, none⟩)), recovered := false }]) w5) := by
    intro n q N w5 hN hA hb5 tmps ht2 ht3
    have hz := HX.out.2.1
    have e5 := (hb5.block (w.heap.size + 1) (by omega) (by omega)).trans HX.out.2.2.2.1
    have c5 := (hb5.block w.heap.size (by omega) (by omega)).trans HX.out.2.2.2.2
    refine leaves_cons (f := 28) (args := #[.pointer (some ⟨w.heap.size + 1, 0, none⟩)]) (by simp) (by simp [go_sem]) ?_
    refine (caught_panic (w.heap.size + 1) N [] .nilIface w5 (rd_cell e5 rfl) (rd_free e5 0)).mono ?_
    rintro e u' w6 ⟨rfl, rfl, rfl⟩
    have e6 := rd_set (i := 0) (.iface 86 (.pointer (some ⟨N, 0, none⟩))) e5
    have c6 := (Below.heap_setCell w5 ⟨w.heap.size + 1, 0, none⟩ (.iface 86 (.pointer (some ⟨N, 0, none⟩))) w.heap.size (show w.heap.size ≠ w.heap.size + 1 by omega)).trans c5
    have r0 := rd_cell (j := 0) e6 rfl
    have k0 := rd_cell (j := 0) c6 rfl
    have k1 := rd_cell (j := 1) c6 rfl
    have k2 := rd_cell (j := 2) c6 rfl
    refine ⟨.tuple #[.agg #[.string ⟨#[]⟩, .string ⟨#[]⟩, .slice none 0 0], .iface 86 (.pointer (some ⟨N, 0, none⟩))], by simp [results, Tryz.results8, go_sem, ht2, ht3, r0, k0, k1, k2], ?_⟩
    refine ⟨_, rfl, ⟨N, rfl, (Below.heap_setCell _ _ _ _ (show N ≠ w.heap.size + 1 by omega)).trans hA⟩, ?_⟩
    exact (HX.out.1.trans ⟨hb5.os, hb5.tape, hb5.output, hb5.size, fun k hk => hb5.block k (by omega) (by omega)⟩).setCell (p := ⟨w.heap.size + 1, 0, none⟩) (by show w.heap.size ≤ w.heap.size + 1; omega) _
  have HW3 : Hid (((w.alloc (.cells #[.string ⟨#[]⟩, .string ⟨#[]⟩, .slice none 0 0] 32)).alloc (.cells #[.nilIface] 26)).alloc (.cells #[.string s, .int .i64 0, .int .i64 0] 64) = W3) := hW3
  clear hW3
  go_enter_defers Tryz.func8, Tryz.ntmps8
  go_wp2_with fail
  refine (cS _).mono ?_
  rintro e w4 ⟨rfl, hq4⟩
  have hw4 : w4 = W3 := hq4.trans HW3.out
  clear hq4
  subst hw4
  clear cS HW3
  cases hsf : Lib.hasSuffix s.data.toList [13, 10] with
  | false =>
    have hT := HT.out
    rw [hsf, if_neg (by simp)] at hT
    subst hT
    have cF := fail_is (w.heap.size + 1 + 1) 0 0 3 s w4 HX.out.2.2.1
    unfold thrownA at cF
    go_wp2_with fail
    refine cF.mono ?_
    rintro e w5 ⟨rfl, ha, hb5⟩
    have HD := HP.out 3 0 w4.heap.size w5 (Nat.le_refl _) ha (to_but hb5)
    have HD : Hid _ := HD
    clear cF ha hb5
    go_wp2_with fail
    exact HD.out _ rfl rfl
  | true =>
    have hT := HT.out
    rw [hsf, if_pos rfl] at hT
    have hz := HX.out.2.1
    have cC := command_is (w.heap.size + 1 + 1) s m w4 HX.out.2.2.1 hs (ends_of hsf) (fun W hW => HG.out W (HX.out.1.trans ⟨hW.os, hW.tape, hW.output, hW.size, fun k hk => hW.block k (by omega) (by omega)⟩))
    rw [hT] at cC
    clear hsf HT
    go_wp2_with fail
    refine cC.mono ?_
    intro e w5 h5
    clear cC
    cases T with
    | bad n q =>
      obtain ⟨N, rfl, hN, hA, hb5⟩ := h5
      have HD := HP.out n q N w5 hN hA hb5
      have HD : Hid _ := HD
      clear hN hA hb5
      unfold thrownA
      go_wp2_with fail
      exact HD.out _ rfl rfl
    | ok k q c =>
      obtain ⟨tb, nb, v, rfl, htb, hnb, hag, hb5⟩ := h5
      have hz5 := hb5.size
      obtain ⟨va, vc, hv⟩ := hag.form
      obtain ⟨VN, hVN⟩ : ∃ n, k.args.length = n := ⟨_, rfl⟩
      rw [hVN] at hv
      subst hv
      have e5 := (hb5.block (w.heap.size + 1) (by omega) (by omega)).trans HX.out.2.2.2.1
      have c5 := (hb5.block w.heap.size (by omega) (by omega)).trans HX.out.2.2.2.2
      obtain ⟨⟨s0, s1, s2⟩, ⟨sf0, sf1, sf2⟩, u0, u1, u2⟩ := three_facts c5 (.string tb) (.string nb) (.slice va VN vc)
      have c6 : (((w5.setCell ⟨w.heap.size, 0, none⟩ (.string tb)).setCell ⟨w.heap.size, 1, none⟩ (.string nb)).setCell ⟨w.heap.size, 2, none⟩ (.slice va VN vc)).heap[w.heap.size]? = some (.cells #[.string tb, .string nb, .slice va VN vc] 32 (0, 0)) := rd_set (i := 2) _ (rd_set (i := 1) _ (rd_set (i := 0) (.string tb) c5))
      have e6 := (three_other w5 (R := w.heap.size) (k := w.heap.size + 1) (by omega) (.string tb) (.string nb) (.slice va VN vc)).trans e5
      have b6 : Below w.heap.size w (((w5.setCell ⟨w.heap.size, 0, none⟩ (.string tb)).setCell ⟨w.heap.size, 1, none⟩ (.string nb)).setCell ⟨w.heap.size, 2, none⟩ (.slice va VN vc)) :=
        ((((HX.out.1.trans ⟨hb5.os, hb5.tape, hb5.output, hb5.size, fun k hk => hb5.block k (by omega) (by omega)⟩).setCell (p := ⟨w.heap.size, 0, none⟩) (Nat.le_refl _) _).setCell (p := ⟨w.heap.size, 1, none⟩) (Nat.le_refl _) _).setCell (p := ⟨w.heap.size, 2, none⟩) (Nat.le_refl _) _)
      have hag6 : Agw (((w5.setCell ⟨w.heap.size, 0, none⟩ (.string tb)).setCell ⟨w.heap.size, 1, none⟩ (.string nb)).setCell ⟨w.heap.size, 2, none⟩ (.slice va VN vc)) (fun q => w4.heap.size ≤ q) k.args (.slice va VN vc) := hag.kept fun q hq hlt => ⟨hq, three_other _ (by omega) _ _ _⟩
      obtain ⟨W6, hW6⟩ : ∃ W, ((w5.setCell ⟨w.heap.size, 0, none⟩ (.string tb)).setCell ⟨w.heap.size, 1, none⟩ (.string nb)).setCell ⟨w.heap.size, 2, none⟩ (.slice va VN vc) = W := ⟨_, rfl⟩
      rw [hW6] at c6 e6 b6 hag6
      have y0 : W6.cell? ⟨w.heap.size + 1, 0, none⟩ = some .nilIface := rd_cell e6 rfl
      have y1 : W6.frozen? ⟨w.heap.size + 1, 0, none⟩ = false := rd_free e6 0
      have HF : Hid (∀ tmps, tmps[2]? = some (.pointer (some ⟨w.heap.size, 0, none⟩)) → tmps[3]? = some (.pointer (some ⟨w.heap.size + 1, 0, none⟩)) →
          Leaves Tryz.prog Tryz.f8 tmps (fun e w' => OutP w (.ok k q c) e w') [{ target := .fn (.func 28) #[.pointer (some ⟨w.heap.size + 1, 0, none⟩)], args := #[] }] .returning (W6.setCell ⟨w.heap.size + 1, 0, none⟩ .nilIface)) := by
        intro tmps ht2 ht3
        have e7 := rd_set (i := 0) .nilIface e6
        refine leaves_cons (f := 28) (args := #[.pointer (some ⟨w.heap.size + 1, 0, none⟩)]) (by simp) (by simp [go_sem]) ?_
        refine (caught_none (w.heap.size + 1) .nilIface _ (rd_cell e7 rfl) (rd_free e7 0)).mono ?_
        rintro e u' w8 ⟨rfl, rfl, rfl⟩
        have e8 := rd_set (i := 0) .nilIface e7
        have far : ∀ j, j ≠ w.heap.size + 1 → ((W6.setCell ⟨w.heap.size + 1, 0, none⟩ .nilIface).setCell ⟨w.heap.size + 1, 0, none⟩ .nilIface).heap[j]? = W6.heap[j]? := fun j hj => by
          rw [Below.heap_setCell _ _ _ _ hj, Below.heap_setCell _ _ _ _ hj]
        have c8 := (far w.heap.size (by omega)).trans c6
        have r0 := rd_cell (j := 0) e8 rfl
        have k0 := rd_cell (j := 0) c8 rfl
        have k1 := rd_cell (j := 1) c8 rfl
        have k2 := rd_cell (j := 2) c8 rfl
        refine ⟨.tuple #[.agg #[.string tb, .string nb, .slice va VN vc], .nilIface], by simp [results, Tryz.results8, go_sem, ht2, ht3, r0, k0, k1, k2], ?_⟩
        refine ⟨tb, nb, _, rfl, htb, hnb, hag6.kept fun q hq hlt => ⟨by omega, far q (by omega)⟩, ?_⟩
        exact (b6.setCell (p := ⟨w.heap.size + 1, 0, none⟩) (by show w.heap.size ≤ w.heap.size + 1; omega) _).setCell (p := ⟨w.heap.size + 1, 0, none⟩) (by show w.heap.size ≤ w.heap.size + 1; omega) _
      clear e5 c5 c6 e6 b6 hag6 hag hb5 htb hnb
      go_wp2_with fail
      exact HF.out _ rfl rfl
end Go.Proofs.YtmcpohnilgbicaaGreatDoor
