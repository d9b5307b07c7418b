/-
  What search, and more.
-/
import Derived.Test.YtogigccbnohjjaaGreatDoorBpSearchNot
import Derived.Test.YtogigccbnohjjaaGreatDoorBpSearchIs
namespace Go.Proofs.YtogigccbnohjjaaGreatDoor
open Go.RowKit Go.Proofs.Aid Go.Proofs.Sq Go.Proofs.Hd
set_option maxHeartbeats 4000000
set_option maxRecDepth 100000
theorem scaught_panic (eb : Nat) (n : Int) (older : List PanicEntry) (v0 : Value) (w : World) (hc : w.cell? ⟨eb, 0, none⟩ = some v0) (hz : w.frozen? ⟨eb, 0, none⟩ = false) :
  CallsD Tryz.prog 15 #[.pointer (some ⟨eb, 0, none⟩)] (.panicking ({ v := .iface 33 (.int .i64 n), recovered := false } :: older)) w fun e u' w' =>
   e = .returned (.tuple #[]) ∧ u' = .panicking ({ v := .iface 33 (.int .i64 n), recovered := true } :: older) ∧ w' = w.setCell ⟨eb, 0, none⟩ (.iface 33 (.int .i64 n)) := by
 refine callsD_of_wpS Tryz.func15 rfl fun c₀ cs hu => ?_
 apply wpS_region
 simp [wpOpsS, go_sem, recoverD, hu, Tryz.ntmps15]
 refine (told_err n w).mono ?_
 rintro e w1 ⟨rfl, rfl⟩
 simp [go_sem, hc, hz, bodyPostS, results, Tryz.results15]
theorem scaught_none (eb : Nat) (v0 : Value) (w : World) (hc : w.cell? ⟨eb, 0, none⟩ = some v0) (hz : w.frozen? ⟨eb, 0, none⟩ = false) :
  CallsD Tryz.prog 15 #[.pointer (some ⟨eb, 0, none⟩)] .returning w fun e u' w' =>
   e = .returned (.tuple #[]) ∧ u' = .returning ∧ w' = w.setCell ⟨eb, 0, none⟩ .nilIface := by
 refine callsD_of_wpS Tryz.func15 rfl fun c₀ cs hu => ?_
 apply wpS_region
 simp [wpOpsS, go_sem, recoverD, hu, Tryz.ntmps15]
 refine (told_nil w).mono ?_
 rintro e w1 ⟨rfl, rfl⟩
 cases c₀
 simp_all [go_sem, bodyPostS, results, Tryz.results15]
def OutS (w : World) : Sr.Rs Sr.Ky → Ending → World → Prop
 | .bad n, e, w' => e = .returned (.tuple #[.agg #[.int .i64 0, .string ⟨#[]⟩, .string ⟨#[]⟩, .int .i64 0, .slice none 0 0, .slice none 0 0], .iface 33 (.int .i64 n)]) ∧ Below w.heap.size w w'
 | .ok k _ _, e, w' => ∃ ys, e = .returned (.tuple #[.agg ys.toArray, .nilIface]) ∧ Kx w' (fun q => w.heap.size ≤ q) k ys ∧ Below w.heap.size w w'
theorem sparse_is (B : Nat) (l : List Sr.Ar) (v : Value) (Ok : Nat → Prop) (w : World) (hB : B ≤ 2000000) (hl : Ags w Ok B l v) (hO : ∀ k, Ok k → k < w.heap.size)
  (hg : ∀ W, Below w.heap.size w W → SysAt W ∧ ErrType W ∧ NumAt W ∧ ∃ m, W.cell? ⟨1, 0, none⟩ = some (.int .i64 m)) :
  Calls Tryz.prog 7 #[v] w fun e w' => OutS w (Sr.parseK l) e w' := by
 have hmf : ∀ (fn : Fn) (first cap : Array Value) (w : World), (Instr.makeFunc fn first cap).run Tryz.prog w = .ok (.func fn first cap) w := fun _ _ _ _ => rfl
 obtain ⟨T, hT⟩ : ∃ T, Sr.parseK l = T := ⟨_, rfl⟩
 rw [hT]
 obtain ⟨va, vc, hv⟩ := hl.form
 obtain ⟨VN, hVN⟩ : ∃ n, l.length = n := ⟨_, rfl⟩
 rw [hVN] at hv
 subst hv
 have HG : Hid (∀ W, Below w.heap.size w W → SysAt W ∧ ErrType W ∧ NumAt W ∧ ∃ m, W.cell? ⟨1, 0, none⟩ = some (.int .i64 m)) := hg
 clear hg
 obtain ⟨W3, hW3⟩ : ∃ W, ((w.alloc (.cells #[.int .i64 0, .string ⟨#[]⟩, .string ⟨#[]⟩, .int .i64 0, .slice none 0 0, .slice none 0 0] 32)).alloc (.cells #[.nilIface] 37)).alloc (.cells #[.slice va VN vc, .int .i64 0] 60) = W := ⟨_, rfl⟩
 have hb3 : Below w.heap.size w W3 := by
  rw [← hW3]
  exact (((Below.refl _ _).alloc (Nat.le_refl _) _).alloc (by simp) _).alloc (by simp; omega) _
 have hz3 : W3.heap.size = w.heap.size + 3 := by rw [← hW3]; simp
 have hr3 : RdS W3 (w.heap.size + 1 + 1) (.slice va VN vc) 0 := by
  rw [← hW3]
  have := heap_alloc_new ((w.alloc (.cells #[.int .i64 0, .string ⟨#[]⟩, .string ⟨#[]⟩, .int .i64 0, .slice none 0 0, .slice none 0 0] 32)).alloc (.cells #[.nilIface] 37)) (.cells #[.slice va VN vc, .int .i64 0] 60)
  have hz : ((w.alloc (.cells #[.int .i64 0, .string ⟨#[]⟩, .string ⟨#[]⟩, .int .i64 0, .slice none 0 0, .slice none 0 0] 32)).alloc (.cells #[.nilIface] 37)).heap.size = w.heap.size + 1 + 1 := by simp
  rw [hz] at this
  exact this
 have he3 : W3.heap[w.heap.size + 1]? = some (.cells #[.nilIface] 37 (0, 0)) := by
  rw [← hW3, Lib.alloc_old _ _ _ (by simp)]
  have := heap_alloc_new (w.alloc (.cells #[.int .i64 0, .string ⟨#[]⟩, .string ⟨#[]⟩, .int .i64 0, .slice none 0 0, .slice none 0 0] 32)) (.cells #[.nilIface] 37)
  have hz : (w.alloc (.cells #[.int .i64 0, .string ⟨#[]⟩, .string ⟨#[]⟩, .int .i64 0, .slice none 0 0, .slice none 0 0] 32)).heap.size = w.heap.size + 1 := by simp
  rw [hz] at this
  exact this
 have hc3 : W3.heap[w.heap.size]? = some (.cells #[.int .i64 0, .string ⟨#[]⟩, .string ⟨#[]⟩, .int .i64 0, .slice none 0 0, .slice none 0 0] 32 (0, 0)) := by
  rw [← hW3, Lib.alloc_old _ _ _ (by simp; omega), Lib.alloc_old _ _ _ (by simp)]
  exact heap_alloc_new _ _
 have cC := keys_is (w.heap.size + 1 + 1) 0 B 0 l (.slice va VN vc) Ok W3 (Sr.keyF 7) hr3 (hl.kept fun k hk hlt => ⟨hk, hb3.block k hlt⟩) (by omega) (fun k hk => ⟨by have := hO k hk; omega, by have := hO k hk; omega⟩) (by omega) (Sr.keyF_c 7) (fun W l' c' v' h1 h2 h3 h4 =>
  key_is (w.heap.size + 1 + 1) B Ok hB 7 0 c' l' v' W rfl (fun W' hW' => HG.out W' ((hb3.trans ⟨h3.os, h3.tape, h3.output, h3.size, fun k hk => h3.block k (by omega) (by omega)⟩).trans ⟨hW'.os, hW'.tape, hW'.output, hW'.size, fun k hk => hW'.block k (by have := h3.size; omega) (by omega)⟩)) h1 h2 (by have := h3.size; omega) (fun k hk => ⟨by have := hO k hk; omega, by have := hO k hk; have := h3.size; omega⟩) (by omega))
 rw [show Sr.keysF (Sr.keyF 7) l 0 = T from hT, show ((0 : Nat) : Int) = 0 from rfl] at cC
 have HX : Hid (Below w.heap.size w W3 ∧ W3.heap.size = w.heap.size + 3 ∧ W3.heap[w.heap.size + 1]? = some (.cells #[.nilIface] 37 (0, 0)) ∧ W3.heap[w.heap.size]? = some (.cells #[.int .i64 0, .string ⟨#[]⟩, .string ⟨#[]⟩, .int .i64 0, .slice none 0 0, .slice none 0 0] 32 (0, 0))) := ⟨hb3, hz3, he3, hc3⟩
 have HW3 : Hid (((w.alloc (.cells #[.int .i64 0, .string ⟨#[]⟩, .string ⟨#[]⟩, .int .i64 0, .slice none 0 0, .slice none 0 0] 32)).alloc (.cells #[.nilIface] 37)).alloc (.cells #[.slice va VN vc, .int .i64 0] 60) = W3) := hW3
 clear hb3 hz3 hr3 he3 hc3 hl hO hT hVN hW3
 go_enter_defers Tryz.func7, Tryz.ntmps7
 go_wp2_with fail
 rw [HW3.out]
 refine cC.mono ?_
 intro e w5 h5
 clear cC HW3
 have hz := HX.out.2.1
 cases T with
 | bad n =>
  obtain ⟨rfl, hb5⟩ := h5
  have e5 := (hb5.block (w.heap.size + 1) (by omega) (by omega)).trans HX.out.2.2.1
  have c5 := (hb5.block w.heap.size (by omega) (by omega)).trans HX.out.2.2.2
  have b5 : Below w.heap.size w w5 := HX.out.1.trans ⟨hb5.os, hb5.tape, hb5.output, hb5.size, fun k hk => hb5.block k (by omega) (by omega)⟩
  have HP : Hid (∀ tmps, tmps[2]? = some (.pointer (some ⟨w.heap.size, 0, none⟩)) → tmps[3]? = some (.pointer (some ⟨w.heap.size + 1, 0, none⟩)) →
    Leaves Tryz.prog Tryz.f7 tmps (fun e w' => OutS w (.bad n) e w') [{ target := .fn (.func 15) #[.pointer (some ⟨w.heap.size + 1, 0, none⟩)], args := #[] }] (.panicking [{ v := .iface 33 (.int .i64 n), recovered := false }]) w5) := by
   intro tmps ht2 ht3
   refine leaves_cons (f := 15) (args := #[.pointer (some ⟨w.heap.size + 1, 0, none⟩)]) (by simp) (by simp [go_sem]) ?_
   refine (scaught_panic (w.heap.size + 1) n [] .nilIface w5 (rd_cell e5 rfl) (rd_free e5 0)).mono ?_
   rintro e u' w6 ⟨rfl, rfl, rfl⟩
   have e6 := rd_set (i := 0) (.iface 33 (.int .i64 n)) e5
   have c6 := (Below.heap_setCell w5 ⟨w.heap.size + 1, 0, none⟩ (.iface 33 (.int .i64 n)) w.heap.size (show w.heap.size ≠ w.heap.size + 1 by omega)).trans c5
   have r0 := rd_cell (j := 0) e6 rfl
   have k0 := rd_cell (j := 0) c6 rfl
   have k1 := rd_cell (j := 1) c6 rfl
   have k2 := rd_cell (j := 2) c6 rfl
   have k3 := rd_cell (j := 3) c6 rfl
   have k4 := rd_cell (j := 4) c6 rfl
   have k5 := rd_cell (j := 5) c6 rfl
   refine ⟨.tuple #[.agg #[.int .i64 0, .string ⟨#[]⟩, .string ⟨#[]⟩, .int .i64 0, .slice none 0 0, .slice none 0 0], .iface 33 (.int .i64 n)], by simp [results, Tryz.results7, go_sem, ht2, ht3, r0, k0, k1, k2, k3, k4, k5], rfl, ?_⟩
   exact b5.setCell (p := ⟨w.heap.size + 1, 0, none⟩) (by show w.heap.size ≤ w.heap.size + 1; omega) _
  clear e5 c5 b5 hb5
  unfold thrown
  go_wp2_with fail
  exact HP.out _ rfl rfl
 | ok k q c =>
  obtain ⟨ys, v5, rfl, hk5, _, _, hb5⟩ := h5
  have hz5 := hb5.size
  obtain ⟨x0, x3, x1, x2, xa, xk, xc, ya, yk, yc, rfl⟩ := kx_cells hk5
  have hta : ([.int .i64 x0, .string x1, .string x2, .int .i64 x3, .slice xa xk xc, .slice ya yk yc] : List Value).toArray = #[.int .i64 x0, .string x1, .string x2, .int .i64 x3, .slice xa xk xc, .slice ya yk yc] := rfl
  rw [hta]
  have e5 := (hb5.block (w.heap.size + 1) (by omega) (by omega)).trans HX.out.2.2.1
  have c5 := (hb5.block w.heap.size (by omega) (by omega)).trans HX.out.2.2.2
  obtain ⟨⟨s0, s1, s2, s3, s4, s5⟩, ⟨sf0, sf1, sf2, sf3, sf4, sf5⟩, u0, u1, u2, u3, u4, u5⟩ := six_facts c5 (.int .i64 x0) (.string x1) (.string x2) (.int .i64 x3) (.slice xa xk xc) (.slice ya yk yc)
  have c6 := six_set c5 (.int .i64 x0) (.string x1) (.string x2) (.int .i64 x3) (.slice xa xk xc) (.slice ya yk yc)
  have e6 := (six_other w5 (R := w.heap.size) (k := w.heap.size + 1) (by omega) (.int .i64 x0) (.string x1) (.string x2) (.int .i64 x3) (.slice xa xk xc) (.slice ya yk yc)).trans e5
  have b5 : Below w.heap.size w w5 := HX.out.1.trans ⟨hb5.os, hb5.tape, hb5.output, hb5.size, fun k hk => hb5.block k (by omega) (by omega)⟩
  have b6 := (((((b5.setCell (p := ⟨w.heap.size, 0, none⟩) (Nat.le_refl _) (.int .i64 x0)).setCell (p := ⟨w.heap.size, 1, none⟩) (Nat.le_refl _) (.string x1)).setCell (p := ⟨w.heap.size, 2, none⟩) (Nat.le_refl _) (.string x2)).setCell (p := ⟨w.heap.size, 3, none⟩) (Nat.le_refl _) (.int .i64 x3)).setCell (p := ⟨w.heap.size, 4, none⟩) (Nat.le_refl _) (.slice xa xk xc)).setCell (p := ⟨w.heap.size, 5, none⟩) (Nat.le_refl _) (.slice ya yk yc)
  have hk6 := hk5.kept (Ok' := fun q => W3.heap.size ≤ q) (w' := (((((w5.setCell ⟨w.heap.size, 0, none⟩ (.int .i64 x0)).setCell ⟨w.heap.size, 1, none⟩ (.string x1)).setCell ⟨w.heap.size, 2, none⟩ (.string x2)).setCell ⟨w.heap.size, 3, none⟩ (.int .i64 x3)).setCell ⟨w.heap.size, 4, none⟩ (.slice xa xk xc)).setCell ⟨w.heap.size, 5, none⟩ (.slice ya yk yc)) fun q hq hlt => ⟨hq, six_other _ (by omega) _ _ _ _ _ _⟩
  obtain ⟨W6, hW6⟩ : ∃ W, (((((w5.setCell ⟨w.heap.size, 0, none⟩ (.int .i64 x0)).setCell ⟨w.heap.size, 1, none⟩ (.string x1)).setCell ⟨w.heap.size, 2, none⟩ (.string x2)).setCell ⟨w.heap.size, 3, none⟩ (.int .i64 x3)).setCell ⟨w.heap.size, 4, none⟩ (.slice xa xk xc)).setCell ⟨w.heap.size, 5, none⟩ (.slice ya yk yc) = W := ⟨_, rfl⟩
  rw [hW6] at c6 e6 b6 hk6
  have y0 : W6.cell? ⟨w.heap.size + 1, 0, none⟩ = some .nilIface := rd_cell e6 rfl
  have y1 : W6.frozen? ⟨w.heap.size + 1, 0, none⟩ = false := rd_free e6 0
  have HF : Hid (∀ tmps, tmps[2]? = some (.pointer (some ⟨w.heap.size, 0, none⟩)) → tmps[3]? = some (.pointer (some ⟨w.heap.size + 1, 0, none⟩)) →
    Leaves Tryz.prog Tryz.f7 tmps (fun e w' => OutS w (.ok k q c) e w') [{ target := .fn (.func 15) #[.pointer (some ⟨w.heap.size + 1, 0, none⟩)], args := #[] }] .returning (W6.setCell ⟨w.heap.size + 1, 0, none⟩ .nilIface)) := by
   intro tmps ht2 ht3
   have e7 := rd_set (i := 0) .nilIface e6
   refine leaves_cons (f := 15) (args := #[.pointer (some ⟨w.heap.size + 1, 0, none⟩)]) (by simp) (by simp [go_sem]) ?_
   refine (scaught_none (w.heap.size + 1) .nilIface _ (rd_cell e7 rfl) (rd_free e7 0)).mono ?_
   rintro e u' w8 ⟨rfl, rfl, rfl⟩
   have e8 := rd_set (i := 0) .nilIface e7
   have far : ∀ j, j ≠ w.heap.size + 1 → ((W6.setCell ⟨w.heap.size + 1, 0, none⟩ .nilIface).setCell ⟨w.heap.size + 1, 0, none⟩ .nilIface).heap[j]? = W6.heap[j]? := fun j hj => by
    rw [Below.heap_setCell _ _ _ _ hj, Below.heap_setCell _ _ _ _ hj]
   have c8 := (far w.heap.size (by omega)).trans c6
   have r0 := rd_cell (j := 0) e8 rfl
   have k0 := rd_cell (j := 0) c8 rfl
   have k1 := rd_cell (j := 1) c8 rfl
   have k2 := rd_cell (j := 2) c8 rfl
   have k3 := rd_cell (j := 3) c8 rfl
   have k4 := rd_cell (j := 4) c8 rfl
   have k5 := rd_cell (j := 5) c8 rfl
   refine ⟨.tuple #[.agg #[.int .i64 x0, .string x1, .string x2, .int .i64 x3, .slice xa xk xc, .slice ya yk yc], .nilIface], by simp [results, Tryz.results7, go_sem, ht2, ht3, r0, k0, k1, k2, k3, k4, k5], ?_⟩
   refine ⟨[.int .i64 x0, .string x1, .string x2, .int .i64 x3, .slice xa xk xc, .slice ya yk yc], rfl, hk6.kept fun q hq hlt => ⟨by omega, far q (by omega)⟩, ?_⟩
   exact (b6.setCell (p := ⟨w.heap.size + 1, 0, none⟩) (by show w.heap.size ≤ w.heap.size + 1; omega) _).setCell (p := ⟨w.heap.size + 1, 0, none⟩) (by show w.heap.size ≤ w.heap.size + 1; omega) _
  clear e5 c5 c6 e6 b5 b6 hk5 hk6 hb5 hta
  go_wp2_with fail
  exact HF.out _ rfl rfl
end Go.Proofs.YtogigccbnohjjaaGreatDoor
namespace Go.Proofs.YtogigccbnohjjaaGreatDoor
open Go.RowKit Go.Proofs.Aid Go.Proofs.Sq Go.Proofs.Hd
set_option maxHeartbeats 4000000
set_option maxRecDepth 100000
theorem hcaught_none (hb : Nat) (w : World) :
  CallsD Tryz.prog 21 #[.pointer (some ⟨hb, 0, none⟩)] .returning w fun e u' w' =>
   e = .returned (.tuple #[]) ∧ u' = .returning ∧ w' = w := by
 refine callsD_of_wpS Tryz.func21 rfl fun c₀ cs hu => ?_
 apply wpS_seq
 apply wpS_region
 simp [wpOpsS, go_sem, recoverD, hu, Tryz.ntmps21, Exit.thenS]
 refine (told_nil w).mono ?_
 rintro e w1 ⟨rfl, rfl⟩
 simp [go_sem]
 refine wpS_cond (t := false) (by simp [Act.eval, Array.replicate]) ?_
 simp only [Bool.false_eq_true, if_false]
 refine wpS_of_wp (wp_skip ?_)
 cases c₀
 simp_all [bodyPostS, results, Tryz.results21]
theorem holds_is (m : Sr.Lt) (Ls : Int → Sr.Tx → Sr.Tx → Prop) (Ok : Nat → Prop) (k : Sr.Ky) (ys : List Value) (tb : ByteArray) (fa : Option Addr) (fn fc : Nat) (w : World) (htb : tb.data.toList = m.text) (hf : Fit Ls 900 k) (hk : Kx w Ok k ys)
  (hL : Leafs m [.int .i64 m.uid, .slice fa fn fc, .int .i64 m.day, .string tb, .int .i64 m.which, .int .i64 m.many, .int .i64 m.greatest] Ls Ok w) :
  Calls Tryz.prog 10 #[.agg ys.toArray, .agg #[.int .i64 m.uid, .slice fa fn fc, .int .i64 m.day, .string tb], .int .i64 m.which, .agg #[.int .i64 m.many, .int .i64 m.greatest]] w fun e w' => e = .returned (.bool (Sr.holdsK m k)) ∧ Below w.heap.size w w' := by
 have hmf : ∀ (fn : Fn) (first cap : Array Value) (w : World), (Instr.makeFunc fn first cap).run Tryz.prog w = .ok (.func fn first cap) w := fun _ _ _ _ => rfl
 have cI := is_is m [.int .i64 m.uid, .slice fa fn fc, .int .i64 m.day, .string tb, .int .i64 m.which, .int .i64 m.many, .int .i64 m.greatest] Ls Ok w ⟨tb, fa, fn, fc, rfl, htb⟩ hL 900 0 k ys
 obtain ⟨A, hA⟩ : ∃ A, Sr.holdsK m k = A := ⟨_, rfl⟩
 rw [hA] at cI ⊢
 have hun : ∀ W, Below w.heap.size w W → Kx W Ok k ys := fun W hW => hk.under hW
 obtain ⟨x0, x3, x1, x2, xa, xk, xc, ya, yk, yc, rfl⟩ := kx_cells hk
 rw [show ([.int .i64 x0, .string x1, .string x2, .int .i64 x3, .slice xa xk xc, .slice ya yk yc] : List Value).toArray = #[.int .i64 x0, .string x1, .string x2, .int .i64 x3, .slice xa xk xc, .slice ya yk yc] from rfl] at cI ⊢
 rw [show ([.int .i64 m.uid, .slice fa fn fc, .int .i64 m.day, .string tb, .int .i64 m.which, .int .i64 m.many, .int .i64 m.greatest] : List Value).toArray = #[.int .i64 m.uid, .slice fa fn fc, .int .i64 m.day, .string tb, .int .i64 m.which, .int .i64 m.many, .int .i64 m.greatest] from rfl] at cI
 obtain ⟨W5, hW5⟩ : ∃ W, (((((w.alloc (.cells #[.int .i64 x0, .string x1, .string x2, .int .i64 x3, .slice xa xk xc, .slice ya yk yc] 32)).alloc (.cells #[.int .i64 m.uid, .slice fa fn fc, .int .i64 m.day, .string tb] 24)).alloc (.cells #[.int .i64 m.many, .int .i64 m.greatest] 44)).alloc (.cells #[.bool false] 4)).alloc (.cells #[.int .i64 m.uid, .slice fa fn fc, .int .i64 m.day, .string tb, .int .i64 m.which, .int .i64 m.many, .int .i64 m.greatest] 66)) = W := ⟨_, rfl⟩
 have hb5 : Below w.heap.size w W5 := by
  rw [← hW5]
  exact (((((Below.refl _ _).alloc (Nat.le_refl _) _).alloc (by simp) _).alloc (by simp; omega) _).alloc (by simp; omega) _).alloc (by simp; omega) _
 have hz5 : W5.heap.size = w.heap.size + 5 := by rw [← hW5]; simp
 have e4 : W5.heap[w.heap.size + 1 + 1 + 1]? = some (.cells #[.bool false] 4 (0, 0)) := by
  rw [← hW5, Lib.alloc_old _ _ _ (by simp)]
  have := heap_alloc_new (((w.alloc (.cells #[.int .i64 x0, .string x1, .string x2, .int .i64 x3, .slice xa xk xc, .slice ya yk yc] 32)).alloc (.cells #[.int .i64 m.uid, .slice fa fn fc, .int .i64 m.day, .string tb] 24)).alloc (.cells #[.int .i64 m.many, .int .i64 m.greatest] 44)) (.cells #[.bool false] 4)
  have hz : (((w.alloc (.cells #[.int .i64 x0, .string x1, .string x2, .int .i64 x3, .slice xa xk xc, .slice ya yk yc] 32)).alloc (.cells #[.int .i64 m.uid, .slice fa fn fc, .int .i64 m.day, .string tb] 24)).alloc (.cells #[.int .i64 m.many, .int .i64 m.greatest] 44)).heap.size = w.heap.size + 1 + 1 + 1 := by simp
  rw [hz] at this
  exact this
 have cC := cI W5 (by omega) hf hb5 (hun W5 hb5)
 rw [show ((0 : Nat) : Int) = 0 from rfl] at cC
 have HX : Hid (Below w.heap.size w W5 ∧ W5.heap.size = w.heap.size + 5 ∧ W5.heap[w.heap.size + 1 + 1 + 1]? = some (.cells #[.bool false] 4 (0, 0))) := ⟨hb5, hz5, e4⟩
 have HW5 : Hid ((((((w.alloc (.cells #[.int .i64 x0, .string x1, .string x2, .int .i64 x3, .slice xa xk xc, .slice ya yk yc] 32)).alloc (.cells #[.int .i64 m.uid, .slice fa fn fc, .int .i64 m.day, .string tb] 24)).alloc (.cells #[.int .i64 m.many, .int .i64 m.greatest] 44)).alloc (.cells #[.bool false] 4)).alloc (.cells #[.int .i64 m.uid, .slice fa fn fc, .int .i64 m.day, .string tb, .int .i64 m.which, .int .i64 m.many, .int .i64 m.greatest] 66)) = W5) := hW5
 clear hb5 hz5 e4 hW5 cI hun hL hk hf htb hA
 go_enter_defers Tryz.func10, Tryz.ntmps10
 go_wp2_with fail
 rw [HW5.out]
 refine cC.mono ?_
 rintro e w6 ⟨rfl, hb6⟩
 clear cC HW5
 have hz := HX.out.2.1
 have e6 := (hb6.block (w.heap.size + 1 + 1 + 1) (by omega)).trans HX.out.2.2
 have b6 : Below w.heap.size w w6 := HX.out.1.trans (hb6.mono (by omega))
 have y0 : w6.cell? ⟨w.heap.size + 1 + 1 + 1, 0, none⟩ = some (.bool false) := rd_cell e6 rfl
 have y1 : w6.frozen? ⟨w.heap.size + 1 + 1 + 1, 0, none⟩ = false := rd_free e6 0
 have HF : Hid (∀ tmps, tmps[8]? = some (.pointer (some ⟨w.heap.size + 1 + 1 + 1, 0, none⟩)) →
   Leaves Tryz.prog Tryz.f10 tmps (fun e w' => e = .returned (.bool A) ∧ Below w.heap.size w w') [{ target := .fn (.func 21) #[.pointer (some ⟨w.heap.size + 1 + 1 + 1, 0, none⟩)], args := #[] }] .returning (w6.setCell ⟨w.heap.size + 1 + 1 + 1, 0, none⟩ (.bool A))) := by
  intro tmps ht
  have e7 := rd_set (i := 0) (.bool A) e6
  refine leaves_cons (f := 21) (args := #[.pointer (some ⟨w.heap.size + 1 + 1 + 1, 0, none⟩)]) (by simp) (by simp [go_sem]) ?_
  refine (hcaught_none (w.heap.size + 1 + 1 + 1) _).mono ?_
  rintro e u' w8 ⟨rfl, rfl, rfl⟩
  have r0 := rd_cell (j := 0) e7 rfl
  refine ⟨.bool A, by simp [results, Tryz.results10, go_sem, ht, r0], rfl, ?_⟩
  exact b6.setCell (p := ⟨w.heap.size + 1 + 1 + 1, 0, none⟩) (by show w.heap.size ≤ w.heap.size + 1 + 1 + 1; omega) _
 clear e6 b6 hb6
 go_wp2_with fail
 exact HF.out _ rfl
end Go.Proofs.YtogigccbnohjjaaGreatDoor
namespace Go.Proofs.YtogigccbnohjjaaGreatDoor
open Go.RowKit Go.Proofs.Aid Go.Proofs.Fl Go.Sort Go.Lib
theorem texts_any (v : Value) (l : List Tx) (w : World) (h : Sl w v l) :
  Calls Tryz.prog 13 #[v] w fun e w' => e = .returned (.bool (decide (l.length ≤ 40) && l.all fun t => decide (t.length ≤ 100))) ∧ w' = w := by
 obtain ⟨a, c, rfl, h0, ha⟩ := h
 obtain ⟨R, hR⟩ : ∃ R, (decide (l.length ≤ 40) && l.all fun t => decide (t.length ≤ 100)) = R := ⟨_, rfl⟩
 rw [hR]
 by_cases hl : l.length ≤ 40
 ·rw [decide_eq_true hl, Bool.true_and] at hR
  have HR : Hid ((l.all fun t => decide (t.length ≤ 100)) = R) := hR
  obtain ⟨len, hn⟩ : ∃ n, l.length = n := ⟨_, rfl⟩
  rw [hn] at hl ⊢
  have hl' : ¬ (40 : Int) < (len : Int) := by omega
  have HN : Hid (l.length = len) := hn
  clear hR hn
  go_enter Tryz.func13, Tryz.ntmps13
  go_wp2
  go_loop [3] (fun i => ∃ k : Nat, i = .int .i64 (k : Int) ∧ k ≤ len ∧ Hid (∀ t ∈ l.take k, t.length ≤ 100)) (fun i => len - (Go.RowKit.intOf i).toNat)
  case atStart => exact ⟨0, rfl, Nat.zero_le _, fun t ht => by simp at ht⟩
  case round =>
   obtain ⟨k, rfl, hk, HK⟩ := hrel
   have hnn := HN.out
   by_cases hlt : k < len
   ·rcases ha with rfl | ⟨b, o, rfl, hat⟩
    ·simp at hnn; omega
    have hkl : k < l.length := by omega
    have c1 := hat k _ (List.getElem?_eq_getElem hkl)
    obtain ⟨t, ht⟩ : ∃ t, l[k] = t := ⟨_, rfl⟩
    have HT : Hid (l[k] = t) := ht
    rw [ht] at c1
    obtain ⟨s, hse⟩ : ∃ s : ByteArray, ⟨t.toArray⟩ = s := ⟨_, rfl⟩
    have hst : t.length = s.size := by rw [← hse]; simp [ByteArray.size]
    have HST : Hid (t.length = s.size) := hst
    have c2 : w.cell? ⟨b, o + k, none⟩ = some (.string s) := by rw [← hse]; exact c1
    clear hat ht hse hst c1 hnn
    by_cases h100 : s.size ≤ 100
    ·have h1 : ¬ (100 : Int) < (s.size : Int) := by omega
     go_wp2
     go_round
     case rel => exact ⟨k + 1, by go_num, by omega, fun t' ht' => by
      rw [List.take_succ_eq_append_getElem hkl, HT.out] at ht'
      rcases List.mem_append.1 ht' with h | h
      ·exact HK.out t' h
      ·rw [List.mem_singleton.1 h, HST.out]; exact h100⟩
     case measure => simp [Go.RowKit.intOf]; omega
    ·have h1 : (100 : Int) < (s.size : Int) := by omega
     go_wp2
     go_ret
     refine ⟨?_, rfl⟩
     rw [← HR.out]
     have : (l.all fun t => decide (t.length ≤ 100)) = false := by
      rw [List.all_eq_false]
      exact ⟨t, by rw [← HT.out]; exact List.getElem_mem _, by rw [HST.out]; simpa using h100⟩
     rw [this]; rfl
   ·clear ha
    go_wp2
    go_ret
    refine ⟨?_, rfl⟩
    rw [← HR.out]
    have : (l.all fun t => decide (t.length ≤ 100)) = true := by
     rw [List.all_eq_true]
     intro t ht
     have := HK.out t (by rw [List.take_of_length_le (by omega)]; exact ht)
     simpa using this
    rw [this]; rfl
 ·rw [decide_eq_false hl, Bool.false_and] at hR
  subst hR
  have hl' : (40 : Int) < (l.length : Int) := by omega
  go_enter Tryz.func13, Tryz.ntmps13
  go_wp2
  go_ret
  exact ⟨rfl, rfl⟩
end Go.Proofs.YtogigccbnohjjaaGreatDoor
