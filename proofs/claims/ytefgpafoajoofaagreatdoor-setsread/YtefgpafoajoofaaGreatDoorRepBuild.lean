/-
  (*strings.Replacer).build of < and > to nothing.
-/
import Derived.Test.YtefgpafoajoofaaGreatDoorRepReplace
import Derived.Test.YtefgpafoajoofaaGreatDoorOnceDo
import Derived.Laws.Tables
import Derived.Lib.ConvBytes
namespace Go.Proofs.YtefgpafoajoofaaGreatDoor
open Go.RowKit Go.Proofs.Aid Go.Proofs.Sq

theorem Tryz.infoTx : (Tryz.prog.info? 9).map (fun i => (i.zero, i.size, i.bytes)) = some (some (.string ⟨#[]⟩), 1, 16) := by kernel_rfl
/-- What a replacer begins with. -/
noncomputable def repCells (v : Value) : Array Value := (Tryz.zeroCells208.toList.set 256 v).toArray
theorem rep_zero : Tryz.zeroCells208 = Array.replicate 257 (.slice none 0 0) := by kernel_rfl
theorem set_low (n : Nat) (z v : Value) {j : Nat} (h : j < n) : ((Array.replicate (n + 1) z).toList.set n v).toArray[j]? = some z := by
  rw [List.getElem?_toArray, List.getElem?_set_ne (by omega), Array.toList_replicate, List.getElem?_replicate, if_pos (by omega)]
theorem set_last (n : Nat) (z v : Value) : ((Array.replicate (n + 1) z).toList.set n v).toArray[n]? = some v := by
  rw [List.getElem?_toArray, List.getElem?_set_self (by simp)]
theorem set_one (n : Nat) {z v : Value} (hz : z.oneCell' = true) (h : v.oneCell' = true) : ((Array.replicate (n + 1) z).toList.set n v).toArray.all (·.oneCell') = true := by
  rw [Array.all_eq_true_iff_forall_mem]
  intro x hx
  rw [List.mem_toArray, Array.toList_replicate] at hx
  rcases List.mem_or_eq_of_mem_set hx with h1 | rfl
  · obtain ⟨_, rfl⟩ := List.mem_replicate.1 h1
    exact hz
  · exact h
theorem set_size (n : Nat) (z v : Value) : ((Array.replicate (n + 1) z).toList.set n v).toArray.size = n + 1 := by simp
theorem repCells_size (v : Value) : (repCells v).size = 257 := by unfold repCells; rw [rep_zero]; exact set_size 256 _ _
theorem repCells_low {v : Value} {j : Nat} (h : j < 256) : (repCells v)[j]? = some (.slice none 0 0) := by unfold repCells; rw [rep_zero]; exact set_low 256 _ _ h
theorem repCells_last (v : Value) : (repCells v)[256]? = some v := by unfold repCells; rw [rep_zero]; exact set_last 256 _ _
theorem repCells_one {v : Value} (h : v.oneCell' = true) : (repCells v).all (·.oneCell') = true := by unfold repCells; rw [rep_zero]; exact set_one 256 rfl h
theorem rep_conv (c : UInt8) (n : Int) (hn : n = (c.toNat : Int)) (W : World) : (convert 89 9 (.slice (some ⟨W.heap.size, 0, none⟩) 1 1)).run Tryz.prog (W.alloc (.cells #[.int .u8 n] 5)) = .ok (.string ⟨#[c]⟩) (W.alloc (.cells #[.int .u8 n] 5)) := by
  subst hn
  refine run_convert_bytes_back _ 89 9 5 ⟨W.heap.size, 0, none⟩ 1 [c] Tryz.underlying89 Tryz.underlying5 Tryz.underlying9 (fun j hj => ?_)
  have hj0 : j = 0 := by simpa using hj
  subst hj0
  rw [Addr.add_lit]
  simp
/-- A replacer in the making: those of l are in it. -/
structure RepSt (R base : Nat) (l : List UInt8) (w : World) : Prop where
  row : ∃ arr v, w.heap[R]? = some (.cells arr 208 (0, 0)) ∧ (∀ j : Nat, j < 256 → ∃ u, arr[j]? = some u ∧ ((j ∈ l.map (·.toNat) ∧ ∃ a c, u = .slice (some a) 0 c) ∨ (j ∉ l.map (·.toNat) ∧ u = .slice none 0 0))) ∧ arr[256]? = some v ∧ w.ownsRow base 9 1 v l.length (l.map fun c => .string ⟨#[c]⟩)
theorem rep_kept {w w' : World} {B R : Nat} {arr : Array Value} (h : Kept 9 B w w') (hR : w.heap[R]? = some (.cells arr 208 (0, 0))) : w'.heap[R]? = some (.cells arr 208 (0, 0)) :=
  h.block hR (fun c fz e => by injection e with _ e2 _; exact absurd e2 (by decide))
theorem rep_cell {W : World} {R j : Nat} {arr : Array Value} {t : TypeId} {v : Value} (hh : W.heap[R]? = some (.cells arr t (0, 0))) (hv : arr[j]? = some v) : W.cell? ⟨R, j, none⟩ = some v := by simp [World.cell?, hh, hv]
theorem rep_free {W : World} {R : Nat} {arr : Array Value} {t : TypeId} (hh : W.heap[R]? = some (.cells arr t (0, 0))) (j : Nat) : W.frozen? ⟨R, j, none⟩ = false := by simp [World.frozen?, hh]
theorem rep_set {W : World} {R i : Nat} {arr : Array Value} {t : TypeId} (x : Value) (hh : W.heap[R]? = some (.cells arr t (0, 0))) : (W.setCell ⟨R, i, none⟩ x).heap[R]? = some (.cells (arr.setIfInBounds i x) t (0, 0)) := by
  rw [setCell_eq_setRow W R i arr t (0, 0) x hh]
  exact setRow_heap _ _ _ _ _ _ hh
theorem rep_row_ne {W : World} {base n R : Nat} {v : Value} {xs : List Value} {arr : Array Value} (h : W.ownsRow base 9 1 v n xs) (hh : W.heap[R]? = some (.cells arr 208 (0, 0))) : v.ownBlock ≠ some R := fun e => by
  obtain ⟨c, fz, h1⟩ := row_kind h R e
  rw [hh] at h1
  injection h1 with h1
  injection h1 with _ e2 _
  exact absurd e2 (by decide)
theorem rep_bytes (w : World) : Below w.heap.size w (Lib.bytesWorld w 5 ⟨#[]⟩) := ⟨rfl, rfl, rfl, by rw [Lib.bytesWorld_size]; omega, fun j hj => Lib.bytesWorld_at_old w 5 ⟨#[]⟩ j hj⟩
theorem rep_step {R H n g cap : Nat} {l : List UInt8} {c : UInt8} {w : World} {arr : Array Value} {v : Value} (hj : ∀ j : Nat, j < 256 → ∃ u, arr[j]? = some u ∧ ((j ∈ l.map (·.toNat) ∧ ∃ a c, u = .slice (some a) 0 c) ∨ (j ∉ l.map (·.toNat) ∧ u = .slice none 0 0))) (hv : arr[256]? = some v)
    (hh : w.heap[R]? = some (.cells arr 208 (0, 0))) (hn : n = l.length + 1) (hown : w.ownsRow H 9 1 (.slice (some ⟨g, 0, none⟩) n cap) n (l.map (fun c => .string ⟨#[c]⟩) ++ [.string ⟨#[c]⟩])) (k : Nat) (a : Addr) :
    RepSt R H (l ++ [c]) ((Lib.bytesWorld (w.setCell ⟨R, 256, none⟩ (.slice (some ⟨g, 0, none⟩) n cap)) 5 ⟨#[]⟩).setCell ⟨R, c.toNat, none⟩ (.slice (some a) 0 k)) := by
  have h1 := rep_set (i := 256) (.slice (some ⟨g, 0, none⟩) n cap) hh
  have o1 := ownsRow_setCell_other hown (a := ⟨R, 256, none⟩) (rep_row_ne hown hh) (.slice (some ⟨g, 0, none⟩) n cap)
  have hb := rep_bytes (w.setCell ⟨R, 256, none⟩ (.slice (some ⟨g, 0, none⟩) n cap))
  have h2 := (hb.block R (Array.getElem?_eq_some_iff.1 h1).1).trans h1
  have o2 := row_below hb (Nat.le_refl _) o1
  have h3 := rep_set (i := c.toNat) (.slice (some a) 0 k) h2
  have o3 := ownsRow_setCell_other o2 (a := ⟨R, c.toNat, none⟩) (rep_row_ne o2 h2) (.slice (some a) 0 k)
  have hs : 256 < arr.size := (Array.getElem?_eq_some_iff.1 hv).1
  have hc := c.toNat_lt
  refine ⟨_, .slice (some ⟨g, 0, none⟩) n cap, h3, fun j hjl => ?_, ?_, ?_⟩
  · by_cases hjc : j = c.toNat
    · subst hjc
      exact ⟨.slice (some a) 0 k, by rw [Array.getElem?_setIfInBounds_self_of_lt (by simp; omega)], Or.inl ⟨by simp, _, _, rfl⟩⟩
    · obtain ⟨u, hu, h⟩ := hj j hjl
      refine ⟨u, by rw [Array.getElem?_setIfInBounds_ne (Ne.symm hjc), Array.getElem?_setIfInBounds_ne (by omega)]; exact hu, ?_⟩
      rcases h with ⟨h, r⟩ | ⟨h, r⟩
      · exact Or.inl ⟨by rw [List.map_append]; exact List.mem_append_left _ h, r⟩
      · exact Or.inr ⟨by rw [List.map_append, List.mem_append, _root_.not_or]; exact ⟨h, by simpa using hjc⟩, r⟩
  · rw [Array.getElem?_setIfInBounds_ne (by omega), Array.getElem?_setIfInBounds_self_of_lt hs]
  · rw [List.map_append, List.length_append]
    subst hn
    exact o3
/-- The four texts that NewReplacer was handed lie in block o. -/
structure FourAt (o : Nat) (w : World) : Prop where
  a : w.cell? ⟨o, 0, none⟩ = some (.string ⟨#[60]⟩)
  b : w.cell? ⟨o, 1, none⟩ = some (.string ⟨#[]⟩)
  c : w.cell? ⟨o, 2, none⟩ = some (.string ⟨#[62]⟩)
  d : w.cell? ⟨o, 3, none⟩ = some (.string ⟨#[]⟩)
set_option maxHeartbeats 4000000 in
set_option maxRecDepth 100000 in
theorem rep_build (b off o cap : Nat) (w : World) (h4 : w.cell? ⟨b, off + 4, none⟩ = some (.slice (some ⟨o, 0, none⟩) 4 cap)) (h : FourAt o w) :
    Calls Tryz.prog 135 #[.pointer (some ⟨b, off, none⟩)] w fun e w' => ∃ R, e = .returned (.iface 209 (.pointer (some ⟨R, 0, none⟩))) ∧ RepAt R w' ∧ w.heap.size ≤ R ∧ (∀ t c, w'.cell? ⟨R, 256, none⟩ = some (.slice (some ⟨t, 0, none⟩) 2 c) → w.heap.size ≤ t) ∧ Below w.heap.size w w' := by
  obtain ⟨ha, hb, hc, hd⟩ := h
  go_enter Tryz.func135, Tryz.ntmps135
  go_wp2_with fail
  go_loopw [4, 5] (fun v4 v5 wr => ∃ (k : Nat), v5 = .int .i64 (k : Int) ∧ (k = 0 ∧ v4 = .bool true ∨ (k = 2 ∨ k = 4) ∧ v4 = .bool false) ∧ wr = w) (fun _ i _ => 4 - (intOf i).toNat)
  case atStart => exact ⟨0, rfl, Or.inl ⟨rfl, rfl⟩, rfl⟩
  case round =>
    obtain ⟨k, rfl, hk, hw⟩ := hrel
    obtain rfl : w = wr := hw.symm
    clear hw
    rcases hk with ⟨rfl, rfl⟩ | ⟨rfl | rfl, rfl⟩
    · go_wp2_with fail
      go_roundw
      case rel => exact ⟨2, by go_num, Or.inr ⟨Or.inl rfl, rfl⟩, trivial⟩
      case measure => simp [intOf]
    · go_wp2_with fail
      go_roundw
      case rel => exact ⟨4, by go_num, Or.inr ⟨Or.inr rfl, rfl⟩, trivial⟩
      case measure => simp [intOf]
    · have hmk : (Instr.makeSlice 41 (.int .i64 0) (.int .i64 2)).run Tryz.prog w = .ok (.slice (some ⟨w.heap.size, 0, none⟩) 0 2) (w.alloc (.cells (madeCells #[.string ⟨#[]⟩] 2) 9)) := by
        obtain ⟨i0, hi, hz⟩ := Option.map_eq_some_iff.1 Tryz.infoTx
        simp only [Prod.mk.injEq] at hz
        obtain ⟨z0, z1, z2⟩ := hz
        have := run_make (P := Tryz.prog) w 41 9 i0 (.string ⟨#[]⟩) Tryz.underlying41 hi z0 .i64 .i64 0 2 (by omega) (by omega) (by rw [z2]; omega) (by omega)
        rw [z1] at this
        exact this
      have hHR := heap_alloc_new (w.alloc (.cells (madeCells #[.string ⟨#[]⟩] 2) 9)) (.cells Tryz.zeroCells208 208)
      rw [show (w.alloc (.cells (madeCells #[.string ⟨#[]⟩] 2) 9)).heap.size = w.heap.size + 1 by simp] at hHR
      go_wp2_with (refine wpList_store_row rfl 208 (.tmp 11) (.tmp 95) rfl (w.heap.size + 1) (repCells (.slice (some ⟨w.heap.size, 0, none⟩) 0 2)) (by rfl) (by rfl) 208 Tryz.zeroCells208 hHR (by rw [repCells_size]; kernel_rfl) (by rw [repCells_size]; kernel_rfl) (repCells_one rfl) ?_)
      have hR0 : RepSt (w.heap.size + 1) w.heap.size [] (((w.alloc (.cells (madeCells #[.string ⟨#[]⟩] 2) 9)).alloc (.cells Tryz.zeroCells208 208)).setRow (w.heap.size + 1) (repCells (.slice (some ⟨w.heap.size, 0, none⟩) 0 2))) := by
        refine ⟨_, .slice (some ⟨w.heap.size, 0, none⟩) 0 2, setRow_heap _ _ _ _ _ _ hHR, fun j hj => ⟨_, repCells_low hj, Or.inr ⟨by simp, rfl⟩⟩, repCells_last _, ?_⟩
        have h1 : (w.alloc (.cells (madeCells #[.string ⟨#[]⟩] 2) 9)).ownsRow w.heap.size 9 1 (.slice (some ⟨w.heap.size, 0, none⟩) 0 2) 0 [] := World.ownsRow_made w _ 2 (Nat.le_refl _) (by decide) (size_madeCells _ _)
        have h2 := h1.alloc (.cells Tryz.zeroCells208 208)
        have hne : (w.heap.size : Nat) ≠ w.heap.size + 1 := by omega
        refine ⟨h2.1, ?_⟩
        rcases h2.2 with h3 | ⟨g, cp, cur, e1, e2, e3, e4⟩
        · exact Or.inl h3
        · refine Or.inr ⟨g, cp, cur, e1, e2, ?_, e4⟩
          injection e1 with e1 _ _
          injection e1 with e1
          injection e1 with e1 _ _
          rw [setRow_other _ _ _ _ (by rw [← e1]; exact hne)]
          exact e3
      have hb0 : Below w.heap.size w (((w.alloc (.cells (madeCells #[.string ⟨#[]⟩] 2) 9)).alloc (.cells Tryz.zeroCells208 208)).setRow (w.heap.size + 1) (repCells (.slice (some ⟨w.heap.size, 0, none⟩) 0 2))) := by
        have h1 : Below w.heap.size w ((w.alloc (.cells (madeCells #[.string ⟨#[]⟩] 2) 9)).alloc (.cells Tryz.zeroCells208 208)) := ((Below.refl _ _).alloc (Nat.le_refl _) _).alloc (by simp) _
        exact ⟨h1.os, h1.tape, h1.output, by rw [setRow_size]; exact h1.size, fun k hk => (setRow_other _ _ _ _ (by omega)).trans (h1.block k hk)⟩
      generalize ((w.alloc (.cells (madeCells #[.string ⟨#[]⟩] 2) 9)).alloc (.cells Tryz.zeroCells208 208)).setRow (w.heap.size + 1) (repCells (.slice (some ⟨w.heap.size, 0, none⟩) 0 2)) = W0 at hR0 hb0 ⊢
      obtain ⟨H, hH⟩ : ∃ H, w.heap.size = H := ⟨_, rfl⟩
      rw [hH] at hR0 hb0 ⊢
      have hq : ∀ W, (binOp .eql 89 (.slice none 0 0) (.slice none 0 0)).run Tryz.prog W = .ok (.bool true) W := fun W => by first | rfl | kernel_rfl
      have e62 : ∀ h, ((⟨#[62]⟩ : ByteArray)[0]'h).toNat = 62 := fun _ => rfl
      have e60 : ∀ h, ((⟨#[60]⟩ : ByteArray)[0]'h).toNat = 60 := fun _ => rfl
      go_wp2_with fail
      go_loopw [12] (fun i wx => ∃ (z : Int) (l : List UInt8), i = .int .i64 z ∧ (z = 2 ∧ l = [] ∨ z = 0 ∧ l = [62] ∨ z = -2 ∧ l = [62, 60]) ∧ RepSt (H + 1) H l wx ∧ Below H w wx) (fun i _ => (intOf i + 2).toNat)
      case atStart => exact ⟨2, [], rfl, Or.inl ⟨rfl, rfl⟩, hR0, hb0⟩
      case round =>
        obtain ⟨z, l, rfl, hz, hR, hbx⟩ := hrel
        obtain ⟨arr, v, hhR, hj, hv, hown⟩ := hR.row
        have hbs := hbx.size
        rw [hH] at hbs
        have hB : ∀ x, Below H w x → (x.cell? ⟨o, 0, none⟩ = some (.string ⟨#[60]⟩) ∧ x.cell? ⟨o, 1, none⟩ = some (.string ⟨#[]⟩)) ∧ (x.cell? ⟨o, 2, none⟩ = some (.string ⟨#[62]⟩) ∧ x.cell? ⟨o, 3, none⟩ = some (.string ⟨#[]⟩)) := fun x hx => by
          have ho : o < H := by rw [← hH]; exact World.block_lt_of_cell? _ _ ha
          exact ⟨⟨(hx.cell ho).trans ha, (hx.cell ho).trans hb⟩, (hx.cell ho).trans hc, (hx.cell ho).trans hd⟩
        have HB : Hid (∀ x, Below H w x → (x.cell? ⟨o, 0, none⟩ = some (.string ⟨#[60]⟩) ∧ x.cell? ⟨o, 1, none⟩ = some (.string ⟨#[]⟩)) ∧ (x.cell? ⟨o, 2, none⟩ = some (.string ⟨#[62]⟩) ∧ x.cell? ⟨o, 3, none⟩ = some (.string ⟨#[]⟩))) := hB
        clear hB ha hb hc hd hR
        have cV : wr.cell? ⟨H + 1, 256, none⟩ = some v := by simp [World.cell?, hhR, hv]
        have fV : ∀ j, wr.frozen? ⟨H + 1, j, none⟩ = false := fun j => by simp [World.frozen?, hhR]
        rcases hz with ⟨rfl, rfl⟩ | ⟨rfl, rfl⟩ | ⟨rfl, rfl⟩
        · obtain ⟨⟨_, _⟩, hc, hd⟩ := HB.out wr hbx
          obtain ⟨u, hu, h1 | ⟨_, rfl⟩⟩ := hj 62 (by decide)
          · simp at h1
          have cU : wr.cell? ⟨H + 1, 62, none⟩ = some (.slice none 0 0) := rep_cell hhR hu
          have hcv := rep_conv 62 62 rfl wr
          have hb2 : Below H w (wr.alloc (.cells #[.int .u8 62] 5)) := hbx.alloc hbs _
          have hs2 := hb2.size
          rw [hH] at hs2
          have hs2 : H ≤ (wr.alloc (.cells #[.int .u8 62] 5)).heap.size := Nat.le_trans hbs (by simp)
          have hown2 := hown.alloc (.cells #[.int .u8 62] 5)
          have hhR2 : (wr.alloc (.cells #[.int .u8 62] 5)).heap[H + 1]? = some (.cells arr 208 (0, 0)) := (Below.heap_alloc _ _ _ (Array.getElem?_eq_some_iff.1 hhR).1).trans hhR
          go_wp2_with (at_builtin; go_must (refine wpList_push rfl (.tmp 119) (.tmp 123) 41 rfl _ H 9 (.string ⟨#[]⟩) 16 Tryz.underlying41 Tryz.infoTx rfl _ _ _ (by rfl) hown2 [.string ⟨#[62]⟩] _ (by rfl) (by simp) (by simp [Value.oneCell']) (by simp) (by rfl) (by decide) (by simp) hs2 ?_); intro g1 cap1 w5 hown5 hg5 hlt5; have hk5 := (Kept.refl _ _ _).grown hown2 hg5 (Nat.le_refl _) hs2; have hh5 := rep_kept hk5 hhR2; have c5 := rep_cell hh5 hv; have f5 := rep_free hh5 256)
          have hb5 : Below H w w5 := hb2.grown hg5 hs2 (fun j e => (hown2.lt j e).1)
          have hst := fun k a => rep_step (c := 62) hj hv hh5 rfl hown5 k a
          have h6 := rep_set (i := 256) (.slice (some ⟨g1, 0, none⟩) 1 cap1) hh5
          have hb6 : Below H w (w5.setCell ⟨H + 1, 256, none⟩ (.slice (some ⟨g1, 0, none⟩) 1 cap1)) := hb5.setCell (Nat.le_succ _) _
          have hst' : ∀ k a, RepSt (H + 1) H ([] ++ [62]) ((Lib.bytesWorld (w5.setCell ⟨H + 1, 256, none⟩ (.slice (some ⟨g1, 0, none⟩) 1 cap1)) 5 ⟨#[]⟩).setCell ⟨H + 1, 62, none⟩ (.slice (some a) 0 k)) := hst
          generalize w5.setCell ⟨H + 1, 256, none⟩ (.slice (some ⟨g1, 0, none⟩) 1 cap1) = W6 at hst' h6 hb6 ⊢
          have hcw : (convert 9 89 (.string ⟨#[]⟩)).run Tryz.prog W6 = .ok (.slice (some ⟨W6.heap.size, 0, none⟩) 0 (grownCap W6 0 0 5)) (Lib.bytesWorld W6 5 ⟨#[]⟩) := Lib.run_convert_string_bytes (P := Tryz.prog) W6 9 89 5 ⟨#[]⟩ Tryz.underlying9 Tryz.underlying89 Tryz.underlying5
          have hb7 := rep_bytes W6
          have h7 := (hb7.block (H + 1) (Array.getElem?_eq_some_iff.1 h6).1).trans h6
          have hb7' : Below H w (Lib.bytesWorld W6 5 ⟨#[]⟩) := hb6.trans (hb7.mono (Nat.le_trans (Nat.le_of_eq hH.symm) hb6.size))
          generalize Lib.bytesWorld W6 5 ⟨#[]⟩ = W7 at hst' h7 hcw hb7' ⊢
          have c7 : W7.cell? ⟨H + 1, 62, none⟩ = some (.slice none 0 0) := rep_cell h7 (by rw [Array.getElem?_setIfInBounds_ne (by decide)]; exact hu)
          have f7 := rep_free h7 62
          clear hown5 hg5 hk5 hh5 c5 f5 hst h6 h7 hb7 hb6 hb5 hcv hb2 hs2 hown2 hhR2 hhR hj hv hown cV fV cU hu hbx
          rw [hcw]
          go_wp2_with fail
          go_roundw
          case rel => exact ⟨0, [] ++ [62], by go_num, Or.inr (Or.inl ⟨rfl, rfl⟩), hst' _ _, hb7'.setCell (Nat.le_succ _) _⟩
          case measure => simp [intOf]
        · obtain ⟨⟨hc, hd⟩, _, _⟩ := HB.out wr hbx
          obtain ⟨u, hu, h1 | ⟨_, rfl⟩⟩ := hj 60 (by decide)
          · simp at h1
          have cU : wr.cell? ⟨H + 1, 60, none⟩ = some (.slice none 0 0) := rep_cell hhR hu
          have hcv := rep_conv 60 60 rfl wr
          have hb2 : Below H w (wr.alloc (.cells #[.int .u8 60] 5)) := hbx.alloc hbs _
          have hs2 := hb2.size
          rw [hH] at hs2
          have hs2 : H ≤ (wr.alloc (.cells #[.int .u8 60] 5)).heap.size := Nat.le_trans hbs (by simp)
          have hown2 := hown.alloc (.cells #[.int .u8 60] 5)
          have hhR2 : (wr.alloc (.cells #[.int .u8 60] 5)).heap[H + 1]? = some (.cells arr 208 (0, 0)) := (Below.heap_alloc _ _ _ (Array.getElem?_eq_some_iff.1 hhR).1).trans hhR
          go_wp2_with (at_builtin; go_must (refine wpList_push rfl (.tmp 119) (.tmp 123) 41 rfl _ H 9 (.string ⟨#[]⟩) 16 Tryz.underlying41 Tryz.infoTx rfl _ _ _ (by rfl) hown2 [.string ⟨#[60]⟩] _ (by rfl) (by simp) (by simp [Value.oneCell']) (by simp) (by rfl) (by decide) (by simp) hs2 ?_); intro g1 cap1 w5 hown5 hg5 hlt5; have hk5 := (Kept.refl _ _ _).grown hown2 hg5 (Nat.le_refl _) hs2; have hh5 := rep_kept hk5 hhR2; have c5 := rep_cell hh5 hv; have f5 := rep_free hh5 256)
          have hb5 : Below H w w5 := hb2.grown hg5 hs2 (fun j e => (hown2.lt j e).1)
          have hst := fun k a => rep_step (c := 60) hj hv hh5 rfl hown5 k a
          have h6 := rep_set (i := 256) (.slice (some ⟨g1, 0, none⟩) 2 cap1) hh5
          have hb6 : Below H w (w5.setCell ⟨H + 1, 256, none⟩ (.slice (some ⟨g1, 0, none⟩) 2 cap1)) := hb5.setCell (Nat.le_succ _) _
          have hst' : ∀ k a, RepSt (H + 1) H ([62] ++ [60]) ((Lib.bytesWorld (w5.setCell ⟨H + 1, 256, none⟩ (.slice (some ⟨g1, 0, none⟩) 2 cap1)) 5 ⟨#[]⟩).setCell ⟨H + 1, 60, none⟩ (.slice (some a) 0 k)) := hst
          generalize w5.setCell ⟨H + 1, 256, none⟩ (.slice (some ⟨g1, 0, none⟩) 2 cap1) = W6 at hst' h6 hb6 ⊢
          have hcw : (convert 9 89 (.string ⟨#[]⟩)).run Tryz.prog W6 = .ok (.slice (some ⟨W6.heap.size, 0, none⟩) 0 (grownCap W6 0 0 5)) (Lib.bytesWorld W6 5 ⟨#[]⟩) := Lib.run_convert_string_bytes (P := Tryz.prog) W6 9 89 5 ⟨#[]⟩ Tryz.underlying9 Tryz.underlying89 Tryz.underlying5
          have hb7 := rep_bytes W6
          have h7 := (hb7.block (H + 1) (Array.getElem?_eq_some_iff.1 h6).1).trans h6
          have hb7' : Below H w (Lib.bytesWorld W6 5 ⟨#[]⟩) := hb6.trans (hb7.mono (Nat.le_trans (Nat.le_of_eq hH.symm) hb6.size))
          generalize Lib.bytesWorld W6 5 ⟨#[]⟩ = W7 at hst' h7 hcw hb7' ⊢
          have c7 : W7.cell? ⟨H + 1, 60, none⟩ = some (.slice none 0 0) := rep_cell h7 (by rw [Array.getElem?_setIfInBounds_ne (by decide)]; exact hu)
          have f7 := rep_free h7 60
          clear hown5 hg5 hk5 hh5 c5 f5 hst h6 h7 hb7 hb6 hb5 hcv hb2 hs2 hown2 hhR2 hhR hj hv hown cV fV cU hu hbx
          rw [hcw]
          go_wp2_with fail
          go_roundw
          case rel => exact ⟨-2, [62] ++ [60], by go_num, Or.inr (Or.inr ⟨rfl, rfl⟩), hst' _ _, hb7'.setCell (Nat.le_succ _) _⟩
          case measure => simp [intOf]
        · obtain ⟨ra, rc, rfl⟩ := row_form hown
          have hra : ∃ g, ra = some ⟨g, 0, none⟩ := by
            rcases hown.2 with ⟨h, hn⟩ | ⟨g, cp, cur, h, _⟩
            · exact absurd hn (by decide)
            · injection h with h _ _
              exact ⟨g, h⟩
          obtain ⟨g, rfl⟩ := hra
          have t0 := hown.cellAt 0 (by decide)
          have t1 := hown.cellAt 1 (by decide)
          have hRA : RepAt (H + 1) wr := by
            refine ⟨fun j hjl => ?_, g, rc, cV, t0, t1⟩
            obtain ⟨u, hu, h⟩ := hj j hjl
            refine ⟨u, rep_cell hhR hu, ?_⟩
            rcases h with ⟨h, r⟩ | ⟨h, r⟩
            · refine Or.inl ⟨?_, r⟩
              simp at h
              omega
            · refine Or.inr ⟨?_, r⟩
              simp at h
              omega
          have hgt : H ≤ g := (hown.lt g rfl).1
          have hT : ∀ t c, wr.cell? ⟨H + 1, 256, none⟩ = some (.slice (some ⟨t, 0, none⟩) 2 c) → w.heap.size ≤ t := fun t c h => by
            rw [cV] at h
            injection h with h
            injection h with h _ _
            injection h with h
            injection h with h _ _
            omega
          have HT : Hid (∀ t c, wr.cell? ⟨H + 1, 256, none⟩ = some (.slice (some ⟨t, 0, none⟩) 2 c) → w.heap.size ≤ t) := hT
          clear hj hhR hown t0 t1 cV fV hv hT
          go_wp2_with fail
          go_ret
          exact ⟨_, rfl, hRA, by omega, HT.out, by rw [hH]; exact hbx⟩
end Go.Proofs.YtefgpafoajoofaaGreatDoor
