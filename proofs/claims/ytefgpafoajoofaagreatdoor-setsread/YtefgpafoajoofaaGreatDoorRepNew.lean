/-
  strings.NewReplacer("<", "", ">", "").Replace: a text without its < and >.
-/
import Derived.Test.YtefgpafoajoofaaGreatDoorRepBuild
namespace Go.Proofs.YtefgpafoajoofaaGreatDoor
open Go.RowKit Go.Proofs.Aid Go.Proofs.Sq

/-- The replacer behind a Replacer at block b lies elsewhere. -/
structure RepOff (b R : Nat) (w : World) : Prop where
  at' : RepAt R w
  ne : R ≠ b
  far : ∀ t c, w.cell? ⟨R, 256, none⟩ = some (.slice (some ⟨t, 0, none⟩) 2 c) → t ≠ b
theorem RepOff.set {b R i : Nat} {w : World} (h : RepOff b R w) (x : Value) : RepOff b R (w.setCell ⟨b, i, none⟩ x) := by
  have hc : ∀ k j, k ≠ b → (w.setCell ⟨b, i, none⟩ x).cell? ⟨k, j, none⟩ = w.cell? ⟨k, j, none⟩ := fun k j hk => World.cell?_setCell_other _ _ _ _ (fun e => hk (congrArg Addr.block e).symm)
  refine ⟨⟨fun j hj => ?_, ?_⟩, h.ne, fun t c ht => h.far t c ((hc R 256 h.ne) ▸ ht)⟩
  · obtain ⟨v, h1, h2⟩ := h.at'.rep j hj
    exact ⟨v, (hc R j h.ne).trans h1, h2⟩
  · obtain ⟨t, c, h1, h2, h3⟩ := h.at'.two
    have hne := h.far t c h1
    exact ⟨t, c, (hc R _ h.ne).trans h1, (hc t _ hne).trans h2, (hc t _ hne).trans h3⟩
theorem RepOff.drew {b R : Nat} {w : World} (h : RepOff b R w) : RepOff b R w.drew := by
  refine ⟨⟨fun j hj => ?_, ?_⟩, h.ne, fun t c ht => h.far t c (by rw [World.cell?_drew] at ht; exact ht)⟩
  · obtain ⟨v, h1, h2⟩ := h.at'.rep j hj
    exact ⟨v, (World.cell?_drew _ _).trans h1, h2⟩
  · obtain ⟨t, c, h1, h2, h3⟩ := h.at'.two
    exact ⟨t, c, (World.cell?_drew _ _).trans h1, (World.cell?_drew _ _).trans h2, (World.cell?_drew _ _).trans h3⟩
set_option maxRecDepth 100000 in
theorem rep_once (b o cap : Nat) (x : Value) (w : World) (hb : b < w.heap.size) (h3 : w.cell? ⟨b, 3, none⟩ = some x) (h4 : w.cell? ⟨b, 4, none⟩ = some (.slice (some ⟨o, 0, none⟩) 4 cap)) (hF : FourAt o w) (f3 : w.frozen? ⟨b, 3, none⟩ = false) (f4 : w.frozen? ⟨b, 4, none⟩ = false) :
    Calls Tryz.prog 101 #[.pointer (some ⟨b, 0, none⟩)] w fun e w' => e = .returned (.tuple #[]) ∧ ∃ R W, Below w.heap.size w W ∧ RepOff b R W ∧ w' = (W.setCell ⟨b, 3, none⟩ (.iface 209 (.pointer (some ⟨R, 0, none⟩)))).setCell ⟨b, 4, none⟩ (.slice none 0 0) := by
  have cB := rep_build b 0 o cap w (by rw [Nat.zero_add]; exact h4) hF
  clear hF
  go_enter Tryz.func101, Tryz.ntmps101
  go_wp2_with fail
  refine cB.mono ?_
  rintro e W ⟨R, rfl, hR, h1, h2, hbl⟩
  have g3 := (hbl.cell (p := ⟨b, 3, none⟩) hb).trans h3
  have g4 := (hbl.cell (p := ⟨b, 4, none⟩) hb).trans h4
  have z3 := (hbl.frozen (p := ⟨b, 3, none⟩) hb).trans f3
  have z4 := (hbl.frozen (p := ⟨b, 4, none⟩) hb).trans f4
  have hO : RepOff b R W := ⟨hR, by omega, fun t c h => by have := h2 t c h; omega⟩
  clear hR h2 cB
  go_wp2_with fail
  go_end0
  exact ⟨rfl, R, W, hbl, hO, rfl⟩
set_option maxRecDepth 100000 in
set_option maxHeartbeats 1000000 in
theorem rep_replace (b o cap : Nat) (x : Value) (s : ByteArray) (w : World) (hb : b < w.heap.size) (hob : o ≠ b) (hO : OnceAt b 0 w) (h3 : w.cell? ⟨b, 3, none⟩ = some x) (h4 : w.cell? ⟨b, 4, none⟩ = some (.slice (some ⟨o, 0, none⟩) 4 cap)) (hF : FourAt o w) (f3 : w.frozen? ⟨b, 3, none⟩ = false) (f4 : w.frozen? ⟨b, 4, none⟩ = false) (hs : s.size ≤ 1000000) :
    Calls Tryz.prog 59 #[.pointer (some ⟨b, 0, none⟩), .string s] w fun e w' => e = .returned (.string ⟨(strip s.data.toList).toArray⟩) ∧ Below b w w' := by
  have hmf : ∀ (fn : Fn) (first cap : Array Value) (w : World), (Instr.makeFunc fn first cap).run Tryz.prog w = .ok (.func fn first cap) w := fun _ _ _ _ => rfl
  have hk : ∀ j, j ≠ 1 → (w.setCell ⟨b, 1, none⟩ (.int .i32 1)).cell? ⟨b, j, none⟩ = w.cell? ⟨b, j, none⟩ := fun j hj => World.cell?_setCell_other _ _ _ _ (fun e => hj (by have := congrArg Addr.off e; simpa using this.symm))
  have hk2 : ∀ j, (w.setCell ⟨b, 1, none⟩ (.int .i32 1)).cell? ⟨o, j, none⟩ = w.cell? ⟨o, j, none⟩ := fun j => World.cell?_setCell_other _ _ _ _ (fun e => hob (congrArg Addr.block e).symm)
  have cO := once_do b 0 101 #[.pointer (some ⟨b, 0, none⟩)] w hO (fun W' => ∃ R, W'.cell? ⟨b, 3, none⟩ = some (.iface 209 (.pointer (some ⟨R, 0, none⟩))) ∧ RepOff b R W' ∧ Below b w W')
    (enters_of Tryz.func101 (by kernel_rfl) rfl) ((rep_once b o cap x (w.setCell ⟨b, 1, none⟩ (.int .i32 1)) (by simpa using hb) ((hk 3 (by decide)).trans h3) ((hk 4 (by decide)).trans h4) ⟨(hk2 0).trans hF.a, (hk2 1).trans hF.b, (hk2 2).trans hF.c, (hk2 3).trans hF.d⟩ (by simpa using f3) (by simpa using f4)).mono (by
      rintro e w' ⟨rfl, R, W, hbl, hoff, rfl⟩
      have hbb : Below b w W := ((Below.refl b w).setCell (p := ⟨b, 1, none⟩) (Nat.le_refl _) _).trans (hbl.mono (by simp; omega))
      have hW : ∀ j, W.cell? ⟨b, j, none⟩ = (w.setCell ⟨b, 1, none⟩ (.int .i32 1)).cell? ⟨b, j, none⟩ := fun j => hbl.cell (p := ⟨b, j, none⟩) (by simpa using hb)
      have hZ : ∀ j, W.frozen? ⟨b, j, none⟩ = w.frozen? ⟨b, j, none⟩ := fun j => (hbl.frozen (p := ⟨b, j, none⟩) (by simpa using hb)).trans (by simp)
      have e3 : W.cell? ⟨b, 3, none⟩ = some x := (hW 3).trans ((hk 3 (by decide)).trans h3)
      refine ⟨rfl, ⟨R, ?_, (hoff.set _).set _, (hbb.setCell (Nat.le_refl _) _).setCell (Nat.le_refl _) _⟩, ?_, ?_, ?_, ?_⟩
      · rw [World.cell?_setCell_other _ _ _ _ (by simp)]
        exact World.cell?_setCell_same _ _ _ e3
      · rw [World.cell?_setCell_other _ _ _ _ (by simp), World.cell?_setCell_other _ _ _ _ (by simp)]
        exact (hW 0).trans ((hk 0 (by decide)).trans hO.done)
      · rw [World.cell?_setCell_other _ _ _ _ (by simp), World.cell?_setCell_other _ _ _ _ (by simp)]
        exact (hW 1).trans (World.cell?_setCell_same _ _ _ hO.lock)
      · simpa using (hZ 0).trans hO.fdone
      · simpa using (hZ 1).trans hO.flock))
  clear hF hO h3 h4 f3 f4 hk hk2
  go_enter Tryz.func59, Tryz.ntmps59
  go_wp2_with fail
  refine cO.mono ?_
  rintro e w1 ⟨rfl, W, ⟨R, hc, hoff, hbl⟩, rfl⟩
  have hoff1 := ((hoff.drew).set (i := 0) (.int .u32 1)).set (i := 0 + 1) (.int .i32 0)
  have hbl1 : Below b w ((W.drew.setCell ⟨b, 0, none⟩ (.int .u32 1)).setCell ⟨b, 0 + 1, none⟩ (.int .i32 0)) := (hbl.drew.setCell (Nat.le_refl _) _).setCell (Nat.le_refl _) _
  have hc1 : ((W.drew.setCell ⟨b, 0, none⟩ (.int .u32 1)).setCell ⟨b, 0 + 1, none⟩ (.int .i32 0)).cell? ⟨b, 3, none⟩ = some (.iface 209 (.pointer (some ⟨R, 0, none⟩))) := by
    rw [World.cell?_setCell_other _ _ _ _ (by simp), World.cell?_setCell_other _ _ _ _ (by simp), World.cell?_drew]
    exact hc
  generalize (W.drew.setCell ⟨b, 0, none⟩ (.int .u32 1)).setCell ⟨b, 0 + 1, none⟩ (.int .i32 0) = W1 at hoff1 hbl1 hc1 ⊢
  have cR := bs_replace R s W1 hoff1.at' hs
  clear hoff hbl hc hoff1
  go_wp2_with fail
  refine cR.mono ?_
  rintro e w2 ⟨rfl, hb2⟩
  go_wp2_with fail
  go_ret
  exact ⟨rfl, hbl1.trans (hb2.mono (by have := hbl1.size; omega))⟩
end Go.Proofs.YtefgpafoajoofaaGreatDoor
