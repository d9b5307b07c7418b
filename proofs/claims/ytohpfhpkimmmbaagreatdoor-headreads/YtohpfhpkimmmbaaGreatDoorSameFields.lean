/-
  What the statement's sameFields says of fields that are the same.
-/
import Derived.Test.YtohpfhpkimmmbaaGreatDoorHeadRead
import Derived.Deep.QuietTactic
import Derived.BigQuiet
namespace Go.Proofs.YtohpfhpkimmmbaaGreatDoor
open Go.RowKit Go.Proofs.Aid Go.Proofs.Hd Go.Proofs.Sq

set_option maxHeartbeats 1000000 in
set_option maxRecDepth 100000 in
theorem same_fields (v u : Value) (L : List Fb) (w : World) (h : Fg w v L) (h' : Fg w u L) (hl : L.length ≤ 1000) :
    Calls Tryz.prog 38 #[v, u] w fun e w' => e = .returned (.bool true) ∧ Below w.heap.size w w' := by
  have K0 : Hid (∀ W, Below w.heap.size w W → Fg W v L ∧ Fg W u L) := fun W hW => ⟨h.below hW (Nat.le_refl _), h'.below hW (Nat.le_refl _)⟩
  obtain ⟨a, c, rfl, _⟩ := h
  obtain ⟨a', c', rfl, _⟩ := h'
  obtain ⟨len, hn⟩ : ∃ n, L.length = n := ⟨_, rfl⟩
  have HN : Hid (L.length = len) := hn
  rw [hn] at hl K0 ⊢
  clear hn
  go_enter Tryz.func38, Tryz.ntmps38
  go_wp2
  go_loopw [5] (fun i wr => ∃ k : Nat, i = .int .i64 (k : Int) ∧ k ≤ len ∧ Below w.heap.size w wr) (fun i _ => len - (intOf i).toNat)
  case atStart => exact ⟨0, rfl, by omega, Below.refl _ _⟩
  case round =>
    obtain ⟨k, rfl, hk, hb⟩ := hrel
    by_cases hlt : k < len
    · have hkL : k < L.length := by rw [HN.out]; exact hlt
      obtain ⟨⟨x1, y1, hv, hd⟩, ⟨x2, y2, hv', hd'⟩⟩ := K0.out wr hb
      injection hv with hv1 hv2 hv3
      injection hv' with hv1' hv2' hv3'
      subst hv1 hv1'
      rcases hd with h0 | ⟨b, o, rfl, hat⟩
      · rw [h0] at hkL; simp at hkL
      rcases hd' with h0 | ⟨b', o', rfl, hat'⟩
      · rw [h0] at hkL; simp at hkL
      obtain ⟨c1, c2⟩ := hat k _ (List.getElem?_eq_getElem hkL)
      obtain ⟨c3, c4⟩ := hat' k _ (List.getElem?_eq_getElem hkL)
      obtain ⟨⟨x, y⟩, hxy⟩ : ∃ p, L[k] = p := ⟨_, rfl⟩
      rw [hxy] at c1 c2 c3 c4
      simp only at c1 c2 c3 c4
      have hltI : (k : Int) < (len : Int) := by omega
      have h0I : (0 : Int) ≤ (k : Int) := by omega
      clear hat hat' hv2 hv3 hv2' hv3' hxy
      go_wp2
      go_quiet (fail)
      go_wp2
      go_roundw
      case rel => exact ⟨k + 1, by go_num, by omega, below_drewN hb _⟩
      case measure => simp [intOf]; omega
    · go_wp2
      go_ret
      exact ⟨rfl, hb⟩
theorem tx_inj {a b : Fb} (h : tx a = tx b) : a = b := by
  obtain ⟨a1, a2⟩ := a
  obtain ⟨b1, b2⟩ := b
  simp only [tx, Prod.mk.injEq] at h
  rw [text_ext h.1, text_ext h.2]
theorem txs_inj : ∀ {a b : List Fb}, a.map tx = b.map tx → a = b
  | [], [], _ => rfl
  | [], _ :: _, h => by simp at h
  | _ :: _, [], h => by simp at h
  | x :: a, y :: b, h => by
    rw [List.map_cons, List.map_cons, List.cons.injEq] at h
    rw [tx_inj h.1, txs_inj h.2]
end Go.Proofs.YtohpfhpkimmmbaaGreatDoor
