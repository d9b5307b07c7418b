/-
  What head.Get does.
-/
import Derived.Test.YtgbbkdflnlagaaaGreatDoorHeadTake2
import Derived.Test.YtgbbkdflnlagaaaGreatDoorHeadLetters
namespace Go.Proofs.YtgbbkdflnlagaaaGreatDoor
open Go.RowKit Go.Proofs.Aid Go.Proofs.Hd Go.Proofs.Sq

def Short (L : List Fb) : Prop := ∀ f ∈ L, f.1.size ≤ 1000000 ∧ f.2.size ≤ 1000000
theorem getF_cons (f : Hd.Fd) (r : List Hd.Fd) (n : Tx) : getF (f :: r) n = if small f.1 = small n then some f.2 else getF r n := by
  unfold getF
  by_cases h : small f.1 = small n
  · rw [List.find?_cons_of_pos (by simp [h]), if_pos h]; rfl
  · rw [List.find?_cons_of_neg (by simp [h]), if_neg h]
def FB (b : Nat) (x y : ByteArray) (W : World) : Prop := W.heap[b]? = some (.cells #[.string x, .string y] 123 (0, 0))
set_option maxHeartbeats 1000000 in
set_option maxRecDepth 100000 in
theorem get_is (v : Value) (L : List Fb) (n : ByteArray) (w : World) (h : Fg w v L) (hL : L.length ≤ 100) (hsh : Short L) (hn : n.size ≤ 1000000) :
    Calls Tryz.prog 98 #[v, .string n] w fun e w' => Below w.heap.size w w' ∧ ((∃ x : ByteArray, getF (L.map tx) n.data.toList = some x.data.toList ∧ e = .returned (.tuple #[.string x, .bool true])) ∨ (getF (L.map tx) n.data.toList = none ∧ e = .returned (.tuple #[.string ⟨#[]⟩, .bool false]))) := by
  have cN := small_is n w hn
  obtain ⟨ns, hns⟩ : ∃ x : ByteArray, ⟨(small n.data.toList).toArray⟩ = x := ⟨_, rfl⟩
  have HNS : Hid (ns.data.toList = small n.data.toList) := by show _ = _; rw [← hns]
  rw [hns] at cN
  have HSH : Hid (Short L) := hsh
  obtain ⟨G, hG⟩ : ∃ G, getF (L.map tx) n.data.toList = G := ⟨_, rfl⟩
  have HG : Hid (getF (L.map tx) n.data.toList = G) := hG
  rw [hG]
  have K0 : Hid (∀ W, Below w.heap.size w W → Fg W v L) := fun W hW => h.below hW (Nat.le_refl _)
  obtain ⟨a, c, rfl, _⟩ := h
  obtain ⟨N, hN⟩ : ∃ N, L.length = N := ⟨_, rfl⟩
  have HN : Hid (L.length = N) := hN
  rw [hN] at hL K0 ⊢
  clear hns hsh hG hN
  go_enter Tryz.func98, Tryz.ntmps98
  go_wp2_with fail
  refine cN.mono ?_
  clear cN
  rintro e w1 ⟨rfl, hb1⟩
  go_wp2_with fail
  go_loopw [13] (fun i wr => ∃ k : Nat, i = .int .i64 (k : Int) ∧ k ≤ N ∧ Hid (getF ((L.drop k).map tx) n.data.toList = G) ∧ Below w.heap.size w wr) (fun i _ => N - (intOf i).toNat)
  case atStart => exact ⟨0, rfl, by omega, by show _ = _; simpa using HG.out, hb1⟩
  case round =>
    obtain ⟨k, rfl, hk, HR, hbW⟩ := hrel
    by_cases hlt : k < N
    · have hkL : k < L.length := by rw [HN.out]; exact hlt
      obtain ⟨a', c', hv, hd⟩ := K0.out wr hbW
      injection hv with hv1 hv2 hv3
      subst hv1
      rcases hd with h0 | ⟨b, o, rfl, hat⟩
      · rw [h0] at hkL; simp at hkL
      obtain ⟨c1, c2⟩ := hat k _ (List.getElem?_eq_getElem hkL)
      have hsx := HSH.out _ (List.getElem_mem hkL)
      have HRR : Hid ((if small (tx L[k]).1 = small n.data.toList then some (tx L[k]).2 else getF ((L.drop (k + 1)).map tx) n.data.toList) = G) := by
        have := HR.out
        rw [List.drop_eq_getElem_cons hkL, List.map_cons, getF_cons] at this
        exact this
      obtain ⟨⟨x, y⟩, hxy⟩ : ∃ p, L[k] = p := ⟨_, rfl⟩
      rw [hxy] at c1 c2 hsx HRR
      simp only at c1 c2 hsx
      have HRR : Hid ((if small x.data.toList = small n.data.toList then some y.data.toList else getF ((L.drop (k + 1)).map tx) n.data.toList) = G) := HRR.out
      have hh2 := heap_alloc_new wr (.cells #[.string x, .string y] 123)
      have hb2 : Below w.heap.size w (wr.alloc (.cells #[.string x, .string y] 123)) := hbW.alloc hbW.size _
      have hlb : wr.heap.size < (wr.alloc (.cells #[.string x, .string y] 123)).heap.size := by simp
      have d1 : (wr.alloc (.cells #[.string x, .string y] 123)).cell? ⟨wr.heap.size, 0, none⟩ = some (.string x) := rd_cell hh2 rfl
      have d2 : (wr.alloc (.cells #[.string x, .string y] 123)).cell? ⟨wr.heap.size, 1, none⟩ = some (.string y) := rd_cell hh2 rfl
      have cS := small_is x (wr.alloc (.cells #[.string x, .string y] 123)) hsx.1
      obtain ⟨xs, hxs⟩ : ∃ t : ByteArray, ⟨(small x.data.toList).toArray⟩ = t := ⟨_, rfl⟩
      have HXS : Hid (xs.data.toList = small x.data.toList) := by show _ = _; rw [← hxs]
      rw [hxs] at cS
      clear hxs hat hv2 hv3 hxy HR hh2
      go_wp2_with fail
      refine cS.mono ?_
      clear cS
      rintro e w3 ⟨rfl, hb3⟩
      have e2 := (hb3.cell (p := ⟨wr.heap.size, 1, none⟩) hlb).trans d2
      have hb03 := hb2.trans (hb3.mono hb2.size)
      by_cases heq : small x.data.toList = small n.data.toList
      · have HE : Hid (some y.data.toList = G) := by have := HRR.out; rw [if_pos heq] at this; exact this
        obtain rfl : xs = ns := text_ext (by rw [HXS.out, HNS.out]; exact heq)
        clear HRR heq
        go_wp2_with fail
        go_ret2
        exact ⟨hb03, Or.inl ⟨y, HE.out.symm, rfl⟩⟩
      · have HE : Hid (getF ((L.drop (k + 1)).map tx) n.data.toList = G) := by have := HRR.out; rw [if_neg heq] at this; exact this
        have hq : (xs.toList == ns.toList) = false := by
          rw [Lib.toList_data, Lib.toList_data, HXS.out, HNS.out, beq_eq_false_iff_ne]
          exact heq
        clear HRR heq
        go_wp2_with fail
        go_roundw
        case rel => exact ⟨k + 1, by go_num, by omega, HE.out, hb03⟩
        case measure => simp [intOf]; omega
    · have HE : Hid (G = none) := by
        have := HR.out
        rw [List.drop_eq_nil_of_le (by rw [HN.out]; omega)] at this
        exact this.symm
      go_wp2_with fail
      go_ret2
      exact ⟨hbW, Or.inr ⟨HE.out, rfl⟩⟩
end Go.Proofs.YtgbbkdflnlagaaaGreatDoor
