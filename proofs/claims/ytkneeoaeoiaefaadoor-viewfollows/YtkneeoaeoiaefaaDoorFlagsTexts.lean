/-
  The statements' texts: are texts short enough to be held?
-/
import Derived.Test.YtkneeoaeoiaefaaDoorFlagsSet
namespace Go.Proofs.YtkneeoaeoiaefaaDoor
open Go.RowKit Go.Proofs.Aid Go.Proofs.Fl Go.Sort Go.Lib

theorem texts_any (v : Value) (l : List Tx) (w : World) (h : Sl w v l) :
    Calls Tryd.prog 15 #[v] w fun e w' => e = .returned (.bool (decide (l.length ≤ 40) && l.all fun t => decide (t.length ≤ 100))) ∧ w' = w := by
  obtain ⟨a, c, rfl, h0, ha⟩ := h
  obtain ⟨R, hR⟩ : ∃ R, (decide (l.length ≤ 40) && l.all fun t => decide (t.length ≤ 100)) = R := ⟨_, rfl⟩
  rw [hR]
  by_cases hl : l.length ≤ 40
  · rw [decide_eq_true hl, Bool.true_and] at hR
    have HR : Hid ((l.all fun t => decide (t.length ≤ 100)) = R) := hR
    obtain ⟨len, hn⟩ : ∃ n, l.length = n := ⟨_, rfl⟩
    rw [hn] at hl ⊢
    have hl' : ¬ (40 : Int) < (len : Int) := by omega
    have HN : Hid (l.length = len) := hn
    clear hR hn
    go_enter Tryd.func15, Tryd.ntmps15
    go_wp2
    go_loop [3] (fun i => ∃ k : Nat, i = .int .i64 (k : Int) ∧ k ≤ len ∧ Hid (∀ t ∈ l.take k, t.length ≤ 100)) (fun i => len - (intOf i).toNat)
    case atStart => exact ⟨0, rfl, Nat.zero_le _, fun t ht => by simp at ht⟩
    case round =>
      obtain ⟨k, rfl, hk, HK⟩ := hrel
      have hnn := HN.out
      by_cases hlt : k < len
      · rcases ha with rfl | ⟨b, o, rfl, hat⟩
        · simp at hnn; omega
        have hkl : k < l.length := by omega
        have c1 := hat k _ (List.getElem?_eq_getElem hkl)
        obtain ⟨t, ht⟩ : ∃ t, l[k] = t := ⟨_, rfl⟩
        have HT : Hid (l[k] = t) := ht
        rw [ht] at c1
        obtain ⟨s, hse⟩ : ∃ s : ByteArray, ⟨t.toArray⟩ = s := ⟨_, rfl⟩
        have hst : t.length = s.size := by rw [← hse]; simp [ByteArray.size]
        have HST : Hid (t.length = s.size) := hst
        have c2 : w.cell? ⟨b, o + k, none⟩ = some (.string s) := by rw [← hse]; exact c1
        clear hat ht hse hst c1 hnn
        by_cases h100 : s.size ≤ 100
        · have h1 : ¬ (100 : Int) < (s.size : Int) := by omega
          go_wp2
          go_round
          case rel => exact ⟨k + 1, by go_num, by omega, fun t' ht' => by
            rw [List.take_succ_eq_append_getElem hkl, HT.out] at ht'
            rcases List.mem_append.1 ht' with h | h
            · exact HK.out t' h
            · rw [List.mem_singleton.1 h, HST.out]; exact h100⟩
          case measure => simp [intOf]; omega
        · have h1 : (100 : Int) < (s.size : Int) := by omega
          go_wp2
          go_ret
          refine ⟨?_, rfl⟩
          rw [← HR.out]
          have : (l.all fun t => decide (t.length ≤ 100)) = false := by
            rw [List.all_eq_false]
            exact ⟨t, by rw [← HT.out]; exact List.getElem_mem _, by rw [HST.out]; simpa using h100⟩
          rw [this]; rfl
      · clear ha
        go_wp2
        go_ret
        refine ⟨?_, rfl⟩
        rw [← HR.out]
        have : (l.all fun t => decide (t.length ≤ 100)) = true := by
          rw [List.all_eq_true]
          intro t ht
          have := HK.out t (by rw [List.take_of_length_le (by omega)]; exact ht)
          simpa using this
        rw [this]; rfl
  · rw [decide_eq_false hl, Bool.false_and] at hR
    subst hR
    have hl' : (40 : Int) < (l.length : Int) := by omega
    go_enter Tryd.func15, Tryd.ntmps15
    go_wp2
    go_ret
    exact ⟨rfl, rfl⟩
end Go.Proofs.YtkneeoaeoiaefaaDoor
