/-
  Messages cloned.
-/
import Derived.Test.YtfdlopimncodcaaGreatDoorMBoxRow
import Derived.Lib.AppendZeros
namespace Go.Proofs.YtfdlopimncodcaaGreatDoor
open Go.RowKit Go.Proofs.Aid Go.Proofs.Bx

theorem Tryz.nilLts (w : World) : (binOp BinOp.eql 70 (.slice none 0 0) (.slice none 0 0)).run Tryz.prog w = .ok (.bool true) w := by kernel_rfl
theorem Tryz.someLts (b : Addr) (n c : Nat) (w : World) : (binOp BinOp.eql 70 (.slice (some b) n c) (.slice none 0 0)).run Tryz.prog w = .ok (.bool false) w := by kernel_rfl
theorem Tryz.noneLts (x b : Addr) (c : Nat) (w : World) : (Builtin.append_ #[70, 70] 70 #[.slice (some x) 0 0, .slice (some b) 0 c]).run Tryz.prog w = .ok (.slice (some x) 0 0) w := by kernel_rfl
set_option maxHeartbeats 1000000 in
set_option maxRecDepth 100000 in
theorem clone_nil (w : World) : Calls Tryz.prog 103 #[.slice none 0 0] w fun e w' => e = .returned (.slice none 0 0) ∧ w' = w := by
  have h := Tryz.nilLts w
  go_enter Tryz.func103, Tryz.ntmps103
  go_wp2_with fail
  go_ret
  exact ⟨rfl, rfl⟩
set_option maxHeartbeats 1000000 in
set_option maxRecDepth 100000 in
theorem clone_run (b : Addr) (n c : Nat) (w : World) (v' : Value) (w' : World) (hr : (Builtin.append_ #[70, 70] 70 #[.slice (some ⟨w.heap.size, 0, none⟩) 0 0, .slice (some b) n c]).run Tryz.prog (w.alloc (.cells #[] 127)) = .ok v' w') :
    Calls Tryz.prog 103 #[.slice (some b) n c] w fun e w2 => e = .returned v' ∧ w2 = w' := by
  have h := Tryz.someLts b n c w
  have HR : Hid ((Builtin.append_ #[70, 70] 70 #[.slice (some ⟨w.heap.size, 0, none⟩) 0 0, .slice (some b) n c]).run Tryz.prog (w.alloc (.cells #[] 127)) = .ok v' w') := hr
  clear hr
  go_enter Tryz.func103, Tryz.ntmps103
  go_wp2_with (at_builtin; go_must (refine Go.Lib.wpList_append_run _ rfl (.tmp 5) (.tmp 6) 70 70 rfl _ _ rfl rfl v' w' HR.out ?_))
  go_ret
  exact ⟨rfl, rfl⟩
/-- A row of messages that is nobody else's; their flags lie where they lay in w0. -/
def LOwn (w0 w : World) (base : Nat) (v : Value) (l : List Lt) : Prop := ∃ rows : List (List Value), w.ownsRow base 127 4 v l.length rows.flatten ∧ rows.length = l.length ∧ (∀ (j : Nat) x xs, l[j]? = some x → rows[j]? = some xs → LtRow w0 x xs) ∧ ∀ xs ∈ rows, xs.length = 4
theorem own_lower {w : World} {base base' : Nat} {e : TypeId} {size n : Nat} {v : Value} {xs : List Value} (h : w.ownsRow base e size v n xs) (hb : base' ≤ base) : w.ownsRow base' e size v n xs :=
  ⟨h.1, h.2.imp id fun ⟨g, cap, cur, h1, h2, r⟩ => ⟨g, cap, cur, h1, Nat.le_trans hb h2, r⟩⟩
theorem clone_lts (v : Value) (l : List Lt) (w : World) (h : Lts w v l) (hl : l.length ≤ 1000) :
    Calls Tryz.prog 103 #[v] w fun e w' => (∃ v', e = .returned v' ∧ Lts w' v' l ∧ (l ≠ [] → LOwn w w' w.heap.size v' l)) ∧ Below w.heap.size w w' := by
  obtain ⟨a, c, rfl, ⟨h0, hc1, hc2⟩, ha⟩ := h
  cases a with
  | none =>
    have hn : l = [] := by
      rcases ha with h | ⟨b, o, h, _⟩
      · exact h
      · cases h
    subst hn
    obtain rfl := h0 rfl
    refine (clone_nil w).mono ?_
    rintro e w' ⟨rfl, rfl⟩
    exact ⟨⟨_, rfl, Lts.nil _, fun h => absurd rfl h⟩, Below.refl _ _⟩
  | some ad =>
    have b1 : Below w.heap.size w (w.alloc (.cells #[] 127)) := (Below.refl _ _).alloc (Nat.le_refl _) _
    have z1 : (w.alloc (.cells #[] 127)).heap.size = w.heap.size + 1 := by simp
    by_cases hl0 : l = []
    · subst hl0
      refine (clone_run ad 0 c w _ _ (Tryz.noneLts ⟨w.heap.size, 0, none⟩ ad c _)).mono ?_
      rintro e w' ⟨rfl, rfl⟩
      exact ⟨⟨_, rfl, ⟨_, 0, rfl, ⟨fun e => (by cases e), Nat.le_refl _, by decide⟩, Or.inl rfl⟩, fun h => absurd rfl h⟩, b1⟩
    · rcases ha with rfl | ⟨b, o, h1, hat⟩
      · exact absurd rfl hl0
      · obtain rfl := Option.some.inj h1
        obtain ⟨rows, r1, r2, r3, r4⟩ := lts_rows hat
        obtain ⟨j0, hj, hz, hs, hby⟩ := info_parts Tryz.infoLt
        have hlp : 0 < l.length := List.length_pos_iff.2 hl0
        obtain ⟨v', w', hrun, hown, hg⟩ := run_append_arg_grows (P := Tryz.prog) (w := w.alloc (.cells #[] 127)) 70 70 127 j0 (.agg #[.int .i64 0, .slice none 0 0, .int .i64 0, .string ⟨#[]⟩]) 4 56 Tryz.underlying70 hj hz hs hby rfl (by decide) ⟨w.heap.size, 0, none⟩ 0 0 [] rfl (fun j u h => (by simp at h)) ⟨b, o, none⟩ l.length c rows.flatten (by rw [flat4_len r3, r1]) (fun k u hk => by rw [Addr.add_lit]; have h9 := r4 k u hk; exact (b1.cell (p := ⟨b, _, none⟩) (World.block_lt_of_cell? _ _ h9)).trans h9) (by omega) (by unfold maxLen; omega) (by omega)
        refine (clone_run ⟨b, o, none⟩ l.length c w v' w' hrun).mono ?_
        rintro e w2 ⟨rfl, rfl⟩
        have hb2 : Below (w.heap.size + 1) (w.alloc (.cells #[] 127)) w2 := ⟨hg.os, hg.tape, hg.output, hg.size, fun k hk => hg.block k (by rw [z1]; exact hk) (by simp)⟩
        rw [Nat.zero_add, List.nil_append] at hown
        have hb3 : Below w.heap.size w w2 := b1.trans (hb2.mono (by omega))
        have hown2 := own_lower hown (show w.heap.size ≤ _ by rw [z1]; omega)
        exact ⟨⟨v', rfl, lts_own hown2 r1 (fun j x xs h1 h2 => (r2 j x xs h1 h2).below hb3 (Nat.le_refl _)) r3, fun _ => ⟨rows, hown2, r1, r2, r3⟩⟩, hb3⟩
end Go.Proofs.YtfdlopimncodcaaGreatDoor
