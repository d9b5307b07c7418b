/-
  strings.NewReplacer of < and > to nothing.
-/
import Derived.Test.YtefgpafoajoofaaGreatDoorRepNew
namespace Go.Proofs.YtefgpafoajoofaaGreatDoor
open Go.RowKit Go.Proofs.Aid Go.Proofs.Sq

/-- A Replacer at b that was just made. -/
structure NewAt (b : Nat) (w : World) : Prop where
  lt : b < w.heap.size
  once : OnceAt b 0 w
  r : w.cell? ⟨b, 3, none⟩ = some .nilIface
  four : ∃ o cap, o ≠ b ∧ w.cell? ⟨b, 4, none⟩ = some (.slice (some ⟨o, 0, none⟩) 4 cap) ∧ FourAt o w
  f3 : w.frozen? ⟨b, 3, none⟩ = false
  f4 : w.frozen? ⟨b, 4, none⟩ = false
set_option maxRecDepth 100000 in
set_option maxHeartbeats 1000000 in
theorem rep_new (a : Nat) (w : World) (h : FourAt a w) :
    Calls Tryz.prog 58 #[.slice (some ⟨a, 0, none⟩) 4 4] w fun e w' => ∃ b, e = .returned (.pointer (some ⟨b, 0, none⟩)) ∧ w.heap.size ≤ b ∧ NewAt b w' ∧ Below w.heap.size w w' := by
  obtain ⟨i0, hi, hz⟩ := Option.map_eq_some_iff.1 Tryz.infoTx
  simp only [Prod.mk.injEq] at hz
  obtain ⟨hz0, hz1, hz2⟩ := hz
  have hnews : ∀ (j : Nat) (u : Value), [Value.string ⟨#[60]⟩, Value.string ⟨#[]⟩, Value.string ⟨#[62]⟩, Value.string ⟨#[]⟩][j]? = some u → w.cell? (Addr.add ⟨a, 0, none⟩ j) = some u := fun j u hj => by
    rw [Addr.add_lit, Nat.zero_add]
    match j, hj with
    | 0, hj => obtain rfl : _ = u := by simpa using hj
               exact h.a
    | 1, hj => obtain rfl : _ = u := by simpa using hj
               exact h.b
    | 2, hj => obtain rfl : _ = u := by simpa using hj
               exact h.c
    | 3, hj => obtain rfl : _ = u := by simpa using hj
               exact h.d
    | j + 4, hj => simp at hj
  have hnil : w.ownsRow w.heap.size 9 1 (.slice none 0 0) 0 [] := World.ownsRow_nil _ _ _ _
  clear h
  go_enter Tryz.func58, Tryz.ntmps58
  go_wp2_with (at_builtin; go_must (refine wpList_append_lies _ rfl (.const (.slice none 0 0)) (.tmp 8) 41 rfl w.heap.size 9 i0 (.string ⟨#[]⟩) 1 16 Tryz.underlying41 hi hz0 hz1 hz2 rfl (by decide) _ _ _ (by rfl) hnil ⟨a, 0, none⟩ 4 4 [.string ⟨#[60]⟩, .string ⟨#[]⟩, .string ⟨#[62]⟩, .string ⟨#[]⟩] (by rfl) rfl hnews (by simp [Value.oneCell']) (by decide) (by unfold maxLen; omega) (by omega) (by simp) _ rfl ?_); intro g1 cap1 w5 hown5 hg5 _ hlt5)
  have hb5 : Below w.heap.size w w5 := (Below.refl _ _).grown hg5 (Nat.le_refl _) (fun k e => (hnil.lt k e).1)
  have g0 := hown5.cellAt 0 (by decide)
  have g1' := hown5.cellAt 1 (by decide)
  have g2 := hown5.cellAt 2 (by decide)
  have g3 := hown5.cellAt 3 (by decide)
  go_ret
  refine ⟨_, rfl, hb5.size, ?_, hb5.alloc hb5.size _⟩
  have hh := heap_alloc_new w5 (.cells #[.int .u32 0, .int .i32 0, .int .u32 0, .nilIface, .slice (some ⟨g1, 0, none⟩) 4 cap1] 145)
  have hF : FourAt g1 (w5.alloc (.cells #[.int .u32 0, .int .i32 0, .int .u32 0, .nilIface, .slice (some ⟨g1, 0, none⟩) 4 cap1] 145)) := ⟨(World.cell?_alloc_past _ _ _ hlt5).trans g0, (World.cell?_alloc_past _ _ _ hlt5).trans g1', (World.cell?_alloc_past _ _ _ hlt5).trans g2, (World.cell?_alloc_past _ _ _ hlt5).trans g3⟩
  have hsz : w5.heap.size < (w5.alloc (.cells #[.int .u32 0, .int .i32 0, .int .u32 0, .nilIface, .slice (some ⟨g1, 0, none⟩) 4 cap1] 145)).heap.size := by simp
  generalize w5.alloc (.cells #[.int .u32 0, .int .i32 0, .int .u32 0, .nilIface, .slice (some ⟨g1, 0, none⟩) 4 cap1] 145) = W at hh hF hsz ⊢
  exact ⟨hsz, ⟨rep_cell hh rfl, rep_cell hh rfl, rep_free hh _, rep_free hh _⟩, rep_cell hh rfl, ⟨g1, cap1, by omega, rep_cell hh rfl, hF⟩, rep_free hh _, rep_free hh _⟩
theorem new_replace {b : Nat} {w : World} (h : NewAt b w) (s : ByteArray) (hs : s.size ≤ 1000000) :
    Calls Tryz.prog 59 #[.pointer (some ⟨b, 0, none⟩), .string s] w fun e w' => e = .returned (.string ⟨(strip s.data.toList).toArray⟩) ∧ Below b w w' := by
  obtain ⟨o, cap, ho, h4, hF⟩ := h.four
  exact rep_replace b o cap _ s w h.lt ho h.once h.r h4 hF h.f3 h.f4 hs
end Go.Proofs.YtefgpafoajoofaaGreatDoor
