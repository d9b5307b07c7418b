/-
  The statement's pick; a slice of texts cut in two; appending at a step of a region that draws its order.
-/
import Derived.Test.YtneipabooahihaaDoorFlagsFact
import Derived.Test.YtneipabooahihaaDoorFlagsLaws
import Derived.Deep.RegionHeld3
import Derived.Deep.DrawnRows
import Derived.Deep.AppendLies
import Derived.Maps.AppendAt
namespace Go.Proofs.YtneipabooahihaaDoor
open Go.RowKit Go.Proofs.Aid Go.Proofs.Fl Go.Sort Go.Lib

theorem wrap_u64_nonneg (a : Int) : 0 ≤ IntKind.u64.wrap a := by
  have e1 : IntKind.u64.bits = 64 := rfl
  unfold IntKind.wrap
  rw [e1]
  simp only [IntKind.signed]
  first | omega | (simp; omega) | (split <;> omega)
theorem wrap64_low {x : Int} (h0 : 0 ≤ x) (h1 : x < 1000000) : wrap64 x = x := by unfold wrap64; omega
theorem pick_n (a : Int) (n : Nat) (h0 : 0 < n) (h1 : n ≤ 1000) (w : World) : Calls Tryd.prog 21 #[.int .i64 a, .int .i64 (n : Int)] w fun e w' => (∃ r : Nat, r < n ∧ e = .returned (.int .i64 (r : Int))) ∧ w' = w := by
  have hw : IntKind.u64.wrap (n : Int) = (n : Int) := by
    have e1 : IntKind.u64.bits = 64 := rfl
    unfold IntKind.wrap
    rw [e1]
    simp only [IntKind.signed]
    first | omega | (simp; omega) | (split <;> omega)
  have hz : ((n : Int) == 0) = false := by simp; omega
  go_enter Tryd.func21, Tryd.ntmps21
  go_wp2
  go_ret
  refine ⟨?_, rfl⟩
  have h2 : 0 ≤ IntKind.u64.wrap a := wrap_u64_nonneg a
  have h3 : (IntKind.u64.wrap a).tmod n = (IntKind.u64.wrap a) % n := Int.tmod_eq_emod_of_nonneg h2
  have h4 : 0 ≤ IntKind.u64.wrap a % (n : Int) := Int.emod_nonneg _ (by omega)
  have h5 : IntKind.u64.wrap a % (n : Int) < n := Int.emod_lt_of_pos _ (by omega)
  refine ⟨((IntKind.u64.wrap a) % (n : Int)).toNat, by omega, ?_⟩
  have h6 : wrap64 ((IntKind.u64.wrap a).tmod n) = (((IntKind.u64.wrap a) % (n : Int)).toNat : Int) := by
    rw [h3, wrap64_low h4 (by omega)]; omega
  rw [← h6]
  rfl

theorem step_append_sl {ops : Array Oper} {o : Oper} {a : Act} {K : Act → World → Prop} {Q : Exit → Act → World → Prop} {E : Prop} {w : World} (hgd : o.guard = none) (s x : Operand)
    (ho : o.op = .call { callee := .builtin .append, args := #[s, x], argTypes := #[50, 50] })
    (a0 : World) (v : Value) (n : Nat) (xs : List Value) (hs : a.eval s = v) (hown : w.ownsRow a0.heap.size 9 1 v n xs)
    (b o' m c : Nat) (l : List Tx) (hx : a.eval x = .slice (some ⟨b, o', none⟩) m c) (hm : l.length = m) (hat : ∀ (j : Nat) t, l[j]? = some t → w.cell? ⟨b, o' + j, none⟩ = some (encStr t)) (hlen : n + m ≤ 1000) (hbase : Below a0.heap.size a0 w) (H : Nat) (hH : w.heap.size = H)
    (h : ∀ v' w', w'.ownsRow a0.heap.size 9 1 v' (n + m) (xs ++ l.map encStr) → w.grownBy w' v.ownBlock → (v'.ownBlock = v.ownBlock ∨ v'.ownBlock = some H) → Below a0.heap.size a0 w' → K (a.put o.dst v') w') :
    if Region.wanted o (yielded ops a.tmps) = true then Oper.wp Tryd.prog o a w K Q else E := by
  obtain ⟨i0, hi, hz0, hz1, hz2⟩ := info_parts Tryd.infoStr
  have hw : Region.wanted o (yielded ops a.tmps) = true := by simp [Region.wanted, hgd]
  rw [if_pos hw]
  subst hm
  obtain ⟨v', w', hr, h2, h3, h4, h5⟩ := run_append_own_at w a0.heap.size 50 o.type 9 i0 (.string ⟨#[]⟩) 1 16 Tryd.underlying50 hi hz0 hz1 hz2 rfl (by decide) v n xs hown ⟨b, o', none⟩ l.length c (l.map encStr) (by simp) (enc_at hat) (by intro u hu; obtain ⟨t, _, rfl⟩ := List.mem_map.1 hu; rfl) (by unfold maxLen; omega) (by omega) hbase.size
  rw [hH] at h5
  unfold Oper.wp execOp
  simp only [ho, resolve, invoke, builtin, Sem.run_bind, Sem.run_pure, Result.andThen_ok, List.map_toArray, List.map_cons, List.map_nil, hs, hx, hr]
  exact h v' w' h2 h3 h5 (hbase.grown h3 hbase.size (fun k e => (hown.lt k e).1))
theorem one_at {W : World} {H : Nat} {sK : ByteArray} {t : Tx} (h : W.cell? ⟨H, 0, none⟩ = some (.string sK)) (he : encStr t = .string sK) : ∀ (j : Nat) u, [t][j]? = some u → W.cell? ⟨H, 0 + j, none⟩ = some (encStr u) := by
  intro j u hj
  cases j with
  | zero => cases hj; rw [he]; exact h
  | succ j => simp at hj
theorem far_cell {W w' : World} {row : Option Nat} {H : Nat} {v : Value} (h : W.cell? ⟨H, 0, none⟩ = some v) (hg : W.grownBy w' row) (hne : row ≠ some H) : w'.cell? ⟨H, 0, none⟩ = some v :=
  (hg.cell_far ⟨H, 0, none⟩ (World.block_lt_of_cell? _ _ h) (Ne.symm hne)).trans h
theorem own_ne {w : World} {base e n : Nat} {v : Value} {xs : List Value} (h : w.ownsRow base e 1 v n xs) {H : Nat} (hH : w.heap.size ≤ H) : v.ownBlock ≠ some H := fun e => by have := (h.lt _ e).2; omega
theorem lie_ne {v v0 : Value} {g H F : Nat} (h : v.ownBlock = v0.ownBlock ∨ v.ownBlock = some F) (h0 : v0.ownBlock = some g) (h1 : g ≠ H) (h2 : F ≠ H) : v.ownBlock ≠ some H := by
  rcases h with h | h
  · rw [h, h0]; intro e; exact h1 (Option.some.inj e)
  · rw [h]; intro e; exact h2 (Option.some.inj e)
theorem bel_alloc {a w : World} (h : Below a.heap.size a w) (o : Obj) : Below a.heap.size a (w.alloc o) := h.alloc h.size o
theorem bel_grown {a w w' : World} {e n : Nat} {v : Value} {xs : List Value} (h : Below a.heap.size a w) (hown : w.ownsRow a.heap.size e 1 v n xs) (hg : w.grownBy w' v.ownBlock) : Below a.heap.size a w' := h.grown hg h.size (fun k e => (hown.lt k e).1)
theorem own_fresh {w : World} {base H : Nat} (hH : w.heap.size = H) (hb : base ≤ H) : (w.alloc (.cells #[] 9)).ownsRow base 9 1 (.slice (some ⟨H, 0, none⟩) 0 0) 0 [] := by
  subst hH
  exact World.ownsRow_lit w #[] 0 hb (by decide) rfl
theorem keep_cell {a W : World} {p : Addr} {v : Value} (hc : a.cell? p = some v) (hb : Below a.heap.size a W) : W.cell? p = some v ∧ Below a.heap.size a W :=
  ⟨(hb.cell (World.block_lt_of_cell? _ _ hc)).trans hc, hb⟩
end Go.Proofs.YtneipabooahihaaDoor
