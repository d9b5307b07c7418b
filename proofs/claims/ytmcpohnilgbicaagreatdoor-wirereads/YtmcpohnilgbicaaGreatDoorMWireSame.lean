/-
  What letterboxlaw.sameArgs does of parts that are the same.
-/
import Derived.Test.YtmcpohnilgbicaaGreatDoorWriteAll
import Derived.Deep.RegionHeld3
namespace Go.Proofs.YtmcpohnilgbicaaGreatDoor
open Go.RowKit Go.Proofs.Aid Go.Proofs.Sq Go.Proofs.Hd
open Go.Proofs.Sr (Ar)

/-- No list is too long. -/
inductive Ln : List Ar → Prop
  | mk (l : List Ar) (h : l.length ≤ 100000) (hl : ∀ x ∈ l, Ln x.list) : Ln l
set_option maxHeartbeats 4000000 in
set_option maxRecDepth 100000 in
theorem wsame_at (l : List Ar) (va vb : Option Addr) (N ca cb : Nat) (w : World) (Ok1 Ok2 : Nat → Prop) (h1 : Agw w Ok1 l (.slice va N ca)) (h2 : Agw w Ok2 l (.slice vb N cb)) (hN : l.length = N) (hl : N ≤ 100000)
    (cR : ∀ (x : Ar), x ∈ l → ∀ (xa xb : Option Addr) (n1 n2 c1 c2 : Nat) W, Below w.heap.size w W → Agw w Ok1 x.list (.slice xa n1 c1) → Agw w Ok2 x.list (.slice xb n2 c2) → Calls Tryz.prog 10 #[.slice xa n1 c1, .slice xb n2 c2] W fun e w' => e = .returned (.bool true) ∧ Below W.heap.size W w') :
    Calls Tryz.prog 10 #[.slice va N ca, .slice vb N cb] w fun e w' => e = .returned (.bool true) ∧ Below w.heap.size w w' := by
  have HN : Hid (l.length = N) := hN
  have H1 : Hid (Agw w Ok1 l (.slice va N ca)) := h1
  have H2 : Hid (Agw w Ok2 l (.slice vb N cb)) := h2
  have HR : Hid (∀ (x : Ar), x ∈ l → ∀ (xa xb : Option Addr) (n1 n2 c1 c2 : Nat) W, Below w.heap.size w W → Agw w Ok1 x.list (.slice xa n1 c1) → Agw w Ok2 x.list (.slice xb n2 c2) → Calls Tryz.prog 10 #[.slice xa n1 c1, .slice xb n2 c2] W fun e w' => e = .returned (.bool true) ∧ Below W.heap.size W w') := cR
  clear h1 h2 hN cR
  go_enter Tryz.func10, Tryz.ntmps10
  go_wp2_with fail
  go_loopw [5] (fun i wr => ∃ k : Nat, i = .int .i64 (k : Int) ∧ k ≤ N ∧ Below w.heap.size w wr) (fun i _ => N - (intOf i).toNat)
  case atStart => exact ⟨0, rfl, by omega, Below.refl _ _⟩
  case round =>
    obtain ⟨k, rfl, hk, hbW⟩ := hrel
    by_cases hlt : k < N
    · have hkl : k < l.length := by rw [HN.out]; exact hlt
      obtain ⟨x, hx⟩ : ∃ x, l[k] = x := ⟨_, rfl⟩
      have hxk : l[k]? = some x := by rw [List.getElem?_eq_getElem hkl, hx]
      obtain ⟨b1, o1, t1, xa, n1, c1, rfl, ht1, ha1, p0, p1, p2⟩ := agw_at H1.out hxk
      obtain ⟨b2, o2, t2, xb, n2, c2, rfl, ht2, ha2, q0, q1, q2⟩ := agw_at H2.out hxk
      obtain rfl : t1 = t2 := by
        have := ht1.trans ht2.symm
        have h := congrArg (fun l => (⟨l.toArray⟩ : ByteArray)) this
        exact ByteArray.ext (by simpa using h)
      have cQ := HR.out x (List.mem_of_getElem? hxk) xa xb n1 n2 c1 c2
      have HQ : Hid (∀ W, Below w.heap.size w W → Calls Tryz.prog 10 #[.slice xa n1 c1, .slice xb n2 c2] W fun e w' => e = .returned (.bool true) ∧ Below w.heap.size w w') := fun W hW => (cQ W hW ha1 ha2).mono fun e w' h => ⟨h.1, hW.trans (h.2.mono hW.size)⟩
      have HS : Hid (∀ W, Below w.heap.size w W → (W.cell? ⟨b1, o1 + k * 3, none⟩ = some (.int .i64 x.kind) ∧ W.cell? ⟨b1, o1 + k * 3 + 1, none⟩ = some (.string t1) ∧ W.cell? ⟨b1, o1 + k * 3 + 2, none⟩ = some (.slice xa n1 c1)) ∧ W.cell? ⟨b2, o2 + k * 3, none⟩ = some (.int .i64 x.kind) ∧ W.cell? ⟨b2, o2 + k * 3 + 1, none⟩ = some (.string t1) ∧ W.cell? ⟨b2, o2 + k * 3 + 2, none⟩ = some (.slice xb n2 c2)) := fun W hW => by
        have kp : ∀ {a : Addr} {v : Value}, w.cell? a = some v → W.cell? a = some v := fun h => (hW.cell (World.block_lt_of_cell? _ _ h)).trans h
        exact ⟨⟨kp p0, kp p1, kp p2⟩, kp q0, kp q1, kp q2⟩
      have z1 : (0 : Int) ≤ (k : Int) := by omega
      have z2 : (k : Int) < (N : Int) := by omega
      have z3 : decide ((k : Int) < (N : Int)) = true := decide_eq_true z2
      have z4 : decide (k < N) = true := decide_eq_true hlt
      clear hx hxk ht1 ht2 ha1 ha2 p0 p1 p2 q0 q1 q2 cQ hkl
      go_upto_region 6 with fail
      go_cut [54] from 11 to 54 (fun s wx => s = .bool false ∧ Below w.heap.size w wx)
      case first =>
        first
          | (go_region_held3 (fun W => ((W.cell? ⟨b1, o1 + k * 3, none⟩ = some (.int .i64 x.kind) ∧ W.cell? ⟨b1, o1 + k * 3 + 1, none⟩ = some (.string t1) ∧ W.cell? ⟨b1, o1 + k * 3 + 2, none⟩ = some (.slice xa n1 c1)) ∧ W.cell? ⟨b2, o2 + k * 3, none⟩ = some (.int .i64 x.kind) ∧ W.cell? ⟨b2, o2 + k * 3 + 1, none⟩ = some (.string t1) ∧ W.cell? ⟨b2, o2 + k * 3 + 2, none⟩ = some (.slice xb n2 c2)))
              ((refine HS.out _ ?_; (repeat (first | (with_reducible assumption) | (with_reducible refine Below.drew ?_)))))
              (first | (go_at_call 10; with_reducible refine (HQ.out _ ?_).mono ?_; (focus (repeat (first | (with_reducible assumption) | (with_reducible refine Below.drew ?_)))); rintro e wA ⟨rfl, kA⟩)))
          | fail
        all_goals (go_wp2_with fail; go_meet; case rel => exact ⟨rfl, by assumption⟩)
      case rest =>
        obtain ⟨rfl, hb6⟩ := hcut
        go_wp2_with fail
        go_roundw
        case rel => exact ⟨k + 1, by go_num, by omega, hb6⟩
        case measure => simp [intOf]; omega
    · obtain rfl : k = N := by omega
      go_wp2_with fail
      go_ret
      exact ⟨rfl, hbW⟩
theorem wsame_is (l : List Ar) (hl : Ln l) : ∀ (w : World) (Ok1 Ok2 : Nat → Prop) (v1 v2 : Value) (W : World), Agw w Ok1 l v1 → Agw w Ok2 l v2 → Below w.heap.size w W →
    Calls Tryz.prog 10 #[v1, v2] W fun e w' => e = .returned (.bool true) ∧ Below W.heap.size W w' := by
  induction hl with
  | mk l hn hx ih =>
    intro w Ok1 Ok2 v1 v2 W h1 h2 hW
    obtain ⟨a1, c1, rfl⟩ := h1.form
    obtain ⟨a2, c2, rfl⟩ := h2.form
    exact wsame_at l a1 a2 l.length c1 c2 W (fun k => Ok1 k ∧ k < w.heap.size) (fun k => Ok2 k ∧ k < w.heap.size) (h1.kept fun k hk hlt => ⟨⟨hk, hlt⟩, hW.block k hlt⟩) (h2.kept fun k hk hlt => ⟨⟨hk, hlt⟩, hW.block k hlt⟩) rfl hn
      fun x hxm xa xb n1 n2 c1 c2 W' hW' g1 g2 => ih x hxm W _ _ _ _ W' g1 g2 hW'
end Go.Proofs.YtmcpohnilgbicaaGreatDoor
