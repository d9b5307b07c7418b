/-
  What head.moved does: letters great and small.
  What head.Great does.
  What the method command of wire.reader does.
-/
import Derived.Test.YtmcpohnilgbicaaGreatDoorProg
import Derived.Test.YtmcpohnilgbicaaGreatDoorSeqBase
import Derived.Test.YtmcpohnilgbicaaGreatDoorHeadFields
import Derived.Lib.ConvBytes
import Derived.WalkKit
import Derived.Test.YtmcpohnilgbicaaGreatDoorWireArgAll
namespace Go.Proofs.YtmcpohnilgbicaaGreatDoor
open Go.RowKit Go.Proofs.Aid Go.Proofs.Hd

def mv (f t : Nat) (c : UInt8) : UInt8 := if f ≤ c.toNat ∧ c.toNat < f + 26 then UInt8.ofNat (c.toNat - f + t) else c
theorem mv_sm (c : UInt8) : mv 65 97 c = sm c := by
  have h : ∀ n : Fin 256, mv 65 97 (UInt8.ofNat n.val) = sm (UInt8.ofNat n.val) := by decide +kernel
  have := h ⟨c.toNat, c.toNat_lt⟩
  simpa using this
theorem mv_gr (c : UInt8) : mv 97 65 c = gr c := by
  have h : ∀ n : Fin 256, mv 97 65 (UInt8.ofNat n.val) = gr (UInt8.ofNat n.val) := by decide +kernel
  have := h ⟨c.toNat, c.toNat_lt⟩
  simpa using this
theorem head_bytes (w : World) (s : ByteArray) : Below w.heap.size w (Lib.bytesWorld w 5 s) := ⟨rfl, rfl, rfl, by rw [Lib.bytesWorld_size]; omega, fun j hj => Lib.bytesWorld_at_old w 5 s j hj⟩
theorem bytes_free (w : World) (s : ByteArray) {j : Nat} (hj : j < s.size) : (Lib.bytesWorld w 5 s).frozen? ⟨w.heap.size, j, none⟩ = false := by
  have h := Lib.bytesWorld_at_new w 5 s
  have hc := Lib.bytesWorld_cell w 5 s j hj
  generalize Lib.bytesWorld w 5 s = W at h hc
  generalize Lib.bytesCells w 5 s = cs at h
  have : j < cs.size := by
    simp [World.cell?, h] at hc
    obtain ⟨h1, _⟩ := Array.getElem?_eq_some_iff.1 hc
    exact h1
  simp [World.frozen?, h]
  omega
set_option maxHeartbeats 2000000 in
set_option maxRecDepth 100000 in
theorem moved_any (f t : Nat) (hf : f + 26 ≤ 255) (ht : t + 26 ≤ 255) (s : ByteArray) (w : World) (hs : s.size ≤ 2000000) :
    Calls Tryz.prog 75 #[.string s, .int .u8 (f : Int), .int .u8 (t : Int)] w fun e w' => e = .returned (.string ⟨(s.data.toList.map (mv f t)).toArray⟩) ∧ Below w.heap.size w w' := by
  have hlen : s.data.toList.length = s.size := by show s.data.toList.length = s.data.size; simp
  have hcw := Lib.run_convert_string_bytes (P := Tryz.prog) w 9 69 5 s Tryz.underlying9 Tryz.underlying69 Tryz.underlying5
  have hb0 := head_bytes w s
  have hc0 : ∀ j, j < s.size → (Lib.bytesWorld w 5 s).cell? ⟨w.heap.size, j, none⟩ = some (.int .u8 (((s.data.toList.getD j 0).toNat : Nat) : Int)) ∧ (Lib.bytesWorld w 5 s).frozen? ⟨w.heap.size, j, none⟩ = false := fun j hj => ⟨Lib.bytesWorld_cell w 5 s j hj, bytes_free w s hj⟩
  obtain ⟨cap, hcap⟩ : ∃ c, grownCap w s.size 0 5 = c := ⟨_, rfl⟩
  rw [hcap] at hcw
  clear hcap
  generalize Lib.bytesWorld w 5 s = W0 at hcw hb0 hc0
  obtain ⟨B, hB⟩ : ∃ B, w.heap.size = B := ⟨_, rfl⟩
  rw [hB] at hcw hc0
  have hbB : w.heap.size ≤ B := by omega
  go_enter Tryz.func75, Tryz.ntmps75
  go_wp2_with fail
  go_loopw [13] (fun i wr => ∃ k : Nat, i = .int .i64 (k : Int) ∧ k ≤ s.size ∧ Hid (∀ j, j < s.size → wr.cell? ⟨B, j, none⟩ = some (.int .u8 (((if j < k then mv f t (s.data.toList.getD j 0) else s.data.toList.getD j 0).toNat : Nat) : Int)) ∧ wr.frozen? ⟨B, j, none⟩ = false) ∧ Below w.heap.size w wr) (fun i _ => s.size - (intOf i).toNat)
  case atStart => exact ⟨0, rfl, by omega, by show ∀ j, _; simpa using hc0, hb0⟩
  case round =>
    obtain ⟨k, rfl, hk, HC, hbW⟩ := hrel
    by_cases hlt : k < s.size
    · obtain ⟨c1, f1⟩ := HC.out k hlt
      rw [if_neg (by omega)] at c1
      obtain ⟨c, hc⟩ : ∃ c, s.data.toList.getD k 0 = c := ⟨_, rfl⟩
      rw [hc] at c1
      have h256 := c.toNat_lt
      have HK : Hid (s.data.toList.getD k 0 = c) := hc
      clear hc hc0
      by_cases hq : f ≤ c.toNat ∧ c.toNat < f + 26
      · have q1 : decide ((f : Int) ≤ (c.toNat : Int)) = true := decide_eq_true (by omega)
        have q2 : decide ((c.toNat : Int) < (f : Int) + 26) = true := decide_eq_true (by omega)
        have hmv : ((mv f t c).toNat : Int) = (c.toNat : Int) - f + t := by
          unfold mv
          rw [if_pos hq, UInt8.toNat_ofNat']
          omega
        have HM : Hid (((mv f t c).toNat : Int) = (c.toNat : Int) - f + t) := hmv
        clear hmv
        go_wp2_with fail
        go_roundw
        case rel =>
          refine ⟨k + 1, by go_num, by omega, ?_, hbW.setCell hbB _⟩
          intro j hj
          obtain ⟨x1, x2⟩ := HC.out j hj
          refine ⟨?_, by simpa using x2⟩
          by_cases hjk : j = k
          · subst hjk
            rw [World.cell?_setCell_same _ _ _ c1, if_pos (by omega), HK.out, HM.out]
          · rw [World.cell?_setCell_other _ _ _ _ (fun e => hjk (by have := congrArg Addr.off e; simpa using this.symm)), x1]
            congr 4
            by_cases h : j < k
            · rw [if_pos h, if_pos (by omega)]
            · rw [if_neg h, if_neg (by omega)]
        case measure => simp [intOf]; omega
      · have HM : Hid (mv f t c = c) := by show _ = _; unfold mv; rw [if_neg hq]
        have HN : ∀ j, j < s.size → wr.cell? ⟨B, j, none⟩ = some (.int .u8 (((if j < k + 1 then mv f t (s.data.toList.getD j 0) else s.data.toList.getD j 0).toNat : Nat) : Int)) ∧ wr.frozen? ⟨B, j, none⟩ = false := fun j hj => by
          obtain ⟨x1, x2⟩ := HC.out j hj
          refine ⟨?_, x2⟩
          by_cases hjk : j = k
          · subst hjk
            rw [c1, if_pos (by omega), HK.out, HM.out]
          · rw [x1]
            congr 4
            by_cases h : j < k
            · rw [if_pos h, if_pos (by omega)]
            · rw [if_neg h, if_neg (by omega)]
        have HNN : Hid (∀ j, j < s.size → wr.cell? ⟨B, j, none⟩ = some (.int .u8 (((if j < k + 1 then mv f t (s.data.toList.getD j 0) else s.data.toList.getD j 0).toNat : Nat) : Int)) ∧ wr.frozen? ⟨B, j, none⟩ = false) := HN
        clear HN
        by_cases q : f ≤ c.toNat
        · have q1 : decide ((f : Int) ≤ (c.toNat : Int)) = true := decide_eq_true (by omega)
          have q2 : decide ((c.toNat : Int) < (f : Int) + 26) = false := decide_eq_false (by omega)
          go_wp2_with fail
          go_roundw
          case rel => exact ⟨k + 1, by go_num, by omega, HNN.out, hbW⟩
          case measure => simp [intOf]; omega
        · have q1 : decide ((f : Int) ≤ (c.toNat : Int)) = false := decide_eq_false (by omega)
          go_wp2_with fail
          go_roundw
          case rel => exact ⟨k + 1, by go_num, by omega, HNN.out, hbW⟩
          case measure => simp [intOf]; omega
    · obtain rfl : k = s.size := by omega
      have hcv := run_convert_bytes_back wr 69 9 5 ⟨B, 0, none⟩ cap (s.data.toList.map (mv f t)) Tryz.underlying69 Tryz.underlying5 Tryz.underlying9 (fun j hj => by
        have hjs : j < s.size := by rw [List.length_map, hlen] at hj; exact hj
        rw [Addr.add_lit, Nat.zero_add, (HC.out j hjs).1, if_pos hjs, List.getElem_map, List.getD_eq_getElem?_getD, List.getElem?_eq_getElem (by rw [hlen]; exact hjs)]
        rfl)
      rw [List.length_map, hlen] at hcv
      clear hc0
      go_wp2_with fail
      go_ret
      exact ⟨rfl, hbW⟩
end Go.Proofs.YtmcpohnilgbicaaGreatDoor
namespace Go.Proofs.YtmcpohnilgbicaaGreatDoor
open Go.RowKit Go.Proofs.Aid Go.Proofs.Hd Go.Proofs.Sq
theorem great_is (s : ByteArray) (w : World) (hs : s.size ≤ 2000000) :
    Calls Tryz.prog 55 #[.string s] w fun e w' => e = .returned (.string ⟨(great s.data.toList).toArray⟩) ∧ Below w.heap.size w w' := by
  have c := moved_any 97 65 (by decide) (by decide) s w hs
  rw [show s.data.toList.map (mv 97 65) = great s.data.toList from List.map_congr_left fun c _ => mv_gr c] at c
  go_enter Tryz.func55, Tryz.ntmps55
  go_wp2_with fail
  refine c.mono ?_
  rintro e w1 ⟨rfl, hb⟩
  go_wp2_with fail
  go_ret
  exact ⟨rfl, hb⟩
end Go.Proofs.YtmcpohnilgbicaaGreatDoor
namespace Go.Proofs.YtmcpohnilgbicaaGreatDoor
open Go.RowKit Go.Proofs.Aid Go.Proofs.Hd

/-- How many a reader counted. -/
def cntOf (w : World) (rb : Nat) : Nat := match w.cell? ⟨rb, 2, none⟩ with
  | some v => (intOf v).toNat
  | none => 0
theorem RdW.cnt {w : World} {rb p c : Nat} {s : ByteArray} (h : RdW w rb s p c) : cntOf w rb = c := by
  have p1 : w.cell? ⟨rb, 2, none⟩ = some (.int .i64 (c : Int)) := rd_cell h rfl
  unfold cntOf
  rw [p1]
  rfl
/-- What command leaves. -/
def OutC (w : World) (rb : Nat) : Wd Cmd → Ending → World → Prop
  | .bad n p, e, w' => ∃ N, e = thrownA N ∧ w.heap.size ≤ N ∧ AtIs w' N n p ∧ But w.heap.size rb w w'
  | .ok k _ _, e, w' => ∃ (tb nb : ByteArray) (v : Value), e = .returned (.agg #[.string tb, .string nb, v]) ∧ tb.data.toList = k.tag ∧ nb.data.toList = k.name ∧ Agw w' (fun q => w.heap.size ≤ q) k.args v ∧ But w.heap.size rb w w'
/-- How far command has come. -/
def CmAt (T : Wd Cmd) (rb cb : Nat) (s tg nm : ByteArray) (w wr : World) : Prop :=
  ∃ (n : Nat) (acc : List Sr.Ar) (P c N : Nat) (va : Option Addr) (vc : Nat), acc.length = N ∧ T = (argsW s.data.toList n acc P c).map (fun l => ⟨tg.data.toList, nm.data.toList, l⟩) ∧ 62 ≤ c + n ∧ c ≤ 60 ∧ N ≤ c ∧ RdW wr rb s P c ∧ P ≤ s.size ∧ But w.heap.size rb w wr ∧
    wr.heap[w.heap.size]? = some (.cells #[.string ⟨#[]⟩, .string ⟨#[]⟩, .slice none 0 0] 32 (0, 0)) ∧ wr.heap[cb]? = some (.cells #[.string tg, .string nm, .slice va N vc] 32 (0, 0)) ∧
    ARow (cb + 1) acc (.slice va acc.length vc) wr ∧ w.heap.size < cb ∧ cb < wr.heap.size
/-- An append in a drawn region, by what it runs to. -/
theorem step_append_run {P : Program} {w w' : World} {ops : Array Oper} {o : Oper} {a : Act} {K : Act → World → Prop} {Q : Exit → Act → World → Prop} {E : Prop} (hgd : o.guard = none) (s x : Operand) (t : TypeId)
    (ho : o.op = .call { callee := .builtin .append, args := #[s, x], argTypes := #[t, t] }) (v xv r : Value) (hs : a.eval s = v) (hx : a.eval x = xv) (hr : (Builtin.append_ #[t, t] o.type #[v, xv]).run P w = .ok r w') (h : K (a.put o.dst r) w') :
    if Region.wanted o (yielded ops a.tmps) = true then Oper.wp P o a w K Q else E := by
  have hw : Region.wanted o (yielded ops a.tmps) = true := by simp [Region.wanted, hgd]
  rw [if_pos hw]
  unfold Oper.wp execOp
  simp only [ho, resolve, invoke, builtin, Sem.run_bind, Sem.run_pure, Result.andThen_ok, List.map_toArray, List.map_cons, List.map_nil, hs, hx, hr]
  exact h
theorem arow_nil (base : Nat) (w : World) : ARow base [] (.slice none 0 0) w := ⟨[], rfl, World.ownsRow_nil _ _ _ _, fun j k xs h => by simp at h, fun xs h => by simp at h⟩
set_option maxHeartbeats 4000000 in
set_option maxRecDepth 100000 in
theorem command_is (rb : Nat) (s : ByteArray) (m : Int) (w : World) (hr : RdW w rb s 0 0) (hs : s.size ≤ 1000000) (hE : Ends s.data.toList) (henv : EnvW w rb m) :
    Calls Tryz.prog 31 #[.pointer (some ⟨rb, 0, none⟩)] w fun e w' => OutC w rb (commandW s.data.toList) e w' := by
  have hrb := hr.lt
  have hlen := hE.len
  rw [wsize] at hlen
  have b1 : Below w.heap.size w (w.alloc (.cells #[.string ⟨#[]⟩, .string ⟨#[]⟩, .slice none 0 0] 32)) := (Below.refl _ _).alloc (Nat.le_refl _) _
  have e1 := heap_alloc_new w (.cells #[.string ⟨#[]⟩, .string ⟨#[]⟩, .slice none 0 0] 32)
  obtain ⟨W1, hW1⟩ : ∃ W, w.alloc (.cells #[.string ⟨#[]⟩, .string ⟨#[]⟩, .slice none 0 0] 32) = W := ⟨_, rfl⟩
  have z1 : W1.heap.size = w.heap.size + 1 := by rw [← hW1]; simp
  rw [hW1] at b1 e1
  have cW := wword_is rb 0 0 s W1 (hr.kept (b1.block rb hrb)) hs (by omega)
  obtain ⟨T, hT⟩ : ∃ T, commandW s.data.toList = T := ⟨_, rfl⟩
  rw [hT]
  unfold commandW at hT
  obtain ⟨R1, hR1⟩ : ∃ R, wordW s.data.toList 0 0 = R := ⟨_, rfl⟩
  have HW1 : Hid (wordW s.data.toList 0 0 = R1) := hR1
  rw [hR1] at cW hT
  have HB1 : Hid (Below w.heap.size w W1 ∧ W1.heap[w.heap.size]? = some (.cells #[.string ⟨#[]⟩, .string ⟨#[]⟩, .slice none 0 0] 32 (0, 0))) := ⟨b1, e1⟩
  have HENV : Hid (EnvW w rb m) := henv
  have HEN : Hid (Ends s.data.toList) := hE
  clear b1 e1 henv hE hr hR1
  go_enter Tryz.func31, Tryz.ntmps31
  go_wp2_with fail
  refine cW.mono ?_
  intro e w2 h2
  clear cW
  cases R1 with
  | bad n q =>
    subst hT
    obtain ⟨N, rfl, hN, hA, hb2⟩ := h2
    have HD : Hid (w.heap.size ≤ N ∧ AtIs w2 N n q ∧ But w.heap.size rb w w2) := ⟨by omega, hA, (to_but HB1.out.1).trans (hb2.less (by omega))⟩
    clear hN hA hb2
    unfold thrownA
    go_wp2_with fail
    exact ⟨rfl, N, rfl, HD.out⟩
  | ok tg p2 c2 =>
    obtain ⟨tb, rfl, htb, hr2, hb2⟩ := h2
    obtain ⟨hp2, hc2⟩ := word_wok (by omega) HW1.out
    rw [wsize] at hp2
    subst hc2
    have hs2 := hb2.size
    have b3 : Below w2.heap.size w2 (w2.alloc (.cells #[.string ⟨#[]⟩, .string ⟨#[]⟩, .slice none 0 0] 32)) := (Below.refl _ _).alloc (Nat.le_refl _) _
    have e3 := heap_alloc_new w2 (.cells #[.string ⟨#[]⟩, .string ⟨#[]⟩, .slice none 0 0] 32)
    obtain ⟨CB, hCB⟩ : ∃ n, w2.heap.size = n := ⟨_, rfl⟩
    obtain ⟨W3, hW3⟩ : ∃ W, w2.alloc (.cells #[.string ⟨#[]⟩, .string ⟨#[]⟩, .slice none 0 0] 32) = W := ⟨_, rfl⟩
    have z3 : W3.heap.size = CB + 1 := by rw [← hW3, ← hCB]; simp
    rw [hW3, hCB] at b3 e3
    obtain ⟨⟨s0, s1, s2⟩, ⟨sf0, sf1, sf2⟩, u0, u1, u2⟩ := three_facts e3 (.string tb) (.string ⟨#[]⟩) (.slice none 0 0)
    have e4 : (((W3.setCell ⟨CB, 0, none⟩ (.string tb)).setCell ⟨CB, 1, none⟩ (.string ⟨#[]⟩)).setCell ⟨CB, 2, none⟩ (.slice none 0 0)).heap[CB]? = some (.cells #[.string tb, .string ⟨#[]⟩, .slice none 0 0] 32 (0, 0)) := rd_set (i := 2) _ (rd_set (i := 1) _ (rd_set (i := 0) (.string tb) e3))
    obtain ⟨W4, hW4⟩ : ∃ W, ((W3.setCell ⟨CB, 0, none⟩ (.string tb)).setCell ⟨CB, 1, none⟩ (.string ⟨#[]⟩)).setCell ⟨CB, 2, none⟩ (.slice none 0 0) = W := ⟨_, rfl⟩
    have z4 : W4.heap.size = CB + 1 := by rw [← hW4]; simpa using z3
    have b4 : Below CB w2 W4 := by rw [← hW4]; exact (((b3.setCell (p := ⟨CB, 0, none⟩) (Nat.le_refl _) _).setCell (p := ⟨CB, 1, none⟩) (Nat.le_refl _) _).setCell (p := ⟨CB, 2, none⟩) (Nat.le_refl _) _)
    rw [hW4] at e4
    have hr4 : RdW W4 rb s p2 0 := hr2.kept (b4.block rb (by omega))
    have cB := blank_is rb p2 0 s W4 hr4 hs hp2
    have HX4 : Hid (But w.heap.size rb w W4 ∧ W4.heap[w.heap.size]? = some (.cells #[.string ⟨#[]⟩, .string ⟨#[]⟩, .slice none 0 0] 32 (0, 0)) ∧ W4.heap[CB]? = some (.cells #[.string tb, .string ⟨#[]⟩, .slice none 0 0] 32 (0, 0))) :=
      ⟨((to_but HB1.out.1).trans (hb2.less (by omega))).trans (to_but (b4.mono (by omega))), (b4.block w.heap.size (by omega)).trans ((hb2.block w.heap.size (by omega) (by omega)).trans HB1.out.2), e4⟩
    have HTG : Hid (tb.data.toList = tg) := htb
    obtain ⟨R2, hR2⟩ : ∃ R, blankW s.data.toList p2 0 = R := ⟨_, rfl⟩
    rw [hR2] at cB
    have HW2 : Hid (blankW s.data.toList p2 0 = R2) := hR2
    have HT2 : Hid ((R2.then fun _ p c => (wordW s.data.toList p c).then fun n p c => (argsW s.data.toList 62 [] p c).map fun l => ⟨tg, great n, l⟩) = T) := by
      have : ((blankW s.data.toList p2 0).then fun _ p c => (wordW s.data.toList p c).then fun n p c => (argsW s.data.toList 62 [] p c).map fun l => ⟨tg, great n, l⟩) = T := hT
      rw [hR2] at this
      exact this
    clear hT hR2 b3 e3 e4 b4 hr4 hb2 hr2 htb HB1 HW1
    go_wp2_with fail
    refine cB.mono ?_
    intro e w5 h5
    clear cB
    cases R2 with
    | bad n q =>
      have hT := HT2.out
      subst hT
      obtain ⟨N, rfl, hN, hA, hb5⟩ := h5
      have HD : Hid (w.heap.size ≤ N ∧ AtIs w5 N n q ∧ But w.heap.size rb w w5) := ⟨by omega, hA, HX4.out.1.trans (hb5.less (by omega))⟩
      clear hN hA hb5
      unfold thrownA
      go_wp2_with fail
      exact ⟨rfl, N, rfl, HD.out⟩
    | ok u p5 c5 =>
      obtain ⟨rfl, hr5, hb5⟩ := h5
      obtain ⟨_, hp5, hc5⟩ := blank_wok HEN.out HW2.out
      rw [wsize] at hp5
      subst hc5
      have hs5 := hb5.size
      have HX5 : Hid (But w.heap.size rb w w5 ∧ w5.heap[w.heap.size]? = some (.cells #[.string ⟨#[]⟩, .string ⟨#[]⟩, .slice none 0 0] 32 (0, 0)) ∧ w5.heap[CB]? = some (.cells #[.string tb, .string ⟨#[]⟩, .slice none 0 0] 32 (0, 0))) :=
        ⟨HX4.out.1.trans (hb5.less (by omega)), (hb5.block w.heap.size (by omega) (by omega)).trans HX4.out.2.1, (hb5.block CB (by omega) (by omega)).trans HX4.out.2.2⟩
      have cW := wword_is rb p5 0 s w5 hr5 hs (by omega)
      obtain ⟨R3, hR3⟩ : ∃ R, wordW s.data.toList p5 0 = R := ⟨_, rfl⟩
      rw [hR3] at cW
      have HW3 : Hid (wordW s.data.toList p5 0 = R3) := hR3
      have HT3 : Hid ((R3.then fun n p c => (argsW s.data.toList 62 [] p c).map fun l => (⟨tg, great n, l⟩ : Cmd)) = T) := by
        have := HT2.out
        have : ((wordW s.data.toList p5 0).then fun n p c => (argsW s.data.toList 62 [] p c).map fun l => (⟨tg, great n, l⟩ : Cmd)) = T := this
        rw [hR3] at this
        exact this
      clear hr5 hb5 hR3 HX4 HT2 HW2
      go_wp2_with fail
      refine cW.mono ?_
      intro e w6 h6
      clear cW
      cases R3 with
      | bad n q =>
        have hT := HT3.out
        subst hT
        obtain ⟨N, rfl, hN, hA, hb6⟩ := h6
        have HD : Hid (w.heap.size ≤ N ∧ AtIs w6 N n q ∧ But w.heap.size rb w w6) := ⟨by omega, hA, HX5.out.1.trans (hb6.less (by omega))⟩
        clear hN hA hb6
        unfold thrownA
        go_wp2_with fail
        exact ⟨rfl, N, rfl, HD.out⟩
      | ok nw p6 c6 =>
        obtain ⟨nb, rfl, hnb, hr6, hb6⟩ := h6
        obtain ⟨hp6, hc6⟩ := word_wok (by rw [wsize]; omega) HW3.out
        rw [wsize] at hp6
        subst hc6
        have hs6 := hb6.size
        have hnz : nb.size ≤ 1000000 := by
          have h1 := HW3.out
          unfold wordW at h1
          split at h1
          · cases h1
          · injection h1 with h1 _ _
            have h2 := wordT_le (s.data.toList.drop p5)
            rw [h1, List.length_drop, wsize, ← hnb, wsize] at h2
            omega
        have cG := great_is nb w6 (Nat.le_trans hnz (by decide))
        rw [hnb] at cG
        obtain ⟨gb, hgb⟩ : ∃ x : ByteArray, ⟨(great nw).toArray⟩ = x := ⟨_, rfl⟩
        have HGB : Hid (gb.data.toList = great nw) := by rw [← hgb]; exact rfl
        rw [hgb] at cG
        have HX6 : Hid (RdW w6 rb s p6 0 ∧ But w.heap.size rb w w6 ∧ w6.heap[w.heap.size]? = some (.cells #[.string ⟨#[]⟩, .string ⟨#[]⟩, .slice none 0 0] 32 (0, 0)) ∧ w6.heap[CB]? = some (.cells #[.string tb, .string ⟨#[]⟩, .slice none 0 0] 32 (0, 0))) :=
          ⟨hr6, HX5.out.1.trans (hb6.less (by omega)), (hb6.block w.heap.size (by omega) (by omega)).trans HX5.out.2.1, (hb6.block CB (by omega) (by omega)).trans HX5.out.2.2⟩
        clear hr6 hb6 HX5 hgb hnb
        go_wp2_with fail
        refine cG.mono ?_
        rintro e w7 ⟨rfl, hb7⟩
        have hs7 := hb7.size
        have e7 := (hb7.block CB (by omega)).trans HX6.out.2.2.2
        have g1 : w7.cell? ⟨CB, 1, none⟩ = some (.string ⟨#[]⟩) := rd_cell e7 rfl
        have gf1 : w7.frozen? ⟨CB, 1, none⟩ = false := rd_free e7 1
        have e8 : (w7.setCell ⟨CB, 1, none⟩ (.string gb)).heap[CB]? = some (.cells #[.string tb, .string gb, .slice none 0 0] 32 (0, 0)) := rd_set (i := 1) (.string gb) e7
        have HS : Hid (CmAt T rb CB s tb gb w (w7.setCell ⟨CB, 1, none⟩ (.string gb))) := by
          refine ⟨62, [], p6, 0, 0, none, 0, rfl, ?_, by omega, by omega, by omega, ?_, hp6, ?_, ?_, e8, arow_nil _ _, by omega, by simp; omega⟩
          · rw [HGB.out, HTG.out, ← HT3.out]; rfl
          · exact HX6.out.1.kept ((Below.heap_setCell _ _ _ _ (show rb ≠ CB by omega)).trans (hb7.block rb (by omega)))
          · exact (HX6.out.2.1.trans (to_but (hb7.mono (by omega)))).trans (to_but ((Below.refl _ _).setCell (p := ⟨CB, 1, none⟩) (by show w.heap.size ≤ CB; omega) _))
          · exact (Below.heap_setCell _ _ _ _ (show w.heap.size ≠ CB by omega)).trans ((hb7.block w.heap.size (by omega)).trans HX6.out.2.2.1)
        clear cG e7 e8 hb7 HX6 HT3 HW3 HGB HTG
        go_wp2_with fail
        clear hW1 hW3 hW4 s0 s1 s2 sf0 sf1 sf2 u0 u1 u2 g1 gf1 z1 z3 z4 hs2 hs5 hs6 hs7 hp2 hp5 hp6 hnz hCB
        go_loopw [] (fun wr => Hid (CmAt T rb CB s tb gb w wr)) (fun wr => 61 - cntOf wr rb)
        case atStart => exact HS
        case round =>
          clear HS
          obtain ⟨n, acc, P, c, N, va, vc, hN, hT, h62, h60, hNc, hr, hP, hb, hE0, hEc, hrow, hCB, hCBs⟩ := hrel.out
          clear hrel
          obtain ⟨j0, hj, hjz0, hjz1, hjz2⟩ := info_parts Tryz.infoArg
          obtain ⟨n, rfl⟩ : ∃ m, n = m + 1 := ⟨n - 1, by omega⟩
          rw [argsW] at hT
          have cR := rest_is rb P c s wr hr hP
          have hre := rest_list s P
          obtain ⟨Q, hQ⟩ : ∃ Q, s.extract P s.size = Q := ⟨_, rfl⟩
          rw [hQ] at cR hre
          have HCN : Hid (cntOf wr rb = c) := hr.cnt
          have HX : Hid (RdW wr rb s P c ∧ But w.heap.size rb w wr ∧ wr.heap[w.heap.size]? = some (.cells #[.string ⟨#[]⟩, .string ⟨#[]⟩, .slice none 0 0] 32 (0, 0)) ∧ wr.heap[CB]? = some (.cells #[.string tb, .string gb, .slice va N vc] 32 (0, 0)) ∧ ARow (CB + 1) acc (.slice va acc.length vc) wr ∧ acc.length = N) := ⟨hr, hb, hE0, hEc, hrow, hN⟩
          clear hr hb hE0 hEc hrow hN hQ
          by_cases hend : s.data.toList.drop P = [13, 10]
          · rw [if_pos hend] at hT
            have hT : T = .ok ⟨tb.data.toList, gb.data.toList, acc⟩ P c := hT
            subst hT
            obtain rfl : Q = ⟨#[13, 10]⟩ := num_ba (by rw [hre, hend])
            clear hre hend
            go_wp2_with fail
            refine cR.mono ?_
            rintro e w5 ⟨rfl, hb5⟩
            have hs5 := hb5.size
            have eC := (hb5.block CB (by omega)).trans HX.out.2.2.2.1
            have eR := (hb5.block w.heap.size (by omega)).trans HX.out.2.2.1
            have l0 : w5.cell? ⟨CB, 0, none⟩ = some (.string tb) := rd_cell eC rfl
            have l1 : w5.cell? ⟨CB, 1, none⟩ = some (.string gb) := rd_cell eC rfl
            have l2 : w5.cell? ⟨CB, 2, none⟩ = some (.slice va N vc) := rd_cell eC rfl
            obtain ⟨⟨s0, s1, s2⟩, ⟨sf0, sf1, sf2⟩, u0, u1, u2⟩ := three_facts eR (.string tb) (.string gb) (.slice va N vc)
            have hag := HX.out.2.2.2.2.1.ags
            rw [HX.out.2.2.2.2.2] at hag
            have HD : Hid (OutC w rb (.ok ⟨tb.data.toList, gb.data.toList, acc⟩ P c) (.returned (.agg #[.string tb, .string gb, .slice va N vc])) (((w5.setCell ⟨w.heap.size, 0, none⟩ (.string tb)).setCell ⟨w.heap.size, 1, none⟩ (.string gb)).setCell ⟨w.heap.size, 2, none⟩ (.slice va N vc))) :=
              ⟨tb, gb, .slice va N vc, rfl, rfl, rfl, hag.kept fun q hq hlt => ⟨by omega, (three_other _ (by omega) _ _ _).trans (hb5.block q hlt)⟩, three_but (HX.out.2.1.trans (to_but (hb5.mono (by omega)))) (Nat.le_refl _) _ _ _⟩
            clear cR hb5 eC eR hag
            go_wp2_with fail
            exact bodyPost_ret (v := .agg #[.string tb, .string gb, .slice va N vc]) (by simp [results, Tryz.results31, go_sem, u0, u1, u2]) rfl HD.out
          · rw [if_neg hend] at hT
            have hne : (Q.toList == [13, 10]) = false := by
              rw [Lib.toList_data, hre, beq_eq_false_iff_ne]
              exact hend
            clear hre hend
            go_wp2_with fail
            refine cR.mono ?_
            rintro e w5 ⟨rfl, hb5⟩
            have hs5 := hb5.size
            have cB := blank_is rb P c s w5 (HX.out.1.kept (hb5.block rb (by omega))) hs hP
            have HX5 : Hid (But w.heap.size rb w w5 ∧ w5.heap[w.heap.size]? = some (.cells #[.string ⟨#[]⟩, .string ⟨#[]⟩, .slice none 0 0] 32 (0, 0)) ∧ w5.heap[CB]? = some (.cells #[.string tb, .string gb, .slice va N vc] 32 (0, 0)) ∧ ARow (CB + 1) acc (.slice va acc.length vc) w5 ∧ acc.length = N) :=
              ⟨HX.out.2.1.trans (to_but (hb5.mono (by omega))), (hb5.block w.heap.size (by omega)).trans HX.out.2.2.1, (hb5.block CB (by omega)).trans HX.out.2.2.2.1, HX.out.2.2.2.2.1.kept fun q _ hlt => hb5.block q hlt, HX.out.2.2.2.2.2⟩
            obtain ⟨R4, hR4⟩ : ∃ R, blankW s.data.toList P c = R := ⟨_, rfl⟩
            rw [hR4] at cB hT
            have HW4 : Hid (blankW s.data.toList P c = R4) := hR4
            clear cR hb5 HX hR4
            go_wp2_with fail
            refine cB.mono ?_
            intro e w6 h6
            clear cB
            cases R4 with
            | bad n q =>
              have hT : T = .bad n q := hT
              subst hT
              obtain ⟨N6, rfl, hN6, hA, hb6⟩ := h6
              have HD : Hid (w.heap.size ≤ N6 ∧ AtIs w6 N6 n q ∧ But w.heap.size rb w w6) := ⟨by omega, hA, HX5.out.1.trans (hb6.less (by omega))⟩
              clear hN6 hA hb6
              unfold thrownA
              go_wp2_with fail
              exact ⟨rfl, N6, rfl, HD.out⟩
            | ok u P6 c6 =>
              obtain ⟨rfl, hr6, hb6⟩ := h6
              obtain ⟨_, hp6, hc6⟩ := blank_wok HEN.out HW4.out
              rw [wsize] at hp6
              subst hc6
              have hs6 := hb6.size
              have hT : T = ((argW s.data.toList 7 P6 c6).then fun a p c => argsW s.data.toList n (acc ++ [a]) p c).map (fun l => (⟨tb.data.toList, gb.data.toList, l⟩ : Cmd)) := hT
              have HX6 : Hid (RdW w6 rb s P6 c6 ∧ But w.heap.size rb w w6 ∧ w6.heap[w.heap.size]? = some (.cells #[.string ⟨#[]⟩, .string ⟨#[]⟩, .slice none 0 0] 32 (0, 0)) ∧ w6.heap[CB]? = some (.cells #[.string tb, .string gb, .slice va N vc] 32 (0, 0)) ∧ ARow (CB + 1) acc (.slice va acc.length vc) w6 ∧ acc.length = N) :=
                ⟨hr6, HX5.out.1.trans (hb6.less (by omega)), (hb6.block w.heap.size (by omega) (by omega)).trans HX5.out.2.1, (hb6.block CB (by omega) (by omega)).trans HX5.out.2.2.1, HX5.out.2.2.2.1.kept fun q hq hlt => hb6.block q hlt (by omega), HX5.out.2.2.2.2⟩
              have HA7 : Hid (∀ a p' c', argW s.data.toList 7 P6 c6 = .ok a p' c' → p' ≤ s.size ∧ c6 < c' ∧ c' ≤ 60) := fun a p' c' h => by
                have := arg_ok HEN.out 7 P6 c6 a p' c' (by rw [wsize]; exact hp6) h
                rw [wsize] at this
                exact this
              have cA := arg_is rb s m hs HEN.out 7 0 P6 c6 w6.drew rfl HX6.out.1 (by omega) hp6 (HENV.out.next (HX6.out.2.1.trans (to_but (Below.refl _ _).drew)))
              obtain ⟨R7, hR7⟩ : ∃ R, argW s.data.toList 7 P6 c6 = R := ⟨_, rfl⟩
              rw [hR7] at cA hT HA7
              rw [show ((0 : Nat) : Int) = 0 from rfl] at cA
              have k2 : w6.cell? ⟨CB, 2, none⟩ = some (.slice va N vc) := rd_cell HX6.out.2.2.2.1 rfl
              clear hr6 hb6 HX5 hR7 HW4
              go_wp2_with fail
              cases R7 with
              | bad n q =>
                have hT : T = .bad n q := hT
                subst hT
                have hsd : w.heap.size ≤ w6.drew.heap.size := by show _ ≤ w6.heap.size; omega
                have HF : Hid (∀ w7 N7, w6.drew.heap.size ≤ N7 → AtIs w7 N7 n q → But w6.drew.heap.size rb w6.drew w7 → OutC w rb (.bad n q) (thrownA N7) w7) := fun w7 N7 h1 h2 h3 => ⟨N7, rfl, Nat.le_trans hsd h1, h2, HX6.out.2.1.trans ((to_but (Below.refl _ _).drew).trans (h3.less hsd))⟩
                unfold thrownA at HF
                refine wp_region_any (by kernel_rfl) ?_
                change wpAny _ _ _ _ _ _ _ (World.drew _)
                refine wpAny_take (i := 0) (v := ?_) rfl (by kernel_rfl) (by kernel_rfl) (by kernel_rfl) (fun _ _ _ h => h) (Or.inl ⟨by rfl, ?_⟩) ?_
                rotate_left
                · intro w; go_simp; with_reducible rfl
                refine wpAny_take (i := 2) (v := ?_) rfl (by kernel_rfl) (by kernel_rfl) (by kernel_rfl) (fun _ _ _ h => h) (Or.inl ⟨by rfl, ?_⟩) ?_
                rotate_left
                · intro w; go_simp; with_reducible rfl
                refine wpAny_ready (rs := [1, 3]) (by kernel_rfl) (by simp) ?_
                refine AllReady.cons rfl (fun K hK => ?_) ?_
                · go_simp
                  refine hK _ _ ?_
                  refine wpAny_ready (rs := [3]) (by kernel_rfl) (by simp) ?_
                  refine AllReady.cons rfl (fun K hK => ?_) AllReady.nil
                  go_simp
                  refine cA.mono ?_
                  rintro e w7 ⟨N7, rfl, hN7, hA, hb7⟩
                  unfold thrownA
                  exact ⟨rfl, HF.out w7 N7 hN7 hA hb7⟩
                refine AllReady.cons rfl (fun K hK => ?_) AllReady.nil
                go_simp
                refine cA.mono ?_
                rintro e w7 ⟨N7, rfl, hN7, hA, hb7⟩
                unfold thrownA
                exact ⟨rfl, HF.out w7 N7 hN7 hA hb7⟩
              | ok a7 p7 c7 =>
                have hc7 := HA7.out _ _ _ rfl
                have hsd : w6.drew.heap.size = w6.heap.size := rfl
                have cA2 : Calls Tryz.prog 57 #[.pointer (some ⟨rb, 0, none⟩), .int .i64 0] w6.drew fun e w9 => ∃ (K : Int) (tx : ByteArray) (xa : Option Addr) (xk xc : Nat) (w7 W8 : World) (g9 cap9 : Nat) (W9 : World),
                    e = .returned (.agg #[.int .i64 K, .string tx, .slice xa xk xc]) ∧ w9 = w7 ∧ w7.cell? ⟨CB, 2, none⟩ = some (.slice va N vc) ∧ w7.alloc (.cells #[.int .i64 K, .string tx, .slice xa xk xc] 59) = W8 ∧ W8.cell? ⟨CB, 2, none⟩ = some (.slice va N vc) ∧
                    (Builtin.append_ #[30, 30] 30 #[.slice va N vc, .slice (some ⟨w7.heap.size, 0, none⟩) 1 1]).run Tryz.prog W8 = .ok (.slice (some ⟨g9, 0, none⟩) (N + 1) cap9) W9 ∧ W9.cell? ⟨CB, 2, none⟩ = some (.slice va N vc) ∧ W9.frozen? ⟨CB, 2, none⟩ = false ∧
                    Hid (CmAt T rb CB s tb gb w (W9.setCell ⟨CB, 2, none⟩ (.slice (some ⟨g9, 0, none⟩) (N + 1) cap9)) ∧ cntOf (W9.setCell ⟨CB, 2, none⟩ (.slice (some ⟨g9, 0, none⟩) (N + 1) cap9)) rb = c7) := by
                  refine cA.mono ?_
                  rintro e w7 ⟨ys, rfl, hk7, hr7, hb7⟩
                  obtain ⟨tx, xa, xk, xc, rfl⟩ := ax_cells hk7
                  have hs7 := hb7.size
                  obtain ⟨rows, hrl, hown, hsx, h3⟩ := HX6.out.2.2.2.2.1.kept (w' := w7) fun q hq hlt => hb7.block q hlt (by omega)
                  have hoz : ∀ q, (Value.slice va acc.length vc).ownBlock = some q → q < w6.heap.size ∧ CB + 1 ≤ q := fun q hq => by
                    obtain ⟨_, _, h, _⟩ := HX6.out.2.2.2.2.1
                    exact ⟨(h.lt q hq).2, (h.lt q hq).1⟩
                  rw [HX6.out.2.2.2.2.2] at hown
                  have b8 : Below w7.heap.size w7 (w7.alloc (.cells #[.int .i64 a7.kind, .string tx, .slice xa xk xc] 59)) := (Below.refl _ _).alloc (Nat.le_refl _) _
                  have hnews := World.news_of_block (heap_alloc_new w7 (.cells #[.int .i64 a7.kind, .string tx, .slice xa xk xc] 59))
                  obtain ⟨g9, cap9, W9, hrun, hown9, hg9, hor9, hlt9⟩ := run_append_lies (P := Tryz.prog) (w7.alloc (.cells #[.int .i64 a7.kind, .string tx, .slice xa xk xc] 59)) 30 30 (CB + 1) 59 j0 (.agg #[.int .i64 0, .string ⟨#[]⟩, .slice none 0 0]) 3 48 Tryz.underlying30 hj hjz0 hjz1 hjz2 rfl (by decide) (.slice va N vc) N _ (hown.alloc _) ⟨w7.heap.size, 0, none⟩ 1 1 [.int .i64 a7.kind, .string tx, .slice xa xk xc] rfl hnews (by simp [Value.oneCell']) (by decide) (by unfold maxLen; omega) (by omega) (by simp; omega) _ rfl
                  have hp := ARow.push (base := CB + 1) (z := w6.drew.heap.size) (ks := acc) (va := va) (vc := vc) (w := w7) (k := a7) (rows := rows) hrl hsx h3 (by omega) (fun q hq => by have := (hoz q hq).1; omega) hk7 b8 (by rw [HX6.out.2.2.2.2.2]; exact hown9) (by rw [HX6.out.2.2.2.2.2]; exact hg9) (by rw [HX6.out.2.2.2.2.2]; exact hor9)
                  rw [HX6.out.2.2.2.2.2] at hp
                  have hfar : ∀ q, q < w7.heap.size → q < CB + 1 → W9.heap[q]? = w7.heap[q]? := fun q h1 h2 => hp.2 q h1 (fun e => by have := (hoz q (by rw [HX6.out.2.2.2.2.2]; exact e.symm)).2; omega)
                  have eC7 := (hb7.block CB (by omega) (by omega)).trans HX6.out.2.2.2.1
                  have eC8 := (b8.block CB (by omega)).trans eC7
                  have eC9 := (hfar CB (by omega) (by omega)).trans eC7
                  refine ⟨a7.kind, tx, xa, xk, xc, w7, _, g9, cap9, W9, rfl, rfl, rd_cell eC7 rfl, rfl, rd_cell eC8 rfl, hrun, rd_cell eC9 rfl, rd_free eC9 2, ?_⟩
                  have hr9 : RdW (W9.setCell ⟨CB, 2, none⟩ (.slice (some ⟨g9, 0, none⟩) (N + 1) cap9)) rb s p7 c7 := hr7.kept ((Below.heap_setCell _ _ _ _ (show rb ≠ CB by omega)).trans (hfar rb (by omega) (by omega)))
                  have hsz9 : w7.heap.size ≤ W9.heap.size := Nat.le_trans b8.size hg9.size
                  refine ⟨⟨n, acc ++ [a7], p7, c7, N + 1, some ⟨g9, 0, none⟩, cap9, by rw [List.length_append, HX6.out.2.2.2.2.2]; rfl, hT, by omega, hc7.2.2, by omega, hr9, hc7.1, ?_, ?_, ?_, ?_, by omega, by simp; omega⟩, hr9.cnt⟩
                  · refine (HX6.out.2.1.trans ((to_but (Below.refl _ _).drew).trans (hb7.less (by omega)))).trans ⟨?_, ?_, ?_, ?_, fun q hq _ => (Below.heap_setCell _ _ _ _ (show q ≠ CB by omega)).trans (hfar q (by omega) (by omega))⟩
                    · exact hg9.os.trans b8.os
                    · exact hg9.tape.trans b8.tape
                    · exact hg9.output.trans b8.output
                    · simpa using hsz9
                  · exact (Below.heap_setCell _ _ _ _ (show w.heap.size ≠ CB by omega)).trans ((hfar _ (by omega) (by omega)).trans ((hb7.block _ (by omega) (by omega)).trans HX6.out.2.2.1))
                  · exact rd_set (i := 2) (.slice (some ⟨g9, 0, none⟩) (N + 1) cap9) eC9
                  · rw [List.length_append, HX6.out.2.2.2.2.2]
                    refine hp.1.kept fun q hq hlt => Below.heap_setCell _ _ _ _ (show q ≠ CB by omega)
                clear cA
                refine wp_region_any (by kernel_rfl) ?_
                change wpAny _ _ _ _ _ _ _ (World.drew _)
                refine wpAny_take (i := 0) (v := ?_) rfl (by kernel_rfl) (by kernel_rfl) (by kernel_rfl) (fun _ _ _ h => h) (Or.inl ⟨by rfl, ?_⟩) ?_
                rotate_left
                · intro w; go_simp; with_reducible rfl
                refine wpAny_take (i := 2) (v := ?_) rfl (by kernel_rfl) (by kernel_rfl) (by kernel_rfl) (fun _ _ _ h => h) (Or.inl ⟨by rfl, ?_⟩) ?_
                rotate_left
                · intro w; go_simp; with_reducible rfl
                refine wpAny_ready (rs := [1, 3]) (by kernel_rfl) (by simp) ?_
                refine AllReady.cons rfl (fun K hK => ?_) ?_
                · go_simp
                  refine hK _ _ ?_
                  refine wpAny_ready (rs := [3]) (by kernel_rfl) (by simp) ?_
                  refine AllReady.cons rfl (fun K hK => ?_) AllReady.nil
                  go_simp
                  refine cA2.mono ?_
                  rintro e w9 ⟨K7, tx, xa, xk, xc, w7, W8, g9, cap9, W9, rfl, hw9, k7, hW8, k8, hrun, k9, kf9, HS9⟩
                  obtain rfl : w7 = w9 := hw9.symm
                  refine hK _ _ ?_
                  refine wpAny_ready (rs := [4]) (by kernel_rfl) (by simp) ?_
                  refine AllReady.cons rfl (fun K hK => ?_) AllReady.nil
                  go_simp
                  refine hK _ _ ?_
                  refine wpAny_ready (rs := [5]) (by kernel_rfl) (by simp) ?_
                  refine AllReady.cons rfl (fun K hK => ?_) AllReady.nil
                  refine step_append_run rfl (.tmp 19) (.tmp 22) 30 rfl _ _ _ rfl rfl hrun ?_
                  refine hK _ _ ?_
                  refine wpAny_take (i := 6) (v := ?_) rfl (by kernel_rfl) (by kernel_rfl) (by kernel_rfl) (fun _ _ _ h => h) (Or.inl ⟨by rfl, ?_⟩) ?_
                  rotate_left
                  · intro w; go_simp; with_reducible rfl
                  refine wpAny_ready (rs := [7]) (by kernel_rfl) (by simp) ?_
                  refine AllReady.cons rfl (fun K hK => ?_) AllReady.nil
                  go_simp
                  refine hK _ _ ?_
                  refine wpAny_done (by kernel_rfl) ?_ _
                  go_wp2_with fail
                  go_roundw
                  case rel => exact HS9.out.1
                  case measure => rw [HS9.out.2, HCN.out]; omega
                refine AllReady.cons rfl (fun K hK => ?_) AllReady.nil
                go_simp
                refine cA2.mono ?_
                rintro e w9 ⟨K7, tx, xa, xk, xc, w7, W8, g9, cap9, W9, rfl, hw9, k7, hW8, k8, hrun, k9, kf9, HS9⟩
                obtain rfl : w7 = w9 := hw9.symm
                refine hK _ _ ?_
                refine wpAny_ready (rs := [1, 4]) (by kernel_rfl) (by simp) ?_
                refine AllReady.cons rfl (fun K hK => ?_) ?_
                · go_simp
                  refine hK _ _ ?_
                  refine wpAny_ready (rs := [4]) (by kernel_rfl) (by simp) ?_
                  refine AllReady.cons rfl (fun K hK => ?_) AllReady.nil
                  go_simp
                  refine hK _ _ ?_
                  refine wpAny_ready (rs := [5]) (by kernel_rfl) (by simp) ?_
                  refine AllReady.cons rfl (fun K hK => ?_) AllReady.nil
                  refine step_append_run rfl (.tmp 19) (.tmp 22) 30 rfl _ _ _ rfl rfl hrun ?_
                  refine hK _ _ ?_
                  refine wpAny_take (i := 6) (v := ?_) rfl (by kernel_rfl) (by kernel_rfl) (by kernel_rfl) (fun _ _ _ h => h) (Or.inl ⟨by rfl, ?_⟩) ?_
                  rotate_left
                  · intro w; go_simp; with_reducible rfl
                  refine wpAny_ready (rs := [7]) (by kernel_rfl) (by simp) ?_
                  refine AllReady.cons rfl (fun K hK => ?_) AllReady.nil
                  go_simp
                  refine hK _ _ ?_
                  refine wpAny_done (by kernel_rfl) ?_ _
                  go_wp2_with fail
                  go_roundw
                  case rel => exact HS9.out.1
                  case measure => rw [HS9.out.2, HCN.out]; omega
                refine AllReady.cons rfl (fun K hK => ?_) AllReady.nil
                go_simp
                refine hK _ _ ?_
                refine wpAny_ready (rs := [1]) (by kernel_rfl) (by simp) ?_
                refine AllReady.cons rfl (fun K hK => ?_) AllReady.nil
                go_simp
                refine hK _ _ ?_
                refine wpAny_ready (rs := [5]) (by kernel_rfl) (by simp) ?_
                refine AllReady.cons rfl (fun K hK => ?_) AllReady.nil
                refine step_append_run rfl (.tmp 19) (.tmp 22) 30 rfl _ _ _ rfl rfl hrun ?_
                refine hK _ _ ?_
                refine wpAny_take (i := 6) (v := ?_) rfl (by kernel_rfl) (by kernel_rfl) (by kernel_rfl) (fun _ _ _ h => h) (Or.inl ⟨by rfl, ?_⟩) ?_
                rotate_left
                · intro w; go_simp; with_reducible rfl
                refine wpAny_ready (rs := [7]) (by kernel_rfl) (by simp) ?_
                refine AllReady.cons rfl (fun K hK => ?_) AllReady.nil
                go_simp
                refine hK _ _ ?_
                refine wpAny_done (by kernel_rfl) ?_ _
                go_wp2_with fail
                go_roundw
                case rel => exact HS9.out.1
                case measure => rw [HS9.out.2, HCN.out]; omega
end Go.Proofs.YtmcpohnilgbicaaGreatDoor
