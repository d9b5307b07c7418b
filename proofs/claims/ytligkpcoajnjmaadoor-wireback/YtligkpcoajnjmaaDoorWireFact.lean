/-
  A command with bytes, cut off and read: the fact that the wire's statements begin with.
-/
import Derived.Test.YtligkpcoajnjmaaDoorWireNext
import Derived.Test.YtligkpcoajnjmaaDoorWireParse
namespace Go.Proofs.YtligkpcoajnjmaaDoor
open Go.RowKit Go.Proofs.Aid Go.Proofs.Hd

def wiredT : Tx := [97, 49, 32, 108, 111, 103, 105, 110, 32, 123, 51, 125, 13, 10, 97, 34, 98, 32, 40, 120, 32, 34, 121, 32, 122, 34, 41, 13, 10]
theorem wired_next : nextW (wiredT ++ [114, 101, 115, 116]) 0 0 = (29, 1, false) := by
  rw [nextW_more (z := 12) (n := 3) (by decide +kernel) (by decide +kernel), if_neg (by decide +kernel), if_neg (by decide +kernel), nextW_last (z := 10) (by decide +kernel) (by decide +kernel), if_neg (by decide +kernel)]
theorem wired_parse : parseW wiredT = .ok ⟨[97, 49], [76, 79, 71, 73, 78], [.mk 2 [97, 34, 98] [], .mk 3 [] [.mk 1 [120] [], .mk 2 [121, 32, 122] []]]⟩ 27 4 := by kernel_rfl
/-- Two parts, in their cells. -/
theorem agw_two {w : World} {Ok : Nat → Prop} {x y : Sr.Ar} {v : Value} (h : Agw w Ok [x, y] v) : ∃ (b o c : Nat) (t1 t2 : ByteArray) (a1 a2 : Option Addr) (c1 c2 : Nat), v = .slice (some ⟨b, o, none⟩) 2 c ∧ Ok b ∧
    w.cell? ⟨b, o, none⟩ = some (.int .i64 x.kind) ∧ w.cell? ⟨b, o + 1, none⟩ = some (.string t1) ∧ w.cell? ⟨b, o + 2, none⟩ = some (.slice a1 x.list.length c1) ∧
    w.cell? ⟨b, o + 3, none⟩ = some (.int .i64 y.kind) ∧ w.cell? ⟨b, o + 3 + 1, none⟩ = some (.string t2) ∧ w.cell? ⟨b, o + 3 + 2, none⟩ = some (.slice a2 y.list.length c2) ∧
    t1.data.toList = x.text ∧ t2.data.toList = y.text ∧ Agw w Ok x.list (.slice a1 x.list.length c1) ∧ Agw w Ok y.list (.slice a2 y.list.length c2) := by
  cases h with
  | mk _ a c txt vs htx hk ha =>
    rcases ha with ha | ⟨b, o, rfl, hO, hc⟩
    · cases ha
    · obtain ⟨p1, p2, p3⟩ := hc 0 x rfl
      obtain ⟨q1, q2, q3⟩ := hc 1 y rfl
      rw [Nat.zero_mul, Nat.add_zero] at p1 p2 p3
      rw [Nat.one_mul] at q1 q2 q3
      have k0 := hk 0 x rfl
      have k1 := hk 1 y rfl
      obtain ⟨a1, c1, e1⟩ := k0.form
      obtain ⟨a2, c2, e2⟩ := k1.form
      rw [e1] at p3 k0
      rw [e2] at q3 k1
      exact ⟨b, o, c, txt 0, txt 1, a1, a2, c1, c2, rfl, hO, p1, p2, p3, q1, q2, q3, htx 0 x rfl, htx 1 y rfl, k0, k1⟩
set_option maxHeartbeats 1000000 in
theorem wired_is (m : Int) (w : World) (hm : w.cell? ⟨0, 0, none⟩ = some (.int .i64 m)) (hg : NumAt w) :
    Calls Tryd.prog 6 #[] w fun e w' => e = .returned (.bool true) ∧ Below w.heap.size w w' := by
  have cN := next_is ((⟨#[97, 49, 32, 108, 111, 103, 105, 110, 32, 123, 51, 125, 13, 10, 97, 34, 98, 32, 40, 120, 32, 34, 121, 32, 122, 34, 41, 13, 10]⟩ : ByteArray) ++ ⟨#[114, 101, 115, 116]⟩) m w (by decide) hm hg
  rw [show ((⟨#[97, 49, 32, 108, 111, 103, 105, 110, 32, 123, 51, 125, 13, 10, 97, 34, 98, 32, 40, 120, 32, 34, 121, 32, 122, 34, 41, 13, 10]⟩ : ByteArray) ++ ⟨#[114, 101, 115, 116]⟩).data.toList = wiredT ++ [114, 101, 115, 116] from by kernel_rfl, wired_next] at cN
  have HG : Hid (∀ W, Below w.heap.size w W → NumAt W ∧ W.cell? ⟨0, 0, none⟩ = some (.int .i64 m)) := fun W h => ⟨hg.below h, (h.cell (World.block_lt_of_cell? _ _ hm)).trans hm⟩
  clear hg hm
  go_enter Tryd.func6, Tryd.ntmps6
  go_wp2_with fail
  refine cN.mono ?_
  rintro e w1 ⟨rfl, hb1⟩
  have cP := wparse_is ⟨#[97, 49, 32, 108, 111, 103, 105, 110, 32, 123, 51, 125, 13, 10, 97, 34, 98, 32, 40, 120, 32, 34, 121, 32, 122, 34, 41, 13, 10]⟩ m w1 (by decide) (HG.out w1 hb1).2 (HG.out w1 hb1).1
  rw [show (⟨#[97, 49, 32, 108, 111, 103, 105, 110, 32, 123, 51, 125, 13, 10, 97, 34, 98, 32, 40, 120, 32, 34, 121, 32, 122, 34, 41, 13, 10]⟩ : ByteArray).data.toList = wiredT from by kernel_rfl, wired_parse] at cP
  have HB1 : Hid (Below w.heap.size w w1) := hb1
  clear cN hb1
  rw [show limV (29, 1, false).2.2 = .nilIface from rfl]
  go_wp2_with fail
  refine cP.mono ?_
  rintro e w2 ⟨tb, nb, v, rfl, htb, hnb, hag, hb2⟩
  obtain rfl : tb = ⟨#[97, 49]⟩ := num_ba htb
  obtain rfl : nb = ⟨#[76, 79, 71, 73, 78]⟩ := num_ba hnb
  obtain ⟨b, o, c, t1, t2, a1, a2, c1, c2, rfl, hO, p1, p2, p3, q1, q2, q3, ht1, ht2, _, _⟩ := agw_two hag
  obtain rfl : t1 = ⟨#[97, 34, 98]⟩ := num_ba ht1
  have hblt := World.block_lt_of_cell? _ _ p1
  have b3 : Below w2.heap.size w2 (w2.alloc (.cells #[.string ⟨#[97, 49]⟩, .string ⟨#[76, 79, 71, 73, 78]⟩, .slice (some ⟨b, o, none⟩) 2 c] 25)) := (Below.refl _ _).alloc (Nat.le_refl _) _
  have HD : Hid (Below w.heap.size w (w2.alloc (.cells #[.string ⟨#[97, 49]⟩, .string ⟨#[76, 79, 71, 73, 78]⟩, .slice (some ⟨b, o, none⟩) 2 c] 25))) := (HB1.out.trans (hb2.mono HB1.out.size)).alloc (Nat.le_trans HB1.out.size hb2.size) _
  have p2' := (b3.cell (p := ⟨b, o + 1, none⟩) hblt).trans p2
  have q3' := (b3.cell (p := ⟨b, o + 3 + 2, none⟩) hblt).trans q3
  clear cP hag hb2 p1 p2 p3 q1 q2 q3 b3 ht1 ht2 htb hnb
  go_wp2_with fail
  go_ret
  exact ⟨rfl, HD.out⟩
end Go.Proofs.YtligkpcoajnjmaaDoor
