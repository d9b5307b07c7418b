/-
  What key of package search does at OR.
  What key of package search does where no word stands: a set.
  What key of package search does.
-/
import Derived.Test.YtligkpcoajnjmaaGreatDoorRAl16
import Derived.Test.YtligkpcoajnjmaaGreatDoorRAl18
import Derived.Test.YtligkpcoajnjmaaGreatDoorRAl12
import Derived.Test.YtligkpcoajnjmaaGreatDoorRAl19
import Derived.Test.YtligkpcoajnjmaaGreatDoorRAl20
import Derived.Test.YtligkpcoajnjmaaGreatDoorRSearchUn
import Derived.Test.YtligkpcoajnjmaaGreatDoorRAl22
namespace Go.Proofs.YtligkpcoajnjmaaGreatDoorR
open Go.RowKit Go.Proofs.Aid Go.Proofs.Sq Go.Proofs.Hd

theorem kx_or {w : World} {Ok : Nat → Prop} {k1 k2 : Sr.Ky} {xs ys : List Value} {b c : Nat} (h1 : Kx w Ok k1 xs) (h2 : Kx w Ok k2 ys) (hb : Ok b) (hc1 : ∀ i x, xs[i]? = some x → w.cell? ⟨b, i, none⟩ = some x) (hc2 : ∀ i x, ys[i]? = some x → w.cell? ⟨b, 6 + i, none⟩ = some x) : Kx w Ok (.mk 14 [] [] 0 [] [k1, k2]) [.int .i64 14, .string ⟨#[]⟩, .string ⟨#[]⟩, .int .i64 0, .slice none 0 0, .slice (some ⟨b, 0, none⟩) 2 c] := by
  refine Kx.mk 14 0 ⟨#[]⟩ ⟨#[]⟩ [] (.slice none 0 0) [k1, k2] (some ⟨b, 0, none⟩) c (fun j => if j = 0 then xs else ys) (StS.nil _ _) (fun j q hj => ?_) (Or.inr ⟨b, 0, rfl, hb, fun j q hj i x hx => ?_⟩)
  · match j, hj with
    | 0, hj => simp at hj; subst hj; exact h1
    | 1, hj => simp at hj; subst hj; exact h2
    | j + 2, hj => simp at hj
  · match j, hj with
    | 0, hj => rw [Nat.zero_mul, Nat.zero_add]; exact hc1 i x hx
    | 1, hj => rw [Nat.one_mul, Nat.zero_add]; exact hc2 i x hx
    | j + 2, hj => simp at hj
set_option maxHeartbeats 4000000 in
set_option maxRecDepth 100000 in
theorem key_or (g : List Sr.Ar → Nat → Sr.Rs Sr.Ky) (rb c B d : Nat) (x : Sr.Ar) (l : List Sr.Ar) (v : Value) (Ok : Nat → Prop) (w : World) (henv : EnvB w rb) (hr : RdS w rb v c) (hl : Ags w Ok B (x :: l) v) (hB : B ≤ 2000000) (hrb : rb < w.heap.size) (hG : ∀ l c k l' c', g l c = .ok k l' c' → c < c' ∧ c' ≤ 60) (hO : ∀ k, Ok k → k ≠ rb ∧ k < w.heap.size) (hd : d ≤ 6) (hc : c + 1 ≤ 60) (hx : x.kind ≠ 3) (hw : great x.text = Sr.wOr) (cK : ∀ W l' c' v', RdS W rb v' c' → Ags W Ok B l' v' → But w.heap.size rb w W → c' ≤ 60 → Calls Tryz.prog 101 #[.pointer (some ⟨rb, 0, none⟩), .int .i64 ((d : Int) + 1)] W fun e w' => Out W rb B Ok (g l' c') e w') :
    Calls Tryz.prog 101 #[.pointer (some ⟨rb, 0, none⟩), .int .i64 (d : Int)] w fun e w' => Out w rb B Ok ((g l (c + 1)).then fun a l c => (g l c).map fun b => .mk 14 [] [] 0 [] [a, b]) e w' := by
  have HENV : Hid (EnvB w rb) := henv
  have HGG : Hid (∀ l c k l' c', g l c = .ok k l' c' → c < c' ∧ c' ≤ 60) := hG
  have HKK : Hid (∀ W l' c' v', RdS W rb v' c' → Ags W Ok B l' v' → But w.heap.size rb w W → c' ≤ 60 → Calls Tryz.prog 101 #[.pointer (some ⟨rb, 0, none⟩), .int .i64 ((d : Int) + 1)] W fun e w' => Out W rb B Ok (g l' c') e w') := cK
  obtain ⟨T, hT⟩ : ∃ T, ((g l (c + 1)).then fun a l c => (g l c).map fun b => Sr.Ky.mk 14 [] [] 0 [] [a, b]) = T := ⟨_, rfl⟩
  rw [hT]
  obtain ⟨R, hR⟩ : ∃ R, g l (c + 1) = R := ⟨_, rfl⟩
  rw [hR] at hT
  have HT : Hid ((R.then fun a l c => (g l c).map fun b => Sr.Ky.mk 14 [] [] 0 [] [a, b]) = T) := hT
  have HR : Hid (g l (c + 1) = R) := hR
  clear henv cK hR hG hT
  obtain ⟨W1, W2, hW1, hW2, p1, f1, q1, q0, z2, hr2, hl2, hb2, hE2⟩ := key_begun rb c B (x :: l) v Ok w hr hl hrb hO
  have cW := word_ok rb (c + 1) B x l v Ok W2 hr2 hl2 (fun k hk => (hO k hk).1) hx
  obtain ⟨b, o, C, _, lv, rfl, hC, hC2, hOb, _, _, _, c1, _, _, _⟩ := hl2.head
  have hkb : (x.kind == 3) = false := by simpa using hx
  obtain ⟨K, hK⟩ : ∃ K, x.kind = K := ⟨_, rfl⟩
  rw [hK] at c1 hkb
  obtain ⟨L, hL⟩ : ∃ L, l.length = L := ⟨_, rfl⟩
  rw [hL] at q0 hC
  have HB : Hid (But w.heap.size rb w W2) := hb2
  have HE : Hid (W2.heap[w.heap.size]? = some (.cells #[.int .i64 0, .string ⟨#[]⟩, .string ⟨#[]⟩, .int .i64 0, .slice none 0 0, .slice none 0 0] 33 (0, 0))) := hE2
  have HO : Hid (∀ k, Ok k → k ≠ rb ∧ k < w.heap.size) := hO
  have HZ : Hid (W2.heap.size = w.heap.size + 1) := z2
  have HWD : Hid (great x.text = Sr.wOr) := hw
  have d1 : decide ((6 : Int) < (d : Int)) = false := decide_eq_false (by omega)
  have d2 : decide ((60 : Int) < (c : Int) + 1) = false := decide_eq_false (by omega)
  clear hr hl hO hr2 hl2 hb2 hE2 hL z2 hx hK hw
  go_enter Tryz.func101, Tryz.ntmps101
  go_wp2_with fail
  refine cW.mono ?_
  rintro e w3 ⟨tb, v3, htb, htz, rfl, hr3, hl3, hb3⟩
  have cG := great_is tb w3 (by omega)
  rw [htb, HWD.out, show (⟨(Sr.wOr : List UInt8).toArray⟩ : ByteArray) = ⟨#[79, 82]⟩ from rfl] at cG
  have hz := HZ.out
  have hs3 := hb3.size
  have HX : Hid (∀ W, Below w3.heap.size w3 W → RdS W rb v3 (c + 1) ∧ Ags W Ok B l v3 ∧ But w.heap.size rb w W ∧ W.heap[w.heap.size]? = some (.cells #[.int .i64 0, .string ⟨#[]⟩, .string ⟨#[]⟩, .int .i64 0, .slice none 0 0, .slice none 0 0] 33 (0, 0)) ∧ w.heap.size + 1 ≤ W.heap.size) := fun W hW =>
    ⟨hr3.kept (hW.block rb (by omega)), hl3.kept fun k hk hlt => ⟨hk, hW.block k hlt⟩, (HB.out.trans (hb3.less (by omega))).trans (to_but (hW.mono (by omega))), (hW.block w.heap.size (by omega)).trans ((hb3.block w.heap.size (by omega) (by omega)).trans HE.out), by have := hW.size; omega⟩
  clear cW hr3 hl3 hb3 htb
  go_wp2_with fail
  refine cG.mono ?_
  rintro e w4 ⟨rfl, hb4⟩
  obtain ⟨hr4, hl4, hbt, e4, hs4⟩ := HX.out w4 hb4
  clear cG HX
  have cQ := HKK.out w4 l (c + 1) v3 hr4 hl4 hbt hc
  rw [HR.out] at cQ
  have HX5 : Hid (But w.heap.size rb w w4 ∧ w4.heap[w.heap.size]? = some (.cells #[.int .i64 0, .string ⟨#[]⟩, .string ⟨#[]⟩, .int .i64 0, .slice none 0 0, .slice none 0 0] 33 (0, 0))) := ⟨hbt, e4⟩
  clear hb4 hr4 hl4 hbt e4
  go_wp2_with fail
  refine cQ.mono ?_
  intro e w6 h6
  clear cQ
  cases R with
  | bad n =>
    have hT := HT.out
    subst hT
    obtain ⟨rfl, hb6⟩ := h6
    have HB6 : Hid (But w.heap.size rb w w6) := HX5.out.1.trans (hb6.less (by omega))
    clear hb6
    unfold thrown
    go_wp2_with fail
    exact ⟨rfl, rfl, HB6.out⟩
  | ok k l5 c5 =>
    have hc5 := HGG.out _ _ _ _ _ HR.out
    obtain ⟨ys, v6, rfl, hk6, hr6, hl6, hb6⟩ := h6
    have hs6 := hb6.size
    obtain ⟨x0, x3, x1, x2, xa, xk, xc, ya, yk, yc, rfl⟩ := kx_cells hk6
    have hta : ([.int .i64 x0, .string x1, .string x2, .int .i64 x3, .slice xa xk xc, .slice ya yk yc] : List Value).toArray = #[.int .i64 x0, .string x1, .string x2, .int .i64 x3, .slice xa xk xc, .slice ya yk yc] := rfl
    rw [hta]
    have b7 : Below w6.heap.size w6 (w6.alloc (.cells #[.int .i64 x0, .string x1, .string x2, .int .i64 x3, .slice xa xk xc, .slice ya yk yc] 33)) := (Below.refl _ _).alloc (Nat.le_refl _) _
    have e7 := heap_alloc_new w6 (.cells #[.int .i64 x0, .string x1, .string x2, .int .i64 x3, .slice xa xk xc, .slice ya yk yc] 33)
    have z7 : (w6.alloc (.cells #[.int .i64 x0, .string x1, .string x2, .int .i64 x3, .slice xa xk xc, .slice ya yk yc] 33)).heap.size = w6.heap.size + 1 := by simp
    obtain ⟨W7, hW7⟩ : ∃ W, w6.alloc (.cells #[.int .i64 x0, .string x1, .string x2, .int .i64 x3, .slice xa xk xc, .slice ya yk yc] 33) = W := ⟨_, rfl⟩
    rw [hW7] at b7 e7 z7
    obtain ⟨FB, hFB⟩ : ∃ n, w6.heap.size = n := ⟨_, rfl⟩
    rw [hFB] at e7 z7
    have cA := HKK.out W7.drew l5 c5 v6 (hr6.kept (b7.block rb (by omega))) (hl6.kept fun q hq hlt => ⟨hq, b7.block q hlt⟩) ((HX5.out.1.trans (hb6.less (by omega))).trans ((to_but (b7.mono (by omega))).trans (to_but (Below.refl _ _).drew))) hc5.2
    obtain ⟨R2, hR2⟩ : ∃ R, g l5 c5 = R := ⟨_, rfl⟩
    rw [hR2] at cA
    have HT2 : Hid ((R2.map fun b => Sr.Ky.mk 14 [] [] 0 [] [k, b]) = T) := by
      have : ((g l5 c5).map fun b => Sr.Ky.mk 14 [] [] 0 [] [k, b]) = T := HT.out
      rw [hR2] at this
      exact this
    have HX7 : Hid (Kx W7.drew (fun q => w.heap.size + 1 ≤ q) k [.int .i64 x0, .string x1, .string x2, .int .i64 x3, .slice xa xk xc, .slice ya yk yc] ∧ But w.heap.size rb w W7.drew ∧ W7.drew.heap[w.heap.size]? = some (.cells #[.int .i64 0, .string ⟨#[]⟩, .string ⟨#[]⟩, .int .i64 0, .slice none 0 0, .slice none 0 0] 33 (0, 0)) ∧ W7.drew.heap[FB]? = some (.cells #[.int .i64 x0, .string x1, .string x2, .int .i64 x3, .slice xa xk xc, .slice ya yk yc] 33 (0, 0)) ∧ W7.drew.heap.size = FB + 1 ∧ w.heap.size + 1 ≤ FB) :=
      ⟨hk6.kept fun q hq hlt => ⟨by omega, b7.block q hlt⟩, ((HX5.out.1.trans (hb6.less (by omega))).trans ((to_but (b7.mono (by omega))).trans (to_but (Below.refl _ _).drew))), (b7.block w.heap.size (by omega)).trans ((hb6.block w.heap.size (by omega) (by omega)).trans HX5.out.2), e7, z7, by omega⟩
    have f0 : W7.cell? ⟨FB, 0, none⟩ = some (.int .i64 x0) := rd_cell e7 rfl
    have f1 : W7.cell? ⟨FB, 1, none⟩ = some (.string x1) := rd_cell e7 rfl
    have f2 : W7.cell? ⟨FB, 2, none⟩ = some (.string x2) := rd_cell e7 rfl
    have f3 : W7.cell? ⟨FB, 3, none⟩ = some (.int .i64 x3) := rd_cell e7 rfl
    have f4 : W7.cell? ⟨FB, 4, none⟩ = some (.slice xa xk xc) := rd_cell e7 rfl
    have f5 : W7.cell? ⟨FB, 5, none⟩ = some (.slice ya yk yc) := rd_cell e7 rfl
    have HDR : Hid (W7.heap.size = FB + 1) := z7
    clear hk6 hr6 hl6 hb6 hta HX5 b7 e7 z7 hR2
    go_wp2_with fail
    have hwr : IntKind.i64.wrap ((d : Int) + 1) = (d : Int) + 1 := by rw [IntKind.wrap_i64]; omega
    cases R2 with
    | bad n =>
      have hT := HT2.out
      subst hT
      have HF : Hid (∀ w8, But W7.drew.heap.size rb W7.drew w8 → Out w rb B Ok (.bad n) (thrown n) w8) := fun w8 h8 => ⟨rfl, HX7.out.2.1.trans (h8.less (by have := HX7.out.2.2.2.2; omega))⟩
      unfold thrown at HF
      refine wp_region_any (by kernel_rfl) ?_
      change wpAny _ _ _ _ _ _ _ (World.drew _)
      refine wpAny_take (i := 1) (v := ?_) rfl (by kernel_rfl) (by kernel_rfl) (by kernel_rfl) (fun _ _ _ h => h) (Or.inl ⟨by rfl, ?_⟩) ?_
      rotate_left
      · intro w; go_simp; with_reducible rfl
      refine wpAny_take (i := 2) (v := ?_) rfl (by kernel_rfl) (by kernel_rfl) (by kernel_rfl) (fun _ _ _ h => h) (Or.inl ⟨by rfl, ?_⟩) ?_
      rotate_left
      · intro w; go_simp; with_reducible rfl
      refine wpAny_take (i := 3) (v := ?_) rfl (by kernel_rfl) (by kernel_rfl) (by kernel_rfl) (fun _ _ _ h => h) (Or.inl ⟨by rfl, ?_⟩) ?_
      rotate_left
      · intro w; go_simp; with_reducible rfl
      refine wpAny_ready (rs := [0, 4]) (by kernel_rfl) (by simp) ?_
      refine AllReady.cons rfl (fun K hK => ?_) ?_
      · go_simp
        refine hK _ _ ?_
        refine wpAny_ready (rs := [4]) (by kernel_rfl) (by simp) ?_
        refine AllReady.cons rfl (fun K hK => ?_) AllReady.nil
        go_simp
        refine cA.mono ?_
        rintro e w8 ⟨rfl, hb8⟩
        unfold thrown
        exact ⟨rfl, HF.out w8 hb8⟩
      refine AllReady.cons rfl (fun K hK => ?_) AllReady.nil
      go_simp
      refine cA.mono ?_
      rintro e w8 ⟨rfl, hb8⟩
      unfold thrown
      exact ⟨rfl, HF.out w8 hb8⟩
    | ok k2 l8 c8 =>
      have hT := HT2.out
      subst hT
      have cA2 : Calls Tryz.prog 101 #[.pointer (some ⟨rb, 0, none⟩), .int .i64 ((d : Int) + 1)] W7.drew fun e w9 => ∃ (z0 z3 : Int) (z1 z2 : ByteArray) (za : Option Addr) (zk zc : Nat) (ba : Option Addr) (bk bc : Nat) (w8 W9 : World) (N8 : Nat),
          e = .returned (.agg #[.int .i64 z0, .string z1, .string z2, .int .i64 z3, .slice za zk zc, .slice ba bk bc]) ∧ w9 = w8 ∧ w8.heap.size = N8 ∧ (w8.cell? ⟨FB, 0, none⟩ = some (.int .i64 x0) ∧ w8.cell? ⟨FB, 1, none⟩ = some (.string x1) ∧ w8.cell? ⟨FB, 2, none⟩ = some (.string x2) ∧ w8.cell? ⟨FB, 3, none⟩ = some (.int .i64 x3) ∧ w8.cell? ⟨FB, 4, none⟩ = some (.slice xa xk xc) ∧ w8.cell? ⟨FB, 5, none⟩ = some (.slice ya yk yc)) ∧
          w8.alloc (.cells #[.int .i64 x0, .string x1, .string x2, .int .i64 x3, .slice xa xk xc, .slice ya yk yc, .int .i64 z0, .string z1, .string z2, .int .i64 z3, .slice za zk zc, .slice ba bk bc] 33) = W9 ∧ Hid (W9.heap[w.heap.size]? = some (.cells #[.int .i64 0, .string ⟨#[]⟩, .string ⟨#[]⟩, .int .i64 0, .slice none 0 0, .slice none 0 0] 33 (0, 0))) ∧
          Hid (Out w rb B Ok (.ok (.mk 14 [] [] 0 [] [k, k2]) l8 c8) (.returned (.agg #[.int .i64 14, .string ⟨#[]⟩, .string ⟨#[]⟩, .int .i64 0, .slice none 0 0, .slice (some ⟨N8, 0, none⟩) 2 2])) ((((((W9.setCell ⟨w.heap.size, 0, none⟩ (.int .i64 14)).setCell ⟨w.heap.size, 1, none⟩ (.string ⟨#[]⟩)).setCell ⟨w.heap.size, 2, none⟩ (.string ⟨#[]⟩)).setCell ⟨w.heap.size, 3, none⟩ (.int .i64 0)).setCell ⟨w.heap.size, 4, none⟩ (.slice none 0 0)).setCell ⟨w.heap.size, 5, none⟩ (.slice (some ⟨N8, 0, none⟩) 2 2))) := by
        refine cA.mono ?_
        rintro e w8 ⟨zs, v8, rfl, hk8, hr8, hl8, hb8⟩
        obtain ⟨hx7, hbb7, ez7, ef7, zz7, hFBw⟩ := HX7.out
        have hs8 := hb8.size
        obtain ⟨z0, z3, z1, z2, za, zk, zc, ba, bk, bc, rfl⟩ := kx_cells hk8
        have eF8 := (hb8.block FB (by omega) (by omega)).trans ef7
        have b9 : Below w8.heap.size w8 (w8.alloc (.cells #[.int .i64 x0, .string x1, .string x2, .int .i64 x3, .slice xa xk xc, .slice ya yk yc, .int .i64 z0, .string z1, .string z2, .int .i64 z3, .slice za zk zc, .slice ba bk bc] 33)) := (Below.refl _ _).alloc (Nat.le_refl _) _
        have e9 := heap_alloc_new w8 (.cells #[.int .i64 x0, .string x1, .string x2, .int .i64 x3, .slice xa xk xc, .slice ya yk yc, .int .i64 z0, .string z1, .string z2, .int .i64 z3, .slice za zk zc, .slice ba bk bc] 33)
        have eR9 := (b9.block w.heap.size (by omega)).trans ((hb8.block w.heap.size (by omega) (by omega)).trans ez7)
        generalize hW9 : w8.alloc (.cells #[.int .i64 x0, .string x1, .string x2, .int .i64 x3, .slice xa xk xc, .slice ya yk yc, .int .i64 z0, .string z1, .string z2, .int .i64 z3, .slice za zk zc, .slice ba bk bc] 33) = W9 at b9 e9 eR9
        refine ⟨z0, z3, z1, z2, za, zk, zc, ba, bk, bc, w8, W9, w8.heap.size, rfl, rfl, rfl, ⟨rd_cell eF8 rfl, rd_cell eF8 rfl, rd_cell eF8 rfl, rd_cell eF8 rfl, rd_cell eF8 rfl, rd_cell eF8 rfl⟩, hW9, eR9, ?_⟩
        refine key_done hrb HO.out (kx_or (hx7.kept fun q hq hlt => ⟨hq, ?_⟩) (hk8.kept fun q hq hlt => ⟨by omega, b9.block q hlt⟩) (by omega) ?_ ?_) (hr8.kept (b9.block rb (by omega))) (hl8.kept fun q hq hlt => ⟨hq, b9.block q hlt⟩) ((hbb7.trans (hb8.less (by omega))).trans (to_but (b9.mono (by omega))))
        · exact (b9.block q (by omega)).trans (hb8.block q hlt (by omega))
        · intro i y hy
          have hi : i < 6 := (List.getElem?_eq_some_iff.1 hy).1
          refine rd_cell e9 ?_
          rw [← Array.getElem?_toList, show (#[.int .i64 x0, .string x1, .string x2, .int .i64 x3, .slice xa xk xc, .slice ya yk yc, .int .i64 z0, .string z1, .string z2, .int .i64 z3, .slice za zk zc, .slice ba bk bc] : Array Value).toList = [.int .i64 x0, .string x1, .string x2, .int .i64 x3, .slice xa xk xc, .slice ya yk yc] ++ [.int .i64 z0, .string z1, .string z2, .int .i64 z3, .slice za zk zc, .slice ba bk bc] from rfl, List.getElem?_append_left hi]
          exact hy
        · intro i y hy
          refine rd_cell e9 ?_
          rw [← Array.getElem?_toList, show (#[.int .i64 x0, .string x1, .string x2, .int .i64 x3, .slice xa xk xc, .slice ya yk yc, .int .i64 z0, .string z1, .string z2, .int .i64 z3, .slice za zk zc, .slice ba bk bc] : Array Value).toList = [.int .i64 x0, .string x1, .string x2, .int .i64 x3, .slice xa xk xc, .slice ya yk yc] ++ [.int .i64 z0, .string z1, .string z2, .int .i64 z3, .slice za zk zc, .slice ba bk bc] from rfl, List.getElem?_append_right (by show 6 ≤ 6 + i; omega)]
          rw [show 6 + i - ([.int .i64 x0, .string x1, .string x2, .int .i64 x3, .slice xa xk xc, .slice ya yk yc] : List Value).length = i from by show 6 + i - 6 = i; omega]
          exact hy
      clear cA
      go_region_with (go_at_call 101; refine cA2.mono ?_; rintro e w9 ⟨z0, z3, z1, z2, za, zk, zc, ba, bk, bc, w8, W9, N8, rfl, rfl, hN8, ⟨j0, j1, j2, j3, j4, j5⟩, hW9, HE9, HD9⟩; obtain ⟨⟨s0, s1, s2, s3, s4, s5⟩, ⟨sf0, sf1, sf2, sf3, sf4, sf5⟩, u0, u1, u2, u3, u4, u5⟩ := six_facts HE9.out (.int .i64 14) (.string ⟨#[]⟩) (.string ⟨#[]⟩) (.int .i64 0) (.slice none 0 0) (.slice (some ⟨N8, 0, none⟩) 2 2))
      all_goals
        go_wp2_with fail
        exact bodyPost_ret (v := .agg #[.int .i64 14, .string ⟨#[]⟩, .string ⟨#[]⟩, .int .i64 0, .slice none 0 0, .slice (some ⟨N8, 0, none⟩) 2 2]) (by simp [results, Tryz.results101, go_sem, u0, u1, u2, u3, u4, u5]) rfl HD9.out
end Go.Proofs.YtligkpcoajnjmaaGreatDoorR
namespace Go.Proofs.YtligkpcoajnjmaaGreatDoorR
open Go.RowKit Go.Proofs.Aid Go.Proofs.Sq Go.Proofs.Hd

def wAllWords : List Sr.Tx := [[65, 76, 76], [83, 69, 69, 78], [65, 78, 83, 87, 69, 82, 69, 68], [70, 76, 65, 71, 71, 69, 68], [68, 69, 76, 69, 84, 69, 68], [68, 82, 65, 70, 84], [85, 78, 83, 69, 69, 78], [85, 78, 65, 78, 83, 87, 69, 82, 69, 68], [85, 78, 70, 76, 65, 71, 71, 69, 68], [85, 78, 68, 69, 76, 69, 84, 69, 68], [85, 78, 68, 82, 65, 70, 84], [75, 69, 89, 87, 79, 82, 68], [85, 78, 75, 69, 89, 87, 79, 82, 68], [70, 82, 79, 77], [84, 79], [83, 85, 66, 74, 69, 67, 84], [67, 67], [72, 69, 65, 68, 69, 82], [66, 79, 68, 89], [84, 69, 88, 84], [76, 65, 82, 71, 69, 82], [83, 77, 65, 76, 76, 69, 82], [66, 69, 70, 79, 82, 69], [79, 78], [83, 73, 78, 67, 69], [85, 73, 68], [78, 79, 84], [79, 82]]
set_option maxHeartbeats 4000000 in
set_option maxRecDepth 100000 in
theorem key_nowd (rb c B d : Nat) (x : Sr.Ar) (l : List Sr.Ar) (v : Value) (Ok : Nat → Prop) (w : World) (henv : EnvB w rb) (hr : RdS w rb v c) (hl : Ags w Ok B (x :: l) v) (hB : B ≤ 2000000) (hrb : rb < w.heap.size) (hO : ∀ k, Ok k → k ≠ rb ∧ k < w.heap.size) (hd : d ≤ 6) (hc : c + 1 ≤ 60) (hx : x.kind ≠ 3) (hnw : ∀ y ∈ wAllWords, great x.text ≠ y) :
    Calls Tryz.prog 101 #[.pointer (some ⟨rb, 0, none⟩), .int .i64 (d : Int)] w fun e w' => Out w rb B Ok ((Sr.setF x.text l (c + 1)).map fun r => .mk 12 [] [] 0 r []) e w' := by
  have HENV : Hid (EnvB w rb) := henv
  obtain ⟨T, hT⟩ : ∃ T, ((Sr.setF x.text l (c + 1)).map fun r => Sr.Ky.mk 12 [] [] 0 r []) = T := ⟨_, rfl⟩
  rw [hT]
  have HT : Hid (((Sr.setF x.text l (c + 1)).map fun r => Sr.Ky.mk 12 [] [] 0 r []) = T) := hT
  clear henv hT
  obtain ⟨GG, hGG⟩ : ∃ t : ByteArray, ⟨(great x.text).toArray⟩ = t := ⟨_, rfl⟩
  have hGl : GG.toList = great x.text := by rw [Lib.toList_data, ← hGG]
  have y0 : (GG.toList == [65, 76, 76]) = false := by rw [hGl, beq_eq_false_iff_ne]; exact hnw _ (by decide)
  have y1 : (GG.toList == [83, 69, 69, 78]) = false := by rw [hGl, beq_eq_false_iff_ne]; exact hnw _ (by decide)
  have y2 : (GG.toList == [65, 78, 83, 87, 69, 82, 69, 68]) = false := by rw [hGl, beq_eq_false_iff_ne]; exact hnw _ (by decide)
  have y3 : (GG.toList == [70, 76, 65, 71, 71, 69, 68]) = false := by rw [hGl, beq_eq_false_iff_ne]; exact hnw _ (by decide)
  have y4 : (GG.toList == [68, 69, 76, 69, 84, 69, 68]) = false := by rw [hGl, beq_eq_false_iff_ne]; exact hnw _ (by decide)
  have y5 : (GG.toList == [68, 82, 65, 70, 84]) = false := by rw [hGl, beq_eq_false_iff_ne]; exact hnw _ (by decide)
  have y6 : (GG.toList == [85, 78, 83, 69, 69, 78]) = false := by rw [hGl, beq_eq_false_iff_ne]; exact hnw _ (by decide)
  have y7 : (GG.toList == [85, 78, 65, 78, 83, 87, 69, 82, 69, 68]) = false := by rw [hGl, beq_eq_false_iff_ne]; exact hnw _ (by decide)
  have y8 : (GG.toList == [85, 78, 70, 76, 65, 71, 71, 69, 68]) = false := by rw [hGl, beq_eq_false_iff_ne]; exact hnw _ (by decide)
  have y9 : (GG.toList == [85, 78, 68, 69, 76, 69, 84, 69, 68]) = false := by rw [hGl, beq_eq_false_iff_ne]; exact hnw _ (by decide)
  have y10 : (GG.toList == [85, 78, 68, 82, 65, 70, 84]) = false := by rw [hGl, beq_eq_false_iff_ne]; exact hnw _ (by decide)
  have y11 : (GG.toList == [75, 69, 89, 87, 79, 82, 68]) = false := by rw [hGl, beq_eq_false_iff_ne]; exact hnw _ (by decide)
  have y12 : (GG.toList == [85, 78, 75, 69, 89, 87, 79, 82, 68]) = false := by rw [hGl, beq_eq_false_iff_ne]; exact hnw _ (by decide)
  have y13 : (GG.toList == [70, 82, 79, 77]) = false := by rw [hGl, beq_eq_false_iff_ne]; exact hnw _ (by decide)
  have y14 : (GG.toList == [84, 79]) = false := by rw [hGl, beq_eq_false_iff_ne]; exact hnw _ (by decide)
  have y15 : (GG.toList == [83, 85, 66, 74, 69, 67, 84]) = false := by rw [hGl, beq_eq_false_iff_ne]; exact hnw _ (by decide)
  have y16 : (GG.toList == [67, 67]) = false := by rw [hGl, beq_eq_false_iff_ne]; exact hnw _ (by decide)
  have y17 : (GG.toList == [72, 69, 65, 68, 69, 82]) = false := by rw [hGl, beq_eq_false_iff_ne]; exact hnw _ (by decide)
  have y18 : (GG.toList == [66, 79, 68, 89]) = false := by rw [hGl, beq_eq_false_iff_ne]; exact hnw _ (by decide)
  have y19 : (GG.toList == [84, 69, 88, 84]) = false := by rw [hGl, beq_eq_false_iff_ne]; exact hnw _ (by decide)
  have y20 : (GG.toList == [76, 65, 82, 71, 69, 82]) = false := by rw [hGl, beq_eq_false_iff_ne]; exact hnw _ (by decide)
  have y21 : (GG.toList == [83, 77, 65, 76, 76, 69, 82]) = false := by rw [hGl, beq_eq_false_iff_ne]; exact hnw _ (by decide)
  have y22 : (GG.toList == [66, 69, 70, 79, 82, 69]) = false := by rw [hGl, beq_eq_false_iff_ne]; exact hnw _ (by decide)
  have y23 : (GG.toList == [79, 78]) = false := by rw [hGl, beq_eq_false_iff_ne]; exact hnw _ (by decide)
  have y24 : (GG.toList == [83, 73, 78, 67, 69]) = false := by rw [hGl, beq_eq_false_iff_ne]; exact hnw _ (by decide)
  have y25 : (GG.toList == [85, 73, 68]) = false := by rw [hGl, beq_eq_false_iff_ne]; exact hnw _ (by decide)
  have y26 : (GG.toList == [78, 79, 84]) = false := by rw [hGl, beq_eq_false_iff_ne]; exact hnw _ (by decide)
  have y27 : (GG.toList == [79, 82]) = false := by rw [hGl, beq_eq_false_iff_ne]; exact hnw _ (by decide)
  have HGG : Hid ((⟨(great x.text).toArray⟩ : ByteArray) = GG) := hGG
  clear hGl hnw hGG
  obtain ⟨W1, W2, hW1, hW2, p1, f1, q1, q0, z2, hr2, hl2, hb2, hE2⟩ := key_begun rb c B (x :: l) v Ok w hr hl hrb hO
  have cW := word_ok rb (c + 1) B x l v Ok W2 hr2 hl2 (fun k hk => (hO k hk).1) hx
  obtain ⟨b, o, C, _, lv, rfl, hC, hC2, hOb, _, _, _, c1, _, _, _⟩ := hl2.head
  have hkb : (x.kind == 3) = false := by simpa using hx
  obtain ⟨K, hK⟩ : ∃ K, x.kind = K := ⟨_, rfl⟩
  rw [hK] at c1 hkb
  obtain ⟨L, hL⟩ : ∃ L, l.length = L := ⟨_, rfl⟩
  rw [hL] at q0 hC
  have HB : Hid (But w.heap.size rb w W2) := hb2
  have HE : Hid (W2.heap[w.heap.size]? = some (.cells #[.int .i64 0, .string ⟨#[]⟩, .string ⟨#[]⟩, .int .i64 0, .slice none 0 0, .slice none 0 0] 33 (0, 0))) := hE2
  have HO : Hid (∀ k, Ok k → k ≠ rb ∧ k < w.heap.size) := hO
  have HZ : Hid (W2.heap.size = w.heap.size + 1) := z2
  have d1 : decide ((6 : Int) < (d : Int)) = false := decide_eq_false (by omega)
  have d2 : decide ((60 : Int) < (c : Int) + 1) = false := decide_eq_false (by omega)
  clear hr hl hO hr2 hl2 hb2 hE2 hL z2 hx hK
  go_enter Tryz.func101, Tryz.ntmps101
  go_wp2_with fail
  refine cW.mono ?_
  rintro e w3 ⟨tb, v3, htb, htz, rfl, hr3, hl3, hb3⟩
  have cG := great_is tb w3 (by omega)
  have HTB : Hid (tb.data.toList = x.text) := htb
  rw [htb, HGG.out] at cG
  have hz := HZ.out
  have hs3 := hb3.size
  have HX : Hid (∀ W, Below w3.heap.size w3 W → RdS W rb v3 (c + 1) ∧ Ags W Ok B l v3 ∧ But w.heap.size rb w W ∧ W.heap[w.heap.size]? = some (.cells #[.int .i64 0, .string ⟨#[]⟩, .string ⟨#[]⟩, .int .i64 0, .slice none 0 0, .slice none 0 0] 33 (0, 0)) ∧ w.heap.size + 1 ≤ W.heap.size) := fun W hW =>
    ⟨hr3.kept (hW.block rb (by omega)), hl3.kept fun k hk hlt => ⟨hk, hW.block k hlt⟩, (HB.out.trans (hb3.less (by omega))).trans (to_but (hW.mono (by omega))), (hW.block w.heap.size (by omega)).trans ((hb3.block w.heap.size (by omega) (by omega)).trans HE.out), by have := hW.size; omega⟩
  clear cW hr3 hl3 hb3 htb
  go_wp2_with fail
  refine cG.mono ?_
  rintro e w4 ⟨rfl, hb4⟩
  obtain ⟨hr4, hl4, hbt, e4, hs4⟩ := HX.out w4 hb4
  clear cG HX
  have henv := HENV.out w4 hbt
  obtain ⟨mx, hmx⟩ := henv.2.2.2
  have cF := set_is tb mx w4 (by omega) hmx henv.2.1
  rw [HTB.out] at cF
  have HX4 : Hid (RdS w4 rb v3 (c + 1) ∧ Ags w4 Ok B l v3 ∧ But w.heap.size rb w w4 ∧ w4.heap[w.heap.size]? = some (.cells #[.int .i64 0, .string ⟨#[]⟩, .string ⟨#[]⟩, .int .i64 0, .slice none 0 0, .slice none 0 0] 33 (0, 0))) := ⟨hr4, hl4, hbt, e4⟩
  clear hr4 hl4 hb4 hbt henv e4
  go_wp2_with fail
  refine cF.mono ?_
  rintro e w6 ⟨h6, hb6⟩
  clear cF
  have HB6 : Hid (But w.heap.size rb w w6) := HX4.out.2.2.1.trans (to_but (hb6.mono (by omega)))
  rcases h6 with ⟨h0, rfl⟩ | ⟨h0, rfl⟩ | ⟨rs, sv, h0, rfl, hst⟩
  · have hT := HT.out
    rw [Sr.setF, h0] at hT
    subst hT
    clear HT HX4 hb6 h0
    unfold thrown
    go_wp2_with fail
    exact ⟨rfl, rfl, HB6.out⟩
  · have hT := HT.out
    rw [Sr.setF, h0] at hT
    subst hT
    clear HT HX4 hb6 h0
    unfold thrown
    go_wp2_with fail
    exact ⟨rfl, rfl, HB6.out⟩
  · have hT := HT.out
    rw [Sr.setF, h0] at hT
    subst hT
    obtain ⟨hr4, hl4, hbt, e4⟩ := HX4.out
    have e6 := (hb6.block w.heap.size (by omega)).trans e4
    have hkx : Kx w6 (fun q => w.heap.size + 1 ≤ q) (.mk 12 [] [] 0 rs []) [.int .i64 12, .string ⟨#[]⟩, .string ⟨#[]⟩, .int .i64 0, sv, .slice none 0 0] := Kx.mk 12 0 ⟨#[]⟩ ⟨#[]⟩ rs sv [] none 0 (fun _ => []) (hst.kept fun q hq _ => ⟨by omega, rfl⟩) (fun j k h => by simp at h) (Or.inl rfl)
    obtain ⟨sa, sc, rfl, _⟩ := hst
    obtain ⟨SL, hSL⟩ : ∃ n, rs.length = n := ⟨_, rfl⟩
    rw [hSL] at hkx
    rw [hSL]
    obtain ⟨⟨s0, s1, s2, s3, s4, s5⟩, ⟨sf0, sf1, sf2, sf3, sf4, sf5⟩, u0, u1, u2, u3, u4, u5⟩ := six_facts e6 (.int .i64 12) (.string ⟨#[]⟩) (.string ⟨#[]⟩) (.int .i64 0) (.slice sa SL sc) (.slice none 0 0)
    have HD : Hid (Out w rb B Ok (.ok (.mk 12 [] [] 0 rs []) l (c + 1)) (.returned (.agg #[.int .i64 12, .string ⟨#[]⟩, .string ⟨#[]⟩, .int .i64 0, .slice sa SL sc, .slice none 0 0])) _) := key_done hrb HO.out hkx (hr4.kept (hb6.block rb (by omega))) (hl4.kept fun k hk hlt => ⟨hk, hb6.block k hlt⟩) (hbt.trans (to_but (hb6.mono (by omega))))
    clear HT HX4 hr4 hl4 hbt e4 e6 hb6 hkx h0 hSL
    go_wp2_with fail
    exact bodyPost_ret (v := .agg #[.int .i64 12, .string ⟨#[]⟩, .string ⟨#[]⟩, .int .i64 0, .slice sa SL sc, .slice none 0 0]) (by simp [results, Tryz.results101, go_sem, u0, u1, u2, u3, u4, u5]) rfl HD.out
end Go.Proofs.YtligkpcoajnjmaaGreatDoorR
namespace Go.Proofs.YtligkpcoajnjmaaGreatDoorR
open Go.RowKit Go.Proofs.Aid Go.Proofs.Sq Go.Proofs.Hd

theorem EnvB.next {w W : World} {rb : Nat} (h : EnvB w rb) (hb : But w.heap.size rb w W) : EnvB W rb := fun W' h' => h W' (hb.trans (h'.less hb.size))
theorem in_list {y : Sr.Tx} {l : List Sr.Tx} (h : l.contains y = true) : y ∈ l := by simpa using h
set_option maxHeartbeats 2000000 in
set_option maxRecDepth 100000 in
theorem key_word (g : List Sr.Ar → Nat → Sr.Rs Sr.Ky) (hG : Sr.Cnt g) (rb c B d : Nat) (x : Sr.Ar) (l : List Sr.Ar) (v : Value) (Ok : Nat → Prop) (w : World) (henv : EnvB w rb) (hr : RdS w rb v c) (hl : Ags w Ok B (x :: l) v) (hB : B ≤ 2000000) (hrb : rb < w.heap.size) (hO : ∀ k, Ok k → k ≠ rb ∧ k < w.heap.size) (hd : d ≤ 6) (hc : c + 1 ≤ 60) (hx : x.kind ≠ 3)
    (cK : ∀ W l' c' v', RdS W rb v' c' → Ags W Ok B l' v' → But w.heap.size rb w W → c' ≤ 60 → Calls Tryz.prog 101 #[.pointer (some ⟨rb, 0, none⟩), .int .i64 ((d : Int) + 1)] W fun e w' => Out W rb B Ok (g l' c') e w') :
    Calls Tryz.prog 101 #[.pointer (some ⟨rb, 0, none⟩), .int .i64 (d : Int)] w fun e w' => Out w rb B Ok (Sr.wordK g x.text l (c + 1)) e w' := by
  rw [Sr.wordK]
  by_cases p0 : Hd.great x.text = Sr.wAll
  · rw [if_pos p0]; exact key_all rb c B d x l v Ok w hr hl hB hrb hO hd hc hx p0
  rw [if_neg p0]
  by_cases p1 : Sr.wSys.contains (Hd.great x.text) = true
  · rw [if_pos p1]
    have hm := in_list p1
    simp only [Sr.wSys, List.mem_cons, List.not_mem_nil, or_false] at hm
    rcases hm with h | h | h | h | h
    · rw [h]; exact key_seen rb c B d x l v Ok w henv hr hl hB hrb hO hd hc hx h
    · rw [h]; exact key_answered rb c B d x l v Ok w henv hr hl hB hrb hO hd hc hx h
    · rw [h]; exact key_flagged rb c B d x l v Ok w henv hr hl hB hrb hO hd hc hx h
    · rw [h]; exact key_deleted rb c B d x l v Ok w henv hr hl hB hrb hO hd hc hx h
    · rw [h]; exact key_draft rb c B d x l v Ok w henv hr hl hB hrb hO hd hc hx h
  rw [if_neg p1]
  by_cases p2 : Sr.wUn.contains (Hd.great x.text) = true
  · rw [if_pos p2]
    have hm := in_list p2
    simp only [Sr.wUn, Sr.wSys, List.map_cons, List.map_nil, List.mem_cons, List.not_mem_nil, or_false] at hm
    rcases hm with h | h | h | h | h
    · rw [h]; exact key_unseen rb c B d x l v Ok w henv hr hl hB hrb hO hd hc hx h
    · rw [h]; exact key_unanswered rb c B d x l v Ok w henv hr hl hB hrb hO hd hc hx h
    · rw [h]; exact key_unflagged rb c B d x l v Ok w henv hr hl hB hrb hO hd hc hx h
    · rw [h]; exact key_undeleted rb c B d x l v Ok w henv hr hl hB hrb hO hd hc hx h
    · rw [h]; exact key_undraft rb c B d x l v Ok w henv hr hl hB hrb hO hd hc hx h
  rw [if_neg p2]
  by_cases p3 : Hd.great x.text = Sr.wKeyword
  · rw [if_pos p3]; exact key_keyword rb c B d x l v Ok w henv hr hl hB hrb hO hd hc hx p3
  rw [if_neg p3]
  by_cases p4 : Hd.great x.text = 85 :: 78 :: Sr.wKeyword
  · rw [if_pos p4]; exact key_unkeyword rb c B d x l v Ok w henv hr hl hB hrb hO hd hc hx p4
  rw [if_neg p4]
  by_cases p5 : Sr.wFields.contains (Hd.great x.text) = true
  · rw [if_pos p5]
    have hm := in_list p5
    simp only [Sr.wFields, List.mem_cons, List.not_mem_nil, or_false] at hm
    rcases hm with h | h | h | h
    · exact key_from rb c B d x l v Ok w hr hl hB hrb hO hd hc hx h
    · exact key_to rb c B d x l v Ok w hr hl hB hrb hO hd hc hx h
    · exact key_subject rb c B d x l v Ok w hr hl hB hrb hO hd hc hx h
    · exact key_cc rb c B d x l v Ok w hr hl hB hrb hO hd hc hx h
  rw [if_neg p5]
  by_cases p6 : Hd.great x.text = Sr.wHeader
  · rw [if_pos p6]; exact key_header rb c B d x l v Ok w henv hr hl hB hrb hO hd hc hx p6
  rw [if_neg p6]
  by_cases p7 : Hd.great x.text = Sr.wBody
  · rw [if_pos p7]; exact key_body rb c B d x l v Ok w hr hl hB hrb hO hd hc hx p7
  rw [if_neg p7]
  by_cases p8 : Hd.great x.text = Sr.wText
  · rw [if_pos p8]; exact key_text rb c B d x l v Ok w hr hl hB hrb hO hd hc hx p8
  rw [if_neg p8]
  by_cases p9 : Sr.wMeas.contains (Hd.great x.text) = true
  · rw [if_pos p9]
    have hm := in_list p9
    simp only [Sr.wMeas, List.mem_cons, List.not_mem_nil, or_false] at hm
    rcases hm with h | h | h | h | h
    · rw [h, show (6 + ((Sr.wMeas.idxOf [76, 65, 82, 71, 69, 82] : Nat) : Int)) = 6 from by decide]; exact key_larger rb c B d x l v Ok w henv hr hl hB hrb hO hd hc hx h
    · rw [h, show (6 + ((Sr.wMeas.idxOf [83, 77, 65, 76, 76, 69, 82] : Nat) : Int)) = 7 from by decide]; exact key_smaller rb c B d x l v Ok w henv hr hl hB hrb hO hd hc hx h
    · rw [h, show (6 + ((Sr.wMeas.idxOf [66, 69, 70, 79, 82, 69] : Nat) : Int)) = 8 from by decide]; exact key_before rb c B d x l v Ok w henv hr hl hB hrb hO hd hc hx h
    · rw [h, show (6 + ((Sr.wMeas.idxOf [79, 78] : Nat) : Int)) = 9 from by decide]; exact key_on rb c B d x l v Ok w henv hr hl hB hrb hO hd hc hx h
    · rw [h, show (6 + ((Sr.wMeas.idxOf [83, 73, 78, 67, 69] : Nat) : Int)) = 10 from by decide]; exact key_since rb c B d x l v Ok w henv hr hl hB hrb hO hd hc hx h
  rw [if_neg p9]
  by_cases p10 : Hd.great x.text = Sr.wUid
  · rw [if_pos p10]; exact key_uid rb c B d x l v Ok w henv hr hl hB hrb hO hd hc hx p10
  rw [if_neg p10]
  by_cases p11 : Hd.great x.text = Sr.wNot
  · rw [if_pos p11]; exact key_not rb c B d x l v Ok w henv hr hl hB hrb hO hd hc hx p11 g cK
  rw [if_neg p11]
  by_cases p12 : Hd.great x.text = Sr.wOr
  · rw [if_pos p12]; exact key_or g rb c B d x l v Ok w henv hr hl hB hrb hG hO hd hc hx p12 cK
  rw [if_neg p12]
  refine key_nowd rb c B d x l v Ok w henv hr hl hB hrb hO hd hc hx fun y hy e => ?_
  have n1 : ∀ z ∈ Sr.wSys, Hd.great x.text ≠ z := fun z hz e => p1 (by rw [e]; simpa using hz)
  have n2 : ∀ z ∈ Sr.wUn, Hd.great x.text ≠ z := fun z hz e => p2 (by rw [e]; simpa using hz)
  have n5 : ∀ z ∈ Sr.wFields, Hd.great x.text ≠ z := fun z hz e => p5 (by rw [e]; simpa using hz)
  have n9 : ∀ z ∈ Sr.wMeas, Hd.great x.text ≠ z := fun z hz e => p9 (by rw [e]; simpa using hz)
  have hall : wAllWords = [Sr.wAll] ++ Sr.wSys ++ Sr.wUn ++ [Sr.wKeyword, 85 :: 78 :: Sr.wKeyword] ++ Sr.wFields ++ [Sr.wHeader, Sr.wBody, Sr.wText] ++ Sr.wMeas ++ [Sr.wUid, Sr.wNot, Sr.wOr] := by decide
  rw [hall] at hy
  simp only [List.mem_append] at hy
  rcases hy with ((((((hy | hy) | hy) | hy) | hy) | hy) | hy) | hy
  · rw [List.mem_singleton.1 hy] at e; exact p0 e
  · exact n1 y hy e
  · exact n2 y hy e
  · rcases List.mem_cons.1 hy with rfl | hy
    · exact p3 e
    · rw [List.mem_singleton.1 hy] at e; exact p4 e
  · exact n5 y hy e
  · rcases List.mem_cons.1 hy with rfl | hy
    · exact p6 e
    · rcases List.mem_cons.1 hy with rfl | hy
      · exact p7 e
      · rw [List.mem_singleton.1 hy] at e; exact p8 e
  · exact n9 y hy e
  · rcases List.mem_cons.1 hy with rfl | hy
    · exact p10 e
    · rcases List.mem_cons.1 hy with rfl | hy
      · exact p11 e
      · rw [List.mem_singleton.1 hy] at e; exact p12 e
theorem key_is (rb B : Nat) (Ok : Nat → Prop) (hB : B ≤ 2000000) : ∀ (f d c : Nat) (l : List Sr.Ar) (v : Value) (w : World), d + f = 7 → EnvB w rb → RdS w rb v c → Ags w Ok B l v → rb < w.heap.size → (∀ k, Ok k → k ≠ rb ∧ k < w.heap.size) → c ≤ 1000 →
    Calls Tryz.prog 101 #[.pointer (some ⟨rb, 0, none⟩), .int .i64 (d : Int)] w fun e w' => Out w rb B Ok (Sr.keyF f l c) e w'
  | 0, d, c, l, v, w, hdf, henv, hr, hl, hrb, hO, hc => key_limit rb c B d l v Ok w hr hl hrb hO hc (by omega) (Or.inl (by omega))
  | f + 1, d, c, l, v, w, hdf, henv, hr, hl, hrb, hO, hc => by
    by_cases h60 : 60 < c + 1
    · rw [Sr.keyF_lim h60]
      exact key_limit rb c B d l v Ok w hr hl hrb hO hc (by omega) (Or.inr h60)
    · have deep : ∀ W l' c' v', RdS W rb v' c' → Ags W Ok B l' v' → But w.heap.size rb w W → c' ≤ 60 → Calls Tryz.prog 101 #[.pointer (some ⟨rb, 0, none⟩), .int .i64 ((d : Int) + 1)] W fun e w' => Out W rb B Ok (Sr.keyF f l' c') e w' := fun W l' c' v' h1 h2 h3 h4 => by
        have := key_is rb B Ok hB f (d + 1) c' l' v' W (by omega) (henv.next h3) h1 h2 (by have := h3.size; omega) (fun k hk => ⟨(hO k hk).1, by have := (hO k hk).2; have := h3.size; omega⟩) (by omega)
        rw [show ((d + 1 : Nat) : Int) = (d : Int) + 1 by omega] at this
        exact this
      cases l with
      | nil => rw [Sr.keyF_nil h60]; exact key_none rb c B d v Ok w hr hl hrb hO (by omega) (by omega)
      | cons a r =>
        by_cases h3 : a.kind = 3
        · rw [Sr.keyF_list h60 h3]
          refine key_list rb c B d a r v Ok w _ hr hl hrb hO (by omega) (by omega) h3 fun W lv h1 h2 h4 h5 => ?_
          have := keys_is rb (c + 1) B (d + 1) a.list lv Ok W (Sr.keyF f) h1 h2 (by omega) (fun k hk => ⟨(hO k hk).1, by have := (hO k hk).2; omega⟩) (by omega) (Sr.keyF_c f) (fun W' l' c' v' k1 k2 k3 k4 => by
            have := deep W' l' c' v' k1 k2 (h4.trans (k3.less h5)) k4
            rw [show ((d + 1 : Nat) : Int) = (d : Int) + 1 by omega]
            exact this)
          rw [show ((d + 1 : Nat) : Int) = (d : Int) + 1 by omega] at this
          exact this
        · rw [Sr.keyF_word h60 h3]
          exact key_word (Sr.keyF f) (Sr.keyF_c f) rb c B d a r v Ok w henv hr hl hB hrb hO (by omega) (by omega) h3 deep
end Go.Proofs.YtligkpcoajnjmaaGreatDoorR
