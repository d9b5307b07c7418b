/-
  What key of package search does at OR, and more.
-/
import Derived.Test.YtogigccbnohjjaaGreatDoorBpSearchAll
namespace Go.Proofs.YtogigccbnohjjaaGreatDoor
open Go.RowKit Go.Proofs.Aid Go.Proofs.Sq Go.Proofs.Hd
set_option maxHeartbeats 4000000
set_option maxRecDepth 100000
theorem kx_or {w : World} {Ok : Nat → Prop} {k1 k2 : Sr.Ky} {xs ys : List Value} {b c : Nat} (h1 : Kx w Ok k1 xs) (h2 : Kx w Ok k2 ys) (hb : Ok b) (hc1 : ∀ i x, xs[i]? = some x → w.cell? ⟨b, i, none⟩ = some x) (hc2 : ∀ i x, ys[i]? = some x → w.cell? ⟨b, 6 + i, none⟩ = some x) : Kx w Ok (.mk 14 [] [] 0 [] [k1, k2]) [.int .i64 14, .string ⟨#[]⟩, .string ⟨#[]⟩, .int .i64 0, .slice none 0 0, .slice (some ⟨b, 0, none⟩) 2 c] := by
 refine Kx.mk 14 0 ⟨#[]⟩ ⟨#[]⟩ [] (.slice none 0 0) [k1, k2] (some ⟨b, 0, none⟩) c (fun j => if j = 0 then xs else ys) (StS.nil _ _) (fun j q hj => ?_) (Or.inr ⟨b, 0, rfl, hb, fun j q hj i x hx => ?_⟩)
 ·match j, hj with
  | 0, hj => simp at hj; subst hj; exact h1
  | 1, hj => simp at hj; subst hj; exact h2
  | j + 2, hj => simp at hj
 ·match j, hj with
  | 0, hj => rw [Nat.zero_mul, Nat.zero_add]; exact hc1 i x hx
  | 1, hj => rw [Nat.one_mul, Nat.zero_add]; exact hc2 i x hx
  | j + 2, hj => simp at hj
theorem key_or (g : List Sr.Ar → Nat → Sr.Rs Sr.Ky) (rb c B d : Nat) (x : Sr.Ar) (l : List Sr.Ar) (v : Value) (Ok : Nat → Prop) (w : World) (henv : EnvB w rb) (hr : RdS w rb v c) (hl : Ags w Ok B (x :: l) v) (hB : B ≤ 2000000) (hrb : rb < w.heap.size) (hG : ∀ l c k l' c', g l c = .ok k l' c' → c < c' ∧ c' ≤ 60) (hO : ∀ k, Ok k → k ≠ rb ∧ k < w.heap.size) (hd : d ≤ 6) (hc : c + 1 ≤ 60) (hx : x.kind ≠ 3) (hw : great x.text = Sr.wOr) (cK : ∀ W l' c' v', RdS W rb v' c' → Ags W Ok B l' v' → But w.heap.size rb w W → c' ≤ 60 → Calls Tryz.prog 38 #[.pointer (some ⟨rb, 0, none⟩), .int .i64 ((d : Int) + 1)] W fun e w' => Out W rb B Ok (g l' c') e w') :
  Calls Tryz.prog 38 #[.pointer (some ⟨rb, 0, none⟩), .int .i64 (d : Int)] w fun e w' => Out w rb B Ok ((g l (c + 1)).then fun a l c => (g l c).map fun b => .mk 14 [] [] 0 [] [a, b]) e w' := by
 have HENV : Hid (EnvB w rb) := henv
 have HGG : Hid (∀ l c k l' c', g l c = .ok k l' c' → c < c' ∧ c' ≤ 60) := hG
 have HKK : Hid (∀ W l' c' v', RdS W rb v' c' → Ags W Ok B l' v' → But w.heap.size rb w W → c' ≤ 60 → Calls Tryz.prog 38 #[.pointer (some ⟨rb, 0, none⟩), .int .i64 ((d : Int) + 1)] W fun e w' => Out W rb B Ok (g l' c') e w') := cK
 obtain ⟨T, hT⟩ : ∃ T, ((g l (c + 1)).then fun a l c => (g l c).map fun b => Sr.Ky.mk 14 [] [] 0 [] [a, b]) = T := ⟨_, rfl⟩
 rw [hT]
 obtain ⟨R, hR⟩ : ∃ R, g l (c + 1) = R := ⟨_, rfl⟩
 rw [hR] at hT
 have HT : Hid ((R.then fun a l c => (g l c).map fun b => Sr.Ky.mk 14 [] [] 0 [] [a, b]) = T) := hT
 have HR : Hid (g l (c + 1) = R) := hR
 clear henv cK hR hG hT
 obtain ⟨W1, W2, hW1, hW2, p1, f1, q1, q0, z2, hr2, hl2, hb2, hE2⟩ := key_begun rb c B (x :: l) v Ok w hr hl hrb hO
 have cW := word_ok rb (c + 1) B x l v Ok W2 hr2 hl2 (fun k hk => (hO k hk).1) hx
 obtain ⟨b, o, C, _, lv, rfl, hC, hC2, hOb, _, _, _, c1, _, _, _⟩ := hl2.head
 have hkb : (x.kind == 3) = false := by simpa using hx
 obtain ⟨K, hK⟩ : ∃ K, x.kind = K := ⟨_, rfl⟩
 rw [hK] at c1 hkb
 obtain ⟨L, hL⟩ : ∃ L, l.length = L := ⟨_, rfl⟩
 rw [hL] at q0 hC
 have HB : Hid (But w.heap.size rb w W2) := hb2
 have HE : Hid (W2.heap[w.heap.size]? = some (.cells #[.int .i64 0, .string ⟨#[]⟩, .string ⟨#[]⟩, .int .i64 0, .slice none 0 0, .slice none 0 0] 32 (0, 0))) := hE2
 have HO : Hid (∀ k, Ok k → k ≠ rb ∧ k < w.heap.size) := hO
 have HZ : Hid (W2.heap.size = w.heap.size + 1) := z2
 have HWD : Hid (great x.text = Sr.wOr) := hw
 have d1 : decide ((6 : Int) < (d : Int)) = false := decide_eq_false (by omega)
 have d2 : decide ((60 : Int) < (c : Int) + 1) = false := decide_eq_false (by omega)
 clear hr hl hO hr2 hl2 hb2 hE2 hL z2 hx hK hw
 go_enter Tryz.func38, Tryz.ntmps38
 go_wp2_with fail
 refine cW.mono ?_
 rintro e w3 ⟨tb, v3, htb, htz, rfl, hr3, hl3, hb3⟩
 have cG := great_is tb w3 (by omega)
 rw [htb, HWD.out, show (⟨(Sr.wOr : List UInt8).toArray⟩ : ByteArray) = ⟨#[79, 82]⟩ from rfl] at cG
 have hz := HZ.out
 have hs3 := hb3.size
 have HX : Hid (∀ W, Below w3.heap.size w3 W → RdS W rb v3 (c + 1) ∧ Ags W Ok B l v3 ∧ But w.heap.size rb w W ∧ W.heap[w.heap.size]? = some (.cells #[.int .i64 0, .string ⟨#[]⟩, .string ⟨#[]⟩, .int .i64 0, .slice none 0 0, .slice none 0 0] 32 (0, 0)) ∧ w.heap.size + 1 ≤ W.heap.size) := fun W hW =>
  ⟨hr3.kept (hW.block rb (by omega)), hl3.kept fun k hk hlt => ⟨hk, hW.block k hlt⟩, (HB.out.trans (hb3.less (by omega))).trans (to_but (hW.mono (by omega))), (hW.block w.heap.size (by omega)).trans ((hb3.block w.heap.size (by omega) (by omega)).trans HE.out), by have := hW.size; omega⟩
 clear cW hr3 hl3 hb3 htb
 go_wp2_with fail
 refine cG.mono ?_
 rintro e w4 ⟨rfl, hb4⟩
 obtain ⟨hr4, hl4, hbt, e4, hs4⟩ := HX.out w4 hb4
 clear cG HX
 have cQ := HKK.out w4 l (c + 1) v3 hr4 hl4 hbt hc
 rw [HR.out] at cQ
 have HX5 : Hid (But w.heap.size rb w w4 ∧ w4.heap[w.heap.size]? = some (.cells #[.int .i64 0, .string ⟨#[]⟩, .string ⟨#[]⟩, .int .i64 0, .slice none 0 0, .slice none 0 0] 32 (0, 0))) := ⟨hbt, e4⟩
 clear hb4 hr4 hl4 hbt e4
 go_wp2_with fail
 refine cQ.mono ?_
 intro e w6 h6
 clear cQ
 cases R with
 | bad n =>
  have hT := HT.out
  subst hT
  obtain ⟨rfl, hb6⟩ := h6
  have HB6 : Hid (But w.heap.size rb w w6) := HX5.out.1.trans (hb6.less (by omega))
  clear hb6
  unfold thrown
  go_wp2_with fail
  exact ⟨rfl, rfl, HB6.out⟩
 | ok k l5 c5 =>
  have hc5 := HGG.out _ _ _ _ _ HR.out
  obtain ⟨ys, v6, rfl, hk6, hr6, hl6, hb6⟩ := h6
  have hs6 := hb6.size
  obtain ⟨x0, x3, x1, x2, xa, xk, xc, ya, yk, yc, rfl⟩ := kx_cells hk6
  have hta : ([.int .i64 x0, .string x1, .string x2, .int .i64 x3, .slice xa xk xc, .slice ya yk yc] : List Value).toArray = #[.int .i64 x0, .string x1, .string x2, .int .i64 x3, .slice xa xk xc, .slice ya yk yc] := rfl
  rw [hta]
  have b7 : Below w6.heap.size w6 (w6.alloc (.cells #[.int .i64 x0, .string x1, .string x2, .int .i64 x3, .slice xa xk xc, .slice ya yk yc] 32)) := (Below.refl _ _).alloc (Nat.le_refl _) _
  have e7 := heap_alloc_new w6 (.cells #[.int .i64 x0, .string x1, .string x2, .int .i64 x3, .slice xa xk xc, .slice ya yk yc] 32)
  have z7 : (w6.alloc (.cells #[.int .i64 x0, .string x1, .string x2, .int .i64 x3, .slice xa xk xc, .slice ya yk yc] 32)).heap.size = w6.heap.size + 1 := by simp
  obtain ⟨W7, hW7⟩ : ∃ W, w6.alloc (.cells #[.int .i64 x0, .string x1, .string x2, .int .i64 x3, .slice xa xk xc, .slice ya yk yc] 32) = W := ⟨_, rfl⟩
  rw [hW7] at b7 e7 z7
  obtain ⟨FB, hFB⟩ : ∃ n, w6.heap.size = n := ⟨_, rfl⟩
  rw [hFB] at e7 z7
  have cA := HKK.out W7.drew l5 c5 v6 (hr6.kept (b7.block rb (by omega))) (hl6.kept fun q hq hlt => ⟨hq, b7.block q hlt⟩) ((HX5.out.1.trans (hb6.less (by omega))).trans ((to_but (b7.mono (by omega))).trans (to_but (Below.refl _ _).drew))) hc5.2
  obtain ⟨R2, hR2⟩ : ∃ R, g l5 c5 = R := ⟨_, rfl⟩
  rw [hR2] at cA
  have HT2 : Hid ((R2.map fun b => Sr.Ky.mk 14 [] [] 0 [] [k, b]) = T) := by
   have : ((g l5 c5).map fun b => Sr.Ky.mk 14 [] [] 0 [] [k, b]) = T := HT.out
   rw [hR2] at this
   exact this
  have HX7 : Hid (Kx W7.drew (fun q => w.heap.size + 1 ≤ q) k [.int .i64 x0, .string x1, .string x2, .int .i64 x3, .slice xa xk xc, .slice ya yk yc] ∧ But w.heap.size rb w W7.drew ∧ W7.drew.heap[w.heap.size]? = some (.cells #[.int .i64 0, .string ⟨#[]⟩, .string ⟨#[]⟩, .int .i64 0, .slice none 0 0, .slice none 0 0] 32 (0, 0)) ∧ W7.drew.heap[FB]? = some (.cells #[.int .i64 x0, .string x1, .string x2, .int .i64 x3, .slice xa xk xc, .slice ya yk yc] 32 (0, 0)) ∧ W7.drew.heap.size = FB + 1 ∧ w.heap.size + 1 ≤ FB) :=
   ⟨hk6.kept fun q hq hlt => ⟨by omega, b7.block q hlt⟩, ((HX5.out.1.trans (hb6.less (by omega))).trans ((to_but (b7.mono (by omega))).trans (to_but (Below.refl _ _).drew))), (b7.block w.heap.size (by omega)).trans ((hb6.block w.heap.size (by omega) (by omega)).trans HX5.out.2), e7, z7, by omega⟩
  have f0 : W7.cell? ⟨FB, 0, none⟩ = some (.int .i64 x0) := rd_cell e7 rfl
  have f1 : W7.cell? ⟨FB, 1, none⟩ = some (.string x1) := rd_cell e7 rfl
  have f2 : W7.cell? ⟨FB, 2, none⟩ = some (.string x2) := rd_cell e7 rfl
  have f3 : W7.cell? ⟨FB, 3, none⟩ = some (.int .i64 x3) := rd_cell e7 rfl
  have f4 : W7.cell? ⟨FB, 4, none⟩ = some (.slice xa xk xc) := rd_cell e7 rfl
  have f5 : W7.cell? ⟨FB, 5, none⟩ = some (.slice ya yk yc) := rd_cell e7 rfl
  have HDR : Hid (W7.heap.size = FB + 1) := z7
  clear hk6 hr6 hl6 hb6 hta HX5 b7 e7 z7 hR2
  go_wp2_with fail
  have hwr : IntKind.i64.wrap ((d : Int) + 1) = (d : Int) + 1 := by rw [IntKind.wrap_i64]; omega
  cases R2 with
  | bad n =>
   have hT := HT2.out
   subst hT
   have HF : Hid (∀ w8, But W7.drew.heap.size rb W7.drew w8 → Out w rb B Ok (.bad n) (thrown n) w8) := fun w8 h8 => ⟨rfl, HX7.out.2.1.trans (h8.less (by have := HX7.out.2.2.2.2; omega))⟩
   unfold thrown at HF
   refine wp_region_any (by kernel_rfl) ?_
   change wpAny _ _ _ _ _ _ _ (World.drew _)
   refine wpAny_take (i := 1) (v := ?_) rfl (by kernel_rfl) (by kernel_rfl) (by kernel_rfl) (fun _ _ _ h => h) (Or.inl ⟨by rfl, ?_⟩) ?_
   rotate_left
   ·intro w; go_simp; with_reducible rfl
   refine wpAny_take (i := 2) (v := ?_) rfl (by kernel_rfl) (by kernel_rfl) (by kernel_rfl) (fun _ _ _ h => h) (Or.inl ⟨by rfl, ?_⟩) ?_
   rotate_left
   ·intro w; go_simp; with_reducible rfl
   refine wpAny_take (i := 3) (v := ?_) rfl (by kernel_rfl) (by kernel_rfl) (by kernel_rfl) (fun _ _ _ h => h) (Or.inl ⟨by rfl, ?_⟩) ?_
   rotate_left
   ·intro w; go_simp; with_reducible rfl
   refine wpAny_ready (rs := [0, 4]) (by kernel_rfl) (by simp) ?_
   refine AllReady.cons rfl (fun K hK => ?_) ?_
   ·go_simp
    refine hK _ _ ?_
    refine wpAny_ready (rs := [4]) (by kernel_rfl) (by simp) ?_
    refine AllReady.cons rfl (fun K hK => ?_) AllReady.nil
    go_simp
    refine cA.mono ?_
    rintro e w8 ⟨rfl, hb8⟩
    unfold thrown
    exact ⟨rfl, HF.out w8 hb8⟩
   refine AllReady.cons rfl (fun K hK => ?_) AllReady.nil
   go_simp
   refine cA.mono ?_
   rintro e w8 ⟨rfl, hb8⟩
   unfold thrown
   exact ⟨rfl, HF.out w8 hb8⟩
  | ok k2 l8 c8 =>
   have hT := HT2.out
   subst hT
   have cA2 : Calls Tryz.prog 38 #[.pointer (some ⟨rb, 0, none⟩), .int .i64 ((d : Int) + 1)] W7.drew fun e w9 => ∃ (z0 z3 : Int) (z1 z2 : ByteArray) (za : Option Addr) (zk zc : Nat) (ba : Option Addr) (bk bc : Nat) (w8 W9 : World) (N8 : Nat),
     e = .returned (.agg #[.int .i64 z0, .string z1, .string z2, .int .i64 z3, .slice za zk zc, .slice ba bk bc]) ∧ w9 = w8 ∧ w8.heap.size = N8 ∧ (w8.cell? ⟨FB, 0, none⟩ = some (.int .i64 x0) ∧ w8.cell? ⟨FB, 1, none⟩ = some (.string x1) ∧ w8.cell? ⟨FB, 2, none⟩ = some (.string x2) ∧ w8.cell? ⟨FB, 3, none⟩ = some (.int .i64 x3) ∧ w8.cell? ⟨FB, 4, none⟩ = some (.slice xa xk xc) ∧ w8.cell? ⟨FB, 5, none⟩ = some (.slice ya yk yc)) ∧
     w8.alloc (.cells #[.int .i64 x0, .string x1, .string x2, .int .i64 x3, .slice xa xk xc, .slice ya yk yc, .int .i64 z0, .string z1, .string z2, .int .i64 z3, .slice za zk zc, .slice ba bk bc] 32) = W9 ∧ Hid (W9.heap[w.heap.size]? = some (.cells #[.int .i64 0, .string ⟨#[]⟩, .string ⟨#[]⟩, .int .i64 0, .slice none 0 0, .slice none 0 0] 32 (0, 0))) ∧
     Hid (Out w rb B Ok (.ok (.mk 14 [] [] 0 [] [k, k2]) l8 c8) (.returned (.agg #[.int .i64 14, .string ⟨#[]⟩, .string ⟨#[]⟩, .int .i64 0, .slice none 0 0, .slice (some ⟨N8, 0, none⟩) 2 2])) ((((((W9.setCell ⟨w.heap.size, 0, none⟩ (.int .i64 14)).setCell ⟨w.heap.size, 1, none⟩ (.string ⟨#[]⟩)).setCell ⟨w.heap.size, 2, none⟩ (.string ⟨#[]⟩)).setCell ⟨w.heap.size, 3, none⟩ (.int .i64 0)).setCell ⟨w.heap.size, 4, none⟩ (.slice none 0 0)).setCell ⟨w.heap.size, 5, none⟩ (.slice (some ⟨N8, 0, none⟩) 2 2))) := by
    refine cA.mono ?_
    rintro e w8 ⟨zs, v8, rfl, hk8, hr8, hl8, hb8⟩
    obtain ⟨hx7, hbb7, ez7, ef7, zz7, hFBw⟩ := HX7.out
    have hs8 := hb8.size
    obtain ⟨z0, z3, z1, z2, za, zk, zc, ba, bk, bc, rfl⟩ := kx_cells hk8
    have eF8 := (hb8.block FB (by omega) (by omega)).trans ef7
    have b9 : Below w8.heap.size w8 (w8.alloc (.cells #[.int .i64 x0, .string x1, .string x2, .int .i64 x3, .slice xa xk xc, .slice ya yk yc, .int .i64 z0, .string z1, .string z2, .int .i64 z3, .slice za zk zc, .slice ba bk bc] 32)) := (Below.refl _ _).alloc (Nat.le_refl _) _
    have e9 := heap_alloc_new w8 (.cells #[.int .i64 x0, .string x1, .string x2, .int .i64 x3, .slice xa xk xc, .slice ya yk yc, .int .i64 z0, .string z1, .string z2, .int .i64 z3, .slice za zk zc, .slice ba bk bc] 32)
    have eR9 := (b9.block w.heap.size (by omega)).trans ((hb8.block w.heap.size (by omega) (by omega)).trans ez7)
    generalize hW9 : w8.alloc (.cells #[.int .i64 x0, .string x1, .string x2, .int .i64 x3, .slice xa xk xc, .slice ya yk yc, .int .i64 z0, .string z1, .string z2, .int .i64 z3, .slice za zk zc, .slice ba bk bc] 32) = W9 at b9 e9 eR9
    refine ⟨z0, z3, z1, z2, za, zk, zc, ba, bk, bc, w8, W9, w8.heap.size, rfl, rfl, rfl, ⟨rd_cell eF8 rfl, rd_cell eF8 rfl, rd_cell eF8 rfl, rd_cell eF8 rfl, rd_cell eF8 rfl, rd_cell eF8 rfl⟩, hW9, eR9, ?_⟩
    refine key_done hrb HO.out (kx_or (hx7.kept fun q hq hlt => ⟨hq, ?_⟩) (hk8.kept fun q hq hlt => ⟨by omega, b9.block q hlt⟩) (by omega) ?_ ?_) (hr8.kept (b9.block rb (by omega))) (hl8.kept fun q hq hlt => ⟨hq, b9.block q hlt⟩) ((hbb7.trans (hb8.less (by omega))).trans (to_but (b9.mono (by omega))))
    ·exact (b9.block q (by omega)).trans (hb8.block q hlt (by omega))
    ·intro i y hy
     have hi : i < 6 := (List.getElem?_eq_some_iff.1 hy).1
     refine rd_cell e9 ?_
     rw [← Array.getElem?_toList, show (#[.int .i64 x0, .string x1, .string x2, .int .i64 x3, .slice xa xk xc, .slice ya yk yc, .int .i64 z0, .string z1, .string z2, .int .i64 z3, .slice za zk zc, .slice ba bk bc] : Array Value).toList = [.int .i64 x0, .string x1, .string x2, .int .i64 x3, .slice xa xk xc, .slice ya yk yc] ++ [.int .i64 z0, .string z1, .string z2, .int .i64 z3, .slice za zk zc, .slice ba bk bc] from rfl, List.getElem?_append_left hi]
     exact hy
    ·intro i y hy
     refine rd_cell e9 ?_
     rw [← Array.getElem?_toList, show (#[.int .i64 x0, .string x1, .string x2, .int .i64 x3, .slice xa xk xc, .slice ya yk yc, .int .i64 z0, .string z1, .string z2, .int .i64 z3, .slice za zk zc, .slice ba bk bc] : Array Value).toList = [.int .i64 x0, .string x1, .string x2, .int .i64 x3, .slice xa xk xc, .slice ya yk yc] ++ [.int .i64 z0, .string z1, .string z2, .int .i64 z3, .slice za zk zc, .slice ba bk bc] from rfl, List.getElem?_append_right (by show 6 ≤ 6 + i; omega)]
     rw [show 6 + i - ([.int .i64 x0, .string x1, .string x2, .int .i64 x3, .slice xa xk xc, .slice ya yk yc] : List Value).length = i from by show 6 + i - 6 = i; omega]
     exact hy
   clear cA
   go_region_with (go_at_call 38; refine cA2.mono ?_; rintro e w9 ⟨z0, z3, z1, z2, za, zk, zc, ba, bk, bc, w8, W9, N8, rfl, rfl, hN8, ⟨j0, j1, j2, j3, j4, j5⟩, hW9, HE9, HD9⟩; obtain ⟨⟨s0, s1, s2, s3, s4, s5⟩, ⟨sf0, sf1, sf2, sf3, sf4, sf5⟩, u0, u1, u2, u3, u4, u5⟩ := six_facts HE9.out (.int .i64 14) (.string ⟨#[]⟩) (.string ⟨#[]⟩) (.int .i64 0) (.slice none 0 0) (.slice (some ⟨N8, 0, none⟩) 2 2))
   all_goals
    go_wp2_with fail
    exact bodyPost_ret (v := .agg #[.int .i64 14, .string ⟨#[]⟩, .string ⟨#[]⟩, .int .i64 0, .slice none 0 0, .slice (some ⟨N8, 0, none⟩) 2 2]) (by simp [results, Tryz.results38, go_sem, u0, u1, u2, u3, u4, u5]) rfl HD9.out
end Go.Proofs.YtogigccbnohjjaaGreatDoor
namespace Go.Proofs.YtogigccbnohjjaaGreatDoor
open Go.RowKit Go.Proofs.Aid Go.Proofs.Sq Go.Proofs.Hd
set_option maxHeartbeats 4000000
set_option maxRecDepth 100000
theorem rel_bound {g : List Sr.Ar → Nat → Sr.Rs Sr.Ky} (hG : Sr.Cnt g) {l l' : List Sr.Ar} {c : Nat} {k : Sr.Ky} {n E : Int} (h : RelK (g l c) k l' n E) : E = 0 → 0 ≤ n ∧ n ≤ 60 := by
 intro h0
 cases hg : g l c with
 | bad x => rw [hg] at h; exact absurd h0 (by rw [h.1]; exact h.2)
 | ok k1 l1 c1 =>
  rw [hg] at h
  have := (hG _ _ _ _ _ hg).2
  rw [h.2.2.2]
  omega
theorem kkey_or (kb B d c : Nat) (x : Sr.Ar) (l : List Sr.Ar) (v : Value) (Ok : Nat → Prop) (w : World) (henv : EnvK w kb) (hr : KyS w kb (c : Int) 0) (hl : Ags w Ok B (x :: l) v) (hB : B ≤ 900000) (hO : ∀ k, Ok k → k ≠ kb ∧ k < w.heap.size) (hd : d ≤ 6) (hc : c + 1 ≤ 60) (hx : x.kind ≠ 3) (hw : great x.text = [79, 82]) (g : List Sr.Ar → Nat → Sr.Rs Sr.Ky) (cK : ∀ W l' v' n E, KyS W kb n E → Ags W Ok B l' v' → But w.heap.size kb w W → (E = 0 → 0 ≤ n ∧ n ≤ 60) → Calls Tryz.prog 37 #[.pointer (some ⟨kb, 0, none⟩), v', .int .i64 ((d : Int) + 1)] W fun e w' => OutK W kb B Ok (atK g l' n E) e w') (hG : Sr.Cnt g) :
  Calls Tryz.prog 37 #[.pointer (some ⟨kb, 0, none⟩), v, .int .i64 (d : Int)] w fun e w' => OutK w kb B Ok ((g l (c + 1)).then fun a l c => (g l c).map fun b => Sr.Ky.mk 14 [] [] 0 [] [a, b]) e w' := by
 have HKK : Hid (∀ W l' v' n E, KyS W kb n E → Ags W Ok B l' v' → But w.heap.size kb w W → (E = 0 → 0 ≤ n ∧ n ≤ 60) → Calls Tryz.prog 37 #[.pointer (some ⟨kb, 0, none⟩), v', .int .i64 ((d : Int) + 1)] W fun e w' => OutK W kb B Ok (atK g l' n E) e w') := cK
 clear cK
 have hkb := hr.lt
 obtain ⟨T, hT⟩ : ∃ T, ((g l (c + 1)).then fun a l c => (g l c).map fun b => Sr.Ky.mk 14 [] [] 0 [] [a, b]) = T := ⟨_, rfl⟩
 rw [hT]
 have HT : Hid (((g l (c + 1)).then fun a l c => (g l c).map fun b => Sr.Ky.mk 14 [] [] 0 [] [a, b]) = T) := hT
 have HENV : Hid (EnvK w kb) := henv
 obtain ⟨W1, W2, hW1, hW2, p1, f1, q0, q1, z2, hr2, hl2, hb2, hE2⟩ := kbegun kb B (c : Int) 0 ((c : Int) + 1) (x :: l) v Ok w hr hl hO
 have cW := kword kb B ((c : Int) + 1) 0 (x :: l) v Ok W2 hr2 hl2 (fun _ => by omega)
 obtain ⟨b, o, C, _, lv, rfl, hC, hC2, hOb, _, _, _, c1, _, _, _⟩ := hl2.head
 have hkb3 : (x.kind == 3) = false := by simpa using hx
 obtain ⟨L, hL⟩ : ∃ L, l.length = L := ⟨_, rfl⟩
 have HB : Hid (But w.heap.size kb w W2) := hb2
 have HE : Hid (W2.heap[w.heap.size]? = some (.cells #[.int .i64 0, .string ⟨#[]⟩, .string ⟨#[]⟩, .int .i64 0, .slice none 0 0, .slice none 0 0] 32 (0, 0))) := hE2
 have HO : Hid (∀ k, Ok k → k ≠ kb ∧ k < w.heap.size) := hO
 have HZ : Hid (W2.heap.size = w.heap.size + 1) := z2
 have HWD : Hid (great x.text = [79, 82] ∧ x.kind ≠ 3) := ⟨hw, hx⟩
 have d1 : decide ((60 : Int) < (c : Int) + 1) = false := decide_eq_false (by omega)
 have d2 : decide ((6 : Int) < (d : Int)) = false := decide_eq_false (by omega)
 obtain ⟨K, hK⟩ : ∃ K, x.kind = K := ⟨_, rfl⟩
 rw [hK] at c1 hkb3
 rw [hL] at hC cW ⊢
 clear hr hl hO hr2 hl2 hb2 hE2 hL z2 hx hK hw henv hT
 go_enter Tryz.func37, Tryz.ntmps37
 go_wp2_with fail
 refine cW.mono ?_
 rintro e w3 ⟨tb, v3, l3, E3, rfl, htz, hl3, hr3, hb3, hrel⟩
 obtain ⟨rfl, htb, rfl⟩ : E3 = 0 ∧ tb.data.toList = x.text ∧ l3 = l := by
  unfold atK at hrel
  rw [if_pos rfl, Sr.wordF, if_neg HWD.out.2] at hrel
  exact ⟨hrel.1, hrel.2.1, hrel.2.2.1⟩
 have r1 : w3.cell? ⟨kb, 1, none⟩ = some (.int .i64 0) := rd_cell hr3 rfl
 have cG := rgreat_is tb w3 (by omega)
 rw [htb, HWD.out.1, show (⟨([79, 82] : List UInt8).toArray⟩ : ByteArray) = ⟨#[79, 82]⟩ from rfl] at cG
 have hz := HZ.out
 have hs3 := hb3.size
 have HX : Hid (∀ W, Below w3.heap.size w3 W → KyS W kb ((c : Int) + 1) 0 ∧ Ags W Ok B l3 v3 ∧ But w.heap.size kb w W ∧ W.heap[w.heap.size]? = some (.cells #[.int .i64 0, .string ⟨#[]⟩, .string ⟨#[]⟩, .int .i64 0, .slice none 0 0, .slice none 0 0] 32 (0, 0)) ∧ w.heap.size + 1 ≤ W.heap.size) := fun W hW =>
  ⟨hr3.kept (hW.block kb (by omega)), hl3.kept fun k hk hlt => ⟨hk, hW.block k hlt⟩, (HB.out.trans (hb3.less (by omega))).trans (to_but (hW.mono (by omega))), (hW.block w.heap.size (by omega)).trans ((hb3.block w.heap.size (by omega) (by omega)).trans HE.out), by have := hW.size; omega⟩
 clear cW hr3 hl3 hb3 htb hrel
 go_wp2_with fail
 refine cG.mono ?_
 rintro e w4 ⟨rfl, hb4⟩
 obtain ⟨hr4, hl4, hbt, e4, hs4⟩ := HX.out w4 hb4
 clear cG HX hb4
 have cQ := HKK.out w4 l3 v3 ((c : Int) + 1) 0 hr4 hl4 hbt (fun _ => ⟨by omega, by omega⟩)
 rw [show ((c : Int) + 1) = ((c + 1 : Nat) : Int) from rfl, atK_ok] at cQ
 have HX4 : Hid (But w.heap.size kb w w4 ∧ w4.heap[w.heap.size]? = some (.cells #[.int .i64 0, .string ⟨#[]⟩, .string ⟨#[]⟩, .int .i64 0, .slice none 0 0, .slice none 0 0] 32 (0, 0))) := ⟨hbt, e4⟩
 clear hr4 hl4 hbt e4
 go_wp2_with fail
 refine cQ.mono ?_
 rintro e w6 ⟨ys, v6, k6, l6, n6, E6, rfl, hk6, hl6, hr6, hb6, hrel6⟩
 clear cQ
 obtain ⟨x0, x3, x1, x2, xa, xk, xc, ya, yk, yc, rfl⟩ := kx_cells hk6
 have hta : ([.int .i64 x0, .string x1, .string x2, .int .i64 x3, .slice xa xk xc, .slice ya yk yc] : List Value).toArray = #[.int .i64 x0, .string x1, .string x2, .int .i64 x3, .slice xa xk xc, .slice ya yk yc] := rfl
 rw [hta]
 have hs6 := hb6.size
 have e6 := (hb6.block w.heap.size (by omega) (by omega)).trans HX4.out.2
 have hbt6 := HX4.out.1.trans (hb6.less (base' := w.heap.size) (by omega))
 have e7 := heap_alloc_new w6 (.cells #[.int .i64 0, .string ⟨#[]⟩, .string ⟨#[]⟩, .int .i64 0, .slice none 0 0, .slice none 0 0] 32)
 have b7 : Below w6.heap.size w6 (w6.alloc (.cells #[.int .i64 0, .string ⟨#[]⟩, .string ⟨#[]⟩, .int .i64 0, .slice none 0 0, .slice none 0 0] 32)) := (Below.refl _ _).alloc (Nat.le_refl _) _
 obtain ⟨W7, hW7⟩ : ∃ W, w6.alloc (.cells #[.int .i64 0, .string ⟨#[]⟩, .string ⟨#[]⟩, .int .i64 0, .slice none 0 0, .slice none 0 0] 32) = W := ⟨_, rfl⟩
 rw [hW7] at e7 b7
 obtain ⟨FB, hFB⟩ : ∃ F, w6.heap.size = F := ⟨_, rfl⟩
 rw [hFB] at e7 b7
 obtain ⟨⟨a0, a1, a2, a3, a4, a5⟩, ⟨af0, af1, af2, af3, af4, af5⟩, _⟩ := six_facts e7 (.int .i64 x0) (.string x1) (.string x2) (.int .i64 x3) (.slice xa xk xc) (.slice ya yk yc)
 have e8 := six_set e7 (.int .i64 x0) (.string x1) (.string x2) (.int .i64 x3) (.slice xa xk xc) (.slice ya yk yc)
 obtain ⟨W8, hW8⟩ : ∃ W, ((((((W7.setCell ⟨FB, 0, none⟩ (.int .i64 x0)).setCell ⟨FB, 1, none⟩ (.string x1)).setCell ⟨FB, 2, none⟩ (.string x2)).setCell ⟨FB, 3, none⟩ (.int .i64 x3)).setCell ⟨FB, 4, none⟩ (.slice xa xk xc)).setCell ⟨FB, 5, none⟩ (.slice ya yk yc)) = W := ⟨_, rfl⟩
 have hfar8 : ∀ q, q < w6.heap.size → W8.heap[q]? = w6.heap[q]? := fun q hq => by rw [← hW8, six_other _ (by omega)]; exact b7.block q (by omega)
 have hb8 : But w6.heap.size kb w6 W8 := by rw [← hW8]; exact six_but (to_but (b7.mono (by omega))) (by omega) _ _ _ _ _ _
 rw [hW8] at e8
 have z8 : FB < W8.heap.size := (Array.getElem?_eq_some_iff.1 e8).1
 have y0 := rd_cell (j := 0) e8 rfl
 have y1 := rd_cell (j := 1) e8 rfl
 have y2 := rd_cell (j := 2) e8 rfl
 have y3 := rd_cell (j := 3) e8 rfl
 have y4 := rd_cell (j := 4) e8 rfl
 have y5 := rd_cell (j := 5) e8 rfl
 have HX8 : Hid (KyS W8 kb n6 E6 ∧ Ags W8 Ok B l6 v6 ∧ But w.heap.size kb w W8 ∧ W8.heap[w.heap.size]? = some (.cells #[.int .i64 0, .string ⟨#[]⟩, .string ⟨#[]⟩, .int .i64 0, .slice none 0 0, .slice none 0 0] 32 (0, 0)) ∧ RelK (g l3 (c + 1)) k6 l6 n6 E6 ∧ Kx W8 (fun q => w.heap.size + 1 ≤ q ∧ q < FB) k6 [.int .i64 x0, .string x1, .string x2, .int .i64 x3, .slice xa xk xc, .slice ya yk yc] ∧ W8.heap[FB]? = some (.cells #[.int .i64 x0, .string x1, .string x2, .int .i64 x3, .slice xa xk xc, .slice ya yk yc] 32 (0, 0)) ∧ w.heap.size + 1 ≤ FB) :=
  ⟨hr6.kept (hfar8 kb (by omega)), hl6.kept fun k hk hlt => ⟨hk, hfar8 k hlt⟩, hbt6.trans (hb8.less (by omega)), (hfar8 _ (by omega)).trans e6, hrel6, hk6.kept fun q hq hlt => ⟨⟨by omega, by omega⟩, hfar8 q hlt⟩, e8, by omega⟩
 have cA := HKK.out W8 l6 v6 n6 E6 HX8.out.1 HX8.out.2.1 HX8.out.2.2.1 (rel_bound hG hrel6)
 clear hr6 hl6 hb6 hbt6 hrel6 hk6 hta e6 e7 e8 b7 hfar8 hb8 HX4 hG
 go_wp2_with fail
 refine cA.mono ?_
 rintro e w9 ⟨zs, v9, k9, l9, n9, E9, rfl, hk9, hl9, hr9, hb9, hrel9⟩
 clear cA
 obtain ⟨X0, X3, X1, X2, Xa, Xk, Xc, Ya, Yk, Yc, rfl⟩ := kx_cells hk9
 have hta : ([.int .i64 X0, .string X1, .string X2, .int .i64 X3, .slice Xa Xk Xc, .slice Ya Yk Yc] : List Value).toArray = #[.int .i64 X0, .string X1, .string X2, .int .i64 X3, .slice Xa Xk Xc, .slice Ya Yk Yc] := rfl
 rw [hta]
 obtain ⟨_, _, hbt8, e8, hrel8, hk8, eF8, hFB8⟩ := HX8.out
 have hs9 := hb9.size
 have hR := hrel8.then (k := fun a l c => (g l c).map fun b => Sr.Ky.mk 14 [] [] 0 [] [a, b]) (by rw [atK_map]; exact hrel9.map fun b => Sr.Ky.mk 14 [] [] 0 [] [k6, b])
 rw [HT.out] at hR
 have e9 := (hb9.block w.heap.size (by omega) (by omega)).trans e8
 have eF9 := (hb9.block FB (by omega) (by omega)).trans eF8
 have hbt9 := hbt8.trans (hb9.less (base' := w.heap.size) (by omega))
 have eA := heap_alloc_new w9 (.cells #[.int .i64 0, .string ⟨#[]⟩, .string ⟨#[]⟩, .int .i64 0, .slice none 0 0, .slice none 0 0] 32)
 have bA : Below w9.heap.size w9 (w9.alloc (.cells #[.int .i64 0, .string ⟨#[]⟩, .string ⟨#[]⟩, .int .i64 0, .slice none 0 0, .slice none 0 0] 32)) := (Below.refl _ _).alloc (Nat.le_refl _) _
 obtain ⟨W10, hW10⟩ : ∃ W, w9.alloc (.cells #[.int .i64 0, .string ⟨#[]⟩, .string ⟨#[]⟩, .int .i64 0, .slice none 0 0, .slice none 0 0] 32) = W := ⟨_, rfl⟩
 rw [hW10] at eA bA
 obtain ⟨GB, hGB⟩ : ∃ F, w9.heap.size = F := ⟨_, rfl⟩
 rw [hGB] at eA bA
 obtain ⟨⟨m0, m1, m2, m3, m4, m5⟩, ⟨mf0, mf1, mf2, mf3, mf4, mf5⟩, _⟩ := six_facts eA (.int .i64 X0) (.string X1) (.string X2) (.int .i64 X3) (.slice Xa Xk Xc) (.slice Ya Yk Yc)
 have eB := six_set eA (.int .i64 X0) (.string X1) (.string X2) (.int .i64 X3) (.slice Xa Xk Xc) (.slice Ya Yk Yc)
 obtain ⟨W11, hW11⟩ : ∃ W, ((((((W10.setCell ⟨GB, 0, none⟩ (.int .i64 X0)).setCell ⟨GB, 1, none⟩ (.string X1)).setCell ⟨GB, 2, none⟩ (.string X2)).setCell ⟨GB, 3, none⟩ (.int .i64 X3)).setCell ⟨GB, 4, none⟩ (.slice Xa Xk Xc)).setCell ⟨GB, 5, none⟩ (.slice Ya Yk Yc)) = W := ⟨_, rfl⟩
 have hfarB : ∀ q, q < w9.heap.size → W11.heap[q]? = w9.heap[q]? := fun q hq => by rw [← hW11, six_other _ (by omega)]; exact bA.block q (by omega)
 have hbB : But w9.heap.size kb w9 W11 := by rw [← hW11]; exact six_but (to_but (bA.mono (by omega))) (by omega) _ _ _ _ _ _
 rw [hW11] at eB
 have zB : GB < W11.heap.size := (Array.getElem?_eq_some_iff.1 eB).1
 have eFB := (hfarB FB (by omega)).trans eF9
 have f0 := rd_cell (j := 0) eFB rfl
 have f1' := rd_cell (j := 1) eFB rfl
 have f2 := rd_cell (j := 2) eFB rfl
 have f3 := rd_cell (j := 3) eFB rfl
 have f4 := rd_cell (j := 4) eFB rfl
 have f5 := rd_cell (j := 5) eFB rfl
 have g0 := rd_cell (j := 0) eB rfl
 have g1 := rd_cell (j := 1) eB rfl
 have g2 := rd_cell (j := 2) eB rfl
 have g3 := rd_cell (j := 3) eB rfl
 have g4 := rd_cell (j := 4) eB rfl
 have g5 := rd_cell (j := 5) eB rfl
 have eC := heap_alloc_new W11 (.cells #[.int .i64 x0, .string x1, .string x2, .int .i64 x3, .slice xa xk xc, .slice ya yk yc, .int .i64 X0, .string X1, .string X2, .int .i64 X3, .slice Xa Xk Xc, .slice Ya Yk Yc] 32)
 have bC : Below W11.heap.size W11 (W11.alloc (.cells #[.int .i64 x0, .string x1, .string x2, .int .i64 x3, .slice xa xk xc, .slice ya yk yc, .int .i64 X0, .string X1, .string X2, .int .i64 X3, .slice Xa Xk Xc, .slice Ya Yk Yc] 32)) := (Below.refl _ _).alloc (Nat.le_refl _) _
 obtain ⟨W12, hW12⟩ : ∃ W, W11.alloc (.cells #[.int .i64 x0, .string x1, .string x2, .int .i64 x3, .slice xa xk xc, .slice ya yk yc, .int .i64 X0, .string X1, .string X2, .int .i64 X3, .slice Xa Xk Xc, .slice Ya Yk Yc] 32) = W := ⟨_, rfl⟩
 rw [hW12] at eC bC
 obtain ⟨HB', hHB⟩ : ∃ F, W11.heap.size = F := ⟨_, rfl⟩
 rw [hHB] at eC bC
 have hfarC : ∀ q, q < w9.heap.size → W12.heap[q]? = w9.heap[q]? := fun q hq => (bC.block q (by omega)).trans (hfarB q hq)
 have hk6C : Kx W12 (fun q => w.heap.size + 1 ≤ q) k6 [.int .i64 x0, .string x1, .string x2, .int .i64 x3, .slice xa xk xc, .slice ya yk yc] := hk8.kept fun q hq hlt => ⟨hq.1, (hfarC q (by omega)).trans (hb9.block q hlt (by omega))⟩
 have hk9C : Kx W12 (fun q => w.heap.size + 1 ≤ q) k9 [.int .i64 X0, .string X1, .string X2, .int .i64 X3, .slice Xa Xk Xc, .slice Ya Yk Yc] := hk9.kept fun q hq hlt => ⟨by omega, hfarC q hlt⟩
 have hkC := kx_or (b := HB') (c := 2) hk6C hk9C (show w.heap.size + 1 ≤ HB' by omega) (fun i x hx => rd_cell eC (by
  match i, hx with
  | 0, hx => exact hx
  | 1, hx => exact hx
  | 2, hx => exact hx
  | 3, hx => exact hx
  | 4, hx => exact hx
  | 5, hx => exact hx
  | i + 6, hx => simp at hx)) (fun i x hx => rd_cell eC (by
  match i, hx with
  | 0, hx => exact hx
  | 1, hx => exact hx
  | 2, hx => exact hx
  | 3, hx => exact hx
  | 4, hx => exact hx
  | 5, hx => exact hx
  | i + 6, hx => simp at hx))
 have eZ := (hfarC w.heap.size (by omega)).trans e9
 have HX12 : Hid (KyS W12 kb n9 E9 ∧ Ags W12 Ok B l9 v9 ∧ But w.heap.size kb w W12 ∧ RelK T (Sr.Ky.mk 14 [] [] 0 [] [k6, k9]) l9 n9 E9 ∧ Kx W12 (fun q => w.heap.size + 1 ≤ q) (Sr.Ky.mk 14 [] [] 0 [] [k6, k9]) [.int .i64 14, .string ⟨#[]⟩, .string ⟨#[]⟩, .int .i64 0, .slice none 0 0, .slice (some ⟨HB', 0, none⟩) 2 2]) :=
  ⟨hr9.kept (hfarC kb (by omega)), hl9.kept fun k hk hlt => ⟨hk, hfarC k hlt⟩, (hbt9.trans (hbB.less (by omega))).trans (to_but (bC.mono (by omega))), hR, hkC⟩
 obtain ⟨⟨s0, s1, s2, s3, s4, s5⟩, ⟨sf0, sf1, sf2, sf3, sf4, sf5⟩, u0, u1, u2, u3, u4, u5⟩ := six_facts eZ (.int .i64 14) (.string ⟨#[]⟩) (.string ⟨#[]⟩) (.int .i64 0) (.slice none 0 0) (.slice (some ⟨HB', 0, none⟩) 2 2)
 have HD : Hid (OutK w kb B Ok T (.returned (.tuple #[.agg #[.int .i64 14, .string ⟨#[]⟩, .string ⟨#[]⟩, .int .i64 0, .slice none 0 0, .slice (some ⟨HB', 0, none⟩) 2 2], v9])) _) := kdone hkb HO.out HX12.out.2.2.2.2 HX12.out.1 HX12.out.2.1 HX12.out.2.2.1 HX12.out.2.2.2.1
 clear hk9 hl9 hr9 hb9 hrel9 hta hbt8 e8 hrel8 hk8 eF8 hR e9 eF9 hbt9 eA bA eB hfarB hbB eFB eC bC hfarC hk6C hk9C hkC eZ HX12 HX8 HT HENV HKK
 go_wp2_with fail
 exact bodyPost_ret (v := .tuple #[.agg #[.int .i64 14, .string ⟨#[]⟩, .string ⟨#[]⟩, .int .i64 0, .slice none 0 0, .slice (some ⟨HB', 0, none⟩) 2 2], v9]) (by simp [results, Tryz.results37, go_sem, u0, u1, u2, u3, u4, u5]) rfl HD.out
end Go.Proofs.YtogigccbnohjjaaGreatDoor
