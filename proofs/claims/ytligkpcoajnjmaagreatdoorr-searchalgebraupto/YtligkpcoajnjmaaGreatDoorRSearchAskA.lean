/-
  What SearchAlgebra's own functions do.
-/
import Derived.Test.YtligkpcoajnjmaaGreatDoorRAl24
import Derived.Test.YtligkpcoajnjmaaGreatDoorRAl31
import Derived.Deep.RegionHeld3
namespace Go.Proofs.YtligkpcoajnjmaaGreatDoorR
open Go.RowKit Go.Proofs.Aid Go.Proofs.Sq Go.Proofs.Hd

/-- Parts of a command that lie somewhere. -/
def Aw (w : World) (l : List Sr.Ar) (v : Value) : Prop := Ags w (fun k => k < w.heap.size) 2000000 l v
theorem Aw.below {w w' : World} {l : List Sr.Ar} {v : Value} (h : Aw w l v) (hb : Below w.heap.size w w') : Aw w' l v := Ags.kept h fun k hk _ => ⟨Nat.lt_of_lt_of_le hk hb.size, hb.block k hk⟩
def askH (m : Sr.Lt) (l : List Sr.Ar) : Bool := match Sr.parseK l with | .ok k _ _ => Sr.holdsK m k | .bad _ => false
def askO (l : List Sr.Ar) : Bool := match Sr.parseK l with | .ok _ _ _ => true | .bad _ => false
set_option maxHeartbeats 4000000 in
set_option maxRecDepth 100000 in
theorem askA_is (m : Sr.Lt) (l : List Sr.Ar) (v : Value) (lb p1 p2 : Nat) (tb : ByteArray) (fa : Option Addr) (fn fc : Nat) (w : World) (htb : tb.data.toList = m.text) (ht : tb.size ≤ 90000) (hl : Aw w l v)
    (hc : w.heap[lb]? = some (.cells #[.int .i64 m.uid, .slice fa fn fc, .int .i64 m.day, .string tb] 25 (0, 0)))
    (h1 : w.heap[p1]? = some (.cells #[.int .i64 m.which] 3 (0, 0))) (h2 : w.heap[p2]? = some (.cells #[.int .i64 m.many, .int .i64 m.greatest] 29 (0, 0)))
    (hF : Trow w fa fn m.flags) (hFl : m.flags.length ≤ 1000) (hg : ∀ W, Below w.heap.size w W → SysAt W ∧ ErrType W ∧ NumAt W ∧ ∃ m, W.cell? ⟨1, 0, none⟩ = some (.int .i64 m)) :
    Calls Tryz.prog 9 #[v, .pointer (some ⟨lb, 0, none⟩), .pointer (some ⟨p1, 0, none⟩), .pointer (some ⟨p2, 0, none⟩)] w fun e w' => e = .returned (.tuple #[.bool (askH m l), .bool (askO l)]) ∧ Below w.heap.size w w' := by
  have hsz := ags_sz hl
  have cP := sparse_is 2000000 l v _ w (Nat.le_refl _) hl (fun k h => h) hg
  have hf : ∀ k r c, Sr.parseK l = .ok k r c → Fit AllL 900 k := fun k r c h => parse_fit (Nat.le_refl _) hsz h
  obtain ⟨a, c, rfl⟩ := hl.form
  obtain ⟨LN, hLN⟩ : ∃ x, l.length = x := ⟨_, rfl⟩
  rw [hLN] at cP ⊢
  obtain ⟨T, hT⟩ : ∃ T, Sr.parseK l = T := ⟨_, rfl⟩
  have HC : Hid (∀ W, Below w.heap.size w W → W.heap[lb]? = some (.cells #[.int .i64 m.uid, .slice fa fn fc, .int .i64 m.day, .string tb] 25 (0, 0)) ∧ W.heap[p1]? = some (.cells #[.int .i64 m.which] 3 (0, 0)) ∧ W.heap[p2]? = some (.cells #[.int .i64 m.many, .int .i64 m.greatest] 29 (0, 0))) := fun W hW =>
    ⟨(hW.block _ (Array.getElem?_eq_some_iff.1 hc).1).trans hc, (hW.block _ (Array.getElem?_eq_some_iff.1 h1).1).trans h1, (hW.block _ (Array.getElem?_eq_some_iff.1 h2).1).trans h2⟩
  have HL : Hid (∀ W Ok, Below w.heap.size w W → Leafs m [.int .i64 m.uid, .slice fa fn fc, .int .i64 m.day, .string tb, .int .i64 m.which, .int .i64 m.many, .int .i64 m.greatest] AllL Ok W) := fun W Ok hW => all_leafs m Ok tb fa fn fc W htb ht (hF.below hW) hFl fun W2 h2 => (hg W2 (hW.trans (h2.mono hW.size))).2.2.2
  have HT : Hid (tb.data.toList = m.text) := htb
  unfold askH askO
  rw [hT] at cP hf ⊢
  clear hsz hl hc h1 h2 hF hFl hg hLN hT htb
  go_enter Tryz.func9, Tryz.ntmps9
  go_wp2_with fail
  refine cP.mono ?_
  intro e w2 h2
  clear cP
  cases T with
  | bad n =>
    obtain ⟨rfl, hb2⟩ := h2
    have HB2 : Hid (Below w.heap.size w w2) := hb2
    clear hb2 hf HL HC
    go_upto_region 2 with fail
    refine wp_region_any (by kernel_rfl) ?_
    change wpAny _ _ _ _ _ _ _ (World.drew _)
    refine wpAny_take (i := 0) (v := ?_) rfl (by kernel_rfl) (by kernel_rfl) (by kernel_rfl) (fun _ _ _ h => h) (Or.inl ⟨by rfl, ?_⟩) ?_
    rotate_left
    · intro w; go_simp; with_reducible rfl
    refine wpAny_take (i := 1) (v := ?_) rfl (by kernel_rfl) (by kernel_rfl) (by kernel_rfl) (fun _ _ _ h => h) (Or.inl ⟨by rfl, ?_⟩) ?_
    rotate_left
    · intro w; go_simp; with_reducible rfl
    refine wpAny_take (i := 2) (v := ?_) rfl (by kernel_rfl) (by kernel_rfl) (by kernel_rfl) (fun _ _ _ h => h) (Or.inl ⟨by rfl, ?_⟩) ?_
    rotate_left
    · intro w; go_simp; with_reducible rfl
    refine wpAny_take (i := 3) (v := undef) rfl (by kernel_rfl) (by kernel_rfl) (by kernel_rfl) (fun _ _ _ h => h) (Or.inr ⟨by rfl, rfl⟩) ?_
    refine wpAny_take (i := 4) (v := undef) rfl (by kernel_rfl) (by kernel_rfl) (by kernel_rfl) (fun _ _ _ h => h) (Or.inr ⟨by rfl, rfl⟩) ?_
    refine wpAny_take (i := 5) (v := undef) rfl (by kernel_rfl) (by kernel_rfl) (by kernel_rfl) (fun _ _ _ h => h) (Or.inr ⟨by rfl, rfl⟩) ?_
    refine wpAny_take (i := 6) (v := undef) rfl (by kernel_rfl) (by kernel_rfl) (by kernel_rfl) (fun _ _ _ h => h) (Or.inr ⟨by rfl, rfl⟩) ?_
    refine wpAny_take (i := 7) (v := undef) rfl (by kernel_rfl) (by kernel_rfl) (by kernel_rfl) (fun _ _ _ h => h) (Or.inr ⟨by rfl, rfl⟩) ?_
    refine wpAny_take (i := 8) (v := ?_) rfl (by kernel_rfl) (by kernel_rfl) (by kernel_rfl) (fun _ _ _ h => h) (Or.inl ⟨by rfl, ?_⟩) ?_
    rotate_left
    · intro w; go_simp; with_reducible rfl
    refine wpAny_take (i := 9) (v := ?_) rfl (by kernel_rfl) (by kernel_rfl) (by kernel_rfl) (fun _ _ _ h => h) (Or.inl ⟨by rfl, ?_⟩) ?_
    rotate_left
    · intro w; go_simp; with_reducible rfl
    refine wpAny_take (i := 10) (v := ?_) rfl (by kernel_rfl) (by kernel_rfl) (by kernel_rfl) (fun _ _ _ h => h) (Or.inl ⟨by rfl, ?_⟩) ?_
    rotate_left
    · intro w; go_simp; with_reducible rfl
    refine wpAny_take (i := 11) (v := ?_) rfl (by kernel_rfl) (by kernel_rfl) (by kernel_rfl) (fun _ _ _ h => h) (Or.inl ⟨by rfl, ?_⟩) ?_
    rotate_left
    · intro w; go_simp; with_reducible rfl
    refine wpAny_take (i := 12) (v := ?_) rfl (by kernel_rfl) (by kernel_rfl) (by kernel_rfl) (fun _ _ _ h => h) (Or.inl ⟨by rfl, ?_⟩) ?_
    rotate_left
    · intro w; go_simp; with_reducible rfl
    refine wpAny_done (by kernel_rfl) ?_ _
    go_wp2_with fail
    go_ret2
    exact ⟨rfl, (HB2.out.alloc HB2.out.size _).drew⟩
  | ok q r c =>
    obtain ⟨ys, rfl, hk2, hb2⟩ := h2
    obtain ⟨x0, x3, x1, x2, xa, xk, xc, ya, yk, yc, rfl⟩ := kx_cells hk2
    rw [show ([.int .i64 x0, .string x1, .string x2, .int .i64 x3, .slice xa xk xc, .slice ya yk yc] : List Value).toArray = #[.int .i64 x0, .string x1, .string x2, .int .i64 x3, .slice xa xk xc, .slice ya yk yc] from rfl]
    have hb23 : Below w2.heap.size w2 (w2.alloc (.cells #[.int .i64 x0, .string x1, .string x2, .int .i64 x3, .slice xa xk xc, .slice ya yk yc] 33)) := (Below.refl _ _).alloc (Nat.le_refl _) _
    have hb03 := hb2.trans (hb23.mono hb2.size)
    obtain ⟨W3, hW3⟩ : ∃ W, w2.alloc (.cells #[.int .i64 x0, .string x1, .string x2, .int .i64 x3, .slice xa xk xc, .slice ya yk yc] 33) = W := ⟨_, rfl⟩
    have eK : W3.heap[w2.heap.size]? = some (.cells #[.int .i64 x0, .string x1, .string x2, .int .i64 x3, .slice xa xk xc, .slice ya yk yc] 33 (0, 0)) := by rw [← hW3]; exact heap_alloc_new w2 _
    rw [hW3] at hb23 hb03
    have cY : ∀ W, Below W3.heap.size W3 W → Calls Tryz.prog 11 #[.agg #[.int .i64 x0, .string x1, .string x2, .int .i64 x3, .slice xa xk xc, .slice ya yk yc], .agg #[.int .i64 m.uid, .slice fa fn fc, .int .i64 m.day, .string tb], .int .i64 m.which, .agg #[.int .i64 m.many, .int .i64 m.greatest]] W fun e w' => e = .returned (.bool (Sr.holdsK m q)) ∧ Below W.heap.size W w' := fun W hW => by
      have h3 := hb23.trans (hW.mono hb23.size)
      exact holds_is m AllL _ q _ tb fa fn fc W HT.out (hf q r c rfl) (hk2.under h3) (HL.out _ _ (hb03.trans (hW.mono hb03.size)))
    have HK : Hid (∀ W, Below W3.heap.size W3 W → W.heap[w2.heap.size]? = some (.cells #[.int .i64 x0, .string x1, .string x2, .int .i64 x3, .slice xa xk xc, .slice ya yk yc] 33 (0, 0)) ∧ W.heap[lb]? = some (.cells #[.int .i64 m.uid, .slice fa fn fc, .int .i64 m.day, .string tb] 25 (0, 0)) ∧ W.heap[p1]? = some (.cells #[.int .i64 m.which] 3 (0, 0)) ∧ W.heap[p2]? = some (.cells #[.int .i64 m.many, .int .i64 m.greatest] 29 (0, 0))) := fun W hW =>
      ⟨(hW.block _ (Array.getElem?_eq_some_iff.1 eK).1).trans eK, HC.out W (hb03.trans (hW.mono hb03.size))⟩
    have HCL : Hid (∀ W, Below W3.heap.size W3 W → (W.cell? ⟨w2.heap.size, 0, none⟩ = some (.int .i64 x0) ∧ W.cell? ⟨w2.heap.size, 1, none⟩ = some (.string x1) ∧ W.cell? ⟨w2.heap.size, 2, none⟩ = some (.string x2) ∧ W.cell? ⟨w2.heap.size, 3, none⟩ = some (.int .i64 x3) ∧ W.cell? ⟨w2.heap.size, 4, none⟩ = some (.slice xa xk xc) ∧ W.cell? ⟨w2.heap.size, 5, none⟩ = some (.slice ya yk yc)) ∧
        (W.cell? ⟨lb, 0, none⟩ = some (.int .i64 m.uid) ∧ W.cell? ⟨lb, 1, none⟩ = some (.slice fa fn fc) ∧ W.cell? ⟨lb, 2, none⟩ = some (.int .i64 m.day) ∧ W.cell? ⟨lb, 3, none⟩ = some (.string tb)) ∧ W.cell? ⟨p1, 0, none⟩ = some (.int .i64 m.which) ∧ W.cell? ⟨p2, 0, none⟩ = some (.int .i64 m.many) ∧ W.cell? ⟨p2, 1, none⟩ = some (.int .i64 m.greatest)) := fun W hW => by
      obtain ⟨e0, e1, e2, e3⟩ := HK.out W hW
      exact ⟨⟨rd_cell e0 rfl, rd_cell e0 rfl, rd_cell e0 rfl, rd_cell e0 rfl, rd_cell e0 rfl, rd_cell e0 rfl⟩, ⟨rd_cell e1 rfl, rd_cell e1 rfl, rd_cell e1 rfl, rd_cell e1 rfl⟩, rd_cell e2 rfl, rd_cell e3 rfl, rd_cell e3 rfl⟩
    have HB3 : Hid (Below w.heap.size w W3) := hb03
    have b3 : Below W3.heap.size W3 W3 := Below.refl _ _
    clear hk2 hb2 hb23 hb03 eK hf HC HL HK
    go_upto_region 2 with fail
    first
      | (go_region_held3 (fun W => ((W.cell? ⟨w2.heap.size, 0, none⟩ = some (.int .i64 x0) ∧ W.cell? ⟨w2.heap.size, 1, none⟩ = some (.string x1) ∧ W.cell? ⟨w2.heap.size, 2, none⟩ = some (.string x2) ∧ W.cell? ⟨w2.heap.size, 3, none⟩ = some (.int .i64 x3) ∧ W.cell? ⟨w2.heap.size, 4, none⟩ = some (.slice xa xk xc) ∧ W.cell? ⟨w2.heap.size, 5, none⟩ = some (.slice ya yk yc)) ∧
        (W.cell? ⟨lb, 0, none⟩ = some (.int .i64 m.uid) ∧ W.cell? ⟨lb, 1, none⟩ = some (.slice fa fn fc) ∧ W.cell? ⟨lb, 2, none⟩ = some (.int .i64 m.day) ∧ W.cell? ⟨lb, 3, none⟩ = some (.string tb)) ∧ W.cell? ⟨p1, 0, none⟩ = some (.int .i64 m.which) ∧ W.cell? ⟨p2, 0, none⟩ = some (.int .i64 m.many) ∧ W.cell? ⟨p2, 1, none⟩ = some (.int .i64 m.greatest)))
          ((refine HCL.out _ ?_; (repeat (first | (with_reducible assumption) | (with_reducible refine Below.drew ?_)))))
          (first | (go_at_call 11; with_reducible refine (cY _ ?_).mono ?_; (focus (repeat (first | (with_reducible assumption) | (with_reducible refine Below.drew ?_)))); rintro e wA ⟨rfl, kF⟩; have kA : Below W3.heap.size W3 wA := (Below.refl _ _).drew.trans (kF.mono (Nat.le_refl _)))))
      | fail
    all_goals (go_wp2_with fail; go_ret2; exact ⟨rfl, HB3.out.trans ((show Below W3.heap.size W3 wA by assumption).mono HB3.out.size)⟩)
theorem wordA_is (s : ByteArray) (w : World) : Calls Tryz.prog 12 #[.string s] w fun e w' => e = .returned (.agg #[.int .i64 1, .string s, .slice none 0 0]) ∧ Below w.heap.size w w' := by
  go_enter Tryz.func12, Tryz.ntmps12
  go_wp2_with fail
  (try simp only [Exit.inBlock, Exit.then])
  exact bodyPost_ret (v := .agg #[.int .i64 1, .string s, .slice none 0 0]) (by simp [results, Tryz.results12, go_sem]) rfl ⟨rfl, (Below.refl _ _).alloc (Nat.le_refl _) _⟩
theorem listA_is (a : Option Addr) (n c : Nat) (w : World) : Calls Tryz.prog 13 #[.slice a n c] w fun e w' => e = .returned (.agg #[.int .i64 3, .string ⟨#[]⟩, .slice a n c]) ∧ Below w.heap.size w w' := by
  go_enter Tryz.func13, Tryz.ntmps13
  go_wp2_with fail
  (try simp only [Exit.inBlock, Exit.then])
  exact bodyPost_ret (v := .agg #[.int .i64 3, .string ⟨#[]⟩, .slice a n c]) (by simp [results, Tryz.results13, go_sem]) rfl ⟨rfl, (Below.refl _ _).alloc (Nat.le_refl _) _⟩
end Go.Proofs.YtligkpcoajnjmaaGreatDoorR
