/-
  archive, and more.
-/
import Derived.Test.YtdmplfflmdanlaaGreatDoorMArHouseRd
import Derived.Test.YtdmplfflmdanlaaGreatDoorBpArRows2
import Derived.Shelf.SlSortCmp.WholeK
import Derived.Shelf.SlicesG.Cmp
import Derived.Ground.SlsfProg
import Derived.Ground.SlgcProg
namespace Go.Proofs.YtdmplfflmdanlaaGreatDoor
open Go.RowKit Go.Proofs.Aid Go.Proofs.Bx

/-- What is read of letters that were written whole. -/
def OneL (_ : Int) (s : Nm) (l : List Lt) (s' : Nm) : Prop := (l, s') = readRowS 60 letterS s
theorem oneL_len : ∀ v s l s', OneL v s l s' → s'.length ≤ s.length := fun _ s _ s' h => by
  have e : s' = (readRowS 60 letterS s).2 := by rw [← h]
  rw [e]
  exact readRow_len rletter_len _ _
set_option maxHeartbeats 2000000 in
set_option maxRecDepth 100000 in
theorem read1_is (rb cb : Nat) (v : Int) (s : Nm) (w : World) (hc : w.cell? ⟨cb, 0, none⟩ = some (.pointer (some ⟨rb, 0, none⟩))) (h : Rdr rb s w) (hE : RdE w) (hs : s.length ≤ 1000000000) :
    Calls Tryz.prog 50 #[.int .i64 v, .pointer (some ⟨cb, 0, none⟩)] w fun e w' => ∃ ls s', OneL v s ls s' ∧ (∃ la lc, e = .returned (.slice la ls.length lc) ∧ LNew w' w.heap.size (.slice la ls.length lc) ls) ∧ Rdr rb s' w' ∧ But w.heap.size rb w w' := by
  have cR := rletters_is rb 60 s w h hE hs (by omega)
  have HO : Hid (OneL v s (readRowS 60 letterS s).1 (readRowS 60 letterS s).2) := rfl
  clear h hE hs
  go_enter Tryz.func50, Tryz.ntmps50
  go_wp2_with fail
  refine cR.mono ?_
  rintro e w2 ⟨⟨lv, rfl, hl⟩, h2, k2⟩
  obtain ⟨la, lc, rfl⟩ := hl.form
  have HF : Hid (LNew w2 w.heap.size (.slice la (readRowS 60 letterS s).1.length lc) (readRowS 60 letterS s).1 ∧ Rdr rb (readRowS 60 letterS s).2 w2 ∧ But w.heap.size rb w w2) := ⟨hl, h2, k2⟩
  clear cR hl h2 k2
  go_wp2_with fail
  go_ret
  exact ⟨_, _, HO.out, ⟨la, lc, rfl, HF.out.1⟩, HF.out.2⟩
/-- What was read, all of it new. -/
theorem svf_of {w : World} {B : Nat} {nv bv wv : Value} {S : Svd} (h1 : NRow w B nv S.names) (h2 : BNew w B bv S.boxes) (h3 : NRow w B wv S.wants) : SvF B w nv bv wv S :=
  ⟨⟨sl_of_nrow h1, fun _ hg => nrow_from h1 hg⟩, ⟨h2.bxr, fun _ hg => (h2.lt hg).1⟩, sl_of_nrow h3, fun _ hg => nrow_from h3 hg⟩
theorem SvF.below {B : Nat} {w w' : World} {nv bv wv : Value} {S : Svd} (h : SvF B w nv bv wv S) (hb : Below w.heap.size w w') : SvF B w' nv bv wv S :=
  ⟨h.1.below hb (Nat.le_refl _), ⟨h.2.1.1.below hb (Nat.le_refl _), h.2.1.2⟩, h.2.2.below hb (Nat.le_refl _)⟩
theorem trim_F (c : UInt8) (l : Nm) : Lib.trimPrefix (c :: l) [c] = l := by
  unfold Lib.trimPrefix
  rw [if_pos (by simp [Lib.hasPrefix])]
  rfl
set_option maxHeartbeats 8000000 in
set_option maxRecDepth 100000 in
theorem read_is (sx : ByteArray) (S : Svd) (w : World) (hs : sx.data.toList = 70 :: houseB S) (hN : NiceS S) (hO : ArOk S) (hlen : (houseB S).length ≤ 40000000) (hE : NEnv w) (hg : SysAt w) (htab : TabW w.heap.size w) (hR : RdE w) :
    Calls Tryz.prog 12 #[.string sx] w fun e w' => (∃ nv bv wv, e = .returned (.tuple #[.agg #[nv, bv, wv, .int .i64 S.next], .nilIface]) ∧ SvF w.heap.size w' nv bv wv S) ∧ Below w.heap.size w w' := by
  have hsz : sx.size ≤ 1000000000 := by rw [← asz, hs, List.length_cons]; omega
  -- the answer's cells, the reader, where the closure finds it
  have b1 : Below w.heap.size w (w.alloc (.cells #[.slice none 0 0, .slice none 0 0, .slice none 0 0, .int .i64 0] 26)) := (Below.refl _ _).alloc (Nat.le_refl _) _
  have e1 := heap_alloc_new w (.cells #[.slice none 0 0, .slice none 0 0, .slice none 0 0, .int .i64 0] 26)
  have z1 : (w.alloc (.cells #[.slice none 0 0, .slice none 0 0, .slice none 0 0, .int .i64 0] 26)).heap.size = w.heap.size + 1 := World.size_alloc _ _
  obtain ⟨W1, hW1⟩ : ∃ W, w.alloc (.cells #[.slice none 0 0, .slice none 0 0, .slice none 0 0, .int .i64 0] 26) = W := ⟨_, rfl⟩
  rw [hW1] at b1 e1 z1
  obtain ⟨rb, hrb⟩ : ∃ n, W1.heap.size = n := ⟨_, rfl⟩
  have b2 : Below W1.heap.size W1 (W1.alloc (.cells #[.string ⟨#[]⟩] 108)) := (Below.refl _ _).alloc (Nat.le_refl _) _
  have e2 := heap_alloc_new W1 (.cells #[.string ⟨#[]⟩] 108)
  have z2 : (W1.alloc (.cells #[.string ⟨#[]⟩] 108)).heap.size = W1.heap.size + 1 := World.size_alloc _ _
  obtain ⟨W2, hW2⟩ : ∃ W, W1.alloc (.cells #[.string ⟨#[]⟩] 108) = W := ⟨_, rfl⟩
  rw [hW2] at b2 e2 z2
  obtain ⟨cb, hcb⟩ : ∃ n, W2.heap.size = n := ⟨_, rfl⟩
  have b3 : Below W2.heap.size W2 (W2.alloc (.cells #[.pointer (some ⟨rb, 0, none⟩)] 106)) := (Below.refl _ _).alloc (Nat.le_refl _) _
  have e3 := heap_alloc_new W2 (.cells #[.pointer (some ⟨rb, 0, none⟩)] 106)
  obtain ⟨W3, hW3⟩ : ∃ W, W2.alloc (.cells #[.pointer (some ⟨rb, 0, none⟩)] 106) = W := ⟨_, rfl⟩
  rw [hW3] at b3 e3
  rw [hcb] at e3
  rw [hrb] at e2
  have z3 : cb < W3.heap.size := (Array.getElem?_eq_some_iff.1 e3).1
  have b13 : Below w.heap.size w W3 := b1.trans ((b2.mono (by omega)).trans (b3.mono (by omega)))
  have r3 : Rdr rb [] W3 := ⟨⟨#[]⟩, rfl, (b3.block rb (by omega)).trans e2⟩
  have q3 : W3.heap[w.heap.size]? = some (.cells #[.slice none 0 0, .slice none 0 0, .slice none 0 0, .int .i64 0] 26 (0, 0)) := (b3.block _ (by omega)).trans ((b2.block _ (by omega)).trans e1)
  have HC : Reads 50 [.pointer (some ⟨cb, 0, none⟩)] OneL rb W3 := fun v s W _ hb hr he hl =>
    read1_is rb cb v s W (rd_cell ((hb.block cb z3 (by omega)).trans e3) rfl) hr he hl
  have cH := rhouse_is 50 [.pointer (some ⟨cb, 0, none⟩)] OneL rb ⟨#[70]⟩ sx [] W3 r3 (hR.below b13) hsz oneL_len (enters_of Tryz.func50 (by kernel_rfl) rfl) HC
  have htr : Lib.trimPrefix sx.data.toList (⟨#[70]⟩ : ByteArray).data.toList = houseB S := by rw [hs]; exact trim_F 70 _
  rw [htr] at cH
  have hback : ∀ S' s', HouseR OneL (houseB S) S' s' → S' = S := fun S' s' h => by
    have h1 := houseR_fun h
    have h2 := house_back hN []
    rw [List.append_nil] at h2
    rw [h2] at h1
    exact congrArg Prod.fst h1
  have HX : Hid ((∀ S' s', HouseR OneL (houseB S) S' s' → S' = S) ∧ ArOk S ∧ (houseB S).length ≤ 40000000 ∧ NEnv w ∧ SysAt w ∧ TabW w.heap.size w ∧ sx.data.toList = 70 :: houseB S) := ⟨hback, hO, hlen, hE, hg, htab, hs⟩
  have c3 : W3.cell? ⟨cb, 0, none⟩ = some (.pointer (some ⟨rb, 0, none⟩)) := rd_cell e3 rfl
  have HW : Hid (Below w.heap.size w W3 ∧ W3.heap[w.heap.size]? = some (.cells #[.slice none 0 0, .slice none 0 0, .slice none 0 0, .int .i64 0] 26 (0, 0)) ∧ w.heap.size < rb ∧ rb < W3.heap.size) := ⟨b13, q3, by omega, by have := r3.lt; omega⟩
  clear hs hN hO hlen hE hg htab hR hsz b1 e1 z1 b2 e2 z2 b3 e3 z3 b13 r3 q3 HC htr hback
  go_enter Tryz.func12, Tryz.ntmps12
  go_wp2_with fail
  refine cH.mono ?_
  rintro e w4 ⟨⟨nv, bv, wv, S', s', hR', rfl, hn, hb, hw⟩, k4⟩
  obtain rfl := HX.out.1 _ _ hR'
  obtain ⟨na, nc, rfl⟩ := row_form hn
  obtain ⟨ba, bc, rfl⟩ := hb.form
  obtain ⟨wa, wc, rfl⟩ := row_form hw
  have hb4 : Below w.heap.size w w4 := HW.out.1.trans (k4.below HW.out.1.size (Nat.le_of_lt HW.out.2.2.1))
  have q4 : w4.heap[w.heap.size]? = some (.cells #[.slice none 0 0, .slice none 0 0, .slice none 0 0, .int .i64 0] 26 (0, 0)) := (k4.block _ (Array.getElem?_eq_some_iff.1 HW.out.2.1).1 (by have := HW.out.2.2.1; omega)).trans HW.out.2.1
  have hn : NRow w4 w.heap.size _ _ := own_lower hn HW.out.1.size
  have hw : NRow w4 w.heap.size _ _ := own_lower hw HW.out.1.size
  have hb := hb.lower HW.out.1.size
  obtain ⟨NN, hNN⟩ : ∃ n, S'.names.length = n := ⟨_, rfl⟩
  obtain ⟨BN, hBN⟩ : ∃ n, S'.boxes.length = n := ⟨_, rfl⟩
  obtain ⟨WN, hWN⟩ : ∃ n, S'.wants.length = n := ⟨_, rfl⟩
  obtain ⟨X, hX⟩ : ∃ n, S'.next = n := ⟨_, rfl⟩
  rw [hNN] at hn
  rw [hBN] at hb
  rw [hWN] at hw
  have b5 : Below w4.heap.size w4 (w4.alloc (.cells #[.slice na NN nc, .slice ba BN bc, .slice wa WN wc, .int .i64 X] 26)) := (Below.refl _ _).alloc (Nat.le_refl _) _
  have e5 := heap_alloc_new w4 (.cells #[.slice na NN nc, .slice ba BN bc, .slice wa WN wc, .int .i64 X] 26)
  obtain ⟨sb, hsb⟩ : ∃ n, w4.heap.size = n := ⟨_, rfl⟩
  obtain ⟨W5, hW5⟩ : ∃ W, w4.alloc (.cells #[.slice na NN nc, .slice ba BN bc, .slice wa WN wc, .int .i64 X] 26) = W := ⟨_, rfl⟩
  rw [hW5] at b5 e5
  have hz4 : w.heap.size < w4.heap.size := (Array.getElem?_eq_some_iff.1 q4).1
  have hb5 : Below w.heap.size w W5 := hb4.trans (b5.mono (Nat.le_of_lt hz4))
  rw [hsb] at e5
  have q5 := (b5.block _ hz4).trans q4
  have hn5 := hn.below b5 (Nat.le_refl _)
  have hw5 := hw.below b5 (Nat.le_refl _)
  have hb5' := hb.below b5
  have hs5 := svf_of hn5 hb5' hw5
  have cF := full_is (.slice na NN nc) (.slice ba BN bc) (.slice wa WN wc) S' W5 hs5.at HX.out.2.1 HX.out.2.2.1 (HX.out.2.2.2.1.below hb5) (HX.out.2.2.2.2.1.below hb5 HX.out.2.2.2.2.1.lt) (fun W hW => HX.out.2.2.2.2.2.1 W (hb5.trans (hW.mono hb5.size)))
  have HS5 : Hid ((NRow W5 w.heap.size (.slice na NN nc) S'.names ∧ BNew W5 w.heap.size (.slice ba BN bc) S'.boxes ∧ NRow W5 w.heap.size (.slice wa WN wc) S'.wants) ∧ Below w.heap.size w W5 ∧ W5.heap[sb]? = some (.cells #[.slice na NN nc, .slice ba BN bc, .slice wa WN wc, .int .i64 X] 26 (0, 0)) ∧ W5.heap[w.heap.size]? = some (.cells #[.slice none 0 0, .slice none 0 0, .slice none 0 0, .int .i64 0] 26 (0, 0)) ∧ w.heap.size < sb) := ⟨⟨hn5, hb5', hw5⟩, hb5, e5, q5, by omega⟩
  obtain ⟨⟨s0, s1, s2, s3⟩, _, _⟩ := four_facts e5 (.slice none 0 0) (.slice none 0 0) (.slice none 0 0) (.int .i64 0)
  obtain ⟨R, hRR⟩ : ∃ r : ByteArray, ⟨(70 :: houseB S').toArray⟩ = r := ⟨_, rfl⟩
  rw [hRR] at cF
  have hsR : R = sx := by
    have h1 : R.data.toList = sx.data.toList := by rw [HX.out.2.2.2.2.2.2, ← hRR]
    obtain ⟨⟨x⟩⟩ := R
    obtain ⟨⟨y⟩⟩ := sx
    have : x = y := h1
    rw [this]
  rw [hsR] at cF
  rw [hX] at cF
  have HNX : Hid (S'.next = X) := hX
  have d1 : (sx.toList == sx.toList) = true := by simp
  rw [hNN, hBN, hWN, hX]
  clear cH hR' hn hb hw k4 hb4 q4 b5 e5 hb5 q5 hs5 hn5 hw5 hb5' hNN hBN hWN hX hRR hsR HX hW1 hW2 hW3 hrb hcb c3
  go_wp2_with fail
  refine cF.mono ?_
  rintro e w6 ⟨rfl, hb6⟩
  have hc6 := (hb6.block sb (Array.getElem?_eq_some_iff.1 HS5.out.2.2.1).1).trans HS5.out.2.2.1
  have hq6 := (hb6.block _ (Array.getElem?_eq_some_iff.1 HS5.out.2.2.2.1).1).trans HS5.out.2.2.2.1
  have hB6 : Below w.heap.size w w6 := HS5.out.2.1.trans (hb6.mono HS5.out.2.1.size)
  clear s0 s1 s2 s3
  obtain ⟨⟨s0, s1, s2, s3⟩, _, _⟩ := four_facts hc6 (.slice none 0 0) (.slice none 0 0) (.slice none 0 0) (.int .i64 0)
  obtain ⟨⟨q0, q1, q2, q3⟩, ⟨f0, f1, f2, f3⟩, u⟩ := four_facts hq6 (.slice na NN nc) (.slice ba BN bc) (.slice wa WN wc) (.int .i64 X)
  obtain ⟨W9, hW9⟩ : ∃ W, ((((w6.setCell ⟨w.heap.size, 0, none⟩ (.slice na NN nc)).setCell ⟨w.heap.size, 1, none⟩ (.slice ba BN bc)).setCell ⟨w.heap.size, 2, none⟩ (.slice wa WN wc)).setCell ⟨w.heap.size, 3, none⟩ (.int .i64 X)) = W := ⟨_, rfl⟩
  have hbut : But w6.heap.size w.heap.size w6 W9 := by rw [← hW9]; exact ((((to_but (Below.refl _ _)).setB 0 _).setB 1 _).setB 2 _).setB 3 _
  rw [hW9] at u
  have ho : Oth 26 w6 W9 := fun j o hj _ hn => by
    refine (hbut.block j (Array.getElem?_eq_some_iff.1 hj).1 fun e => ?_).trans hj
    rw [e, hq6] at hj
    exact hn _ _ (Option.some.inj hj).symm
  have u0 : W9.cell? ⟨w.heap.size, 0, none⟩ = some (.slice na NN nc) := rd_cell u rfl
  have u1 : W9.cell? ⟨w.heap.size, 1, none⟩ = some (.slice ba BN bc) := rd_cell u rfl
  have u2 : W9.cell? ⟨w.heap.size, 2, none⟩ = some (.slice wa WN wc) := rd_cell u rfl
  have u3 : W9.cell? ⟨w.heap.size, 3, none⟩ = some (.int .i64 X) := rd_cell u rfl
  have HF : Hid (SvF w.heap.size W9 (.slice na NN nc) (.slice ba BN bc) (.slice wa WN wc) S' ∧ Below w.heap.size w W9) := by
    have ho2 : Oth 26 W5 w6 := oth_below hb6
    exact ⟨svf_of (own_oth (own_oth HS5.out.1.1 ho2 (by decide)) ho (by decide)) ((HS5.out.1.2.1.oth ho2 (by decide) (by decide) (by decide)).oth ho (by decide) (by decide) (by decide)) (own_oth (own_oth HS5.out.1.2.2 ho2 (by decide)) ho (by decide)), hB6.trans (hbut.below hB6.size (Nat.le_refl _))⟩
  subst hW9
  clear cF hb6 hc6 hq6 hB6 HS5 u hbut ho HW
  go_wp2_with fail
  exact bodyPost_ret (v := .tuple #[.agg #[.slice na NN nc, .slice ba BN bc, .slice wa WN wc, .int .i64 X], .nilIface]) (by simp [results, Tryz.results12, go_sem, u0, u1, u2, u3]) rfl ⟨⟨_, _, _, by rw [HNX.out], HF.out.1⟩, HF.out.2⟩
end Go.Proofs.YtdmplfflmdanlaaGreatDoor
namespace Go.Proofs
open Go.Shelf
def Tryz.sortLt_ren : Go.Shelf.Ren := ⟨fun | 6 => 118 | 15 => 174 | 14 => 173 | 28 => 218 | 29 => 219 | 20 => 210 | 21 => 211 | 22 => 212 | 23 => 213 | 24 => 214 | 25 => 215 | 26 => 216 | 27 => 217 | 46 => 253 | 47 => 254 | 48 => 255 | 49 => 256 | 50 => 257 | 57 => 285 | n => n, fun | 22 => 64 | 24 => 71 | 25 => 180 | 3 => 3 | 39 => 193 | 0 => 0 | 53 => 220 | 55 => 243 | 4 => 4 | 46 => 236 | 45 => 235 | 50 => 144 | 5 => 5 | 9 => 9 | 66 => 275 | 70 => 279 | 76 => 306 | 77 => 307 | n => n, fun | n => n⟩
theorem Tryz.sortLt : Go.Proofs.SlLaysF0.n6 Tryz.prog Tryz.sortLt_ren := {
  mixed := by kernel_rfl
  f6 := ⟨Tryz.f118.name, by decide, Tryz.func118.trans (congrArg some (by kernel_rfl))⟩
  f14 := ⟨Tryz.f173.name, by decide, Tryz.func173.trans (congrArg some (by kernel_rfl))⟩
  f15 := Tryz.func174.trans (congrArg some (by kernel_rfl))
  f20 := ⟨Tryz.f210.name, by decide, Tryz.func210.trans (congrArg some (by kernel_rfl))⟩
  f21 := ⟨Tryz.f211.name, by decide, Tryz.func211.trans (congrArg some (by kernel_rfl))⟩
  f22 := ⟨Tryz.f212.name, by decide, Tryz.func212.trans (congrArg some (by kernel_rfl))⟩
  f23 := ⟨Tryz.f213.name, by decide, Tryz.func213.trans (congrArg some (by kernel_rfl))⟩
  f24 := ⟨Tryz.f214.name, by decide, Tryz.func214.trans (congrArg some (by kernel_rfl))⟩
  f25 := ⟨Tryz.f215.name, by decide, Tryz.func215.trans (congrArg some (by kernel_rfl))⟩
  f26 := ⟨Tryz.f216.name, by decide, Tryz.func216.trans (congrArg some (by kernel_rfl))⟩
  f27 := ⟨Tryz.f217.name, by decide, Tryz.func217.trans (congrArg some (by kernel_rfl))⟩
  f28 := Tryz.func218.trans (congrArg some (by kernel_rfl))
  f29 := Tryz.func219.trans (congrArg some (by kernel_rfl))
  f46 := ⟨Tryz.f253.name, by decide, Tryz.func253.trans (congrArg some (by kernel_rfl))⟩
  f47 := Tryz.func254.trans (congrArg some (by kernel_rfl))
  f48 := Tryz.func255.trans (congrArg some (by kernel_rfl))
  f49 := ⟨Tryz.f256.name, by decide, Tryz.func256.trans (congrArg some (by kernel_rfl))⟩
  f50 := ⟨Tryz.f257.name, by decide, Tryz.func257.trans (congrArg some (by kernel_rfl))⟩
  f57 := ⟨Tryz.f285.name, by decide, Tryz.func285.trans (congrArg some (by kernel_rfl))⟩
  t0 := Tryz.underlying0
  a0 := Tryz.isAgg0
  z0 := Tryz.sizeOf0
  v0 := Tryz.zeroValue0
  t3 := Tryz.underlying3
  a3 := Tryz.isAgg3
  z3 := Tryz.sizeOf3
  v3 := Tryz.zeroValue3
  t4 := Tryz.underlying4
  a4 := Tryz.isAgg4
  z4 := Tryz.sizeOf4
  v4 := Tryz.zeroValue4
  t5 := Tryz.underlying5
  a5 := Tryz.isAgg5
  z5 := Tryz.sizeOf5
  v5 := Tryz.zeroValue5
  t9 := Tryz.underlying9
  a9 := Tryz.isAgg9
  z9 := Tryz.sizeOf9
  v9 := Tryz.zeroValue9
  t22 := Tryz.underlying64
  a22 := Tryz.isAgg64
  z22 := Tryz.sizeOf64
  v22 := Tryz.zeroValue64
  t25 := Tryz.underlying180
  a25 := Tryz.isAgg180
  z25 := Tryz.sizeOf180
  v25 := Tryz.zeroValue180
  t39 := Tryz.underlying193
  a39 := Tryz.isAgg193
  z39 := Tryz.sizeOf193
  v39 := Tryz.zeroValue193
  t45 := Tryz.underlying235
  a45 := Tryz.isAgg235
  z45 := Tryz.sizeOf235
  v45 := Tryz.zeroValue235
  t46 := Tryz.underlying236
  a46 := Tryz.isAgg236
  z46 := Tryz.sizeOf236
  v46 := Tryz.zeroValue236
  t50 := Tryz.underlying144
  a50 := Tryz.isAgg144
  z50 := Tryz.sizeOf144
  v50 := Tryz.zeroValue144
  t53 := Tryz.underlying220
  a53 := Tryz.isAgg220
  z53 := Tryz.sizeOf220
  v53 := Tryz.zeroValue220
  t55 := Tryz.underlying243
  a55 := Tryz.isAgg243
  z55 := Tryz.sizeOf243
  v55 := Tryz.zeroValue243
  t66 := Tryz.underlying275
  a66 := Tryz.isAgg275
  z66 := Tryz.sizeOf275
  v66 := Tryz.zeroValue275
  t70 := Tryz.underlying279
  a70 := Tryz.isAgg279
  z70 := Tryz.sizeOf279
  v70 := Tryz.zeroValue279
  t76 := Tryz.underlying306
  a76 := Tryz.isAgg306
  z76 := Tryz.sizeOf306
  v76 := Tryz.zeroValue306
  t77 := Tryz.underlying307
  a77 := Tryz.isAgg307
  z77 := Tryz.sizeOf307
  v77 := Tryz.zeroValue307 }
def Tryz.cmpLt_ren : Go.Shelf.Ren := ⟨fun | 5 => 120 | 7 => 175 | n => n, fun | 22 => 3 | 3 => 3 | 4 => 4 | n => n, fun | n => n⟩
theorem Tryz.cmpLt : Go.Proofs.SlLaysC2.n5 Tryz.prog Tryz.cmpLt_ren := {
  mixed := by kernel_rfl
  f5 := ⟨Tryz.f120.name, by decide, Tryz.func120.trans (congrArg some (by kernel_rfl))⟩
  f7 := ⟨Tryz.f175.name, by decide, Tryz.func175.trans (congrArg some (by kernel_rfl))⟩
  t3 := Tryz.underlying3
  a3 := Tryz.isAgg3
  z3 := Tryz.sizeOf3
  v3 := Tryz.zeroValue3
  t4 := Tryz.underlying4
  a4 := Tryz.isAgg4
  z4 := Tryz.sizeOf4
  v4 := Tryz.zeroValue4
  t22 := Tryz.underlying3
  a22 := Tryz.isAgg3
  z22 := Tryz.sizeOf3
  v22 := Tryz.zeroValue3 }
end Go.Proofs
namespace Go.Proofs.YtdmplfflmdanlaaGreatDoor
open Go.RowKit Go.Proofs.Aid Go.Proofs.Bx Go.Shelf Go.Lib Go.Sort

/-- A letter, and where its flags lie. -/
abbrev LtF := Lt × (Option Addr × Nat)
instance : Inhabited LtF := ⟨⟨⟨0, [], 0, []⟩, none, 0⟩⟩
def encLt (x : LtF) : List Value := [.int .i64 x.1.uid, .slice x.2.1 x.1.flags.length x.2.2, .int .i64 x.1.day, .string ⟨x.1.text.toArray⟩]
def cfLt (x y : LtF) : Int := Lib.compareInt x.1.uid y.1.uid
theorem ltLt (x y : LtF) : ltOf cfLt x y = decide (x.1.uid < y.1.uid) := by
  unfold ltOf cfLt Lib.compareInt
  by_cases h1 : x.1.uid < y.1.uid
  · simp [h1]
  · by_cases h2 : y.1.uid < x.1.uid <;> simp [h1, h2]
theorem swoLt : SWO (ltOf cfLt) where
  irrefl x := by rw [ltLt]; simp
  trans x y z h1 h2 := by rw [ltLt] at *; simp at *; omega
  ntrans x y z h1 h2 := by rw [ltLt] at *; simp at *; omega
set_option maxHeartbeats 2000000 in
theorem joined1_is (x y : LtF) (W : World) : Calls Tryz.prog 119 #[.agg (encLt x).toArray, .agg (encLt y).toArray] W fun e w' => e = .returned (.int .i64 (cfLt x y)) ∧ ∃ q os', w' = grow (W.drewN q) os' := by
  obtain ⟨⟨xu, xf, xd, xt⟩, xa, xc⟩ := x
  obtain ⟨⟨yu, yf, yd, yt⟩, ya, yc⟩ := y
  have hcon := fun W' => AnyG.cmp_Compare_int Tryz.cmpLt xu yu W'
  change ∀ W', Calls Tryz.prog 120 _ _ _ at hcon
  unfold cfLt encLt
  simp only
  generalize Lib.compareInt xu yu = r at hcon ⊢
  obtain ⟨xn, hxn⟩ : ∃ n, xf.length = n := ⟨_, rfl⟩
  obtain ⟨yn, hyn⟩ : ∃ n, yf.length = n := ⟨_, rfl⟩
  obtain ⟨xb, hxb⟩ : ∃ t : ByteArray, ⟨xt.toArray⟩ = t := ⟨_, rfl⟩
  obtain ⟨yb, hyb⟩ : ∃ t : ByteArray, ⟨yt.toArray⟩ = t := ⟨_, rfl⟩
  rw [hxn, hyn, hxb, hyb]
  clear hxn hyn hxb hyb
  go_enter Tryz.func119, Tryz.ntmps119
  go_wp2_with (go_at_call 120; refine (hcon _).mono ?_; rintro e w' ⟨rfl, rfl⟩)
  go_ret
  exact ⟨rfl, 0, _, by rw [alloc_eq_grow, alloc_eq_grow, grow_grow]; rfl⟩
theorem cmpLaysLt (blk off size : Nat) (w : World) : CmpLays Tryz.prog 119 #[] encLt 4 cfLt blk off size w :=
  fun _ _ _ _ x y => joined1_is x y _
theorem encLt_len (x : LtF) : (encLt x).length = 4 := rfl
theorem flatE_len : ∀ (d : List LtF), (d.map encLt).flatten.length = d.length * 4
  | [] => rfl
  | x :: d => by
    rw [List.map_cons, List.flatten_cons, List.length_append, flatE_len d, encLt_len, List.length_cons]
    omega
theorem flatK_lt (d : Array LtF) : (flatK encLt 4 d).toList = (d.toList.map encLt).flatten := by
  apply List.ext_getElem?
  intro t
  by_cases ht : t < d.size * 4
  · have h1 : t / 4 < d.size := by omega
    have h2 : d.toList[t / 4]? = some d[t / 4]! := by rw [Array.getElem?_toList, Array.getElem?_eq_getElem h1, getElem!_pos d _ h1]
    have h3 : (d.toList.map encLt)[t / 4]? = some (encLt d[t / 4]!) := by rw [List.getElem?_map, h2]; rfl
    have h4 := flat4_get (rows := d.toList.map encLt) (j := t / 4) (i := t % 4) (fun ys hy => by
      obtain ⟨x, _, rfl⟩ := List.mem_map.1 hy
      rfl) h3 (by omega)
    rw [show t / 4 * 4 + t % 4 = t by omega] at h4
    rw [h4, Array.getElem?_toList, Array.getElem?_eq_getElem (by simpa using ht)]
    have h5 := get_flatK encLt 4 d t ht
    rw [getElem!_pos (flatK encLt 4 d) t (by simpa using ht)] at h5
    rw [h5, List.getElem?_eq_getElem (show t % 4 < (encLt d[t / 4]!).length by rw [encLt_len]; omega), getElem!_pos]
  · rw [List.getElem?_eq_none (by simp; omega), List.getElem?_eq_none (by rw [flatE_len]; simp; omega)]
/-- Letters, and where their flags lie. -/
theorem lnew_enc {w : World} {base : Nat} {v : Value} {l : List Lt} (h : LNew w base v l) : ∃ d : List LtF, d.map Prod.fst = l ∧ w.ownsRow base 71 4 v l.length (d.map encLt).flatten ∧ ∀ x ∈ d, ∀ W, TxStay w W → Sl W (.slice x.2.1 x.1.flags.length x.2.2) x.1.flags := by
  obtain ⟨rows, h1, h2, h3, _⟩ := h
  have key : ∀ (l : List Lt) (rows : List (List Value)), rows.length = l.length → (∀ (j : Nat) x xs, l[j]? = some x → rows[j]? = some xs → ∀ W, TxStay w W → LtRow W x xs) → ∃ d : List LtF, d.map Prod.fst = l ∧ d.map encLt = rows ∧ ∀ x ∈ d, ∀ W, TxStay w W → Sl W (.slice x.2.1 x.1.flags.length x.2.2) x.1.flags := by
    intro l
    induction l with
    | nil => intro rows hr _; exact ⟨[], rfl, (List.eq_nil_of_length_eq_zero (by simpa using hr)).symm, fun x hx => by cases hx⟩
    | cons x l ih =>
      intro rows hr hc
      cases rows with
      | nil => simp at hr
      | cons xs rows =>
        obtain ⟨d, d1, d2, d3⟩ := ih rows (by simpa using hr) fun j y ys hj hy => hc (j + 1) y ys (by simpa using hj) (by simpa using hy)
        obtain ⟨fv, e1, e2⟩ := hc 0 x xs rfl rfl w (TxStay.refl w)
        obtain ⟨fa, fc, e3, _⟩ := id e2
        refine ⟨(x, fa, fc) :: d, by rw [List.map_cons, d1], ?_, fun y hy => ?_⟩
        · rw [List.map_cons, d2, e1, e3]
          rfl
        · rcases List.mem_cons.1 hy with rfl | hy
          · intro W hW
            obtain ⟨fv', q1, q2⟩ := hc 0 x xs rfl rfl W hW
            rw [e1] at q1
            obtain rfl : fv = fv' := by simpa using q1
            rw [← e3]
            exact q2
          · exact d3 y hy
  obtain ⟨d, d1, d2, d3⟩ := key l rows h2 h3
  exact ⟨d, d1, by rw [d2]; exact h1, d3⟩
theorem lnew_of {w : World} {base : Nat} {v : Value} {d : List LtF} (h1 : w.ownsRow base 71 4 v d.length (d.map encLt).flatten) (h2 : ∀ x ∈ d, ∀ W, TxStay w W → Sl W (.slice x.2.1 x.1.flags.length x.2.2) x.1.flags) : LNew w base v (d.map Prod.fst) := by
  refine ⟨d.map encLt, by rw [List.length_map]; exact h1, by simp, fun j x xs hj hx W hW => ?_, fun xs hx => ?_⟩
  · rw [List.getElem?_map] at hj hx
    cases hd : d[j]? with
    | none => rw [hd] at hj; cases hj
    | some y =>
      rw [hd] at hj hx
      obtain rfl : y.1 = x := Option.some.inj hj
      obtain rfl : encLt y = xs := Option.some.inj hx
      exact ⟨_, rfl, h2 y (List.mem_of_getElem? hd) W hW⟩
  · obtain ⟨x, _, rfl⟩ := List.mem_map.1 hx
    rfl
theorem heap_sortK {w : World} {g n : Nat} {os : Array Obj} {cur : Array Value} {e : TypeId} {fr : Nat × Nat} (F : Array Value) (hb : w.heap[g]? = some (.cells cur e fr)) :
    (grow (putRow id (Sort.ahead w n) g 0 F) os).heap[g]? = some (.cells (putCells id 0 F cur) e fr) := by
  have hg : g < w.heap.size := (Array.getElem?_eq_some_iff.1 hb).1
  rw [heap_grow_old _ _ (by simpa using hg)]
  simp [putRow, mapBlock, Sort.ahead, Array.getElem?_modify, hb, onCells]
theorem heap_sortK_other {w : World} {g n k : Nat} {os : Array Obj} (F : Array Value) (hk : k < w.heap.size) (hne : k ≠ g) : (grow (putRow id (Sort.ahead w n) g 0 F) os).heap[k]? = w.heap[k]? := by
  rw [heap_grow_old _ _ (by simpa using hk)]
  have : g ≠ k := fun e => hne e.symm
  simp [putRow, mapBlock, Sort.ahead, Array.getElem?_modify, this]
theorem take_putCellsK (cur F : Array Value) (h : F.size ≤ cur.size) : (putCells id 0 F cur).toList.take F.size = F.toList := by
  apply List.ext_getElem?
  intro j
  by_cases hj : j < F.size
  · rw [List.getElem?_take_of_lt hj, Array.getElem?_toList]
    simp [putCells, hj, show j < cur.size by omega]
  · rw [List.getElem?_take_eq_none (by omega), List.getElem?_eq_none (by simp; omega)]
set_option maxHeartbeats 2000000 in
theorem lsort_is (base : Nat) (v : Value) (l : List Lt) (w : World) (h : LNew w base v l) (hl : l.length ≤ 1000) (hbase : base ≤ w.heap.size) :
    Calls Tryz.prog 118 #[v, .func (.func 119) #[] #[]] w fun e w' => e = .returned (.tuple #[]) ∧ (∃ l' : List Lt, l'.Perm l ∧ (l'.Pairwise fun a b => a.uid ≤ b.uid) ∧ LNew w' base v l') ∧ Below base w w' ∧ Oth 71 w w' := by
  obtain ⟨d, rfl, hrow, hfl⟩ := lnew_enc h
  rw [List.length_map] at hrow hl
  rcases id hrow.2 with ⟨rfl, h0⟩ | ⟨g, cap, cur, rfl, hg, hh, hc1, hc2, hc3, hc4⟩
  · obtain rfl : d = [] := List.eq_nil_of_length_eq_zero h0
    have := AnyF.slices_SortFunc_none Tryz.sortLt none 0 (.func (.func 119) #[] #[]) w
    change Calls Tryz.prog 118 _ _ _ at this
    refine this.mono ?_
    rintro e w' ⟨rfl, rfl⟩
    exact ⟨rfl, ⟨[], List.Perm.refl _, List.Pairwise.nil, LNew.nil _ _⟩, Below.refl _ _, Lib.OthersKept.refl _ _ _⟩
  · have hgb : g < w.heap.size := (Array.getElem?_eq_some_iff.1 hh).1
    have hH : HoldsK encLt 4 w g 0 d.toArray := by
      intro j hj
      refine ⟨?_, by simp [World.frozen?, hh]⟩
      have hj' : j < d.length * 4 := by simpa using hj
      have e1 := flatK_lt d.toArray
      have e2 : (flatK encLt 4 d.toArray).toList[j]? = (cur.toList.take (d.length * 4))[j]? := by rw [e1, hc4]
      rw [List.getElem?_take_of_lt hj', Array.getElem?_toList, Array.getElem?_toList, Array.getElem?_eq_getElem hj] at e2
      rw [getElem!_pos _ j hj]
      simp only [World.cell?, hh, Nat.zero_add]
      simpa using e2.symm
    have eg : ∀ args w, (callFunc 119 args).run Tryz.prog w = .ok (.enter 119 args) w := enters_of Tryz.func119 (by kernel_rfl) rfl
    have hcon := AnyQ.slices_SortFunc Tryz.sortLt 4 Tryz.isAgg71 Tryz.sizeOf71 encLt (fun _ => rfl) (fun x v hv => by simp [encLt] at hv; rcases hv with rfl | rfl | rfl | rfl <;> rfl) cfLt swoLt 119 #[] g 0 cap d.toArray w eg (cmpLaysLt g 0 _ w) hH hgb (by simp; omega)
    change Calls Tryz.prog 118 _ _ _ at hcon
    rw [show d.toArray.size = d.length from by simp] at hcon
    refine hcon.mono ?_
    rintro e w' ⟨rfl, d', n, os, hp, hs, rfl⟩
    have hsz : d'.size = d.length := by simpa using hp.1
    have hpm : d'.toList.Perm d := by
      have h8 := hp.2.2
      rw [show d'.extract 0 d.length = d' from by rw [← hsz]; simp, show d.toArray.extract 0 d.length = d.toArray from by rw [show d.length = d.toArray.size from by simp]; simp] at h8
      exact h8
    have hF : (flatK encLt 4 d').size = d.length * 4 := by rw [size_flatK, hsz]
    have hrow' : (sortWorldK encLt 4 w g 0 n d' os).ownsRow base 71 4 (.slice (some ⟨g, 0, none⟩) d.length cap) d.length (d'.toList.map encLt).flatten := by
      refine ⟨by rw [flatE_len]; simp [hsz], Or.inr ⟨g, cap, _, rfl, hg, heap_sortK _ hh, hc1, hc2, by simp [putCells, hc3], ?_⟩⟩
      rw [← hF, take_putCellsK _ _ (by rw [hF, hc3]; omega), flatK_lt]
    have hother : ∀ k, k < w.heap.size → k ≠ g → (sortWorldK encLt 4 w g 0 n d' os).heap[k]? = w.heap[k]? := fun k hk hne => heap_sortK_other _ hk hne
    have ho : Oth 71 w (sortWorldK encLt 4 w g 0 n d' os) := fun j o hj _ hn => by
      refine (hother j (Array.getElem?_eq_some_iff.1 hj).1 fun e => ?_).trans hj
      rw [e, hh] at hj
      exact hn _ _ (Option.some.inj hj).symm
    refine ⟨rfl, ⟨d'.toList.map Prod.fst, hpm.map _, ?_, ?_⟩, ⟨rfl, rfl, rfl, ?_, fun k hk => hother k (by omega) (by omega)⟩, ho⟩
    · rw [List.pairwise_map, List.pairwise_iff_getElem]
      intro i j hi hj hij
      have h9 := hs i j (Nat.zero_le _) hij (by simpa [hsz] using hj)
      rw [ltLt, getElem!_pos d' j (by simpa using hj), getElem!_pos d' i (by simpa using hi)] at h9
      simp at h9 ⊢
      omega
    · have h9 : d'.toList.length = d.length := by simpa using hsz
      have := lnew_of (w := sortWorldK encLt 4 w g 0 n d' os) (base := base) (v := .slice (some ⟨g, 0, none⟩) d.length cap) (d := d'.toList) (by rw [h9]; exact hrow') fun x hx W hW => hfl x (hpm.mem_iff.1 hx) W ((txs_oth ho (by decide)).trans hW)
      exact this
    · simp [sortWorldK, grow, putRowK, putRow, mapBlock, Sort.ahead]
end Go.Proofs.YtdmplfflmdanlaaGreatDoor
