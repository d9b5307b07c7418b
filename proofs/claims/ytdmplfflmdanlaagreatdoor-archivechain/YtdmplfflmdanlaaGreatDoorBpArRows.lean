/-
  Rows that a reader of package archive reads: of texts, of numbers, of , and more.
-/
import Derived.Test.YtdmplfflmdanlaaGreatDoorMArRd
import Derived.Test.YtdmplfflmdanlaaGreatDoorMAwPart
namespace Go.Proofs
theorem Tryz.infoTr : (Tryz.prog.info? 9).map (fun i => (i.zero, i.size, i.bytes)) = some (some (.string ⟨#[]⟩), 1, 16) := by kernel_rfl
end Go.Proofs
namespace Go.Proofs.YtdmplfflmdanlaaGreatDoor
open Go.RowKit Go.Proofs.Aid Go.Proofs.Bx

/-- Blocks of another kind than e stay. -/
abbrev Oth (e : TypeId) (w w' : World) : Prop := Lib.OthersKept e none w w'
/-- Rows of texts stay. -/
def TxStay (w W : World) : Prop := ∀ (k : Nat) (cs : Array Value) (fz : Nat × Nat), w.heap[k]? = some (Obj.cells cs 9 fz) → W.heap[k]? = some (Obj.cells cs 9 fz)
theorem TxStay.refl (w : World) : TxStay w w := fun _ _ _ h => h
theorem TxStay.trans {a b c : World} (h : TxStay a b) (k : TxStay b c) : TxStay a c := fun j cs fz hj => k j cs fz (h j cs fz hj)
theorem oth_cells {e ty : TypeId} {w w' : World} (h : Oth e w w') {k : Nat} {cs : Array Value} {fz : Nat × Nat} (hk : w.heap[k]? = some (.cells cs ty fz)) (hne : ty ≠ e) : w'.heap[k]? = some (.cells cs ty fz) :=
  h k _ hk (by simp) (fun c f e1 => by injection e1 with _ e2 _; exact hne e2)
theorem txs_oth {e : TypeId} {w w' : World} (h : Oth e w w') (hne : 9 ≠ e) : TxStay w w' := fun _ _ _ hk => oth_cells h hk hne
theorem oth_trans {e : TypeId} {a b c : World} (h : Oth e a b) (k : Oth e b c) : Oth e a c := fun j o hj h1 h2 => k j o (h j o hj h1 h2) h1 h2
theorem oth_below {e : TypeId} {w w' : World} (h : Below w.heap.size w w') : Oth e w w' := fun j _ hj _ _ => (h.block j (Array.getElem?_eq_some_iff.1 hj).1).trans hj
theorem rd_oth {rb : Nat} {s : Nm} {w w' : World} (h : Rdr rb s w) (hb : But w.heap.size rb w w') : Oth 108 w w' := fun j o hj _ h2 => by
  refine (hb.block j (Array.getElem?_eq_some_iff.1 hj).1 fun e => ?_).trans hj
  obtain ⟨R, _, hh⟩ := h
  rw [e, hh] at hj
  exact h2 _ _ (Option.some.inj hj).symm
theorem own_kind {e : TypeId} {base size n : Nat} {w : World} {v : Value} {xs : List Value} (h : w.ownsRow base e size v n xs) {q : Nat} (hq : v.ownBlock = some q) : ∃ cs fz, w.heap[q]? = some (.cells cs e fz) := by
  rcases h.2 with ⟨h1, _⟩ | ⟨g, cap, cur, h1, _, hh, _⟩
  · rw [h1] at hq; cases hq
  · rw [h1] at hq
    obtain rfl : g = q := by simpa [Value.ownBlock] using hq
    exact ⟨cur, _, hh⟩
theorem own_oth {e e' : TypeId} {base size n : Nat} {w w' : World} {v : Value} {xs : List Value} (h : w.ownsRow base e' size v n xs) (hk : Oth e w w') (hne : e' ≠ e) : w'.ownsRow base e' size v n xs :=
  own_same h fun q hq => by
    obtain ⟨cs, fz, hh⟩ := own_kind h hq
    exact (oth_cells hk hh hne).trans hh.symm
/-- An append to a row of kind e. -/
theorem app_oth {e : TypeId} {base size n : Nat} {w w' : World} {v : Value} {xs : List Value} (h : w.ownsRow base e size v n xs) (hk : ∀ q, q < w.heap.size → v.ownBlock ≠ some q → w'.heap[q]? = w.heap[q]?) : Oth e w w' := fun j o hj _ h2 => by
  refine (hk j (Array.getElem?_eq_some_iff.1 hj).1 fun e1 => ?_).trans hj
  obtain ⟨cs, fz, hh⟩ := own_kind h e1
  rw [hh] at hj
  exact h2 _ _ (Option.some.inj hj).symm
theorem nrow_fut {w w' : World} {base : Nat} {v : Value} {l : List Nm} (h : NRow w base v l) (hk : TxStay w w') : NRow w' base v l :=
  own_same h fun q hq => by
    obtain ⟨cs, fz, hh⟩ := own_kind h hq
    exact (hk q cs fz hh).trans hh.symm
theorem LOwQ.sub {P Q : World → Prop} {w : World} {base : Nat} {v : Value} {l : List Lt} (h : LOwQ P w base v l) (hq : ∀ W, Q W → P W) : LOwQ Q w base v l := by
  obtain ⟨rows, h1, h2, h3, h4⟩ := h
  exact ⟨rows, h1, h2, fun j x xs hj hx W hW => h3 j x xs hj hx W (hq W hW), h4⟩
/-- A row of letters of the call's own, their flags in rows of texts. -/
def LNew (w : World) (base : Nat) (v : Value) (l : List Lt) : Prop := LOwQ (TxStay w) w base v l
theorem LNew.nil (w : World) (base : Nat) : LNew w base (.slice none 0 0) [] := LOwQ.nil _ _ _
theorem LNew.oth {e : TypeId} {w w' : World} {base : Nat} {v : Value} {l : List Lt} (h : LNew w base v l) (hk : Oth e w w') (h1 : 71 ≠ e) (h2 : 9 ≠ e) : LNew w' base v l := by
  obtain ⟨rows, r1, r2, r3, r4⟩ := h
  exact ⟨rows, own_oth r1 hk h1, r2, fun j x xs hj hx W hW => r3 j x xs hj hx W ((txs_oth hk h2).trans hW), r4⟩
theorem LNew.below {w w' : World} {base : Nat} {v : Value} {l : List Lt} (h : LNew w base v l) (hk : Below w.heap.size w w') : LNew w' base v l := h.oth (e := 108) (oth_below hk) (by decide) (by decide)
theorem LNew.form {w : World} {base : Nat} {v : Value} {l : List Lt} (h : LNew w base v l) : ∃ a c, v = .slice a l.length c := LOwQ.form h
theorem LNew.lts {w : World} {base : Nat} {v : Value} {l : List Lt} (h : LNew w base v l) : Lts w v l :=
  (LOwQ.ltq (Q := fun W => W = w) h fun W hW => by subst hW; exact ⟨TxStay.refl _, fun _ _ => rfl⟩).lts rfl
theorem LNew.lt {w : World} {base : Nat} {v : Value} {l : List Lt} (h : LNew w base v l) {q : Nat} (hq : v.ownBlock = some q) : base ≤ q ∧ q < w.heap.size := LOwQ.lt h hq
/-- One letter more. -/
theorem lnew_push {w : World} {base : Nat} {va : Option Addr} {ca : Nat} {L : List Lt} (h : LNew w base (.slice va L.length ca) L) (hL : L.length ≤ 1000) (x : Lt) (fa : Option Addr) (fc B : Nat) (hx : NRow w B (.slice fa x.flags.length fc) x.flags) (hbase : base ≤ w.heap.size) :
    ∃ g cap W, (Builtin.append_ #[64, 64] 64 #[.slice va L.length ca, .slice (some ⟨w.heap.size, 0, none⟩) 1 1]).run Tryz.prog (w.alloc (.cells #[.int .i64 x.uid, .slice fa x.flags.length fc, .int .i64 x.day, .string ⟨x.text.toArray⟩] 71)) = .ok (.slice (some ⟨g, 0, none⟩) (L.length + 1) cap) W ∧
      LNew W base (.slice (some ⟨g, 0, none⟩) (L.length + 1) cap) (L ++ [x]) ∧ Below base w W ∧ Oth 71 w W := by
  obtain ⟨W1, hW1⟩ : ∃ W, w.alloc (.cells #[.int .i64 x.uid, .slice fa x.flags.length fc, .int .i64 x.day, .string ⟨x.text.toArray⟩] 71) = W := ⟨_, rfl⟩
  have b1 : Below w.heap.size w W1 := by rw [← hW1]; exact (Below.refl _ _).alloc (Nat.le_refl _) _
  have e1 : W1.heap[w.heap.size]? = some (.cells #[.int .i64 x.uid, .slice fa x.flags.length fc, .int .i64 x.day, .string ⟨x.text.toArray⟩] 71 (0, 0)) := by rw [← hW1]; exact heap_alloc_new _ _
  rw [hW1]
  have h1 := h.below b1
  have hx1 : ∀ W, TxStay W1 W → LtRow W x [.int .i64 x.uid, .slice fa x.flags.length fc, .int .i64 x.day, .string ⟨x.text.toArray⟩] := fun W hW =>
    ⟨_, rfl, sl_of_nrow (nrow_fut (hx.below b1 (Nat.le_refl _)) hW)⟩
  obtain ⟨rows0, r0, _⟩ := id h1
  obtain ⟨g9, cap9, W9, hap, hown9, ⟨p1, p2, p3, p4, p5⟩, _⟩ := lowq_push h1 hL x _ hx1 rfl w.heap.size (fun j u hu => rd_cell e1 (by simpa using hu)) (by simp [Value.oneCell']) (Nat.le_trans hbase b1.size)
  have ho : Oth 71 W1 W9 := app_oth r0 p5
  refine ⟨g9, cap9, W9, hap, LOwQ.sub hown9 fun W hW => (txs_oth ho (by decide)).trans hW, (b1.mono hbase).trans ⟨p1, p2, p3, p4, fun q hq => p5 q (Nat.lt_of_lt_of_le hq (Nat.le_trans hbase b1.size)) fun e => by have := (h1.lt e).1; omega⟩, oth_trans (oth_below b1) ho⟩
theorem rowS_succ {α : Type} (one : Nm → α × Nm) (k : Nat) (s : Nm) : rowS one (k + 1) s = ((one s).1 :: (rowS one k (one s).2).1, (rowS one k (one s).2).2) := rfl
/-- What is read so far. -/
structure RwI (base rb : Nat) (w : World) (n : Nat) (s' : Nm) (wr : World) : Prop where
  rd : Rdr rb s' wr
  but : But base rb w wr
  env : RdE wr
  len : s'.length ≤ n
theorem RwI.step {base rb n : Nat} {w wr w' : World} {s s' : Nm} (h : RwI base rb w n s wr) (hB : base ≤ wr.heap.size) (hr : Rdr rb s' w') (hb : But wr.heap.size rb wr w') (hl : s'.length ≤ s.length) : RwI base rb w n s' w' :=
  ⟨hr, h.but.trans (hb.less hB), h.env.but h.rd hb, Nat.le_trans hl h.len⟩
theorem RwI.oth {e : TypeId} {base rb n : Nat} {w wr w' : World} {s : Nm} (h : RwI base rb w n s wr) (hk : Oth e wr w') (hb : Below base wr w') (hne : 108 ≠ e) (hE : RdE w') : RwI base rb w n s w' := by
  obtain ⟨R, h1, h2⟩ := h.rd
  exact ⟨⟨R, h1, oth_cells hk h2 hne⟩, h.but.trans (to_but hb), hE, h.len⟩
/-- What reading reads of the world lies below. -/
theorem RdE.low {base : Nat} {w w' : World} (h : RdE w) (hb : Below base w w') (hg : 0 < base ∧ 6 < base ∧ 7 < base) : RdE w' := by
  obtain ⟨⟨m, h1⟩, ⟨a, b, h2⟩, c, d, h3⟩ := h
  exact ⟨⟨m, (hb.cell (p := ⟨_, _, none⟩) hg.1).trans h1⟩, ⟨a, b, (hb.cell (p := ⟨_, _, none⟩) hg.2.1).trans h2⟩, c, d, (hb.cell (p := ⟨_, _, none⟩) hg.2.2).trans h3⟩
theorem RdE.lt {w : World} (h : RdE w) : 0 < w.heap.size ∧ 6 < w.heap.size ∧ 7 < w.heap.size := by
  obtain ⟨⟨m, h1⟩, ⟨a, b, h2⟩, c, d, h3⟩ := h
  exact ⟨World.block_lt_of_cell? _ _ h1, World.block_lt_of_cell? _ _ h2, World.block_lt_of_cell? _ _ h3⟩
theorem enc_of {t : ByteArray} {l : Nm} (h : t.data.toList = l) : encStr l = .string t := by
  obtain ⟨⟨x⟩⟩ := t
  have : x = l := h
  subst this
  rfl
set_option maxHeartbeats 4000000 in
set_option maxRecDepth 100000 in
theorem rtexts_is (rb most : Nat) (s : Nm) (w : World) (h : Rdr rb s w) (hE : RdE w) (hs : s.length ≤ 1000000000) (hm : most ≤ 1000) :
    Calls Tryz.prog 106 #[.pointer (some ⟨rb, 0, none⟩), .int .i64 (most : Int), .func (.func 107) #[.pointer (some ⟨rb, 0, none⟩)] #[]] w fun e w' => (∃ v, e = .returned v ∧ NRow w' w.heap.size v (readRowS most textS s).1) ∧ Rdr rb (readRowS most textS s).2 w' ∧ But w.heap.size rb w w' := by
  have cN := rnumber_is rb s w h hE hs
  have hge := until_ge 59 s
  have hle := until_len 59 s
  have hT : readRowS most textS s = rowS textS (min (untilS 59 s).1.toNat most) (untilS 59 s).2 := rfl
  rw [hT]
  obtain ⟨A, hA⟩ : ∃ a, (untilS 59 s).1 = a := ⟨_, rfl⟩
  obtain ⟨X, hX⟩ : ∃ a, (untilS 59 s).2 = a := ⟨_, rfl⟩
  rw [hA, hX] at cN ⊢
  rw [hA] at hge
  rw [hX] at hle
  obtain ⟨M, hM⟩ : ∃ m, min A.toNat most = m := ⟨_, rfl⟩
  have hMi : min A (most : Int) = (M : Int) := by omega
  have hM1 : M ≤ 1000 := by omega
  rw [hM]
  have HX : Hid (Rdr rb s w ∧ RdE w ∧ X.length ≤ 1000000000) := ⟨h, hE, by omega⟩
  clear h hE hA hX hT hge hle hM hs hm
  go_enter Tryz.func106, Tryz.ntmps106
  go_wp2_with fail
  refine cN.mono ?_
  rintro e w1 ⟨rfl, h1, h2⟩
  have H1 : Hid (RwI w.heap.size rb w 1000000000 X w1) := ⟨h1, h2, HX.out.2.1.but HX.out.1 h2, HX.out.2.2⟩
  clear cN h1 h2
  go_wp2_with fail
  go_loopw [7, 12] (fun ov iv wr => ∃ (k LL : Nat), iv = .int .i64 (k : Int) ∧ k ≤ M ∧ LL = k ∧ ∃ (L : List Nm) (s' : Nm), wr.ownsRow w.heap.size 9 1 ov LL (L.map encStr) ∧ Hid (L.length = LL ∧ RwI w.heap.size rb w 1000000000 s' wr ∧ rowS textS M X = (L ++ (rowS textS (M - k) s').1, (rowS textS (M - k) s').2))) (fun _ iv _ => M - (intOf iv).toNat)
  case atStart => exact ⟨0, 0, rfl, Nat.zero_le _, rfl, [], X, World.ownsRow_nil _ _ _ _, rfl, H1.out, by simp⟩
  case round =>
    obtain ⟨k, LL, rfl, hk, hLL, L, s', hrow, HI⟩ := hrel
    obtain ⟨oa, oc, rfl⟩ := row_form hrow
    by_cases hlt : k < M
    · have d1 : decide ((k : Int) < (M : Int)) = true := decide_eq_true (by omega)
      have hsz := HI.out.2.1.but.size
      have cT := rtext_call rb s' wr HI.out.2.1.rd HI.out.2.1.env HI.out.2.1.len
      have HS : Hid (k < M ∧ LL = k) := ⟨hlt, hLL⟩
      clear hLL
      have hl1 : LL ≤ 1000 := by have := HS.out; omega
      go_wp2_with fail
      refine cT.mono ?_
      rintro e w2 ⟨⟨t, rfl, ht⟩, h3, h4⟩
      have hrow2 := own_oth hrow (rd_oth HI.out.2.1.rd h4) (by decide)
      have H2 : Hid (RwI w.heap.size rb w 1000000000 (textS s').2 w2 ∧ t.data.toList = (textS s').1) := ⟨HI.out.2.1.step hsz h3 h4 (atext_len s').1, ht⟩
      have hsz2 : w.heap.size ≤ w2.heap.size := H2.out.1.but.size
      clear cT h3 h4 hrow ht hsz
      go_wp2_with (at_builtin; go_must (refine wpList_push rfl (.tmp 14) (.tmp 17) 22 rfl _ w.heap.size 9 (.string ⟨#[]⟩) 16 Tryz.underlying22 Tryz.infoTr rfl _ _ _ (by rfl) hrow2 [.string t] _ (by rfl) (by simp) (by simp [Value.oneCell']) (by simp) (by rfl) (by decide) (by simp; omega) hsz2 ?_); intro g4 cap4 w4 hown4 hg4 hlt4)
      have HF : Hid ((L ++ [(textS s').1]).length = LL + 1 ∧ RwI w.heap.size rb w 1000000000 (textS s').2 w4 ∧ rowS textS M X = ((L ++ [(textS s').1]) ++ (rowS textS (M - (k + 1)) (textS s').2).1, (rowS textS (M - (k + 1)) (textS s').2).2)) := by
        have hb4 : Below w.heap.size w2 w4 := (Below.refl _ _).grown hg4 hsz2 (fun j e => (hrow2.lt j e).1)
        have ho : Oth 9 w2 w4 := app_oth hrow2 fun q hq hne => hg4.block q hq fun e => hne e.symm
        refine ⟨by rw [List.length_append, HI.out.1]; rfl, H2.out.1.oth ho hb4 (by decide) (H2.out.1.env.low hb4 HX.out.2.1.lt), ?_⟩
        rw [HI.out.2.2, show M - k = (M - (k + 1)) + 1 by have := HS.out; omega, rowS_succ]
        simp
      have hown5 : w4.ownsRow w.heap.size 9 1 (.slice (some ⟨g4, 0, none⟩) (LL + 1) cap4) (LL + 1) ((L ++ [(textS s').1]).map encStr) := by
        rw [List.map_append, List.map_singleton, enc_of H2.out.2]
        exact hown4
      have hkk : LL + 1 = k + 1 := by have := HS.out; omega
      clear hown4 hg4 hrow2 HI H2
      go_roundw
      case rel => exact ⟨k + 1, LL + 1, by go_num, by have := HS.out; omega, hkk, _, _, hown5, HF⟩
      case measure => have := HS.out; simp [intOf]; omega
    · have d1 : decide ((k : Int) < (M : Int)) = false := decide_eq_false (by omega)
      obtain rfl : k = M := by omega
      have HF : Hid (NRow wr w.heap.size (.slice oa LL oc) (rowS textS k X).1 ∧ Rdr rb (rowS textS k X).2 wr ∧ But w.heap.size rb w wr) := by
        have he := HI.out.2.2
        rw [Nat.sub_self] at he
        rw [he]
        refine ⟨?_, HI.out.2.1.rd, HI.out.2.1.but⟩
        show wr.ownsRow _ _ _ _ (L ++ []).length ((L ++ []).map encStr)
        rw [List.append_nil, HI.out.1]
        exact hrow
      clear HI hrow
      go_wp2_with fail
      go_ret
      exact ⟨⟨_, rfl, HF.out.1⟩, HF.out.2⟩
end Go.Proofs.YtdmplfflmdanlaaGreatDoor
namespace Go.Proofs.YtdmplfflmdanlaaGreatDoor
open Go.RowKit Go.Proofs.Aid

theorem Tryz.nilNms (w : World) : (binOp BinOp.eql 22 (.slice none 0 0) (.slice none 0 0)).run Tryz.prog w = .ok (.bool true) w := by kernel_rfl
theorem Tryz.someNms (b : Addr) (n c : Nat) (w : World) : (binOp BinOp.eql 22 (.slice (some b) n c) (.slice none 0 0)).run Tryz.prog w = .ok (.bool false) w := by kernel_rfl
theorem Tryz.noneNms (x b : Addr) (c : Nat) (w : World) : (Builtin.append_ #[22, 22] 22 #[.slice (some x) 0 0, .slice (some b) 0 c]).run Tryz.prog w = .ok (.slice (some x) 0 0) w := by kernel_rfl
set_option maxHeartbeats 1000000 in
set_option maxRecDepth 100000 in
theorem nclone_nil (w : World) : Calls Tryz.prog 71 #[.slice none 0 0] w fun e w' => e = .returned (.slice none 0 0) ∧ w' = w := by
  have h := Tryz.nilNms w
  go_enter Tryz.func71, Tryz.ntmps71
  go_wp2_with fail
  go_ret
  exact ⟨rfl, rfl⟩
set_option maxHeartbeats 1000000 in
set_option maxRecDepth 100000 in
theorem nclone_run (b : Addr) (n c : Nat) (w : World) (v' : Value) (w' : World) (hr : (Builtin.append_ #[22, 22] 22 #[.slice (some ⟨w.heap.size, 0, none⟩) 0 0, .slice (some b) n c]).run Tryz.prog (w.alloc (.cells #[] 9)) = .ok v' w') :
    Calls Tryz.prog 71 #[.slice (some b) n c] w fun e w2 => e = .returned v' ∧ w2 = w' := by
  have h := Tryz.someNms b n c w
  have HR : Hid ((Builtin.append_ #[22, 22] 22 #[.slice (some ⟨w.heap.size, 0, none⟩) 0 0, .slice (some b) n c]).run Tryz.prog (w.alloc (.cells #[] 9)) = .ok v' w') := hr
  clear hr
  go_enter Tryz.func71, Tryz.ntmps71
  go_wp2_with (at_builtin; go_must (refine Go.Lib.wpList_append_run _ rfl (.tmp 5) (.tmp 6) 22 22 rfl _ _ rfl rfl v' w' HR.out ?_))
  go_ret
  exact ⟨rfl, rfl⟩
/-- A row of texts alone, of the call's own. -/
def WOwn (w : World) (base : Nat) (v : Value) (W : List Nm) : Prop := WRow w v W ∧ NRow w base v W
theorem clone_wown (fv : Value) (F : List Nm) (w : World) (h : Sl w fv F) (hF : F.length ≤ 1000) :
    Calls Tryz.prog 71 #[fv] w fun e w' => (∃ v', e = .returned v' ∧ WOwn w' w.heap.size v' F) ∧ Below w.heap.size w w' := by
  obtain ⟨a, c, rfl, ⟨h0, hc⟩, h2⟩ := h
  cases a with
  | none =>
    have hn : F = [] := by
      rcases h2 with h2 | ⟨b, o, h2, _⟩
      · exact h2
      · cases h2
    subst hn
    obtain rfl := h0 rfl
    refine (nclone_nil w).mono ?_
    rintro e w' ⟨rfl, rfl⟩
    exact ⟨⟨_, rfl, Or.inl ⟨rfl, rfl⟩, World.ownsRow_nil _ _ _ _⟩, Below.refl _ _⟩
  | some ad =>
    have b1 : Below w.heap.size w (w.alloc (.cells #[] 9)) := (Below.refl _ _).alloc (Nat.le_refl _) _
    have z1 : (w.alloc (.cells #[] 9)).heap.size = w.heap.size + 1 := by simp
    have e1 := heap_alloc_new w (.cells #[] 9)
    have hnil : (w.alloc (.cells #[] 9)).ownsRow w.heap.size 9 1 (.slice (some ⟨w.heap.size, 0, none⟩) 0 0) 0 [] := ⟨rfl, Or.inr ⟨w.heap.size, 0, #[], rfl, Nat.le_refl _, e1, Nat.le_refl _, by unfold maxLen; omega, rfl, rfl⟩⟩
    by_cases hl0 : F = []
    · subst hl0
      refine (nclone_run ad 0 c w _ _ (Tryz.noneNms ⟨w.heap.size, 0, none⟩ ad c _)).mono ?_
      rintro e w' ⟨rfl, rfl⟩
      exact ⟨⟨_, rfl, Or.inr ⟨_, 0, rfl, ⟨#[], e1, rfl, fun j u hu => (by simp at hu)⟩, fun j x hx => (by simp at hx), Nat.le_refl _, by unfold maxLen; omega⟩, hnil⟩, b1⟩
    · obtain ⟨b, o, rfl, hat⟩ : ∃ b o, ad = ⟨b, o, none⟩ ∧ ∀ (j : Nat) t, F[j]? = some t → w.cell? ⟨b, o + j, none⟩ = some (encStr t) := by
        rcases h2 with h2 | ⟨b, o, h2, h3⟩
        · exact absurd h2 hl0
        · exact ⟨b, o, Option.some.inj h2, h3⟩
      have hpos := List.length_pos_iff.2 hl0
      obtain ⟨j0, hj, hz, hs, hby⟩ := info_parts Tryz.infoNm
      obtain ⟨g, cap, w', hrun, hown, hg, hor, hlt, hall⟩ := run_append_clean (P := Tryz.prog) (w.alloc (.cells #[] 9)) (fun u => ∃ s : ByteArray, u = .string s) 22 22 w.heap.size 9 j0 (.string ⟨#[]⟩) 1 16 Tryz.underlying22 hj hz hs hby rfl (by decide) (.slice (some ⟨w.heap.size, 0, none⟩) 0 0) 0 [] hnil (fun g hg => by
        obtain rfl : w.heap.size = g := by simpa [Value.ownBlock] using hg
        exact allC_of e1 (fun u hu => by simp at hu)) (fun u hu => by
        have : u = .string ⟨#[]⟩ := by simpa [Value.cells] using hu
        exact ⟨_, this⟩) ⟨b, o, none⟩ F.length c (F.map encStr) (by simp) (fun k u hk => by
        rw [Addr.add_lit]
        rw [List.getElem?_map] at hk
        obtain ⟨t, ht, rfl⟩ := Option.map_eq_some_iff.1 hk
        have h9 := hat k t ht
        exact (b1.cell (p := ⟨b, _, none⟩) (World.block_lt_of_cell? _ _ h9)).trans h9) encs_one encs_txt hpos (by unfold maxLen; omega) (by omega) (by omega)
      refine (nclone_run ⟨b, o, none⟩ F.length c w _ w' hrun).mono ?_
      rintro e w2 ⟨rfl, rfl⟩
      rw [Nat.zero_add, List.nil_append] at hown
      have hb2 : Below w.heap.size (w.alloc (.cells #[] 9)) w2 := ⟨hg.os, hg.tape, hg.output, hg.size, fun k hk => hg.block k (by omega) (fun e => by
        have : w.heap.size = k := by simpa [Value.ownBlock] using e.symm
        omega)⟩
      rw [Nat.zero_add]
      refine ⟨⟨_, rfl, Or.inr ?_, hown⟩, b1.trans hb2⟩
      rcases id hown.2 with ⟨q1, _⟩ | ⟨g', cap', cur, q1, q2, q3, q4, q5, q6, q7⟩
      · cases q1
      · injection q1 with q1 _ qc
        injection q1 with q1
        injection q1 with q1 _ _
        subst q1 qc
        refine ⟨g, cap, rfl, ⟨cur, q3, by omega, fun j u hu => hall j u (by rw [rd_cell q3 hu])⟩, fun j x hx => ?_, q4, q5⟩
        have h3 : (F.map encStr)[j]? = some (encStr x) := by rw [List.getElem?_map, hx]; rfl
        rw [← q7, List.getElem?_take] at h3
        split at h3
        · exact rd_cell q3 (by rw [← Array.getElem?_toList]; exact h3)
        · cases h3
end Go.Proofs.YtdmplfflmdanlaaGreatDoor
