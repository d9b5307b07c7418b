/-
  What SearchNumbers' function holds does: words are asked of a letter.
  What words of numbers look for. Of no program.
-/
import Derived.Test.YtligkpcoajnjmaaGreatDoorRNu36
import Derived.Test.YtligkpcoajnjmaaGreatDoorRNu02
namespace Go.Proofs
theorem Tryz.infoArg : (Tryz.prog.info? 41).map (fun i => (i.zero, i.size, i.bytes)) = some (some (.agg #[.int .i64 0, .string ⟨#[]⟩, .slice none 0 0]), 3, 48) := by kernel_rfl
end Go.Proofs
namespace Go.Proofs.YtligkpcoajnjmaaGreatDoorR
open Go.RowKit Go.Proofs.Aid Go.Proofs.Sq Go.Proofs.Hd

def wordQ (y : ByteArray) : List Value := [.int .i64 1, .string y, .slice none 0 0]
def wordsA (ws : List ByteArray) : List Sr.Ar := ws.map fun y => .mk 1 y.data.toList []
def askW (m : Sr.Lt) (ws : List ByteArray) : Bool := match Sr.parseK (wordsA ws) with
  | .ok k _ _ => Sr.holdsK m k
  | .bad _ => false
theorem flat_at : ∀ (ws : List ByteArray) (j i : Nat) (y : ByteArray), ws[j]? = some y → i < 3 → (ws.flatMap wordQ)[j * 3 + i]? = (wordQ y)[i]?
  | [], _, _, _, h, _ => by simp at h
  | z :: ws, 0, i, y, h, hi => by
    obtain rfl : z = y := by simpa using h
    rw [List.flatMap_cons, Nat.zero_mul, Nat.zero_add, List.getElem?_append_left (by simpa [wordQ] using hi)]
  | z :: ws, j + 1, i, y, h, hi => by
    rw [List.flatMap_cons, List.getElem?_append_right (by simp [wordQ]; omega), show (j + 1) * 3 + i - (wordQ z).length = j * 3 + i by simp [wordQ]; omega]
    exact flat_at ws j i y (by simpa using h) hi
theorem ags_words {W : World} {base B : Nat} {v : Value} {ws : List ByteArray} (h : W.ownsRow base 41 3 v ws.length (ws.flatMap wordQ)) (hs : ∀ y ∈ ws, y.size ≤ B) : Ags W (fun q => base ≤ q ∧ q < W.heap.size) B (wordsA ws) v := by
  have nil : ∀ W Ok, Ags W Ok B [] (.slice none 0 0) := fun W Ok => Ags.mk [] none 0 (fun _ => ⟨#[]⟩) (fun _ => .nilIface) (by simp) (by omega) (fun j x hj => by simp at hj) (fun j x hj => by simp at hj) (Or.inl rfl)
  have hlen : (wordsA ws).length = ws.length := by simp [wordsA]
  have hat : ∀ (j : Nat) x, (wordsA ws)[j]? = some x → ∃ y, ws[j]? = some y ∧ x = .mk 1 y.data.toList [] := fun j x hj => by
    rw [wordsA, List.getElem?_map] at hj
    cases hy : ws[j]? with
    | none => rw [hy] at hj; simp at hj
    | some y => rw [hy] at hj; exact ⟨y, rfl, (Option.some.inj hj).symm⟩
  rcases h.2 with ⟨rfl, h0⟩ | ⟨g, cap, cur, rfl, hb, hg, hn, hm, _⟩
  · have : ws = [] := List.eq_nil_of_length_eq_zero h0
    subst this
    exact nil _ _
  · rw [← hlen]
    refine Ags.mk (wordsA ws) _ cap (fun j => ws.getD j ⟨#[]⟩) (fun _ => .slice none 0 0) (by rw [hlen]; exact hn) (by unfold maxLen at hm; omega) (fun j x hj => ?_) (fun j x hj => ?_) (Or.inr ⟨g, 0, rfl, ⟨hb, (Array.getElem?_eq_some_iff.1 hg).1⟩, fun j x hj => ?_⟩)
    · obtain ⟨y, hy, rfl⟩ := hat j x hj
      rw [List.getD_eq_getElem?_getD, hy]
      exact ⟨rfl, hs y (List.mem_of_getElem? hy)⟩
    · obtain ⟨y, hy, rfl⟩ := hat j x hj
      exact nil _ _
    · obtain ⟨y, hy, rfl⟩ := hat j x hj
      have hjl := (List.getElem?_eq_some_iff.1 hy).1
      have c0 := h.cellAt (j * 3) (by omega)
      have c1 := h.cellAt (j * 3 + 1) (by omega)
      have c2 := h.cellAt (j * 3 + 2) (by omega)
      rw [show j * 3 = j * 3 + 0 from rfl, flat_at ws j 0 y hy (by omega)] at c0
      rw [flat_at ws j 1 y hy (by omega)] at c1
      rw [flat_at ws j 2 y hy (by omega)] at c2
      rw [List.getD_eq_getElem?_getD, hy, Nat.zero_add]
      exact ⟨c0, c1, c2⟩
set_option maxHeartbeats 4000000 in
set_option maxRecDepth 100000 in
theorem ask_is (m : Sr.Lt) (Ls : Int → Prop) (ws : List ByteArray) (b lb p1 p2 p3 N B : Nat) (tb : ByteArray) (fa : Option Addr) (fn fc : Nat) (w : World) (htb : tb.data.toList = m.text) (hN : ws.length = N) (hN3 : N ≤ 1000) (hs : ∀ y ∈ ws, y.size ≤ B) (hB : B ≤ 1000000)
    (hw : ∀ (j : Nat) y, ws[j]? = some y → w.cell? ⟨b, j, none⟩ = some (.string y))
    (hl : w.heap[lb]? = some (.cells #[.int .i64 m.uid, .slice fa fn fc, .int .i64 m.day, .string tb] 25 (0, 0)))
    (h1 : w.heap[p1]? = some (.cells #[.int .i64 m.which] 3 (0, 0))) (h2 : w.heap[p2]? = some (.cells #[.int .i64 m.many] 3 (0, 0))) (h3 : w.heap[p3]? = some (.cells #[.int .i64 m.greatest] 3 (0, 0)))
    (hg : ∀ W, Below w.heap.size w W → SysAt W ∧ ErrType W ∧ NumAt W ∧ ∃ m, W.cell? ⟨1, 0, none⟩ = some (.int .i64 m))
    (hL : ∀ W Ok, Below w.heap.size w W → Leafs m [.int .i64 m.uid, .slice fa fn fc, .int .i64 m.day, .string tb, .int .i64 m.which, .int .i64 m.many, .int .i64 m.greatest] Ls Ok W)
    (hf : ∀ k l c, Sr.parseK (wordsA ws) = .ok k l c → Fit Ls 900 k) :
    Calls Tryz.prog 16 #[.slice (some ⟨b, 0, none⟩) N N, .pointer (some ⟨lb, 0, none⟩), .pointer (some ⟨p1, 0, none⟩), .pointer (some ⟨p2, 0, none⟩), .pointer (some ⟨p3, 0, none⟩)] w fun e w' => e = .returned (.bool (askW m ws)) ∧ Below w.heap.size w w' := by
  obtain ⟨A, hA⟩ : ∃ A, askW m ws = A := ⟨_, rfl⟩
  rw [hA]
  have HW : Hid (∀ W, Below w.heap.size w W → ∀ (j : Nat) y, ws[j]? = some y → W.cell? ⟨b, j, none⟩ = some (.string y)) := fun W hW j y hj => (hW.cell (World.block_lt_of_cell? _ _ (hw j y hj))).trans (hw j y hj)
  have HC : Hid (∀ W, Below w.heap.size w W → W.heap[lb]? = some (.cells #[.int .i64 m.uid, .slice fa fn fc, .int .i64 m.day, .string tb] 25 (0, 0)) ∧ W.heap[p1]? = some (.cells #[.int .i64 m.which] 3 (0, 0)) ∧ W.heap[p2]? = some (.cells #[.int .i64 m.many] 3 (0, 0)) ∧ W.heap[p3]? = some (.cells #[.int .i64 m.greatest] 3 (0, 0))) := fun W hW =>
    ⟨(hW.block _ (Array.getElem?_eq_some_iff.1 hl).1).trans hl, (hW.block _ (Array.getElem?_eq_some_iff.1 h1).1).trans h1, (hW.block _ (Array.getElem?_eq_some_iff.1 h2).1).trans h2, (hW.block _ (Array.getElem?_eq_some_iff.1 h3).1).trans h3⟩
  have HG : Hid (∀ W, Below w.heap.size w W → SysAt W ∧ ErrType W ∧ NumAt W ∧ ∃ m, W.cell? ⟨1, 0, none⟩ = some (.int .i64 m)) := hg
  have HL : Hid (∀ W Ok, Below w.heap.size w W → Leafs m [.int .i64 m.uid, .slice fa fn fc, .int .i64 m.day, .string tb, .int .i64 m.which, .int .i64 m.many, .int .i64 m.greatest] Ls Ok W) := hL
  have HN : Hid (ws.length = N) := hN
  have HA : Hid (askW m ws = A) := hA
  have HT : Hid (tb.data.toList = m.text) := htb
  clear hw hl h1 h2 h3 hg hL hN hA htb
  obtain ⟨j0, hj, hjz0, hjz1, hjz2⟩ := info_parts Tryz.infoArg
  go_enter Tryz.func16, Tryz.ntmps16
  go_wp2_with fail
  go_loopw [7, 14] (fun rv i wr => ∃ (k : Nat), i = .int .i64 (k : Int) ∧ k ≤ N ∧ wr.ownsRow w.heap.size 41 3 rv k ((ws.take k).flatMap wordQ) ∧ Below w.heap.size w wr) (fun _ i _ => N - (intOf i).toNat)
  case atStart => exact ⟨0, rfl, by omega, World.ownsRow_nil _ _ _ _, Below.refl _ _⟩
  case round =>
    obtain ⟨k, rfl, hkN, hown, hbW⟩ := hrel
    by_cases hlt : k < N
    · have hkw : k < ws.length := by rw [HN.out]; exact hlt
      obtain ⟨y, hy⟩ : ∃ y, ws[k] = y := ⟨_, rfl⟩
      have hyk : ws[k]? = some y := by rw [List.getElem?_eq_getElem hkw, hy]
      have c1 := HW.out wr hbW k y hyk
      have HY : Hid ((ws.take k).flatMap wordQ ++ [.int .i64 1, .string y, .slice none 0 0] = (ws.take (k + 1)).flatMap wordQ) := by
        show _ = _
        rw [List.take_add_one, hyk, List.flatMap_append]
        simp [wordQ]
      have hnews := World.news_of_block (heap_alloc_new wr (.cells #[.int .i64 1, .string y, .slice none 0 0] 41))
      have hbs := hbW.size
      clear hy hyk
      go_wp2_with (at_builtin; go_must (refine wpList_append_lies _ rfl (.tmp 18) (.tmp 21) 22 rfl w.heap.size 41 j0 (.agg #[.int .i64 0, .string ⟨#[]⟩, .slice none 0 0]) 3 48 Tryz.underlying22 hj hjz0 hjz1 hjz2 rfl (by decide) _ _ _ (by rfl) (hown.alloc _) ⟨wr.heap.size, 0, none⟩ 1 1 [.int .i64 1, .string y, .slice none 0 0] (by rfl) rfl hnews (by simp [Value.oneCell']) (by decide) (by unfold maxLen; omega) (by omega) (by simp; omega) _ rfl ?_); intro g6 cap6 w6 hown6 hg6 hor6 hlt6)
      have hb6 : Below w.heap.size w w6 := (hbW.alloc hbs _).grown hg6 (by simp; omega) (fun j e => (hown.lt j e).1)
      go_roundw
      case rel => exact ⟨k + 1, by go_num, by omega, by rw [← HY.out]; exact hown6, hb6⟩
      case measure => simp [intOf]; omega
    · obtain rfl : k = N := by omega
      rw [List.take_of_length_le (by rw [HN.out]; exact Nat.le_refl _), ← HN.out] at hown
      have hags := ags_words hown hs
      obtain ⟨va, vc, rfl⟩ := row_form hown
      have cP := sparse_is B (wordsA ws) _ _ wr hB hags (fun q hq => hq.2) (fun W hW => HG.out W (hbW.trans (hW.mono hbW.size)))
      obtain ⟨T, hT⟩ : ∃ T, Sr.parseK (wordsA ws) = T := ⟨_, rfl⟩
      have hA2 := HA.out
      unfold askW at hA2
      rw [hT] at cP hf hA2
      clear hown hags hT HG HA
      go_wp2_with fail
      refine cP.mono ?_
      intro e w2 h2
      clear cP
      cases T with
      | bad n =>
        obtain ⟨rfl, hb2⟩ := h2
        have HB2 : Hid (Below w.heap.size w w2) := hbW.trans (hb2.mono hbW.size)
        subst hA2
        clear hb2 hf
        go_wp2_with fail
        go_ret
        exact ⟨rfl, HB2.out.alloc HB2.out.size _⟩
      | ok q l c =>
        obtain ⟨ys, rfl, hk2, hb2⟩ := h2
        have hb02 := hbW.trans (hb2.mono hbW.size)
        obtain ⟨x0, x3, x1, x2, xa, xk, xc, ya, yk, yc, rfl⟩ := kx_cells hk2
        rw [show ([.int .i64 x0, .string x1, .string x2, .int .i64 x3, .slice xa xk xc, .slice ya yk yc] : List Value).toArray = #[.int .i64 x0, .string x1, .string x2, .int .i64 x3, .slice xa xk xc, .slice ya yk yc] from rfl]
        have hb23 : Below w2.heap.size w2 (w2.alloc (.cells #[.int .i64 x0, .string x1, .string x2, .int .i64 x3, .slice xa xk xc, .slice ya yk yc] 33)) := (Below.refl _ _).alloc (Nat.le_refl _) _
        have hb03 := hb02.trans (hb23.mono hb02.size)
        obtain ⟨e0, e1, e2, e3⟩ := HC.out _ hb03
        have cY := holds_is m Ls _ q _ tb fa fn fc _ HT.out (hf q l c rfl) (hk2.under hb23) (HL.out _ _ hb03)
        rw [show Sr.holdsK m q = A from hA2, show ([.int .i64 x0, .string x1, .string x2, .int .i64 x3, .slice xa xk xc, .slice ya yk yc] : List Value).toArray = #[.int .i64 x0, .string x1, .string x2, .int .i64 x3, .slice xa xk xc, .slice ya yk yc] from rfl] at cY
        have r0 := rd_cell (j := 0) e0 rfl
        have r1 := rd_cell (j := 1) e0 rfl
        have r2 := rd_cell (j := 2) e0 rfl
        have r3 := rd_cell (j := 3) e0 rfl
        have s1 := rd_cell (j := 0) e1 rfl
        have s2 := rd_cell (j := 0) e2 rfl
        have s3 := rd_cell (j := 0) e3 rfl
        have HB3 : Hid (Below w.heap.size w (w2.alloc (.cells #[.int .i64 x0, .string x1, .string x2, .int .i64 x3, .slice xa xk xc, .slice ya yk yc] 33))) := hb03
        clear hb2 hk2 hb02 hb23 hb03 e0 e1 e2 e3 hf hA2
        go_wp2_with fail
        refine cY.mono ?_
        rintro e w4 ⟨rfl, hb4⟩
        have HB4 : Hid (Below w.heap.size w w4) := HB3.out.trans (hb4.mono HB3.out.size)
        clear cY hb4
        go_wp2_with fail
        go_ret
        exact ⟨rfl, HB4.out⟩
end Go.Proofs.YtligkpcoajnjmaaGreatDoorR
namespace Go.Proofs.Sr
open Go.Proofs.Sq

/-- A byte that begins no word. -/
def Plain (c : UInt8) : Prop := c = 42 ∨ (48 ≤ c.toNat ∧ c.toNat ≤ 57)
theorem plain_gr {c : UInt8} (h : Plain c) : Hd.gr c = c ∧ c.toNat < 65 := by
  have : ∀ n : Fin 256, (UInt8.ofNat n.val = 42 ∨ (48 ≤ (UInt8.ofNat n.val).toNat ∧ (UInt8.ofNat n.val).toNat ≤ 57)) → Hd.gr (UInt8.ofNat n.val) = UInt8.ofNat n.val ∧ (UInt8.ofNat n.val).toNat < 65 := by decide +kernel
  have := this ⟨c.toNat, c.toNat_lt⟩
  simp only [UInt8.ofNat_toNat] at this
  exact this h
theorem plain_ne {c : UInt8} {r w : Tx} {x : UInt8} {y : Tx} (h : Plain c) (hw : w = x :: y) (hx : 65 ≤ x.toNat) : Hd.great (c :: r) ≠ w := by
  intro e
  rw [hw] at e
  have h1 := plain_gr h
  have : Hd.gr c = x := by
    have := List.cons.inj e
    exact this.1
  rw [h1.1] at this
  rw [this] at h1
  omega
theorem plain_in {c : UInt8} {r : Tx} {l : List Tx} (h : Plain c) (hl : ∀ w ∈ l, ∃ x y, w = x :: y ∧ 65 ≤ x.toNat) : l.contains (Hd.great (c :: r)) = false := by
  rw [Bool.eq_false_iff]
  intro e
  obtain ⟨x, y, hw, hx⟩ := hl _ (List.contains_iff_mem.1 e)
  exact plain_ne h hw hx rfl
/-- What begins with such a byte is a set. -/
theorem wordK_set {g : List Ar → Nat → Rs Ky} {c : UInt8} {r : Tx} {l : List Ar} {n : Nat} (h : Plain c) : wordK g (c :: r) l n = (setF (c :: r) l n).map fun r => .mk 12 [] [] 0 r [] := by
  unfold wordK
  rw [if_neg (plain_ne (w := wAll) h rfl (by decide)), plain_in h (by simp [wSys]), plain_in h (by simp [wUn, wSys]), if_neg (plain_ne (w := wKeyword) h rfl (by decide)), if_neg (plain_ne (w := 85 :: 78 :: wKeyword) h rfl (by decide)), plain_in h (by simp [wFields]), if_neg (plain_ne (w := wHeader) h rfl (by decide)), if_neg (plain_ne (w := wBody) h rfl (by decide)), if_neg (plain_ne (w := wText) h rfl (by decide)), plain_in h (by simp [wMeas]), if_neg (plain_ne (w := wUid) h rfl (by decide)), if_neg (plain_ne (w := wNot) h rfl (by decide)), if_neg (plain_ne (w := wOr) h rfl (by decide))]
  simp
theorem keys_one {g : List Ar → Nat → Rs Ky} {l : List Ar} {n c : Nat} {k : Ky} (h : g l n = .ok k [] c) : keysF g l n = .ok k [] c := by
  unfold keysF
  rw [h]
  rfl
theorem keys_two {g : List Ar → Nat → Rs Ky} {l : List Ar} {a : Ar} {r : List Ar} {n c c2 : Nat} {k k2 : Ky} (h : g l n = .ok k (a :: r) c) (h2 : g (a :: r) c = .ok k2 [] c2) : keysF g l n = .ok (.mk 15 [] [] 0 [] [k, k2]) [] c2 := by
  unfold keysF
  rw [h]
  show ((moreF g 61 [k] (a :: r) c).map joinK) = _
  rw [moreF, h2]
  rfl
theorem key_w (f : Nat) (t : Tx) (l : List Ar) (n : Nat) (hn : n + 1 ≤ 60) : keyF (f + 1) (.mk 1 t [] :: l) n = wordK (keyF f) t l (n + 1) := by
  rw [keyF, if_neg (by omega)]
  rfl
theorem star_first {n : Int} (h0 : 0 ≤ n) : ∃ c r, star n = c :: r ∧ Plain c := by
  have hm : ∀ c ∈ star n, Plain c := by
    intro c hc
    unfold star at hc
    split at hc
    · exact Or.inl (List.mem_singleton.1 hc)
    · rw [Lib.itoa, if_neg (by omega)] at hc
      exact Or.inr (decDigits_mem _ c hc)
  cases h : star n with
  | nil =>
    unfold star at h
    split at h
    · cases h
    · rw [Lib.itoa, if_neg (by omega)] at h
      exact absurd h (decDigits_ne _)
  | cons c r => exact ⟨c, r, rfl, hm c (by rw [h]; exact List.mem_cons_self)⟩
theorem wrote_first {l : List (Int × Int)} (h : rightR l = true) : ∃ c r, wrote l = c :: r ∧ Plain c := by
  unfold rightR at h
  simp only [Bool.and_eq_true, decide_eq_true_eq, List.all_eq_true] at h
  obtain ⟨⟨h1, _⟩, h2⟩ := h
  cases l with
  | nil => simp at h1
  | cons x xs =>
    obtain ⟨c, r, hs, hp⟩ := star_first (h2 x List.mem_cons_self).1.1
    rw [wrote, wroteFrom_eq, wroteR, hs]
    exact ⟨c, _, rfl, hp⟩
theorem setI_back {l : List (Int × Int)} (h : rightR l = true) : setI (l.map natR) = l := by
  unfold rightR at h
  simp only [Bool.and_eq_true, decide_eq_true_eq, List.all_eq_true] at h
  unfold setI
  rw [List.map_map]
  have : ∀ x ∈ l, ((fun x : Nat × Nat => ((x.1 : Int), (x.2 : Int))) ∘ natR) x = x := fun x hx => by
    have := h.2 x hx
    simp only [Function.comp, natR]
    rw [Int.toNat_of_nonneg this.1.1, Int.toNat_of_nonneg this.2.1]
  rw [List.map_congr_left this, List.map_id']
def setKy (code : Int) (l : List (Int × Int)) : Ky := .mk code [] [] 0 (l.map natR) []
theorem key_set {l : List (Int × Int)} (h : rightR l = true) (f : Nat) (r : List Ar) (n : Nat) (hn : n + 1 ≤ 60) : keyF (f + 1) (.mk 1 (wrote l) [] :: r) n = .ok (setKy 12 l) r (n + 1) := by
  obtain ⟨c, q, hw, hp⟩ := wrote_first h
  rw [key_w _ _ _ _ hn, hw, wordK_set hp, ← hw, setF, read_wrote l h]
  rfl
theorem key_uid {l : List (Int × Int)} (h : rightR l = true) (t : Tx) (ht : Hd.great t = wUid) (f : Nat) (r : List Ar) (n : Nat) (hn : n + 1 ≤ 60) : keyF (f + 1) (.mk 1 t [] :: .mk 1 (wrote l) [] :: r) n = .ok (setKy 11 l) r (n + 1) := by
  rw [key_w _ _ _ _ hn, wordK, ht, if_neg (by decide), if_neg (by decide), if_neg (by decide), if_neg (by decide), if_neg (by decide), if_neg (by decide), if_neg (by decide), if_neg (by decide), if_neg (by decide), if_neg (by decide), if_pos rfl]
  show ((setF (wrote l) r (n + 1)).map fun r => (.mk 11 [] [] 0 r [] : Ky)) = _
  rw [setF, read_wrote l h]
  rfl
theorem parse_set {l : List (Int × Int)} (h : rightR l = true) : parseK [.mk 1 (wrote l) []] = .ok (setKy 12 l) [] 1 := keys_one (key_set h 6 [] 0 (by omega))
theorem parse_uid {l : List (Int × Int)} (h : rightR l = true) (t : Tx) (ht : Hd.great t = wUid) : parseK [.mk 1 t [], .mk 1 (wrote l) []] = .ok (setKy 11 l) [] 1 := keys_one (key_uid h t ht 6 [] 0 (by omega))
theorem parse_both {l : List (Int × Int)} (h : rightR l = true) (t : Tx) (ht : Hd.great t = wUid) : parseK [.mk 1 t [], .mk 1 (wrote l) [], .mk 1 (wrote l) []] = .ok (.mk 15 [] [] 0 [] [setKy 11 l, setKy 12 l]) [] 2 :=
  keys_two (key_uid h t ht 6 _ 0 (by omega)) (key_set h 6 [] 1 (by omega))
theorem holds_set {l : List (Int × Int)} (h : rightR l = true) (m : Lt) : holdsK m (setKy 12 l) = hasSet m.which m.many l ∧ holdsK m (setKy 11 l) = hasSet m.uid m.greatest l := by
  constructor <;> rw [setKy, holdsK] <;> simp [setI_back h]
theorem holds_both (m : Lt) (a b : Ky) : holdsK m (.mk 15 [] [] 0 [] [a, b]) = (holdsK m a && holdsK m b) := by rw [holdsK]; simp [allK]
theorem numN_itoa (n : Nat) (h : n ≤ 2147483647) : numN (Lib.itoa (n : Int)) = some n := by
  rw [show Lib.itoa (n : Int) = Lib.decDigits n by rw [Lib.itoa, if_neg (by omega), Int.toNat_natCast]]
  unfold numN
  by_cases h0 : n = 0
  · subst h0; rw [if_pos (by rw [Lib.decDigits]; rfl)]
  · have hh := decDigits_head n (by omega)
    rw [if_neg (fun e => hh (by rw [e]; rfl)), if_neg (by rintro (h2 | h2); exact decDigits_ne _ h2; exact hh h2), digits_back _ (by omega)]
def numKy (i n : Nat) : Ky := .mk (6 + (i : Int)) [] [] (n : Int) [] []
theorem parse_meas (n i : Nat) (h : n ≤ 2147483647) (t : Tx) (hi : i < 5) (ht : wMeas[i]? = some (Hd.great t)) : parseK [.mk 1 t [], .mk 1 (Lib.itoa (n : Int)) []] = .ok (numKy i n) [] 1 := by
  refine keys_one ?_
  rw [key_w 6 _ _ _ (by omega), wordK]
  obtain ⟨x, hx⟩ : ∃ x, Hd.great t = x := ⟨_, rfl⟩
  rw [hx] at ht ⊢
  have hm : wMeas.contains x = true := List.contains_iff_mem.2 (List.mem_of_getElem? ht)
  have hid : wMeas.idxOf x = i := by
    match i, hi, ht with
    | 0, _, ht => obtain rfl := Option.some.inj ht; decide
    | 1, _, ht => obtain rfl := Option.some.inj ht; decide
    | 2, _, ht => obtain rfl := Option.some.inj ht; decide
    | 3, _, ht => obtain rfl := Option.some.inj ht; decide
    | 4, _, ht => obtain rfl := Option.some.inj ht; decide
  have hall : ∀ x ∈ wMeas, ¬ x = wAll ∧ wSys.contains x = false ∧ wUn.contains x = false ∧ ¬ x = wKeyword ∧ ¬ x = 85 :: 78 :: wKeyword ∧ wFields.contains x = false ∧ ¬ x = wHeader ∧ ¬ x = wBody ∧ ¬ x = wText := by decide
  obtain ⟨h1, h2, h3, h4, h5, h6, h7, h8, h9⟩ := hall x (List.contains_iff_mem.1 hm)
  rw [if_neg h1, h2, h3, if_neg h4, if_neg h5, h6, if_neg h7, if_neg h8, if_neg h9, hm, hid]
  show ((numF (Lib.itoa (n : Int)) [] 1).map fun (n : Nat) => (.mk (6 + (i : Int)) [] [] (n : Int) [] [] : Ky)) = _
  rw [numF, numN_itoa n h]
  rfl
theorem holds_meas (m : Lt) (n : Nat) : holdsK m (numKy 0 n) = decide ((n : Int) < (m.text.length : Int)) ∧ holdsK m (numKy 1 n) = decide ((m.text.length : Int) < (n : Int)) ∧ holdsK m (numKy 2 n) = decide (m.day < (n : Int)) ∧ holdsK m (numKy 3 n) = decide (m.day = (n : Int)) ∧ holdsK m (numKy 4 n) = decide ((n : Int) ≤ m.day) := by
  refine ⟨?_, ?_, ?_, ?_, ?_⟩ <;> rw [numKy, holdsK] <;> simp
end Go.Proofs.Sr
